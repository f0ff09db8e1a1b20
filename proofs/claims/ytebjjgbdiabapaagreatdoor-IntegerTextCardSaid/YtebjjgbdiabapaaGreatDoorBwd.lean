/- slices.Backward over a list of numbers: what a range over it is handed. -/
import Derived.RangeFuncBox
import Derived.RangeFuncNested
import Derived.RangeFuncLeaves
import Derived.Shelf.Abstract
import Derived.WalkKit
import Derived.WalkLawsBesides
import Derived.WalkSpells
import Derived.OwnWalkIn
import Derived.TacticsInMore
import Derived.LoopNIn
import Derived.LoopIn
import Derived.Maps.AppendAt
import Derived.Lib.Hide
import Derived.Test.YtebjjgbdiabapaaGreatDoorShf
namespace Go.Proofs.YtebjjgbdiabapaaGreatDoor
open Go.RowKit Go.Shelf
attribute [local go_sem] Oper.semAt_some

/-- The places below i, from the highest one down. -/
def dn {N : Nat} : (i : Nat) → i ≤ N → List (Fin N)
  | 0, _ => []
  | i + 1, h => ⟨i, h⟩ :: dn i (Nat.le_of_succ_le h)
theorem dn_length {N : Nat} : ∀ (i : Nat) (h : i ≤ N), (dn i h).length = i
  | 0, _ => rfl
  | i + 1, h => by rw [dn, List.length_cons, dn_length i]
abbrev encB (zs : List Int) (x : Fin zs.length) : Array Value := #[.int .i64 (x.val : Int), .int .i64 (zs[x.val]?.getD 0)]
/-- The block of a slice's elements. -/
def blkOf (Bs : Nat) : Value → Nat
  | .slice (some a) _ _ => a.block
  | _ => Bs
/-- What the iterator reads stays: its box and the elements. -/
def Kq (Bs : Nat) (v : Value) (W W' : World) : Prop := ∀ k, (k = Bs ∨ k = blkOf Bs v) → k < W.heap.size → W'.heap[k]? = W.heap[k]?
theorem kq_t {Bs : Nat} {v : Value} {A B C : World} (h : Kq Bs v A B) (g : Kq Bs v B C) : Kq Bs v A C := fun k hk hlt => by
  have h1 := h k hk hlt
  rw [← h1]
  refine g k hk ?_
  obtain ⟨x, hx⟩ : ∃ x, A.heap[k]? = some x := ⟨_, Array.getElem?_eq_getElem hlt⟩
  rw [hx] at h1
  exact (Array.getElem?_eq_some_iff.1 h1).1
theorem kq_b {Bs : Nat} {v : Value} {w : World} (h1 : Bs < w.heap.size) (h2 : blkOf Bs v < w.heap.size) (W : World) (l : Nat) (o o' : Obj) (hl : w.heap.size ≤ l) (_ : W.heap[l]? = some o) (_ : o.isCells = false) (_ : o.isWalk = false) : Kq Bs v W (W.putObj l o') :=
  fun k hk _ => World.putObj_heap_other (by rcases hk with rfl | rfl <;> omega)
theorem Kq.refl (Bs : Nat) (v : Value) (W : World) : Kq Bs v W W := fun _ _ _ => rfl
theorem Kq.below {Bs : Nat} {v : Value} {W W' : World} (h : Below W.heap.size W W') : Kq Bs v W W' := fun k _ hlt => h.block k hlt
theorem Kq.setCell {Bs : Nat} {v : Value} (W : World) (a : Addr) (u : Value) (h1 : a.block ≠ Bs) (h2 : a.block ≠ blkOf Bs v) : Kq Bs v W (W.setCell a u) :=
  fun k hk _ => Below.heap_setCell W a u k (by rcases hk with rfl | rfl <;> (intro e; simp_all))
theorem Kq.cell {Bs : Nat} {v : Value} {W W' : World} (h : Kq Bs v W W') (a : Addr) (hk : a.block = Bs ∨ a.block = blkOf Bs v) (hlt : a.block < W.heap.size) : W'.cell? a = W.cell? a :=
  World.cell?_of_block (h a.block hk hlt)
theorem Kq.ls {Bs : Nat} {v : Value} {zs : List Int} {W W' : World} (h : Kq Bs v W W') (hl : Ls W v zs) : Ls W' v zs := by
  rcases hl with h1 | ⟨b, o, c, rfl, hc, hlt, hcell⟩
  · exact .inl h1
  · refine .inr ⟨b, o, c, rfl, hc, ?_, fun i hi => (h.cell ⟨b, o + i, none⟩ (.inr rfl) hlt).trans (hcell i hi)⟩
    have h1 := h b (.inr rfl) hlt
    obtain ⟨x, hx⟩ : ∃ x, W.heap[b]? = some x := ⟨_, Array.getElem?_eq_getElem hlt⟩
    rw [hx] at h1
    exact (Array.getElem?_eq_some_iff.1 h1).1

set_option maxRecDepth 100000 in
set_option maxHeartbeats 1000000 in
theorem backward1_in (F : Fence) (n : Nat) (hf : F.fn 83) (hro : F.round = none) (hn : 1 ≤ n) (l Bs : Nat) (v : Value) (zs : List Int) (hN : zs.length ≤ 1000000) (J Jx : List (Fin zs.length) → World → Prop)
    (hY : ∀ pre x W, J pre W → pre.length < zs.length → YieldAt F (n - 1) Tryz.prog l (encB zs x) W fun e W' =>
      (e = .returned (.bool true) ∧ J (pre ++ [x]) W' ∧ Kq Bs v W W') ∨ (e = .returned (.bool false) ∧ Jx (pre ++ [x]) W'))
    (W : World) (hBs : W.cell? ⟨Bs, 0, none⟩ = some v) (hl : Ls W v zs) (h0 : J [] W) :
    CallsIn F n Tryz.prog 83 #[.func (.yield l) #[] #[], .pointer (some ⟨Bs, 0, none⟩)] W fun e W' => (∃ u, e = .returned u) ∧
      ((∃ ys, ys = dn zs.length (Nat.le_refl _) ∧ J ys W') ∨ (∃ pre, pre <+: dn zs.length (Nat.le_refl _) ∧ Jx pre W')) := by
  have hBlt : Bs < W.heap.size := block_lt_of_cell hBs
  obtain ⟨al, c, rfl, hc⟩ := hl.shape
  obtain ⟨N, hNe⟩ : ∃ N, zs.length = N := ⟨_, rfl⟩
  have HN := Lib.hid hNe
  have hBs' := hBs
  have hl' := hl
  rw [hNe] at hBs' hN
  refine callsIn_of_wp Tryz.func83 rfl hf ?_ hro
  simp only [Tryz.ntmps83, List.size_toArray, List.length_cons, List.length_nil, Nat.reduceAdd, Nat.reduceSub, Array.replicate_succ, Array.replicate_zero, List.push_toArray, List.append_toArray, List.nil_append, List.cons_append]
  have HBS := Lib.hid hBs; have HL := Lib.hid hl; have HNe := Lib.hid hNe
  clear hBs hl hl' hNe
  gi_wp2
  gi_loopw [3] (fun r wr => ∃ (pre : List (Fin zs.length)) (i : Nat) (hi : i ≤ zs.length), r = .int .i64 ((i : Int) - 1) ∧ pre.length + i = N ∧ pre ++ dn i hi = dn zs.length (Nat.le_refl _) ∧ J pre wr ∧ Kq Bs (.slice al zs.length c) W wr)
    (fun r _ => (intOf r + 1).toNat)
  case atStart =>
    exact ⟨[], zs.length, Nat.le_refl _, by rw [HN.out], by simp [HN.out], rfl, h0, Kq.refl _ _ _⟩
  case round =>
    obtain ⟨pre, i, hi, rfl, hpi, hpre, hJ, hK⟩ := hrel
    have hbx : wr.cell? ⟨Bs, 0, none⟩ = some (.slice al N c) := by rw [hK.cell ⟨Bs, 0, none⟩ (.inl rfl) hBlt, HBS.out, HN.out]
    have HK := Lib.hid hK; have HP := Lib.hid hpre
    clear hBs' hK hpre
    cases i with
    | zero =>
      clear hpi
      gi_wp2
      go_end0
      exact ⟨⟨_, rfl⟩, .inl ⟨pre, by have := HP.out; simpa [dn] using this, hJ⟩⟩
    | succ i =>
      have hiN : i < N := by omega
      obtain ⟨fn, tmps, assign, body, hyy, hR⟩ := hY pre ⟨i, hi⟩ wr hJ (by have := HN.out; omega)
      dsimp only [encB] at hyy
      have hls := HK.out.ls HL.out
      rcases hls with ⟨h1, h2⟩ | ⟨b, o, c', h1, hc', hlt, hcell⟩
      · exact absurd h2 (by intro e; rw [e] at hi; simp at hi)
      · simp only [Value.slice.injEq] at h1
        obtain ⟨rfl, -, rfl⟩ := h1
        have hci := hcell i hi
        obtain ⟨z, hz⟩ : ∃ z, zs[i]?.getD 0 = z := ⟨_, rfl⟩
        rw [hz] at hci hyy
        have HC := Lib.hid hcell; have HY := Lib.hid hY; have HJ := Lib.hid hJ
        clear hcell hY hJ hz
        gi_wp2
        refine hR.mono ?_
        rintro e W3 (⟨rfl, hJ3, hk3⟩ | ⟨rfl, hJx3⟩)
        · have HK3 := Lib.hid hk3; have HJ3 := Lib.hid hJ3
          clear hk3 hJ3
          gi_wp2
          refine ⟨⟨pre ++ [⟨i, hi⟩], i, Nat.le_of_succ_le hi, ?_, by simp; omega, ?_, HJ3.out, kq_t HK.out HK3.out⟩, ?_⟩
          · go_num
          · have := HP.out
            rw [dn] at this
            rw [← this]; simp
          · simp only [intOf]; omega
        · have HJx3 := Lib.hid hJx3
          clear hJx3
          gi_wp2
          refine bodyPost_ret (results_none rfl _ _ _) rfl ?_
          exact ⟨⟨_, rfl⟩, .inr ⟨_, ⟨dn i (Nat.le_of_succ_le hi), by have := HP.out; rw [dn] at this; rw [← this]; simp⟩, HJx3.out⟩⟩

set_option maxHeartbeats 1000000 in
/-- Backward: its argument is boxed; the function value captures the box. -/
theorem backward_in (F : Fence) (n : Nat) (hf : F.fn 62) (hro : F.round = none) (v : Value) (al : Option Addr) (m c : Nat) (hv : v = .slice al m c) (w : World) :
    CallsIn F n Tryz.prog 62 #[v] w fun e w' => e = .returned (.func (.func 83) #[] #[.pointer (some ⟨w.heap.size, 0, none⟩)]) ∧ w' = w.alloc (.cells #[v] 47) := by
  subst hv
  refine callsIn_of_wp Tryz.func62 rfl hf ?_ hro
  simp only [Tryz.ntmps62, List.size_toArray, List.length_cons, List.length_nil, Nat.reduceAdd, Nat.reduceSub, Array.replicate_succ, Array.replicate_zero, List.push_toArray, List.append_toArray, List.nil_append, List.cons_append]
  gi_wp2
  go_ret
  exact ⟨rfl, rfl⟩

theorem blk_lt {w : World} {Bs : Nat} {v : Value} {zs : List Int} (h : Ls w v zs) (hB : Bs < w.heap.size) : blkOf Bs v < w.heap.size := by
  rcases h with ⟨rfl, _⟩ | ⟨b, o, c, rfl, _, hlt, _⟩
  · exact hB
  · exact hlt

theorem backward_stops (F : Fence) (n : Nat) (hf : F.fn 83) (hro : F.round = none) (hn : 1 ≤ n) (Bs : Nat) (v : Value) (zs : List Int) (hN : zs.length ≤ 1000000) (w : World) (hBs : w.cell? ⟨Bs, 0, none⟩ = some v) (hl : Ls w v zs) :
    SeqStopsK F n Tryz.prog 83 #[.pointer (some ⟨Bs, 0, none⟩)] (encB zs) (Kq Bs v) (fun ys => ys = dn zs.length (Nat.le_refl _)) (fun pre => pre <+: dn zs.length (Nat.le_refl _)) zs.length w := fun l J Jx W hW _ _ hY h0 =>
  backward1_in F n hf hro hn l Bs v zs hN J Jx hY W ((hW.cell (p := ⟨Bs, 0, none⟩) (block_lt_of_cell hBs)).trans hBs) (hl.below (Nat.le_refl _) hW) h0
end Go.Proofs.YtebjjgbdiabapaaGreatDoor
