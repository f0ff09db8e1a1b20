/- The minutes of a spell, yielded one by one. -/
import Derived.RangeFuncBox
import Derived.RangeFuncNested
import Derived.RangeFuncLeaves
import Derived.Shelf.Abstract
import Derived.OwnWalkIn
import Derived.TacticsInMore
import Derived.LoopNIn
import Derived.LoopIn
import Derived.Maps.AppendAt
import Derived.Test.YtbgdlfkeimaaiaaDoorSd
namespace Go.Proofs.YtbgdlfkeimaaiaaDoor
open Go.RowKit Go.Shelf
attribute [local go_sem] Oper.semAt_some
set_option linter.unusedSimpArgs false
set_option linter.unusedVariables false
/-- The minutes that there are. -/
abbrev Min := { m : Nat // m ≤ 1000000 }
def cl (m : Nat) : Min := ⟨min m 1000000, by omega⟩
theorem cl_val {m : Nat} (h : m ≤ 1000000) : (cl m).1 = m := by show min m 1000000 = m; omega
abbrev encm (x : Min) : Array Value := #[iV x.1]
/-- k minutes from t on. -/
def mins (t k : Nat) : List Min := (List.range' t k).map cl
theorem mins_len (t k : Nat) : (mins t k).length = k := by simp [mins]
theorem mins_succ (t k : Nat) : mins t (k + 1) = mins t k ++ [cl (t + k)] := by
  unfold mins
  rw [List.range'_1_concat]
  simp
theorem mins_app (t k m : Nat) : mins t (k + m) = mins t k ++ mins (t + k) m := by
  unfold mins
  rw [← List.map_append]
  congr 1
  have := List.range'_append (s := t) (m := k) (n := m) (step := 1)
  rw [Nat.one_mul] at this
  exact this.symm
theorem mins_mem {t k m : Nat} (h : t + k ≤ 1000001) : m ∈ (mins t k).map (·.1) ↔ t ≤ m ∧ m < t + k := by
  unfold mins
  rw [List.map_map]
  constructor
  · intro hm
    obtain ⟨a, ha, rfl⟩ := List.mem_map.1 hm
    have := List.mem_range'_1.1 ha
    have e : (cl a).1 = a := cl_val (by omega)
    show t ≤ (cl a).1 ∧ (cl a).1 < t + k
    rw [e]; exact this
  · rintro ⟨h1, h2⟩
    exact List.mem_map.2 ⟨m, List.mem_range'_1.2 ⟨h1, h2⟩, cl_val (by omega)⟩
theorem cell_alloc' {A : World} {a : Addr} {v : Value} (h : A.cell? a = some v) (o : Obj) : (A.alloc o).cell? a = some v := ((Below.refl A.heap.size A).alloc (Nat.le_refl _) o |>.cell (World.block_lt_of_cell? A a h)).trans h
theorem ko_below {W W' : World} (h : Below W.heap.size W W') : KeepsOthers W W' :=
  ⟨h.size, fun k o hk _ => (h.block k (Array.getElem?_eq_some_iff.1 hk).1).trans hk⟩
/-- A spell by value, in a block. -/
theorem minutes_in (F : Fence) (n : Nat) (hf : F.fn 42) (hro : F.round = none) (t u : Int) (w : World) :
    CallsIn F n Tryd.prog 42 #[.agg #[.int .i64 t, .int .i64 u]] w fun e w' => e = .returned (.func (.func 48) #[] #[.pointer (some ⟨w.heap.size, 0, none⟩)]) ∧ w' = w.alloc (.cells #[.int .i64 t, .int .i64 u] 29) := by
  refine callsIn_of_wp Tryd.func42 rfl hf ?_ hro
  simp only [Tryd.ntmps42, List.size_toArray, List.length_cons, List.length_nil, Nat.reduceAdd, Nat.reduceSub, Array.replicate_succ, Array.replicate_zero, List.push_toArray, List.append_toArray, List.nil_append, List.cons_append]
  gi_wp2
  go_ret
  exact ⟨rfl, rfl⟩
set_option maxRecDepth 100000 in
set_option maxHeartbeats 1000000 in
theorem minutes1_in (F : Fence) (n : Nat) (hf : F.fn 48) (hro : F.round = none) (hn : 1 ≤ n) (l Bn : Nat) (Kp : World → World → Prop) (hKp : ∀ W W', Kp W W' → ∀ i v, W.cell? ⟨Bn, i, none⟩ = some v → W'.cell? ⟨Bn, i, none⟩ = some v) (t N : Nat) (hN : t + N ≤ 1000001) (J Jx : List Min → World → Prop)
    (hY : ∀ pre x W, J pre W → pre.length < N → YieldAt F (n - 1) Tryd.prog l (encm x) W fun e W' =>
      (e = .returned (.bool true) ∧ J (pre ++ [x]) W' ∧ Kp W W') ∨ (e = .returned (.bool false) ∧ Jx (pre ++ [x]) W'))
    (W : World) (hB0 : W.cell? ⟨Bn, 0, none⟩ = some (iV t)) (hB1 : W.cell? ⟨Bn, 1, none⟩ = some (iV (t + N))) (h0 : J [] W) :
    CallsIn F n Tryd.prog 48 #[.func (.yield l) #[] #[], .pointer (some ⟨Bn, 0, none⟩)] W fun e W' => (∃ v, e = .returned v) ∧
      ((∃ ys, ys = mins t N ∧ J ys W') ∨ (∃ pre, pre <+: mins t N ∧ Jx pre W')) := by
  have HY := Lib.hid hY
  have HJ := Lib.hid h0
  have HB := Lib.hid (And.intro hB0 hB1)
  have HL := Lib.hid hKp
  have HNN := Lib.hid hN
  clear hY h0 hB1 hKp hN
  refine callsIn_of_wp Tryd.func48 rfl hf ?_ hro
  simp only [Tryd.ntmps48, List.size_toArray, List.length_cons, List.length_nil, Nat.reduceAdd, Nat.reduceSub, Array.replicate_succ, Array.replicate_zero, List.push_toArray, List.append_toArray, List.nil_append, List.cons_append]
  gi_wp2
  clear hB0
  gi_loopw [3] (fun r wr => ∃ k : Nat, k ≤ N ∧ r = iV (t + k) ∧ J (mins t k) wr ∧ wr.cell? ⟨Bn, 0, none⟩ = some (iV t) ∧ wr.cell? ⟨Bn, 1, none⟩ = some (iV (t + N)))
    (fun r _ => (t + N) - (intOf r).toNat)
  case atStart =>
    exact ⟨0, by omega, rfl, HJ.out, HB.out.1, HB.out.2⟩
  case round =>
    obtain ⟨k, hk, rfl, hJ, hc0, hc1⟩ := hrel
    clear HJ HB
    have HJ := Lib.hid hJ
    have HC := Lib.hid (And.intro hc0 hc1)
    clear hJ hc0
    have b0 : (0 : Int) ≤ ((t + k : Nat) : Int) := by omega
    have b1 : ((t + k : Nat) : Int) ≤ 1000001 := by have := HNN.out; omega
    by_cases hlt : k < N
    · obtain ⟨fn, tmps, assign, body, hyy, hR⟩ := HY.out (mins t k) (cl (t + k)) wr HJ.out (by rw [mins_len]; exact hlt)
      have hS := Lib.hid (mins_succ t k)
      dsimp only [encm] at hyy
      rw [cl_val (show t + k ≤ 1000000 by have := HNN.out; omega)] at hyy
      have hd : decide (t + k < t + N) = true := by simpa using hlt
      have HP := Lib.hid (show mins t (k + 1) <+: mins t N from ⟨mins (t + (k + 1)) (N - (k + 1)), by rw [← mins_app]; congr 1; omega⟩)
      gi_wp2
      clear hc1 hyy
      refine hR.mono ?_
      rintro e W3 (⟨rfl, hJ3, hk3⟩ | ⟨rfl, hJx3⟩)
      · have HJ3 := Lib.hid hJ3
        have HC3 := Lib.hid (And.intro (HL.out _ _ hk3 0 _ HC.out.1) (HL.out _ _ hk3 1 _ HC.out.2))
        clear hJ3 hk3
        gi_wp2
        refine ⟨⟨k + 1, by omega, ?_, by rw [hS.out]; exact HJ3.out, HC3.out.1, HC3.out.2⟩, ?_⟩
        · exact ret_i (by omega)
        · simp only [intOf]; omega
      · have HJ3 := Lib.hid hJx3
        clear hJx3
        gi_wp2
        refine bodyPost_ret (results_none rfl _ _ _) rfl ?_
        exact ⟨⟨_, rfl⟩, .inr ⟨mins t k ++ [cl (t + k)], by rw [← hS.out]; exact HP.out, HJ3.out⟩⟩
    · obtain rfl : k = N := by omega
      gi_wp2
      refine bodyPost_end (results_none rfl _ _ _) rfl ?_
      exact ⟨⟨_, rfl⟩, .inl ⟨_, rfl, HJ.out⟩⟩
theorem minutes_stops (F : Fence) (n : Nat) (hf : F.fn 48) (hro : F.round = none) (hn : 1 ≤ n) (Bn : Nat) (Kp : World → World → Prop) (hKp : ∀ W W', Kp W W' → ∀ i v, W.cell? ⟨Bn, i, none⟩ = some v → W'.cell? ⟨Bn, i, none⟩ = some v) (t N : Nat) (hN : t + N ≤ 1000001) (w : World) (hBn : Bn < w.heap.size)
    (h0 : w.cell? ⟨Bn, 0, none⟩ = some (iV t)) (h1 : w.cell? ⟨Bn, 1, none⟩ = some (iV (t + N))) :
    SeqStopsK F n Tryd.prog 48 #[.pointer (some ⟨Bn, 0, none⟩)] encm Kp (fun ys => ys = mins t N) (fun pre => pre <+: mins t N) N w := fun l J Jx W hW _ _ hY hJ =>
  minutes1_in F n hf hro hn l Bn Kp hKp t N hN J Jx hY W ((hW.cell (p := ⟨Bn, 0, none⟩) hBn).trans h0) ((hW.cell (p := ⟨Bn, 1, none⟩) hBn).trans h1) hJ
/-- A block's cells stay. -/
def Ks (Bn : Nat) (W W' : World) : Prop := ∀ i v, W.cell? ⟨Bn, i, none⟩ = some v → W'.cell? ⟨Bn, i, none⟩ = some v
theorem Ks.refl (Bn : Nat) (W : World) : Ks Bn W W := fun _ _ h => h
theorem Ks.trans {Bn : Nat} {A B C : World} (h : Ks Bn A B) (k : Ks Bn B C) : Ks Bn A C := fun i v hc => k i v (h i v hc)
theorem Ks.below {Bn n : Nat} {A B : World} (h : Below n A B) (hn : Bn < n) : Ks Bn A B := fun i v hc => (h.cell (p := ⟨Bn, i, none⟩) hn).trans hc
theorem Ks.alloc {Bn : Nat} {A : World} (o : Obj) : Ks Bn A (A.alloc o) := fun i v hc => cell_alloc' hc o
theorem Ks.setCell {Bn B : Nat} {A : World} (hne : B ≠ Bn) (v : Value) : Ks Bn A (A.setCell ⟨B, 0, none⟩ v) := fun i u hc => (World.cell?_setCell_far A ⟨B, 0, none⟩ ⟨Bn, i, none⟩ v hne).trans hc
theorem ks_t {Bn : Nat} {A B C : World} : Ks Bn A B → Ks Bn B C → Ks Bn A C := Ks.trans
theorem ks_b {Bn k : Nat} (W : World) (l : Nat) (o o' : Obj) (_ : k ≤ l) (ho : W.heap[l]? = some o) (hc : o.isCells = false) (_ : o.isWalk = false) : Ks Bn W (W.putObj l o') := fun i v h => by
  by_cases e : Bn = l
  · subst e
    exfalso
    cases o with
    | cells cs t fr => exact absurd hc (by simp [Obj.isCells])
    | _ => simp [World.cell?, ho] at h
  · exact (World.cell?_of_block (a := ⟨Bn, i, none⟩) (World.putObj_heap_other e)).trans h
theorem below_tr {w a b : World} (h : Below w.heap.size w a) (hb : Below a.heap.size a b) : Below w.heap.size w b := h.trans (hb.mono h.size)
/-- A block holds these cells. -/
def BX (W : World) (B : Nat) (cs : Array Value) (t : TypeId) : Prop := W.heap[B]? = some (.cells cs t (0, 0))
theorem BX.lt {W : World} {B : Nat} {cs : Array Value} {t : TypeId} (h : BX W B cs t) : B < W.heap.size := (Array.getElem?_eq_some_iff.1 h).1
theorem BX.new {W : World} {cs : Array Value} {t : TypeId} {B : Nat} (h : B = W.heap.size) : BX (W.alloc (.cells cs t)) B cs t := heap_new' _ _ _ h
theorem BX.alloc {W : World} {B : Nat} {cs : Array Value} {t : TypeId} (h : BX W B cs t) (o : Obj) : BX (W.alloc o) B cs t := (Below.heap_alloc _ _ _ h.lt).trans h
theorem BX.below {W W' : World} {B n : Nat} {cs : Array Value} {t : TypeId} (h : BX W B cs t) (hb : Below n W W') (hn : B < n) : BX W' B cs t := (hb.block B hn).trans h
theorem BX.next {W W' : World} {B : Nat} {cs : Array Value} {t : TypeId} (h : BX W B cs t) (hb : Below W.heap.size W W') : BX W' B cs t := h.below hb h.lt
theorem BX.cell {W : World} {B : Nat} {cs : Array Value} {t : TypeId} (h : BX W B cs t) (i : Nat) : W.cell? ⟨B, i, none⟩ = cs[i]? := row_cell h i
theorem BX.frozen {W : World} {B : Nat} {cs : Array Value} {t : TypeId} (h : BX W B cs t) (i : Nat) : W.frozen? ⟨B, i, none⟩ = false := frozen_of_row W B i _ t h
theorem BX.own {β : Type} (B : Nat) (t : TypeId) (cs : Array Value) : Own (fun (_ : β) W => BX W B cs t) := fun s X Y row hs hg hrow =>
  (hg.block B hs.lt (fun e' => by obtain ⟨o, ho, hc⟩ := hrow B e'.symm; rw [show X.heap[B]? = _ from hs] at ho; cases ho; cases hc)).trans hs
end Go.Proofs.YtbgdlfkeimaaiaaDoor
