/- The roots of spans, and Proof, walked. -/
import Derived.Test.YtiilkjonbfllfaaDoorVer
namespace Go.Proofs.YtiilkjonbfllfaaDoor
open Go.RowKit

/-- A slice of texts of the call's own: as long as its row. -/
def StrOut (w : World) (ps : List ByteArray) (v : Value) (w' : World) : Prop :=
  ∃ g, v = .slice (some ⟨g, 0, none⟩) ps.length ps.length ∧ w.heap.size ≤ g ∧ w'.heap[g]? = some (.cells (ps.map Value.string).toArray 9 (0, 0)) ∧ Below w.heap.size w w'
theorem made_strs (w w1 : World) (n : Nat) (h : w1.ownsRow w.heap.size 9 1 (.slice (some ⟨w.heap.size, 0, none⟩) n n) n (madeCells (Value.string ⟨#[]⟩).cells (n * 1)).toList) (hg : w.grownBy w1 none) :
    Hid (w1.heap[w.heap.size]? = some (.cells ((List.replicate n (⟨#[]⟩ : ByteArray)).map Value.string).toArray 9 (0, 0))) ∧ Below w.heap.size w w1 := by
  refine ⟨Lib.hid ?_, (Below.refl _ _).grown hg (Nat.le_refl _) (by simp)⟩
  rw [blk_of_own h, show (Value.string ⟨#[]⟩).cells = #[.string ⟨#[]⟩] from rfl, toList_madeCells_one, Nat.mul_one, List.map_replicate]
/-- The roots when k of them are laid. -/
def rootP (l : List ByteArray) (xs : List Sp) (k : Nat) : List ByteArray := (xs.take k).map (rootSp l) ++ List.replicate (xs.length - k) ⟨#[]⟩
theorem rootP_length (l : List ByteArray) (xs : List Sp) (k : Nat) (h : k ≤ xs.length) : (rootP l xs k).length = xs.length := by simp [rootP]; omega
theorem rootP_step (l : List ByteArray) (xs : List Sp) (k : Nat) (p : Sp) (h : xs[k]? = some p) : rootP l xs (k + 1) = (rootP l xs k).set k (rootSp l p) := by
  have hk := (List.getElem?_eq_some_iff.1 h)
  have hlt := hk.1
  unfold rootP
  rw [List.set_append_right _ _ (by simp; omega), List.length_map, List.length_take, show k - min k xs.length = 0 by omega, show xs.length - k = (xs.length - (k + 1)) + 1 by omega, List.replicate_succ, List.set_cons_zero,
    List.take_succ_eq_append_getElem hlt, List.map_append, List.append_assoc, hk.2]
  rfl
theorem rootP_end (l : List ByteArray) (xs : List Sp) : rootP l xs xs.length = xs.map (rootSp l) := by simp [rootP]
theorem map_setS (l : List ByteArray) (i : Nat) (x : ByteArray) : (l.map Value.string).toArray.setIfInBounds i (.string x) = ((l.set i x).map Value.string).toArray := by
  simp [List.map_set]
theorem cells_atS {w : World} {g : Nat} {t : TypeId} {l : List ByteArray} (h : w.heap[g]? = some (.cells (l.map Value.string).toArray t (0, 0))) {i : Nat} {x : ByteArray} (hx : l[i]? = some x) : w.cell? ⟨g, i, none⟩ = some (.string x) := by
  rw [cell_of_row w g i _ t (0, 0) h]
  simp [hx]

set_option maxRecDepth 100000 in
set_option maxHeartbeats 2000000 in
theorem roots_any (al : Option Addr) (n c : Nat) (l : List ByteArray) (hn : n ≤ 1000) (hnc : n ≤ c) (hc : c ≤ maxLen) (w : World) (hl : Strs w al n l) (hls : ∀ s ∈ l, s.size ≤ 400000) (hT : Tab w)
    (v : Value) (B : Nat) (xs : List Sp) (hv : SpHeld w B v xs) (hm : xs.length ≤ 1000) (hxs : ∀ p ∈ xs, p.1 < p.2 ∧ p.2 ≤ n) :
    Calls Tryd.prog 43 #[.slice al n c, v] w fun e w' => ∃ v', e = .returned v' ∧ StrOut w (xs.map (rootSp l)) v' w' := by
  obtain ⟨i0, hi, hz0, hz1, hz2⟩ := info_parts info9
  obtain ⟨al2, c2, rfl, hl2, hc2, hcs⟩ := hv.form
  have hz : 0 < w.heap.size := hT.1
  have HCS := Lib.hid hcs; have HXS := Lib.hid hxs; have HLS := Lib.hid hls; have HL := Lib.hid hl; have HT := Lib.hid hT
  clear hcs hxs hls hl hv hT
  unfold maxLen at hc hc2
  have hlen := rootP_length l xs
  obtain ⟨m, hmm⟩ : ∃ m, xs.length = m := ⟨_, rfl⟩
  rw [hmm] at hl2 hm hlen ⊢
  have HM := Lib.hid hmm; clear hmm
  have HLN := Lib.hid hlen; clear hlen
  go_enter Tryd.func43, Tryd.ntmps43
  go_wp2_with (at_make
               refine wpList_make_full _ rfl _ _ 26 rfl w.heap.size 9 i0 (.string ⟨#[]⟩) 1 Tryd.underlying26 hi hz0 hz1 .i64 .i64 _ _ m rfl rfl (by omega) (by omega) (by rw [hz2]; omega) (by unfold maxLen; omega) (Nat.le_refl _) ?_
               intro w1 hown hgrow
               obtain ⟨HK, hB1⟩ := made_strs w w1 m hown hgrow
               clear hown hgrow)
  go_loopw [13] (fun iv wr => ∃ k : Nat, iv = .int .i64 k ∧ k ≤ m ∧ wr.heap[w.heap.size]? = some (.cells ((rootP l xs k).map Value.string).toArray 9 (0, 0)) ∧ Below w.heap.size w wr) (fun iv _ => m - (intOf iv).toNat)
  case atStart =>
    refine ⟨0, rfl, Nat.zero_le _, ?_, hB1⟩
    rw [HK.out]
    unfold rootP
    rw [HM.out]; rfl
  case round =>
    obtain ⟨k, rfl, hk, hg, hB⟩ := hrel
    have HG := Lib.hid hg; clear hg
    by_cases hlt : k < m
    · obtain ⟨p, hp⟩ : ∃ p, xs[k]? = some p := ⟨xs[k]'(by rw [HM.out]; exact hlt), List.getElem?_eq_getElem _⟩
      obtain ⟨hp12, hp2n⟩ := HXS.out p (List.mem_of_getElem? hp)
      obtain ⟨g2, rfl, hg2, hp0, hp1⟩ := HCS.out k p hp
      have c0 := (hB.cell (p := ⟨g2, k * 2, none⟩) hg2).trans hp0
      have c1 := (hB.cell (p := ⟨g2, k * 2 + 1, none⟩) hg2).trans hp1
      obtain ⟨hll, hlc⟩ := HL.out
      obtain ⟨g, o, rfl, hg, hlc⟩ := hlc.resolve_left (by omega)
      have HP := Lib.hid hp
      clear hp hp0 hp1
      have hcut := run_cut_both (P := Tryd.prog) 26 9 1 Tryd.underlying26 (by kernel_rfl) g o n c p.1 p.2 (by omega) (by omega) (by omega)
      rw [Nat.mul_one] at hcut
      have HSUB := Lib.hid (sub_len l p.1 p.2 (by omega))
      have HLC := Lib.hid hlc; have HLL := Lib.hid hll
      clear hlc hll
      have hwz : w.heap.size < wr.heap.size := (Array.getElem?_eq_some_iff.1 HG.out).1
      have hBa : Below w.heap.size w (wr.alloc (Obj.cells #[Value.int IntKind.i64 p.1, Value.int IntKind.i64 p.2] 57)) := hB.alloc hB.size _
      have HTr := Lib.hid (HT.out.below hBa hz)
      have HGC := Lib.hid (show ∀ i, i < p.2 - p.1 → (wr.alloc (Obj.cells #[Value.int IntKind.i64 p.1, Value.int IntKind.i64 p.2] 57)).cell? ⟨g, o + p.1 + i, none⟩ = some (.string ((sub l p.1 p.2).getD i ByteArray.empty)) from fun i hi => by
        rw [Nat.add_assoc, hBa.cell (p := ⟨g, o + (p.1 + i), none⟩) hg, HLC.out _ (by omega), sub, List.getD_eq_getElem?_getD, List.getD_eq_getElem?_getD, List.getElem?_take, if_pos hi, List.getElem?_drop])
      go_wp2_with fail
      refine (root_any (p.2 - p.1) (sub l p.1 p.2) g (o + p.1) (p.2 - p.1) (c - p.1) _ _ (Nat.le_refl _) HSUB.out (by omega) (by omega) (by unfold maxLen; omega) (fun s hs => HLS.out s (List.mem_of_mem_drop (List.mem_of_mem_take hs))) HTr.out (.inr ⟨rfl, HGC.out⟩)).mono ?_
      rintro e w2 ⟨rfl, hb2⟩
      have hB2 : Below w.heap.size w w2 := hBa.trans (hb2.mono hBa.size)
      have hg2 : w2.heap[w.heap.size]? = some (.cells ((rootP l xs k).map Value.string).toArray 9 (0, 0)) := (hb2.block _ (by simp; omega)).trans ((heap_old' _ _ _ hwz).trans HG.out)
      obtain ⟨y, hy⟩ : ∃ y, (rootP l xs k)[k]? = some y := ⟨(rootP l xs k)[k]'(by rw [HLN.out k hk]; exact hlt), List.getElem?_eq_getElem _⟩
      have hcell := cells_atS hg2 hy
      have hfr := frozen_of_row _ _ k _ _ hg2
      have HG2 := Lib.hid hg2
      clear hg2 hb2 hBa hy
      go_wp2_with fail
      refine ⟨⟨k + 1, by go_num, by omega, ?_, hB2.setCell (Nat.le_refl _) _⟩, by simp [intOf]; omega⟩
      rw [heap_setCell_same _ _ _ _ _ _ HG2.out, rootP_step l xs k p HP.out, ← map_setS]; rfl
    · obtain rfl : k = m := by omega
      go_wp2_with fail
      go_ret
      refine ⟨_, rfl, w.heap.size, ?_, Nat.le_refl _, ?_, hB⟩
      · rw [List.length_map, HM.out]; rfl
      · rw [HG.out, ← rootP_end l xs, HM.out]

theorem dsc_bounds {stop : Nat → Nat → Bool} {i : Nat} (hs : Ends stop i) : ∀ (n a b : Nat), b - a = n → a ≤ i → i < b → ∀ p ∈ (dscR stop a b i).2, a ≤ p.1 ∧ p.1 < p.2 ∧ p.2 ≤ b := by
  intro n
  induction n using Nat.strongRecOn with
  | _ n ih =>
    intro a b hn h1 h2 p hp
    cases hst : stop a b with
    | true => rw [dscR_stop _ _ _ _ hst] at hp; cases hp
    | false =>
      have ht := dscR_two hs h1 h2 hst
      have hlt := half_lt ht
      have hpos := half_pos (b - a)
      by_cases hk : i < a + half (b - a)
      · rw [dscR_left hs h1 h2 hst hk] at hp
        rcases List.mem_cons.1 hp with rfl | hp
        · exact ⟨by dsimp only; omega, by dsimp only; omega, Nat.le_refl _⟩
        · obtain ⟨q1, q2, q3⟩ := ih (a + half (b - a) - a) (by omega) a (a + half (b - a)) rfl h1 hk p hp
          exact ⟨q1, q2, by omega⟩
      · rw [dscR_right hs h1 h2 hst hk] at hp
        rcases List.mem_cons.1 hp with rfl | hp
        · exact ⟨Nat.le_refl _, by dsimp only; omega, by dsimp only; omega⟩
        · obtain ⟨q1, q2, q3⟩ := ih (b - (a + half (b - a))) (by omega) (a + half (b - a)) b rfl (by omega) h2 p hp
          exact ⟨by omega, q2, q3⟩
theorem dsc_length {stop : Nat → Nat → Bool} {i : Nat} (hs : Ends stop i) : ∀ (n a b : Nat), b - a = n → a ≤ i → i < b → (dscR stop a b i).2.length < b - a := by
  intro n
  induction n using Nat.strongRecOn with
  | _ n ih =>
    intro a b hn h1 h2
    cases hst : stop a b with
    | true => rw [dscR_stop _ _ _ _ hst]; simp; omega
    | false =>
      have ht := dscR_two hs h1 h2 hst
      have hlt := half_lt ht
      have hpos := half_pos (b - a)
      by_cases hk : i < a + half (b - a)
      · rw [dscR_left hs h1 h2 hst hk, List.length_cons]
        have := ih (a + half (b - a) - a) (by omega) a (a + half (b - a)) rfl h1 hk
        omega
      · rw [dscR_right hs h1 h2 hst hk, List.length_cons]
        have := ih (b - (a + half (b - a))) (by omega) (a + half (b - a)) b rfl (by omega) h2
        omega

set_option maxHeartbeats 1000000 in
theorem proof_ok (al : Option Addr) (n c : Nat) (l : List ByteArray) (hn : n ≤ 1000) (hnc : n ≤ c) (hc : c ≤ maxLen) (w : World) (hl : Strs w al n l) (hls : ∀ s ∈ l, s.size ≤ 400000) (hT : Tab w) (i : Nat) (hi : i < n) :
    Calls Tryd.prog 22 #[.slice al n c, .int .i64 i] w fun e w' => ∃ v', e = .returned (.tuple #[v', .int .i64 0]) ∧ StrOut w (prfS l i) v' w' := by
  have HE := Lib.hid (prfS_dsc l i (by rw [hl.1]; exact hi))
  rw [hl.1] at HE
  have hb0 := dsc_bounds (ends_E i) _ 0 n rfl (Nat.zero_le _) hi
  have hl0 := dsc_length (ends_E i) _ 0 n rfl (Nat.zero_le _) hi
  have H1 := Lib.hid (show (bsE n i).reverse.length ≤ 1000 by rw [List.length_reverse]; unfold bsE; omega)
  have H2 := Lib.hid (show ∀ p ∈ (bsE n i).reverse, p.1 < p.2 ∧ p.2 ≤ n from fun p hp => (hb0 p (List.mem_reverse.1 hp)).2)
  clear hb0 hl0
  have h0' : decide ((i : Int) < 0) = false := by simp
  have h1' : decide ((n : Int) ≤ i) = false := by simp; omega
  have hz : 0 < w.heap.size := hT.1
  have HL := Lib.hid hl; have HT := Lib.hid hT; have HLS := Lib.hid hls
  clear hl hT hls
  go_enter Tryd.func22, Tryd.ntmps22
  go_wp2_with fail
  refine (bsE_any n i hi (by omega) _).mono ?_
  rintro e w1 ⟨v, rfl, hsp, hb⟩
  have HSP := Lib.hid hsp; clear hsp
  go_wp2_with fail
  refine (roots_any al n c l hn hnc hc _ (HL.out.below hb) HLS.out (HT.out.below hb hz) v w.heap.size (bsE n i).reverse HSP.out H1.out H2.out).mono ?_
  rintro e w2 ⟨v', rfl, g, hv, hg, hh, hb2⟩
  go_wp2_with fail
  go_ret2
  exact ⟨_, rfl, g, by rw [HE.out, List.length_map, List.length_reverse]; rfl, by have := hb.size; omega, by rw [HE.out]; exact hh, hb.trans (hb2.mono hb.size)⟩

theorem proof_bad (al : Option Addr) (n c : Nat) (i : Int) (hi : i < 0 ∨ n ≤ i) (w : World) :
    Calls Tryd.prog 22 #[.slice al n c, .int .i64 i] w fun e w' => e = .returned (.tuple #[.slice none 0 0, .int .i64 2]) ∧ w = w' := by
  by_cases h : i < 0
  · have h0' : decide (i < 0) = true := by simp; omega
    go_enter Tryd.func22, Tryd.ntmps22
    go_wp2_with fail
    go_ret2
    exact ⟨rfl, rfl⟩
  · have h0' : decide (i < 0) = false := by simp; omega
    have h1 : (n : Int) ≤ i := hi.resolve_left h
    clear hi
    go_enter Tryd.func22, Tryd.ntmps22
    go_wp2_with fail
    go_ret2
    exact ⟨rfl, rfl⟩
end Go.Proofs.YtiilkjonbfllfaaDoor
