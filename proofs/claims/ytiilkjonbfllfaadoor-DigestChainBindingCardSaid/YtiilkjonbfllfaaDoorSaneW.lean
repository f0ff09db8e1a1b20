/- sane, walked. -/
import Derived.Test.YtiilkjonbfllfaaDoorSane
namespace Go.Proofs.YtiilkjonbfllfaaDoor
open Go.RowKit

theorem strs_of_out {w w' : World} {ps : List ByteArray} {v : Value} (h : StrOut w ps v w') : ∃ al, v = .slice al ps.length ps.length ∧ Strs w' al ps.length ps := by
  obtain ⟨g, hv, _, hh, _⟩ := h
  refine ⟨some ⟨g, 0, none⟩, hv, rfl, .inr ⟨g, 0, rfl, (Array.getElem?_eq_some_iff.1 hh).1, fun i hi => ?_⟩⟩
  rw [Nat.zero_add]
  refine cells_atS hh ?_
  rw [List.getD_eq_getElem?_getD, List.getElem?_eq_getElem hi]; rfl
theorem strs_lit3 (w : World) (a b c : ByteArray) : Strs (w.alloc (Obj.cells #[Value.string a, Value.string b, Value.string c] 9)) (some ⟨w.heap.size, 0, none⟩) 3 [a, b, c] := by
  refine ⟨rfl, .inr ⟨w.heap.size, 0, rfl, by simp, fun i hi => ?_⟩⟩
  rw [cell_of_row _ _ _ _ _ _ (heap_new' _ _ _ rfl)]
  match i, hi with
  | 0, _ => rfl
  | 1, _ => rfl
  | 2, _ => rfl
theorem Strs.take {w : World} {al : Option Addr} {n : Nat} {ps : List ByteArray} (h : Strs w al n ps) {k : Nat} (hk : k ≤ n) : Strs w al k (ps.take k) := by
  refine ⟨by rw [List.length_take, h.1]; omega, ?_⟩
  rcases Nat.eq_zero_or_pos k with h0 | h0
  · exact .inl h0
  · obtain ⟨g, o, e, hg, hc⟩ := strs_out h (show 0 < n by omega)
    refine .inr ⟨g, o, e, hg, fun i hi => ?_⟩
    rw [hc i (by omega), List.getD_eq_getElem?_getD, List.getD_eq_getElem?_getD, List.getElem?_take, if_pos hi]
/-- A root, its list given as texts that lie somewhere. -/
theorem root_at (al : Option Addr) (n c : Nat) (l : List ByteArray) (w : World) (hl : Strs w al n l) (hn : n ≤ 1000) (hnc : n ≤ c) (hc : c ≤ maxLen) (hls : ∀ s ∈ l, s.size ≤ 400000) (hT : Tab w) :
    Calls Tryd.prog 27 #[.slice al n c] w fun e w' => e = .returned (.string (root l)) ∧ Below w.heap.size w w' := by
  rcases hl.2 with h0 | ⟨g, o, h1, _, h2⟩
  · exact root_any n l 0 0 n c al w (Nat.le_refl _) hl.1 hn hnc hc hls hT (.inl h0)
  · exact root_any n l g o n c al w (Nat.le_refl _) hl.1 hn hnc hc hls hT (.inr ⟨h1, h2⟩)
theorem L3_size : ∀ s ∈ L3, s.size ≤ 400000 := by
  intro s hs
  have : s.size = 1 := by
    simp only [L3, List.mem_cons, List.mem_nil_iff, or_false] at hs
    rcases hs with rfl | rfl | rfl <;> rfl
  omega

set_option maxRecDepth 100000 in
set_option maxHeartbeats 4000000 in
theorem sane_any (w : World) (hT : Tab w) :
    Calls Tryd.prog 12 #[] w fun e w' => e = .returned (.bool true) ∧ Below w.heap.size w w' := by
  have hz : 0 < w.heap.size := hT.1
  have HT := Lib.hid (fun W (hB : Below w.heap.size w W) => hT.below hB hz)
  obtain ⟨W0, hW0⟩ : ∃ W0, w.alloc (Obj.cells #[Value.string ⟨#[97]⟩, Value.string ⟨#[98]⟩, Value.string ⟨#[99]⟩] 9) = W0 := ⟨_, rfl⟩
  have hs0 : Strs W0 (some ⟨w.heap.size, 0, none⟩) 3 L3 := by rw [← hW0]; exact strs_lit3 w _ _ _
  have hB0 : Below w.heap.size w W0 := by rw [← hW0]; exact (Below.refl _ _).alloc (Nat.le_refl _) _
  have HS0 := Lib.hid hs0; have HW0 := Lib.hid hW0
  have c3 : 3 ≤ maxLen := by decide
  have hlz : 3 ≤ 1000 := by decide
  clear hs0 hW0 hT
  go_enter Tryd.func12, Tryd.ntmps12
  go_wp2_with fail
  rw [HW0.out]
  refine (proof_ok (some ⟨w.heap.size, 0, none⟩) 3 3 L3 hlz (Nat.le_refl _) c3 _ HS0.out L3_size (HT.out _ hB0) 2 (by decide)).mono ?_
  rintro e w1 ⟨v1, rfl, ho1⟩
  have hb1 : Below W0.heap.size W0 w1 := by obtain ⟨_, _, _, _, h⟩ := ho1; exact h
  obtain ⟨al1, rfl, hs1⟩ := strs_of_out ho1
  have HB1 := Lib.hid (below1 hB0 hb1)
  have HS1 := Lib.hid (HS0.out.below hb1); have HP1 := Lib.hid hs1
  clear ho1 hb1 hs1 HS0 hB0
  rw [sane_l1] at HP1 ⊢
  go_wp2_with fail
  refine (ext_ok (some ⟨w.heap.size, 0, none⟩) 3 3 L3 hlz (Nat.le_refl _) c3 _ HS1.out L3_size (HT.out _ HB1.out) 0 (by decide)).mono ?_
  rintro e w2 ⟨v2, rfl, ho2⟩
  have hb2 : Below w1.heap.size w1 w2 := by obtain ⟨_, _, _, _, h⟩ := ho2; exact h
  obtain ⟨al2, rfl, hs2⟩ := strs_of_out ho2
  have HB2 := Lib.hid (below1 HB1.out hb2)
  have HS2 := Lib.hid (HS1.out.below hb2); have HP2 := Lib.hid (HP1.out.below hb2); have HQ2 := Lib.hid hs2
  clear ho2 hb2 hs2 HS1 HP1 HB1
  rw [sane_l2] at HQ2 ⊢
  go_wp2_with fail
  refine (proof_bad (some ⟨w.heap.size, 0, none⟩) 3 3 3 (.inr (by decide)) _).mono ?_
  rintro e w3 ⟨rfl, rfl⟩
  go_wp2_with fail
  refine (root_at _ 3 3 L3 _ HS2.out hlz (Nat.le_refl _) c3 L3_size (HT.out _ HB2.out)).mono ?_
  rintro e w3 ⟨rfl, hb3⟩
  have HB3 := Lib.hid (below1 HB2.out hb3)
  have HS3 := Lib.hid (HS2.out.below hb3); have HP3 := Lib.hid (HP2.out.below hb3); have HQ3 := Lib.hid (HQ2.out.below hb3)
  clear hb3 HS2 HP2 HQ2 HB2
  have v1 := Lib.hid sane_v1; have v2 := Lib.hid sane_v2; have e1 := Lib.hid sane_e1; have e2 := Lib.hid sane_e2
  have pz := Lib.hid (fun s hs => Nat.le_of_eq (proofR_32 3 L3 2 rfl s (List.mem_reverse.1 hs)))
  have xz := Lib.hid (show ∀ s ∈ extS L3 1, s.size ≤ 32 from fun s hs => Nat.le_of_eq (partR_32 3 L3 1 true rfl (by decide) (by decide) s (List.mem_reverse.1 hs)))
  have rz := root_size L3
  have pz' := Lib.hid (show ∀ s ∈ prfS L3 2, s.size ≤ 32 from pz.out)
  clear pz
  generalize root L3 = R at *
  generalize prfS L3 2 = P at *
  generalize extS L3 1 = X at *
  go_wp2_with fail
  refine (sum_any ⟨#[]⟩ (by decide) _ (HT.out _ HB3.out)).mono ?_
  rintro e w4 ⟨rfl, hb4⟩
  have HB4 := Lib.hid (below1 HB3.out hb4)
  have HS4 := Lib.hid (HS3.out.below hb4); have HP4 := Lib.hid (HP3.out.below hb4); have HQ4 := Lib.hid (HQ3.out.below hb4)
  clear hb4 HS3 HP3 HQ3 HB3
  go_wp2_with fail
  refine (hex_any (dg ⟨#[]⟩) (by rw [dg_size]; decide) _).mono ?_
  rw [sane_h1]
  rintro e w5 ⟨rfl, q5, rfl⟩
  have hb5 : Below w4.heap.size w4 (w4.drewN q5) := below_drewN (Below.refl _ _) q5
  have HB5 := Lib.hid (below1 HB4.out hb5)
  have HS5 := Lib.hid (HS4.out.below hb5); have HP5 := Lib.hid (HP4.out.below hb5); have HQ5 := Lib.hid (HQ4.out.below hb5)
  clear hb5 HS4 HP4 HQ4 HB4
  go_wp2_with fail
  refine (sum_any ⟨#[97, 98, 99]⟩ (by decide) _ (HT.out _ HB5.out)).mono ?_
  rintro e w6 ⟨rfl, hb6⟩
  have HB6 := Lib.hid (below1 HB5.out hb6)
  have HS6 := Lib.hid (HS5.out.below hb6); have HP6 := Lib.hid (HP5.out.below hb6); have HQ6 := Lib.hid (HQ5.out.below hb6)
  clear hb6 HS5 HP5 HQ5 HB5
  go_wp2_with fail
  refine (hex_any (dg ⟨#[97, 98, 99]⟩) (by rw [dg_size]; decide) _).mono ?_
  rw [sane_h2]
  rintro e w7 ⟨rfl, q7, rfl⟩
  have hb7 : Below w6.heap.size w6 (w6.drewN q7) := below_drewN (Below.refl _ _) q7
  have HB7 := Lib.hid (below1 HB6.out hb7)
  have HS7 := Lib.hid (HS6.out.below hb7); have HP7 := Lib.hid (HP6.out.below hb7); have HQ7 := Lib.hid (HQ6.out.below hb7)
  clear hb7 HS6 HP6 HQ6 HB6
  go_wp2_with fail
  refine (verify_any R (3 : Nat) (2 : Nat) (by decide) (by decide) ⟨#[99]⟩ (by decide) al1 1 1 P (by decide) _ HP7.out (fun s hs => Nat.le_trans (pz'.out s hs) (by decide)) (HT.out _ HB7.out)).mono ?_
  rw [v1.out]
  rintro e w8 ⟨rfl, hb8⟩
  have HB8 := Lib.hid (below1 HB7.out hb8)
  have HS8 := Lib.hid (HS7.out.below hb8); have HP8 := Lib.hid (HP7.out.below hb8); have HQ8 := Lib.hid (HQ7.out.below hb8)
  clear hb8 HS7 HP7 HQ7 HB7
  go_wp2_with fail
  refine (verify_any R (3 : Nat) (2 : Nat) (by decide) (by decide) ⟨#[100]⟩ (by decide) al1 1 1 P (by decide) _ HP8.out (fun s hs => Nat.le_trans (pz'.out s hs) (by decide)) (HT.out _ HB8.out)).mono ?_
  rw [v2.out]
  rintro e w9 ⟨rfl, hb9⟩
  have HB9 := Lib.hid (below1 HB8.out hb9)
  have HS9 := Lib.hid (HS8.out.below hb9); have HP9 := Lib.hid (HP8.out.below hb9); have HQ9 := Lib.hid (HQ8.out.below hb9)
  clear hb9 HS8 HP8 HQ8 HB8
  have f1 := run_cut_to (P := Tryd.prog) 26 9 1 Tryd.underlying26 (by kernel_rfl) (some ⟨w.heap.size, 0, none⟩) 3 3 1 (by omega)
  have f2 := run_cut_to (P := Tryd.prog) 26 9 1 Tryd.underlying26 (by kernel_rfl) (some ⟨w.heap.size, 0, none⟩) 3 3 2 (by omega)
  go_wp2_with fail
  refine (root_at _ 1 3 [⟨#[97]⟩] _ (HS9.out.take (k := 1) (by omega)) (by omega) (by omega) c3 (fun s hs => L3_size s (List.mem_of_mem_take (i := 1) (l := L3) hs)) (HT.out _ HB9.out)).mono ?_
  rintro e w10 ⟨rfl, hb10⟩
  have rz1 := root_size [⟨#[97]⟩]
  have HB10 := Lib.hid (below1 HB9.out hb10)
  have HS10 := Lib.hid (HS9.out.below hb10); have HP10 := Lib.hid (HP9.out.below hb10); have HQ10 := Lib.hid (HQ9.out.below hb10)
  clear hb10 HS9 HP9 HQ9 HB9
  go_wp2_with fail
  refine (vex_any (root [⟨#[97]⟩]) R (1 : Nat) (3 : Nat) (by decide) (by decide) al2 2 2 X (by decide) (Nat.le_refl _) (by decide) _ HQ10.out (fun s hs => Nat.le_trans (xz.out s hs) (by decide)) (by rw [rz1]; decide) (by rw [rz]; decide) (HT.out _ HB10.out)).mono ?_
  rw [e1.out]
  rintro e w11 ⟨rfl, hb11⟩
  have HB11 := Lib.hid (below1 HB10.out hb11)
  have HS11 := Lib.hid (HS10.out.below hb11); have HP11 := Lib.hid (HP10.out.below hb11); have HQ11 := Lib.hid (HQ10.out.below hb11)
  clear hb11 HS10 HP10 HQ10 HB10
  go_wp2_with fail
  refine (root_at _ 2 3 [⟨#[97]⟩, ⟨#[98]⟩] _ (HS11.out.take (k := 2) (by omega)) (by omega) (by omega) c3 (fun s hs => L3_size s (List.mem_of_mem_take (i := 2) (l := L3) hs)) (HT.out _ HB11.out)).mono ?_
  rintro e w12 ⟨rfl, hb12⟩
  have rz2 := root_size [⟨#[97]⟩, ⟨#[98]⟩]
  have HB12 := Lib.hid (below1 HB11.out hb12)
  have HS12 := Lib.hid (HS11.out.below hb12); have HP12 := Lib.hid (HP11.out.below hb12); have HQ12 := Lib.hid (HQ11.out.below hb12)
  clear hb12 HS11 HP11 HQ11 HB11
  go_wp2_with fail
  refine (vex_any (root [⟨#[97]⟩, ⟨#[98]⟩]) R (1 : Nat) (3 : Nat) (by decide) (by decide) al2 2 2 X (by decide) (Nat.le_refl _) (by decide) _ HQ12.out (fun s hs => Nat.le_trans (xz.out s hs) (by decide)) (by rw [rz2]; decide) (by rw [rz]; decide) (HT.out _ HB12.out)).mono ?_
  rw [e2.out]
  rintro e w13 ⟨rfl, hb13⟩
  have HB13 := Lib.hid (below1 HB12.out hb13)
  clear hb13
  go_wp2_with fail
  go_ret
  exact ⟨rfl, HB13.out⟩
end Go.Proofs.YtiilkjonbfllfaaDoor
