/- BoW: walked. -/
import Derived.Test.YtipfafglbkbafaaDoorSa
namespace Go.Proofs.YtipfafglbkbafaaDoor
open Go.RowKit Go.Shelf
set_option linter.unusedVariables false
set_option linter.unusedSimpArgs false
theorem vr_c0 {B : Nat} {a b : Value} {t : TypeId} {W : World} (h : VR B #[a, b] t W) : W.cell? ⟨B, 0, none⟩ = some a := (row_cell h 0).trans rfl
theorem vr_c1 {B : Nat} {a b : Value} {t : TypeId} {W : World} (h : VR B #[a, b] t W) : W.cell? ⟨B, 1, none⟩ = some b := (row_cell h 1).trans rfl
theorem bo_low {cx cy zx zy : Nat} {r : Bool} (wd h : Nat) (hr : box cx cy wd h zx zy = r) (g : zy < cy) : false = r := by
  rw [← hr]; unfold box; rw [decide_eq_false (show ¬ cy ≤ zy by omega)]; simp
theorem bo_high {cx cy zx zy wd h ch : Nat} {r : Bool} (hr : box cx cy wd h zx zy = r) (hc : ch = cy + h) (g : ch ≤ zy) : false = r := by
  rw [← hr]; unfold box; rw [decide_eq_false (show ¬ zy < cy + h by omega)]; simp
theorem bo_mid {cx cy zx zy wd h ch mm : Nat} {r : Bool} (hr : box cx cy wd h zx zy = r) (hc : ch = cy + h) (hm : mm = (zx + (48 - cx)) % 48) (g : cy ≤ zy) (g' : zy < ch) : decide ((mm : Int) < (wd : Int)) = r := by
  rw [← hr]; unfold box; rw [decide_eq_true g, decide_eq_true (show zy < cy + h by omega), hm]
  rw [Bool.eq_iff_iff]; simp; omega
theorem bo_z (cx cy zx zy wd h : Nat) (hx : cx < 48) (hz : zx < 48) (hh : h + cy ≤ 24) : ∃ (ch : Nat) (s1 s2 : Int) (mm : Nat), IntKind.i64.wrap ((cy : Int) + (h : Int)) = (ch : Int) ∧ IntKind.i64.wrap ((zx : Int) + 48) = s1 ∧ IntKind.i64.wrap (s1 - (cx : Int)) = s2 ∧ s2.tmod 48 = (mm : Int) ∧ s2 % 48 = (mm : Int) ∧
    ch = cy + h ∧ mm = (zx + (48 - cx)) % 48 ∧ True := by
  refine ⟨cy + h, (zx : Int) + 48, (zx : Int) + 48 - (cx : Int), (zx + (48 - cx)) % 48, ?_, ?_, ?_, ?_, ?_, rfl, rfl, trivial⟩
  · rw [IntKind.wrap_i64]; omega
  · rw [IntKind.wrap_i64]; omega
  · rw [IntKind.wrap_i64]; omega
  · rw [Int.tmod_eq_emod_of_nonneg (by omega)]; omega
  · omega
theorem bo_h2 (cx cy wd h : Nat) (e : cy + h = 24) (hh : h + cy ≤ 24) : ∃ h2 : Nat, IntKind.i64.wrap ((h : Int) + 1) = (h2 : Int) ∧ boxB (cx : Int) (cy : Int) (wd : Int) (h2 : Int) = false := by
  refine ⟨h + 1, ?_, ?_⟩
  · rw [IntKind.wrap_i64]; omega
  · unfold boxB; simp; omega
theorem bo_ch {cy h ch k : Nat} (e : ch = cy + h) (hk : k + (cy + h) ≤ 24) : k + ch ≤ 24 := by omega
theorem bo_pile {cx cy wd h k ch hk : Nat} (e : ch = cy + h) (e2 : hk = h + k) : Eqv (orA (box cx cy wd h) (box cx ch wd k)) (box cx cy wd hk) := by
  subst e e2
  exact box_above
theorem bo_k (cx cy wd h : Nat) (N2 : Int) (e2 : N2 = ((24 - cy : Nat) : Int)) (z : Int) (z0 : -9223372036854775808 ≤ z) (z1 : z ≤ 9223372036854775807) (hh : cy + h < 24) : ∃ (k : Nat) (N3 : Int) (hk : Nat),
    (∀ w : World, Calls Tryd.prog 12 #[.int .i64 z, .int .i64 N3] w fun e w' => ∃ k0 : Nat, IntKind.i64.wrap (1 + (k0 : Int)) = (k : Int) ∧ e = .returned (.int .i64 (k0 : Nat)) ∧ Below w.heap.size w w') ∧
    IntKind.i64.wrap (N2 - (h : Int)) = N3 ∧ 1 ≤ k ∧ k + (cy + h) ≤ 24 ∧ IntKind.i64.wrap ((h : Int) + (k : Int)) = (hk : Int) ∧ 1 ≤ hk ∧ hk + cy ≤ 24 ∧ hk = h + k := by
  obtain ⟨i, hi, _, P⟩ := pickV z z0 z1 (24 - cy - h) (by omega) (by omega) ((24 - cy - h : Nat) : Int) rfl
  refine ⟨i + 1, ((24 - cy - h : Nat) : Int), h + (i + 1), fun w => (P w).mono fun e w' ⟨he, hb⟩ => ⟨i, ?_, he, hb⟩, ?_, ?_, ?_, ?_, ?_, ?_, rfl⟩
  · rw [IntKind.wrap_i64]; omega
  · rw [IntKind.wrap_i64]; omega
  · omega
  · omega
  · rw [IntKind.wrap_i64]; omega
  · omega
  · omega
theorem bo_ints (cx cy w1 v1 h1 : Nat) (hx : cx < 48) (hy : cy < 24) (hw : w1 < 47) (N1 N2 : Int) (e1 : N1 = ((48 - (w1 + 1) : Nat) : Int)) (e2 : N2 = ((24 - cy : Nat) : Int)) (hv : v1 < 48 - (w1 + 1)) (hh : h1 < 24 - cy) :
    ∃ (wd v h wv bx : Nat) (x1 : Int) (ca cb : Nat), (IntKind.i64.wrap (1 + (w1 : Int)) = (wd : Int) ∧ IntKind.i64.wrap (48 - (wd : Int)) = N1 ∧ IntKind.i64.wrap (1 + (v1 : Int)) = (v : Int) ∧ IntKind.i64.wrap (24 - (cy : Int)) = N2 ∧ IntKind.i64.wrap (1 + (h1 : Int)) = (h : Int) ∧
      IntKind.i64.wrap ((cx : Int) + (wd : Int)) = x1 ∧ x1.tmod 48 = (bx : Int) ∧ x1 % 48 = (bx : Int) ∧ IntKind.i64.wrap ((wd : Int) + (v : Int)) = (wv : Int) ∧ True) ∧
    (cx < 48 ∧ 1 ≤ wd ∧ wd ≤ 48 ∧ 1 ≤ h ∧ h + cy ≤ 24 ∧ bx < 48 ∧ 1 ≤ v ∧ v ≤ 48 ∧ 1 ≤ wv ∧ wv ≤ 48) ∧
    (count (box cx cy wd h) = ca ∧ count (box cx cy wv h) = cb ∧ IntKind.i64.wrap ((wd : Int) * (h : Int)) = (ca : Int) ∧ IntKind.i64.wrap ((wv : Int) * (h : Int)) = (cb : Int) ∧ Eqv (orA (box cx cy wd h) (box bx cy v h)) (box cx cy wv h)) := by
  have m1 : (w1 + 1) * (h1 + 1) ≤ 48 * 24 := Nat.mul_le_mul (by omega) (by omega)
  have m2 : (w1 + 1 + (v1 + 1)) * (h1 + 1) ≤ 48 * 24 := Nat.mul_le_mul (by omega) (by omega)
  refine ⟨w1 + 1, v1 + 1, h1 + 1, w1 + 1 + (v1 + 1), (cx + (w1 + 1)) % 48, (cx : Int) + ((w1 + 1 : Nat) : Int), _, _, ⟨?_, ?_, ?_, ?_, ?_, ?_, ?_, ?_, ?_, trivial⟩, ⟨hx, ?_, ?_, ?_, ?_, ?_, ?_, ?_, ?_, ?_⟩, ⟨count_box hx (by omega) (by omega), count_box hx (by omega) (by omega), ?_, ?_, box_beside hx (by omega)⟩⟩
  · rw [IntKind.wrap_i64]; omega
  · rw [IntKind.wrap_i64]; omega
  · rw [IntKind.wrap_i64]; omega
  · rw [IntKind.wrap_i64]; omega
  · rw [IntKind.wrap_i64]; omega
  · rw [IntKind.wrap_i64]; omega
  · rw [Int.tmod_eq_emod_of_nonneg (by omega)]; omega
  · omega
  · rw [IntKind.wrap_i64]; omega
  all_goals try omega
  · rw [← Int.natCast_mul, IntKind.wrap_i64]; omega
  · rw [← Int.natCast_mul, IntKind.wrap_i64]; omega
set_option maxRecDepth 100000 in
set_option maxHeartbeats 8000000 in
theorem boxes_any (y0 y1 z0 z1 one two low high : Int) (j00 : -9223372036854775808 ≤ y0) (j01 : y0 ≤ 9223372036854775807) (j10 : -9223372036854775808 ≤ y1) (j11 : y1 ≤ 9223372036854775807) (k00 : -9223372036854775808 ≤ z0) (k01 : z0 ≤ 9223372036854775807) (k10 : -9223372036854775808 ≤ z1) (k11 : z1 ≤ 9223372036854775807) (one0 : -9223372036854775808 ≤ one) (one1 : one ≤ 9223372036854775807) (two0 : -9223372036854775808 ≤ two) (two1 : two ≤ 9223372036854775807) (low0 : -9223372036854775808 ≤ low) (low1 : low ≤ 9223372036854775807) (high0 : -9223372036854775808 ≤ high) (high1 : high ≤ 9223372036854775807) (w : World) (hT : Tab w) :
    Calls Tryd.prog 8 #[.agg #[.int .i64 y0, .int .i64 y1], .agg #[.int .i64 z0, .int .i64 z1], .int .i64 one, .int .i64 two, .int .i64 low, .int .i64 high] w (OutV w (.bool true)) := by
  obtain ⟨w0, P, eA, eB, hbP, hkP⟩ := box1 w #[.int .i64 y0, .int .i64 y1] 35
  obtain ⟨w00, P2, eC, eD, hbP2, hkP2⟩ := box1 w0 #[.int .i64 z0, .int .i64 z1] 35
  have UC := Lib.hid ((up_vr hkP : Up w0 (VR P #[.int .i64 y0, .int .i64 y1] 35)).next hbP2)
  have UD := Lib.hid (up_vr hkP2 : Up w00 (VR P2 #[.int .i64 z0, .int .i64 z1] 35))
  have HU := Lib.hid (((up_vb (Below.refl w.heap.size w) hT : Up w (VB w)).next hbP).next hbP2)
  obtain ⟨cx, cy, hx48, hy24, PC⟩ := cellV y0 y1 j00 j01 j10 j11
  obtain ⟨zx, zy, hz48, hz24, PZ⟩ := cellV z0 z1 k00 k01 k10 k11
  have hzz := Lib.hid (show zx < 48 ∧ zy < 24 from ⟨hz48, hz24⟩)
  obtain ⟨w1, hw1, q1, PW⟩ := pickV one one0 one1 47 (by decide) (by decide) 47 rfl
  obtain ⟨N1, eN1⟩ : ∃ N : Int, N = ((48 - (w1 + 1) : Nat) : Int) := ⟨_, rfl⟩
  obtain ⟨v1, hv1, q2, PV⟩ := pickV two two0 two1 (48 - (w1 + 1)) (by omega) (by omega) N1 eN1
  obtain ⟨N2, eN2⟩ : ∃ N : Int, N = ((24 - cy : Nat) : Int) := ⟨_, rfl⟩
  obtain ⟨h1, hh1, q3, PH⟩ := pickV low low0 low1 (24 - cy) (by omega) (by omega) N2 eN2
  obtain ⟨wd, v, h, wv, bx, xx, ca, cb, HE, HR, HK⟩ := bo_ints cx cy w1 v1 h1 hx48 hy24 hw1 N1 N2 eN1 eN2 hv1 hh1
  have HN2 := Lib.hid eN2
  replace HE := Lib.hid HE
  replace HR := Lib.hid HR
  replace HK := Lib.hid HK
  replace PC := Lib.hid PC
  replace PZ := Lib.hid PZ
  replace PW := Lib.hid PW
  replace PV := Lib.hid PV
  replace PH := Lib.hid PH
  clear q1 q2 q3 eN1 eN2 hw1 hv1 hh1 hT hx48 hy24 hz48 hz24 j00 j01 j10 j11 k00 k01 k10 k11 hbP hkP hbP2 hkP2 one0 one1 two0 two1 low0 low1
  go_enter Tryd.func8, Tryd.ntmps8
  go_wp2_with fail
  clear eA eB eC eD
  (with_reducible refine (sane_any _ HU.out.now.2).mono ?_)
  rintro e w1 ⟨rfl, hb⟩
  replace HU := Lib.hid (HU.out.next hb)
  replace UC := Lib.hid (UC.out.next hb)
  replace UD := Lib.hid (UD.out.next hb)
  clear hb
  have hl0 := (row_cell UC.out.now 0).trans (show _ = some (.int .i64 y0) from rfl)
  have hl1 := (row_cell UC.out.now 1).trans (show _ = some (.int .i64 y1) from rfl)
  go_wp2_with fail
  clear hl0 hl1
  (with_reducible refine (PC.out _).mono ?_)
  rintro e w2 ⟨rfl, hb⟩
  replace HU := Lib.hid (HU.out.next hb)
  replace UC := Lib.hid (UC.out.next hb)
  replace UD := Lib.hid (UD.out.next hb)
  obtain ⟨x2, B2, e1, e2, hb2, hk⟩ := box1 w2 #[.int .i64 (cx : Int), .int .i64 (cy : Int)] 27
  have U2 := Lib.hid (up_vr hk : Up x2 (VR B2 #[.int .i64 (cx : Int), .int .i64 (cy : Int)] 27))
  replace HU := Lib.hid (HU.out.next hb2)
  replace UC := Lib.hid (UC.out.next hb2)
  replace UD := Lib.hid (UD.out.next hb2)
  clear hb hb2 hk
  have hl0 := (row_cell UD.out.now 0).trans (show _ = some (.int .i64 z0) from rfl)
  have hl1 := (row_cell UD.out.now 1).trans (show _ = some (.int .i64 z1) from rfl)
  go_wp2_with fail
  clear e1 e2
  clear hl0 hl1
  (with_reducible refine (PZ.out _).mono ?_)
  rintro e w3 ⟨rfl, hb⟩
  replace HU := Lib.hid (HU.out.next hb)
  replace UC := Lib.hid (UC.out.next hb)
  replace UD := Lib.hid (UD.out.next hb)
  replace U2 := Lib.hid (U2.out.next hb)
  obtain ⟨x3, B3, e1, e2, hb2, hk⟩ := box1 w3 #[.int .i64 (zx : Int), .int .i64 (zy : Int)] 27
  have U3 := Lib.hid (up_vr hk : Up x3 (VR B3 #[.int .i64 (zx : Int), .int .i64 (zy : Int)] 27))
  replace HU := Lib.hid (HU.out.next hb2)
  replace UC := Lib.hid (UC.out.next hb2)
  replace UD := Lib.hid (UD.out.next hb2)
  replace U2 := Lib.hid (U2.out.next hb2)
  clear hb hb2 hk
  go_wp2_with fail
  clear e1 e2
  (with_reducible refine (PW.out _).mono ?_)
  rintro e w4 ⟨rfl, hb⟩
  replace HU := Lib.hid (HU.out.next hb)
  replace UC := Lib.hid (UC.out.next hb)
  replace UD := Lib.hid (UD.out.next hb)
  replace U2 := Lib.hid (U2.out.next hb)
  replace U3 := Lib.hid (U3.out.next hb)
  clear hb
  have hl0 := HE.out.1
  have hl1 := HE.out.2.1
  go_wp2_with fail
  clear hl0 hl1
  (with_reducible refine (PV.out _).mono ?_)
  rintro e w5 ⟨rfl, hb⟩
  replace HU := Lib.hid (HU.out.next hb)
  replace UC := Lib.hid (UC.out.next hb)
  replace UD := Lib.hid (UD.out.next hb)
  replace U2 := Lib.hid (U2.out.next hb)
  replace U3 := Lib.hid (U3.out.next hb)
  clear hb
  have hl0 := (row_cell U2.out.now 0).trans (show _ = some (.int .i64 (cx : Int)) from rfl)
  have hl1 := (row_cell U2.out.now 1).trans (show _ = some (.int .i64 (cy : Int)) from rfl)
  have hl2 := HE.out.2.2.1
  have hl3 := HE.out.2.2.2.1
  go_wp2_with fail
  clear hl0 hl1 hl2 hl3
  (with_reducible refine (PH.out _).mono ?_)
  rintro e w6 ⟨rfl, hb⟩
  replace HU := Lib.hid (HU.out.next hb)
  replace UC := Lib.hid (UC.out.next hb)
  replace UD := Lib.hid (UD.out.next hb)
  replace U2 := Lib.hid (U2.out.next hb)
  replace U3 := Lib.hid (U3.out.next hb)
  clear hb
  have hl0 := (row_cell U2.out.now 0).trans (show _ = some (.int .i64 (cx : Int)) from rfl)
  have hl1 := (row_cell U2.out.now 1).trans (show _ = some (.int .i64 (cy : Int)) from rfl)
  have hl2 := HE.out.2.2.2.2.1
  go_wp2_with fail
  clear hl0 hl1 hl2
  (with_reducible refine (boxV _ cx cy wd h HR.out.1 HR.out.2.1 HR.out.2.2.1 HR.out.2.2.2.1 HR.out.2.2.2.2.1).mono ?_)
  rintro e w7 ⟨b7, o7, c7, rfl, hs, hb⟩
  replace HU := Lib.hid (HU.out.next hb)
  replace UC := Lib.hid (UC.out.next hb)
  replace UD := Lib.hid (UD.out.next hb)
  replace U2 := Lib.hid (U2.out.next hb)
  replace U3 := Lib.hid (U3.out.next hb)
  obtain ⟨x7, B7, e1, e2, hb2, hk⟩ := box1 w7 #[.slice (some ⟨b7, o7, none⟩) 24 c7] 25
  have U7 := Lib.hid (up_va (Sl.below hs (Nat.le_refl _) hb2) hk : Up x7 (VA B7 b7 o7 c7 (box cx cy wd h)))
  replace HU := Lib.hid (HU.out.next hb2)
  replace UC := Lib.hid (UC.out.next hb2)
  replace UD := Lib.hid (UD.out.next hb2)
  replace U2 := Lib.hid (U2.out.next hb2)
  replace U3 := Lib.hid (U3.out.next hb2)
  clear hs hb hb2 hk
  have hl0 := (row_cell U2.out.now 0).trans (show _ = some (.int .i64 (cx : Int)) from rfl)
  have hl1 := (row_cell U2.out.now 1).trans (show _ = some (.int .i64 (cy : Int)) from rfl)
  have hl2 := HE.out.2.2.2.2.2.1
  have hl3 := HE.out.2.2.2.2.2.2.1
  have hl4 := HE.out.2.2.2.2.2.2.2.1
  go_wp2_with fail
  clear e1 e2
  clear hl0 hl1 hl2 hl3 hl4
  (with_reducible refine (boxV _ bx cy v h HR.out.2.2.2.2.2.1 HR.out.2.2.2.2.2.2.1 HR.out.2.2.2.2.2.2.2.1 HR.out.2.2.2.1 HR.out.2.2.2.2.1).mono ?_)
  rintro e w8 ⟨b8, o8, c8, rfl, hs, hb⟩
  replace HU := Lib.hid (HU.out.next hb)
  replace UC := Lib.hid (UC.out.next hb)
  replace UD := Lib.hid (UD.out.next hb)
  replace U2 := Lib.hid (U2.out.next hb)
  replace U3 := Lib.hid (U3.out.next hb)
  replace U7 := Lib.hid (U7.out.next hb)
  obtain ⟨x8, B8, e1, e2, hb2, hk⟩ := box1 w8 #[.slice (some ⟨b8, o8, none⟩) 24 c8] 25
  have U8 := Lib.hid (up_va (Sl.below hs (Nat.le_refl _) hb2) hk : Up x8 (VA B8 b8 o8 c8 (box bx cy v h)))
  replace HU := Lib.hid (HU.out.next hb2)
  replace UC := Lib.hid (UC.out.next hb2)
  replace UD := Lib.hid (UD.out.next hb2)
  replace U2 := Lib.hid (U2.out.next hb2)
  replace U3 := Lib.hid (U3.out.next hb2)
  replace U7 := Lib.hid (U7.out.next hb2)
  clear hs hb hb2 hk
  have hl0 := U7.out.now.cell
  have hl1 := U8.out.now.cell
  go_wp2_with fail
  clear e1 e2
  clear hl0 hl1
  (with_reducible refine (unionV U7.out.now.1 U8.out.now.1).mono ?_)
  rintro e w9 ⟨b9, o9, c9, rfl, hs, hb⟩
  replace HU := Lib.hid (HU.out.next hb)
  replace UC := Lib.hid (UC.out.next hb)
  replace UD := Lib.hid (UD.out.next hb)
  replace U2 := Lib.hid (U2.out.next hb)
  replace U3 := Lib.hid (U3.out.next hb)
  replace U7 := Lib.hid (U7.out.next hb)
  replace U8 := Lib.hid (U8.out.next hb)
  obtain ⟨x9, B9, e1, e2, hb2, hk⟩ := box1 w9 #[.slice (some ⟨b9, o9, none⟩) 24 c9] 25
  have U9 := Lib.hid (up_va (Sl.below hs (Nat.le_refl _) hb2) hk : Up x9 (VA B9 b9 o9 c9 (orA (box cx cy wd h) (box bx cy v h))))
  replace HU := Lib.hid (HU.out.next hb2)
  replace UC := Lib.hid (UC.out.next hb2)
  replace UD := Lib.hid (UD.out.next hb2)
  replace U2 := Lib.hid (U2.out.next hb2)
  replace U3 := Lib.hid (U3.out.next hb2)
  replace U7 := Lib.hid (U7.out.next hb2)
  replace U8 := Lib.hid (U8.out.next hb2)
  clear hs hb hb2 hk
  have hl0 := (row_cell U2.out.now 0).trans (show _ = some (.int .i64 (cx : Int)) from rfl)
  have hl1 := (row_cell U2.out.now 1).trans (show _ = some (.int .i64 (cy : Int)) from rfl)
  have hl2 := HE.out.2.2.2.2.2.2.2.2.1
  go_wp2_with fail
  clear e1 e2
  clear hl0 hl1 hl2
  (with_reducible refine (boxV _ cx cy wv h HR.out.1 HR.out.2.2.2.2.2.2.2.2.1 HR.out.2.2.2.2.2.2.2.2.2 HR.out.2.2.2.1 HR.out.2.2.2.2.1).mono ?_)
  rintro e w10 ⟨b10, o10, c10, rfl, hs, hb⟩
  replace HU := Lib.hid (HU.out.next hb)
  replace UC := Lib.hid (UC.out.next hb)
  replace UD := Lib.hid (UD.out.next hb)
  replace U2 := Lib.hid (U2.out.next hb)
  replace U3 := Lib.hid (U3.out.next hb)
  replace U7 := Lib.hid (U7.out.next hb)
  replace U8 := Lib.hid (U8.out.next hb)
  replace U9 := Lib.hid (U9.out.next hb)
  obtain ⟨x10, B10, e1, e2, hb2, hk⟩ := box1 w10 #[.slice (some ⟨b10, o10, none⟩) 24 c10] 25
  have U10 := Lib.hid (up_va (Sl.below hs (Nat.le_refl _) hb2) hk : Up x10 (VA B10 b10 o10 c10 (box cx cy wv h)))
  replace HU := Lib.hid (HU.out.next hb2)
  replace UC := Lib.hid (UC.out.next hb2)
  replace UD := Lib.hid (UD.out.next hb2)
  replace U2 := Lib.hid (U2.out.next hb2)
  replace U3 := Lib.hid (U3.out.next hb2)
  replace U7 := Lib.hid (U7.out.next hb2)
  replace U8 := Lib.hid (U8.out.next hb2)
  replace U9 := Lib.hid (U9.out.next hb2)
  clear hs hb hb2 hk
  have hl0 := U7.out.now.cell
  go_wp2_with fail
  clear e1 e2
  clear hl0
  (with_reducible refine (s_count (n := ca) U7.out.now.1 (ca : Int) rfl HK.out.1).mono ?_)
  rintro e w11 ⟨rfl, hb⟩
  replace HU := Lib.hid (HU.out.next hb)
  replace UC := Lib.hid (UC.out.next hb)
  replace UD := Lib.hid (UD.out.next hb)
  replace U2 := Lib.hid (U2.out.next hb)
  replace U3 := Lib.hid (U3.out.next hb)
  replace U7 := Lib.hid (U7.out.next hb)
  replace U8 := Lib.hid (U8.out.next hb)
  replace U9 := Lib.hid (U9.out.next hb)
  replace U10 := Lib.hid (U10.out.next hb)
  clear hb
  have hl0 := U9.out.now.cell
  have hl1 := U10.out.now.cell
  have hl2 := HK.out.2.2.1
  go_wp2_with fail
  clear hl0 hl1 hl2
  (with_reducible refine (rsameV HK.out.2.2.2.2 U9.out.now.1 U10.out.now.1).mono ?_)
  rintro e w12 ⟨rfl, hb⟩
  replace HU := Lib.hid (HU.out.next hb)
  replace UC := Lib.hid (UC.out.next hb)
  replace UD := Lib.hid (UD.out.next hb)
  replace U2 := Lib.hid (U2.out.next hb)
  replace U3 := Lib.hid (U3.out.next hb)
  replace U7 := Lib.hid (U7.out.next hb)
  replace U8 := Lib.hid (U8.out.next hb)
  replace U9 := Lib.hid (U9.out.next hb)
  replace U10 := Lib.hid (U10.out.next hb)
  clear hb
  have hl0 := U10.out.now.cell
  go_wp2_with fail
  clear hl0
  (with_reducible refine (s_count (n := cb) U10.out.now.1 (cb : Int) rfl HK.out.2.1).mono ?_)
  rintro e w13 ⟨rfl, hb⟩
  replace HU := Lib.hid (HU.out.next hb)
  replace UC := Lib.hid (UC.out.next hb)
  replace UD := Lib.hid (UD.out.next hb)
  replace U2 := Lib.hid (U2.out.next hb)
  replace U3 := Lib.hid (U3.out.next hb)
  replace U7 := Lib.hid (U7.out.next hb)
  replace U8 := Lib.hid (U8.out.next hb)
  replace U9 := Lib.hid (U9.out.next hb)
  replace U10 := Lib.hid (U10.out.next hb)
  clear hb
  have hl1 := HE.out.2.2.2.2.2.2.2.2.1
  have hl2 := HK.out.2.2.2.1
  go_wp2
  clear hl1 hl2
  clear U8
  clear U9
  clear U10
  obtain ⟨r, hr⟩ : ∃ r, box cx cy wd h zx zy = r := ⟨_, rfl⟩
  obtain ⟨ch, s1, s2, mm, f1, f2, f3, f4, f5, f6, f7, f8⟩ := bo_z cx cy zx zy wd h HR.out.1 hzz.out.1 HR.out.2.2.2.2.1
  have HF := Lib.hid (show _ ∧ _ ∧ _ from ⟨f1, f6, f8⟩)
  have HR2 := Lib.hid hr
  rcases Nat.lt_or_ge zy cy with g1 | g1
  · have hq := bo_low wd h hr g1
    obtain rfl := hq
    have hq : ¬ ((cy : Int) ≤ (zy : Int)) := by omega
    clear hr
    clear f6 f7 f8
    have hd : Below w13.heap.size w13 w13.drew := (Below.refl _ _).drew
    replace HU := Lib.hid (HU.out.next hd)
    replace UC := Lib.hid (UC.out.next hd)
    replace UD := Lib.hid (UD.out.next hd)
    replace U2 := Lib.hid (U2.out.next hd)
    replace U3 := Lib.hid (U3.out.next hd)
    replace U7 := Lib.hid (U7.out.next hd)
    clear hd
    refine wp_region_held_drew (S := fun w' => w'.cell? ⟨B7, 0, none⟩ = some (.slice (some ⟨b7, o7, none⟩) 24 c7) ∧ w'.cell? ⟨B3, 0, none⟩ = some (.int .i64 (zx : Int)) ∧ w'.cell? ⟨B3, 1, none⟩ = some (.int .i64 (zy : Int)) ∧ w'.cell? ⟨B2, 0, none⟩ = some (.int .i64 (cx : Int)) ∧ w'.cell? ⟨B2, 1, none⟩ = some (.int .i64 (cy : Int))) (by kernel_rfl) ⟨U7.out.now.cell, vr_c0 U3.out.now, vr_c1 U3.out.now, vr_c0 U2.out.now, vr_c1 U2.out.now⟩ (fun hHeld => ?_)
    refine wpAnyH_take (i := 0) (oi := _) (v := ?_) rfl (by kernel_rfl) (by kernel_rfl) (by kernel_rfl) (fun _ _ _ h => h) (Or.inl ⟨by rfl, ?_⟩) (by assumption) ?_
    rotate_left 1
    · (intro w hSw; (try dsimp only at hSw); go_simp; try with_reducible rfl)
    try simp only [List.getElem_toArray, List.getElem_cons_zero, List.getElem_cons_succ, Act.put, List.setIfInBounds_toArray, List.set_cons_zero, List.set_cons_succ]
    refine wpAnyH_take (i := 1) (oi := _) (v := ?_) rfl (by kernel_rfl) (by kernel_rfl) (by kernel_rfl) (fun _ _ _ h => h) (Or.inl ⟨by rfl, ?_⟩) (by assumption) ?_
    rotate_left 1
    · (intro w hSw; (try dsimp only at hSw); go_simp; try with_reducible rfl)
    try simp only [List.getElem_toArray, List.getElem_cons_zero, List.getElem_cons_succ, Act.put, List.setIfInBounds_toArray, List.set_cons_zero, List.set_cons_succ]
    refine wpAnyH_take (i := 3) (oi := _) (v := ?_) rfl (by kernel_rfl) (by kernel_rfl) (by kernel_rfl) (fun _ _ _ h => h) (Or.inl ⟨by rfl, ?_⟩) (by assumption) ?_
    rotate_left 1
    · (intro w hSw; (try dsimp only at hSw); go_simp; try with_reducible rfl)
    try simp only [List.getElem_toArray, List.getElem_cons_zero, List.getElem_cons_succ, Act.put, List.setIfInBounds_toArray, List.set_cons_zero, List.set_cons_succ]
    refine wpAnyH_take (i := 4) (oi := _) (v := ?_) rfl (by kernel_rfl) (by kernel_rfl) (by kernel_rfl) (fun _ _ _ h => h) (Or.inl ⟨by rfl, ?_⟩) (by assumption) ?_
    rotate_left 1
    · (intro w hSw; (try dsimp only at hSw); go_simp; try with_reducible rfl)
    try simp only [List.getElem_toArray, List.getElem_cons_zero, List.getElem_cons_succ, Act.put, List.setIfInBounds_toArray, List.set_cons_zero, List.set_cons_succ]
    refine wpAnyH_take (i := 5) (oi := _) (v := ?_) rfl (by kernel_rfl) (by kernel_rfl) (by kernel_rfl) (fun _ _ _ h => h) (Or.inl ⟨by rfl, ?_⟩) (by assumption) ?_
    rotate_left 1
    · (intro w hSw; (try dsimp only at hSw); go_simp; try with_reducible rfl)
    try simp only [List.getElem_toArray, List.getElem_cons_zero, List.getElem_cons_succ, Act.put, List.setIfInBounds_toArray, List.set_cons_zero, List.set_cons_succ]
    refine wpAnyH_take (i := 6) (oi := _) (v := ?_) rfl (by kernel_rfl) (by kernel_rfl) (by kernel_rfl) (fun _ _ _ h => h) (Or.inl ⟨by rfl, ?_⟩) (by assumption) ?_
    rotate_left 1
    · (intro w hSw; (try dsimp only at hSw); go_simp; try with_reducible rfl)
    try simp only [List.getElem_toArray, List.getElem_cons_zero, List.getElem_cons_succ, Act.put, List.setIfInBounds_toArray, List.set_cons_zero, List.set_cons_succ]
    refine wpAnyH_take (i := 7) (oi := _) (v := ?_) rfl (by kernel_rfl) (by kernel_rfl) (by kernel_rfl) (fun _ _ _ h => h) (Or.inl ⟨by rfl, ?_⟩) (by assumption) ?_
    rotate_left 1
    · (intro w hSw; (try dsimp only at hSw); go_simp; try with_reducible rfl)
    try simp only [List.getElem_toArray, List.getElem_cons_zero, List.getElem_cons_succ, Act.put, List.setIfInBounds_toArray, List.set_cons_zero, List.set_cons_succ]
    refine wpAnyH_ready (rs := [2]) (by kernel_rfl) (by simp) ?_
    refine AllReadyH.cons (o := _) rfl (fun K hK => ?_) AllReadyH.nil
    rw [if_pos (by kernel_rfl)]
    simp only [List.getElem_toArray, List.getElem_cons_zero, List.getElem_cons_succ]
    go_simp
    (with_reducible refine ((hasV zx zy hzz.out.1 hzz.out.2 U7.out.now.1).mono (OutV.as (congrArg Value.bool HR2.out))).mono ?_)
    rintro e w14 ⟨rfl, hb⟩
    replace HU := Lib.hid (HU.out.next hb)
    replace UC := Lib.hid (UC.out.next hb)
    replace UD := Lib.hid (UD.out.next hb)
    replace U2 := Lib.hid (U2.out.next hb)
    replace U3 := Lib.hid (U3.out.next hb)
    replace U7 := Lib.hid (U7.out.next hb)
    clear hb hHeld
    refine hK.out _ _ ⟨U7.out.now.cell, vr_c0 U3.out.now, vr_c1 U3.out.now, vr_c0 U2.out.now, vr_c1 U2.out.now⟩ (fun hHeld => ?_)
    clear hK K
    try simp only [List.getElem_toArray, List.getElem_cons_zero, List.getElem_cons_succ, Act.put, List.setIfInBounds_toArray, List.set_cons_zero, List.set_cons_succ]
    refine wpAnyH_take (i := 8) (oi := _) (v := ?_) rfl (by kernel_rfl) (by kernel_rfl) (by kernel_rfl) (fun _ _ _ h => h) (Or.inl ⟨by rfl, ?_⟩) (by assumption) ?_
    rotate_left 1
    · (intro w hSw; (try dsimp only at hSw); go_simp; try with_reducible rfl)
    try simp only [List.getElem_toArray, List.getElem_cons_zero, List.getElem_cons_succ, Act.put, List.setIfInBounds_toArray, List.set_cons_zero, List.set_cons_succ]
    refine wpAnyH_take (i := 9) (oi := _) (v := undef) rfl (by kernel_rfl) (by kernel_rfl) (by kernel_rfl) (fun _ _ _ h => h) (Or.inr ⟨by rfl, rfl⟩) (by assumption) ?_
    try simp only [List.getElem_toArray, List.getElem_cons_zero, List.getElem_cons_succ, Act.put, List.setIfInBounds_toArray, List.set_cons_zero, List.set_cons_succ]
    refine wpAnyH_take (i := 10) (oi := _) (v := undef) rfl (by kernel_rfl) (by kernel_rfl) (by kernel_rfl) (fun _ _ _ h => h) (Or.inr ⟨by rfl, rfl⟩) (by assumption) ?_
    try simp only [List.getElem_toArray, List.getElem_cons_zero, List.getElem_cons_succ, Act.put, List.setIfInBounds_toArray, List.set_cons_zero, List.set_cons_succ]
    refine wpAnyH_take (i := 11) (oi := _) (v := undef) rfl (by kernel_rfl) (by kernel_rfl) (by kernel_rfl) (fun _ _ _ h => h) (Or.inr ⟨by rfl, rfl⟩) (by assumption) ?_
    try simp only [List.getElem_toArray, List.getElem_cons_zero, List.getElem_cons_succ, Act.put, List.setIfInBounds_toArray, List.set_cons_zero, List.set_cons_succ]
    refine wpAnyH_take (i := 12) (oi := _) (v := undef) rfl (by kernel_rfl) (by kernel_rfl) (by kernel_rfl) (fun _ _ _ h => h) (Or.inr ⟨by rfl, rfl⟩) (by assumption) ?_
    try simp only [List.getElem_toArray, List.getElem_cons_zero, List.getElem_cons_succ, Act.put, List.setIfInBounds_toArray, List.set_cons_zero, List.set_cons_succ]
    refine wpAnyH_take (i := 13) (oi := _) (v := undef) rfl (by kernel_rfl) (by kernel_rfl) (by kernel_rfl) (fun _ _ _ h => h) (Or.inr ⟨by rfl, rfl⟩) (by assumption) ?_
    try simp only [List.getElem_toArray, List.getElem_cons_zero, List.getElem_cons_succ, Act.put, List.setIfInBounds_toArray, List.set_cons_zero, List.set_cons_succ]
    refine wpAnyH_take (i := 14) (oi := _) (v := undef) rfl (by kernel_rfl) (by kernel_rfl) (by kernel_rfl) (fun _ _ _ h => h) (Or.inr ⟨by rfl, rfl⟩) (by assumption) ?_
    try simp only [List.getElem_toArray, List.getElem_cons_zero, List.getElem_cons_succ, Act.put, List.setIfInBounds_toArray, List.set_cons_zero, List.set_cons_succ]
    refine wpAnyH_take (i := 15) (oi := _) (v := undef) rfl (by kernel_rfl) (by kernel_rfl) (by kernel_rfl) (fun _ _ _ h => h) (Or.inr ⟨by rfl, rfl⟩) (by assumption) ?_
    try simp only [List.getElem_toArray, List.getElem_cons_zero, List.getElem_cons_succ, Act.put, List.setIfInBounds_toArray, List.set_cons_zero, List.set_cons_succ]
    refine wpAnyH_take (i := 16) (oi := _) (v := ?_) rfl (by kernel_rfl) (by kernel_rfl) (by kernel_rfl) (fun _ _ _ h => h) (Or.inl ⟨by rfl, ?_⟩) (by assumption) ?_
    rotate_left 1
    · (intro w hSw; (try dsimp only at hSw); go_simp; try with_reducible rfl)
    try simp only [List.getElem_toArray, List.getElem_cons_zero, List.getElem_cons_succ, Act.put, List.setIfInBounds_toArray, List.set_cons_zero, List.set_cons_succ]
    refine wpAnyH_take (i := 17) (oi := _) (v := ?_) rfl (by kernel_rfl) (by kernel_rfl) (by kernel_rfl) (fun _ _ _ h => h) (Or.inl ⟨by rfl, ?_⟩) (by assumption) ?_
    rotate_left 1
    · (intro w hSw; (try dsimp only at hSw); go_simp; try with_reducible rfl)
    try simp only [List.getElem_toArray, List.getElem_cons_zero, List.getElem_cons_succ, Act.put, List.setIfInBounds_toArray, List.set_cons_zero, List.set_cons_succ]
    refine wpAnyH_take (i := 18) (oi := _) (v := undef) rfl (by kernel_rfl) (by kernel_rfl) (by kernel_rfl) (fun _ _ _ h => h) (Or.inr ⟨by rfl, rfl⟩) (by assumption) ?_
    try simp only [List.getElem_toArray, List.getElem_cons_zero, List.getElem_cons_succ, Act.put, List.setIfInBounds_toArray, List.set_cons_zero, List.set_cons_succ]
    refine wpAnyH_take (i := 19) (oi := _) (v := undef) rfl (by kernel_rfl) (by kernel_rfl) (by kernel_rfl) (fun _ _ _ h => h) (Or.inr ⟨by rfl, rfl⟩) (by assumption) ?_
    try simp only [List.getElem_toArray, List.getElem_cons_zero, List.getElem_cons_succ, Act.put, List.setIfInBounds_toArray, List.set_cons_zero, List.set_cons_succ]
    refine wpAnyH_take (i := 20) (oi := _) (v := undef) rfl (by kernel_rfl) (by kernel_rfl) (by kernel_rfl) (fun _ _ _ h => h) (Or.inr ⟨by rfl, rfl⟩) (by assumption) ?_
    try simp only [List.getElem_toArray, List.getElem_cons_zero, List.getElem_cons_succ, Act.put, List.setIfInBounds_toArray, List.set_cons_zero, List.set_cons_succ]
    refine wpAnyH_take (i := 21) (oi := _) (v := undef) rfl (by kernel_rfl) (by kernel_rfl) (by kernel_rfl) (fun _ _ _ h => h) (Or.inr ⟨by rfl, rfl⟩) (by assumption) ?_
    try simp only [List.getElem_toArray, List.getElem_cons_zero, List.getElem_cons_succ, Act.put, List.setIfInBounds_toArray, List.set_cons_zero, List.set_cons_succ]
    refine wpAnyH_take (i := 22) (oi := _) (v := undef) rfl (by kernel_rfl) (by kernel_rfl) (by kernel_rfl) (fun _ _ _ h => h) (Or.inr ⟨by rfl, rfl⟩) (by assumption) ?_
    try simp only [List.getElem_toArray, List.getElem_cons_zero, List.getElem_cons_succ, Act.put, List.setIfInBounds_toArray, List.set_cons_zero, List.set_cons_succ]
    refine wpAnyH_take (i := 23) (oi := _) (v := undef) rfl (by kernel_rfl) (by kernel_rfl) (by kernel_rfl) (fun _ _ _ h => h) (Or.inr ⟨by rfl, rfl⟩) (by assumption) ?_
    try simp only [List.getElem_toArray, List.getElem_cons_zero, List.getElem_cons_succ, Act.put, List.setIfInBounds_toArray, List.set_cons_zero, List.set_cons_succ]
    refine wpAnyH_take (i := 24) (oi := _) (v := undef) rfl (by kernel_rfl) (by kernel_rfl) (by kernel_rfl) (fun _ _ _ h => h) (Or.inr ⟨by rfl, rfl⟩) (by assumption) ?_
    try simp only [List.getElem_toArray, List.getElem_cons_zero, List.getElem_cons_succ, Act.put, List.setIfInBounds_toArray, List.set_cons_zero, List.set_cons_succ]
    refine wpAnyH_take (i := 25) (oi := _) (v := undef) rfl (by kernel_rfl) (by kernel_rfl) (by kernel_rfl) (fun _ _ _ h => h) (Or.inr ⟨by rfl, rfl⟩) (by assumption) ?_
    try simp only [List.getElem_toArray, List.getElem_cons_zero, List.getElem_cons_succ, Act.put, List.setIfInBounds_toArray, List.set_cons_zero, List.set_cons_succ]
    refine wpAnyH_take (i := 26) (oi := _) (v := undef) rfl (by kernel_rfl) (by kernel_rfl) (by kernel_rfl) (fun _ _ _ h => h) (Or.inr ⟨by rfl, rfl⟩) (by assumption) ?_
    try simp only [List.getElem_toArray, List.getElem_cons_zero, List.getElem_cons_succ, Act.put, List.setIfInBounds_toArray, List.set_cons_zero, List.set_cons_succ]
    refine wpAnyH_take (i := 27) (oi := _) (v := ?_) rfl (by kernel_rfl) (by kernel_rfl) (by kernel_rfl) (fun _ _ _ h => h) (Or.inl ⟨by rfl, ?_⟩) (by assumption) ?_
    rotate_left 1
    · (intro w hSw; (try dsimp only at hSw); go_simp; try with_reducible rfl)
    try simp only [List.getElem_toArray, List.getElem_cons_zero, List.getElem_cons_succ, Act.put, List.setIfInBounds_toArray, List.set_cons_zero, List.set_cons_succ]
    refine wpAnyH_take (i := 28) (oi := _) (v := ?_) rfl (by kernel_rfl) (by kernel_rfl) (by kernel_rfl) (fun _ _ _ h => h) (Or.inl ⟨by rfl, ?_⟩) (by assumption) ?_
    rotate_left 1
    · (intro w hSw; (try dsimp only at hSw); go_simp; try with_reducible rfl)
    try simp only [List.getElem_toArray, List.getElem_cons_zero, List.getElem_cons_succ, Act.put, List.setIfInBounds_toArray, List.set_cons_zero, List.set_cons_succ]
    refine wpAnyH_done (by kernel_rfl) ?_ _
    clear f1 f2 f3 f4 f5 g1 hq
    rcases Nat.lt_or_ge ch 24 with g3 | g3
    · have hc1 : ((ch : Int) == 24) = false := by rw [beq_eq_false_iff_ne]; omega
      have hc2 : ¬ ((ch : Int) = 24) := by omega
      have g4 := Lib.hid (show cy + h < 24 from by rw [← HF.out.2.1]; exact g3)
      clear g3
      obtain ⟨k, N3, ht, PK, k2⟩ := bo_k cx cy wd h N2 HN2.out high high0 high1 g4.out
      replace PK := Lib.hid PK
      replace k2 := Lib.hid k2
      have hl0 := (row_cell U2.out.now 0).trans (show _ = some (.int .i64 (cx : Int)) from rfl)
      have hl1 := (row_cell U2.out.now 1).trans (show _ = some (.int .i64 (cy : Int)) from rfl)
      have hl2 := HF.out.1
      have hl3 := HE.out.2.2.2.1
      have hl4 := k2.out.1
      go_wp2_with fail
      clear hl0 hl1 hl2 hl3 hl4
      clear hc1 hc2
      (with_reducible refine (PK.out _).mono ?_)
      rintro e w15 ⟨k0, ek, rfl, hb⟩
      replace HU := Lib.hid (HU.out.next hb)
      replace UC := Lib.hid (UC.out.next hb)
      replace UD := Lib.hid (UD.out.next hb)
      replace U2 := Lib.hid (U2.out.next hb)
      replace U3 := Lib.hid (U3.out.next hb)
      replace U7 := Lib.hid (U7.out.next hb)
      clear hb
      have hl0 := (row_cell U2.out.now 0).trans (show _ = some (.int .i64 (cx : Int)) from rfl)
      have hl1 := (row_cell U2.out.now 1).trans (show _ = some (.int .i64 (cy : Int)) from rfl)
      have hl2 := HF.out.1
      have hl3 := ek
      go_wp2_with fail
      clear hl0 hl1 hl2 hl3
      clear ek
      (with_reducible refine (boxV _ cx ch wd k HR.out.1 HR.out.2.1 HR.out.2.2.1 k2.out.2.1 (bo_ch HF.out.2.1 k2.out.2.2.1)).mono ?_)
      rintro e w16 ⟨b16, o16, c16, rfl, hs, hb⟩
      replace HU := Lib.hid (HU.out.next hb)
      replace UC := Lib.hid (UC.out.next hb)
      replace UD := Lib.hid (UD.out.next hb)
      replace U2 := Lib.hid (U2.out.next hb)
      replace U3 := Lib.hid (U3.out.next hb)
      replace U7 := Lib.hid (U7.out.next hb)
      obtain ⟨x16, B16, e1, e2, hb2, hk⟩ := box1 w16 #[.slice (some ⟨b16, o16, none⟩) 24 c16] 25
      have U16 := Lib.hid (up_va (Sl.below hs (Nat.le_refl _) hb2) hk : Up x16 (VA B16 b16 o16 c16 (box cx ch wd k)))
      replace HU := Lib.hid (HU.out.next hb2)
      replace UC := Lib.hid (UC.out.next hb2)
      replace UD := Lib.hid (UD.out.next hb2)
      replace U2 := Lib.hid (U2.out.next hb2)
      replace U3 := Lib.hid (U3.out.next hb2)
      replace U7 := Lib.hid (U7.out.next hb2)
      clear hs hb hb2 hk
      have hl0 := (row_cell U2.out.now 0).trans (show _ = some (.int .i64 (cx : Int)) from rfl)
      have hl1 := (row_cell U2.out.now 1).trans (show _ = some (.int .i64 (cy : Int)) from rfl)
      have hl2 := k2.out.2.2.2.1
      go_wp2_with fail
      clear e1 e2
      clear hl0 hl1 hl2
      (with_reducible refine (boxV _ cx cy wd ht HR.out.1 HR.out.2.1 HR.out.2.2.1 k2.out.2.2.2.2.1 k2.out.2.2.2.2.2.1).mono ?_)
      rintro e w17 ⟨b17, o17, c17, rfl, hs, hb⟩
      replace HU := Lib.hid (HU.out.next hb)
      replace UC := Lib.hid (UC.out.next hb)
      replace UD := Lib.hid (UD.out.next hb)
      replace U2 := Lib.hid (U2.out.next hb)
      replace U3 := Lib.hid (U3.out.next hb)
      replace U7 := Lib.hid (U7.out.next hb)
      replace U16 := Lib.hid (U16.out.next hb)
      obtain ⟨x17, B17, e1, e2, hb2, hk⟩ := box1 w17 #[.slice (some ⟨b17, o17, none⟩) 24 c17] 25
      have U17 := Lib.hid (up_va (Sl.below hs (Nat.le_refl _) hb2) hk : Up x17 (VA B17 b17 o17 c17 (box cx cy wd ht)))
      replace HU := Lib.hid (HU.out.next hb2)
      replace UC := Lib.hid (UC.out.next hb2)
      replace UD := Lib.hid (UD.out.next hb2)
      replace U2 := Lib.hid (U2.out.next hb2)
      replace U3 := Lib.hid (U3.out.next hb2)
      replace U7 := Lib.hid (U7.out.next hb2)
      replace U16 := Lib.hid (U16.out.next hb2)
      clear hs hb hb2 hk
      have hl0 := U7.out.now.cell
      have hl1 := U16.out.now.cell
      go_wp2_with fail
      clear e1 e2
      clear hl0 hl1
      (with_reducible refine (unionV U7.out.now.1 U16.out.now.1).mono ?_)
      rintro e w18 ⟨b18, o18, c18, rfl, hs, hb⟩
      replace HU := Lib.hid (HU.out.next hb)
      replace UC := Lib.hid (UC.out.next hb)
      replace UD := Lib.hid (UD.out.next hb)
      replace U2 := Lib.hid (U2.out.next hb)
      replace U3 := Lib.hid (U3.out.next hb)
      replace U7 := Lib.hid (U7.out.next hb)
      replace U16 := Lib.hid (U16.out.next hb)
      replace U17 := Lib.hid (U17.out.next hb)
      obtain ⟨x18, B18, e1, e2, hb2, hk⟩ := box1 w18 #[.slice (some ⟨b18, o18, none⟩) 24 c18] 25
      have U18 := Lib.hid (up_va (Sl.below hs (Nat.le_refl _) hb2) hk : Up x18 (VA B18 b18 o18 c18 (orA (box cx cy wd h) (box cx ch wd k))))
      replace HU := Lib.hid (HU.out.next hb2)
      replace UC := Lib.hid (UC.out.next hb2)
      replace UD := Lib.hid (UD.out.next hb2)
      replace U2 := Lib.hid (U2.out.next hb2)
      replace U3 := Lib.hid (U3.out.next hb2)
      replace U7 := Lib.hid (U7.out.next hb2)
      replace U16 := Lib.hid (U16.out.next hb2)
      replace U17 := Lib.hid (U17.out.next hb2)
      clear hs hb hb2 hk
      have hl0 := U18.out.now.cell
      have hl1 := U17.out.now.cell
      go_wp2_with fail
      clear e1 e2
      clear hl0 hl1
      (with_reducible refine (rsameV (bo_pile HF.out.2.1 k2.out.2.2.2.2.2.2) U18.out.now.1 U17.out.now.1).mono ?_)
      rintro e w19 ⟨rfl, hb⟩
      replace HU := Lib.hid (HU.out.next hb)
      replace UC := Lib.hid (UC.out.next hb)
      replace UD := Lib.hid (UD.out.next hb)
      replace U2 := Lib.hid (U2.out.next hb)
      replace U3 := Lib.hid (U3.out.next hb)
      replace U7 := Lib.hid (U7.out.next hb)
      replace U16 := Lib.hid (U16.out.next hb)
      replace U17 := Lib.hid (U17.out.next hb)
      replace U18 := Lib.hid (U18.out.next hb)
      clear hb
      go_wp2
      go_ret
      exact ⟨rfl, HU.out.now.1⟩
    · have g4 := Lib.hid (show ch = 24 from by have := HF.out.2.1; have := HR.out.2.2.2.2.1; omega)
      clear g3
      have hc1 : (ch : Int) = 24 := by rw [g4.out]; rfl
      obtain ⟨h2, k1, k2⟩ := bo_h2 cx cy wd h (show cy + h = 24 from by rw [← HF.out.2.1]; exact g4.out) HR.out.2.2.2.2.1
      replace k2 := Lib.hid k2
      have hl0 := (row_cell U2.out.now 0).trans (show _ = some (.int .i64 (cx : Int)) from rfl)
      have hl1 := (row_cell U2.out.now 1).trans (show _ = some (.int .i64 (cy : Int)) from rfl)
      have hl2 := HF.out.1
      have hl3 := k1
      go_wp2_with fail
      clear hl0 hl1 hl2 hl3
      clear hc1 k1
      (with_reducible refine (boxX _ (cx : Int) (cy : Int) (wd : Int) (h2 : Int) k2.out).mono ?_)
      rintro e w15 ⟨c15, al15, rfl, hb⟩
      replace HU := Lib.hid (HU.out.next hb)
      replace UC := Lib.hid (UC.out.next hb)
      replace UD := Lib.hid (UD.out.next hb)
      replace U2 := Lib.hid (U2.out.next hb)
      replace U3 := Lib.hid (U3.out.next hb)
      replace U7 := Lib.hid (U7.out.next hb)
      clear hb
      go_wp2
      go_ret
      exact ⟨rfl, HU.out.now.1⟩
  · have gI : (cy : Int) ≤ (zy : Int) := by omega
    rcases Nat.lt_or_ge zy ch with g2 | g2
    · have gJ : (zy : Int) < (ch : Int) := by omega
      rcases Nat.lt_or_ge mm wd with gK | gK
      · have hq := (decide_eq_true (show (mm : Int) < (wd : Int) by omega)).symm.trans (bo_mid hr f6 f7 g1 g2)
        obtain rfl := hq
        have hq : (mm : Int) < (wd : Int) := by omega
        clear hr gK
        clear f6 f7 f8
        have hd : Below w13.heap.size w13 w13.drew := (Below.refl _ _).drew
        replace HU := Lib.hid (HU.out.next hd)
        replace UC := Lib.hid (UC.out.next hd)
        replace UD := Lib.hid (UD.out.next hd)
        replace U2 := Lib.hid (U2.out.next hd)
        replace U3 := Lib.hid (U3.out.next hd)
        replace U7 := Lib.hid (U7.out.next hd)
        clear hd
        refine wp_region_held_drew (S := fun w' => w'.cell? ⟨B7, 0, none⟩ = some (.slice (some ⟨b7, o7, none⟩) 24 c7) ∧ w'.cell? ⟨B3, 0, none⟩ = some (.int .i64 (zx : Int)) ∧ w'.cell? ⟨B3, 1, none⟩ = some (.int .i64 (zy : Int)) ∧ w'.cell? ⟨B2, 0, none⟩ = some (.int .i64 (cx : Int)) ∧ w'.cell? ⟨B2, 1, none⟩ = some (.int .i64 (cy : Int))) (by kernel_rfl) ⟨U7.out.now.cell, vr_c0 U3.out.now, vr_c1 U3.out.now, vr_c0 U2.out.now, vr_c1 U2.out.now⟩ (fun hHeld => ?_)
        refine wpAnyH_take (i := 0) (oi := _) (v := ?_) rfl (by kernel_rfl) (by kernel_rfl) (by kernel_rfl) (fun _ _ _ h => h) (Or.inl ⟨by rfl, ?_⟩) (by assumption) ?_
        rotate_left 1
        · (intro w hSw; (try dsimp only at hSw); go_simp; try with_reducible rfl)
        try simp only [List.getElem_toArray, List.getElem_cons_zero, List.getElem_cons_succ, Act.put, List.setIfInBounds_toArray, List.set_cons_zero, List.set_cons_succ]
        refine wpAnyH_take (i := 1) (oi := _) (v := ?_) rfl (by kernel_rfl) (by kernel_rfl) (by kernel_rfl) (fun _ _ _ h => h) (Or.inl ⟨by rfl, ?_⟩) (by assumption) ?_
        rotate_left 1
        · (intro w hSw; (try dsimp only at hSw); go_simp; try with_reducible rfl)
        try simp only [List.getElem_toArray, List.getElem_cons_zero, List.getElem_cons_succ, Act.put, List.setIfInBounds_toArray, List.set_cons_zero, List.set_cons_succ]
        refine wpAnyH_take (i := 3) (oi := _) (v := ?_) rfl (by kernel_rfl) (by kernel_rfl) (by kernel_rfl) (fun _ _ _ h => h) (Or.inl ⟨by rfl, ?_⟩) (by assumption) ?_
        rotate_left 1
        · (intro w hSw; (try dsimp only at hSw); go_simp; try with_reducible rfl)
        try simp only [List.getElem_toArray, List.getElem_cons_zero, List.getElem_cons_succ, Act.put, List.setIfInBounds_toArray, List.set_cons_zero, List.set_cons_succ]
        refine wpAnyH_take (i := 4) (oi := _) (v := ?_) rfl (by kernel_rfl) (by kernel_rfl) (by kernel_rfl) (fun _ _ _ h => h) (Or.inl ⟨by rfl, ?_⟩) (by assumption) ?_
        rotate_left 1
        · (intro w hSw; (try dsimp only at hSw); go_simp; try with_reducible rfl)
        try simp only [List.getElem_toArray, List.getElem_cons_zero, List.getElem_cons_succ, Act.put, List.setIfInBounds_toArray, List.set_cons_zero, List.set_cons_succ]
        refine wpAnyH_take (i := 5) (oi := _) (v := ?_) rfl (by kernel_rfl) (by kernel_rfl) (by kernel_rfl) (fun _ _ _ h => h) (Or.inl ⟨by rfl, ?_⟩) (by assumption) ?_
        rotate_left 1
        · (intro w hSw; (try dsimp only at hSw); go_simp; try with_reducible rfl)
        try simp only [List.getElem_toArray, List.getElem_cons_zero, List.getElem_cons_succ, Act.put, List.setIfInBounds_toArray, List.set_cons_zero, List.set_cons_succ]
        refine wpAnyH_take (i := 6) (oi := _) (v := ?_) rfl (by kernel_rfl) (by kernel_rfl) (by kernel_rfl) (fun _ _ _ h => h) (Or.inl ⟨by rfl, ?_⟩) (by assumption) ?_
        rotate_left 1
        · (intro w hSw; (try dsimp only at hSw); go_simp; try with_reducible rfl)
        try simp only [List.getElem_toArray, List.getElem_cons_zero, List.getElem_cons_succ, Act.put, List.setIfInBounds_toArray, List.set_cons_zero, List.set_cons_succ]
        refine wpAnyH_take (i := 7) (oi := _) (v := ?_) rfl (by kernel_rfl) (by kernel_rfl) (by kernel_rfl) (fun _ _ _ h => h) (Or.inl ⟨by rfl, ?_⟩) (by assumption) ?_
        rotate_left 1
        · (intro w hSw; (try dsimp only at hSw); go_simp; try with_reducible rfl)
        try simp only [List.getElem_toArray, List.getElem_cons_zero, List.getElem_cons_succ, Act.put, List.setIfInBounds_toArray, List.set_cons_zero, List.set_cons_succ]
        refine wpAnyH_ready (rs := [2]) (by kernel_rfl) (by simp) ?_
        refine AllReadyH.cons (o := _) rfl (fun K hK => ?_) AllReadyH.nil
        rw [if_pos (by kernel_rfl)]
        simp only [List.getElem_toArray, List.getElem_cons_zero, List.getElem_cons_succ]
        go_simp
        (with_reducible refine ((hasV zx zy hzz.out.1 hzz.out.2 U7.out.now.1).mono (OutV.as (congrArg Value.bool HR2.out))).mono ?_)
        rintro e w14 ⟨rfl, hb⟩
        replace HU := Lib.hid (HU.out.next hb)
        replace UC := Lib.hid (UC.out.next hb)
        replace UD := Lib.hid (UD.out.next hb)
        replace U2 := Lib.hid (U2.out.next hb)
        replace U3 := Lib.hid (U3.out.next hb)
        replace U7 := Lib.hid (U7.out.next hb)
        clear hb hHeld
        refine hK.out _ _ ⟨U7.out.now.cell, vr_c0 U3.out.now, vr_c1 U3.out.now, vr_c0 U2.out.now, vr_c1 U2.out.now⟩ (fun hHeld => ?_)
        clear hK K
        try simp only [List.getElem_toArray, List.getElem_cons_zero, List.getElem_cons_succ, Act.put, List.setIfInBounds_toArray, List.set_cons_zero, List.set_cons_succ]
        refine wpAnyH_take (i := 8) (oi := _) (v := ?_) rfl (by kernel_rfl) (by kernel_rfl) (by kernel_rfl) (fun _ _ _ h => h) (Or.inl ⟨by rfl, ?_⟩) (by assumption) ?_
        rotate_left 1
        · (intro w hSw; (try dsimp only at hSw); go_simp; try with_reducible rfl)
        try simp only [List.getElem_toArray, List.getElem_cons_zero, List.getElem_cons_succ, Act.put, List.setIfInBounds_toArray, List.set_cons_zero, List.set_cons_succ]
        refine wpAnyH_take (i := 9) (oi := _) (v := ?_) rfl (by kernel_rfl) (by kernel_rfl) (by kernel_rfl) (fun _ _ _ h => h) (Or.inl ⟨by rfl, ?_⟩) (by assumption) ?_
        rotate_left 1
        · (intro w hSw; (try dsimp only at hSw); go_simp; try with_reducible rfl)
        try simp only [List.getElem_toArray, List.getElem_cons_zero, List.getElem_cons_succ, Act.put, List.setIfInBounds_toArray, List.set_cons_zero, List.set_cons_succ]
        refine wpAnyH_take (i := 10) (oi := _) (v := ?_) rfl (by kernel_rfl) (by kernel_rfl) (by kernel_rfl) (fun _ _ _ h => h) (Or.inl ⟨by rfl, ?_⟩) (by assumption) ?_
        rotate_left 1
        · (intro w hSw; (try dsimp only at hSw); go_simp; try with_reducible rfl)
        try simp only [List.getElem_toArray, List.getElem_cons_zero, List.getElem_cons_succ, Act.put, List.setIfInBounds_toArray, List.set_cons_zero, List.set_cons_succ]
        refine wpAnyH_take (i := 11) (oi := _) (v := ?_) rfl (by kernel_rfl) (by kernel_rfl) (by kernel_rfl) (fun _ _ _ h => h) (Or.inl ⟨by rfl, ?_⟩) (by assumption) ?_
        rotate_left 1
        · (intro w hSw; (try dsimp only at hSw); go_simp; try with_reducible rfl)
        try simp only [List.getElem_toArray, List.getElem_cons_zero, List.getElem_cons_succ, Act.put, List.setIfInBounds_toArray, List.set_cons_zero, List.set_cons_succ]
        refine wpAnyH_take (i := 12) (oi := _) (v := ?_) rfl (by kernel_rfl) (by kernel_rfl) (by kernel_rfl) (fun _ _ _ h => h) (Or.inl ⟨by rfl, ?_⟩) (by assumption) ?_
        rotate_left 1
        · (intro w hSw; (try dsimp only at hSw); go_simp; try with_reducible rfl)
        try simp only [List.getElem_toArray, List.getElem_cons_zero, List.getElem_cons_succ, Act.put, List.setIfInBounds_toArray, List.set_cons_zero, List.set_cons_succ]
        refine wpAnyH_take (i := 13) (oi := _) (v := ?_) rfl (by kernel_rfl) (by kernel_rfl) (by kernel_rfl) (fun _ _ _ h => h) (Or.inl ⟨by rfl, ?_⟩) (by assumption) ?_
        rotate_left 1
        · (intro w hSw; (try dsimp only at hSw); go_simp; try with_reducible rfl)
        try simp only [List.getElem_toArray, List.getElem_cons_zero, List.getElem_cons_succ, Act.put, List.setIfInBounds_toArray, List.set_cons_zero, List.set_cons_succ]
        refine wpAnyH_take (i := 14) (oi := _) (v := ?_) rfl (by kernel_rfl) (by kernel_rfl) (by kernel_rfl) (fun _ _ _ h => h) (Or.inl ⟨by rfl, ?_⟩) (by assumption) ?_
        rotate_left 1
        · (intro w hSw; (try dsimp only at hSw); go_simp; try with_reducible rfl)
        try simp only [List.getElem_toArray, List.getElem_cons_zero, List.getElem_cons_succ, Act.put, List.setIfInBounds_toArray, List.set_cons_zero, List.set_cons_succ]
        refine wpAnyH_take (i := 15) (oi := _) (v := ?_) rfl (by kernel_rfl) (by kernel_rfl) (by kernel_rfl) (fun _ _ _ h => h) (Or.inl ⟨by rfl, ?_⟩) (by assumption) ?_
        rotate_left 1
        · (intro w hSw; (try dsimp only at hSw); go_simp; try with_reducible rfl)
        try simp only [List.getElem_toArray, List.getElem_cons_zero, List.getElem_cons_succ, Act.put, List.setIfInBounds_toArray, List.set_cons_zero, List.set_cons_succ]
        refine wpAnyH_take (i := 16) (oi := _) (v := ?_) rfl (by kernel_rfl) (by kernel_rfl) (by kernel_rfl) (fun _ _ _ h => h) (Or.inl ⟨by rfl, ?_⟩) (by assumption) ?_
        rotate_left 1
        · (intro w hSw; (try dsimp only at hSw); go_simp; try with_reducible rfl)
        try simp only [List.getElem_toArray, List.getElem_cons_zero, List.getElem_cons_succ, Act.put, List.setIfInBounds_toArray, List.set_cons_zero, List.set_cons_succ]
        refine wpAnyH_take (i := 17) (oi := _) (v := ?_) rfl (by kernel_rfl) (by kernel_rfl) (by kernel_rfl) (fun _ _ _ h => h) (Or.inl ⟨by rfl, ?_⟩) (by assumption) ?_
        rotate_left 1
        · (intro w hSw; (try dsimp only at hSw); go_simp; try with_reducible rfl)
        try simp only [List.getElem_toArray, List.getElem_cons_zero, List.getElem_cons_succ, Act.put, List.setIfInBounds_toArray, List.set_cons_zero, List.set_cons_succ]
        refine wpAnyH_take (i := 18) (oi := _) (v := ?_) rfl (by kernel_rfl) (by kernel_rfl) (by kernel_rfl) (fun _ _ _ h => h) (Or.inl ⟨by rfl, ?_⟩) (by assumption) ?_
        rotate_left 1
        · (intro w hSw; (try dsimp only at hSw); go_simp; try with_reducible rfl)
        try simp only [List.getElem_toArray, List.getElem_cons_zero, List.getElem_cons_succ, Act.put, List.setIfInBounds_toArray, List.set_cons_zero, List.set_cons_succ]
        refine wpAnyH_take (i := 19) (oi := _) (v := ?_) rfl (by kernel_rfl) (by kernel_rfl) (by kernel_rfl) (fun _ _ _ h => h) (Or.inl ⟨by rfl, ?_⟩) (by assumption) ?_
        rotate_left 1
        · (intro w hSw; (try dsimp only at hSw); go_simp; try with_reducible rfl)
        try simp only [List.getElem_toArray, List.getElem_cons_zero, List.getElem_cons_succ, Act.put, List.setIfInBounds_toArray, List.set_cons_zero, List.set_cons_succ]
        refine wpAnyH_take (i := 20) (oi := _) (v := ?_) rfl (by kernel_rfl) (by kernel_rfl) (by kernel_rfl) (fun _ _ _ h => h) (Or.inl ⟨by rfl, ?_⟩) (by assumption) ?_
        rotate_left 1
        · (intro w hSw; (try dsimp only at hSw); go_simp; try with_reducible rfl)
        try simp only [List.getElem_toArray, List.getElem_cons_zero, List.getElem_cons_succ, Act.put, List.setIfInBounds_toArray, List.set_cons_zero, List.set_cons_succ]
        refine wpAnyH_take (i := 21) (oi := _) (v := ?_) rfl (by kernel_rfl) (by kernel_rfl) (by kernel_rfl) (fun _ _ _ h => h) (Or.inl ⟨by rfl, ?_⟩) (by assumption) ?_
        rotate_left 1
        · (intro w hSw; (try dsimp only at hSw); go_simp; try with_reducible rfl)
        try simp only [List.getElem_toArray, List.getElem_cons_zero, List.getElem_cons_succ, Act.put, List.setIfInBounds_toArray, List.set_cons_zero, List.set_cons_succ]
        refine wpAnyH_take (i := 22) (oi := _) (v := ?_) rfl (by kernel_rfl) (by kernel_rfl) (by kernel_rfl) (fun _ _ _ h => h) (Or.inl ⟨by rfl, ?_⟩) (by assumption) ?_
        rotate_left 1
        · (intro w hSw; (try dsimp only at hSw); go_simp; try with_reducible rfl)
        try simp only [List.getElem_toArray, List.getElem_cons_zero, List.getElem_cons_succ, Act.put, List.setIfInBounds_toArray, List.set_cons_zero, List.set_cons_succ]
        refine wpAnyH_take (i := 23) (oi := _) (v := ?_) rfl (by kernel_rfl) (by kernel_rfl) (by kernel_rfl) (fun _ _ _ h => h) (Or.inl ⟨by rfl, ?_⟩) (by assumption) ?_
        rotate_left 1
        · (intro w hSw; (try dsimp only at hSw); go_simp; try with_reducible rfl)
        try simp only [List.getElem_toArray, List.getElem_cons_zero, List.getElem_cons_succ, Act.put, List.setIfInBounds_toArray, List.set_cons_zero, List.set_cons_succ]
        refine wpAnyH_take (i := 24) (oi := _) (v := ?_) rfl (by kernel_rfl) (by kernel_rfl) (by kernel_rfl) (fun _ _ _ h => h) (Or.inl ⟨by rfl, ?_⟩) (by assumption) ?_
        rotate_left 1
        · (intro w hSw; (try dsimp only at hSw); go_simp; try with_reducible rfl)
        try simp only [List.getElem_toArray, List.getElem_cons_zero, List.getElem_cons_succ, Act.put, List.setIfInBounds_toArray, List.set_cons_zero, List.set_cons_succ]
        refine wpAnyH_take (i := 25) (oi := _) (v := ?_) rfl (by kernel_rfl) (by kernel_rfl) (by kernel_rfl) (fun _ _ _ h => h) (Or.inl ⟨by rfl, ?_⟩) (by assumption) ?_
        rotate_left 1
        · (intro w hSw; (try dsimp only at hSw); go_simp; try with_reducible rfl)
        try simp only [List.getElem_toArray, List.getElem_cons_zero, List.getElem_cons_succ, Act.put, List.setIfInBounds_toArray, List.set_cons_zero, List.set_cons_succ]
        refine wpAnyH_take (i := 26) (oi := _) (v := ?_) rfl (by kernel_rfl) (by kernel_rfl) (by kernel_rfl) (fun _ _ _ h => h) (Or.inl ⟨by rfl, ?_⟩) (by assumption) ?_
        rotate_left 1
        · (intro w hSw; (try dsimp only at hSw); go_simp; try with_reducible rfl)
        try simp only [List.getElem_toArray, List.getElem_cons_zero, List.getElem_cons_succ, Act.put, List.setIfInBounds_toArray, List.set_cons_zero, List.set_cons_succ]
        refine wpAnyH_take (i := 27) (oi := _) (v := ?_) rfl (by kernel_rfl) (by kernel_rfl) (by kernel_rfl) (fun _ _ _ h => h) (Or.inl ⟨by rfl, ?_⟩) (by assumption) ?_
        rotate_left 1
        · (intro w hSw; (try dsimp only at hSw); go_simp; try with_reducible rfl)
        try simp only [List.getElem_toArray, List.getElem_cons_zero, List.getElem_cons_succ, Act.put, List.setIfInBounds_toArray, List.set_cons_zero, List.set_cons_succ]
        refine wpAnyH_take (i := 28) (oi := _) (v := ?_) rfl (by kernel_rfl) (by kernel_rfl) (by kernel_rfl) (fun _ _ _ h => h) (Or.inl ⟨by rfl, ?_⟩) (by assumption) ?_
        rotate_left 1
        · (intro w hSw; (try dsimp only at hSw); go_simp; try with_reducible rfl)
        try simp only [List.getElem_toArray, List.getElem_cons_zero, List.getElem_cons_succ, Act.put, List.setIfInBounds_toArray, List.set_cons_zero, List.set_cons_succ]
        refine wpAnyH_done (by kernel_rfl) ?_ _
        clear f1 f2 f3 f4 f5 g1 g2 hq
        rcases Nat.lt_or_ge ch 24 with g3 | g3
        · have hc1 : ((ch : Int) == 24) = false := by rw [beq_eq_false_iff_ne]; omega
          have hc2 : ¬ ((ch : Int) = 24) := by omega
          have g4 := Lib.hid (show cy + h < 24 from by rw [← HF.out.2.1]; exact g3)
          clear g3
          obtain ⟨k, N3, ht, PK, k2⟩ := bo_k cx cy wd h N2 HN2.out high high0 high1 g4.out
          replace PK := Lib.hid PK
          replace k2 := Lib.hid k2
          have hl0 := (row_cell U2.out.now 0).trans (show _ = some (.int .i64 (cx : Int)) from rfl)
          have hl1 := (row_cell U2.out.now 1).trans (show _ = some (.int .i64 (cy : Int)) from rfl)
          have hl2 := HF.out.1
          have hl3 := HE.out.2.2.2.1
          have hl4 := k2.out.1
          go_wp2_with fail
          clear hl0 hl1 hl2 hl3 hl4
          clear hc1 hc2
          (with_reducible refine (PK.out _).mono ?_)
          rintro e w15 ⟨k0, ek, rfl, hb⟩
          replace HU := Lib.hid (HU.out.next hb)
          replace UC := Lib.hid (UC.out.next hb)
          replace UD := Lib.hid (UD.out.next hb)
          replace U2 := Lib.hid (U2.out.next hb)
          replace U3 := Lib.hid (U3.out.next hb)
          replace U7 := Lib.hid (U7.out.next hb)
          clear hb
          have hl0 := (row_cell U2.out.now 0).trans (show _ = some (.int .i64 (cx : Int)) from rfl)
          have hl1 := (row_cell U2.out.now 1).trans (show _ = some (.int .i64 (cy : Int)) from rfl)
          have hl2 := HF.out.1
          have hl3 := ek
          go_wp2_with fail
          clear hl0 hl1 hl2 hl3
          clear ek
          (with_reducible refine (boxV _ cx ch wd k HR.out.1 HR.out.2.1 HR.out.2.2.1 k2.out.2.1 (bo_ch HF.out.2.1 k2.out.2.2.1)).mono ?_)
          rintro e w16 ⟨b16, o16, c16, rfl, hs, hb⟩
          replace HU := Lib.hid (HU.out.next hb)
          replace UC := Lib.hid (UC.out.next hb)
          replace UD := Lib.hid (UD.out.next hb)
          replace U2 := Lib.hid (U2.out.next hb)
          replace U3 := Lib.hid (U3.out.next hb)
          replace U7 := Lib.hid (U7.out.next hb)
          obtain ⟨x16, B16, e1, e2, hb2, hk⟩ := box1 w16 #[.slice (some ⟨b16, o16, none⟩) 24 c16] 25
          have U16 := Lib.hid (up_va (Sl.below hs (Nat.le_refl _) hb2) hk : Up x16 (VA B16 b16 o16 c16 (box cx ch wd k)))
          replace HU := Lib.hid (HU.out.next hb2)
          replace UC := Lib.hid (UC.out.next hb2)
          replace UD := Lib.hid (UD.out.next hb2)
          replace U2 := Lib.hid (U2.out.next hb2)
          replace U3 := Lib.hid (U3.out.next hb2)
          replace U7 := Lib.hid (U7.out.next hb2)
          clear hs hb hb2 hk
          have hl0 := (row_cell U2.out.now 0).trans (show _ = some (.int .i64 (cx : Int)) from rfl)
          have hl1 := (row_cell U2.out.now 1).trans (show _ = some (.int .i64 (cy : Int)) from rfl)
          have hl2 := k2.out.2.2.2.1
          go_wp2_with fail
          clear e1 e2
          clear hl0 hl1 hl2
          (with_reducible refine (boxV _ cx cy wd ht HR.out.1 HR.out.2.1 HR.out.2.2.1 k2.out.2.2.2.2.1 k2.out.2.2.2.2.2.1).mono ?_)
          rintro e w17 ⟨b17, o17, c17, rfl, hs, hb⟩
          replace HU := Lib.hid (HU.out.next hb)
          replace UC := Lib.hid (UC.out.next hb)
          replace UD := Lib.hid (UD.out.next hb)
          replace U2 := Lib.hid (U2.out.next hb)
          replace U3 := Lib.hid (U3.out.next hb)
          replace U7 := Lib.hid (U7.out.next hb)
          replace U16 := Lib.hid (U16.out.next hb)
          obtain ⟨x17, B17, e1, e2, hb2, hk⟩ := box1 w17 #[.slice (some ⟨b17, o17, none⟩) 24 c17] 25
          have U17 := Lib.hid (up_va (Sl.below hs (Nat.le_refl _) hb2) hk : Up x17 (VA B17 b17 o17 c17 (box cx cy wd ht)))
          replace HU := Lib.hid (HU.out.next hb2)
          replace UC := Lib.hid (UC.out.next hb2)
          replace UD := Lib.hid (UD.out.next hb2)
          replace U2 := Lib.hid (U2.out.next hb2)
          replace U3 := Lib.hid (U3.out.next hb2)
          replace U7 := Lib.hid (U7.out.next hb2)
          replace U16 := Lib.hid (U16.out.next hb2)
          clear hs hb hb2 hk
          have hl0 := U7.out.now.cell
          have hl1 := U16.out.now.cell
          go_wp2_with fail
          clear e1 e2
          clear hl0 hl1
          (with_reducible refine (unionV U7.out.now.1 U16.out.now.1).mono ?_)
          rintro e w18 ⟨b18, o18, c18, rfl, hs, hb⟩
          replace HU := Lib.hid (HU.out.next hb)
          replace UC := Lib.hid (UC.out.next hb)
          replace UD := Lib.hid (UD.out.next hb)
          replace U2 := Lib.hid (U2.out.next hb)
          replace U3 := Lib.hid (U3.out.next hb)
          replace U7 := Lib.hid (U7.out.next hb)
          replace U16 := Lib.hid (U16.out.next hb)
          replace U17 := Lib.hid (U17.out.next hb)
          obtain ⟨x18, B18, e1, e2, hb2, hk⟩ := box1 w18 #[.slice (some ⟨b18, o18, none⟩) 24 c18] 25
          have U18 := Lib.hid (up_va (Sl.below hs (Nat.le_refl _) hb2) hk : Up x18 (VA B18 b18 o18 c18 (orA (box cx cy wd h) (box cx ch wd k))))
          replace HU := Lib.hid (HU.out.next hb2)
          replace UC := Lib.hid (UC.out.next hb2)
          replace UD := Lib.hid (UD.out.next hb2)
          replace U2 := Lib.hid (U2.out.next hb2)
          replace U3 := Lib.hid (U3.out.next hb2)
          replace U7 := Lib.hid (U7.out.next hb2)
          replace U16 := Lib.hid (U16.out.next hb2)
          replace U17 := Lib.hid (U17.out.next hb2)
          clear hs hb hb2 hk
          have hl0 := U18.out.now.cell
          have hl1 := U17.out.now.cell
          go_wp2_with fail
          clear e1 e2
          clear hl0 hl1
          (with_reducible refine (rsameV (bo_pile HF.out.2.1 k2.out.2.2.2.2.2.2) U18.out.now.1 U17.out.now.1).mono ?_)
          rintro e w19 ⟨rfl, hb⟩
          replace HU := Lib.hid (HU.out.next hb)
          replace UC := Lib.hid (UC.out.next hb)
          replace UD := Lib.hid (UD.out.next hb)
          replace U2 := Lib.hid (U2.out.next hb)
          replace U3 := Lib.hid (U3.out.next hb)
          replace U7 := Lib.hid (U7.out.next hb)
          replace U16 := Lib.hid (U16.out.next hb)
          replace U17 := Lib.hid (U17.out.next hb)
          replace U18 := Lib.hid (U18.out.next hb)
          clear hb
          go_wp2
          go_ret
          exact ⟨rfl, HU.out.now.1⟩
        · have g4 := Lib.hid (show ch = 24 from by have := HF.out.2.1; have := HR.out.2.2.2.2.1; omega)
          clear g3
          have hc1 : (ch : Int) = 24 := by rw [g4.out]; rfl
          obtain ⟨h2, k1, k2⟩ := bo_h2 cx cy wd h (show cy + h = 24 from by rw [← HF.out.2.1]; exact g4.out) HR.out.2.2.2.2.1
          replace k2 := Lib.hid k2
          have hl0 := (row_cell U2.out.now 0).trans (show _ = some (.int .i64 (cx : Int)) from rfl)
          have hl1 := (row_cell U2.out.now 1).trans (show _ = some (.int .i64 (cy : Int)) from rfl)
          have hl2 := HF.out.1
          have hl3 := k1
          go_wp2_with fail
          clear hl0 hl1 hl2 hl3
          clear hc1 k1
          (with_reducible refine (boxX _ (cx : Int) (cy : Int) (wd : Int) (h2 : Int) k2.out).mono ?_)
          rintro e w15 ⟨c15, al15, rfl, hb⟩
          replace HU := Lib.hid (HU.out.next hb)
          replace UC := Lib.hid (UC.out.next hb)
          replace UD := Lib.hid (UD.out.next hb)
          replace U2 := Lib.hid (U2.out.next hb)
          replace U3 := Lib.hid (U3.out.next hb)
          replace U7 := Lib.hid (U7.out.next hb)
          clear hb
          go_wp2
          go_ret
          exact ⟨rfl, HU.out.now.1⟩
      · have hq := (decide_eq_false (show ¬ (mm : Int) < (wd : Int) by omega)).symm.trans (bo_mid hr f6 f7 g1 g2)
        obtain rfl := hq
        have hq : ¬ (mm : Int) < (wd : Int) := by omega
        clear hr gK
        clear f6 f7 f8
        have hd : Below w13.heap.size w13 w13.drew := (Below.refl _ _).drew
        replace HU := Lib.hid (HU.out.next hd)
        replace UC := Lib.hid (UC.out.next hd)
        replace UD := Lib.hid (UD.out.next hd)
        replace U2 := Lib.hid (U2.out.next hd)
        replace U3 := Lib.hid (U3.out.next hd)
        replace U7 := Lib.hid (U7.out.next hd)
        clear hd
        refine wp_region_held_drew (S := fun w' => w'.cell? ⟨B7, 0, none⟩ = some (.slice (some ⟨b7, o7, none⟩) 24 c7) ∧ w'.cell? ⟨B3, 0, none⟩ = some (.int .i64 (zx : Int)) ∧ w'.cell? ⟨B3, 1, none⟩ = some (.int .i64 (zy : Int)) ∧ w'.cell? ⟨B2, 0, none⟩ = some (.int .i64 (cx : Int)) ∧ w'.cell? ⟨B2, 1, none⟩ = some (.int .i64 (cy : Int))) (by kernel_rfl) ⟨U7.out.now.cell, vr_c0 U3.out.now, vr_c1 U3.out.now, vr_c0 U2.out.now, vr_c1 U2.out.now⟩ (fun hHeld => ?_)
        refine wpAnyH_take (i := 0) (oi := _) (v := ?_) rfl (by kernel_rfl) (by kernel_rfl) (by kernel_rfl) (fun _ _ _ h => h) (Or.inl ⟨by rfl, ?_⟩) (by assumption) ?_
        rotate_left 1
        · (intro w hSw; (try dsimp only at hSw); go_simp; try with_reducible rfl)
        try simp only [List.getElem_toArray, List.getElem_cons_zero, List.getElem_cons_succ, Act.put, List.setIfInBounds_toArray, List.set_cons_zero, List.set_cons_succ]
        refine wpAnyH_take (i := 1) (oi := _) (v := ?_) rfl (by kernel_rfl) (by kernel_rfl) (by kernel_rfl) (fun _ _ _ h => h) (Or.inl ⟨by rfl, ?_⟩) (by assumption) ?_
        rotate_left 1
        · (intro w hSw; (try dsimp only at hSw); go_simp; try with_reducible rfl)
        try simp only [List.getElem_toArray, List.getElem_cons_zero, List.getElem_cons_succ, Act.put, List.setIfInBounds_toArray, List.set_cons_zero, List.set_cons_succ]
        refine wpAnyH_take (i := 3) (oi := _) (v := ?_) rfl (by kernel_rfl) (by kernel_rfl) (by kernel_rfl) (fun _ _ _ h => h) (Or.inl ⟨by rfl, ?_⟩) (by assumption) ?_
        rotate_left 1
        · (intro w hSw; (try dsimp only at hSw); go_simp; try with_reducible rfl)
        try simp only [List.getElem_toArray, List.getElem_cons_zero, List.getElem_cons_succ, Act.put, List.setIfInBounds_toArray, List.set_cons_zero, List.set_cons_succ]
        refine wpAnyH_take (i := 4) (oi := _) (v := ?_) rfl (by kernel_rfl) (by kernel_rfl) (by kernel_rfl) (fun _ _ _ h => h) (Or.inl ⟨by rfl, ?_⟩) (by assumption) ?_
        rotate_left 1
        · (intro w hSw; (try dsimp only at hSw); go_simp; try with_reducible rfl)
        try simp only [List.getElem_toArray, List.getElem_cons_zero, List.getElem_cons_succ, Act.put, List.setIfInBounds_toArray, List.set_cons_zero, List.set_cons_succ]
        refine wpAnyH_take (i := 5) (oi := _) (v := ?_) rfl (by kernel_rfl) (by kernel_rfl) (by kernel_rfl) (fun _ _ _ h => h) (Or.inl ⟨by rfl, ?_⟩) (by assumption) ?_
        rotate_left 1
        · (intro w hSw; (try dsimp only at hSw); go_simp; try with_reducible rfl)
        try simp only [List.getElem_toArray, List.getElem_cons_zero, List.getElem_cons_succ, Act.put, List.setIfInBounds_toArray, List.set_cons_zero, List.set_cons_succ]
        refine wpAnyH_take (i := 6) (oi := _) (v := ?_) rfl (by kernel_rfl) (by kernel_rfl) (by kernel_rfl) (fun _ _ _ h => h) (Or.inl ⟨by rfl, ?_⟩) (by assumption) ?_
        rotate_left 1
        · (intro w hSw; (try dsimp only at hSw); go_simp; try with_reducible rfl)
        try simp only [List.getElem_toArray, List.getElem_cons_zero, List.getElem_cons_succ, Act.put, List.setIfInBounds_toArray, List.set_cons_zero, List.set_cons_succ]
        refine wpAnyH_take (i := 7) (oi := _) (v := ?_) rfl (by kernel_rfl) (by kernel_rfl) (by kernel_rfl) (fun _ _ _ h => h) (Or.inl ⟨by rfl, ?_⟩) (by assumption) ?_
        rotate_left 1
        · (intro w hSw; (try dsimp only at hSw); go_simp; try with_reducible rfl)
        try simp only [List.getElem_toArray, List.getElem_cons_zero, List.getElem_cons_succ, Act.put, List.setIfInBounds_toArray, List.set_cons_zero, List.set_cons_succ]
        refine wpAnyH_ready (rs := [2]) (by kernel_rfl) (by simp) ?_
        refine AllReadyH.cons (o := _) rfl (fun K hK => ?_) AllReadyH.nil
        rw [if_pos (by kernel_rfl)]
        simp only [List.getElem_toArray, List.getElem_cons_zero, List.getElem_cons_succ]
        go_simp
        (with_reducible refine ((hasV zx zy hzz.out.1 hzz.out.2 U7.out.now.1).mono (OutV.as (congrArg Value.bool HR2.out))).mono ?_)
        rintro e w14 ⟨rfl, hb⟩
        replace HU := Lib.hid (HU.out.next hb)
        replace UC := Lib.hid (UC.out.next hb)
        replace UD := Lib.hid (UD.out.next hb)
        replace U2 := Lib.hid (U2.out.next hb)
        replace U3 := Lib.hid (U3.out.next hb)
        replace U7 := Lib.hid (U7.out.next hb)
        clear hb hHeld
        refine hK.out _ _ ⟨U7.out.now.cell, vr_c0 U3.out.now, vr_c1 U3.out.now, vr_c0 U2.out.now, vr_c1 U2.out.now⟩ (fun hHeld => ?_)
        clear hK K
        try simp only [List.getElem_toArray, List.getElem_cons_zero, List.getElem_cons_succ, Act.put, List.setIfInBounds_toArray, List.set_cons_zero, List.set_cons_succ]
        refine wpAnyH_take (i := 8) (oi := _) (v := ?_) rfl (by kernel_rfl) (by kernel_rfl) (by kernel_rfl) (fun _ _ _ h => h) (Or.inl ⟨by rfl, ?_⟩) (by assumption) ?_
        rotate_left 1
        · (intro w hSw; (try dsimp only at hSw); go_simp; try with_reducible rfl)
        try simp only [List.getElem_toArray, List.getElem_cons_zero, List.getElem_cons_succ, Act.put, List.setIfInBounds_toArray, List.set_cons_zero, List.set_cons_succ]
        refine wpAnyH_take (i := 9) (oi := _) (v := ?_) rfl (by kernel_rfl) (by kernel_rfl) (by kernel_rfl) (fun _ _ _ h => h) (Or.inl ⟨by rfl, ?_⟩) (by assumption) ?_
        rotate_left 1
        · (intro w hSw; (try dsimp only at hSw); go_simp; try with_reducible rfl)
        try simp only [List.getElem_toArray, List.getElem_cons_zero, List.getElem_cons_succ, Act.put, List.setIfInBounds_toArray, List.set_cons_zero, List.set_cons_succ]
        refine wpAnyH_take (i := 10) (oi := _) (v := ?_) rfl (by kernel_rfl) (by kernel_rfl) (by kernel_rfl) (fun _ _ _ h => h) (Or.inl ⟨by rfl, ?_⟩) (by assumption) ?_
        rotate_left 1
        · (intro w hSw; (try dsimp only at hSw); go_simp; try with_reducible rfl)
        try simp only [List.getElem_toArray, List.getElem_cons_zero, List.getElem_cons_succ, Act.put, List.setIfInBounds_toArray, List.set_cons_zero, List.set_cons_succ]
        refine wpAnyH_take (i := 11) (oi := _) (v := ?_) rfl (by kernel_rfl) (by kernel_rfl) (by kernel_rfl) (fun _ _ _ h => h) (Or.inl ⟨by rfl, ?_⟩) (by assumption) ?_
        rotate_left 1
        · (intro w hSw; (try dsimp only at hSw); go_simp; try with_reducible rfl)
        try simp only [List.getElem_toArray, List.getElem_cons_zero, List.getElem_cons_succ, Act.put, List.setIfInBounds_toArray, List.set_cons_zero, List.set_cons_succ]
        refine wpAnyH_take (i := 12) (oi := _) (v := ?_) rfl (by kernel_rfl) (by kernel_rfl) (by kernel_rfl) (fun _ _ _ h => h) (Or.inl ⟨by rfl, ?_⟩) (by assumption) ?_
        rotate_left 1
        · (intro w hSw; (try dsimp only at hSw); go_simp; try with_reducible rfl)
        try simp only [List.getElem_toArray, List.getElem_cons_zero, List.getElem_cons_succ, Act.put, List.setIfInBounds_toArray, List.set_cons_zero, List.set_cons_succ]
        refine wpAnyH_take (i := 13) (oi := _) (v := ?_) rfl (by kernel_rfl) (by kernel_rfl) (by kernel_rfl) (fun _ _ _ h => h) (Or.inl ⟨by rfl, ?_⟩) (by assumption) ?_
        rotate_left 1
        · (intro w hSw; (try dsimp only at hSw); go_simp; try with_reducible rfl)
        try simp only [List.getElem_toArray, List.getElem_cons_zero, List.getElem_cons_succ, Act.put, List.setIfInBounds_toArray, List.set_cons_zero, List.set_cons_succ]
        refine wpAnyH_take (i := 14) (oi := _) (v := ?_) rfl (by kernel_rfl) (by kernel_rfl) (by kernel_rfl) (fun _ _ _ h => h) (Or.inl ⟨by rfl, ?_⟩) (by assumption) ?_
        rotate_left 1
        · (intro w hSw; (try dsimp only at hSw); go_simp; try with_reducible rfl)
        try simp only [List.getElem_toArray, List.getElem_cons_zero, List.getElem_cons_succ, Act.put, List.setIfInBounds_toArray, List.set_cons_zero, List.set_cons_succ]
        refine wpAnyH_take (i := 15) (oi := _) (v := ?_) rfl (by kernel_rfl) (by kernel_rfl) (by kernel_rfl) (fun _ _ _ h => h) (Or.inl ⟨by rfl, ?_⟩) (by assumption) ?_
        rotate_left 1
        · (intro w hSw; (try dsimp only at hSw); go_simp; try with_reducible rfl)
        try simp only [List.getElem_toArray, List.getElem_cons_zero, List.getElem_cons_succ, Act.put, List.setIfInBounds_toArray, List.set_cons_zero, List.set_cons_succ]
        refine wpAnyH_take (i := 16) (oi := _) (v := ?_) rfl (by kernel_rfl) (by kernel_rfl) (by kernel_rfl) (fun _ _ _ h => h) (Or.inl ⟨by rfl, ?_⟩) (by assumption) ?_
        rotate_left 1
        · (intro w hSw; (try dsimp only at hSw); go_simp; try with_reducible rfl)
        try simp only [List.getElem_toArray, List.getElem_cons_zero, List.getElem_cons_succ, Act.put, List.setIfInBounds_toArray, List.set_cons_zero, List.set_cons_succ]
        refine wpAnyH_take (i := 17) (oi := _) (v := ?_) rfl (by kernel_rfl) (by kernel_rfl) (by kernel_rfl) (fun _ _ _ h => h) (Or.inl ⟨by rfl, ?_⟩) (by assumption) ?_
        rotate_left 1
        · (intro w hSw; (try dsimp only at hSw); go_simp; try with_reducible rfl)
        try simp only [List.getElem_toArray, List.getElem_cons_zero, List.getElem_cons_succ, Act.put, List.setIfInBounds_toArray, List.set_cons_zero, List.set_cons_succ]
        refine wpAnyH_take (i := 18) (oi := _) (v := ?_) rfl (by kernel_rfl) (by kernel_rfl) (by kernel_rfl) (fun _ _ _ h => h) (Or.inl ⟨by rfl, ?_⟩) (by assumption) ?_
        rotate_left 1
        · (intro w hSw; (try dsimp only at hSw); go_simp; try with_reducible rfl)
        try simp only [List.getElem_toArray, List.getElem_cons_zero, List.getElem_cons_succ, Act.put, List.setIfInBounds_toArray, List.set_cons_zero, List.set_cons_succ]
        refine wpAnyH_take (i := 19) (oi := _) (v := ?_) rfl (by kernel_rfl) (by kernel_rfl) (by kernel_rfl) (fun _ _ _ h => h) (Or.inl ⟨by rfl, ?_⟩) (by assumption) ?_
        rotate_left 1
        · (intro w hSw; (try dsimp only at hSw); go_simp; try with_reducible rfl)
        try simp only [List.getElem_toArray, List.getElem_cons_zero, List.getElem_cons_succ, Act.put, List.setIfInBounds_toArray, List.set_cons_zero, List.set_cons_succ]
        refine wpAnyH_take (i := 20) (oi := _) (v := ?_) rfl (by kernel_rfl) (by kernel_rfl) (by kernel_rfl) (fun _ _ _ h => h) (Or.inl ⟨by rfl, ?_⟩) (by assumption) ?_
        rotate_left 1
        · (intro w hSw; (try dsimp only at hSw); go_simp; try with_reducible rfl)
        try simp only [List.getElem_toArray, List.getElem_cons_zero, List.getElem_cons_succ, Act.put, List.setIfInBounds_toArray, List.set_cons_zero, List.set_cons_succ]
        refine wpAnyH_take (i := 21) (oi := _) (v := ?_) rfl (by kernel_rfl) (by kernel_rfl) (by kernel_rfl) (fun _ _ _ h => h) (Or.inl ⟨by rfl, ?_⟩) (by assumption) ?_
        rotate_left 1
        · (intro w hSw; (try dsimp only at hSw); go_simp; try with_reducible rfl)
        try simp only [List.getElem_toArray, List.getElem_cons_zero, List.getElem_cons_succ, Act.put, List.setIfInBounds_toArray, List.set_cons_zero, List.set_cons_succ]
        refine wpAnyH_take (i := 22) (oi := _) (v := ?_) rfl (by kernel_rfl) (by kernel_rfl) (by kernel_rfl) (fun _ _ _ h => h) (Or.inl ⟨by rfl, ?_⟩) (by assumption) ?_
        rotate_left 1
        · (intro w hSw; (try dsimp only at hSw); go_simp; try with_reducible rfl)
        try simp only [List.getElem_toArray, List.getElem_cons_zero, List.getElem_cons_succ, Act.put, List.setIfInBounds_toArray, List.set_cons_zero, List.set_cons_succ]
        refine wpAnyH_take (i := 23) (oi := _) (v := ?_) rfl (by kernel_rfl) (by kernel_rfl) (by kernel_rfl) (fun _ _ _ h => h) (Or.inl ⟨by rfl, ?_⟩) (by assumption) ?_
        rotate_left 1
        · (intro w hSw; (try dsimp only at hSw); go_simp; try with_reducible rfl)
        try simp only [List.getElem_toArray, List.getElem_cons_zero, List.getElem_cons_succ, Act.put, List.setIfInBounds_toArray, List.set_cons_zero, List.set_cons_succ]
        refine wpAnyH_take (i := 24) (oi := _) (v := ?_) rfl (by kernel_rfl) (by kernel_rfl) (by kernel_rfl) (fun _ _ _ h => h) (Or.inl ⟨by rfl, ?_⟩) (by assumption) ?_
        rotate_left 1
        · (intro w hSw; (try dsimp only at hSw); go_simp; try with_reducible rfl)
        try simp only [List.getElem_toArray, List.getElem_cons_zero, List.getElem_cons_succ, Act.put, List.setIfInBounds_toArray, List.set_cons_zero, List.set_cons_succ]
        refine wpAnyH_take (i := 25) (oi := _) (v := ?_) rfl (by kernel_rfl) (by kernel_rfl) (by kernel_rfl) (fun _ _ _ h => h) (Or.inl ⟨by rfl, ?_⟩) (by assumption) ?_
        rotate_left 1
        · (intro w hSw; (try dsimp only at hSw); go_simp; try with_reducible rfl)
        try simp only [List.getElem_toArray, List.getElem_cons_zero, List.getElem_cons_succ, Act.put, List.setIfInBounds_toArray, List.set_cons_zero, List.set_cons_succ]
        refine wpAnyH_take (i := 26) (oi := _) (v := ?_) rfl (by kernel_rfl) (by kernel_rfl) (by kernel_rfl) (fun _ _ _ h => h) (Or.inl ⟨by rfl, ?_⟩) (by assumption) ?_
        rotate_left 1
        · (intro w hSw; (try dsimp only at hSw); go_simp; try with_reducible rfl)
        try simp only [List.getElem_toArray, List.getElem_cons_zero, List.getElem_cons_succ, Act.put, List.setIfInBounds_toArray, List.set_cons_zero, List.set_cons_succ]
        refine wpAnyH_take (i := 27) (oi := _) (v := ?_) rfl (by kernel_rfl) (by kernel_rfl) (by kernel_rfl) (fun _ _ _ h => h) (Or.inl ⟨by rfl, ?_⟩) (by assumption) ?_
        rotate_left 1
        · (intro w hSw; (try dsimp only at hSw); go_simp; try with_reducible rfl)
        try simp only [List.getElem_toArray, List.getElem_cons_zero, List.getElem_cons_succ, Act.put, List.setIfInBounds_toArray, List.set_cons_zero, List.set_cons_succ]
        refine wpAnyH_take (i := 28) (oi := _) (v := ?_) rfl (by kernel_rfl) (by kernel_rfl) (by kernel_rfl) (fun _ _ _ h => h) (Or.inl ⟨by rfl, ?_⟩) (by assumption) ?_
        rotate_left 1
        · (intro w hSw; (try dsimp only at hSw); go_simp; try with_reducible rfl)
        try simp only [List.getElem_toArray, List.getElem_cons_zero, List.getElem_cons_succ, Act.put, List.setIfInBounds_toArray, List.set_cons_zero, List.set_cons_succ]
        refine wpAnyH_done (by kernel_rfl) ?_ _
        clear f1 f2 f3 f4 f5 g1 g2 hq
        rcases Nat.lt_or_ge ch 24 with g3 | g3
        · have hc1 : ((ch : Int) == 24) = false := by rw [beq_eq_false_iff_ne]; omega
          have hc2 : ¬ ((ch : Int) = 24) := by omega
          have g4 := Lib.hid (show cy + h < 24 from by rw [← HF.out.2.1]; exact g3)
          clear g3
          obtain ⟨k, N3, ht, PK, k2⟩ := bo_k cx cy wd h N2 HN2.out high high0 high1 g4.out
          replace PK := Lib.hid PK
          replace k2 := Lib.hid k2
          have hl0 := (row_cell U2.out.now 0).trans (show _ = some (.int .i64 (cx : Int)) from rfl)
          have hl1 := (row_cell U2.out.now 1).trans (show _ = some (.int .i64 (cy : Int)) from rfl)
          have hl2 := HF.out.1
          have hl3 := HE.out.2.2.2.1
          have hl4 := k2.out.1
          go_wp2_with fail
          clear hl0 hl1 hl2 hl3 hl4
          clear hc1 hc2
          (with_reducible refine (PK.out _).mono ?_)
          rintro e w15 ⟨k0, ek, rfl, hb⟩
          replace HU := Lib.hid (HU.out.next hb)
          replace UC := Lib.hid (UC.out.next hb)
          replace UD := Lib.hid (UD.out.next hb)
          replace U2 := Lib.hid (U2.out.next hb)
          replace U3 := Lib.hid (U3.out.next hb)
          replace U7 := Lib.hid (U7.out.next hb)
          clear hb
          have hl0 := (row_cell U2.out.now 0).trans (show _ = some (.int .i64 (cx : Int)) from rfl)
          have hl1 := (row_cell U2.out.now 1).trans (show _ = some (.int .i64 (cy : Int)) from rfl)
          have hl2 := HF.out.1
          have hl3 := ek
          go_wp2_with fail
          clear hl0 hl1 hl2 hl3
          clear ek
          (with_reducible refine (boxV _ cx ch wd k HR.out.1 HR.out.2.1 HR.out.2.2.1 k2.out.2.1 (bo_ch HF.out.2.1 k2.out.2.2.1)).mono ?_)
          rintro e w16 ⟨b16, o16, c16, rfl, hs, hb⟩
          replace HU := Lib.hid (HU.out.next hb)
          replace UC := Lib.hid (UC.out.next hb)
          replace UD := Lib.hid (UD.out.next hb)
          replace U2 := Lib.hid (U2.out.next hb)
          replace U3 := Lib.hid (U3.out.next hb)
          replace U7 := Lib.hid (U7.out.next hb)
          obtain ⟨x16, B16, e1, e2, hb2, hk⟩ := box1 w16 #[.slice (some ⟨b16, o16, none⟩) 24 c16] 25
          have U16 := Lib.hid (up_va (Sl.below hs (Nat.le_refl _) hb2) hk : Up x16 (VA B16 b16 o16 c16 (box cx ch wd k)))
          replace HU := Lib.hid (HU.out.next hb2)
          replace UC := Lib.hid (UC.out.next hb2)
          replace UD := Lib.hid (UD.out.next hb2)
          replace U2 := Lib.hid (U2.out.next hb2)
          replace U3 := Lib.hid (U3.out.next hb2)
          replace U7 := Lib.hid (U7.out.next hb2)
          clear hs hb hb2 hk
          have hl0 := (row_cell U2.out.now 0).trans (show _ = some (.int .i64 (cx : Int)) from rfl)
          have hl1 := (row_cell U2.out.now 1).trans (show _ = some (.int .i64 (cy : Int)) from rfl)
          have hl2 := k2.out.2.2.2.1
          go_wp2_with fail
          clear e1 e2
          clear hl0 hl1 hl2
          (with_reducible refine (boxV _ cx cy wd ht HR.out.1 HR.out.2.1 HR.out.2.2.1 k2.out.2.2.2.2.1 k2.out.2.2.2.2.2.1).mono ?_)
          rintro e w17 ⟨b17, o17, c17, rfl, hs, hb⟩
          replace HU := Lib.hid (HU.out.next hb)
          replace UC := Lib.hid (UC.out.next hb)
          replace UD := Lib.hid (UD.out.next hb)
          replace U2 := Lib.hid (U2.out.next hb)
          replace U3 := Lib.hid (U3.out.next hb)
          replace U7 := Lib.hid (U7.out.next hb)
          replace U16 := Lib.hid (U16.out.next hb)
          obtain ⟨x17, B17, e1, e2, hb2, hk⟩ := box1 w17 #[.slice (some ⟨b17, o17, none⟩) 24 c17] 25
          have U17 := Lib.hid (up_va (Sl.below hs (Nat.le_refl _) hb2) hk : Up x17 (VA B17 b17 o17 c17 (box cx cy wd ht)))
          replace HU := Lib.hid (HU.out.next hb2)
          replace UC := Lib.hid (UC.out.next hb2)
          replace UD := Lib.hid (UD.out.next hb2)
          replace U2 := Lib.hid (U2.out.next hb2)
          replace U3 := Lib.hid (U3.out.next hb2)
          replace U7 := Lib.hid (U7.out.next hb2)
          replace U16 := Lib.hid (U16.out.next hb2)
          clear hs hb hb2 hk
          have hl0 := U7.out.now.cell
          have hl1 := U16.out.now.cell
          go_wp2_with fail
          clear e1 e2
          clear hl0 hl1
          (with_reducible refine (unionV U7.out.now.1 U16.out.now.1).mono ?_)
          rintro e w18 ⟨b18, o18, c18, rfl, hs, hb⟩
          replace HU := Lib.hid (HU.out.next hb)
          replace UC := Lib.hid (UC.out.next hb)
          replace UD := Lib.hid (UD.out.next hb)
          replace U2 := Lib.hid (U2.out.next hb)
          replace U3 := Lib.hid (U3.out.next hb)
          replace U7 := Lib.hid (U7.out.next hb)
          replace U16 := Lib.hid (U16.out.next hb)
          replace U17 := Lib.hid (U17.out.next hb)
          obtain ⟨x18, B18, e1, e2, hb2, hk⟩ := box1 w18 #[.slice (some ⟨b18, o18, none⟩) 24 c18] 25
          have U18 := Lib.hid (up_va (Sl.below hs (Nat.le_refl _) hb2) hk : Up x18 (VA B18 b18 o18 c18 (orA (box cx cy wd h) (box cx ch wd k))))
          replace HU := Lib.hid (HU.out.next hb2)
          replace UC := Lib.hid (UC.out.next hb2)
          replace UD := Lib.hid (UD.out.next hb2)
          replace U2 := Lib.hid (U2.out.next hb2)
          replace U3 := Lib.hid (U3.out.next hb2)
          replace U7 := Lib.hid (U7.out.next hb2)
          replace U16 := Lib.hid (U16.out.next hb2)
          replace U17 := Lib.hid (U17.out.next hb2)
          clear hs hb hb2 hk
          have hl0 := U18.out.now.cell
          have hl1 := U17.out.now.cell
          go_wp2_with fail
          clear e1 e2
          clear hl0 hl1
          (with_reducible refine (rsameV (bo_pile HF.out.2.1 k2.out.2.2.2.2.2.2) U18.out.now.1 U17.out.now.1).mono ?_)
          rintro e w19 ⟨rfl, hb⟩
          replace HU := Lib.hid (HU.out.next hb)
          replace UC := Lib.hid (UC.out.next hb)
          replace UD := Lib.hid (UD.out.next hb)
          replace U2 := Lib.hid (U2.out.next hb)
          replace U3 := Lib.hid (U3.out.next hb)
          replace U7 := Lib.hid (U7.out.next hb)
          replace U16 := Lib.hid (U16.out.next hb)
          replace U17 := Lib.hid (U17.out.next hb)
          replace U18 := Lib.hid (U18.out.next hb)
          clear hb
          go_wp2
          go_ret
          exact ⟨rfl, HU.out.now.1⟩
        · have g4 := Lib.hid (show ch = 24 from by have := HF.out.2.1; have := HR.out.2.2.2.2.1; omega)
          clear g3
          have hc1 : (ch : Int) = 24 := by rw [g4.out]; rfl
          obtain ⟨h2, k1, k2⟩ := bo_h2 cx cy wd h (show cy + h = 24 from by rw [← HF.out.2.1]; exact g4.out) HR.out.2.2.2.2.1
          replace k2 := Lib.hid k2
          have hl0 := (row_cell U2.out.now 0).trans (show _ = some (.int .i64 (cx : Int)) from rfl)
          have hl1 := (row_cell U2.out.now 1).trans (show _ = some (.int .i64 (cy : Int)) from rfl)
          have hl2 := HF.out.1
          have hl3 := k1
          go_wp2_with fail
          clear hl0 hl1 hl2 hl3
          clear hc1 k1
          (with_reducible refine (boxX _ (cx : Int) (cy : Int) (wd : Int) (h2 : Int) k2.out).mono ?_)
          rintro e w15 ⟨c15, al15, rfl, hb⟩
          replace HU := Lib.hid (HU.out.next hb)
          replace UC := Lib.hid (UC.out.next hb)
          replace UD := Lib.hid (UD.out.next hb)
          replace U2 := Lib.hid (U2.out.next hb)
          replace U3 := Lib.hid (U3.out.next hb)
          replace U7 := Lib.hid (U7.out.next hb)
          clear hb
          go_wp2
          go_ret
          exact ⟨rfl, HU.out.now.1⟩
    · have hq := bo_high hr f6 g2
      obtain rfl := hq
      have hq : ¬ ((zy : Int) < (ch : Int)) := by omega
      clear hr
      clear f6 f7 f8
      have hd : Below w13.heap.size w13 w13.drew := (Below.refl _ _).drew
      replace HU := Lib.hid (HU.out.next hd)
      replace UC := Lib.hid (UC.out.next hd)
      replace UD := Lib.hid (UD.out.next hd)
      replace U2 := Lib.hid (U2.out.next hd)
      replace U3 := Lib.hid (U3.out.next hd)
      replace U7 := Lib.hid (U7.out.next hd)
      clear hd
      refine wp_region_held_drew (S := fun w' => w'.cell? ⟨B7, 0, none⟩ = some (.slice (some ⟨b7, o7, none⟩) 24 c7) ∧ w'.cell? ⟨B3, 0, none⟩ = some (.int .i64 (zx : Int)) ∧ w'.cell? ⟨B3, 1, none⟩ = some (.int .i64 (zy : Int)) ∧ w'.cell? ⟨B2, 0, none⟩ = some (.int .i64 (cx : Int)) ∧ w'.cell? ⟨B2, 1, none⟩ = some (.int .i64 (cy : Int))) (by kernel_rfl) ⟨U7.out.now.cell, vr_c0 U3.out.now, vr_c1 U3.out.now, vr_c0 U2.out.now, vr_c1 U2.out.now⟩ (fun hHeld => ?_)
      refine wpAnyH_take (i := 0) (oi := _) (v := ?_) rfl (by kernel_rfl) (by kernel_rfl) (by kernel_rfl) (fun _ _ _ h => h) (Or.inl ⟨by rfl, ?_⟩) (by assumption) ?_
      rotate_left 1
      · (intro w hSw; (try dsimp only at hSw); go_simp; try with_reducible rfl)
      try simp only [List.getElem_toArray, List.getElem_cons_zero, List.getElem_cons_succ, Act.put, List.setIfInBounds_toArray, List.set_cons_zero, List.set_cons_succ]
      refine wpAnyH_take (i := 1) (oi := _) (v := ?_) rfl (by kernel_rfl) (by kernel_rfl) (by kernel_rfl) (fun _ _ _ h => h) (Or.inl ⟨by rfl, ?_⟩) (by assumption) ?_
      rotate_left 1
      · (intro w hSw; (try dsimp only at hSw); go_simp; try with_reducible rfl)
      try simp only [List.getElem_toArray, List.getElem_cons_zero, List.getElem_cons_succ, Act.put, List.setIfInBounds_toArray, List.set_cons_zero, List.set_cons_succ]
      refine wpAnyH_take (i := 3) (oi := _) (v := ?_) rfl (by kernel_rfl) (by kernel_rfl) (by kernel_rfl) (fun _ _ _ h => h) (Or.inl ⟨by rfl, ?_⟩) (by assumption) ?_
      rotate_left 1
      · (intro w hSw; (try dsimp only at hSw); go_simp; try with_reducible rfl)
      try simp only [List.getElem_toArray, List.getElem_cons_zero, List.getElem_cons_succ, Act.put, List.setIfInBounds_toArray, List.set_cons_zero, List.set_cons_succ]
      refine wpAnyH_take (i := 4) (oi := _) (v := ?_) rfl (by kernel_rfl) (by kernel_rfl) (by kernel_rfl) (fun _ _ _ h => h) (Or.inl ⟨by rfl, ?_⟩) (by assumption) ?_
      rotate_left 1
      · (intro w hSw; (try dsimp only at hSw); go_simp; try with_reducible rfl)
      try simp only [List.getElem_toArray, List.getElem_cons_zero, List.getElem_cons_succ, Act.put, List.setIfInBounds_toArray, List.set_cons_zero, List.set_cons_succ]
      refine wpAnyH_take (i := 5) (oi := _) (v := ?_) rfl (by kernel_rfl) (by kernel_rfl) (by kernel_rfl) (fun _ _ _ h => h) (Or.inl ⟨by rfl, ?_⟩) (by assumption) ?_
      rotate_left 1
      · (intro w hSw; (try dsimp only at hSw); go_simp; try with_reducible rfl)
      try simp only [List.getElem_toArray, List.getElem_cons_zero, List.getElem_cons_succ, Act.put, List.setIfInBounds_toArray, List.set_cons_zero, List.set_cons_succ]
      refine wpAnyH_take (i := 6) (oi := _) (v := ?_) rfl (by kernel_rfl) (by kernel_rfl) (by kernel_rfl) (fun _ _ _ h => h) (Or.inl ⟨by rfl, ?_⟩) (by assumption) ?_
      rotate_left 1
      · (intro w hSw; (try dsimp only at hSw); go_simp; try with_reducible rfl)
      try simp only [List.getElem_toArray, List.getElem_cons_zero, List.getElem_cons_succ, Act.put, List.setIfInBounds_toArray, List.set_cons_zero, List.set_cons_succ]
      refine wpAnyH_take (i := 7) (oi := _) (v := ?_) rfl (by kernel_rfl) (by kernel_rfl) (by kernel_rfl) (fun _ _ _ h => h) (Or.inl ⟨by rfl, ?_⟩) (by assumption) ?_
      rotate_left 1
      · (intro w hSw; (try dsimp only at hSw); go_simp; try with_reducible rfl)
      try simp only [List.getElem_toArray, List.getElem_cons_zero, List.getElem_cons_succ, Act.put, List.setIfInBounds_toArray, List.set_cons_zero, List.set_cons_succ]
      refine wpAnyH_ready (rs := [2]) (by kernel_rfl) (by simp) ?_
      refine AllReadyH.cons (o := _) rfl (fun K hK => ?_) AllReadyH.nil
      rw [if_pos (by kernel_rfl)]
      simp only [List.getElem_toArray, List.getElem_cons_zero, List.getElem_cons_succ]
      go_simp
      (with_reducible refine ((hasV zx zy hzz.out.1 hzz.out.2 U7.out.now.1).mono (OutV.as (congrArg Value.bool HR2.out))).mono ?_)
      rintro e w14 ⟨rfl, hb⟩
      replace HU := Lib.hid (HU.out.next hb)
      replace UC := Lib.hid (UC.out.next hb)
      replace UD := Lib.hid (UD.out.next hb)
      replace U2 := Lib.hid (U2.out.next hb)
      replace U3 := Lib.hid (U3.out.next hb)
      replace U7 := Lib.hid (U7.out.next hb)
      clear hb hHeld
      refine hK.out _ _ ⟨U7.out.now.cell, vr_c0 U3.out.now, vr_c1 U3.out.now, vr_c0 U2.out.now, vr_c1 U2.out.now⟩ (fun hHeld => ?_)
      clear hK K
      try simp only [List.getElem_toArray, List.getElem_cons_zero, List.getElem_cons_succ, Act.put, List.setIfInBounds_toArray, List.set_cons_zero, List.set_cons_succ]
      refine wpAnyH_take (i := 8) (oi := _) (v := ?_) rfl (by kernel_rfl) (by kernel_rfl) (by kernel_rfl) (fun _ _ _ h => h) (Or.inl ⟨by rfl, ?_⟩) (by assumption) ?_
      rotate_left 1
      · (intro w hSw; (try dsimp only at hSw); go_simp; try with_reducible rfl)
      try simp only [List.getElem_toArray, List.getElem_cons_zero, List.getElem_cons_succ, Act.put, List.setIfInBounds_toArray, List.set_cons_zero, List.set_cons_succ]
      refine wpAnyH_take (i := 9) (oi := _) (v := ?_) rfl (by kernel_rfl) (by kernel_rfl) (by kernel_rfl) (fun _ _ _ h => h) (Or.inl ⟨by rfl, ?_⟩) (by assumption) ?_
      rotate_left 1
      · (intro w hSw; (try dsimp only at hSw); go_simp; try with_reducible rfl)
      try simp only [List.getElem_toArray, List.getElem_cons_zero, List.getElem_cons_succ, Act.put, List.setIfInBounds_toArray, List.set_cons_zero, List.set_cons_succ]
      refine wpAnyH_take (i := 10) (oi := _) (v := ?_) rfl (by kernel_rfl) (by kernel_rfl) (by kernel_rfl) (fun _ _ _ h => h) (Or.inl ⟨by rfl, ?_⟩) (by assumption) ?_
      rotate_left 1
      · (intro w hSw; (try dsimp only at hSw); go_simp; try with_reducible rfl)
      try simp only [List.getElem_toArray, List.getElem_cons_zero, List.getElem_cons_succ, Act.put, List.setIfInBounds_toArray, List.set_cons_zero, List.set_cons_succ]
      refine wpAnyH_take (i := 11) (oi := _) (v := ?_) rfl (by kernel_rfl) (by kernel_rfl) (by kernel_rfl) (fun _ _ _ h => h) (Or.inl ⟨by rfl, ?_⟩) (by assumption) ?_
      rotate_left 1
      · (intro w hSw; (try dsimp only at hSw); go_simp; try with_reducible rfl)
      try simp only [List.getElem_toArray, List.getElem_cons_zero, List.getElem_cons_succ, Act.put, List.setIfInBounds_toArray, List.set_cons_zero, List.set_cons_succ]
      refine wpAnyH_take (i := 12) (oi := _) (v := ?_) rfl (by kernel_rfl) (by kernel_rfl) (by kernel_rfl) (fun _ _ _ h => h) (Or.inl ⟨by rfl, ?_⟩) (by assumption) ?_
      rotate_left 1
      · (intro w hSw; (try dsimp only at hSw); go_simp; try with_reducible rfl)
      try simp only [List.getElem_toArray, List.getElem_cons_zero, List.getElem_cons_succ, Act.put, List.setIfInBounds_toArray, List.set_cons_zero, List.set_cons_succ]
      refine wpAnyH_take (i := 13) (oi := _) (v := ?_) rfl (by kernel_rfl) (by kernel_rfl) (by kernel_rfl) (fun _ _ _ h => h) (Or.inl ⟨by rfl, ?_⟩) (by assumption) ?_
      rotate_left 1
      · (intro w hSw; (try dsimp only at hSw); go_simp; try with_reducible rfl)
      try simp only [List.getElem_toArray, List.getElem_cons_zero, List.getElem_cons_succ, Act.put, List.setIfInBounds_toArray, List.set_cons_zero, List.set_cons_succ]
      refine wpAnyH_take (i := 14) (oi := _) (v := ?_) rfl (by kernel_rfl) (by kernel_rfl) (by kernel_rfl) (fun _ _ _ h => h) (Or.inl ⟨by rfl, ?_⟩) (by assumption) ?_
      rotate_left 1
      · (intro w hSw; (try dsimp only at hSw); go_simp; try with_reducible rfl)
      try simp only [List.getElem_toArray, List.getElem_cons_zero, List.getElem_cons_succ, Act.put, List.setIfInBounds_toArray, List.set_cons_zero, List.set_cons_succ]
      refine wpAnyH_take (i := 15) (oi := _) (v := ?_) rfl (by kernel_rfl) (by kernel_rfl) (by kernel_rfl) (fun _ _ _ h => h) (Or.inl ⟨by rfl, ?_⟩) (by assumption) ?_
      rotate_left 1
      · (intro w hSw; (try dsimp only at hSw); go_simp; try with_reducible rfl)
      try simp only [List.getElem_toArray, List.getElem_cons_zero, List.getElem_cons_succ, Act.put, List.setIfInBounds_toArray, List.set_cons_zero, List.set_cons_succ]
      refine wpAnyH_take (i := 16) (oi := _) (v := ?_) rfl (by kernel_rfl) (by kernel_rfl) (by kernel_rfl) (fun _ _ _ h => h) (Or.inl ⟨by rfl, ?_⟩) (by assumption) ?_
      rotate_left 1
      · (intro w hSw; (try dsimp only at hSw); go_simp; try with_reducible rfl)
      try simp only [List.getElem_toArray, List.getElem_cons_zero, List.getElem_cons_succ, Act.put, List.setIfInBounds_toArray, List.set_cons_zero, List.set_cons_succ]
      refine wpAnyH_take (i := 17) (oi := _) (v := ?_) rfl (by kernel_rfl) (by kernel_rfl) (by kernel_rfl) (fun _ _ _ h => h) (Or.inl ⟨by rfl, ?_⟩) (by assumption) ?_
      rotate_left 1
      · (intro w hSw; (try dsimp only at hSw); go_simp; try with_reducible rfl)
      try simp only [List.getElem_toArray, List.getElem_cons_zero, List.getElem_cons_succ, Act.put, List.setIfInBounds_toArray, List.set_cons_zero, List.set_cons_succ]
      refine wpAnyH_take (i := 18) (oi := _) (v := undef) rfl (by kernel_rfl) (by kernel_rfl) (by kernel_rfl) (fun _ _ _ h => h) (Or.inr ⟨by rfl, rfl⟩) (by assumption) ?_
      try simp only [List.getElem_toArray, List.getElem_cons_zero, List.getElem_cons_succ, Act.put, List.setIfInBounds_toArray, List.set_cons_zero, List.set_cons_succ]
      refine wpAnyH_take (i := 19) (oi := _) (v := undef) rfl (by kernel_rfl) (by kernel_rfl) (by kernel_rfl) (fun _ _ _ h => h) (Or.inr ⟨by rfl, rfl⟩) (by assumption) ?_
      try simp only [List.getElem_toArray, List.getElem_cons_zero, List.getElem_cons_succ, Act.put, List.setIfInBounds_toArray, List.set_cons_zero, List.set_cons_succ]
      refine wpAnyH_take (i := 20) (oi := _) (v := undef) rfl (by kernel_rfl) (by kernel_rfl) (by kernel_rfl) (fun _ _ _ h => h) (Or.inr ⟨by rfl, rfl⟩) (by assumption) ?_
      try simp only [List.getElem_toArray, List.getElem_cons_zero, List.getElem_cons_succ, Act.put, List.setIfInBounds_toArray, List.set_cons_zero, List.set_cons_succ]
      refine wpAnyH_take (i := 21) (oi := _) (v := undef) rfl (by kernel_rfl) (by kernel_rfl) (by kernel_rfl) (fun _ _ _ h => h) (Or.inr ⟨by rfl, rfl⟩) (by assumption) ?_
      try simp only [List.getElem_toArray, List.getElem_cons_zero, List.getElem_cons_succ, Act.put, List.setIfInBounds_toArray, List.set_cons_zero, List.set_cons_succ]
      refine wpAnyH_take (i := 22) (oi := _) (v := undef) rfl (by kernel_rfl) (by kernel_rfl) (by kernel_rfl) (fun _ _ _ h => h) (Or.inr ⟨by rfl, rfl⟩) (by assumption) ?_
      try simp only [List.getElem_toArray, List.getElem_cons_zero, List.getElem_cons_succ, Act.put, List.setIfInBounds_toArray, List.set_cons_zero, List.set_cons_succ]
      refine wpAnyH_take (i := 23) (oi := _) (v := undef) rfl (by kernel_rfl) (by kernel_rfl) (by kernel_rfl) (fun _ _ _ h => h) (Or.inr ⟨by rfl, rfl⟩) (by assumption) ?_
      try simp only [List.getElem_toArray, List.getElem_cons_zero, List.getElem_cons_succ, Act.put, List.setIfInBounds_toArray, List.set_cons_zero, List.set_cons_succ]
      refine wpAnyH_take (i := 24) (oi := _) (v := undef) rfl (by kernel_rfl) (by kernel_rfl) (by kernel_rfl) (fun _ _ _ h => h) (Or.inr ⟨by rfl, rfl⟩) (by assumption) ?_
      try simp only [List.getElem_toArray, List.getElem_cons_zero, List.getElem_cons_succ, Act.put, List.setIfInBounds_toArray, List.set_cons_zero, List.set_cons_succ]
      refine wpAnyH_take (i := 25) (oi := _) (v := undef) rfl (by kernel_rfl) (by kernel_rfl) (by kernel_rfl) (fun _ _ _ h => h) (Or.inr ⟨by rfl, rfl⟩) (by assumption) ?_
      try simp only [List.getElem_toArray, List.getElem_cons_zero, List.getElem_cons_succ, Act.put, List.setIfInBounds_toArray, List.set_cons_zero, List.set_cons_succ]
      refine wpAnyH_take (i := 26) (oi := _) (v := undef) rfl (by kernel_rfl) (by kernel_rfl) (by kernel_rfl) (fun _ _ _ h => h) (Or.inr ⟨by rfl, rfl⟩) (by assumption) ?_
      try simp only [List.getElem_toArray, List.getElem_cons_zero, List.getElem_cons_succ, Act.put, List.setIfInBounds_toArray, List.set_cons_zero, List.set_cons_succ]
      refine wpAnyH_take (i := 27) (oi := _) (v := ?_) rfl (by kernel_rfl) (by kernel_rfl) (by kernel_rfl) (fun _ _ _ h => h) (Or.inl ⟨by rfl, ?_⟩) (by assumption) ?_
      rotate_left 1
      · (intro w hSw; (try dsimp only at hSw); go_simp; try with_reducible rfl)
      try simp only [List.getElem_toArray, List.getElem_cons_zero, List.getElem_cons_succ, Act.put, List.setIfInBounds_toArray, List.set_cons_zero, List.set_cons_succ]
      refine wpAnyH_take (i := 28) (oi := _) (v := ?_) rfl (by kernel_rfl) (by kernel_rfl) (by kernel_rfl) (fun _ _ _ h => h) (Or.inl ⟨by rfl, ?_⟩) (by assumption) ?_
      rotate_left 1
      · (intro w hSw; (try dsimp only at hSw); go_simp; try with_reducible rfl)
      try simp only [List.getElem_toArray, List.getElem_cons_zero, List.getElem_cons_succ, Act.put, List.setIfInBounds_toArray, List.set_cons_zero, List.set_cons_succ]
      refine wpAnyH_done (by kernel_rfl) ?_ _
      clear f1 f2 f3 f4 f5 g1 g2 hq
      rcases Nat.lt_or_ge ch 24 with g3 | g3
      · have hc1 : ((ch : Int) == 24) = false := by rw [beq_eq_false_iff_ne]; omega
        have hc2 : ¬ ((ch : Int) = 24) := by omega
        have g4 := Lib.hid (show cy + h < 24 from by rw [← HF.out.2.1]; exact g3)
        clear g3
        obtain ⟨k, N3, ht, PK, k2⟩ := bo_k cx cy wd h N2 HN2.out high high0 high1 g4.out
        replace PK := Lib.hid PK
        replace k2 := Lib.hid k2
        have hl0 := (row_cell U2.out.now 0).trans (show _ = some (.int .i64 (cx : Int)) from rfl)
        have hl1 := (row_cell U2.out.now 1).trans (show _ = some (.int .i64 (cy : Int)) from rfl)
        have hl2 := HF.out.1
        have hl3 := HE.out.2.2.2.1
        have hl4 := k2.out.1
        go_wp2_with fail
        clear hl0 hl1 hl2 hl3 hl4
        clear hc1 hc2
        (with_reducible refine (PK.out _).mono ?_)
        rintro e w15 ⟨k0, ek, rfl, hb⟩
        replace HU := Lib.hid (HU.out.next hb)
        replace UC := Lib.hid (UC.out.next hb)
        replace UD := Lib.hid (UD.out.next hb)
        replace U2 := Lib.hid (U2.out.next hb)
        replace U3 := Lib.hid (U3.out.next hb)
        replace U7 := Lib.hid (U7.out.next hb)
        clear hb
        have hl0 := (row_cell U2.out.now 0).trans (show _ = some (.int .i64 (cx : Int)) from rfl)
        have hl1 := (row_cell U2.out.now 1).trans (show _ = some (.int .i64 (cy : Int)) from rfl)
        have hl2 := HF.out.1
        have hl3 := ek
        go_wp2_with fail
        clear hl0 hl1 hl2 hl3
        clear ek
        (with_reducible refine (boxV _ cx ch wd k HR.out.1 HR.out.2.1 HR.out.2.2.1 k2.out.2.1 (bo_ch HF.out.2.1 k2.out.2.2.1)).mono ?_)
        rintro e w16 ⟨b16, o16, c16, rfl, hs, hb⟩
        replace HU := Lib.hid (HU.out.next hb)
        replace UC := Lib.hid (UC.out.next hb)
        replace UD := Lib.hid (UD.out.next hb)
        replace U2 := Lib.hid (U2.out.next hb)
        replace U3 := Lib.hid (U3.out.next hb)
        replace U7 := Lib.hid (U7.out.next hb)
        obtain ⟨x16, B16, e1, e2, hb2, hk⟩ := box1 w16 #[.slice (some ⟨b16, o16, none⟩) 24 c16] 25
        have U16 := Lib.hid (up_va (Sl.below hs (Nat.le_refl _) hb2) hk : Up x16 (VA B16 b16 o16 c16 (box cx ch wd k)))
        replace HU := Lib.hid (HU.out.next hb2)
        replace UC := Lib.hid (UC.out.next hb2)
        replace UD := Lib.hid (UD.out.next hb2)
        replace U2 := Lib.hid (U2.out.next hb2)
        replace U3 := Lib.hid (U3.out.next hb2)
        replace U7 := Lib.hid (U7.out.next hb2)
        clear hs hb hb2 hk
        have hl0 := (row_cell U2.out.now 0).trans (show _ = some (.int .i64 (cx : Int)) from rfl)
        have hl1 := (row_cell U2.out.now 1).trans (show _ = some (.int .i64 (cy : Int)) from rfl)
        have hl2 := k2.out.2.2.2.1
        go_wp2_with fail
        clear e1 e2
        clear hl0 hl1 hl2
        (with_reducible refine (boxV _ cx cy wd ht HR.out.1 HR.out.2.1 HR.out.2.2.1 k2.out.2.2.2.2.1 k2.out.2.2.2.2.2.1).mono ?_)
        rintro e w17 ⟨b17, o17, c17, rfl, hs, hb⟩
        replace HU := Lib.hid (HU.out.next hb)
        replace UC := Lib.hid (UC.out.next hb)
        replace UD := Lib.hid (UD.out.next hb)
        replace U2 := Lib.hid (U2.out.next hb)
        replace U3 := Lib.hid (U3.out.next hb)
        replace U7 := Lib.hid (U7.out.next hb)
        replace U16 := Lib.hid (U16.out.next hb)
        obtain ⟨x17, B17, e1, e2, hb2, hk⟩ := box1 w17 #[.slice (some ⟨b17, o17, none⟩) 24 c17] 25
        have U17 := Lib.hid (up_va (Sl.below hs (Nat.le_refl _) hb2) hk : Up x17 (VA B17 b17 o17 c17 (box cx cy wd ht)))
        replace HU := Lib.hid (HU.out.next hb2)
        replace UC := Lib.hid (UC.out.next hb2)
        replace UD := Lib.hid (UD.out.next hb2)
        replace U2 := Lib.hid (U2.out.next hb2)
        replace U3 := Lib.hid (U3.out.next hb2)
        replace U7 := Lib.hid (U7.out.next hb2)
        replace U16 := Lib.hid (U16.out.next hb2)
        clear hs hb hb2 hk
        have hl0 := U7.out.now.cell
        have hl1 := U16.out.now.cell
        go_wp2_with fail
        clear e1 e2
        clear hl0 hl1
        (with_reducible refine (unionV U7.out.now.1 U16.out.now.1).mono ?_)
        rintro e w18 ⟨b18, o18, c18, rfl, hs, hb⟩
        replace HU := Lib.hid (HU.out.next hb)
        replace UC := Lib.hid (UC.out.next hb)
        replace UD := Lib.hid (UD.out.next hb)
        replace U2 := Lib.hid (U2.out.next hb)
        replace U3 := Lib.hid (U3.out.next hb)
        replace U7 := Lib.hid (U7.out.next hb)
        replace U16 := Lib.hid (U16.out.next hb)
        replace U17 := Lib.hid (U17.out.next hb)
        obtain ⟨x18, B18, e1, e2, hb2, hk⟩ := box1 w18 #[.slice (some ⟨b18, o18, none⟩) 24 c18] 25
        have U18 := Lib.hid (up_va (Sl.below hs (Nat.le_refl _) hb2) hk : Up x18 (VA B18 b18 o18 c18 (orA (box cx cy wd h) (box cx ch wd k))))
        replace HU := Lib.hid (HU.out.next hb2)
        replace UC := Lib.hid (UC.out.next hb2)
        replace UD := Lib.hid (UD.out.next hb2)
        replace U2 := Lib.hid (U2.out.next hb2)
        replace U3 := Lib.hid (U3.out.next hb2)
        replace U7 := Lib.hid (U7.out.next hb2)
        replace U16 := Lib.hid (U16.out.next hb2)
        replace U17 := Lib.hid (U17.out.next hb2)
        clear hs hb hb2 hk
        have hl0 := U18.out.now.cell
        have hl1 := U17.out.now.cell
        go_wp2_with fail
        clear e1 e2
        clear hl0 hl1
        (with_reducible refine (rsameV (bo_pile HF.out.2.1 k2.out.2.2.2.2.2.2) U18.out.now.1 U17.out.now.1).mono ?_)
        rintro e w19 ⟨rfl, hb⟩
        replace HU := Lib.hid (HU.out.next hb)
        replace UC := Lib.hid (UC.out.next hb)
        replace UD := Lib.hid (UD.out.next hb)
        replace U2 := Lib.hid (U2.out.next hb)
        replace U3 := Lib.hid (U3.out.next hb)
        replace U7 := Lib.hid (U7.out.next hb)
        replace U16 := Lib.hid (U16.out.next hb)
        replace U17 := Lib.hid (U17.out.next hb)
        replace U18 := Lib.hid (U18.out.next hb)
        clear hb
        go_wp2
        go_ret
        exact ⟨rfl, HU.out.now.1⟩
      · have g4 := Lib.hid (show ch = 24 from by have := HF.out.2.1; have := HR.out.2.2.2.2.1; omega)
        clear g3
        have hc1 : (ch : Int) = 24 := by rw [g4.out]; rfl
        obtain ⟨h2, k1, k2⟩ := bo_h2 cx cy wd h (show cy + h = 24 from by rw [← HF.out.2.1]; exact g4.out) HR.out.2.2.2.2.1
        replace k2 := Lib.hid k2
        have hl0 := (row_cell U2.out.now 0).trans (show _ = some (.int .i64 (cx : Int)) from rfl)
        have hl1 := (row_cell U2.out.now 1).trans (show _ = some (.int .i64 (cy : Int)) from rfl)
        have hl2 := HF.out.1
        have hl3 := k1
        go_wp2_with fail
        clear hl0 hl1 hl2 hl3
        clear hc1 k1
        (with_reducible refine (boxX _ (cx : Int) (cy : Int) (wd : Int) (h2 : Int) k2.out).mono ?_)
        rintro e w15 ⟨c15, al15, rfl, hb⟩
        replace HU := Lib.hid (HU.out.next hb)
        replace UC := Lib.hid (UC.out.next hb)
        replace UD := Lib.hid (UD.out.next hb)
        replace U2 := Lib.hid (U2.out.next hb)
        replace U3 := Lib.hid (U3.out.next hb)
        replace U7 := Lib.hid (U7.out.next hb)
        clear hb
        go_wp2
        go_ret
        exact ⟨rfl, HU.out.now.1⟩
end Go.Proofs.YtipfafglbkbafaaDoor
