/- compare, minus, times and gcd of numbers with signs, walked. -/
import Derived.Test.YtebjjgbdiabapaaGreatDoorNup
namespace Go.Proofs.YtebjjgbdiabapaaGreatDoor
open Go.RowKit

theorem cmpZ_both {x y : Int} (hx : x < 0) (hy : y < 0) : cmpZ x y = cmpN y.natAbs x.natAbs := by
  unfold cmpZ cmpN
  by_cases h : x < y
  · rw [if_pos h, if_pos (by omega)]
  · by_cases h2 : y < x
    · rw [if_neg h, if_pos h2, if_neg (by omega), if_pos (by omega)]
    · rw [if_neg h, if_neg h2, if_neg (by omega), if_neg (by omega)]
theorem cmpZ_none {x y : Int} (hx : ¬ x < 0) (hy : ¬ y < 0) : cmpZ x y = cmpN x.natAbs y.natAbs := by
  unfold cmpZ cmpN
  by_cases h : x < y
  · rw [if_pos h, if_pos (by omega)]
  · by_cases h2 : y < x
    · rw [if_neg h, if_pos h2, if_neg (by omega), if_pos (by omega)]
    · rw [if_neg h, if_neg h2, if_neg (by omega), if_neg (by omega)]

set_option maxRecDepth 100000 in
set_option maxHeartbeats 2000000 in
theorem ncompare_any (w : World) (v1 v2 : Value) (x y : Int) (h1 : Nm w v1 x) (h2 : Nm w v2 y) (hx : (dz 10000 x.natAbs).length ≤ 2000) (hy : (dz 10000 y.natAbs).length ≤ 2000) :
    Calls Tryz.prog 53 #[v1, v2] w (IntOut w (cmpZ x y)) := by
  obtain ⟨b1, al1, L1, c1, rfl, hb1, hL1, hs1⟩ := h1.open
  obtain ⟨b2, al2, L2, c2, rfl, hb2, hL2, hs2⟩ := h2.open
  clear h1 h2
  have HB0 := Lib.hid (((Below.refl w.heap.size w).alloc (Nat.le_refl _) (.cells #[.bool b1, .slice al1 L1 c1] 49)).alloc (by simp) (.cells #[.bool b2, .slice al2 L2 c2] 49))
  have H1 := Lib.hid (hs1.out.below (Nat.le_refl _) HB0.out)
  have H2 := Lib.hid (hs2.out.below (Nat.le_refl _) HB0.out)
  by_cases hxn : x < 0
  · obtain rfl : b1 = true := by rw [hb1.out]; simpa using hxn
    by_cases hyn : y < 0
    · obtain rfl : b2 = true := by rw [hb2.out]; simpa using hyn
      have CC := Lib.hid (compare_nt _ _ _ _ _ H2.out H1.out (by omega) (by omega))
      rw [cmpZ_both hxn hyn]
      clear hxn hyn hx hy
      go_enter Tryz.func53, Tryz.ntmps53
      go_wp2_with (go_at_call 57; (with_reducible refine CC.out.mono ?_); rintro e w1 ⟨rfl, hb⟩)
      go_ret
      exact ⟨rfl, HB0.out.trans (hb.mono HB0.out.size)⟩
    · obtain rfl : b2 = false := by rw [hb2.out]; simpa using hyn
      have e : cmpZ x y = -1 := by unfold cmpZ; rw [if_pos (by omega)]
      rw [e]
      clear hxn hyn hx hy e
      go_enter Tryz.func53, Tryz.ntmps53
      go_wp2
      go_ret
      exact ⟨rfl, HB0.out⟩
  · obtain rfl : b1 = false := by rw [hb1.out]; simpa using hxn
    by_cases hyn : y < 0
    · obtain rfl : b2 = true := by rw [hb2.out]; simpa using hyn
      have e : cmpZ x y = 1 := by unfold cmpZ; rw [if_neg (by omega), if_pos (by omega)]
      rw [e]
      clear hxn hyn hx hy e
      go_enter Tryz.func53, Tryz.ntmps53
      go_wp2
      go_ret
      exact ⟨rfl, HB0.out⟩
    · obtain rfl : b2 = false := by rw [hb2.out]; simpa using hyn
      have CC := Lib.hid (compare_nt _ _ _ _ _ H1.out H2.out (by omega) (by omega))
      rw [cmpZ_none hxn hyn]
      clear hxn hyn hx hy
      go_enter Tryz.func53, Tryz.ntmps53
      go_wp2_with (go_at_call 57; (with_reducible refine CC.out.mono ?_); rintro e w1 ⟨rfl, hb⟩)
      go_ret
      exact ⟨rfl, HB0.out.trans (hb.mono HB0.out.size)⟩

set_option maxRecDepth 100000 in
set_option maxHeartbeats 2000000 in
theorem nminus_nm (w : World) (v1 v2 : Value) (x y : Int) (h1 : Nm w v1 x) (h2 : Nm w v2 y) (hx : (dz 10000 x.natAbs).length ≤ 2000) (hy : (dz 10000 y.natAbs).length ≤ 2000) :
    Calls Tryz.prog 34 #[v1, v2] w (NmOut w (x - y)) := by
  have CN := Lib.hid (fun W (hW : Below w.heap.size w W) => negated_nm W v2 y (h2.below (Nat.le_refl _) hW))
  have CP := Lib.hid (fun W v (hW : Below w.heap.size w W) (hv : Nm W v (-y)) => nplus_nm W v1 v x (-y) (h1.below (Nat.le_refl _) hW) hv hx (by rw [Int.natAbs_neg]; exact hy))
  rw [show x + -y = x - y by omega] at CP
  obtain ⟨b1, al1, L1, c1, rfl, hb1, hL1, hs1⟩ := h1.open
  obtain ⟨b2, al2, L2, c2, rfl, hb2, hL2, hs2⟩ := h2.open
  clear h1 h2 hx hy
  have HB0 := Lib.hid (boxes_below w b1 b2 (.slice al1 L1 c1) (.slice al2 L2 c2))
  have K2 := Lib.hid (two_of w b1 b2 (.slice al1 L1 c1) (.slice al2 L2 c2))
  have K3 := Lib.hid (third_of w b1 b2 (.slice al1 L1 c1) (.slice al2 L2 c2))
  go_enter Tryz.func34, Tryz.ntmps34
  go_wp2_with fail
  go_region_held3 (fun w' => Two w w' b1 b2 (.slice al1 L1 c1) (.slice al2 L2 c2))
    (first
      | exact K2.out _ (Below.refl _ _).drew
      | exact K2.out _ hB3
      | exact two_put (K2.out _ hB4) _ _
      | exact K2.out _ hB4
      | go_keep)
    (first
      | (go_at_call 59; (with_reducible refine (CN.out _ HB0.out.drew).mono ?_); rintro e w3 ⟨v3, rfl, hv3, hb3⟩; have hB3 := below1 (Below.refl _ (boxes w b1 b2 (.slice al1 L1 c1) (.slice al2 L2 c2))).drew hb3)
      | (go_at_call 31; (with_reducible refine (CP.out _ _ (HB0.out.trans (hB3.mono HB0.out.size)) hv3).mono ?_); rintro e w4 ⟨v4, rfl, hv4, hb4⟩; have hB4 := below1 hB3 hb4; obtain ⟨b5, al5, L5, c5, rfl, hb5, hL5, hs5⟩ := hv4.open; obtain ⟨q1, q2, q3, q4⟩ := box2 (K3.out _ hB4)))
  have HB := Lib.hid (HB0.out.trans (hB4.mono HB0.out.size))
  have HK := Lib.hid (K3.out _ hB4)
  clear hB4 hB3 hb4 hb3
  go_wp2
  obtain ⟨r1, r2, _⟩ := box2 (put2_heap HK.out (.bool b5) (.slice al5 L5 c5))
  exact bodyPost_ret (v := .agg #[.bool b5, .slice al5 L5 c5]) (by simp [results, Tryz.results34, go_sem, r1, r2]) rfl
    (nm_end HK.out hb5.out hs5.out HB.out (by omega))

theorem sgn_mul (x y : Int) : sgn (!decide (x < 0) == decide (y < 0)) (x.natAbs * y.natAbs) = x * y := by
  have h : ((x.natAbs * y.natAbs : Nat) : Int) = ((x * y).natAbs : Int) := by rw [Int.natAbs_mul]
  unfold sgn
  rw [h]
  by_cases hx : x < 0
  · by_cases hy : y < 0
    · have := Int.mul_nonneg_of_nonpos_of_nonpos (Int.le_of_lt hx) (Int.le_of_lt hy)
      simp [hx, hy]; omega
    · have := Int.mul_nonpos_of_nonpos_of_nonneg (Int.le_of_lt hx) (show 0 ≤ y by omega)
      simp [hx, hy]; omega
  · by_cases hy : y < 0
    · have := Int.mul_nonpos_of_nonneg_of_nonpos (show 0 ≤ x by omega) (Int.le_of_lt hy)
      simp [hx, hy]; omega
    · have := Int.mul_nonneg (show 0 ≤ x by omega) (show 0 ≤ y by omega)
      simp [hx, hy]; omega

set_option maxRecDepth 100000 in
set_option maxHeartbeats 2000000 in
theorem ntimes_nm (w : World) (v1 v2 : Value) (x y : Int) (h1 : Nm w v1 x) (h2 : Nm w v2 y) (hx : (dz 10000 x.natAbs).length ≤ 2000) (hy : (dz 10000 y.natAbs).length ≤ 2000) :
    Calls Tryz.prog 35 #[v1, v2] w (NmOut w (x * y)) := by
  have hsm := sgn_mul x y
  obtain ⟨b1, al1, L1, c1, rfl, hb1, hL1, hs1⟩ := h1.open
  obtain ⟨b2, al2, L2, c2, rfl, hb2, hL2, hs2⟩ := h2.open
  clear h1 h2
  rw [← hb1.out, ← hb2.out] at hsm
  have HB0 := Lib.hid (boxes_below w b1 b2 (.slice al1 L1 c1) (.slice al2 L2 c2))
  have K2 := Lib.hid (two_of w b1 b2 (.slice al1 L1 c1) (.slice al2 L2 c2))
  have K3 := Lib.hid (third_of w b1 b2 (.slice al1 L1 c1) (.slice al2 L2 c2))
  have CP := Lib.hid (fun W (hW : Below w.heap.size w W) => times_nt W _ _ _ _ (hs1.out.below (Nat.le_refl _) hW) (hs2.out.below (Nat.le_refl _) hW) (by omega) (by omega))
  have CS := Lib.hid (fun W v (h : Nt W v (x.natAbs * y.natAbs)) => signed_nm W (!b1 == b2) v _ h)
  rw [hsm] at CS
  clear hsm hx hy
  go_enter Tryz.func35, Tryz.ntmps35
  go_wp2_with fail
  go_region_held3 (fun w' => Two w w' b1 b2 (.slice al1 L1 c1) (.slice al2 L2 c2))
    (first
      | exact K2.out _ (Below.refl _ _).drew
      | exact K2.out _ hB3
      | exact two_put (K2.out _ hB4) _ _
      | exact K2.out _ hB4
      | go_keep)
    (first
      | (go_at_call 60; (with_reducible refine (CP.out _ HB0.out.drew).mono ?_); rintro e w3 ⟨v3, rfl, hv3, hb3⟩; have hB3 := below1 (Below.refl _ (boxes w b1 b2 (.slice al1 L1 c1) (.slice al2 L2 c2))).drew hb3)
      | (go_at_call 55; (with_reducible refine (CS.out _ _ hv3).mono ?_); rintro e w4 ⟨v4, rfl, hv4, hb4⟩; have hB4 := below1 hB3 hb4; obtain ⟨b5, al5, L5, c5, rfl, hb5, hL5, hs5⟩ := hv4.open; obtain ⟨q1, q2, q3, q4⟩ := box2 (K3.out _ hB4)))
  have HB := Lib.hid (HB0.out.trans (hB4.mono HB0.out.size))
  have HK := Lib.hid (K3.out _ hB4)
  clear hB4 hB3 hb4 hb3
  go_wp2
  obtain ⟨r1, r2, _⟩ := box2 (put2_heap HK.out (.bool b5) (.slice al5 L5 c5))
  exact bodyPost_ret (v := .agg #[.bool b5, .slice al5 L5 c5]) (by simp [results, Tryz.results35, go_sem, r1, r2]) rfl
    (nm_end HK.out hb5.out hs5.out HB.out (by omega))

set_option maxRecDepth 100000 in
set_option maxHeartbeats 2000000 in
theorem ngcd_nm (w : World) (v1 v2 : Value) (x y : Int) (h1 : Nm w v1 x) (h2 : Nm w v2 y) (hx : (dz 10000 x.natAbs).length ≤ 2000) (hy : (dz 10000 y.natAbs).length ≤ 2000) :
    Calls Tryz.prog 46 #[v1, v2] w (NmOut w ((Nat.gcd x.natAbs y.natAbs : Nat) : Int)) := by
  obtain ⟨b1, al1, L1, c1, rfl, hb1, hL1, hs1⟩ := h1.open
  obtain ⟨b2, al2, L2, c2, rfl, hb2, hL2, hs2⟩ := h2.open
  clear h1 h2
  have HB0 := Lib.hid (boxes_below w b1 b2 (.slice al1 L1 c1) (.slice al2 L2 c2))
  have K2 := Lib.hid (two_of w b1 b2 (.slice al1 L1 c1) (.slice al2 L2 c2))
  have K3 := Lib.hid (third_of w b1 b2 (.slice al1 L1 c1) (.slice al2 L2 c2))
  have CP := Lib.hid (gcd_nt _ _ _ _ _ (hs1.out.below (Nat.le_refl _) HB0.out) (hs2.out.below (Nat.le_refl _) HB0.out) (by omega) (by omega))
  have CS := Lib.hid (fun W v (h : Nt W v (Nat.gcd x.natAbs y.natAbs)) => signed_nm W false v _ h)
  rw [show sgn false (Nat.gcd x.natAbs y.natAbs) = ((Nat.gcd x.natAbs y.natAbs : Nat) : Int) from rfl] at CS
  clear hx hy
  generalize Nat.gcd x.natAbs y.natAbs = g at *
  go_enter Tryz.func46, Tryz.ntmps46
  go_wp2_with fail
  refine CP.out.mono ?_
  rintro e w3 ⟨v3, rfl, hv3, hb3⟩
  have HV3 := Lib.hid hv3; have HB3 := Lib.hid hb3
  clear hv3 hb3
  go_wp2_with fail
  refine (CS.out _ _ HV3.out).mono ?_
  rintro e w4 ⟨v4, rfl, hv4, hb4⟩
  have hB4 := below1 HB3.out hb4
  obtain ⟨b5, al5, L5, c5, rfl, hb5, hL5, hs5⟩ := hv4.open
  obtain ⟨q1, q2, q3, q4⟩ := box2 (K3.out _ hB4)
  have HB := Lib.hid (HB0.out.trans (hB4.mono HB0.out.size))
  have HK := Lib.hid (K3.out _ hB4)
  clear hB4 hb4 hv4
  go_wp2
  obtain ⟨r1, r2, _⟩ := box2 (put2_heap HK.out (.bool b5) (.slice al5 L5 c5))
  exact bodyPost_ret (v := .agg #[.bool b5, .slice al5 L5 c5]) (by simp [results, Tryz.results46, go_sem, r1, r2]) rfl
    (nm_end HK.out hb5.out hs5.out HB.out (by omega))
end Go.Proofs.YtebjjgbdiabapaaGreatDoor
