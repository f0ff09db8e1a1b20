/- SunShadow, walked. -/
import Derived.Test.YtbgdlfkeimaaiaaDoorLn
namespace Go.Proofs.YtbgdlfkeimaaiaaDoor
open Go.RowKit
set_option linter.unusedSimpArgs false
set_option linter.unusedVariables false
set_option maxRecDepth 100000 in
set_option maxHeartbeats 4000000 in
theorem shadow_any (a b c e f : Int) (a0 : -9223372036854775808 ≤ a) (a1 : a ≤ 9223372036854775807) (b0 : -9223372036854775808 ≤ b) (b1 : b ≤ 9223372036854775807) (c0 : -9223372036854775808 ≤ c) (c1 : c ≤ 9223372036854775807) (e0 : -9223372036854775808 ≤ e) (e1 : e ≤ 9223372036854775807) (f0 : -9223372036854775808 ≤ f) (f1 : f ≤ 9223372036854775807) (w : World) (hT : Tab w) :
    Calls Tryd.prog 7 #[.int .i64 a, .int .i64 b, .int .i64 c, .int .i64 e, .int .i64 f] w (OutV w (.bool true)) := by
  have HU := Lib.hid (up_vb (Below.refl w.heap.size w) hT : Up w (VB w))
  obtain ⟨x, y, hx, hy, CC⟩ := lcV a b a0 a1 b0 b1
  obtain ⟨x', y', hx', hy', CD⟩ := lcV c e c0 c1 e0 e1
  obtain ⟨t, ht, CT⟩ := lpV f f0 f1 1000001 (by decide) (by decide) 1000001 rfl
  have HC := Lib.hid CC; have HD := Lib.hid CD; have HT := Lib.hid CT
  have HL := Lib.hid (show (x < 48 ∧ y < 24) ∧ (x' < 48 ∧ y' < 24) ∧ t ≤ 1000000 from ⟨⟨hx, hy⟩, ⟨hx', hy'⟩, by omega⟩)
  clear CC CD CT hx hy hx' hy' ht a0 a1 b0 b1 c0 c1 e0 e1 f0 f1 hT
  go_enter Tryd.func7, Tryd.ntmps7
  go_wp2_with fail
  (with_reducible refine (sane_any _ HU.out.now.2).mono ?_)
  rintro e v1 ⟨rfl, hb⟩
  replace HU := Lib.hid (HU.out.next hb)
  clear hb
  go_wp2_with fail
  (with_reducible refine (HC.out _).mono ?_)
  rintro e v2 ⟨rfl, hb⟩
  replace HU := Lib.hid (HU.out.next hb)
  clear hb
  obtain ⟨x2, B, ex2, eb2, hb, hk⟩ := box1 v2 #[.int .i64 (x : Int), .int .i64 (y : Int)] 23
  replace HU := Lib.hid (HU.out.next hb)
  have UB := Lib.hid (up_vr hk : Up x2 (VR B #[.int .i64 (x : Int), .int .i64 (y : Int)] 23))
  clear hb hk
  go_wp2_with fail
  clear ex2 eb2
  (with_reducible refine (HD.out _).mono ?_)
  rintro e v3 ⟨rfl, hb⟩
  replace HU := Lib.hid (HU.out.next hb)
  replace UB := Lib.hid (UB.out.next hb)
  clear hb
  obtain ⟨x3, D, ex3, eb3, hb, hk⟩ := box1 v3 #[.int .i64 (x' : Int), .int .i64 (y' : Int)] 23
  replace HU := Lib.hid (HU.out.next hb)
  replace UB := Lib.hid (UB.out.next hb)
  have UD := Lib.hid (up_vr hk : Up x3 (VR D #[.int .i64 (x' : Int), .int .i64 (y' : Int)] 23))
  clear hb hk
  go_wp2_with fail
  clear ex3 eb3
  (with_reducible refine (HT.out _).mono ?_)
  rintro e v4 ⟨rfl, hb⟩
  replace HU := Lib.hid (HU.out.next hb)
  replace UB := Lib.hid (UB.out.next hb)
  replace UD := Lib.hid (UD.out.next hb)
  clear hb
  have cB0 : v4.cell? ⟨B, 0, none⟩ = some (.int .i64 (x : Int)) := row_cell UB.out.now 0
  have cB1 : v4.cell? ⟨B, 1, none⟩ = some (.int .i64 (y : Int)) := row_cell UB.out.now 1
  go_wp2_with fail
  clear cB0 cB1
  (with_reducible refine (heightS_yes x y t HL.out.1.1 HL.out.1.2 HL.out.2.2 _).mono ?_)
  rintro e v5 ⟨rfl, hb⟩
  replace HU := Lib.hid (HU.out.next hb)
  replace UB := Lib.hid (UB.out.next hb)
  replace UD := Lib.hid (UD.out.next hb)
  clear hb
  have cD0 : v5.cell? ⟨D, 0, none⟩ = some (.int .i64 (x' : Int)) := row_cell UD.out.now 0
  have cD1 : v5.cell? ⟨D, 1, none⟩ = some (.int .i64 (y' : Int)) := row_cell UD.out.now 1
  go_wp2_with fail
  clear cD0 cD1
  (with_reducible refine (heightS_yes x' y' t HL.out.2.1.1 HL.out.2.1.2 HL.out.2.2 _).mono ?_)
  rintro e v6 ⟨rfl, hb⟩
  replace HU := Lib.hid (HU.out.next hb)
  replace UB := Lib.hid (UB.out.next hb)
  replace UD := Lib.hid (UD.out.next hb)
  clear hb
  obtain ⟨p, hp⟩ : ∃ p, hgt x y t = p := ⟨_, rfl⟩
  obtain ⟨q, hq⟩ : ∃ q, hgt x' y' t = q := ⟨_, rfl⟩
  have HP := Lib.hid hp; have HQ := Lib.hid hq
  rw [hp, hq]
  clear hp hq
  have k1 : (0 < p) ∨ (p ≤ 0 ∧ -20 ≤ p) ∨ (p < -20) := by omega
  have k2 : (0 < q) ∨ (q ≤ 0 ∧ -20 ≤ q) ∨ (q < -20) := by omega
  rcases k1 with k1 | ⟨k1, k1'⟩ | k1
  · rcases k2 with k2 | ⟨k2, k2'⟩ | k2
    · skip
      have l1 : decide (0 < p) = true := by simp; omega
      have l2 : decide (p < -20) = false := by simp; omega
      have l3 : decide (0 < q) = true := by simp; omega
      have l4 : decide (q < -20) = false := by simp; omega
      clear k1 k2
      have cB0 : v6.cell? ⟨B, 0, none⟩ = some (.int .i64 (x : Int)) := row_cell UB.out.now 0
      have cB1 : v6.cell? ⟨B, 1, none⟩ = some (.int .i64 (y : Int)) := row_cell UB.out.now 1
      go_wp2_with fail
      clear cB0 cB1
      (with_reducible refine (litS_yes x y t HL.out.1.1 HL.out.1.2 HL.out.2.2 _ HU.out.now.2).mono ?_)
      rintro e v7 ⟨rfl, hb⟩
      replace HU := Lib.hid (HU.out.next hb)
      replace UB := Lib.hid (UB.out.next hb)
      replace UD := Lib.hid (UD.out.next hb)
      clear hb
      rw [HP.out]
      have cB0 : v7.cell? ⟨B, 0, none⟩ = some (.int .i64 (x : Int)) := row_cell UB.out.now 0
      have cB1 : v7.cell? ⟨B, 1, none⟩ = some (.int .i64 (y : Int)) := row_cell UB.out.now 1
      go_wp2_with fail
      clear cB0 cB1
      (with_reducible refine (darkS_yes x y t HL.out.1.1 HL.out.1.2 HL.out.2.2 _ HU.out.now.2).mono ?_)
      rintro e v8 ⟨rfl, hb⟩
      replace HU := Lib.hid (HU.out.next hb)
      replace UB := Lib.hid (UB.out.next hb)
      replace UD := Lib.hid (UD.out.next hb)
      clear hb
      rw [HP.out]
      have cB0 : v8.cell? ⟨B, 0, none⟩ = some (.int .i64 (x : Int)) := row_cell UB.out.now 0
      have cB1 : v8.cell? ⟨B, 1, none⟩ = some (.int .i64 (y : Int)) := row_cell UB.out.now 1
      go_wp2_with fail
      clear cB0 cB1
      (with_reducible refine (litS_yes x y t HL.out.1.1 HL.out.1.2 HL.out.2.2 _ HU.out.now.2).mono ?_)
      rintro e v9 ⟨rfl, hb⟩
      replace HU := Lib.hid (HU.out.next hb)
      replace UB := Lib.hid (UB.out.next hb)
      replace UD := Lib.hid (UD.out.next hb)
      clear hb
      rw [HP.out]
      have cD0 : v9.cell? ⟨D, 0, none⟩ = some (.int .i64 (x' : Int)) := row_cell UD.out.now 0
      have cD1 : v9.cell? ⟨D, 1, none⟩ = some (.int .i64 (y' : Int)) := row_cell UD.out.now 1
      go_wp2_with fail
      clear cD0 cD1
      (with_reducible refine (litS_yes x' y' t HL.out.2.1.1 HL.out.2.1.2 HL.out.2.2 _ HU.out.now.2).mono ?_)
      rintro e v10 ⟨rfl, hb⟩
      replace HU := Lib.hid (HU.out.next hb)
      replace UB := Lib.hid (UB.out.next hb)
      replace UD := Lib.hid (UD.out.next hb)
      clear hb
      rw [HQ.out]
      have cB0 : v10.cell? ⟨B, 0, none⟩ = some (.int .i64 (x : Int)) := row_cell UB.out.now 0
      have cB1 : v10.cell? ⟨B, 1, none⟩ = some (.int .i64 (y : Int)) := row_cell UB.out.now 1
      go_wp2_with fail
      clear cB0 cB1
      (with_reducible refine (darkS_yes x y t HL.out.1.1 HL.out.1.2 HL.out.2.2 _ HU.out.now.2).mono ?_)
      rintro e v11 ⟨rfl, hb⟩
      replace HU := Lib.hid (HU.out.next hb)
      replace UB := Lib.hid (UB.out.next hb)
      replace UD := Lib.hid (UD.out.next hb)
      clear hb
      rw [HP.out]
      go_wp2
      go_ret
      exact ⟨rfl, HU.out.now.1⟩
    · skip
      have l1 : decide (0 < p) = true := by simp; omega
      have l2 : decide (p < -20) = false := by simp; omega
      have l3 : decide (0 < q) = false := by simp; omega
      have l4 : decide (q < -20) = false := by simp; omega
      have l5 : decide (p ≤ q) = false := by simp; omega
      clear k1 k2 k2'
      have cB0 : v6.cell? ⟨B, 0, none⟩ = some (.int .i64 (x : Int)) := row_cell UB.out.now 0
      have cB1 : v6.cell? ⟨B, 1, none⟩ = some (.int .i64 (y : Int)) := row_cell UB.out.now 1
      go_wp2_with fail
      clear cB0 cB1
      (with_reducible refine (litS_yes x y t HL.out.1.1 HL.out.1.2 HL.out.2.2 _ HU.out.now.2).mono ?_)
      rintro e v7 ⟨rfl, hb⟩
      replace HU := Lib.hid (HU.out.next hb)
      replace UB := Lib.hid (UB.out.next hb)
      replace UD := Lib.hid (UD.out.next hb)
      clear hb
      rw [HP.out]
      have cB0 : v7.cell? ⟨B, 0, none⟩ = some (.int .i64 (x : Int)) := row_cell UB.out.now 0
      have cB1 : v7.cell? ⟨B, 1, none⟩ = some (.int .i64 (y : Int)) := row_cell UB.out.now 1
      go_wp2_with fail
      clear cB0 cB1
      (with_reducible refine (darkS_yes x y t HL.out.1.1 HL.out.1.2 HL.out.2.2 _ HU.out.now.2).mono ?_)
      rintro e v8 ⟨rfl, hb⟩
      replace HU := Lib.hid (HU.out.next hb)
      replace UB := Lib.hid (UB.out.next hb)
      replace UD := Lib.hid (UD.out.next hb)
      clear hb
      rw [HP.out]
      have cB0 : v8.cell? ⟨B, 0, none⟩ = some (.int .i64 (x : Int)) := row_cell UB.out.now 0
      have cB1 : v8.cell? ⟨B, 1, none⟩ = some (.int .i64 (y : Int)) := row_cell UB.out.now 1
      go_wp2_with fail
      clear cB0 cB1
      (with_reducible refine (litS_yes x y t HL.out.1.1 HL.out.1.2 HL.out.2.2 _ HU.out.now.2).mono ?_)
      rintro e v9 ⟨rfl, hb⟩
      replace HU := Lib.hid (HU.out.next hb)
      replace UB := Lib.hid (UB.out.next hb)
      replace UD := Lib.hid (UD.out.next hb)
      clear hb
      rw [HP.out]
      have cD0 : v9.cell? ⟨D, 0, none⟩ = some (.int .i64 (x' : Int)) := row_cell UD.out.now 0
      have cD1 : v9.cell? ⟨D, 1, none⟩ = some (.int .i64 (y' : Int)) := row_cell UD.out.now 1
      go_wp2_with fail
      clear cD0 cD1
      (with_reducible refine (litS_yes x' y' t HL.out.2.1.1 HL.out.2.1.2 HL.out.2.2 _ HU.out.now.2).mono ?_)
      rintro e v10 ⟨rfl, hb⟩
      replace HU := Lib.hid (HU.out.next hb)
      replace UB := Lib.hid (UB.out.next hb)
      replace UD := Lib.hid (UD.out.next hb)
      clear hb
      rw [HQ.out]
      have cB0 : v10.cell? ⟨B, 0, none⟩ = some (.int .i64 (x : Int)) := row_cell UB.out.now 0
      have cB1 : v10.cell? ⟨B, 1, none⟩ = some (.int .i64 (y : Int)) := row_cell UB.out.now 1
      go_wp2_with fail
      clear cB0 cB1
      (with_reducible refine (darkS_yes x y t HL.out.1.1 HL.out.1.2 HL.out.2.2 _ HU.out.now.2).mono ?_)
      rintro e v11 ⟨rfl, hb⟩
      replace HU := Lib.hid (HU.out.next hb)
      replace UB := Lib.hid (UB.out.next hb)
      replace UD := Lib.hid (UD.out.next hb)
      clear hb
      rw [HP.out]
      go_wp2
      go_ret
      exact ⟨rfl, HU.out.now.1⟩
    · skip
      have l1 : decide (0 < p) = true := by simp; omega
      have l2 : decide (p < -20) = false := by simp; omega
      have l3 : decide (0 < q) = false := by simp; omega
      have l4 : decide (q < -20) = true := by simp; omega
      have l5 : decide (p ≤ q) = false := by simp; omega
      clear k1 k2
      have cB0 : v6.cell? ⟨B, 0, none⟩ = some (.int .i64 (x : Int)) := row_cell UB.out.now 0
      have cB1 : v6.cell? ⟨B, 1, none⟩ = some (.int .i64 (y : Int)) := row_cell UB.out.now 1
      go_wp2_with fail
      clear cB0 cB1
      (with_reducible refine (litS_yes x y t HL.out.1.1 HL.out.1.2 HL.out.2.2 _ HU.out.now.2).mono ?_)
      rintro e v7 ⟨rfl, hb⟩
      replace HU := Lib.hid (HU.out.next hb)
      replace UB := Lib.hid (UB.out.next hb)
      replace UD := Lib.hid (UD.out.next hb)
      clear hb
      rw [HP.out]
      have cB0 : v7.cell? ⟨B, 0, none⟩ = some (.int .i64 (x : Int)) := row_cell UB.out.now 0
      have cB1 : v7.cell? ⟨B, 1, none⟩ = some (.int .i64 (y : Int)) := row_cell UB.out.now 1
      go_wp2_with fail
      clear cB0 cB1
      (with_reducible refine (darkS_yes x y t HL.out.1.1 HL.out.1.2 HL.out.2.2 _ HU.out.now.2).mono ?_)
      rintro e v8 ⟨rfl, hb⟩
      replace HU := Lib.hid (HU.out.next hb)
      replace UB := Lib.hid (UB.out.next hb)
      replace UD := Lib.hid (UD.out.next hb)
      clear hb
      rw [HP.out]
      have cB0 : v8.cell? ⟨B, 0, none⟩ = some (.int .i64 (x : Int)) := row_cell UB.out.now 0
      have cB1 : v8.cell? ⟨B, 1, none⟩ = some (.int .i64 (y : Int)) := row_cell UB.out.now 1
      go_wp2_with fail
      clear cB0 cB1
      (with_reducible refine (litS_yes x y t HL.out.1.1 HL.out.1.2 HL.out.2.2 _ HU.out.now.2).mono ?_)
      rintro e v9 ⟨rfl, hb⟩
      replace HU := Lib.hid (HU.out.next hb)
      replace UB := Lib.hid (UB.out.next hb)
      replace UD := Lib.hid (UD.out.next hb)
      clear hb
      rw [HP.out]
      have cD0 : v9.cell? ⟨D, 0, none⟩ = some (.int .i64 (x' : Int)) := row_cell UD.out.now 0
      have cD1 : v9.cell? ⟨D, 1, none⟩ = some (.int .i64 (y' : Int)) := row_cell UD.out.now 1
      go_wp2_with fail
      clear cD0 cD1
      (with_reducible refine (litS_yes x' y' t HL.out.2.1.1 HL.out.2.1.2 HL.out.2.2 _ HU.out.now.2).mono ?_)
      rintro e v10 ⟨rfl, hb⟩
      replace HU := Lib.hid (HU.out.next hb)
      replace UB := Lib.hid (UB.out.next hb)
      replace UD := Lib.hid (UD.out.next hb)
      clear hb
      rw [HQ.out]
      have cB0 : v10.cell? ⟨B, 0, none⟩ = some (.int .i64 (x : Int)) := row_cell UB.out.now 0
      have cB1 : v10.cell? ⟨B, 1, none⟩ = some (.int .i64 (y : Int)) := row_cell UB.out.now 1
      go_wp2_with fail
      clear cB0 cB1
      (with_reducible refine (darkS_yes x y t HL.out.1.1 HL.out.1.2 HL.out.2.2 _ HU.out.now.2).mono ?_)
      rintro e v11 ⟨rfl, hb⟩
      replace HU := Lib.hid (HU.out.next hb)
      replace UB := Lib.hid (UB.out.next hb)
      replace UD := Lib.hid (UD.out.next hb)
      clear hb
      rw [HP.out]
      go_wp2
      go_ret
      exact ⟨rfl, HU.out.now.1⟩
  · rcases k2 with k2 | ⟨k2, k2'⟩ | k2
    · skip
      have l1 : decide (0 < p) = false := by simp; omega
      have l2 : decide (p < -20) = false := by simp; omega
      have l3 : decide (0 < q) = true := by simp; omega
      have l4 : decide (q < -20) = false := by simp; omega
      clear k1 k2 k1'
      have cB0 : v6.cell? ⟨B, 0, none⟩ = some (.int .i64 (x : Int)) := row_cell UB.out.now 0
      have cB1 : v6.cell? ⟨B, 1, none⟩ = some (.int .i64 (y : Int)) := row_cell UB.out.now 1
      go_wp2_with fail
      clear cB0 cB1
      (with_reducible refine (litS_yes x y t HL.out.1.1 HL.out.1.2 HL.out.2.2 _ HU.out.now.2).mono ?_)
      rintro e v7 ⟨rfl, hb⟩
      replace HU := Lib.hid (HU.out.next hb)
      replace UB := Lib.hid (UB.out.next hb)
      replace UD := Lib.hid (UD.out.next hb)
      clear hb
      rw [HP.out]
      have cB0 : v7.cell? ⟨B, 0, none⟩ = some (.int .i64 (x : Int)) := row_cell UB.out.now 0
      have cB1 : v7.cell? ⟨B, 1, none⟩ = some (.int .i64 (y : Int)) := row_cell UB.out.now 1
      go_wp2_with fail
      clear cB0 cB1
      (with_reducible refine (litS_yes x y t HL.out.1.1 HL.out.1.2 HL.out.2.2 _ HU.out.now.2).mono ?_)
      rintro e v8 ⟨rfl, hb⟩
      replace HU := Lib.hid (HU.out.next hb)
      replace UB := Lib.hid (UB.out.next hb)
      replace UD := Lib.hid (UD.out.next hb)
      clear hb
      rw [HP.out]
      have cB0 : v8.cell? ⟨B, 0, none⟩ = some (.int .i64 (x : Int)) := row_cell UB.out.now 0
      have cB1 : v8.cell? ⟨B, 1, none⟩ = some (.int .i64 (y : Int)) := row_cell UB.out.now 1
      go_wp2_with fail
      clear cB0 cB1
      (with_reducible refine (darkS_yes x y t HL.out.1.1 HL.out.1.2 HL.out.2.2 _ HU.out.now.2).mono ?_)
      rintro e v9 ⟨rfl, hb⟩
      replace HU := Lib.hid (HU.out.next hb)
      replace UB := Lib.hid (UB.out.next hb)
      replace UD := Lib.hid (UD.out.next hb)
      clear hb
      rw [HP.out]
      go_wp2
      go_ret
      exact ⟨rfl, HU.out.now.1⟩
    · skip
      have l1 : decide (0 < p) = false := by simp; omega
      have l2 : decide (p < -20) = false := by simp; omega
      have l3 : decide (0 < q) = false := by simp; omega
      have l4 : decide (q < -20) = false := by simp; omega
      clear k1 k2 k1' k2'
      have cB0 : v6.cell? ⟨B, 0, none⟩ = some (.int .i64 (x : Int)) := row_cell UB.out.now 0
      have cB1 : v6.cell? ⟨B, 1, none⟩ = some (.int .i64 (y : Int)) := row_cell UB.out.now 1
      go_wp2_with fail
      clear cB0 cB1
      (with_reducible refine (litS_yes x y t HL.out.1.1 HL.out.1.2 HL.out.2.2 _ HU.out.now.2).mono ?_)
      rintro e v7 ⟨rfl, hb⟩
      replace HU := Lib.hid (HU.out.next hb)
      replace UB := Lib.hid (UB.out.next hb)
      replace UD := Lib.hid (UD.out.next hb)
      clear hb
      rw [HP.out]
      have cB0 : v7.cell? ⟨B, 0, none⟩ = some (.int .i64 (x : Int)) := row_cell UB.out.now 0
      have cB1 : v7.cell? ⟨B, 1, none⟩ = some (.int .i64 (y : Int)) := row_cell UB.out.now 1
      go_wp2_with fail
      clear cB0 cB1
      (with_reducible refine (litS_yes x y t HL.out.1.1 HL.out.1.2 HL.out.2.2 _ HU.out.now.2).mono ?_)
      rintro e v8 ⟨rfl, hb⟩
      replace HU := Lib.hid (HU.out.next hb)
      replace UB := Lib.hid (UB.out.next hb)
      replace UD := Lib.hid (UD.out.next hb)
      clear hb
      rw [HP.out]
      have cB0 : v8.cell? ⟨B, 0, none⟩ = some (.int .i64 (x : Int)) := row_cell UB.out.now 0
      have cB1 : v8.cell? ⟨B, 1, none⟩ = some (.int .i64 (y : Int)) := row_cell UB.out.now 1
      go_wp2_with fail
      clear cB0 cB1
      (with_reducible refine (darkS_yes x y t HL.out.1.1 HL.out.1.2 HL.out.2.2 _ HU.out.now.2).mono ?_)
      rintro e v9 ⟨rfl, hb⟩
      replace HU := Lib.hid (HU.out.next hb)
      replace UB := Lib.hid (UB.out.next hb)
      replace UD := Lib.hid (UD.out.next hb)
      clear hb
      rw [HP.out]
      go_wp2
      go_ret
      exact ⟨rfl, HU.out.now.1⟩
    · skip
      have l1 : decide (0 < p) = false := by simp; omega
      have l2 : decide (p < -20) = false := by simp; omega
      have l3 : decide (0 < q) = false := by simp; omega
      have l4 : decide (q < -20) = true := by simp; omega
      clear k1 k2 k1'
      have cB0 : v6.cell? ⟨B, 0, none⟩ = some (.int .i64 (x : Int)) := row_cell UB.out.now 0
      have cB1 : v6.cell? ⟨B, 1, none⟩ = some (.int .i64 (y : Int)) := row_cell UB.out.now 1
      go_wp2_with fail
      clear cB0 cB1
      (with_reducible refine (litS_yes x y t HL.out.1.1 HL.out.1.2 HL.out.2.2 _ HU.out.now.2).mono ?_)
      rintro e v7 ⟨rfl, hb⟩
      replace HU := Lib.hid (HU.out.next hb)
      replace UB := Lib.hid (UB.out.next hb)
      replace UD := Lib.hid (UD.out.next hb)
      clear hb
      rw [HP.out]
      have cB0 : v7.cell? ⟨B, 0, none⟩ = some (.int .i64 (x : Int)) := row_cell UB.out.now 0
      have cB1 : v7.cell? ⟨B, 1, none⟩ = some (.int .i64 (y : Int)) := row_cell UB.out.now 1
      go_wp2_with fail
      clear cB0 cB1
      (with_reducible refine (litS_yes x y t HL.out.1.1 HL.out.1.2 HL.out.2.2 _ HU.out.now.2).mono ?_)
      rintro e v8 ⟨rfl, hb⟩
      replace HU := Lib.hid (HU.out.next hb)
      replace UB := Lib.hid (UB.out.next hb)
      replace UD := Lib.hid (UD.out.next hb)
      clear hb
      rw [HP.out]
      have cB0 : v8.cell? ⟨B, 0, none⟩ = some (.int .i64 (x : Int)) := row_cell UB.out.now 0
      have cB1 : v8.cell? ⟨B, 1, none⟩ = some (.int .i64 (y : Int)) := row_cell UB.out.now 1
      go_wp2_with fail
      clear cB0 cB1
      (with_reducible refine (darkS_yes x y t HL.out.1.1 HL.out.1.2 HL.out.2.2 _ HU.out.now.2).mono ?_)
      rintro e v9 ⟨rfl, hb⟩
      replace HU := Lib.hid (HU.out.next hb)
      replace UB := Lib.hid (UB.out.next hb)
      replace UD := Lib.hid (UD.out.next hb)
      clear hb
      rw [HP.out]
      go_wp2
      go_ret
      exact ⟨rfl, HU.out.now.1⟩
  · rcases k2 with k2 | ⟨k2, k2'⟩ | k2
    · skip
      have l1 : decide (0 < p) = false := by simp; omega
      have l2 : decide (p < -20) = true := by simp; omega
      have l3 : decide (0 < q) = true := by simp; omega
      have l4 : decide (q < -20) = false := by simp; omega
      have l6 : decide (p < q) = true := by simp; omega
      clear k1 k2
      have cB0 : v6.cell? ⟨B, 0, none⟩ = some (.int .i64 (x : Int)) := row_cell UB.out.now 0
      have cB1 : v6.cell? ⟨B, 1, none⟩ = some (.int .i64 (y : Int)) := row_cell UB.out.now 1
      go_wp2_with fail
      clear cB0 cB1
      (with_reducible refine (litS_yes x y t HL.out.1.1 HL.out.1.2 HL.out.2.2 _ HU.out.now.2).mono ?_)
      rintro e v7 ⟨rfl, hb⟩
      replace HU := Lib.hid (HU.out.next hb)
      replace UB := Lib.hid (UB.out.next hb)
      replace UD := Lib.hid (UD.out.next hb)
      clear hb
      rw [HP.out]
      have cB0 : v7.cell? ⟨B, 0, none⟩ = some (.int .i64 (x : Int)) := row_cell UB.out.now 0
      have cB1 : v7.cell? ⟨B, 1, none⟩ = some (.int .i64 (y : Int)) := row_cell UB.out.now 1
      go_wp2_with fail
      clear cB0 cB1
      (with_reducible refine (litS_yes x y t HL.out.1.1 HL.out.1.2 HL.out.2.2 _ HU.out.now.2).mono ?_)
      rintro e v8 ⟨rfl, hb⟩
      replace HU := Lib.hid (HU.out.next hb)
      replace UB := Lib.hid (UB.out.next hb)
      replace UD := Lib.hid (UD.out.next hb)
      clear hb
      rw [HP.out]
      have cB0 : v8.cell? ⟨B, 0, none⟩ = some (.int .i64 (x : Int)) := row_cell UB.out.now 0
      have cB1 : v8.cell? ⟨B, 1, none⟩ = some (.int .i64 (y : Int)) := row_cell UB.out.now 1
      go_wp2_with fail
      clear cB0 cB1
      (with_reducible refine (darkS_yes x y t HL.out.1.1 HL.out.1.2 HL.out.2.2 _ HU.out.now.2).mono ?_)
      rintro e v9 ⟨rfl, hb⟩
      replace HU := Lib.hid (HU.out.next hb)
      replace UB := Lib.hid (UB.out.next hb)
      replace UD := Lib.hid (UD.out.next hb)
      clear hb
      rw [HP.out]
      have cD0 : v9.cell? ⟨D, 0, none⟩ = some (.int .i64 (x' : Int)) := row_cell UD.out.now 0
      have cD1 : v9.cell? ⟨D, 1, none⟩ = some (.int .i64 (y' : Int)) := row_cell UD.out.now 1
      go_wp2_with fail
      clear cD0 cD1
      (with_reducible refine (darkS_yes x' y' t HL.out.2.1.1 HL.out.2.1.2 HL.out.2.2 _ HU.out.now.2).mono ?_)
      rintro e v10 ⟨rfl, hb⟩
      replace HU := Lib.hid (HU.out.next hb)
      replace UB := Lib.hid (UB.out.next hb)
      replace UD := Lib.hid (UD.out.next hb)
      clear hb
      rw [HQ.out]
      go_wp2
      go_ret
      exact ⟨rfl, HU.out.now.1⟩
    · skip
      have l1 : decide (0 < p) = false := by simp; omega
      have l2 : decide (p < -20) = true := by simp; omega
      have l3 : decide (0 < q) = false := by simp; omega
      have l4 : decide (q < -20) = false := by simp; omega
      have l6 : decide (p < q) = true := by simp; omega
      clear k1 k2 k2'
      have cB0 : v6.cell? ⟨B, 0, none⟩ = some (.int .i64 (x : Int)) := row_cell UB.out.now 0
      have cB1 : v6.cell? ⟨B, 1, none⟩ = some (.int .i64 (y : Int)) := row_cell UB.out.now 1
      go_wp2_with fail
      clear cB0 cB1
      (with_reducible refine (litS_yes x y t HL.out.1.1 HL.out.1.2 HL.out.2.2 _ HU.out.now.2).mono ?_)
      rintro e v7 ⟨rfl, hb⟩
      replace HU := Lib.hid (HU.out.next hb)
      replace UB := Lib.hid (UB.out.next hb)
      replace UD := Lib.hid (UD.out.next hb)
      clear hb
      rw [HP.out]
      have cB0 : v7.cell? ⟨B, 0, none⟩ = some (.int .i64 (x : Int)) := row_cell UB.out.now 0
      have cB1 : v7.cell? ⟨B, 1, none⟩ = some (.int .i64 (y : Int)) := row_cell UB.out.now 1
      go_wp2_with fail
      clear cB0 cB1
      (with_reducible refine (litS_yes x y t HL.out.1.1 HL.out.1.2 HL.out.2.2 _ HU.out.now.2).mono ?_)
      rintro e v8 ⟨rfl, hb⟩
      replace HU := Lib.hid (HU.out.next hb)
      replace UB := Lib.hid (UB.out.next hb)
      replace UD := Lib.hid (UD.out.next hb)
      clear hb
      rw [HP.out]
      have cB0 : v8.cell? ⟨B, 0, none⟩ = some (.int .i64 (x : Int)) := row_cell UB.out.now 0
      have cB1 : v8.cell? ⟨B, 1, none⟩ = some (.int .i64 (y : Int)) := row_cell UB.out.now 1
      go_wp2_with fail
      clear cB0 cB1
      (with_reducible refine (darkS_yes x y t HL.out.1.1 HL.out.1.2 HL.out.2.2 _ HU.out.now.2).mono ?_)
      rintro e v9 ⟨rfl, hb⟩
      replace HU := Lib.hid (HU.out.next hb)
      replace UB := Lib.hid (UB.out.next hb)
      replace UD := Lib.hid (UD.out.next hb)
      clear hb
      rw [HP.out]
      have cD0 : v9.cell? ⟨D, 0, none⟩ = some (.int .i64 (x' : Int)) := row_cell UD.out.now 0
      have cD1 : v9.cell? ⟨D, 1, none⟩ = some (.int .i64 (y' : Int)) := row_cell UD.out.now 1
      go_wp2_with fail
      clear cD0 cD1
      (with_reducible refine (darkS_yes x' y' t HL.out.2.1.1 HL.out.2.1.2 HL.out.2.2 _ HU.out.now.2).mono ?_)
      rintro e v10 ⟨rfl, hb⟩
      replace HU := Lib.hid (HU.out.next hb)
      replace UB := Lib.hid (UB.out.next hb)
      replace UD := Lib.hid (UD.out.next hb)
      clear hb
      rw [HQ.out]
      go_wp2
      go_ret
      exact ⟨rfl, HU.out.now.1⟩
    · skip
      have l1 : decide (0 < p) = false := by simp; omega
      have l2 : decide (p < -20) = true := by simp; omega
      have l3 : decide (0 < q) = false := by simp; omega
      have l4 : decide (q < -20) = true := by simp; omega
      clear k1 k2
      have cB0 : v6.cell? ⟨B, 0, none⟩ = some (.int .i64 (x : Int)) := row_cell UB.out.now 0
      have cB1 : v6.cell? ⟨B, 1, none⟩ = some (.int .i64 (y : Int)) := row_cell UB.out.now 1
      go_wp2_with fail
      clear cB0 cB1
      (with_reducible refine (litS_yes x y t HL.out.1.1 HL.out.1.2 HL.out.2.2 _ HU.out.now.2).mono ?_)
      rintro e v7 ⟨rfl, hb⟩
      replace HU := Lib.hid (HU.out.next hb)
      replace UB := Lib.hid (UB.out.next hb)
      replace UD := Lib.hid (UD.out.next hb)
      clear hb
      rw [HP.out]
      have cB0 : v7.cell? ⟨B, 0, none⟩ = some (.int .i64 (x : Int)) := row_cell UB.out.now 0
      have cB1 : v7.cell? ⟨B, 1, none⟩ = some (.int .i64 (y : Int)) := row_cell UB.out.now 1
      go_wp2_with fail
      clear cB0 cB1
      (with_reducible refine (litS_yes x y t HL.out.1.1 HL.out.1.2 HL.out.2.2 _ HU.out.now.2).mono ?_)
      rintro e v8 ⟨rfl, hb⟩
      replace HU := Lib.hid (HU.out.next hb)
      replace UB := Lib.hid (UB.out.next hb)
      replace UD := Lib.hid (UD.out.next hb)
      clear hb
      rw [HP.out]
      have cB0 : v8.cell? ⟨B, 0, none⟩ = some (.int .i64 (x : Int)) := row_cell UB.out.now 0
      have cB1 : v8.cell? ⟨B, 1, none⟩ = some (.int .i64 (y : Int)) := row_cell UB.out.now 1
      go_wp2_with fail
      clear cB0 cB1
      (with_reducible refine (darkS_yes x y t HL.out.1.1 HL.out.1.2 HL.out.2.2 _ HU.out.now.2).mono ?_)
      rintro e v9 ⟨rfl, hb⟩
      replace HU := Lib.hid (HU.out.next hb)
      replace UB := Lib.hid (UB.out.next hb)
      replace UD := Lib.hid (UD.out.next hb)
      clear hb
      rw [HP.out]
      have cD0 : v9.cell? ⟨D, 0, none⟩ = some (.int .i64 (x' : Int)) := row_cell UD.out.now 0
      have cD1 : v9.cell? ⟨D, 1, none⟩ = some (.int .i64 (y' : Int)) := row_cell UD.out.now 1
      go_wp2_with fail
      clear cD0 cD1
      (with_reducible refine (darkS_yes x' y' t HL.out.2.1.1 HL.out.2.1.2 HL.out.2.2 _ HU.out.now.2).mono ?_)
      rintro e v10 ⟨rfl, hb⟩
      replace HU := Lib.hid (HU.out.next hb)
      replace UB := Lib.hid (UB.out.next hb)
      replace UD := Lib.hid (UD.out.next hb)
      clear hb
      rw [HQ.out]
      go_wp2
      go_ret
      exact ⟨rfl, HU.out.now.1⟩
end Go.Proofs.YtbgdlfkeimaaiaaDoor
