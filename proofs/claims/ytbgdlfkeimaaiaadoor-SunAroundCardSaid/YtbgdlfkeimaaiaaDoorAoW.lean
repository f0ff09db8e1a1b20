/- SunAround, walked. -/
import Derived.Test.YtbgdlfkeimaaiaaDoorLn
namespace Go.Proofs.YtbgdlfkeimaaiaaDoor
open Go.RowKit
set_option linter.unusedSimpArgs false
set_option linter.unusedVariables false
set_option maxRecDepth 100000 in
set_option maxHeartbeats 4000000 in
theorem around_any (a b c e f : Int) (a0 : -9223372036854775808 ≤ a) (a1 : a ≤ 9223372036854775807) (b0 : -9223372036854775808 ≤ b) (b1 : b ≤ 9223372036854775807) (c0 : -9223372036854775808 ≤ c) (c1 : c ≤ 9223372036854775807) (e0 : -9223372036854775808 ≤ e) (e1 : e ≤ 9223372036854775807) (f0 : -9223372036854775808 ≤ f) (f1 : f ≤ 9223372036854775807) (w : World) (hT : Tab w) :
    Calls Tryd.prog 4 #[.int .i64 a, .int .i64 b, .int .i64 c, .int .i64 e, .int .i64 f] w (OutV w (.bool true)) := by
  have HU := Lib.hid (up_vb (Below.refl w.heap.size w) hT : Up w (VB w))
  obtain ⟨x, y, hx, hy, CC⟩ := lcV a b a0 a1 b0 b1
  obtain ⟨k, hk, CK⟩ := lpV f f0 f1 48 (by decide) (by decide) 48 rfl
  obtain ⟨d, hd, CD⟩ := dayV c c0 c1
  obtain ⟨m, hm, CM⟩ := lpV e e0 e1 (1440 - 30 * k) (by omega) (by omega) (1440 - 30 * (k : Int)) (by omega)
  obtain ⟨s, hs⟩ : ∃ s : Nat, 1440 * d + m = s := ⟨_, rfl⟩
  obtain ⟨q, hq⟩ : ∃ q : Nat, s + 30 * k = q := ⟨_, rfl⟩
  obtain ⟨r, hr⟩ : ∃ r : Nat, (x + k) % 48 = r := ⟨_, rfl⟩
  have HC := Lib.hid CC; have HD := Lib.hid CD; have HM := Lib.hid CM; have HK := Lib.hid CK
  have HE := Lib.hid (show (1440 * (d : Int) + m = (s : Int)) ∧ ((s : Int) + 30 * k = (q : Int)) ∧ (((x : Int) + k) % 48 = (r : Int)) from ⟨by omega, by omega, by omega⟩)
  have HL := Lib.hid (show s ≤ 1000000 ∧ q ≤ 1000000 ∧ r < 48 ∧ x < 48 ∧ y < 24 from ⟨by omega, by omega, by omega, hx, hy⟩)
  have HH := Lib.hid (show hgt x y q = hgt r y s from by rw [← hq, ← hr]; exact hgt_around x y s k hx hk (by omega))
  have k0 : (0 : Int) ≤ k := by omega
  have k1 : (k : Int) < 48 := by omega
  have d0 : (0 : Int) ≤ d := by omega
  have d1 : (d : Int) < 690 := by omega
  have m0 : (0 : Int) ≤ m := by omega
  have m1 : (m : Int) < 1440 := by omega
  have x0 : (0 : Int) ≤ x := by omega
  have x1 : (x : Int) < 48 := by omega
  have s0 : (0 : Int) ≤ s := by omega
  have s1 : (s : Int) ≤ 1000000 := by omega
  have q0 : (0 : Int) ≤ q := by omega
  clear CC CD CM CK hd hm hk hs hq hr hx hy a0 a1 b0 b1 c0 c1 e0 e1 f0 f1 hT
  go_enter Tryd.func4, Tryd.ntmps4
  go_wp2_with fail
  (with_reducible refine (sane_any _ HU.out.now.2).mono ?_)
  rintro e v1 ⟨rfl, hb⟩
  replace HU := Lib.hid (HU.out.next hb)
  clear hb
  go_wp2_with fail
  (with_reducible refine (HC.out _).mono ?_)
  rintro e v2 ⟨rfl, hb⟩
  replace HU := Lib.hid (HU.out.next hb)
  clear hb
  obtain ⟨x2, B, ex2, eb2, hb, hk⟩ := box1 v2 #[.int .i64 (x : Int), .int .i64 (y : Int)] 23
  replace HU := Lib.hid (HU.out.next hb)
  have UB := Lib.hid (up_vr hk : Up x2 (VR B #[.int .i64 (x : Int), .int .i64 (y : Int)] 23))
  clear hb hk
  go_wp2_with fail
  clear ex2 eb2
  (with_reducible refine (HK.out _).mono ?_)
  rintro e v3 ⟨rfl, hb⟩
  replace HU := Lib.hid (HU.out.next hb)
  replace UB := Lib.hid (UB.out.next hb)
  clear hb
  go_wp2_with fail
  (with_reducible refine (HD.out _).mono ?_)
  rintro e v4 ⟨rfl, hb⟩
  replace HU := Lib.hid (HU.out.next hb)
  replace UB := Lib.hid (UB.out.next hb)
  clear hb
  go_wp2_with fail
  (with_reducible refine (HM.out _).mono ?_)
  rintro e v5 ⟨rfl, hb⟩
  replace HU := Lib.hid (HU.out.next hb)
  replace UB := Lib.hid (UB.out.next hb)
  clear hb
  have hs := HE.out.1
  have hq := HE.out.2.1
  have cB0 : v5.cell? ⟨B, 0, none⟩ = some (.int .i64 (x : Int)) := row_cell UB.out.now 0
  have cB1 : v5.cell? ⟨B, 1, none⟩ = some (.int .i64 (y : Int)) := row_cell UB.out.now 1
  go_wp2_with fail
  clear hs hq cB0 cB1
  (with_reducible refine (heightS_yes x y q HL.out.2.2.2.1 HL.out.2.2.2.2 HL.out.2.1 _).mono ?_)
  rintro e v6 ⟨rfl, hb⟩
  replace HU := Lib.hid (HU.out.next hb)
  replace UB := Lib.hid (UB.out.next hb)
  clear hb
  have hr := HE.out.2.2
  have cB0 : v6.cell? ⟨B, 0, none⟩ = some (.int .i64 (x : Int)) := row_cell UB.out.now 0
  have cB1 : v6.cell? ⟨B, 1, none⟩ = some (.int .i64 (y : Int)) := row_cell UB.out.now 1
  go_wp2_with fail
  clear hr cB0 cB1
  (with_reducible refine (heightS_yes r y s HL.out.2.2.1 HL.out.2.2.2.2 HL.out.1 _).mono ?_)
  rintro e v7 ⟨rfl, hb⟩
  replace HU := Lib.hid (HU.out.next hb)
  replace UB := Lib.hid (UB.out.next hb)
  clear hb
  rw [HH.out]
  have hq := HE.out.2.1
  have cB0 : v7.cell? ⟨B, 0, none⟩ = some (.int .i64 (x : Int)) := row_cell UB.out.now 0
  have cB1 : v7.cell? ⟨B, 1, none⟩ = some (.int .i64 (y : Int)) := row_cell UB.out.now 1
  go_wp2_with fail
  clear hq cB0 cB1
  (with_reducible refine (litS_yes x y q HL.out.2.2.2.1 HL.out.2.2.2.2 HL.out.2.1 _ HU.out.now.2).mono ?_)
  rintro e v8 ⟨rfl, hb⟩
  replace HU := Lib.hid (HU.out.next hb)
  replace UB := Lib.hid (UB.out.next hb)
  clear hb
  rw [HH.out]
  go_wp2
  go_ret
  exact ⟨rfl, HU.out.now.1⟩
end Go.Proofs.YtbgdlfkeimaaiaaDoor
