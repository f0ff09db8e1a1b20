/- SunFalls, walked. -/
import Derived.Lib.MinMax
import Derived.Test.YtbgdlfkeimaaiaaDoorLn
namespace Go.Proofs.YtbgdlfkeimaaiaaDoor
open Go.RowKit
set_option linter.unusedSimpArgs false
set_option linter.unusedVariables false
set_option maxRecDepth 100000 in
set_option maxHeartbeats 4000000 in
theorem falls_any (a b c e f : Int) (a0 : -9223372036854775808 ≤ a) (a1 : a ≤ 9223372036854775807) (b0 : -9223372036854775808 ≤ b) (b1 : b ≤ 9223372036854775807) (c0 : -9223372036854775808 ≤ c) (c1 : c ≤ 9223372036854775807) (e0 : -9223372036854775808 ≤ e) (e1 : e ≤ 9223372036854775807) (f0 : -9223372036854775808 ≤ f) (f1 : f ≤ 9223372036854775807) (w : World) (hT : Tab w) :
    Calls Tryd.prog 6 #[.int .i64 a, .int .i64 b, .int .i64 c, .int .i64 e, .int .i64 f] w (OutV w (.bool true)) := by
  have HU := Lib.hid (up_vb (Below.refl w.heap.size w) hT : Up w (VB w))
  obtain ⟨x, y, hx, hy, CC⟩ := lcV a b a0 a1 b0 b1
  obtain ⟨d, hd, CD⟩ := dayV c c0 c1
  obtain ⟨i, hi, CI⟩ := lpV e e0 e1 720 (by decide) (by decide) 720 rfl
  obtain ⟨j, hj, CJ⟩ := lpV f f0 f1 720 (by decide) (by decide) 720 rfl
  obtain ⟨D, hD⟩ : ∃ D : Nat, 1440 * d = D := ⟨_, rfl⟩
  obtain ⟨m, hm⟩ : ∃ m : Nat, bestN x = m := ⟨_, rfl⟩
  obtain ⟨p, hp⟩ : ∃ p : Nat, min i j = p := ⟨_, rfl⟩
  obtain ⟨q, hq⟩ : ∃ q : Nat, max i j = q := ⟨_, rfl⟩
  have hm1 : m ≤ 1425 := by rw [← hm]; unfold bestN; omega
  have HC := Lib.hid CC; have HD := Lib.hid CD; have HI := Lib.hid CI; have HJ := Lib.hid CJ
  have HDE := Lib.hid (show 1440 * (d : Int) = (D : Int) from by omega)
  have HPE := Lib.hid (show min (i : Int) (j : Int) = (p : Int) from by omega)
  have HQE := Lib.hid (show max (i : Int) (j : Int) = (q : Int) from by omega)
  have HL := Lib.hid (show (x < 48 ∧ y < 24) ∧ D ≤ 992160 ∧ m ≤ 1425 ∧ p ≤ q ∧ q < 720 from ⟨⟨hx, hy⟩, by omega, hm1, by omega, by omega⟩)
  have HP := Lib.hid (show ∀ k, k < m → 0 < acrN x (D + k) from fun k hk => by rw [← hD]; exact acr_pos x d k hx (by omega))
  have HB := Lib.hid (show acrN x (D + m) = 0 from by rw [← hD, ← hm]; exact acr_best x d hx)
  have HA := Lib.hid (show m + q < 1440 → hgt x y (D + m + q) ≤ hgt x y (D + m + p) from fun h => by
    have := hgt_after x y d p q hx (by omega) (by omega) (by omega)
    rw [hm, hD, ← Nat.add_assoc, ← Nat.add_assoc] at this
    exact this)
  have HF := Lib.hid (show ∀ u v, u + p = D + m → v + q = D + m → q ≤ m → hgt x y v ≤ hgt x y u from fun u v h1 h2 h3 => by
    have := hgt_before x y d p q hx (by omega) (by omega) (by omega)
    rw [hm, hD] at this
    rw [show u = D + (m - p) by omega, show v = D + (m - q) by omega]
    exact this)
  have x0 : (0 : Int) ≤ x := by omega
  have x1 : (x : Int) < 48 := by omega
  have D0 : (0 : Int) ≤ D := by omega
  have D1 : (D : Int) ≤ 992160 := by omega
  clear CC CD CI CJ hx hy hi hj hd hD hm hp hq hm1 a0 a1 b0 b1 c0 c1 e0 e1 f0 f1 hT
  go_enter Tryd.func6, Tryd.ntmps6
  go_wp2_with fail
  (with_reducible refine (sane_any _ HU.out.now.2).mono ?_)
  rintro e v1 ⟨rfl, hb⟩
  replace HU := Lib.hid (HU.out.next hb)
  clear hb
  go_wp2_with fail
  (with_reducible refine (HC.out _).mono ?_)
  rintro e v2 ⟨rfl, hb⟩
  replace HU := Lib.hid (HU.out.next hb)
  clear hb
  obtain ⟨x2, B, ex2, eb2, hb, hk⟩ := box1 v2 #[.int .i64 (x : Int), .int .i64 (y : Int)] 23
  replace HU := Lib.hid (HU.out.next hb)
  have UB := Lib.hid (up_vr hk : Up x2 (VR B #[.int .i64 (x : Int), .int .i64 (y : Int)] 23))
  clear hb hk
  go_wp2_with fail
  clear ex2 eb2
  (with_reducible refine (HD.out _).mono ?_)
  rintro e v3 ⟨rfl, hb⟩
  replace HU := Lib.hid (HU.out.next hb)
  replace UB := Lib.hid (UB.out.next hb)
  clear hb
  rw [HDE.out]
  go_wp2
  go_loopw [13, 14, 15] (fun bv lv tv wr => ∃ k l s : Nat, k ≤ 1440 ∧ l ≤ 48000 ∧ s ≤ 993599 ∧ tv = iV (D + k) ∧ lv = iV l ∧ bv = iV s ∧ (k ≤ m → 0 < l) ∧ (m < k → s = D + m ∧ l = 0) ∧ Below v3.heap.size v3 wr) (fun _ _ tv _ => D + 1440 - (intOf tv).toNat)
  case atStart => exact ⟨0, 48000, D, by omega, by omega, by have := HL.out; omega, rfl, rfl, rfl, fun _ => by decide, fun h => by omega, Below.refl _ _⟩
  case round =>
    obtain ⟨k, l, s, hk, hl, hs, rfl, rfl, rfl, hp, hq, hB⟩ := hrel
    have HBW := Lib.hid hB
    have hUB := UB.out.next hB
    have hU := HU.out.next hB
    replace UB := Lib.hid hUB
    replace HU := Lib.hid hU
    have HR := Lib.hid (And.intro hk (And.intro hl (And.intro hs (And.intro hp hq))))
    clear hB hU hUB hk hp hq
    obtain ⟨t, ht⟩ : ∃ t, D + k = t := ⟨_, rfl⟩
    rw [ht]
    have HTT := Lib.hid ht
    clear ht
    have t0 : (0 : Int) ≤ t := by omega
    have t1 : (t : Int) ≤ 993600 := by have := HTT.out; have := HL.out; have := HR.out.1; omega
    have l0 : (0 : Int) ≤ l := by omega
    have l1 : (l : Int) ≤ 48000 := by omega
    have s0 : (0 : Int) ≤ s := by omega
    have s1 : (s : Int) ≤ 993599 := by omega
    clear hl hs
    by_cases hlt : k < 1440
    · skip
      have b1 : decide ((t : Int) < D + 1440) = true := by have := HTT.out; simp <;> omega
      have ht2 : t ≤ 1000000 := by omega
      have HT2 := Lib.hid ht2
      clear ht2
      have cB0 : wr.cell? ⟨B, 0, none⟩ = some (.int .i64 (x : Int)) := row_cell UB.out.now 0
      have cB1 : wr.cell? ⟨B, 1, none⟩ = some (.int .i64 (y : Int)) := row_cell UB.out.now 1
      go_wp2_with fail
      clear cB0 cB1
      (with_reducible refine (across_any x t HL.out.1.1 HT2.out _).mono ?_)
      rintro e v4 ⟨rfl, hb⟩
      have HBF := Lib.hid (below_tr HBW.out hb)
      replace HU := Lib.hid (HU.out.next hb)
      replace UB := Lib.hid (UB.out.next hb)
      clear hb
      obtain ⟨r, hr⟩ : ∃ r, acrN x t = r := ⟨_, rfl⟩
      rw [hr]
      have HRR := Lib.hid hr
      have r0 : (0 : Int) ≤ r := by omega
      have r1 : (r : Int) ≤ 24000 := by rw [← hr]; have := acrN_le x t HL.out.1.1; omega
      clear hr b1
      by_cases hrl : r < l
      · have d1 : decide (r < l) = true := by simp <;> omega
        have d2 : decide ((r : Int) < l) = true := by simp <;> omega
        go_wp2
        refine ⟨⟨k + 1, r, t, by omega, by omega, by have := HTT.out; have := HL.out; omega, ret_i (by have := HTT.out; omega), rfl, rfl, fun h => ?_, fun h => ?_, HBF.out⟩, by have := HTT.out; simp only [intOf]; omega⟩
        · have := HP.out k (by omega)
          rw [HTT.out, HRR.out] at this
          exact this
        · by_cases e : k = m
          · refine ⟨by rw [← HTT.out, e], ?_⟩
            have := HB.out
            rw [← e, HTT.out, HRR.out] at this
            exact this
          · have := HR.out.2.2.2.2 (by omega)
            omega
      · have d1 : decide (r < l) = false := by simp <;> omega
        have d2 : decide ((r : Int) < l) = false := by simp <;> omega
        go_wp2
        refine ⟨⟨k + 1, l, s, by omega, by omega, by omega, ret_i (by have := HTT.out; omega), rfl, rfl, fun h => HR.out.2.2.2.1 (by omega), fun h => ?_, HBF.out⟩, by have := HTT.out; simp only [intOf]; omega⟩
        by_cases e : k = m
        · exfalso
          have h1 := HB.out
          rw [← e, HTT.out, HRR.out] at h1
          have := HR.out.2.2.2.1 (by omega)
          omega
        · exact HR.out.2.2.2.2 (by omega)
    · skip
      have b1 : decide ((t : Int) < D + 1440) = false := by have := HTT.out; simp <;> omega
      have hsl := HR.out.2.2.2.2 (by have := HL.out; omega)
      obtain ⟨rfl, rfl⟩ := hsl
      obtain ⟨s, hs⟩ : ∃ s, D + m = s := ⟨_, rfl⟩
      rw [hs] at s0 s1 ⊢
      have HSS := Lib.hid hs
      clear hs HTT HR hlt
      go_wp2_with fail
      clear b1
      (with_reducible refine (HI.out _).mono ?_)
      rintro e v9 ⟨rfl, hb⟩
      replace HU := Lib.hid (HU.out.next hb)
      replace UB := Lib.hid (UB.out.next hb)
      clear hb
      go_wp2_with fail
      (with_reducible refine (HJ.out _).mono ?_)
      rintro e v10 ⟨rfl, hb⟩
      replace HU := Lib.hid (HU.out.next hb)
      replace UB := Lib.hid (UB.out.next hb)
      clear hb
      have hpe := HPE.out
      go_wp2_with fail
      clear hpe
      (with_reducible refine (HI.out _).mono ?_)
      rintro e v11 ⟨rfl, hb⟩
      replace HU := Lib.hid (HU.out.next hb)
      replace UB := Lib.hid (UB.out.next hb)
      clear hb
      go_wp2_with fail
      (with_reducible refine (HJ.out _).mono ?_)
      rintro e v12 ⟨rfl, hb⟩
      replace HU := Lib.hid (HU.out.next hb)
      replace UB := Lib.hid (UB.out.next hb)
      clear hb
      have hqe := HQE.out
      have q0 : (0 : Int) ≤ q := by omega
      have q1 : (q : Int) < 720 := by have := HL.out; omega
      have p0 : (0 : Int) ≤ p := by omega
      have p1 : (p : Int) < 720 := by have := HL.out; omega
      by_cases h1 : m + q < 1440
      · skip
        have d1 : decide ((s : Int) + q < D + 1440) = true := by have := HSS.out; simp <;> omega
        obtain ⟨u, hu⟩ : ∃ u, s + p = u := ⟨_, rfl⟩
        obtain ⟨v, hv⟩ : ∃ v, s + q = v := ⟨_, rfl⟩
        have hu' : (s : Int) + p = (u : Int) := by omega
        have hv' : (s : Int) + q = (v : Int) := by omega
        have HV := Lib.hid hv'
        have HUV := Lib.hid (show u ≤ 1000000 ∧ v ≤ 1000000 from by have := HSS.out; have := HL.out; omega)
        have HH := Lib.hid (show hgt x y v ≤ hgt x y u from by have := HA.out h1; rw [HSS.out, hu, hv] at this; exact this)
        have dv : decide ((v : Int) < D + 1440) = true := by rw [← hv']; exact d1
        clear hu hv
        have cB0 : v12.cell? ⟨B, 0, none⟩ = some (.int .i64 (x : Int)) := row_cell UB.out.now 0
        have cB1 : v12.cell? ⟨B, 1, none⟩ = some (.int .i64 (y : Int)) := row_cell UB.out.now 1
        go_wp2_with fail
        clear hqe hu' d1 dv cB0 cB1
        (with_reducible refine (heightS_yes x y u HL.out.1.1 HL.out.1.2 HUV.out.1 _).mono ?_)
        rintro e v13 ⟨rfl, hb⟩
        replace HU := Lib.hid (HU.out.next hb)
        replace UB := Lib.hid (UB.out.next hb)
        clear hb
        replace hv' := HV.out
        have cB0 : v13.cell? ⟨B, 0, none⟩ = some (.int .i64 (x : Int)) := row_cell UB.out.now 0
        have cB1 : v13.cell? ⟨B, 1, none⟩ = some (.int .i64 (y : Int)) := row_cell UB.out.now 1
        go_wp2_with fail
        clear cB0 cB1
        (with_reducible refine (heightS_yes x y v HL.out.1.1 HL.out.1.2 HUV.out.2 _).mono ?_)
        rintro e v14 ⟨rfl, hb⟩
        replace HU := Lib.hid (HU.out.next hb)
        replace UB := Lib.hid (UB.out.next hb)
        clear hb
        clear hv'
        have d2 : decide (hgt x y u < hgt x y v) = false := by have := HH.out; simp <;> omega
        by_cases h2 : q ≤ m
        · skip
          have e1 : decide ((D : Int) ≤ s - q) = true := by have := HSS.out; simp <;> omega
          obtain ⟨u2, hu2⟩ : ∃ u, u + p = s := ⟨s - p, by have := HSS.out; have := HL.out; omega⟩
          obtain ⟨v2, hv2⟩ : ∃ v, v + q = s := ⟨s - q, by have := HSS.out; omega⟩
          have hu2' : (s : Int) - p = (u2 : Int) := by omega
          have hv2' : (s : Int) - q = (v2 : Int) := by omega
          have HV2 := Lib.hid hv2'
          have HUV2 := Lib.hid (show u2 ≤ 1000000 ∧ v2 ≤ 1000000 from by have := HSS.out; have := HL.out; omega)
          have HH2 := Lib.hid (show hgt x y v2 ≤ hgt x y u2 from HF.out u2 v2 (by rw [HSS.out]; exact hu2) (by rw [HSS.out]; exact hv2) h2)
          have dv2 : decide (D ≤ v2) = true := by have := HSS.out; simp <;> omega
          clear hu2 hv2
          have cB0 : v14.cell? ⟨B, 0, none⟩ = some (.int .i64 (x : Int)) := row_cell UB.out.now 0
          have cB1 : v14.cell? ⟨B, 1, none⟩ = some (.int .i64 (y : Int)) := row_cell UB.out.now 1
          go_wp2_with fail
          clear d2 hu2' e1 dv2 cB0 cB1
          (with_reducible refine (heightS_yes x y u2 HL.out.1.1 HL.out.1.2 HUV2.out.1 _).mono ?_)
          rintro e v15 ⟨rfl, hb⟩
          replace HU := Lib.hid (HU.out.next hb)
          replace UB := Lib.hid (UB.out.next hb)
          clear hb
          replace hv2' := HV2.out
          have cB0 : v15.cell? ⟨B, 0, none⟩ = some (.int .i64 (x : Int)) := row_cell UB.out.now 0
          have cB1 : v15.cell? ⟨B, 1, none⟩ = some (.int .i64 (y : Int)) := row_cell UB.out.now 1
          go_wp2_with fail
          clear cB0 cB1
          (with_reducible refine (heightS_yes x y v2 HL.out.1.1 HL.out.1.2 HUV2.out.2 _).mono ?_)
          rintro e v16 ⟨rfl, hb⟩
          replace HU := Lib.hid (HU.out.next hb)
          replace UB := Lib.hid (UB.out.next hb)
          clear hb
          clear hv2'
          have e2 : decide (hgt x y u2 < hgt x y v2) = false := by have := HH2.out; simp <;> omega
          go_wp2
          go_ret
          exact ⟨rfl, HU.out.now.1⟩
        · skip
          obtain ⟨z, hz⟩ : ∃ z : Int, (s : Int) - q = z := ⟨_, rfl⟩
          have e1 : decide ((D : Int) ≤ z) = false := by have := HSS.out; simp <;> omega
          go_wp2
          go_ret
          exact ⟨rfl, HU.out.now.1⟩
      · skip
        have d1 : decide ((s : Int) + q < D + 1440) = false := by have := HSS.out; simp <;> omega
        by_cases h2 : q ≤ m
        · skip
          have e1 : decide ((D : Int) ≤ s - q) = true := by have := HSS.out; simp <;> omega
          obtain ⟨u2, hu2⟩ : ∃ u, u + p = s := ⟨s - p, by have := HSS.out; have := HL.out; omega⟩
          obtain ⟨v2, hv2⟩ : ∃ v, v + q = s := ⟨s - q, by have := HSS.out; omega⟩
          have hu2' : (s : Int) - p = (u2 : Int) := by omega
          have hv2' : (s : Int) - q = (v2 : Int) := by omega
          have HV2 := Lib.hid hv2'
          have HUV2 := Lib.hid (show u2 ≤ 1000000 ∧ v2 ≤ 1000000 from by have := HSS.out; have := HL.out; omega)
          have HH2 := Lib.hid (show hgt x y v2 ≤ hgt x y u2 from HF.out u2 v2 (by rw [HSS.out]; exact hu2) (by rw [HSS.out]; exact hv2) h2)
          have dv2 : decide (D ≤ v2) = true := by have := HSS.out; simp <;> omega
          clear hu2 hv2
          have cB0 : v12.cell? ⟨B, 0, none⟩ = some (.int .i64 (x : Int)) := row_cell UB.out.now 0
          have cB1 : v12.cell? ⟨B, 1, none⟩ = some (.int .i64 (y : Int)) := row_cell UB.out.now 1
          go_wp2_with fail
          clear hqe d1 hu2' e1 dv2 cB0 cB1
          (with_reducible refine (heightS_yes x y u2 HL.out.1.1 HL.out.1.2 HUV2.out.1 _).mono ?_)
          rintro e v13 ⟨rfl, hb⟩
          replace HU := Lib.hid (HU.out.next hb)
          replace UB := Lib.hid (UB.out.next hb)
          clear hb
          replace hv2' := HV2.out
          have cB0 : v13.cell? ⟨B, 0, none⟩ = some (.int .i64 (x : Int)) := row_cell UB.out.now 0
          have cB1 : v13.cell? ⟨B, 1, none⟩ = some (.int .i64 (y : Int)) := row_cell UB.out.now 1
          go_wp2_with fail
          clear cB0 cB1
          (with_reducible refine (heightS_yes x y v2 HL.out.1.1 HL.out.1.2 HUV2.out.2 _).mono ?_)
          rintro e v14 ⟨rfl, hb⟩
          replace HU := Lib.hid (HU.out.next hb)
          replace UB := Lib.hid (UB.out.next hb)
          clear hb
          clear hv2'
          have e2 : decide (hgt x y u2 < hgt x y v2) = false := by have := HH2.out; simp <;> omega
          go_wp2
          go_ret
          exact ⟨rfl, HU.out.now.1⟩
        · skip
          obtain ⟨z, hz⟩ : ∃ z : Int, (s : Int) - q = z := ⟨_, rfl⟩
          have e1 : decide ((D : Int) ≤ z) = false := by have := HSS.out; simp <;> omega
          go_wp2
          go_ret
          exact ⟨rfl, HU.out.now.1⟩
end Go.Proofs.YtbgdlfkeimaaiaaDoor
