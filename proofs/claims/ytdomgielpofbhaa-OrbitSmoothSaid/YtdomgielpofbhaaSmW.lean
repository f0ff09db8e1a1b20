/- OrbitSmooth, walked. -/
import Derived.Test.YtdomgielpofbhaaLn
namespace Go.Proofs.Ytdomgielpofbhaa
open Go.RowKit Go.Shelf Go.Maps
set_option linter.unusedSimpArgs false
set_option linter.unusedVariables false
set_option maxRecDepth 100000 in
set_option maxHeartbeats 4000000 in
theorem smooth_any (z0 z1 z2 z3 z4 z5 z6 : Int) (r : I64 z0 ∧ I64 z1 ∧ I64 z2 ∧ I64 z3 ∧ I64 z4 ∧ I64 z5 ∧ I64 z6) (t : Int) (t0 : -9223372036854775808 ≤ t) (t1 : t ≤ 9223372036854775807) (w : World) :
    Calls Try.prog 9 #[X7 z0 z1 z2 z3 z4 z5 z6, .int .i64 t] w (OutV w (.bool true)) := by
  have HU := Lib.hid (up_vb w)
  obtain ⟨o, ho, hs3, CM⟩ := madeV z0 z1 z2 z3 z4 z5 z6 r
  obtain ⟨i, hi, Ci⟩ := lpV t t0 t1 5000 (by decide) (by decide) 5000 rfl
  have HM := Lib.hid CM
  have HPi := Lib.hid Ci
  have HO := Lib.hid ho
  obtain ⟨⟨p0, p1⟩, ⟨f0, f1⟩, ⟨lo0, lo1⟩, ⟨hi0, hi1⟩, ⟨nd0, nd1⟩, ⟨tn0, tn1⟩, ⟨sl0, sl1⟩⟩ := okO_bd ho
  have i0 : (0 : Int) ≤ i := by omega
  have i1 : (i : Int) < 5000 := by omega
  obtain ⟨D, hD⟩ : ∃ D, o.hi - o.lo = D := ⟨_, rfl⟩
  obtain ⟨M, hM⟩ : ∃ M, (D * 2 + o.p - 1) / o.p = M := ⟨_, rfl⟩
  have HR := Lib.hid (show rowZ o ((i : Int) + 1) - rowZ o i ≤ M ∧ rowZ o i - rowZ o ((i : Int) + 1) ≤ M from by have h := row_step ho (i : Int); rw [hD, hM] at h; exact h)
  have HL := Lib.hid (row_bd ho (i : Int))
  have HL2 := Lib.hid (row_bd ho ((i : Int) + 1))
  have HC := Lib.hid (show (colZ o i + o.tn) % 48000 = colZ o ((i : Int) + 1) from by have h := col_add o (i : Int) 1; rw [Int.mul_one] at h; exact h.symm)
  have HC0 := Lib.hid (col_bd o (i : Int))
  have d0 : 0 ≤ D := by unfold okO at ho; omega
  have d1 : D < 24000 := by omega
  have HD := Lib.hid hD
  have HMM := Lib.hid hM
  clear CM Ci ho hi t0 t1 hD hM r
  obtain ⟨x1, X, ex1, eb1, hb, hk⟩ := box1 w #[.int .i64 z0, .int .i64 z1, .int .i64 z2, .int .i64 z3, .int .i64 z4, .int .i64 z5, .int .i64 z6] 22
  replace HU := Lib.hid (HU.out.next hb)
  have UX := Lib.hid (up_vr hk : Up x1 (VR X #[.int .i64 z0, .int .i64 z1, .int .i64 z2, .int .i64 z3, .int .i64 z4, .int .i64 z5, .int .i64 z6] 22))
  clear hb hk
  go_enter Try.func9, Try.ntmps9
  go_wp2_with fail
  clear ex1 eb1
  (with_reducible refine (sane_any _).mono ?_)
  rintro e v2 ⟨rfl, hb⟩
  replace HU := Lib.hid (HU.out.next hb)
  replace UX := Lib.hid (UX.out.next hb)
  clear hb
  have kX0 : v2.cell? ⟨X, 0, none⟩ = some (.int .i64 z0) := row_cell UX.out.now 0
  have kX1 : v2.cell? ⟨X, 1, none⟩ = some (.int .i64 z1) := row_cell UX.out.now 1
  have kX2 : v2.cell? ⟨X, 2, none⟩ = some (.int .i64 z2) := row_cell UX.out.now 2
  have kX3 : v2.cell? ⟨X, 3, none⟩ = some (.int .i64 z3) := row_cell UX.out.now 3
  have kX4 : v2.cell? ⟨X, 4, none⟩ = some (.int .i64 z4) := row_cell UX.out.now 4
  have kX5 : v2.cell? ⟨X, 5, none⟩ = some (.int .i64 z5) := row_cell UX.out.now 5
  have kX6 : v2.cell? ⟨X, 6, none⟩ = some (.int .i64 z6) := row_cell UX.out.now 6
  go_wp2_with fail
  clear kX0 kX1 kX2 kX3 kX4 kX5 kX6
  (with_reducible refine (HM.out _).mono ?_)
  rintro e v3 ⟨rfl, hb⟩
  replace HU := Lib.hid (HU.out.next hb)
  replace UX := Lib.hid (UX.out.next hb)
  clear hb
  obtain ⟨x4, O, ex4, eb4, hb, hk⟩ := box1 v3 #[.int .i64 o.p, .int .i64 o.f, .int .i64 o.lo, .int .i64 o.hi, .int .i64 o.nd, .int .i64 o.tn, .int .i64 o.sl] 24
  replace HU := Lib.hid (HU.out.next hb)
  replace UX := Lib.hid (UX.out.next hb)
  have UO := Lib.hid (up_vr hk : Up x4 (VR O #[.int .i64 o.p, .int .i64 o.f, .int .i64 o.lo, .int .i64 o.hi, .int .i64 o.nd, .int .i64 o.tn, .int .i64 o.sl] 24))
  clear hb hk
  go_wp2_with fail
  clear ex4 eb4
  (with_reducible refine (HPi.out _).mono ?_)
  rintro e v5 ⟨rfl, hb⟩
  replace HU := Lib.hid (HU.out.next hb)
  replace UX := Lib.hid (UX.out.next hb)
  replace UO := Lib.hid (UO.out.next hb)
  clear hb
  have kO0 : v5.cell? ⟨O, 0, none⟩ = some (.int .i64 o.p) := row_cell UO.out.now 0
  have kO1 : v5.cell? ⟨O, 1, none⟩ = some (.int .i64 o.f) := row_cell UO.out.now 1
  have kO2 : v5.cell? ⟨O, 2, none⟩ = some (.int .i64 o.lo) := row_cell UO.out.now 2
  have kO3 : v5.cell? ⟨O, 3, none⟩ = some (.int .i64 o.hi) := row_cell UO.out.now 3
  have kO4 : v5.cell? ⟨O, 4, none⟩ = some (.int .i64 o.nd) := row_cell UO.out.now 4
  have kO5 : v5.cell? ⟨O, 5, none⟩ = some (.int .i64 o.tn) := row_cell UO.out.now 5
  have kO6 : v5.cell? ⟨O, 6, none⟩ = some (.int .i64 o.sl) := row_cell UO.out.now 6
  go_wp2_with fail
  clear kO0 kO1 kO2 kO3 kO4 kO5 kO6
  (with_reducible refine (rowA o HO.out (i : Int) (by omega) (by omega) _).mono ?_)
  rintro e v6 ⟨rfl, hb⟩
  replace HU := Lib.hid (HU.out.next hb)
  replace UX := Lib.hid (UX.out.next hb)
  replace UO := Lib.hid (UO.out.next hb)
  clear hb
  have kO0 : v6.cell? ⟨O, 0, none⟩ = some (.int .i64 o.p) := row_cell UO.out.now 0
  have kO1 : v6.cell? ⟨O, 1, none⟩ = some (.int .i64 o.f) := row_cell UO.out.now 1
  have kO2 : v6.cell? ⟨O, 2, none⟩ = some (.int .i64 o.lo) := row_cell UO.out.now 2
  have kO3 : v6.cell? ⟨O, 3, none⟩ = some (.int .i64 o.hi) := row_cell UO.out.now 3
  have kO4 : v6.cell? ⟨O, 4, none⟩ = some (.int .i64 o.nd) := row_cell UO.out.now 4
  have kO5 : v6.cell? ⟨O, 5, none⟩ = some (.int .i64 o.tn) := row_cell UO.out.now 5
  have kO6 : v6.cell? ⟨O, 6, none⟩ = some (.int .i64 o.sl) := row_cell UO.out.now 6
  go_wp2_with fail
  clear kO0 kO1 kO2 kO3 kO4 kO5 kO6
  (with_reducible refine (rowA o HO.out ((i : Int) + 1) (by omega) (by omega) _).mono ?_)
  rintro e v7 ⟨rfl, hb⟩
  replace HU := Lib.hid (HU.out.next hb)
  replace UX := Lib.hid (UX.out.next hb)
  replace UO := Lib.hid (UO.out.next hb)
  clear hb
  have kO0 : v7.cell? ⟨O, 0, none⟩ = some (.int .i64 o.p) := row_cell UO.out.now 0
  have kO1 : v7.cell? ⟨O, 1, none⟩ = some (.int .i64 o.f) := row_cell UO.out.now 1
  have kO2 : v7.cell? ⟨O, 2, none⟩ = some (.int .i64 o.lo) := row_cell UO.out.now 2
  have kO3 : v7.cell? ⟨O, 3, none⟩ = some (.int .i64 o.hi) := row_cell UO.out.now 3
  have kO4 : v7.cell? ⟨O, 4, none⟩ = some (.int .i64 o.nd) := row_cell UO.out.now 4
  have kO5 : v7.cell? ⟨O, 5, none⟩ = some (.int .i64 o.tn) := row_cell UO.out.now 5
  have kO6 : v7.cell? ⟨O, 6, none⟩ = some (.int .i64 o.sl) := row_cell UO.out.now 6
  go_wp2_with fail
  clear kO0 kO1 kO2 kO3 kO4 kO5 kO6
  (with_reducible refine (colA o HO.out (i : Int) (by omega) (by omega) _).mono ?_)
  rintro e v8 ⟨rfl, hb⟩
  replace HU := Lib.hid (HU.out.next hb)
  replace UX := Lib.hid (UX.out.next hb)
  replace UO := Lib.hid (UO.out.next hb)
  clear hb
  have kO0 : v8.cell? ⟨O, 0, none⟩ = some (.int .i64 o.p) := row_cell UO.out.now 0
  have kO1 : v8.cell? ⟨O, 1, none⟩ = some (.int .i64 o.f) := row_cell UO.out.now 1
  have kO2 : v8.cell? ⟨O, 2, none⟩ = some (.int .i64 o.lo) := row_cell UO.out.now 2
  have kO3 : v8.cell? ⟨O, 3, none⟩ = some (.int .i64 o.hi) := row_cell UO.out.now 3
  have kO4 : v8.cell? ⟨O, 4, none⟩ = some (.int .i64 o.nd) := row_cell UO.out.now 4
  have kO5 : v8.cell? ⟨O, 5, none⟩ = some (.int .i64 o.tn) := row_cell UO.out.now 5
  have kO6 : v8.cell? ⟨O, 6, none⟩ = some (.int .i64 o.sl) := row_cell UO.out.now 6
  go_wp2_with fail
  clear kO0 kO1 kO2 kO3 kO4 kO5 kO6
  (with_reducible refine (colA o HO.out ((i : Int) + 1) (by omega) (by omega) _).mono ?_)
  rintro e v9 ⟨rfl, hb⟩
  replace HU := Lib.hid (HU.out.next hb)
  replace UX := Lib.hid (UX.out.next hb)
  replace UO := Lib.hid (UO.out.next hb)
  clear hb
  obtain ⟨r1, r2⟩ := HR.out
  obtain ⟨l1, l2⟩ := HL.out
  obtain ⟨l3, l4⟩ := HL2.out
  obtain ⟨c1, c2⟩ := HC0.out
  have hc := HC.out
  clear HR HL HL2 HC HC0
  generalize rowZ o (i : Int) = ra at *
  generalize rowZ o ((i : Int) + 1) = rb at *
  generalize colZ o (i : Int) = ca at *
  generalize colZ o ((i : Int) + 1) = cb at *
  have HCC := Lib.hid hc
  clear hc
  have hD := HD.out
  have hM := HMM.out
  have hpz : ¬ o.p = 0 := by omega
  have kO0 : v9.cell? ⟨O, 0, none⟩ = some (.int .i64 o.p) := row_cell UO.out.now 0
  have kO1 : v9.cell? ⟨O, 1, none⟩ = some (.int .i64 o.f) := row_cell UO.out.now 1
  have kO2 : v9.cell? ⟨O, 2, none⟩ = some (.int .i64 o.lo) := row_cell UO.out.now 2
  have kO3 : v9.cell? ⟨O, 3, none⟩ = some (.int .i64 o.hi) := row_cell UO.out.now 3
  have kO4 : v9.cell? ⟨O, 4, none⟩ = some (.int .i64 o.nd) := row_cell UO.out.now 4
  have kO5 : v9.cell? ⟨O, 5, none⟩ = some (.int .i64 o.tn) := row_cell UO.out.now 5
  have kO6 : v9.cell? ⟨O, 6, none⟩ = some (.int .i64 o.sl) := row_cell UO.out.now 6
  go_wp2_with fail
  clear kO0 kO1 kO2 kO3 kO4 kO5 kO6 hD hM
  (with_reducible refine ((laround_any (ca + o.tn) 48000 (by omega) (by omega) (by omega) (by omega) _).mono (sameU _ _)).mono ?_)
  rintro e v10 ⟨rfl, hb⟩
  replace HU := Lib.hid (HU.out.next hb)
  replace UX := Lib.hid (UX.out.next hb)
  replace UO := Lib.hid (UO.out.next hb)
  clear hb
  rw [HCC.out]
  go_wp2
  all_goals
    go_ret
    exact ⟨rfl, HU.out.now⟩
end Go.Proofs.Ytdomgielpofbhaa
