/- OrbitDelays, walked. -/
import Derived.Test.YtdomgielpofbhaaLn
namespace Go.Proofs.Ytdomgielpofbhaa
open Go.RowKit Go.Shelf Go.Maps
set_option linter.unusedSimpArgs false
set_option linter.unusedVariables false
set_option maxRecDepth 100000 in
set_option maxHeartbeats 4000000 in
theorem delays_any (z0 z1 z2 z3 z4 z5 z6 : Int) (r : I64 z0 ∧ I64 z1 ∧ I64 z2 ∧ I64 z3 ∧ I64 z4 ∧ I64 z5 ∧ I64 z6) (t late : Int) (t0 : -9223372036854775808 ≤ t) (t1 : t ≤ 9223372036854775807) (late0 : -9223372036854775808 ≤ late) (late1 : late ≤ 9223372036854775807) (w : World) :
    Calls Try.prog 4 #[X7 z0 z1 z2 z3 z4 z5 z6, .int .i64 t, .int .i64 late] w (OutV w (.bool true)) := by
  have HU := Lib.hid (up_vb w)
  obtain ⟨o, ho, hs3, CM⟩ := madeV z0 z1 z2 z3 z4 z5 z6 r
  obtain ⟨i, hi, Ci⟩ := lpV t t0 t1 5000 (by decide) (by decide) 5000 rfl
  obtain ⟨j, hj, Cj⟩ := lpV late late0 late1 21 (by decide) (by decide) 21 rfl
  have HM := Lib.hid CM
  have HPi := Lib.hid Ci
  have HPj := Lib.hid Cj
  have HO := Lib.hid ho
  obtain ⟨⟨p0, p1⟩, ⟨f0, f1⟩, ⟨lo0, lo1⟩, ⟨hi0, hi1⟩, ⟨nd0, nd1⟩, ⟨tn0, tn1⟩, ⟨sl0, sl1⟩⟩ := okO_bd ho
  have i0 : (0 : Int) ≤ i := by omega
  have i1 : (i : Int) < 5000 := by omega
  have j0 : (0 : Int) ≤ j := by omega
  have j1 : (j : Int) < 21 := by omega
  obtain ⟨A, hA⟩ : ∃ A, 20 + (i : Int) = A := ⟨_, rfl⟩
  obtain ⟨d, hd⟩ : ∃ d, (j : Int) - 10 = d := ⟨_, rfl⟩
  obtain ⟨m, hm⟩ : ∃ m, A - d = m := ⟨_, rfl⟩
  have HE := Lib.hid (And.intro hA (And.intro hd hm))
  have A0 : 20 ≤ A := by omega
  have A1 : A < 5020 := by omega
  have dd0 : -10 ≤ d := by omega
  have dd1 : d ≤ 10 := by omega
  have m0 : 0 ≤ m := by omega
  have m1 : m ≤ 6000 := by omega
  have HK := Lib.hid (asked_iff.2 ⟨ho, ⟨show 0 ≤ A by omega, show A ≤ 1000000 by omega⟩, ⟨dd0, dd1⟩⟩)
  have CR := Lib.hid (fun W => show Calls Try.prog 15 #[OV o, .int .i64 A, .int .i64 d] W (OutV W (.tuple #[.int .i64 (rowZ o m), .int .i64 0])) from by have h := rowS_yes o A d HK.out W; rwa [hm] at h)
  have CC := Lib.hid (fun W => show Calls Try.prog 17 #[OV o, .int .i64 A, .int .i64 d] W (OutV W (.tuple #[.int .i64 (colZ o m), .int .i64 0])) from by have h := colS_yes o A d HK.out W; rwa [hm] at h)
  have CA := Lib.hid (fun W => show Calls Try.prog 19 #[OV o, .int .i64 A, .int .i64 d] W (OutV W (.tuple #[KV (celO o m), .int .i64 0])) from by have h := atS_yes o A d HK.out W; rwa [hm] at h)
  have DR := Lib.hid (fun W => rowA o ho m m0 (by omega) W)
  have DC := Lib.hid (fun W => colA o ho m m0 (by omega) W)
  have DA := Lib.hid (fun W => atA o ho m m0 (by omega) W)
  have HX := Lib.hid (cel_x o m)
  have HY := Lib.hid (cel_y ho m)
  obtain ⟨c0, c1⟩ := col_bd o m
  obtain ⟨w0, w1⟩ := row_24 ho m
  have heq := run_eqK (celO o m) (celO o m)
  rw [show decide (celO o m = celO o m) = true from by simp] at heq
  generalize celO o m = x at *
  generalize colZ o m = ca at *
  generalize rowZ o m = ra at *
  have HEQ := Lib.hid heq
  clear CM Ci Cj ho hi hj t0 t1 late0 late1 r hA hd hm heq
  obtain ⟨x1, X, ex1, eb1, hb, hk⟩ := box1 w #[.int .i64 z0, .int .i64 z1, .int .i64 z2, .int .i64 z3, .int .i64 z4, .int .i64 z5, .int .i64 z6] 22
  replace HU := Lib.hid (HU.out.next hb)
  have UX := Lib.hid (up_vr hk : Up x1 (VR X #[.int .i64 z0, .int .i64 z1, .int .i64 z2, .int .i64 z3, .int .i64 z4, .int .i64 z5, .int .i64 z6] 22))
  clear hb hk
  go_enter Try.func4, Try.ntmps4
  go_wp2_with fail
  clear ex1 eb1
  (with_reducible refine (sane_any _).mono ?_)
  rintro e v2 ⟨rfl, hb⟩
  replace HU := Lib.hid (HU.out.next hb)
  replace UX := Lib.hid (UX.out.next hb)
  clear hb
  have kX0 : v2.cell? ⟨X, 0, none⟩ = some (.int .i64 z0) := row_cell UX.out.now 0
  have kX1 : v2.cell? ⟨X, 1, none⟩ = some (.int .i64 z1) := row_cell UX.out.now 1
  have kX2 : v2.cell? ⟨X, 2, none⟩ = some (.int .i64 z2) := row_cell UX.out.now 2
  have kX3 : v2.cell? ⟨X, 3, none⟩ = some (.int .i64 z3) := row_cell UX.out.now 3
  have kX4 : v2.cell? ⟨X, 4, none⟩ = some (.int .i64 z4) := row_cell UX.out.now 4
  have kX5 : v2.cell? ⟨X, 5, none⟩ = some (.int .i64 z5) := row_cell UX.out.now 5
  have kX6 : v2.cell? ⟨X, 6, none⟩ = some (.int .i64 z6) := row_cell UX.out.now 6
  go_wp2_with fail
  clear kX0 kX1 kX2 kX3 kX4 kX5 kX6
  (with_reducible refine (HM.out _).mono ?_)
  rintro e v3 ⟨rfl, hb⟩
  replace HU := Lib.hid (HU.out.next hb)
  replace UX := Lib.hid (UX.out.next hb)
  clear hb
  obtain ⟨x4, O, ex4, eb4, hb, hk⟩ := box1 v3 #[.int .i64 o.p, .int .i64 o.f, .int .i64 o.lo, .int .i64 o.hi, .int .i64 o.nd, .int .i64 o.tn, .int .i64 o.sl] 24
  replace HU := Lib.hid (HU.out.next hb)
  replace UX := Lib.hid (UX.out.next hb)
  have UO := Lib.hid (up_vr hk : Up x4 (VR O #[.int .i64 o.p, .int .i64 o.f, .int .i64 o.lo, .int .i64 o.hi, .int .i64 o.nd, .int .i64 o.tn, .int .i64 o.sl] 24))
  clear hb hk
  have hA := HE.out.1
  go_wp2_with fail
  clear ex4 eb4
  (with_reducible refine (HPi.out _).mono ?_)
  rintro e v5 ⟨rfl, hb⟩
  replace HU := Lib.hid (HU.out.next hb)
  replace UX := Lib.hid (UX.out.next hb)
  replace UO := Lib.hid (UO.out.next hb)
  clear hb
  have hd := HE.out.2.1
  go_wp2_with fail
  clear hA
  (with_reducible refine (HPj.out _).mono ?_)
  rintro e v6 ⟨rfl, hb⟩
  replace HU := Lib.hid (HU.out.next hb)
  replace UX := Lib.hid (UX.out.next hb)
  replace UO := Lib.hid (UO.out.next hb)
  clear hb
  have kO0 : v6.cell? ⟨O, 0, none⟩ = some (.int .i64 o.p) := row_cell UO.out.now 0
  have kO1 : v6.cell? ⟨O, 1, none⟩ = some (.int .i64 o.f) := row_cell UO.out.now 1
  have kO2 : v6.cell? ⟨O, 2, none⟩ = some (.int .i64 o.lo) := row_cell UO.out.now 2
  have kO3 : v6.cell? ⟨O, 3, none⟩ = some (.int .i64 o.hi) := row_cell UO.out.now 3
  have kO4 : v6.cell? ⟨O, 4, none⟩ = some (.int .i64 o.nd) := row_cell UO.out.now 4
  have kO5 : v6.cell? ⟨O, 5, none⟩ = some (.int .i64 o.tn) := row_cell UO.out.now 5
  have kO6 : v6.cell? ⟨O, 6, none⟩ = some (.int .i64 o.sl) := row_cell UO.out.now 6
  go_wp2_with fail
  clear kO0 kO1 kO2 kO3 kO4 kO5 kO6 hd
  (with_reducible refine (CR.out _).mono ?_)
  rintro e v7 ⟨rfl, hb⟩
  replace HU := Lib.hid (HU.out.next hb)
  replace UX := Lib.hid (UX.out.next hb)
  replace UO := Lib.hid (UO.out.next hb)
  clear hb
  have hm := HE.out.2.2
  have kO0 : v7.cell? ⟨O, 0, none⟩ = some (.int .i64 o.p) := row_cell UO.out.now 0
  have kO1 : v7.cell? ⟨O, 1, none⟩ = some (.int .i64 o.f) := row_cell UO.out.now 1
  have kO2 : v7.cell? ⟨O, 2, none⟩ = some (.int .i64 o.lo) := row_cell UO.out.now 2
  have kO3 : v7.cell? ⟨O, 3, none⟩ = some (.int .i64 o.hi) := row_cell UO.out.now 3
  have kO4 : v7.cell? ⟨O, 4, none⟩ = some (.int .i64 o.nd) := row_cell UO.out.now 4
  have kO5 : v7.cell? ⟨O, 5, none⟩ = some (.int .i64 o.tn) := row_cell UO.out.now 5
  have kO6 : v7.cell? ⟨O, 6, none⟩ = some (.int .i64 o.sl) := row_cell UO.out.now 6
  go_wp2_with fail
  clear kO0 kO1 kO2 kO3 kO4 kO5 kO6
  (with_reducible refine (DR.out _).mono ?_)
  rintro e v8 ⟨rfl, hb⟩
  replace HU := Lib.hid (HU.out.next hb)
  replace UX := Lib.hid (UX.out.next hb)
  replace UO := Lib.hid (UO.out.next hb)
  clear hb
  have kO0 : v8.cell? ⟨O, 0, none⟩ = some (.int .i64 o.p) := row_cell UO.out.now 0
  have kO1 : v8.cell? ⟨O, 1, none⟩ = some (.int .i64 o.f) := row_cell UO.out.now 1
  have kO2 : v8.cell? ⟨O, 2, none⟩ = some (.int .i64 o.lo) := row_cell UO.out.now 2
  have kO3 : v8.cell? ⟨O, 3, none⟩ = some (.int .i64 o.hi) := row_cell UO.out.now 3
  have kO4 : v8.cell? ⟨O, 4, none⟩ = some (.int .i64 o.nd) := row_cell UO.out.now 4
  have kO5 : v8.cell? ⟨O, 5, none⟩ = some (.int .i64 o.tn) := row_cell UO.out.now 5
  have kO6 : v8.cell? ⟨O, 6, none⟩ = some (.int .i64 o.sl) := row_cell UO.out.now 6
  go_wp2_with fail
  clear kO0 kO1 kO2 kO3 kO4 kO5 kO6
  (with_reducible refine (CC.out _).mono ?_)
  rintro e v9 ⟨rfl, hb⟩
  replace HU := Lib.hid (HU.out.next hb)
  replace UX := Lib.hid (UX.out.next hb)
  replace UO := Lib.hid (UO.out.next hb)
  clear hb
  have kO0 : v9.cell? ⟨O, 0, none⟩ = some (.int .i64 o.p) := row_cell UO.out.now 0
  have kO1 : v9.cell? ⟨O, 1, none⟩ = some (.int .i64 o.f) := row_cell UO.out.now 1
  have kO2 : v9.cell? ⟨O, 2, none⟩ = some (.int .i64 o.lo) := row_cell UO.out.now 2
  have kO3 : v9.cell? ⟨O, 3, none⟩ = some (.int .i64 o.hi) := row_cell UO.out.now 3
  have kO4 : v9.cell? ⟨O, 4, none⟩ = some (.int .i64 o.nd) := row_cell UO.out.now 4
  have kO5 : v9.cell? ⟨O, 5, none⟩ = some (.int .i64 o.tn) := row_cell UO.out.now 5
  have kO6 : v9.cell? ⟨O, 6, none⟩ = some (.int .i64 o.sl) := row_cell UO.out.now 6
  go_wp2_with fail
  clear kO0 kO1 kO2 kO3 kO4 kO5 kO6
  (with_reducible refine (DC.out _).mono ?_)
  rintro e v10 ⟨rfl, hb⟩
  replace HU := Lib.hid (HU.out.next hb)
  replace UX := Lib.hid (UX.out.next hb)
  replace UO := Lib.hid (UO.out.next hb)
  clear hb
  have kO0 : v10.cell? ⟨O, 0, none⟩ = some (.int .i64 o.p) := row_cell UO.out.now 0
  have kO1 : v10.cell? ⟨O, 1, none⟩ = some (.int .i64 o.f) := row_cell UO.out.now 1
  have kO2 : v10.cell? ⟨O, 2, none⟩ = some (.int .i64 o.lo) := row_cell UO.out.now 2
  have kO3 : v10.cell? ⟨O, 3, none⟩ = some (.int .i64 o.hi) := row_cell UO.out.now 3
  have kO4 : v10.cell? ⟨O, 4, none⟩ = some (.int .i64 o.nd) := row_cell UO.out.now 4
  have kO5 : v10.cell? ⟨O, 5, none⟩ = some (.int .i64 o.tn) := row_cell UO.out.now 5
  have kO6 : v10.cell? ⟨O, 6, none⟩ = some (.int .i64 o.sl) := row_cell UO.out.now 6
  go_wp2_with fail
  clear kO0 kO1 kO2 kO3 kO4 kO5 kO6
  (with_reducible refine (CA.out _).mono ?_)
  rintro e v11 ⟨rfl, hb⟩
  replace HU := Lib.hid (HU.out.next hb)
  replace UX := Lib.hid (UX.out.next hb)
  replace UO := Lib.hid (UO.out.next hb)
  clear hb
  obtain ⟨x12, P, ex12, eb12, hb, hk⟩ := box1 v11 #[iV x.1.1, iV x.1.2] 38
  replace HU := Lib.hid (HU.out.next hb)
  replace UX := Lib.hid (UX.out.next hb)
  replace UO := Lib.hid (UO.out.next hb)
  have UP := Lib.hid (up_vr hk : Up x12 (VR P #[iV x.1.1, iV x.1.2] 38))
  clear hb hk
  have kO0 : x12.cell? ⟨O, 0, none⟩ = some (.int .i64 o.p) := row_cell UO.out.now 0
  have kO1 : x12.cell? ⟨O, 1, none⟩ = some (.int .i64 o.f) := row_cell UO.out.now 1
  have kO2 : x12.cell? ⟨O, 2, none⟩ = some (.int .i64 o.lo) := row_cell UO.out.now 2
  have kO3 : x12.cell? ⟨O, 3, none⟩ = some (.int .i64 o.hi) := row_cell UO.out.now 3
  have kO4 : x12.cell? ⟨O, 4, none⟩ = some (.int .i64 o.nd) := row_cell UO.out.now 4
  have kO5 : x12.cell? ⟨O, 5, none⟩ = some (.int .i64 o.tn) := row_cell UO.out.now 5
  have kO6 : x12.cell? ⟨O, 6, none⟩ = some (.int .i64 o.sl) := row_cell UO.out.now 6
  go_wp2_with fail
  clear ex12 eb12 kO0 kO1 kO2 kO3 kO4 kO5 kO6 hm
  (with_reducible refine (DA.out _).mono ?_)
  rintro e v13 ⟨rfl, hb⟩
  replace HU := Lib.hid (HU.out.next hb)
  replace UX := Lib.hid (UX.out.next hb)
  replace UO := Lib.hid (UO.out.next hb)
  replace UP := Lib.hid (UP.out.next hb)
  clear hb
  obtain ⟨x14, Q, ex14, eb14, hb, hk⟩ := box1 v13 #[iV x.1.1, iV x.1.2] 38
  replace HU := Lib.hid (HU.out.next hb)
  replace UX := Lib.hid (UX.out.next hb)
  replace UO := Lib.hid (UO.out.next hb)
  replace UP := Lib.hid (UP.out.next hb)
  have UQ := Lib.hid (up_vr hk : Up x14 (VR Q #[iV x.1.1, iV x.1.2] 38))
  clear hb hk
  have kP0 : x14.cell? ⟨P, 0, none⟩ = some (iV x.1.1) := row_cell UP.out.now 0
  have kP1 : x14.cell? ⟨P, 1, none⟩ = some (iV x.1.2) := row_cell UP.out.now 1
  have kQ0 : x14.cell? ⟨Q, 0, none⟩ = some (iV x.1.1) := row_cell UQ.out.now 0
  have kQ1 : x14.cell? ⟨Q, 1, none⟩ = some (iV x.1.2) := row_cell UQ.out.now 1
  have heq := HEQ.out
  have hx := HX.out.symm
  have hy := HY.out.symm
  go_wp2
  all_goals
    go_ret
    exact ⟨rfl, HU.out.now⟩
end Go.Proofs.Ytdomgielpofbhaa
