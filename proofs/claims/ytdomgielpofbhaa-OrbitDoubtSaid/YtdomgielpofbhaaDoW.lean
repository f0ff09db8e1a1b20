/- OrbitDoubt, walked. -/
import Derived.Test.YtdomgielpofbhaaLo
namespace Go.Proofs.Ytdomgielpofbhaa
open Go.RowKit Go.Shelf Go.Maps
set_option linter.unusedSimpArgs false
set_option linter.unusedVariables false
set_option maxRecDepth 100000 in
set_option maxHeartbeats 4000000 in
theorem doubt_any (z0 z1 z2 z3 z4 z5 z6 : Int) (r : I64 z0 ∧ I64 z1 ∧ I64 z2 ∧ I64 z3 ∧ I64 z4 ∧ I64 z5 ∧ I64 z6) (t more : Int) (t0 : -9223372036854775808 ≤ t) (t1 : t ≤ 9223372036854775807) (more0 : -9223372036854775808 ≤ more) (more1 : more ≤ 9223372036854775807) (w : World) :
    Calls Try.prog 7 #[X7 z0 z1 z2 z3 z4 z5 z6, .int .i64 t, .int .i64 more] w (OutV w (.bool true)) := by
  have HU := Lib.hid (up_vb w)
  obtain ⟨o, ho, hs3, CM⟩ := madeV z0 z1 z2 z3 z4 z5 z6 r
  obtain ⟨i, hi, Ci⟩ := lpV t t0 t1 5000 (by decide) (by decide) 5000 rfl
  have HM := Lib.hid CM
  have HPi := Lib.hid Ci
  have HO := Lib.hid ho
  obtain ⟨⟨p0, p1⟩, ⟨f0, f1⟩, ⟨lo0, lo1⟩, ⟨hi0, hi1⟩, ⟨nd0, nd1⟩, ⟨tn0, tn1⟩, ⟨sl0, sl1⟩⟩ := okO_bd ho
  have i0 : (0 : Int) ≤ i := by omega
  have i1 : (i : Int) < 5000 := by omega
  obtain ⟨k, hk, CK⟩ := lpS more more0 more1 (10 - o.sl + 1) (by omega) (by omega)
  obtain ⟨s, hs⟩ : ∃ s, o.sl + (k : Int) = s := ⟨_, rfl⟩
  have s0 : o.sl ≤ s := by omega
  have s1 : s ≤ 10 := by omega
  have HS := Lib.hid hs
  have k0 : (0 : Int) ≤ k := by omega
  have CA := Lib.hid (fun W => couldS_yes o (i : Int) (askC_iff.2 ⟨ho, by omega, by omega⟩) W)
  have CB := Lib.hid (fun W => (couldS_yes (wid o s) (i : Int) (askC_iff.2 ⟨wid_ok ho (by omega) s1, by omega, by omega⟩) W : Calls Try.prog 21 #[.agg #[.int .i64 o.p, .int .i64 o.f, .int .i64 o.lo, .int .i64 o.hi, .int .i64 o.nd, .int .i64 o.tn, .int .i64 s], .int .i64 (i : Int)] W fun e w' => ∃ l, Could (wid o s) (i : Int) l ∧ OutL W l 0 e w'))
  have CMA := Lib.hid (fun W => mustS_yes o (i : Int) (askC_iff.2 ⟨ho, by omega, by omega⟩) W)
  have CMB := Lib.hid (fun W => (mustS_yes (wid o s) (i : Int) (askC_iff.2 ⟨wid_ok ho (by omega) s1, by omega, by omega⟩) W : Calls Try.prog 23 #[.agg #[.int .i64 o.p, .int .i64 o.f, .int .i64 o.lo, .int .i64 o.hi, .int .i64 o.nd, .int .i64 o.tn, .int .i64 s], .int .i64 (i : Int)] W fun e w' => ∃ l, Could (wid o s) (i : Int) l ∧ OutV W (mustV l) e w'))
  have HK := Lib.hid CK
  clear CM Ci CK ho hi t0 t1 more0 more1 r hs
  obtain ⟨x1, X, ex1, eb1, hb, hk⟩ := box1 w #[.int .i64 z0, .int .i64 z1, .int .i64 z2, .int .i64 z3, .int .i64 z4, .int .i64 z5, .int .i64 z6] 22
  replace HU := Lib.hid (HU.out.next hb)
  have UX := Lib.hid (up_vr hk : Up x1 (VR X #[.int .i64 z0, .int .i64 z1, .int .i64 z2, .int .i64 z3, .int .i64 z4, .int .i64 z5, .int .i64 z6] 22))
  clear hb hk
  go_enter Try.func7, Try.ntmps7
  go_wp2_with fail
  clear ex1 eb1
  (with_reducible refine (sane_any _).mono ?_)
  rintro e v2 ⟨rfl, hb⟩
  replace HU := Lib.hid (HU.out.next hb)
  replace UX := Lib.hid (UX.out.next hb)
  clear hb
  have kX0 : v2.cell? ⟨X, 0, none⟩ = some (.int .i64 z0) := row_cell UX.out.now 0
  have kX1 : v2.cell? ⟨X, 1, none⟩ = some (.int .i64 z1) := row_cell UX.out.now 1
  have kX2 : v2.cell? ⟨X, 2, none⟩ = some (.int .i64 z2) := row_cell UX.out.now 2
  have kX3 : v2.cell? ⟨X, 3, none⟩ = some (.int .i64 z3) := row_cell UX.out.now 3
  have kX4 : v2.cell? ⟨X, 4, none⟩ = some (.int .i64 z4) := row_cell UX.out.now 4
  have kX5 : v2.cell? ⟨X, 5, none⟩ = some (.int .i64 z5) := row_cell UX.out.now 5
  have kX6 : v2.cell? ⟨X, 6, none⟩ = some (.int .i64 z6) := row_cell UX.out.now 6
  go_wp2_with fail
  clear kX0 kX1 kX2 kX3 kX4 kX5 kX6
  (with_reducible refine (HM.out _).mono ?_)
  rintro e v3 ⟨rfl, hb⟩
  replace HU := Lib.hid (HU.out.next hb)
  replace UX := Lib.hid (UX.out.next hb)
  clear hb
  obtain ⟨x4, O, ex4, eb4, hb, hk⟩ := box1 v3 #[.int .i64 o.p, .int .i64 o.f, .int .i64 o.lo, .int .i64 o.hi, .int .i64 o.nd, .int .i64 o.tn, .int .i64 o.sl] 24
  replace HU := Lib.hid (HU.out.next hb)
  replace UX := Lib.hid (UX.out.next hb)
  have UO := Lib.hid (up_vr hk : Up x4 (VR O #[.int .i64 o.p, .int .i64 o.f, .int .i64 o.lo, .int .i64 o.hi, .int .i64 o.nd, .int .i64 o.tn, .int .i64 o.sl] 24))
  clear hb hk
  go_wp2_with fail
  clear ex4 eb4
  (with_reducible refine (HPi.out _).mono ?_)
  rintro e v5 ⟨rfl, hb⟩
  replace HU := Lib.hid (HU.out.next hb)
  replace UX := Lib.hid (UX.out.next hb)
  replace UO := Lib.hid (UO.out.next hb)
  clear hb
  have kO0 : v5.cell? ⟨O, 0, none⟩ = some (.int .i64 o.p) := row_cell UO.out.now 0
  have kO1 : v5.cell? ⟨O, 1, none⟩ = some (.int .i64 o.f) := row_cell UO.out.now 1
  have kO2 : v5.cell? ⟨O, 2, none⟩ = some (.int .i64 o.lo) := row_cell UO.out.now 2
  have kO3 : v5.cell? ⟨O, 3, none⟩ = some (.int .i64 o.hi) := row_cell UO.out.now 3
  have kO4 : v5.cell? ⟨O, 4, none⟩ = some (.int .i64 o.nd) := row_cell UO.out.now 4
  have kO5 : v5.cell? ⟨O, 5, none⟩ = some (.int .i64 o.tn) := row_cell UO.out.now 5
  have kO6 : v5.cell? ⟨O, 6, none⟩ = some (.int .i64 o.sl) := row_cell UO.out.now 6
  obtain ⟨x6, E, ex6, eb6, hbE, hkE⟩ := box1 v5 #[.int .i64 o.p, .int .i64 o.f, .int .i64 o.lo, .int .i64 o.hi, .int .i64 o.nd, .int .i64 o.tn, .int .i64 o.sl] 24
  have HBE := Lib.hid hbE
  have HKE := Lib.hid (show BX x6 E #[.int .i64 o.p, .int .i64 o.f, .int .i64 o.lo, .int .i64 o.hi, .int .i64 o.nd, .int .i64 o.tn, .int .i64 o.sl] 24 from hkE)
  have kx6 : x6.cell? ⟨O, 6, none⟩ = some (.int .i64 o.sl) := row_cell (UO.out.next hbE).now 6
  clear hbE hkE
  go_upto_region 6 with fail
  clear kO0 kO1 kO2 kO3 kO4 kO5 kO6
  refine wp_region_still_tail 10 (by kernel_rfl) (by kernel_rfl) ?_
  simp only [List.take_succ_cons, List.take_zero, List.drop_succ_cons, List.drop_zero]
  iterate 7 still_step
  rw [wrap_in (z := 10 - o.sl) (by omega) (by omega), wrap_in (z := 10 - o.sl + 1) (by omega) (by omega)]
  still_call (HK.out _)
  iterate 2 still_step
  refine wpStill_nil ?_
  obtain ⟨Z6, hZ⟩ : ∃ Z, x6.drew = Z := ⟨_, rfl⟩
  change wpList _ _ _ _ _ x6.drew
  have HZ := Lib.hid (show BX Z6 E #[.int .i64 o.p, .int .i64 o.f, .int .i64 o.lo, .int .i64 o.hi, .int .i64 o.nd, .int .i64 o.tn, .int .i64 o.sl] 24 ∧ Below v5.heap.size v5 Z6 from by rw [← hZ]; exact ⟨HKE.out, HBE.out.drew⟩)
  rw [hZ]
  try rw [wrap_in (z := o.sl + (k : Int)) (by omega) (by omega)]
  rw [HS.out]
  have kE6 : Z6.cell? ⟨E, 6, none⟩ = some (.int .i64 o.sl) := BX.cell HZ.out.1 6
  have fE6 : Z6.frozen? ⟨E, 6, none⟩ = false := BX.frozen HZ.out.1 6
  obtain ⟨Y6, ey6⟩ : ∃ Y, Z6.setCell ⟨E, 6, none⟩ (.int .i64 s) = Y := ⟨_, rfl⟩
  have hbY : Below v5.heap.size v5 Y6 := by rw [← ey6]; exact HZ.out.2.setCell (p := ⟨E, 6, none⟩) (by show v5.heap.size ≤ E; omega) _
  have hkY : BX Y6 E #[.int .i64 o.p, .int .i64 o.f, .int .i64 o.lo, .int .i64 o.hi, .int .i64 o.nd, .int .i64 o.tn, .int .i64 s] 24 := by rw [← ey6]; exact BX.put HZ.out.1 _
  clear hZ kx6 ex6 eb6 HKE HBE HZ
  replace HU := Lib.hid (HU.out.next hbY)
  replace UX := Lib.hid (UX.out.next hbY)
  replace UO := Lib.hid (UO.out.next hbY)
  have UE := Lib.hid (up_vr hkY : Up Y6 (VR E #[.int .i64 o.p, .int .i64 o.f, .int .i64 o.lo, .int .i64 o.hi, .int .i64 o.nd, .int .i64 o.tn, .int .i64 s] 24))
  clear hbY hkY
  have kO0 : Y6.cell? ⟨O, 0, none⟩ = some (.int .i64 o.p) := row_cell UO.out.now 0
  have kO1 : Y6.cell? ⟨O, 1, none⟩ = some (.int .i64 o.f) := row_cell UO.out.now 1
  have kO2 : Y6.cell? ⟨O, 2, none⟩ = some (.int .i64 o.lo) := row_cell UO.out.now 2
  have kO3 : Y6.cell? ⟨O, 3, none⟩ = some (.int .i64 o.hi) := row_cell UO.out.now 3
  have kO4 : Y6.cell? ⟨O, 4, none⟩ = some (.int .i64 o.nd) := row_cell UO.out.now 4
  have kO5 : Y6.cell? ⟨O, 5, none⟩ = some (.int .i64 o.tn) := row_cell UO.out.now 5
  have kO6 : Y6.cell? ⟨O, 6, none⟩ = some (.int .i64 o.sl) := row_cell UO.out.now 6
  go_wp2_with fail
  clear kE6 fE6 ey6 kO0 kO1 kO2 kO3 kO4 kO5 kO6
  (with_reducible refine (CA.out _).mono ?_)
  rintro e v7 ⟨a, hca, al, ac, rfl, hcs, hb⟩
  replace HU := Lib.hid (HU.out.next hb)
  replace UX := Lib.hid (UX.out.next hb)
  replace UO := Lib.hid (UO.out.next hb)
  replace UE := Lib.hid (UE.out.next hb)
  have UA := Lib.hid (up_vc hcs)
  have HA := Lib.hid hca
  clear hcs hca
  clear hb
  have kE0 : v7.cell? ⟨E, 0, none⟩ = some (.int .i64 o.p) := row_cell UE.out.now 0
  have kE1 : v7.cell? ⟨E, 1, none⟩ = some (.int .i64 o.f) := row_cell UE.out.now 1
  have kE2 : v7.cell? ⟨E, 2, none⟩ = some (.int .i64 o.lo) := row_cell UE.out.now 2
  have kE3 : v7.cell? ⟨E, 3, none⟩ = some (.int .i64 o.hi) := row_cell UE.out.now 3
  have kE4 : v7.cell? ⟨E, 4, none⟩ = some (.int .i64 o.nd) := row_cell UE.out.now 4
  have kE5 : v7.cell? ⟨E, 5, none⟩ = some (.int .i64 o.tn) := row_cell UE.out.now 5
  have kE6 : v7.cell? ⟨E, 6, none⟩ = some (.int .i64 s) := row_cell UE.out.now 6
  go_wp2_with fail
  clear kE0 kE1 kE2 kE3 kE4 kE5 kE6
  (with_reducible refine (CB.out _).mono ?_)
  rintro e v8 ⟨b, hcb, bl, bc, rfl, hcs, hb⟩
  replace HU := Lib.hid (HU.out.next hb)
  replace UX := Lib.hid (UX.out.next hb)
  replace UO := Lib.hid (UO.out.next hb)
  replace UE := Lib.hid (UE.out.next hb)
  replace UA := Lib.hid (UA.out.next hb)
  have UB := Lib.hid (up_vc hcs)
  have HB := Lib.hid hcb
  clear hcs hcb
  clear hb
  have HSUB := Lib.hid (wid_sub HO.out s0 s1 HA.out HB.out)
  have a21 : a.length ≤ 21 := could_21 HO.out HA.out
  have b21 : b.length ≤ 21 := could_21 (wid_ok HO.out (by omega) s1) HB.out
  clear CA CB HK
  go_wp2_with fail
  go_loopw [14] (fun iv wr => ∃ j : Nat, j ≤ a.length ∧ iv = iV j ∧ Up wr (VB w) ∧ Up wr (VR O #[.int .i64 o.p, .int .i64 o.f, .int .i64 o.lo, .int .i64 o.hi, .int .i64 o.nd, .int .i64 o.tn, .int .i64 o.sl] 24) ∧ Up wr (VR E #[.int .i64 o.p, .int .i64 o.f, .int .i64 o.lo, .int .i64 o.hi, .int .i64 o.nd, .int .i64 o.tn, .int .i64 s] 24) ∧ Up wr (VC al a) ∧ Up wr (VC bl b)) (fun iv _ => a.length - (intOf iv).toNat)
  case atStart => exact ⟨0, by omega, rfl, HU.out, UO.out, UE.out, UA.out, UB.out⟩
  case round =>
    clear HU UX UO UE UA UB
    obtain ⟨j, hj, rfl, hU, hO, hE, hA, hB⟩ := hrel
    have HU := Lib.hid hU; have UO := Lib.hid hO; have UE := Lib.hid hE; have UA := Lib.hid hA; have UB := Lib.hid hB
    clear hU hO hE hA hB
    rename World => wr
    have j0 : (0 : Int) ≤ j := by omega
    by_cases hlt : j < a.length
    · obtain ⟨x, hx⟩ : ∃ x, a[j]? = some x := ⟨_, List.getElem?_eq_getElem hlt⟩
      have HX := Lib.hid hx
      have HIN := Lib.hid (inB_all (HSUB.out x (List.mem_of_getElem? hx)))
      have hd : decide (j < a.length) = true := by simp; omega
      clear hx
      go_upto_region 16 with fail
      go_loopw [15, 16] (fun tv kv wr => ∃ q : Nat, q ≤ b.length ∧ kv = iV q ∧ tv = .bool (inB b x q) ∧ Up wr (VB w) ∧ Up wr (VR O #[.int .i64 o.p, .int .i64 o.f, .int .i64 o.lo, .int .i64 o.hi, .int .i64 o.nd, .int .i64 o.tn, .int .i64 o.sl] 24) ∧ Up wr (VR E #[.int .i64 o.p, .int .i64 o.f, .int .i64 o.lo, .int .i64 o.hi, .int .i64 o.nd, .int .i64 o.tn, .int .i64 s] 24) ∧ Up wr (VC al a) ∧ Up wr (VC bl b)) (fun _ kv _ => b.length - (intOf kv).toNat)
      case atStart => exact ⟨0, by omega, rfl, rfl, HU.out, UO.out, UE.out, UA.out, UB.out⟩
      case round =>
        clear HU UO UE UA UB
        obtain ⟨q, hq, rfl, rfl, hU, hO, hE, hA, hB⟩ := hrel
        have HU := Lib.hid hU; have UO := Lib.hid hO; have UE := Lib.hid hE; have UA := Lib.hid hA; have UB := Lib.hid hB
        clear hU hO hE hA hB
        rename World => wr2
        have q0 : (0 : Int) ≤ q := by omega
        by_cases hlt2 : q < b.length
        · obtain ⟨y, hy⟩ : ∃ y, b[q]? = some y := ⟨_, List.getElem?_eq_getElem hlt2⟩
          obtain ⟨ab, rfl, hab, a0, a1⟩ := vc_at UA.out.now HX.out
          obtain ⟨bb, rfl, hbb, b0, b1⟩ := vc_at UB.out.now hy
          have HY := Lib.hid (inB_s (x := x) hy)
          have heq := run_eqK y x
          have hd2 : decide (q < b.length) = true := by simp; omega
          have j1 : (j : Int) < a.length := by omega
          have q1 : (q : Int) < b.length := by omega
          clear hy hab hbb
          generalize inB b x q = th at *
          cases th
          all_goals
            go_wp2_with fail
            go_quiet (fail)
            go_wp2
            exact ⟨⟨q + 1, by omega, ret_i (by omega), by rw [HY.out]; rfl, HU.out.next (below_dn nq), UO.out.next (below_dn nq), UE.out.next (below_dn nq), UA.out.next (below_dn nq), UB.out.next (below_dn nq)⟩, by simp [intOf]; omega⟩
        · obtain rfl : q = b.length := by omega
          have hd2 : decide (b.length < b.length) = false := by simp
          have hin := HIN.out
          rw [hin]
          go_wp2
          exact ⟨⟨j + 1, by omega, ret_i (by omega), HU.out, UO.out, UE.out, UA.out, UB.out⟩, by simp [intOf]; omega⟩
    · obtain rfl : j = a.length := by omega
      have hd : decide (a.length < a.length) = false := by simp
      clear HSUB
      have kE0 : wr.cell? ⟨E, 0, none⟩ = some (.int .i64 o.p) := row_cell UE.out.now 0
      have kE1 : wr.cell? ⟨E, 1, none⟩ = some (.int .i64 o.f) := row_cell UE.out.now 1
      have kE2 : wr.cell? ⟨E, 2, none⟩ = some (.int .i64 o.lo) := row_cell UE.out.now 2
      have kE3 : wr.cell? ⟨E, 3, none⟩ = some (.int .i64 o.hi) := row_cell UE.out.now 3
      have kE4 : wr.cell? ⟨E, 4, none⟩ = some (.int .i64 o.nd) := row_cell UE.out.now 4
      have kE5 : wr.cell? ⟨E, 5, none⟩ = some (.int .i64 o.tn) := row_cell UE.out.now 5
      have kE6 : wr.cell? ⟨E, 6, none⟩ = some (.int .i64 s) := row_cell UE.out.now 6
      go_wp2_with fail
      clear kE0 kE1 kE2 kE3 kE4 kE5 kE6
      (with_reducible refine (CMB.out _).mono ?_)
      rintro e v9 ⟨b2, hcb, rfl, hb⟩
      replace HU := Lib.hid (HU.out.next hb)
      replace UO := Lib.hid (UO.out.next hb)
      replace UE := Lib.hid (UE.out.next hb)
      replace UA := Lib.hid (UA.out.next hb)
      replace UB := Lib.hid (UB.out.next hb)
      obtain rfl := could_one HB.out hcb
      clear hcb
      clear hb
      obtain ⟨cx, cy, ct, ec, et, ec1, ec0⟩ := mustV_any b
      rw [ec]
      have HC := Lib.hid (And.intro et ec1)
      clear ec et ec1 ec0
      obtain ⟨x10, C, ex10, eb10, hb, hk⟩ := box1 v9 #[iV cx, iV cy] 38
      replace HU := Lib.hid (HU.out.next hb)
      replace UO := Lib.hid (UO.out.next hb)
      replace UE := Lib.hid (UE.out.next hb)
      replace UA := Lib.hid (UA.out.next hb)
      replace UB := Lib.hid (UB.out.next hb)
      have UC := Lib.hid (up_vr hk : Up x10 (VR C #[iV cx, iV cy] 38))
      clear hb hk
      have kO0 : x10.cell? ⟨O, 0, none⟩ = some (.int .i64 o.p) := row_cell UO.out.now 0
      have kO1 : x10.cell? ⟨O, 1, none⟩ = some (.int .i64 o.f) := row_cell UO.out.now 1
      have kO2 : x10.cell? ⟨O, 2, none⟩ = some (.int .i64 o.lo) := row_cell UO.out.now 2
      have kO3 : x10.cell? ⟨O, 3, none⟩ = some (.int .i64 o.hi) := row_cell UO.out.now 3
      have kO4 : x10.cell? ⟨O, 4, none⟩ = some (.int .i64 o.nd) := row_cell UO.out.now 4
      have kO5 : x10.cell? ⟨O, 5, none⟩ = some (.int .i64 o.tn) := row_cell UO.out.now 5
      have kO6 : x10.cell? ⟨O, 6, none⟩ = some (.int .i64 o.sl) := row_cell UO.out.now 6
      go_wp2_with fail
      clear ex10 eb10 kO0 kO1 kO2 kO3 kO4 kO5 kO6
      (with_reducible refine (CMA.out _).mono ?_)
      rintro e v11 ⟨a2, hca, rfl, hb⟩
      replace HU := Lib.hid (HU.out.next hb)
      replace UO := Lib.hid (UO.out.next hb)
      replace UE := Lib.hid (UE.out.next hb)
      replace UA := Lib.hid (UA.out.next hb)
      replace UB := Lib.hid (UB.out.next hb)
      replace UC := Lib.hid (UC.out.next hb)
      obtain rfl := could_one HA.out hca
      clear hca
      clear hb
      obtain ⟨dx, dy, dt, ed, et, ed1, ed0⟩ := mustV_any a
      rw [ed]
      have HD := Lib.hid (And.intro et ed1)
      clear ed et ed1 ed0
      obtain ⟨x12, D, ex12, eb12, hb, hk⟩ := box1 v11 #[iV dx, iV dy] 38
      replace HU := Lib.hid (HU.out.next hb)
      replace UO := Lib.hid (UO.out.next hb)
      replace UE := Lib.hid (UE.out.next hb)
      replace UA := Lib.hid (UA.out.next hb)
      replace UB := Lib.hid (UB.out.next hb)
      replace UC := Lib.hid (UC.out.next hb)
      have UD := Lib.hid (up_vr hk : Up x12 (VR D #[iV dx, iV dy] 38))
      clear hb hk
      have kC0 : x12.cell? ⟨C, 0, none⟩ = some (iV cx) := row_cell UC.out.now 0
      have kC1 : x12.cell? ⟨C, 1, none⟩ = some (iV cy) := row_cell UC.out.now 1
      have kD0 : x12.cell? ⟨D, 0, none⟩ = some (iV dx) := row_cell UD.out.now 0
      have kD1 : x12.cell? ⟨D, 1, none⟩ = some (iV dy) := row_cell UD.out.now 1
      have heq := run_eqC cx cy dx dy
      by_cases hb1 : b.length = 1
      · obtain ⟨c, rfl, rfl⟩ := wid_must HO.out s0 s1 HA.out HB.out hb1
        obtain ⟨rfl, hc⟩ := HC.out
        obtain ⟨rfl, hd⟩ := HD.out
        obtain ⟨rfl, rfl⟩ := hc c rfl
        obtain ⟨rfl, rfl⟩ := hd c rfl
        rw [beq_self_eq_true, beq_self_eq_true] at heq
        clear hc hd
        go_wp2
        all_goals
          go_ret
          exact ⟨rfl, HU.out.now⟩
      · obtain ⟨rfl, hc⟩ := HC.out
        rw [show decide (b.length = 1) = false from by simpa using hb1]
        clear hc
        cases dt
        all_goals
          go_wp2
          all_goals
            go_ret
            exact ⟨rfl, HU.out.now⟩
end Go.Proofs.Ytdomgielpofbhaa
