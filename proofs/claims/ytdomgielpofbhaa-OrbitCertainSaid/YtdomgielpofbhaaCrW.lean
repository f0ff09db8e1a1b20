/- OrbitCertain, walked. -/
import Derived.Test.YtdomgielpofbhaaLc
namespace Go.Proofs.Ytdomgielpofbhaa
open Go.RowKit Go.Shelf Go.Maps
set_option linter.unusedSimpArgs false
set_option linter.unusedVariables false
set_option maxRecDepth 100000 in
set_option maxHeartbeats 4000000 in
theorem certain_any (z0 z1 z2 z3 z4 z5 z6 : Int) (r : I64 z0 ∧ I64 z1 ∧ I64 z2 ∧ I64 z3 ∧ I64 z4 ∧ I64 z5 ∧ I64 z6) (t : Int) (t0 : -9223372036854775808 ≤ t) (t1 : t ≤ 9223372036854775807) (w : World) :
    Calls Try.prog 6 #[X7 z0 z1 z2 z3 z4 z5 z6, .int .i64 t] w (OutV w (.bool true)) := by
  have HU := Lib.hid (up_vb w)
  obtain ⟨o, ho, hs3, CM⟩ := madeV z0 z1 z2 z3 z4 z5 z6 r
  obtain ⟨i, hi, Ci⟩ := lpV t t0 t1 5000 (by decide) (by decide) 5000 rfl
  have HM := Lib.hid CM
  have HPi := Lib.hid Ci
  have HO := Lib.hid ho
  obtain ⟨⟨p0, p1⟩, ⟨f0, f1⟩, ⟨lo0, lo1⟩, ⟨hi0, hi1⟩, ⟨nd0, nd1⟩, ⟨tn0, tn1⟩, ⟨sl0, sl1⟩⟩ := okO_bd ho
  have i0 : (0 : Int) ≤ i := by omega
  have i1 : (i : Int) < 5000 := by omega
  have CA := Lib.hid (fun W => couldS_yes o (i : Int) (askC_iff.2 ⟨ho, by omega, by omega⟩) W)
  have CM2 := Lib.hid (fun W => mustS_yes o (i : Int) (askC_iff.2 ⟨ho, by omega, by omega⟩) W)
  have CK := Lib.hid (fun W => (mustS_yes (wid o 0) (i : Int) (askC_iff.2 ⟨wid_ok ho (by omega) (by omega), by omega, by omega⟩) W : Calls Try.prog 23 #[.agg #[.int .i64 o.p, .int .i64 o.f, .int .i64 o.lo, .int .i64 o.hi, .int .i64 o.nd, .int .i64 o.tn, .int .i64 0], .int .i64 (i : Int)] W fun e w' => ∃ l, Could (wid o 0) (i : Int) l ∧ OutV W (mustV l) e w'))
  clear CM Ci ho hi t0 t1 r
  obtain ⟨x1, X, ex1, eb1, hb, hk⟩ := box1 w #[.int .i64 z0, .int .i64 z1, .int .i64 z2, .int .i64 z3, .int .i64 z4, .int .i64 z5, .int .i64 z6] 22
  replace HU := Lib.hid (HU.out.next hb)
  have UX := Lib.hid (up_vr hk : Up x1 (VR X #[.int .i64 z0, .int .i64 z1, .int .i64 z2, .int .i64 z3, .int .i64 z4, .int .i64 z5, .int .i64 z6] 22))
  clear hb hk
  go_enter Try.func6, Try.ntmps6
  go_wp2_with fail
  clear ex1 eb1
  (with_reducible refine (sane_any _).mono ?_)
  rintro e v2 ⟨rfl, hb⟩
  replace HU := Lib.hid (HU.out.next hb)
  replace UX := Lib.hid (UX.out.next hb)
  clear hb
  have kX0 : v2.cell? ⟨X, 0, none⟩ = some (.int .i64 z0) := row_cell UX.out.now 0
  have kX1 : v2.cell? ⟨X, 1, none⟩ = some (.int .i64 z1) := row_cell UX.out.now 1
  have kX2 : v2.cell? ⟨X, 2, none⟩ = some (.int .i64 z2) := row_cell UX.out.now 2
  have kX3 : v2.cell? ⟨X, 3, none⟩ = some (.int .i64 z3) := row_cell UX.out.now 3
  have kX4 : v2.cell? ⟨X, 4, none⟩ = some (.int .i64 z4) := row_cell UX.out.now 4
  have kX5 : v2.cell? ⟨X, 5, none⟩ = some (.int .i64 z5) := row_cell UX.out.now 5
  have kX6 : v2.cell? ⟨X, 6, none⟩ = some (.int .i64 z6) := row_cell UX.out.now 6
  go_wp2_with fail
  clear kX0 kX1 kX2 kX3 kX4 kX5 kX6
  (with_reducible refine (HM.out _).mono ?_)
  rintro e v3 ⟨rfl, hb⟩
  replace HU := Lib.hid (HU.out.next hb)
  replace UX := Lib.hid (UX.out.next hb)
  clear hb
  obtain ⟨x4, O, ex4, eb4, hb, hk⟩ := box1 v3 #[.int .i64 o.p, .int .i64 o.f, .int .i64 o.lo, .int .i64 o.hi, .int .i64 o.nd, .int .i64 o.tn, .int .i64 o.sl] 24
  replace HU := Lib.hid (HU.out.next hb)
  replace UX := Lib.hid (UX.out.next hb)
  have UO := Lib.hid (up_vr hk : Up x4 (VR O #[.int .i64 o.p, .int .i64 o.f, .int .i64 o.lo, .int .i64 o.hi, .int .i64 o.nd, .int .i64 o.tn, .int .i64 o.sl] 24))
  clear hb hk
  go_wp2_with fail
  clear ex4 eb4
  (with_reducible refine (HPi.out _).mono ?_)
  rintro e v5 ⟨rfl, hb⟩
  replace HU := Lib.hid (HU.out.next hb)
  replace UX := Lib.hid (UX.out.next hb)
  replace UO := Lib.hid (UO.out.next hb)
  clear hb
  have kO0 : v5.cell? ⟨O, 0, none⟩ = some (.int .i64 o.p) := row_cell UO.out.now 0
  have kO1 : v5.cell? ⟨O, 1, none⟩ = some (.int .i64 o.f) := row_cell UO.out.now 1
  have kO2 : v5.cell? ⟨O, 2, none⟩ = some (.int .i64 o.lo) := row_cell UO.out.now 2
  have kO3 : v5.cell? ⟨O, 3, none⟩ = some (.int .i64 o.hi) := row_cell UO.out.now 3
  have kO4 : v5.cell? ⟨O, 4, none⟩ = some (.int .i64 o.nd) := row_cell UO.out.now 4
  have kO5 : v5.cell? ⟨O, 5, none⟩ = some (.int .i64 o.tn) := row_cell UO.out.now 5
  have kO6 : v5.cell? ⟨O, 6, none⟩ = some (.int .i64 o.sl) := row_cell UO.out.now 6
  go_wp2_with fail
  clear kO0 kO1 kO2 kO3 kO4 kO5 kO6
  (with_reducible refine (CA.out _).mono ?_)
  rintro e v6 ⟨L, hca, ll, lc, rfl, hcs, hb⟩
  replace HU := Lib.hid (HU.out.next hb)
  replace UX := Lib.hid (UX.out.next hb)
  replace UO := Lib.hid (UO.out.next hb)
  have UL := Lib.hid (up_vc hcs)
  have HA := Lib.hid hca
  clear hcs hca
  clear hb
  have kO0 : v6.cell? ⟨O, 0, none⟩ = some (.int .i64 o.p) := row_cell UO.out.now 0
  have kO1 : v6.cell? ⟨O, 1, none⟩ = some (.int .i64 o.f) := row_cell UO.out.now 1
  have kO2 : v6.cell? ⟨O, 2, none⟩ = some (.int .i64 o.lo) := row_cell UO.out.now 2
  have kO3 : v6.cell? ⟨O, 3, none⟩ = some (.int .i64 o.hi) := row_cell UO.out.now 3
  have kO4 : v6.cell? ⟨O, 4, none⟩ = some (.int .i64 o.nd) := row_cell UO.out.now 4
  have kO5 : v6.cell? ⟨O, 5, none⟩ = some (.int .i64 o.tn) := row_cell UO.out.now 5
  have kO6 : v6.cell? ⟨O, 6, none⟩ = some (.int .i64 o.sl) := row_cell UO.out.now 6
  go_wp2_with fail
  clear kO0 kO1 kO2 kO3 kO4 kO5 kO6
  (with_reducible refine (CM2.out _).mono ?_)
  rintro e v7 ⟨L2, hca, rfl, hb⟩
  replace HU := Lib.hid (HU.out.next hb)
  replace UX := Lib.hid (UX.out.next hb)
  replace UO := Lib.hid (UO.out.next hb)
  replace UL := Lib.hid (UL.out.next hb)
  obtain rfl := could_one HA.out hca
  clear hca
  clear hb
  have hl0 : 0 < L.length := could_ne HO.out HA.out
  have hl21 : L.length ≤ 21 := could_21 HO.out HA.out
  obtain ⟨cx, cy, ct, ec, et, ec1, ec0⟩ := mustV_any L
  rw [ec]
  have hlen0 : ((L.length : Int) == 0) = false := by rw [beq_eq_false_iff_ne]; omega
  have hlen1 : ((L.length : Int) == 1) = ct := by rw [et, Bool.eq_iff_iff, beq_iff_eq, decide_eq_true_eq]; omega
  obtain ⟨x0, hx0⟩ : ∃ x, L[0]? = some x := ⟨_, List.getElem?_eq_getElem hl0⟩
  have HC1 := Lib.hid (show ct = true → cx = x0.1.1 ∧ cy = x0.1.2 from fun h => by
    rw [et, decide_eq_true_eq] at h
    obtain ⟨c, hc⟩ := List.length_eq_one_iff.1 h
    have e := ec1 c hc
    rw [hc] at hx0
    simp at hx0
    rw [← hx0]; exact e)
  have HC0 := Lib.hid (show ct = false → cx = 0 ∧ cy = 0 from fun h => by
    rw [et, decide_eq_false_iff_not] at h
    exact ec0 h)
  have HX0 := Lib.hid hx0
  clear ec et ec1 ec0 hx0 CA CM2
  obtain ⟨x8, C, ex8, eb8, hb, hk⟩ := box1 v7 #[iV cx, iV cy] 38
  replace HU := Lib.hid (HU.out.next hb)
  replace UX := Lib.hid (UX.out.next hb)
  replace UO := Lib.hid (UO.out.next hb)
  replace UL := Lib.hid (UL.out.next hb)
  have UC := Lib.hid (up_vr hk : Up x8 (VR C #[iV cx, iV cy] 38))
  clear hb hk
  have kC0 : x8.cell? ⟨C, 0, none⟩ = some (iV cx) := row_cell UC.out.now 0
  have kC1 : x8.cell? ⟨C, 1, none⟩ = some (iV cy) := row_cell UC.out.now 1
  obtain ⟨lb, rfl, hlb, l0, l1⟩ := vc_at UL.out.now HX0.out
  rw [Nat.zero_mul] at l0
  rw [Nat.zero_mul] at l1
  have hl0' : (0 : Int) < L.length := by omega
  clear hlb HX0
  go_wp2_with fail
  cases ct
  all_goals
    first
      | (obtain ⟨rfl, rfl⟩ := HC1.out rfl)
      | (obtain ⟨rfl, rfl⟩ := HC0.out rfl)
    have heq1 := run_eqK x0 x0
    have heq2 := run_eqC 0 0 0 0
    rw [decide_eq_true (rfl : x0 = x0)] at heq1
    rw [beq_self_eq_true, Bool.and_true] at heq2
    clear HC1 HC0
    have HV := Lib.hid (fun V => show Below x8.heap.size x8 (V : World) → True from fun _ => trivial)
    go_quiet (fail)
    clear heq1 heq2 hlen1
    obtain ⟨V9, hV⟩ : ∃ V, x8.drewN nq = V := ⟨_, rfl⟩
    have hbV : Below x8.heap.size x8 V9 := by rw [← hV]; exact below_dn nq
    rw [hV]
    replace HU := Lib.hid (HU.out.next hbV)
    replace UX := Lib.hid (UX.out.next hbV)
    replace UO := Lib.hid (UO.out.next hbV)
    replace UL := Lib.hid (UL.out.next hbV)
    replace UC := Lib.hid (UC.out.next hbV)
    clear hbV hV kC0 kC1 l0 l1
    obtain ⟨x9, Q, ex9, eb9, hbQ, hkQ⟩ := box1 V9 #[.bool false, .bool false, .bool false, .bool false, .bool false, .bool false, .bool false, .bool false, .bool false, .bool false, .bool false, .bool false, .bool false, .bool false, .bool false, .bool false, .bool false, .bool false, .bool false, .bool false, .bool false] 52
    have HBQ := Lib.hid hbQ
    have HKQ := Lib.hid (show BX x9 Q (bvs (fun _ => false)) 52 from by rw [bvs_0]; exact hkQ)
    have HQ := Lib.hid (show V9.heap.size ≤ Q from by omega)
    clear hbQ hkQ
    have kO6 : x9.cell? ⟨O, 6, none⟩ = some (.int .i64 o.sl) := row_cell (UO.out _ HBQ.out) 6
    go_wp2_with fail
    clear kO6
    go_loopw [12] (fun dv wr => ∃ m : Nat, (m : Int) ≤ 2 * o.sl + 1 ∧ dv = .int .i64 ((m : Int) - o.sl) ∧ Below V9.heap.size V9 wr ∧ ∃ s, BX wr Q (bvs s) 52 ∧ Sn o (i : Int) L m s) (fun dv _ => (o.sl + 1 - intOf dv).toNat)
    case atStart => exact ⟨0, by omega, ret_i (by omega), HBQ.out, _, HKQ.out, sn_0 _ _ _ _⟩
    case round =>
      clear HBQ HKQ ex9 eb9
      obtain ⟨m, hm, rfl, hB, s, hS, hN⟩ := hrel
      have HB := Lib.hid hB; have HS := Lib.hid hS; have HN := Lib.hid hN
      clear hB hS hN
      rename World => wr
      have m0 : (0 : Int) ≤ m := by omega
      obtain ⟨d, hd⟩ : ∃ d, (m : Int) - o.sl = d := ⟨_, rfl⟩
      have HD := Lib.hid hd
      have d0 : -o.sl ≤ d := by omega
      have d1 : d ≤ o.sl + 1 := by omega
      have kO6 : wr.cell? ⟨O, 6, none⟩ = some (.int .i64 o.sl) := row_cell (UO.out _ HB.out) 6
      rw [hd]
      by_cases hle : d ≤ o.sl
      · have hdd : decide (d ≤ o.sl) = true := by simp; omega
        have kO0 : wr.cell? ⟨O, 0, none⟩ = some (.int .i64 o.p) := row_cell (UO.out _ HB.out) 0
        have kO1 : wr.cell? ⟨O, 1, none⟩ = some (.int .i64 o.f) := row_cell (UO.out _ HB.out) 1
        have kO2 : wr.cell? ⟨O, 2, none⟩ = some (.int .i64 o.lo) := row_cell (UO.out _ HB.out) 2
        have kO3 : wr.cell? ⟨O, 3, none⟩ = some (.int .i64 o.hi) := row_cell (UO.out _ HB.out) 3
        have kO4 : wr.cell? ⟨O, 4, none⟩ = some (.int .i64 o.nd) := row_cell (UO.out _ HB.out) 4
        have kO5 : wr.cell? ⟨O, 5, none⟩ = some (.int .i64 o.tn) := row_cell (UO.out _ HB.out) 5
        go_wp2_with fail
        clear kO0 kO1 kO2 kO3 kO4 kO5 kO6
        (with_reducible refine (atS_yes o (i : Int) d (asked_iff.2 ⟨HO.out, ⟨by omega, by omega⟩, ⟨by omega, by omega⟩⟩) _).mono ?_)
        rintro e v10 ⟨rfl, hb⟩
        obtain ⟨c, hc⟩ : ∃ c, celO o ((i : Int) - d) = c := ⟨_, rfl⟩
        have HE := Lib.hid hc
        rw [hc]
        replace HS := Lib.hid (HS.out.next hb)
        replace HB := Lib.hid (HB.out.trans (hb.mono HB.out.size))
        have HCL := Lib.hid (show inB L c L.length = true from inB_all (by rw [← hc]; exact could_in HO.out HA.out (by omega) (by omega)))
        clear hb hc
        obtain ⟨x10, E, ex10, eb10, hbE, hkE⟩ := box1 v10 #[iV c.1.1, iV c.1.2] 38
        have HKE := Lib.hid (show BX x10 E #[iV c.1.1, iV c.1.2] 38 from hkE)
        have HQE := Lib.hid (show Q ≠ E from by have := (HS.out : BX v10 Q _ _).lt; omega)
        replace HS := Lib.hid (HS.out.next hbE)
        replace HB := Lib.hid (HB.out.trans (hbE.mono HB.out.size))
        clear hbE hkE
        go_wp2_with fail
        go_loopw [15, 16] (fun tv jv wr => ∃ j : Nat, j ≤ L.length ∧ jv = iV j ∧ tv = .bool (inB L c j) ∧ Below V9.heap.size V9 wr ∧ BX wr E #[iV c.1.1, iV c.1.2] 38 ∧ ∃ s, BX wr Q (bvs s) 52 ∧ Sn o (i : Int) L m s ∧ Sq L c j s) (fun _ jv _ => L.length - (intOf jv).toNat)
        case atStart => exact ⟨0, by omega, rfl, rfl, HB.out, HKE.out, _, HS.out, HN.out, sq_0 _ _ _⟩
        case round =>
          clear HB HKE HS HN ex10 eb10
          obtain ⟨j, hj, rfl, rfl, hB, hE, s, hS, hN, hQ⟩ := hrel
          have HB := Lib.hid hB; have HKE := Lib.hid hE; have HS := Lib.hid hS; have HN := Lib.hid hN; have HSQ := Lib.hid hQ
          clear hB hE hS hN hQ
          rename World => wr2
          have j0 : (0 : Int) ≤ j := by omega
          by_cases hlt : j < L.length
          · obtain ⟨x, hx⟩ : ∃ x, L[j]? = some x := ⟨_, List.getElem?_eq_getElem hlt⟩
            have HX := Lib.hid hx
            obtain ⟨lb1, hlb1, hlb, l0, l1⟩ := vc_at (UL.out _ HB.out) hx
            obtain rfl : lb = lb1 := by simpa using hlb1
            clear hlb1
            have HY := Lib.hid (inB_s (x := c) hx)
            have heq := run_eqK x c
            have hd2 : decide (j < L.length) = true := by simp; omega
            have j1 : (j : Int) < L.length := by omega
            have j2 : (j : Int) < 21 := by omega
            have hmin : min (j : Int) 20 = j := by omega
            have kE0 : wr2.cell? ⟨E, 0, none⟩ = some (iV c.1.1) := BX.cell HKE.out 0
            have kE1 : wr2.cell? ⟨E, 1, none⟩ = some (iV c.1.2) := BX.cell HKE.out 1
            clear hx hlb
            by_cases he : x = c
            · have hde : decide (x = c) = true := by simpa using he
              rw [hde] at heq HY
              clear hde
              go_wp2_with fail
              go_quiet (fail)
              obtain ⟨z, hz⟩ : ∃ z, wr2.drewN nq = z := ⟨_, rfl⟩
              have hbz : Below wr2.heap.size wr2 z := by rw [← hz]; exact below_dn nq
              have HZ := Lib.hid (show BX z Q (bvs s) 52 ∧ BX z E #[iV c.1.1, iV c.1.2] 38 ∧ Below V9.heap.size V9 z from ⟨BX.next HS.out hbz, BX.next HKE.out hbz, HB.out.trans (hbz.mono HB.out.size)⟩)
              rw [hz]
              have kQ : z.cell? ⟨Q, j, none⟩ = some (.bool (s j)) := (BX.cell HZ.out.1 j).trans (bvs_at s (by omega))
              have fQ : z.frozen? ⟨Q, j, none⟩ = false := BX.frozen HZ.out.1 j
              clear hz hbz l0 l1 kE0 kE1 heq
              go_wp2
              exact ⟨⟨j + 1, by omega, ret_i (by omega), by rw [HY.out, Bool.or_true], HZ.out.2.2.setCell (p := ⟨Q, j, none⟩) HQ.out _, BX.far HZ.out.2.1 (Ne.symm HQE.out) _, _, by rw [← bvs_set]; exact BX.put HZ.out.1 _, sn_upd HN.out j, sq_yes HSQ.out⟩, by simp [intOf]; omega⟩
            · have hde : decide (x = c) = false := by simpa using he
              rw [hde] at heq HY
              clear hde
              go_wp2_with fail
              go_quiet (fail)
              go_wp2
              exact ⟨⟨j + 1, by omega, ret_i (by omega), by rw [HY.out, Bool.or_false], HB.out.trans ((below_dn nq).mono HB.out.size), BX.next HKE.out (below_dn nq), s, BX.next HS.out (below_dn nq), HN.out, sq_no HSQ.out HX.out he⟩, by simp [intOf]; omega⟩
          · obtain rfl : j = L.length := by omega
            have hd2 : decide (L.length < L.length) = false := by simp
            rw [HCL.out]
            go_wp2
            exact ⟨⟨m + 1, by omega, ret_i (by have := HD.out; omega), HB.out, s, HS.out, sn_s HN.out (by rw [HD.out, HE.out]; exact HSQ.out)⟩, by simp [intOf]; have := HD.out; omega⟩
      · have hdd : decide (d ≤ o.sl) = false := by simp; omega
        have HALL := Lib.hid (fun (j : Nat) (x : Cel) (hx : L[j]? = some x) => sn_all HO.out HA.out (show 2 * o.sl < (m : Int) by have := HD.out; omega) HN.out hx)
        clear HN
        go_wp2_with fail
        go_loopw [17] (fun jv wr => ∃ j : Nat, j ≤ L.length ∧ jv = iV j ∧ Below V9.heap.size V9 wr ∧ BX wr Q (bvs s) 52) (fun jv _ => L.length - (intOf jv).toNat)
        case atStart => exact ⟨0, by omega, rfl, HB.out, HS.out⟩
        case round =>
          clear HB HS kO6
          obtain ⟨j, hj, rfl, hB, hS⟩ := hrel
          have HB := Lib.hid hB; have HS := Lib.hid hS
          clear hB hS
          rename World => wr2
          have j0 : (0 : Int) ≤ j := by omega
          by_cases hlt : j < L.length
          · obtain ⟨x, hx⟩ : ∃ x, L[j]? = some x := ⟨_, List.getElem?_eq_getElem hlt⟩
            have hs := HALL.out j x hx
            have kQ : wr2.cell? ⟨Q, j, none⟩ = some (.bool true) := by rw [← hs]; exact (BX.cell HS.out j).trans (bvs_at s (by omega))
            obtain ⟨lb1, hlb1, hlb, l0, l1⟩ := vc_at (UL.out _ HB.out) hx
            obtain rfl : lb = lb1 := by simpa using hlb1
            clear hlb1
            have hd2 : decide (j < L.length) = true := by simp; omega
            have j1 : (j : Int) < L.length := by omega
            have j2 : (j : Int) < 21 := by omega
            have hmin : min (j : Int) 20 = j := by omega
            clear hlb hs
            rcases Nat.eq_zero_or_pos j with hz | hz
            · subst hz
              clear hx
              replace hmin : min (0 : Int) 20 = 0 := by decide
              go_wp2_with fail
              refine wp_region_quiet_lit (by kernel_rfl) (by kernel_rfl) ?_
              iterate 4 go_big_quiet_step (fail)
              repeat (go_big_quiet_step (fail))
              refine wpQuiet_nil ?_
              intro _ hw'
              obtain ⟨nq, hw''⟩ := hw'
              subst hw''
              have hbz : Below wr2.heap.size wr2 (wr2.drewN nq) := below_dn nq
              go_wp2
              exact ⟨⟨1, by omega, rfl, HB.out.trans (hbz.mono HB.out.size), BX.next HS.out hbz⟩, by simp [intOf]; omega⟩
            · obtain ⟨q, rfl⟩ : ∃ q, j = q + 1 := ⟨j - 1, by omega⟩
              obtain ⟨y, hy⟩ : ∃ y, L[q]? = some y := ⟨_, List.getElem?_eq_getElem (by omega)⟩
              have hso := srt_at HA.out.1 hy hx
              obtain ⟨lb1, hlb1, hlb, p0, p1⟩ := vc_at (UL.out _ HB.out) hy
              obtain rfl : lb = lb1 := by simpa using hlb1
              replace hmin : min ((q : Int) + 1) 20 = (q : Int) + 1 := by omega
              have q0 : (0 : Int) ≤ q := by omega
              have q1 : (q : Int) + 1 < L.length := by omega
              have q2 : (q : Int) < L.length := by omega
              have q3 : (q : Int) + 1 < 21 := by omega
              have g1 : decide ((20 : Int) < (q : Int) + 1) = false := decide_eq_false (by omega)
              have g2 : decide ((0 : Int) < (q : Int) + 1) = true := decide_eq_true (by omega)
              clear hlb1 hlb hy hx hz
              rcases hso with hso | ⟨hso, hso2⟩
              · have e1 : decide (x.1.2 < y.1.2) = false := by simp; omega
                have e2 : ((x.1.2 : Int) == (y.1.2 : Int)) = false := by rw [beq_eq_false_iff_ne]; omega
                have e3 : decide ((x.1.2 : Int) < (y.1.2 : Int)) = false := by simp; omega
                clear hso
                go_wp2_with fail
                refine wp_region_quiet_lit (by kernel_rfl) (by kernel_rfl) ?_
                iterate 4 go_big_quiet_step (fail)
                repeat (go_big_quiet_step (fail))
                refine wpQuiet_nil ?_
                intro _ hw'
                obtain ⟨nq, hw''⟩ := hw'
                subst hw''
                have hbz : Below wr2.heap.size wr2 (wr2.drewN nq) := below_dn nq
                go_wp2
                exact ⟨⟨q + 2, by omega, ret_i (by omega), HB.out.trans (hbz.mono HB.out.size), BX.next HS.out hbz⟩, by simp [intOf]; omega⟩
              · have e1 : decide (x.1.2 < y.1.2) = false := by simp; omega
                have e3 : decide ((x.1.2 : Int) < (y.1.2 : Int)) = false := by simp; omega
                have e2 : ((x.1.2 : Int) == (y.1.2 : Int)) = true := by rw [beq_iff_eq]; omega
                have e4 : decide (x.1.1 ≤ y.1.1) = false := by simp; omega
                have e5 : decide ((x.1.1 : Int) ≤ (y.1.1 : Int)) = false := by simp; omega
                clear hso hso2
                go_wp2_with fail
                refine wp_region_quiet_lit (by kernel_rfl) (by kernel_rfl) ?_
                iterate 4 go_big_quiet_step (fail)
                repeat (go_big_quiet_step (fail))
                refine wpQuiet_nil ?_
                intro _ hw'
                obtain ⟨nq, hw''⟩ := hw'
                subst hw''
                have hbz : Below wr2.heap.size wr2 (wr2.drewN nq) := below_dn nq
                go_wp2
                exact ⟨⟨q + 2, by omega, ret_i (by omega), HB.out.trans (hbz.mono HB.out.size), BX.next HS.out hbz⟩, by simp [intOf]; omega⟩
          · obtain rfl : j = L.length := by omega
            have hd2 : decide (L.length < L.length) = false := by simp
            have HU' := Lib.hid (HU.out.next HB.out)
            have UO' := Lib.hid (UO.out.next HB.out)
            clear HB HS HALL HU UO
            have HU := HU'; have UO := UO'
            clear HU' UO'
            have kO0 : wr2.cell? ⟨O, 0, none⟩ = some (.int .i64 o.p) := row_cell UO.out.now 0
            have kO1 : wr2.cell? ⟨O, 1, none⟩ = some (.int .i64 o.f) := row_cell UO.out.now 1
            have kO2 : wr2.cell? ⟨O, 2, none⟩ = some (.int .i64 o.lo) := row_cell UO.out.now 2
            have kO3 : wr2.cell? ⟨O, 3, none⟩ = some (.int .i64 o.hi) := row_cell UO.out.now 3
            have kO4 : wr2.cell? ⟨O, 4, none⟩ = some (.int .i64 o.nd) := row_cell UO.out.now 4
            have kO5 : wr2.cell? ⟨O, 5, none⟩ = some (.int .i64 o.tn) := row_cell UO.out.now 5
            have kO6 : wr2.cell? ⟨O, 6, none⟩ = some (.int .i64 o.sl) := row_cell UO.out.now 6
            obtain ⟨x12, K, ex12, eb12, hb, hk⟩ := box1 wr2 #[.int .i64 o.p, .int .i64 o.f, .int .i64 o.lo, .int .i64 o.hi, .int .i64 o.nd, .int .i64 o.tn, .int .i64 o.sl] 24
            obtain ⟨y12, ey12⟩ : ∃ y, x12.setCell ⟨K, 6, none⟩ (.int .i64 0) = y := ⟨_, rfl⟩
            have hbY : Below wr2.heap.size wr2 y12 := by rw [← ey12]; exact hb.setCell (p := ⟨K, 6, none⟩) (by show wr2.heap.size ≤ K; omega) _
            have hkY : BX y12 K #[.int .i64 o.p, .int .i64 o.f, .int .i64 o.lo, .int .i64 o.hi, .int .i64 o.nd, .int .i64 o.tn, .int .i64 0] 24 := by rw [← ey12]; exact BX.put hk _
            have fa12 : x12.cell? ⟨K, 6, none⟩ = some (.int .i64 o.sl) := row_cell hk 6
            have fb12 : x12.frozen? ⟨K, 6, none⟩ = false := frozen_of_row x12 K 6 _ _ hk
            replace HU := Lib.hid (HU.out.next hbY)
            replace UO := Lib.hid (UO.out.next hbY)
            have UK := Lib.hid (up_vr hkY : Up y12 (VR K #[.int .i64 o.p, .int .i64 o.f, .int .i64 o.lo, .int .i64 o.hi, .int .i64 o.nd, .int .i64 o.tn, .int .i64 0] 24))
            clear hb hk hbY hkY
            have kK0 : y12.cell? ⟨K, 0, none⟩ = some (.int .i64 o.p) := row_cell UK.out.now 0
            have kK1 : y12.cell? ⟨K, 1, none⟩ = some (.int .i64 o.f) := row_cell UK.out.now 1
            have kK2 : y12.cell? ⟨K, 2, none⟩ = some (.int .i64 o.lo) := row_cell UK.out.now 2
            have kK3 : y12.cell? ⟨K, 3, none⟩ = some (.int .i64 o.hi) := row_cell UK.out.now 3
            have kK4 : y12.cell? ⟨K, 4, none⟩ = some (.int .i64 o.nd) := row_cell UK.out.now 4
            have kK5 : y12.cell? ⟨K, 5, none⟩ = some (.int .i64 o.tn) := row_cell UK.out.now 5
            have kK6 : y12.cell? ⟨K, 6, none⟩ = some (.int .i64 0) := row_cell UK.out.now 6
            go_wp2_with fail
            clear kO0 kO1 kO2 kO3 kO4 kO5 kO6 ex12 eb12 ey12 fa12 fb12 kK0 kK1 kK2 kK3 kK4 kK5 kK6
            (with_reducible refine (CK.out _).mono ?_)
            rintro e v13 ⟨b, hcb, rfl, hb⟩
            replace HU := Lib.hid (HU.out.next hb)
            replace UO := Lib.hid (UO.out.next hb)
            replace UK := Lib.hid (UK.out.next hb)
            obtain rfl := calm_one HO.out hcb
            clear hcb
            clear hb
            obtain ⟨c, hc⟩ : ∃ c, celO o (i : Int) = c := ⟨_, rfl⟩
            have HE := Lib.hid hc
            rw [show mustV [celO o (i : Int)] = .tuple #[KV c, .bool true] from by rw [hc]; rfl]
            clear hc
            obtain ⟨x14, P, ex14, eb14, hb, hk⟩ := box1 v13 #[iV c.1.1, iV c.1.2] 38
            replace HU := Lib.hid (HU.out.next hb)
            replace UO := Lib.hid (UO.out.next hb)
            replace UK := Lib.hid (UK.out.next hb)
            have UP := Lib.hid (up_vr hk : Up x14 (VR P #[iV c.1.1, iV c.1.2] 38))
            clear hb hk
            have kO0 : x14.cell? ⟨O, 0, none⟩ = some (.int .i64 o.p) := row_cell UO.out.now 0
            have kO1 : x14.cell? ⟨O, 1, none⟩ = some (.int .i64 o.f) := row_cell UO.out.now 1
            have kO2 : x14.cell? ⟨O, 2, none⟩ = some (.int .i64 o.lo) := row_cell UO.out.now 2
            have kO3 : x14.cell? ⟨O, 3, none⟩ = some (.int .i64 o.hi) := row_cell UO.out.now 3
            have kO4 : x14.cell? ⟨O, 4, none⟩ = some (.int .i64 o.nd) := row_cell UO.out.now 4
            have kO5 : x14.cell? ⟨O, 5, none⟩ = some (.int .i64 o.tn) := row_cell UO.out.now 5
            have kO6 : x14.cell? ⟨O, 6, none⟩ = some (.int .i64 o.sl) := row_cell UO.out.now 6
            go_wp2_with fail
            clear ex14 eb14 kO0 kO1 kO2 kO3 kO4 kO5 kO6
            (with_reducible refine (atA o HO.out (i : Int) (by omega) (by omega) _).mono ?_)
            rintro e v15 ⟨rfl, hb⟩
            replace HU := Lib.hid (HU.out.next hb)
            replace UO := Lib.hid (UO.out.next hb)
            replace UK := Lib.hid (UK.out.next hb)
            replace UP := Lib.hid (UP.out.next hb)
            clear hb
            rw [HE.out]
            obtain ⟨x16, R, ex16, eb16, hb, hk⟩ := box1 v15 #[iV c.1.1, iV c.1.2] 38
            replace HU := Lib.hid (HU.out.next hb)
            replace UO := Lib.hid (UO.out.next hb)
            replace UK := Lib.hid (UK.out.next hb)
            replace UP := Lib.hid (UP.out.next hb)
            have UR := Lib.hid (up_vr hk : Up x16 (VR R #[iV c.1.1, iV c.1.2] 38))
            clear hb hk
            have kP0 : x16.cell? ⟨P, 0, none⟩ = some (iV c.1.1) := row_cell UP.out.now 0
            have kP1 : x16.cell? ⟨P, 1, none⟩ = some (iV c.1.2) := row_cell UP.out.now 1
            have kR0 : x16.cell? ⟨R, 0, none⟩ = some (iV c.1.1) := row_cell UR.out.now 0
            have kR1 : x16.cell? ⟨R, 1, none⟩ = some (iV c.1.2) := row_cell UR.out.now 1
            have heq := run_eqK c c
            rw [decide_eq_true (rfl : c = c)] at heq
            go_wp2
            all_goals
              go_ret
              exact ⟨rfl, HU.out.now⟩
end Go.Proofs.Ytdomgielpofbhaa
