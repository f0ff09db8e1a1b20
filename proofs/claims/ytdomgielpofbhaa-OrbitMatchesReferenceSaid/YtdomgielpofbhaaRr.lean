/- The reference's Row, Column and At. -/
import Derived.Test.YtdomgielpofbhaaRv
namespace Go.Proofs.Ytdomgielpofbhaa
open Go.RowKit Go.Shelf
set_option linter.unusedSimpArgs false
set_option linter.unusedVariables false
set_option maxRecDepth 100000 in
set_option maxHeartbeats 1000000 in
theorem rrow_no (o : Orb) (t late : Int) (h : asked o t late = false) (w : World) :
    Calls Try.prog 16 #[OV o, .int .i64 t, .int .i64 late] w (OutV w (.tuple #[.int .i64 0, .int .i64 70])) := by
  obtain ⟨V, B, hV, hBn, hb, hk⟩ := box1 w (OC o) 24
  have HP := Lib.hid (show BX V B (OC o) 24 from hk)
  have HB := Lib.hid hb
  have CQ := Lib.hid (fun W => rasked_any o t late W)
  have c0 := BX.cell HP.out 0; have c1 := BX.cell HP.out 1; have c2 := BX.cell HP.out 2; have c3 := BX.cell HP.out 3; have c4 := BX.cell HP.out 4; have c5 := BX.cell HP.out 5; have c6 := BX.cell HP.out 6
  clear hb hk
  go_enter Try.func16, Try.ntmps16
  go_wp2_with fail
  (with_reducible refine (CQ.out _).mono ?_)
  rintro e w1 ⟨rfl, hb1⟩
  replace HB := Lib.hid (below_tr HB.out hb1)
  replace HP := Lib.hid (BX.next HP.out hb1)
  clear hb1 c0 c1 c2 c3 c4 c5 c6 hV
  go_wp2
  go_ret2
  exact ⟨rfl, HB.out⟩
set_option maxRecDepth 100000 in
set_option maxHeartbeats 1000000 in
theorem rcol_no (o : Orb) (t late : Int) (h : asked o t late = false) (w : World) :
    Calls Try.prog 18 #[OV o, .int .i64 t, .int .i64 late] w (OutV w (.tuple #[.int .i64 0, .int .i64 70])) := by
  obtain ⟨V, B, hV, hBn, hb, hk⟩ := box1 w (OC o) 24
  have HP := Lib.hid (show BX V B (OC o) 24 from hk)
  have HB := Lib.hid hb
  have CQ := Lib.hid (fun W => rasked_any o t late W)
  have c0 := BX.cell HP.out 0; have c1 := BX.cell HP.out 1; have c2 := BX.cell HP.out 2; have c3 := BX.cell HP.out 3; have c4 := BX.cell HP.out 4; have c5 := BX.cell HP.out 5; have c6 := BX.cell HP.out 6
  clear hb hk
  go_enter Try.func18, Try.ntmps18
  go_wp2_with fail
  (with_reducible refine (CQ.out _).mono ?_)
  rintro e w1 ⟨rfl, hb1⟩
  replace HB := Lib.hid (below_tr HB.out hb1)
  replace HP := Lib.hid (BX.next HP.out hb1)
  clear hb1 c0 c1 c2 c3 c4 c5 c6 hV
  go_wp2
  go_ret2
  exact ⟨rfl, HB.out⟩
set_option maxRecDepth 100000 in
set_option maxHeartbeats 2000000 in
theorem rcol_yes (o : Orb) (t late : Int) (h : asked o t late = true) (w : World) :
    Calls Try.prog 18 #[OV o, .int .i64 t, .int .i64 late] w (OutV w (.tuple #[.int .i64 (colZ o (t - late)), .int .i64 0])) := by
  obtain ⟨ho, ⟨t0, t1⟩, ⟨l0, l1⟩⟩ := asked_iff.1 h
  obtain ⟨V, B, hV, hBn, hb, hk⟩ := box1 w (OC o) 24
  have HP := Lib.hid (show BX V B (OC o) 24 from hk)
  have HB := Lib.hid hb
  have CQ := Lib.hid (fun W => rasked_any o t late W)
  have c0 := BX.cell HP.out 0; have c1 := BX.cell HP.out 1; have c2 := BX.cell HP.out 2; have c3 := BX.cell HP.out 3; have c4 := BX.cell HP.out 4; have c5 := BX.cell HP.out 5; have c6 := BX.cell HP.out 6
  clear hb hk
  obtain ⟨m, hm⟩ : ∃ m, t - late = m := ⟨_, rfl⟩
  have hq : -4000000000 ≤ o.tn * m ∧ o.tn * m ≤ 4000000000 := by
    unfold okO at ho
    have h1 : -2000 ≤ o.tn := by omega
    have h2 : o.tn ≤ 2000 := by omega
    by_cases hs : 0 ≤ m
    · have a := Int.mul_le_mul_of_nonneg_right h1 hs
      have b := Int.mul_le_mul_of_nonneg_right h2 hs
      omega
    · have a := Int.mul_le_mul_of_nonpos_right h1 (show m ≤ 0 by omega)
      have b := Int.mul_le_mul_of_nonpos_right h2 (show m ≤ 0 by omega)
      omega
  obtain ⟨q, hq'⟩ : ∃ q, o.tn * m = q := ⟨_, rfl⟩
  rw [hq'] at hq
  obtain ⟨q0, q1⟩ := hq
  have n0 : 0 ≤ o.nd := by unfold okO at ho; omega
  have n1 : o.nd < 48000 := by unfold okO at ho; omega
  have CA := Lib.hid (fun W => raround_any (o.nd + q) 48000 (by omega) (by omega) (by omega) (by omega) W)
  rw [hm]
  have HE := Lib.hid (show (o.nd + q) % 48000 = colZ o m from by unfold colZ; rw [hq'])
  clear ho
  go_enter Try.func18, Try.ntmps18
  go_wp2_with fail
  (with_reducible refine (CQ.out _).mono ?_)
  rintro e w1 ⟨rfl, hb1⟩
  replace HB := Lib.hid (below_tr HB.out hb1)
  replace HP := Lib.hid (BX.next HP.out hb1)
  clear hb1 c0 c1 c2 c3 c4 c5 c6 hV
  have d4 := BX.cell HP.out 4; have d5 := BX.cell HP.out 5
  go_wp2_with fail
  (with_reducible refine (CA.out _).mono ?_)
  rintro e w2 ⟨rfl, rfl⟩
  clear hq' hm
  rw [HE.out]
  go_wp2
  go_ret2
  exact ⟨rfl, HB.out⟩
set_option maxRecDepth 100000 in
set_option maxHeartbeats 2000000 in
theorem rrow_yes (o : Orb) (t late : Int) (h : asked o t late = true) (w : World) :
    Calls Try.prog 16 #[OV o, .int .i64 t, .int .i64 late] w (OutV w (.tuple #[.int .i64 (rowZ o (t - late)), .int .i64 0])) := by
  obtain ⟨ho, ⟨t0, t1⟩, ⟨l0, l1⟩⟩ := asked_iff.1 h
  obtain ⟨V, B, hV, hBn, hb, hk⟩ := box1 w (OC o) 24
  have HP := Lib.hid (show BX V B (OC o) 24 from hk)
  have HB := Lib.hid hb
  have CQ := Lib.hid (fun W => rasked_any o t late W)
  have c0 := BX.cell HP.out 0; have c1 := BX.cell HP.out 1; have c2 := BX.cell HP.out 2; have c3 := BX.cell HP.out 3; have c4 := BX.cell HP.out 4; have c5 := BX.cell HP.out 5; have c6 := BX.cell HP.out 6
  clear hb hk
  obtain ⟨m, hm⟩ : ∃ m, t - late = m := ⟨_, rfl⟩
  rw [hm]
  have HU := Lib.hid (u_bd ho m)
  have HS := Lib.hid (up_bd ho m)
  have HV := Lib.hid (v_bd ho m)
  have HR := Lib.hid (show o.lo + (o.hi - o.lo) * 2 * vZ o m / o.p = rowZ o m from rfl)
  unfold okO at ho
  obtain ⟨hp2, p0, p1, f0, f1, lo0, lohi, hi1, -⟩ := ho
  have m0 : -10 ≤ m := by omega
  have m1 : m ≤ 1000010 := by omega
  have f2 : o.f < 2000 := by omega
  have CA := Lib.hid (fun W => raround_any (m + o.f) o.p (by omega) (by omega) (by omega) (by omega) W)
  have HE := Lib.hid (show (m + o.f) % o.p = uZ o m ∧ min (uZ o m) (o.p - uZ o m) = vZ o m from ⟨rfl, rfl⟩)
  clear hp2
  go_enter Try.func16, Try.ntmps16
  go_wp2_with fail
  (with_reducible refine (CQ.out _).mono ?_)
  rintro e w1 ⟨rfl, hb1⟩
  replace HB := Lib.hid (below_tr HB.out hb1)
  replace HP := Lib.hid (BX.next HP.out hb1)
  clear hb1 c0 c1 c2 c3 c4 c5 c6 hV
  have d0 := BX.cell HP.out 0; have d1 := BX.cell HP.out 1; have d2 := BX.cell HP.out 2; have d3 := BX.cell HP.out 3
  go_wp2_with fail
  (with_reducible refine (CA.out _).mono ?_)
  rintro e w2 ⟨rfl, rfl⟩
  rw [HE.out.1]
  have u0 := HU.out.1
  have u1 := HU.out.2
  have hmin := HE.out.2
  have v0 := HV.out.1
  have v1 : vZ o m ≤ 1000 := by have := HV.out.2; omega
  generalize uZ o m = u at *
  generalize vZ o m = v at *
  clear hm
  go_wp2_with fail
  clear hmin
  obtain ⟨D, hD⟩ : ∃ D, o.hi - o.lo = D := ⟨_, rfl⟩
  rw [hD] at HS HR
  have D0 : 0 ≤ D := by omega
  have D1 : D < 24000 := by omega
  have h0 : 0 ≤ o.hi := by omega
  have lo1 : o.lo < 24000 := by omega
  obtain ⟨S, hS⟩ : ∃ S, D * 2 * v = S := ⟨_, rfl⟩
  rw [hS] at HS HR
  have s0 := HS.out.1
  have s1 := HS.out.2.1
  have q0 := HS.out.2.2.1
  have q1 := HS.out.2.2.2
  obtain ⟨Q, hQ⟩ : ∃ Q, S / o.p = Q := ⟨_, rfl⟩
  rw [hQ] at q0 q1 HR
  have hpz : ¬ o.p = 0 := by omega
  go_quiet (fail)
  go_wp2
  go_ret2
  refine ⟨?_, HB.out.trans (below_dn nq)⟩
  rw [← HR.out]
  rfl
set_option maxRecDepth 100000 in
set_option maxHeartbeats 2000000 in
theorem rat_yes (o : Orb) (t late : Int) (h : asked o t late = true) (w : World) :
    Calls Try.prog 20 #[OV o, .int .i64 t, .int .i64 late] w (OutV w (.tuple #[KV (celO o (t - late)), .int .i64 0])) := by
  have CR := Lib.hid (fun W => rrow_yes o t late h W)
  have CC := Lib.hid (fun W => rcol_yes o t late h W)
  obtain ⟨V, B, hV, hBn, hb, hk⟩ := box1 w (OC o) 24
  obtain ⟨X, C, hX, hCn, hb2, hk2⟩ := box1 V #[.int .i64 0, .int .i64 0] 38
  have HN := Lib.hid (show w.heap.size ≤ C from by have := hb.size; omega)
  have HP := Lib.hid (show BX X B (OC o) 24 from BX.next hk hb2)
  have HC := Lib.hid (show BX X C #[.int .i64 0, .int .i64 0] 38 from hk2)
  have HB := Lib.hid (below_tr hb hb2)
  have c0 := BX.cell HP.out 0; have c1 := BX.cell HP.out 1; have c2 := BX.cell HP.out 2; have c3 := BX.cell HP.out 3; have c4 := BX.cell HP.out 4; have c5 := BX.cell HP.out 5; have c6 := BX.cell HP.out 6
  clear hb hk hb2 hk2
  have ho := (asked_iff.1 h).1
  obtain ⟨m, hm⟩ : ∃ m, t - late = m := ⟨_, rfl⟩
  rw [hm] at CR CC
  rw [hm]
  have HX := Lib.hid (cel_x o m)
  have HY := Lib.hid (cel_y ho m)
  obtain ⟨ca, cb⟩ := col_bd o m
  obtain ⟨ra, rb⟩ := row_24 ho m
  generalize colZ o m = cz at *
  generalize rowZ o m = rz at *
  clear ho hm
  clear h
  go_enter Try.func20, Try.ntmps20
  go_wp2_with fail
  (with_reducible refine (CR.out _).mono ?_)
  rintro e w1 ⟨rfl, hb⟩
  replace HB := Lib.hid (below_tr HB.out hb)
  replace HC := Lib.hid (BX.next HC.out hb)
  replace HP := Lib.hid (BX.next HP.out hb)
  clear hb c0 c1 c2 c3 c4 c5 c6 hV hX
  have d0 := BX.cell HP.out 0; have d1 := BX.cell HP.out 1; have d2 := BX.cell HP.out 2; have d3 := BX.cell HP.out 3; have d4 := BX.cell HP.out 4; have d5 := BX.cell HP.out 5; have d6 := BX.cell HP.out 6
  go_wp2_with fail
  (with_reducible refine (CC.out _).mono ?_)
  rintro e w2 ⟨rfl, hb⟩
  replace HB := Lib.hid (below_tr HB.out hb)
  replace HC := Lib.hid (BX.next HC.out hb)
  clear hb d0 d1 d2 d3 d4 d5 d6
  have k0 := BX.cell HC.out 0; have k1 := BX.cell HC.out 1; have k2 := BX.frozen HC.out 0; have k3 := BX.frozen HC.out 1
  go_wp2
  have x1 : cz / 1000 = ((celO o m).1.1 : Int) := HX.out.symm
  have y1 : rz / 1000 = ((celO o m).1.2 : Int) := HY.out.symm
  rw [x1, y1]
  obtain ⟨Z, hZ⟩ : ∃ Z, (w2.setCell ⟨C, 0, none⟩ (iV (celO o m).1.1)).setCell ⟨C, 1, none⟩ (iV (celO o m).1.2) = Z := ⟨_, rfl⟩
  have hz1 : BX Z C #[(iV (celO o m).1.1), (iV (celO o m).1.2)] 38 := by rw [← hZ]; exact BX.put (BX.put HC.out _) _
  have hz2 : Below w.heap.size w Z := by rw [← hZ]; exact (HB.out.setCell (p := ⟨C, 0, none⟩) HN.out _).setCell (p := ⟨C, 1, none⟩) HN.out _
  rw [hZ]
  exact bodyPost_ret (results_row_tmp rfl _ _ C 38 _ (0, 0) _ rfl hz1 Try.underlying38 rfl sizeCell _ rfl) rfl ⟨rfl, hz2⟩
set_option maxRecDepth 100000 in
set_option maxHeartbeats 2000000 in
theorem rat_no (o : Orb) (t late : Int) (h : asked o t late = false) (w : World) :
    Calls Try.prog 20 #[OV o, .int .i64 t, .int .i64 late] w (OutV w (.tuple #[CV 0 0, .int .i64 70])) := by
  have CR := Lib.hid (fun W => rrow_no o t late h W)
  have CC := Lib.hid (fun W => rcol_no o t late h W)
  obtain ⟨V, B, hV, hBn, hb, hk⟩ := box1 w (OC o) 24
  obtain ⟨X, C, hX, hCn, hb2, hk2⟩ := box1 V #[.int .i64 0, .int .i64 0] 38
  have HN := Lib.hid (show w.heap.size ≤ C from by have := hb.size; omega)
  have HP := Lib.hid (show BX X B (OC o) 24 from BX.next hk hb2)
  have HC := Lib.hid (show BX X C #[.int .i64 0, .int .i64 0] 38 from hk2)
  have HB := Lib.hid (below_tr hb hb2)
  have c0 := BX.cell HP.out 0; have c1 := BX.cell HP.out 1; have c2 := BX.cell HP.out 2; have c3 := BX.cell HP.out 3; have c4 := BX.cell HP.out 4; have c5 := BX.cell HP.out 5; have c6 := BX.cell HP.out 6
  clear hb hk hb2 hk2
  clear h
  go_enter Try.func20, Try.ntmps20
  go_wp2_with fail
  (with_reducible refine (CR.out _).mono ?_)
  rintro e w1 ⟨rfl, hb⟩
  replace HB := Lib.hid (below_tr HB.out hb)
  replace HC := Lib.hid (BX.next HC.out hb)
  replace HP := Lib.hid (BX.next HP.out hb)
  clear hb c0 c1 c2 c3 c4 c5 c6 hV hX
  have d0 := BX.cell HP.out 0; have d1 := BX.cell HP.out 1; have d2 := BX.cell HP.out 2; have d3 := BX.cell HP.out 3; have d4 := BX.cell HP.out 4; have d5 := BX.cell HP.out 5; have d6 := BX.cell HP.out 6
  go_wp2_with fail
  (with_reducible refine (CC.out _).mono ?_)
  rintro e w2 ⟨rfl, hb⟩
  replace HB := Lib.hid (below_tr HB.out hb)
  replace HC := Lib.hid (BX.next HC.out hb)
  clear hb d0 d1 d2 d3 d4 d5 d6
  have k0 := BX.cell HC.out 0; have k1 := BX.cell HC.out 1; have k2 := BX.frozen HC.out 0; have k3 := BX.frozen HC.out 1
  go_wp2
  obtain ⟨Z, hZ⟩ : ∃ Z, (w2.setCell ⟨C, 0, none⟩ (iZ 0)).setCell ⟨C, 1, none⟩ (iZ 0) = Z := ⟨_, rfl⟩
  have hz1 : BX Z C #[(iZ 0), (iZ 0)] 38 := by rw [← hZ]; exact BX.put (BX.put HC.out _) _
  have hz2 : Below w.heap.size w Z := by rw [← hZ]; exact (HB.out.setCell (p := ⟨C, 0, none⟩) HN.out _).setCell (p := ⟨C, 1, none⟩) HN.out _
  rw [hZ]
  exact bodyPost_ret (results_row_tmp rfl _ _ C 38 _ (0, 0) _ rfl hz1 Try.underlying38 rfl sizeCell _ rfl) rfl ⟨rfl, hz2⟩
end Go.Proofs.Ytdomgielpofbhaa
