/- OrbitTracks, walked. -/
import Derived.Test.YtdomgielpofbhaaLt
namespace Go.Proofs.Ytdomgielpofbhaa
open Go.RowKit Go.Shelf Go.Maps
set_option linter.unusedSimpArgs false
set_option linter.unusedVariables false
set_option maxRecDepth 100000 in
set_option maxHeartbeats 4000000 in
theorem tracks_any (z0 z1 z2 z3 z4 z5 z6 : Int) (r : I64 z0 ∧ I64 z1 ∧ I64 z2 ∧ I64 z3 ∧ I64 z4 ∧ I64 z5 ∧ I64 z6) (t lg pt lt : Int) (t0 : -9223372036854775808 ≤ t) (t1 : t ≤ 9223372036854775807) (lg0 : -9223372036854775808 ≤ lg) (lg1 : lg ≤ 9223372036854775807) (pt0 : -9223372036854775808 ≤ pt) (pt1 : pt ≤ 9223372036854775807) (lt0 : -9223372036854775808 ≤ lt) (lt1 : lt ≤ 9223372036854775807) (w : World) :
    Calls Try.prog 8 #[X7 z0 z1 z2 z3 z4 z5 z6, .int .i64 t, .int .i64 lg, .int .i64 pt, .int .i64 lt] w (OutV w (.bool true)) := by
  have HU := Lib.hid (up_vb w)
  obtain ⟨o, ho, hs3, CM⟩ := madeV z0 z1 z2 z3 z4 z5 z6 r
  obtain ⟨i, hi, Ci⟩ := lpV t t0 t1 5000 (by decide) (by decide) 5000 rfl
  have HM := Lib.hid CM
  have HPi := Lib.hid Ci
  have HO := Lib.hid ho
  obtain ⟨⟨p0, p1⟩, ⟨f0, f1⟩, ⟨lo0, lo1⟩, ⟨hi0, hi1⟩, ⟨nd0, nd1⟩, ⟨tn0, tn1⟩, ⟨sl0, sl1⟩⟩ := okO_bd ho
  have i0 : (0 : Int) ≤ i := by omega
  have i1 : (i : Int) < 5000 := by omega
  obtain ⟨k, hk, CK⟩ := lpS lg lg0 lg1 60 (by decide) (by decide)
  obtain ⟨T, hT⟩ : ∃ T : Int, (i : Int) + (k : Int) = T := ⟨_, rfl⟩
  obtain ⟨q, hq, CQ⟩ := lpS pt pt0 pt1 (T - (i : Int) + 1) (by omega) (by omega)
  obtain ⟨M, hM⟩ : ∃ M : Int, (i : Int) + (q : Int) = M := ⟨_, rfl⟩
  obtain ⟨d, hd, CD⟩ := lpV lt lt0 lt1 21 (by decide) (by decide) 21 rfl
  obtain ⟨D, hD⟩ : ∃ D : Int, (d : Int) - 10 = D := ⟨_, rfl⟩
  have d0 : (0 : Int) ≤ d := by omega
  have d1 : (d : Int) < 21 := by omega
  have D0 : -10 ≤ D := by omega
  have D1 : D ≤ 10 := by omega
  have k0 : (0 : Int) ≤ k := by omega
  have q0 : (0 : Int) ≤ q := by omega
  have M0 : (i : Int) ≤ M := by omega
  have M1 : M ≤ T := by omega
  have T1 : T < 5060 := by omega
  have TL := fun W => track_yes o (i : Int) T D ho (trkOK_iff.2 ⟨⟨by omega, by omega⟩, ⟨by omega, by omega⟩, ⟨by omega, by omega⟩, by omega, by omega⟩) W
  have TA := fun W => track_yes o (i : Int) M D ho (trkOK_iff.2 ⟨⟨by omega, by omega⟩, ⟨by omega, by omega⟩, ⟨by omega, by omega⟩, by omega, by omega⟩) W
  have TB := fun W => track_yes o M T D ho (trkOK_iff.2 ⟨⟨by omega, by omega⟩, ⟨by omega, by omega⟩, ⟨by omega, by omega⟩, by omega, by omega⟩) W
  have HAB : trk o ((i : Int) - D) (T - (i : Int)).toNat = trk o ((i : Int) - D) (M - (i : Int)).toNat ++ trk o (M - D) (T - M).toNat := by
    have e := trk_app o ((i : Int) - D) (M - (i : Int)).toNat (T - M).toNat
    rw [show (M - (i : Int)).toNat + (T - M).toNat = (T - (i : Int)).toNat by omega, show (i : Int) - D + ((M - (i : Int)).toNat : Int) = M - D by omega] at e
    exact e
  have HEA : ∀ (j : Nat) x, (trk o ((i : Int) - D) (T - (i : Int)).toNat)[j]? = some x → celO o ((i : Int) + (j : Int) - D) = x := by
    intro j x h
    have hj : j < (T - (i : Int)).toNat := by have := (List.getElem?_eq_some_iff.1 h).1; rwa [trk_len] at this
    rw [trk_at o _ hj] at h
    rw [← Option.some.inj h]
    congr 1
    omega
  have HLL := trk_len' o ((i : Int) - D) (show (i : Int) ≤ T by omega)
  have HLA := trk_len' o ((i : Int) - D) (show (i : Int) ≤ M by omega)
  obtain ⟨L, hL⟩ : ∃ L, trk o ((i : Int) - D) (T - (i : Int)).toNat = L := ⟨_, rfl⟩
  obtain ⟨A, hA⟩ : ∃ A, trk o ((i : Int) - D) (M - (i : Int)).toNat = A := ⟨_, rfl⟩
  obtain ⟨B, hB⟩ : ∃ B, trk o (M - D) (T - M).toNat = B := ⟨_, rfl⟩
  rw [hL] at TL HAB HEA HLL
  rw [hA] at TA HAB HLA
  rw [hB] at TB HAB
  replace TL := Lib.hid TL; replace TA := Lib.hid TA; replace TB := Lib.hid TB
  replace HAB := Lib.hid HAB; replace HEA := Lib.hid HEA; replace HLA := Lib.hid HLA
  have HT := Lib.hid hT; have HMM := Lib.hid hM; have HD := Lib.hid hD
  have HK := Lib.hid CK; have HQ := Lib.hid CQ; have HPD := Lib.hid CD
  clear CM Ci CK CQ CD ho hi t0 t1 lg0 lg1 pt0 pt1 lt0 lt1 r hT hM hD hL hA hB
  obtain ⟨x1, X, ex1, eb1, hb, hk⟩ := box1 w #[.int .i64 z0, .int .i64 z1, .int .i64 z2, .int .i64 z3, .int .i64 z4, .int .i64 z5, .int .i64 z6] 22
  replace HU := Lib.hid (HU.out.next hb)
  have UX := Lib.hid (up_vr hk : Up x1 (VR X #[.int .i64 z0, .int .i64 z1, .int .i64 z2, .int .i64 z3, .int .i64 z4, .int .i64 z5, .int .i64 z6] 22))
  clear hb hk
  go_enter Try.func8, Try.ntmps8
  go_wp2_with fail
  clear ex1 eb1
  (with_reducible refine (sane_any _).mono ?_)
  rintro e v2 ⟨rfl, hb⟩
  replace HU := Lib.hid (HU.out.next hb)
  replace UX := Lib.hid (UX.out.next hb)
  clear hb
  have kX0 : v2.cell? ⟨X, 0, none⟩ = some (.int .i64 z0) := row_cell UX.out.now 0
  have kX1 : v2.cell? ⟨X, 1, none⟩ = some (.int .i64 z1) := row_cell UX.out.now 1
  have kX2 : v2.cell? ⟨X, 2, none⟩ = some (.int .i64 z2) := row_cell UX.out.now 2
  have kX3 : v2.cell? ⟨X, 3, none⟩ = some (.int .i64 z3) := row_cell UX.out.now 3
  have kX4 : v2.cell? ⟨X, 4, none⟩ = some (.int .i64 z4) := row_cell UX.out.now 4
  have kX5 : v2.cell? ⟨X, 5, none⟩ = some (.int .i64 z5) := row_cell UX.out.now 5
  have kX6 : v2.cell? ⟨X, 6, none⟩ = some (.int .i64 z6) := row_cell UX.out.now 6
  go_wp2_with fail
  clear kX0 kX1 kX2 kX3 kX4 kX5 kX6
  (with_reducible refine (HM.out _).mono ?_)
  rintro e v3 ⟨rfl, hb⟩
  replace HU := Lib.hid (HU.out.next hb)
  replace UX := Lib.hid (UX.out.next hb)
  clear hb
  obtain ⟨x4, O, ex4, eb4, hb, hk⟩ := box1 v3 #[.int .i64 o.p, .int .i64 o.f, .int .i64 o.lo, .int .i64 o.hi, .int .i64 o.nd, .int .i64 o.tn, .int .i64 o.sl] 24
  replace HU := Lib.hid (HU.out.next hb)
  replace UX := Lib.hid (UX.out.next hb)
  have UO := Lib.hid (up_vr hk : Up x4 (VR O #[.int .i64 o.p, .int .i64 o.f, .int .i64 o.lo, .int .i64 o.hi, .int .i64 o.nd, .int .i64 o.tn, .int .i64 o.sl] 24))
  clear hb hk
  go_wp2_with fail
  clear ex4 eb4
  (with_reducible refine (HPi.out _).mono ?_)
  rintro e v5 ⟨rfl, hb⟩
  replace HU := Lib.hid (HU.out.next hb)
  replace UX := Lib.hid (UX.out.next hb)
  replace UO := Lib.hid (UO.out.next hb)
  clear hb
  obtain ⟨x6, S, ex6, eb6, hbS, hkS⟩ := box1 v5 #[iV i, .int .i64 0] 26
  have ka1 : x6.cell? ⟨S, 1, none⟩ = some (.int .i64 0) := row_cell hkS 1
  have fa1 : x6.frozen? ⟨S, 1, none⟩ = false := frozen_of_row x6 S 1 _ _ hkS
  obtain ⟨y6, ey6⟩ : ∃ y, x6.setCell ⟨S, 1, none⟩ (.int .i64 0) = y := ⟨_, rfl⟩
  have hkS2 : BX y6 S #[iV i, .int .i64 0] 26 := by rw [← ey6]; exact BX.put hkS _
  have HBS := Lib.hid (show Below v5.heap.size v5 y6 from by rw [← ey6]; exact hbS.setCell (p := ⟨S, 1, none⟩) (by show v5.heap.size ≤ S; omega) _)
  have HKS := Lib.hid hkS2
  have kx0 : y6.cell? ⟨S, 0, none⟩ = some (iV i) := row_cell hkS2 0
  clear hbS hkS hkS2
  go_upto_region 5 with fail
  refine wp_region_still_tail 6 (by kernel_rfl) (by kernel_rfl) ?_
  simp only [List.take_succ_cons, List.take_zero, List.drop_succ_cons, List.drop_zero]
  iterate 3 still_step
  still_call (HK.out _)
  iterate 2 still_step
  refine wpStill_nil ?_
  obtain ⟨Z6, hZ⟩ : ∃ Z, y6.drew = Z := ⟨_, rfl⟩
  change wpList _ _ _ _ _ y6.drew
  have HZ := Lib.hid (show BX Z6 S #[iV i, .int .i64 0] 26 ∧ Below v5.heap.size v5 Z6 from by rw [← hZ]; exact ⟨HKS.out, HBS.out.drew⟩)
  rw [hZ]
  try rw [wrap_in (z := (i : Int) + (k : Int)) (by omega) (by omega)]
  rw [HT.out]
  have kS1 : Z6.cell? ⟨S, 1, none⟩ = some (.int .i64 0) := BX.cell HZ.out.1 1
  have fS1 : Z6.frozen? ⟨S, 1, none⟩ = false := BX.frozen HZ.out.1 1
  obtain ⟨Y6, eY6⟩ : ∃ Y, Z6.setCell ⟨S, 1, none⟩ (.int .i64 T) = Y := ⟨_, rfl⟩
  have hbY : Below v5.heap.size v5 Y6 := by rw [← eY6]; exact HZ.out.2.setCell (p := ⟨S, 1, none⟩) (by show v5.heap.size ≤ S; omega) _
  have hkY : BX Y6 S #[iV i, .int .i64 T] 26 := by rw [← eY6]; exact BX.put HZ.out.1 _
  clear hZ kx0 ka1 fa1 ex6 ey6 eb6 HKS HBS HZ
  replace HU := Lib.hid (HU.out.next hbY)
  replace UX := Lib.hid (UX.out.next hbY)
  replace UO := Lib.hid (UO.out.next hbY)
  have US := Lib.hid (up_vr hkY : Up Y6 (VR S #[iV i, .int .i64 T] 26))
  clear hbY hkY
  have kS0 : Y6.cell? ⟨S, 0, none⟩ = some (iV i) := row_cell US.out.now 0
  have kS1 : Y6.cell? ⟨S, 1, none⟩ = some (.int .i64 T) := row_cell US.out.now 1
  go_upto_region 6 with fail
  refine wp_region_still_tail 11 (by kernel_rfl) (by kernel_rfl) ?_
  simp only [List.take_succ_cons, List.take_zero, List.drop_succ_cons, List.drop_zero]
  iterate 9 still_step
  rw [wrap_in (z := T - (i : Int)) (by omega) (by omega), wrap_in (z := T - (i : Int) + 1) (by omega) (by omega)]
  still_call (HQ.out _)
  iterate 1 still_step
  refine wpStill_nil ?_
  obtain ⟨Z7, hZ⟩ : ∃ Z, Y6.drew = Z := ⟨_, rfl⟩
  change wpList _ _ _ _ _ Y6.drew
  have hbZ : Below Y6.heap.size Y6 Z7 := by rw [← hZ]; exact (Below.refl _ _).drew
  rw [hZ]
  try rw [wrap_in (z := (i : Int) + (q : Int)) (by omega) (by omega)]
  rw [HMM.out]
  replace HU := Lib.hid (HU.out.next hbZ)
  replace UX := Lib.hid (UX.out.next hbZ)
  replace UO := Lib.hid (UO.out.next hbZ)
  replace US := Lib.hid (US.out.next hbZ)
  clear hbZ hZ kS0 kS1 fS1
  go_wp2_with fail
  clear eY6
  (with_reducible refine (HPD.out _).mono ?_)
  rintro e v8 ⟨rfl, hb⟩
  replace HU := Lib.hid (HU.out.next hb)
  replace UX := Lib.hid (UX.out.next hb)
  replace UO := Lib.hid (UO.out.next hb)
  replace US := Lib.hid (US.out.next hb)
  clear hb
  have kO0 : v8.cell? ⟨O, 0, none⟩ = some (.int .i64 o.p) := row_cell UO.out.now 0
  have kO1 : v8.cell? ⟨O, 1, none⟩ = some (.int .i64 o.f) := row_cell UO.out.now 1
  have kO2 : v8.cell? ⟨O, 2, none⟩ = some (.int .i64 o.lo) := row_cell UO.out.now 2
  have kO3 : v8.cell? ⟨O, 3, none⟩ = some (.int .i64 o.hi) := row_cell UO.out.now 3
  have kO4 : v8.cell? ⟨O, 4, none⟩ = some (.int .i64 o.nd) := row_cell UO.out.now 4
  have kO5 : v8.cell? ⟨O, 5, none⟩ = some (.int .i64 o.tn) := row_cell UO.out.now 5
  have kO6 : v8.cell? ⟨O, 6, none⟩ = some (.int .i64 o.sl) := row_cell UO.out.now 6
  have kS0 : v8.cell? ⟨S, 0, none⟩ = some (iV i) := row_cell US.out.now 0
  have kS1 : v8.cell? ⟨S, 1, none⟩ = some (.int .i64 T) := row_cell US.out.now 1
  go_upto_region 8 with fail
  try rw [HD.out]
  go_wp2_with fail
  clear kO0 kO1 kO2 kO3 kO4 kO5 kO6 kS0 kS1
  (with_reducible refine (TL.out _).mono ?_)
  rintro e v9 ⟨ll, lc, rfl, hcs, hb⟩
  replace HU := Lib.hid (HU.out.next hb)
  replace UX := Lib.hid (UX.out.next hb)
  replace UO := Lib.hid (UO.out.next hb)
  replace US := Lib.hid (US.out.next hb)
  have UL := Lib.hid (up_vc hcs)
  clear hcs
  clear hb
  have kO0 : v9.cell? ⟨O, 0, none⟩ = some (.int .i64 o.p) := row_cell UO.out.now 0
  have kO1 : v9.cell? ⟨O, 1, none⟩ = some (.int .i64 o.f) := row_cell UO.out.now 1
  have kO2 : v9.cell? ⟨O, 2, none⟩ = some (.int .i64 o.lo) := row_cell UO.out.now 2
  have kO3 : v9.cell? ⟨O, 3, none⟩ = some (.int .i64 o.hi) := row_cell UO.out.now 3
  have kO4 : v9.cell? ⟨O, 4, none⟩ = some (.int .i64 o.nd) := row_cell UO.out.now 4
  have kO5 : v9.cell? ⟨O, 5, none⟩ = some (.int .i64 o.tn) := row_cell UO.out.now 5
  have kO6 : v9.cell? ⟨O, 6, none⟩ = some (.int .i64 o.sl) := row_cell UO.out.now 6
  have kS0 : v9.cell? ⟨S, 0, none⟩ = some (iV i) := row_cell US.out.now 0
  have kS1 : v9.cell? ⟨S, 1, none⟩ = some (.int .i64 T) := row_cell US.out.now 1
  go_wp2_with fail
  clear kO0 kO1 kO2 kO3 kO4 kO5 kO6 kS0 kS1
  (with_reducible refine (TA.out _).mono ?_)
  rintro e v10 ⟨al, ac, rfl, hcs, hb⟩
  replace HU := Lib.hid (HU.out.next hb)
  replace UX := Lib.hid (UX.out.next hb)
  replace UO := Lib.hid (UO.out.next hb)
  replace US := Lib.hid (US.out.next hb)
  replace UL := Lib.hid (UL.out.next hb)
  have UA := Lib.hid (up_vc hcs)
  clear hcs
  clear hb
  have kO0 : v10.cell? ⟨O, 0, none⟩ = some (.int .i64 o.p) := row_cell UO.out.now 0
  have kO1 : v10.cell? ⟨O, 1, none⟩ = some (.int .i64 o.f) := row_cell UO.out.now 1
  have kO2 : v10.cell? ⟨O, 2, none⟩ = some (.int .i64 o.lo) := row_cell UO.out.now 2
  have kO3 : v10.cell? ⟨O, 3, none⟩ = some (.int .i64 o.hi) := row_cell UO.out.now 3
  have kO4 : v10.cell? ⟨O, 4, none⟩ = some (.int .i64 o.nd) := row_cell UO.out.now 4
  have kO5 : v10.cell? ⟨O, 5, none⟩ = some (.int .i64 o.tn) := row_cell UO.out.now 5
  have kO6 : v10.cell? ⟨O, 6, none⟩ = some (.int .i64 o.sl) := row_cell UO.out.now 6
  have kS0 : v10.cell? ⟨S, 0, none⟩ = some (iV i) := row_cell US.out.now 0
  have kS1 : v10.cell? ⟨S, 1, none⟩ = some (.int .i64 T) := row_cell US.out.now 1
  go_wp2_with fail
  clear kO0 kO1 kO2 kO3 kO4 kO5 kO6 kS0 kS1
  (with_reducible refine (TB.out _).mono ?_)
  rintro e v11 ⟨bl, bc, rfl, hcs, hb⟩
  replace HU := Lib.hid (HU.out.next hb)
  replace UX := Lib.hid (UX.out.next hb)
  replace UO := Lib.hid (UO.out.next hb)
  replace US := Lib.hid (US.out.next hb)
  replace UL := Lib.hid (UL.out.next hb)
  replace UA := Lib.hid (UA.out.next hb)
  have UB := Lib.hid (up_vc hcs)
  clear hcs
  clear hb
  have kS0 : v11.cell? ⟨S, 0, none⟩ = some (iV i) := row_cell US.out.now 0
  have kS1 : v11.cell? ⟨S, 1, none⟩ = some (.int .i64 T) := row_cell US.out.now 1
  have hle : ((L.length : Int) == T - (i : Int)) = true := by rw [HLL]; simp
  have hl0 : (L.length : Int) = T - (i : Int) := HLL
  clear HLL
  have hA0 : VC al A v11 := UA.out.now
  have hA3 : A.length ≤ 3000 := hA0.2.1
  have hL3 : L.length ≤ 3000 := (UL.out.now : VC ll L v11).2.1
  have hAB3 : (A ++ B).length ≤ 3000 := by rw [← HAB.out]; exact hL3
  have HW1 := Lib.hid (show Below v11.heap.size v11 (v11.alloc (.cells #[] 38)) from (Below.refl _ _).alloc (Nat.le_refl _) _)
  have HR0 := Lib.hid (World.ownsRow_made (base := v11.heap.size) (e := 38) (size := 2) v11 #[] 0 (Nat.le_refl _) (by decide) rfl)
  have HC1 := Lib.hid (UA.out.next HW1.out).now
  clear hA0
  go_wp2_with (at_builtin
               (first
                | (refine wpList_appC rfl (.tmp 100) (.tmp 101) rfl v11.heap.size _ [] A al ac rfl rfl HR0.out HC1.out (by simp) (by simp) ?_
                   intro v1 y1 h1 h2 h3
                   replace h1 : y1.ownsRow v11.heap.size 38 2 v1 A.length (cvs A) := h1
                   have HY1 := Lib.hid (show Below v11.heap.size v11 y1 from HW1.out.grown h2 HW1.out.size (fun k hk => (HR0.out.lt k hk).1))
                   have HR1 := Lib.hid h1
                   have HC2 := Lib.hid (UB.out.next HY1.out).now
                   clear h1 h2 h3)
                | (refine wpList_appC rfl (.tmp 102) (.tmp 103) rfl v11.heap.size v1 A B bl bc rfl rfl HR1.out HC2.out hA3 HY1.out.size ?_
                   intro v2 y2 h1 h2 h3
                   have HY2 := Lib.hid (show Below v11.heap.size v11 y2 from HY1.out.grown h2 HY1.out.size (fun k hk => (HR1.out.lt k hk).1))
                   obtain ⟨vl, vc, rfl, hcs⟩ := Cs.of_row h1 hAB3
                   have HCS := Lib.hid (show Calls Try.prog 25 #[.slice ll L.length lc, .slice vl (A.length + B.length) vc] y2 (OutV y2 (.bool true)) from by
                     have h := same_any ll vl lc vc L (A ++ B) y2 (UL.out.next HY2.out).now hcs
                     rwa [decide_eq_true HAB.out, List.length_append] at h)
                   clear h1 h2 h3 hcs)))
  replace HU := Lib.hid (HU.out.next HY2.out)
  replace UO := Lib.hid (UO.out.next HY2.out)
  replace US := Lib.hid (US.out.next HY2.out)
  replace UL := Lib.hid (UL.out.next HY2.out)
  clear UX UA UB HY1 HY2 HR0 HR1 HC1 HC2 HW1 kS0 kS1
  go_wp2_with fail
  (with_reducible refine (HCS.out).mono ?_)
  rintro e v12 ⟨rfl, hb⟩
  replace HU := Lib.hid (HU.out.next hb)
  replace UO := Lib.hid (UO.out.next hb)
  replace US := Lib.hid (US.out.next hb)
  replace UL := Lib.hid (UL.out.next hb)
  clear hb
  go_wp2_with fail
  go_loopw [21] (fun iv wr => ∃ j : Nat, j ≤ L.length ∧ iv = iV j ∧ Up wr (VB w) ∧ Up wr (VR O #[.int .i64 o.p, .int .i64 o.f, .int .i64 o.lo, .int .i64 o.hi, .int .i64 o.nd, .int .i64 o.tn, .int .i64 o.sl] 24) ∧ Up wr (VR S #[iV i, .int .i64 T] 26) ∧ Up wr (VC ll L)) (fun iv _ => L.length - (intOf iv).toNat)
  case atStart => exact ⟨0, by omega, rfl, HU.out, UO.out, US.out, UL.out⟩
  case round =>
    clear HU UO US UL HCS
    obtain ⟨j, hj, rfl, hU, hO, hS, hL⟩ := hrel
    have HU := Lib.hid hU; have UO := Lib.hid hO; have US := Lib.hid hS; have UL := Lib.hid hL
    clear hU hO hS hL
    rename World => wr
    have j0 : (0 : Int) ≤ j := by omega
    by_cases hlt : j < L.length
    · obtain ⟨x, hx⟩ : ∃ x, L[j]? = some x := ⟨_, List.getElem?_eq_getElem hlt⟩
      have HX := Lib.hid hx
      have HE := Lib.hid (HEA.out j x hx)
      have hd : decide (j < L.length) = true := by simp; omega
      have j1 : (j : Int) < L.length := by omega
      clear hx
      have kO0 : wr.cell? ⟨O, 0, none⟩ = some (.int .i64 o.p) := row_cell UO.out.now 0
      have kO1 : wr.cell? ⟨O, 1, none⟩ = some (.int .i64 o.f) := row_cell UO.out.now 1
      have kO2 : wr.cell? ⟨O, 2, none⟩ = some (.int .i64 o.lo) := row_cell UO.out.now 2
      have kO3 : wr.cell? ⟨O, 3, none⟩ = some (.int .i64 o.hi) := row_cell UO.out.now 3
      have kO4 : wr.cell? ⟨O, 4, none⟩ = some (.int .i64 o.nd) := row_cell UO.out.now 4
      have kO5 : wr.cell? ⟨O, 5, none⟩ = some (.int .i64 o.tn) := row_cell UO.out.now 5
      have kO6 : wr.cell? ⟨O, 6, none⟩ = some (.int .i64 o.sl) := row_cell UO.out.now 6
      have kS0 : wr.cell? ⟨S, 0, none⟩ = some (iV i) := row_cell US.out.now 0
      have kS1 : wr.cell? ⟨S, 1, none⟩ = some (.int .i64 T) := row_cell US.out.now 1
      go_wp2_with fail
      clear kO0 kO1 kO2 kO3 kO4 kO5 kO6 kS0 kS1
      (with_reducible refine (atS_yes o ((i : Int) + (j : Int)) D (asked_iff.2 ⟨HO.out, ⟨by omega, by omega⟩, ⟨by omega, by omega⟩⟩) _).mono ?_)
      rintro e v13 ⟨rfl, hb⟩
      replace HU := Lib.hid (HU.out.next hb)
      replace UO := Lib.hid (UO.out.next hb)
      replace US := Lib.hid (US.out.next hb)
      replace UL := Lib.hid (UL.out.next hb)
      clear hb
      rw [HE.out]
      obtain ⟨x14, C, ex14, eb14, hb, hk⟩ := box1 v13 #[iV x.1.1, iV x.1.2] 38
      replace HU := Lib.hid (HU.out.next hb)
      replace UO := Lib.hid (UO.out.next hb)
      replace US := Lib.hid (US.out.next hb)
      replace UL := Lib.hid (UL.out.next hb)
      have UC := Lib.hid (up_vr hk : Up x14 (VR C #[iV x.1.1, iV x.1.2] 38))
      clear hb hk
      have kC0 : x14.cell? ⟨C, 0, none⟩ = some (iV x.1.1) := row_cell UC.out.now 0
      have kC1 : x14.cell? ⟨C, 1, none⟩ = some (iV x.1.2) := row_cell UC.out.now 1
      obtain ⟨lb, rfl, hlb, l0, l1⟩ := vc_at UL.out.now HX.out
      have heq := run_eqK x x
      rw [decide_eq_true (rfl : x = x)] at heq
      clear hlb
      go_wp2_with fail
      go_quiet (fail)
      go_wp2
      exact ⟨⟨j + 1, by omega, ret_i (by omega), HU.out.next (below_dn nq), UO.out.next (below_dn nq), US.out.next (below_dn nq), UL.out.next (below_dn nq)⟩, by simp [intOf]; omega⟩
    · obtain rfl : j = L.length := by omega
      have hd : decide (L.length < L.length) = false := by simp
      go_wp2
      all_goals
        go_ret
        exact ⟨rfl, HU.out.now⟩
end Go.Proofs.Ytdomgielpofbhaa
