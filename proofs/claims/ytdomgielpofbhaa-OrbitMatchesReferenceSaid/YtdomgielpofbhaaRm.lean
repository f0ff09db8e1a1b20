/- Made orbits. -/
import Derived.Test.YtdomgielpofbhaaVd
import Derived.Test.YtdomgielpofbhaaPa
namespace Go.Proofs.Ytdomgielpofbhaa
open Go.RowKit Go.Shelf
set_option linter.unusedSimpArgs false
set_option linter.unusedVariables false
abbrev I64 (z : Int) : Prop := -9223372036854775808 ≤ z ∧ z ≤ 9223372036854775807
/-- What seven numbers determine. -/
def madeO (x0 x1 x2 x3 x4 x5 x6 : Int) : Orb :=
  { p := 2 * (10 + (pickZ x0 90 : Int)), f := (pickZ x1 (2 * (10 + pickZ x0 90)) : Int), lo := (pickZ x2 10000 : Int), hi := (pickZ x2 10000 : Int) + 4000 + (pickZ x3 10000 : Int), nd := (pickZ x4 48000 : Int), tn := (pickZ x5 1601 : Int) - 800, sl := (pickZ x6 4 : Int) }
theorem made_ok (x0 x1 x2 x3 x4 x5 x6 : Int) : okO (madeO x0 x1 x2 x3 x4 x5 x6) ∧ (madeO x0 x1 x2 x3 x4 x5 x6).sl ≤ 3 := by
  have h0 := pickZ_lt x0 (n := 90) (by decide)
  have h1 := pickZ_lt x1 (n := 2 * (10 + pickZ x0 90)) (by omega)
  have h2 := pickZ_lt x2 (n := 10000) (by decide)
  have h3 := pickZ_lt x3 (n := 10000) (by decide)
  have h4 := pickZ_lt x4 (n := 48000) (by decide)
  have h5 := pickZ_lt x5 (n := 1601) (by decide)
  have h6 := pickZ_lt x6 (n := 4) (by decide)
  unfold okO madeO
  simp only
  omega
set_option maxRecDepth 100000 in
set_option maxHeartbeats 4000000 in
theorem made_any (x0 x1 x2 x3 x4 x5 x6 : Int) (r0 : I64 x0) (r1 : I64 x1) (r2 : I64 x2) (r3 : I64 x3) (r4 : I64 x4) (r5 : I64 x5) (r6 : I64 x6) (w : World) :
    Calls Try.prog 11 #[.agg #[.int .i64 x0, .int .i64 x1, .int .i64 x2, .int .i64 x3, .int .i64 x4, .int .i64 x5, .int .i64 x6]] w (OutV w (OV (madeO x0 x1 x2 x3 x4 x5 x6))) := by
  have h0 := pickZ_lt x0 (n := 90) (by decide)
  have h2 := pickZ_lt x2 (n := 10000) (by decide)
  have h4 := pickZ_lt x4 (n := 48000) (by decide)
  have h5 := pickZ_lt x5 (n := 1601) (by decide)
  have h6 := pickZ_lt x6 (n := 4) (by decide)
  have C0 := Lib.hid (fun W => rpick_any x0 r0.1 r0.2 90 (by decide) (by decide) 90 rfl W)
  have C2 := Lib.hid (fun W => rpick_any x2 r2.1 r2.2 10000 (by decide) (by decide) 10000 rfl W)
  have C4 := Lib.hid (fun W => rpick_any x4 r4.1 r4.2 48000 (by decide) (by decide) 48000 rfl W)
  have C5 := Lib.hid (fun W => rpick_any x5 r5.1 r5.2 1601 (by decide) (by decide) 1601 rfl W)
  have C6 := Lib.hid (fun W => rpick_any x6 r6.1 r6.2 4 (by decide) (by decide) 4 rfl W)
  obtain ⟨p0, e0⟩ : ∃ p, pickZ x0 90 = p := ⟨_, rfl⟩
  obtain ⟨p2, e2⟩ : ∃ p, pickZ x2 10000 = p := ⟨_, rfl⟩
  obtain ⟨p4, e4⟩ : ∃ p, pickZ x4 48000 = p := ⟨_, rfl⟩
  obtain ⟨p5, e5⟩ : ∃ p, pickZ x5 1601 = p := ⟨_, rfl⟩
  obtain ⟨p6, e6⟩ : ∃ p, pickZ x6 4 = p := ⟨_, rfl⟩
  rw [e0] at C0 h0; rw [e2] at C2 h2; rw [e4] at C4 h4; rw [e5] at C5 h5; rw [e6] at C6 h6
  have HE := Lib.hid (And.intro e0 (And.intro e2 (And.intro e4 (And.intro e5 e6))))
  have HR := Lib.hid (And.intro r1 r3)
  obtain ⟨V, B, hV, hBn, hb, hk⟩ := box1 w #[.int .i64 x0, .int .i64 x1, .int .i64 x2, .int .i64 x3, .int .i64 x4, .int .i64 x5, .int .i64 x6] 22
  obtain ⟨X, C, hX, hCn, hb2, hk2⟩ := box1 V #[.int .i64 0, .int .i64 0, .int .i64 0, .int .i64 0, .int .i64 0, .int .i64 0, .int .i64 0] 24
  have HN := Lib.hid (show w.heap.size ≤ C ∧ B ≠ C ∧ C < X.heap.size from by have := hb.size; have := (Array.getElem?_eq_some_iff.1 hk).1; have := (Array.getElem?_eq_some_iff.1 hk2).1; refine ⟨by omega, by omega, by omega⟩)
  have HP := Lib.hid (show BX X B #[.int .i64 x0, .int .i64 x1, .int .i64 x2, .int .i64 x3, .int .i64 x4, .int .i64 x5, .int .i64 x6] 22 from BX.next hk hb2)
  have HC := Lib.hid (show BX X C #[.int .i64 0, .int .i64 0, .int .i64 0, .int .i64 0, .int .i64 0, .int .i64 0, .int .i64 0] 24 from hk2)
  have HB := Lib.hid (below_tr hb hb2)
  clear hb hk hb2 hk2 e0 e2 e4 e5 e6 r0 r2 r4 r5 r6 r1 r3
  have g0 : (0 : Int) ≤ p0 := by omega
  have g1 : (p0 : Int) < 90 := by omega
  have g2 : (0 : Int) ≤ p2 := by omega
  have g3 : (p2 : Int) < 10000 := by omega
  have g5 : (0 : Int) ≤ p5 := by omega
  have g6 : (p5 : Int) < 1601 := by omega
  clear h0 h2 h5
  go_enter Try.func11, Try.ntmps11
  go_wp2_with fail
  clear hV hX
  have c0 := BX.cell HP.out 0; have c1 := BX.cell HP.out 1; have c2 := BX.cell HP.out 2; have c3 := BX.cell HP.out 3; have c4 := BX.cell HP.out 4; have c5 := BX.cell HP.out 5; have c6 := BX.cell HP.out 6
  have K0 := Lib.hid (show (fun w' => w'.cell? ⟨B, 0, none⟩ = some (.int .i64 x0) ∧ w'.cell? ⟨B, 1, none⟩ = some (.int .i64 x1) ∧ w'.cell? ⟨B, 2, none⟩ = some (.int .i64 x2) ∧ w'.cell? ⟨B, 3, none⟩ = some (.int .i64 x3) ∧ w'.cell? ⟨B, 4, none⟩ = some (.int .i64 x4) ∧ w'.cell? ⟨B, 5, none⟩ = some (.int .i64 x5) ∧ w'.cell? ⟨B, 6, none⟩ = some (.int .i64 x6)) X.drew from ⟨c0, c1, c2, c3, c4, c5, c6⟩)
  have KP := Lib.hid (fun Y (h : BX Y B #[.int .i64 x0, .int .i64 x1, .int .i64 x2, .int .i64 x3, .int .i64 x4, .int .i64 x5, .int .i64 x6] 22) => show (fun w' => w'.cell? ⟨B, 0, none⟩ = some (.int .i64 x0) ∧ w'.cell? ⟨B, 1, none⟩ = some (.int .i64 x1) ∧ w'.cell? ⟨B, 2, none⟩ = some (.int .i64 x2) ∧ w'.cell? ⟨B, 3, none⟩ = some (.int .i64 x3) ∧ w'.cell? ⟨B, 4, none⟩ = some (.int .i64 x4) ∧ w'.cell? ⟨B, 5, none⟩ = some (.int .i64 x5) ∧ w'.cell? ⟨B, 6, none⟩ = some (.int .i64 x6)) Y from ⟨h.cell 0, h.cell 1, h.cell 2, h.cell 3, h.cell 4, h.cell 5, h.cell 6⟩)
  go_region_held3 (fun w' => w'.cell? ⟨B, 0, none⟩ = some (.int .i64 x0) ∧ w'.cell? ⟨B, 1, none⟩ = some (.int .i64 x1) ∧ w'.cell? ⟨B, 2, none⟩ = some (.int .i64 x2) ∧ w'.cell? ⟨B, 3, none⟩ = some (.int .i64 x3) ∧ w'.cell? ⟨B, 4, none⟩ = some (.int .i64 x4) ∧ w'.cell? ⟨B, 5, none⟩ = some (.int .i64 x5) ∧ w'.cell? ⟨B, 6, none⟩ = some (.int .i64 x6))
    (first
      | exact K0.out
      | go_keep)
    (first
      | (go_at_call 29; (with_reducible refine (C0.out _).mono ?_); rintro e w' ⟨rfl, rfl⟩)
      | (go_at_call 29; (with_reducible refine (C2.out _).mono ?_); rintro e w' ⟨rfl, rfl⟩)
      | (go_at_call 29; (with_reducible refine (C4.out _).mono ?_); rintro e w' ⟨rfl, rfl⟩)
      | (go_at_call 29; (with_reducible refine (C5.out _).mono ?_); rintro e w' ⟨rfl, rfl⟩)
      | (go_at_call 29; (with_reducible refine (C6.out _).mono ?_); rintro e w' ⟨rfl, rfl⟩))
  all_goals
    obtain ⟨P, hP⟩ : ∃ P, 2 * (10 + p0) = P := ⟨_, rfl⟩
    have HQ := Lib.hid hP
    have HX1 := Lib.hid (pickZ_lt x1 (n := P) (by omega))
    have HX3 := Lib.hid (pickZ_lt x3 (n := 10000) (by decide))
    have q0 : (0 : Int) < P := by omega
    have q1 : (P : Int) < 200 := by omega
    rw [wrap_in (z := 10 + (p0 : Int)) (by omega) (by omega), wrap_in (z := 2 * (10 + (p0 : Int))) (by omega) (by omega), wrap_in (z := (p5 : Int) - 800) (by omega) (by omega), show 2 * (10 + (p0 : Int)) = (P : Int) by omega]
    obtain ⟨T, hT⟩ : ∃ T, (p5 : Int) - 800 = T := ⟨_, rfl⟩
    have HT := Lib.hid hT
    rw [hT]
    obtain ⟨Y, hY⟩ : ∃ Y, (X.alloc (.cells #[.int .i64 (P : Int), .int .i64 0, .int .i64 (p2 : Int), .int .i64 0, .int .i64 (p4 : Int), .int .i64 T, .int .i64 (p6 : Int)] 24)).drew = Y := ⟨_, rfl⟩
    obtain ⟨D, hD⟩ : ∃ D, X.heap.size = D := ⟨_, rfl⟩
    have hbx : Below X.heap.size X Y := by rw [← hY]; exact ((Below.refl _ _).alloc (Nat.le_refl _) _).drew
    have HY := Lib.hid (show BX Y D #[.int .i64 (P : Int), .int .i64 0, .int .i64 (p2 : Int), .int .i64 0, .int .i64 (p4 : Int), .int .i64 T, .int .i64 (p6 : Int)] 24 from by rw [← hY, ← hD]; exact (BX.new rfl : BX (X.alloc _) _ _ _))
    have HYP := Lib.hid (BX.next HP.out hbx)
    have HYC := Lib.hid (BX.next HC.out hbx)
    have HYB := Lib.hid (below_tr HB.out hbx)
    have HDN := Lib.hid (show w.heap.size ≤ D ∧ B ≠ D ∧ C ≠ D from by have := HN.out; have := (HP.out : BX X B _ _).lt; refine ⟨by omega, by omega, by omega⟩)
    rw [hY, hD]
    clear hY hbx hT hP hD hBn hCn c0 c1 c2 c3 c4 c5 c6 g0 g1 g5 g6
    have CP := Lib.hid (fun W => rpick_any x1 HR.out.1.1 HR.out.1.2 P (by omega) (by omega) (P : Int) rfl W)
    have C3 := Lib.hid (fun W => swapw (rpick_any x3 HR.out.2.1 HR.out.2.2 10000 (by decide) (by decide) 10000 rfl W))
    have v1 := BX.cell HYP.out 1
    have y0 := BX.cell HY.out 0
    have y1 := BX.cell HY.out 1
    have y2 := BX.frozen HY.out 1
    go_wp2_with fail
    (with_reducible refine (CP.out _).mono ?_)
    rintro e wp ⟨rfl, rfl⟩
    go_wp2_with fail
    obtain ⟨f, hf⟩ : ∃ f, pickZ x1 P = f := ⟨_, rfl⟩
    have HF := Lib.hid hf
    rw [hf]
    obtain ⟨Z, hZ⟩ : ∃ Z, Y.setCell ⟨D, 1, none⟩ (.int .i64 (f : Int)) = Z := ⟨_, rfl⟩
    have HZ := Lib.hid (show BX Z D #[.int .i64 (P : Int), .int .i64 (f : Int), .int .i64 (p2 : Int), .int .i64 0, .int .i64 (p4 : Int), .int .i64 T, .int .i64 (p6 : Int)] 24 from by rw [← hZ]; exact BX.put HY.out _)
    have HZP := Lib.hid (show BX Z B _ 22 from by rw [← hZ]; exact BX.far HYP.out HDN.out.2.1 _)
    have HZC := Lib.hid (show BX Z C _ 24 from by rw [← hZ]; exact BX.far HYC.out HDN.out.2.2 _)
    have HZB := Lib.hid (show Below w.heap.size w Z from by rw [← hZ]; exact HYB.out.setCell (p := ⟨D, 1, none⟩) HDN.out.1 _)
    rw [hZ]
    clear hZ hf v1 y0 y1 y2
    have z2 := BX.cell HZ.out 2
    have z3 := BX.cell HZ.out 3
    have z4 := BX.frozen HZ.out 3
    have z5 := BX.cell HZP.out 3
    obtain ⟨p3, hp3⟩ : ∃ p, pickZ x3 10000 = p := ⟨_, rfl⟩
    have HP3 := Lib.hid hp3
    rw [hp3] at HX3 C3
    have g7 : (0 : Int) ≤ p3 := by omega
    have g8 : (p3 : Int) < 10000 := by have := HX3.out; omega
    clear hp3
    go_upto_region 3 with fail
    go_still_tail 8, (by kernel_rfl)
    still_call (C3.out _)
    repeat still_step
    refine wpStill_nil ?_
    have HFIN := Lib.hid (show OV (madeO x0 x1 x2 x3 x4 x5 x6) = .agg #[.int .i64 (P : Int), .int .i64 (f : Int), .int .i64 (p2 : Int), .int .i64 ((p2 : Int) + 4000 + (p3 : Int)), .int .i64 (p4 : Int), .int .i64 T, .int .i64 (p6 : Int)] from by
      have e := HE.out
      show Value.agg #[.int .i64 (2 * (10 + (pickZ x0 90 : Int))), .int .i64 (pickZ x1 (2 * (10 + pickZ x0 90)) : Int), .int .i64 (pickZ x2 10000 : Int), .int .i64 ((pickZ x2 10000 : Int) + 4000 + (pickZ x3 10000 : Int)), .int .i64 (pickZ x4 48000 : Int), .int .i64 ((pickZ x5 1601 : Int) - 800), .int .i64 (pickZ x6 4 : Int)] = _
      rw [e.1, HQ.out, HF.out, e.2.1, HP3.out, e.2.2.1, e.2.2.2.1, e.2.2.2.2, HT.out, show 2 * (10 + (p0 : Int)) = (P : Int) from by have := HQ.out; omega])
    obtain ⟨Z2, hZ2⟩ : ∃ Z2, Z.drew = Z2 := ⟨_, rfl⟩
    change wpList _ _ _ _ _ Z.drew
    have W1 := Lib.hid (show BX Z2 D _ 24 ∧ BX Z2 C _ 24 ∧ Below w.heap.size w Z2 from by rw [← hZ2]; exact ⟨HZ.out, HZC.out, HZB.out.drew⟩)
    rw [hZ2]
    obtain ⟨hi, hhi⟩ : ∃ hi, (p2 : Int) + 4000 + (p3 : Int) = hi := ⟨_, rfl⟩
    rw [hhi] at HFIN
    try rw [wrap_in (z := (p2 : Int) + 4000) (by omega) (by omega)]
    try rw [wrap_in (z := (p2 : Int) + 4000 + (p3 : Int)) (by omega) (by omega)]
    rw [hhi]
    clear hZ2 hhi z2 z3 z4 z5 g2 g3 g7 g8 HZ HZC HZB HZP HY HYC HYP HYB HP HC HB
    have a3 := BX.cell W1.out.1 3
    have b3 := BX.frozen W1.out.1 3
    obtain ⟨Z3, hZ3⟩ : ∃ Z3, Z2.setCell ⟨D, 3, none⟩ (.int .i64 hi) = Z3 := ⟨_, rfl⟩
    have W3 := Lib.hid (show BX Z3 D #[.int .i64 (P : Int), .int .i64 (f : Int), .int .i64 (p2 : Int), .int .i64 hi, .int .i64 (p4 : Int), .int .i64 T, .int .i64 (p6 : Int)] 24 ∧ BX Z3 C #[.int .i64 0, .int .i64 0, .int .i64 0, .int .i64 0, .int .i64 0, .int .i64 0, .int .i64 0] 24 ∧ Below w.heap.size w Z3 from by
      rw [← hZ3]; exact ⟨BX.put W1.out.1 _, BX.far W1.out.2.1 HDN.out.2.2 _, W1.out.2.2.setCell (p := ⟨D, 3, none⟩) HDN.out.1 _⟩)
    have u0 := BX.cell W3.out.1 0; have v0 := BX.cell W3.out.2.1 0; have w0 := BX.frozen W3.out.2.1 0
    have u1 := BX.cell W3.out.1 1; have v1 := BX.cell W3.out.2.1 1; have w1 := BX.frozen W3.out.2.1 1
    have u2 := BX.cell W3.out.1 2; have v2 := BX.cell W3.out.2.1 2; have w2 := BX.frozen W3.out.2.1 2
    have u3 := BX.cell W3.out.1 3; have v3 := BX.cell W3.out.2.1 3; have w3 := BX.frozen W3.out.2.1 3
    have u4 := BX.cell W3.out.1 4; have v4 := BX.cell W3.out.2.1 4; have w4 := BX.frozen W3.out.2.1 4
    have u5 := BX.cell W3.out.1 5; have v5 := BX.cell W3.out.2.1 5; have w5 := BX.frozen W3.out.2.1 5
    have u6 := BX.cell W3.out.1 6; have v6 := BX.cell W3.out.2.1 6; have w6 := BX.frozen W3.out.2.1 6
    go_wp2
    obtain ⟨R, hR⟩ : ∃ R, (((((((Z3.setCell ⟨C, 0, none⟩ (iZ (P : Int))).setCell ⟨C, 1, none⟩ (iZ (f : Int))).setCell ⟨C, 2, none⟩ (iZ (p2 : Int))).setCell ⟨C, 3, none⟩ (iZ hi)).setCell ⟨C, 4, none⟩ (iZ (p4 : Int))).setCell ⟨C, 5, none⟩ (iZ T)).setCell ⟨C, 6, none⟩ (iZ (p6 : Int))) = R := ⟨_, rfl⟩
    have hr1 : BX R C #[iZ (P : Int), iZ (f : Int), iZ (p2 : Int), iZ hi, iZ (p4 : Int), iZ T, iZ (p6 : Int)] 24 := by rw [← hR]; exact (BX.put (BX.put (BX.put (BX.put (BX.put (BX.put (BX.put W3.out.2.1 _) _) _) _) _) _) _)
    have hr2 : Below w.heap.size w R := by rw [← hR]; exact (((((((W3.out.2.2.setCell (p := ⟨C, 0, none⟩) HN.out.1 _).setCell (p := ⟨C, 1, none⟩) HN.out.1 _).setCell (p := ⟨C, 2, none⟩) HN.out.1 _).setCell (p := ⟨C, 3, none⟩) HN.out.1 _).setCell (p := ⟨C, 4, none⟩) HN.out.1 _).setCell (p := ⟨C, 5, none⟩) HN.out.1 _).setCell (p := ⟨C, 6, none⟩) HN.out.1 _)
    rw [hR]
    exact bodyPost_ret (results_cell_row rfl _ _ C 24 _ (0, 0) _ rfl hr1 Try.underlying24 rfl sizeOrbit) rfl ⟨by rw [HFIN.out], hr2⟩
end Go.Proofs.Ytdomgielpofbhaa
