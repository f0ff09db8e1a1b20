/- pathOf, ask, Row, Column, At. -/
import Derived.Test.YtdomgielpofbhaaPa
import Derived.Test.YtdomgielpofbhaaVd
namespace Go.Proofs.Ytdomgielpofbhaa
open Go.RowKit Go.Shelf
set_option linter.unusedSimpArgs false
set_option linter.unusedVariables false
set_option maxRecDepth 100000 in
set_option maxHeartbeats 1000000 in
theorem pathOf_any (o : Orb) (h : okO o) (w : World) :
    Calls Try.prog 39 #[OV o] w (OutV w (PV o)) := by
  obtain ⟨V, B, hV, hBn, hb, hk⟩ := box1 w (OC o) 24
  obtain ⟨X, C, hX, hCn, hb2, hk2⟩ := box1 V #[.int .i64 0, .int .i64 0, .int .i64 0, .int .i64 0, .int .i64 0, .int .i64 0] 63
  have HN := Lib.hid (show B ≠ C ∧ w.heap.size ≤ C from by have := (Array.getElem?_eq_some_iff.1 hk).1; constructor <;> omega)
  have HB := Lib.hid (below_tr hb hb2)
  have HC := Lib.hid (show BX X C #[.int .i64 0, .int .i64 0, .int .i64 0, .int .i64 0, .int .i64 0, .int .i64 0] 63 from hk2)
  have hp : BX X B (OC o) 24 := BX.next hk hb2
  have c0 := hp.cell 0; have c1 := hp.cell 1; have c2 := hp.cell 2; have c3 := hp.cell 3; have c4 := hp.cell 4; have c5 := hp.cell 5
  have k0 := BX.cell HC.out 0; have k1 := BX.cell HC.out 1; have k2 := BX.cell HC.out 2; have k3 := BX.cell HC.out 3; have k4 := BX.cell HC.out 4; have k5 := BX.cell HC.out 5
  have f0 := BX.frozen HC.out 0; have f1 := BX.frozen HC.out 1; have f2 := BX.frozen HC.out 2; have f3 := BX.frozen HC.out 3; have f4 := BX.frozen HC.out 4; have f5 := BX.frozen HC.out 5
  unfold okO at h
  have l0 : 0 ≤ o.lo := by omega
  have l1 : o.lo < 24000 := by omega
  have h0 : 0 ≤ o.hi := by omega
  have h1 : o.hi < 24000 := by omega
  clear hb hk hb2 hk2 hp h
  go_enter Try.func39, Try.ntmps39
  go_wp2
  obtain ⟨Z, hZ⟩ : ∃ Z, (((((X.setCell ⟨C, 0, none⟩ (iZ o.p)).setCell ⟨C, 1, none⟩ (iZ o.f)).setCell ⟨C, 2, none⟩ (iZ o.lo)).setCell ⟨C, 3, none⟩ (iZ (o.hi - o.lo))).setCell ⟨C, 4, none⟩ (iZ o.nd)).setCell ⟨C, 5, none⟩ (iZ o.tn) = Z := ⟨_, rfl⟩
  have hz1 : BX Z C #[iZ o.p, iZ o.f, iZ o.lo, iZ (o.hi - o.lo), iZ o.nd, iZ o.tn] 63 := by rw [← hZ]; exact (((((BX.put HC.out _).put _).put _).put _).put _).put _
  have hz2 : Below w.heap.size w Z := by
    rw [← hZ]
    exact (((((HB.out.setCell (p := ⟨C, 0, none⟩) HN.out.2 _).setCell (p := ⟨C, 1, none⟩) HN.out.2 _).setCell (p := ⟨C, 2, none⟩) HN.out.2 _).setCell (p := ⟨C, 3, none⟩) HN.out.2 _).setCell (p := ⟨C, 4, none⟩) HN.out.2 _).setCell (p := ⟨C, 5, none⟩) HN.out.2 _
  rw [hZ]
  exact bodyPost_ret (results_cell_row rfl _ _ C 63 _ (0, 0) _ rfl hz1 Try.underlying63 rfl sizePath) rfl ⟨rfl, hz2⟩
/-- What is asked for is within its limits. -/
def asked (o : Orb) (t late : Int) : Bool := okB o && isMin t && isDel late
theorem asked_iff {o : Orb} {t late : Int} : asked o t late = true ↔ okO o ∧ (0 ≤ t ∧ t ≤ 1000000) ∧ (-10 ≤ late ∧ late ≤ 10) := by
  unfold asked
  rw [Bool.and_eq_true, Bool.and_eq_true, okB_iff, isMin_iff, isDel_iff]
  constructor
  · rintro ⟨⟨a, b⟩, c⟩; exact ⟨a, b, c⟩
  · rintro ⟨a, b, c⟩; exact ⟨⟨a, b⟩, c⟩
set_option maxRecDepth 100000 in
set_option maxHeartbeats 1000000 in
theorem ask_row (o : Orb) (t late : Int) (h : asked o t late = true) (w : World) :
    Calls Try.prog 31 #[OV o, .int .i64 t, .int .i64 late, .func (.func 32) #[] #[]] w (OutV w (.tuple #[.int .i64 (rowZ o (t - late)), .int .i64 0])) := by
  obtain ⟨ho, ht, hl⟩ := asked_iff.1 h
  have e1 : okB o = true := okB_iff.2 ho
  have e2 : isMin t = true := isMin_iff.2 ht
  have e3 : isDel late = true := isDel_iff.2 hl
  have CP := Lib.hid (fun W => pathOf_any o ho W)
  have CF := Lib.hid (fun W => prow_any o (t - late) ho (by unfold okM; omega) W)
  obtain ⟨t0, t1⟩ := ht
  obtain ⟨l0, l1⟩ := hl
  obtain ⟨V, B, hV, hBn, hb, hk⟩ := box1 w (OC o) 24
  have HP := Lib.hid (show BX V B (OC o) 24 from hk)
  have HB := Lib.hid hb
  have c0 := BX.cell HP.out 0; have c1 := BX.cell HP.out 1; have c2 := BX.cell HP.out 2; have c3 := BX.cell HP.out 3; have c4 := BX.cell HP.out 4; have c5 := BX.cell HP.out 5; have c6 := BX.cell HP.out 6
  clear hb hk
  clear h ho
  generalize rowZ o (t - late) = r at *
  go_enter Try.func31, Try.ntmps31
  go_wp2_with (first
    | (go_at_call 12; (with_reducible refine (valid_any o _).mono ?_); rintro e w1 ⟨rfl, hb⟩; have HB1 := Lib.hid (below_tr HB.out hb); have hc := (BX.next HP.out hb).cell; have d0 := hc 0; have d1 := hc 1; have d2 := hc 2; have d3 := hc 3; have d4 := hc 4; have d5 := hc 5; have d6 := hc 6; clear hb hc)
    | (go_at_call 38; (with_reducible refine (isMinute_any _ _).mono ?_); rintro e wm ⟨rfl, rfl⟩)
    | (go_at_call 44; (with_reducible refine (isDelay_any _ _).mono ?_); rintro e wd ⟨rfl, rfl⟩)
    | (go_at_call 39; (with_reducible refine (CP.out _).mono ?_); rintro e w2 ⟨rfl, hb⟩; replace HB1 := Lib.hid (below_tr HB1.out hb); clear hb d0 d1 d2 d3 d4 d5 d6)
    | (go_at_call 32; (with_reducible refine (CF.out _).mono ?_); rintro e w3 ⟨rfl, hb⟩; replace HB1 := Lib.hid (below_tr HB1.out hb); clear hb))
  go_ret2
  exact ⟨rfl, HB1.out⟩
set_option maxRecDepth 100000 in
set_option maxHeartbeats 1000000 in
theorem ask_col (o : Orb) (t late : Int) (h : asked o t late = true) (w : World) :
    Calls Try.prog 31 #[OV o, .int .i64 t, .int .i64 late, .func (.func 35) #[] #[]] w (OutV w (.tuple #[.int .i64 (colZ o (t - late)), .int .i64 0])) := by
  obtain ⟨ho, ht, hl⟩ := asked_iff.1 h
  have e1 : okB o = true := okB_iff.2 ho
  have e2 : isMin t = true := isMin_iff.2 ht
  have e3 : isDel late = true := isDel_iff.2 hl
  have CP := Lib.hid (fun W => pathOf_any o ho W)
  have CF := Lib.hid (fun W => pcol_any o (t - late) ho (by unfold okM; omega) W)
  obtain ⟨t0, t1⟩ := ht
  obtain ⟨l0, l1⟩ := hl
  obtain ⟨V, B, hV, hBn, hb, hk⟩ := box1 w (OC o) 24
  have HP := Lib.hid (show BX V B (OC o) 24 from hk)
  have HB := Lib.hid hb
  have c0 := BX.cell HP.out 0; have c1 := BX.cell HP.out 1; have c2 := BX.cell HP.out 2; have c3 := BX.cell HP.out 3; have c4 := BX.cell HP.out 4; have c5 := BX.cell HP.out 5; have c6 := BX.cell HP.out 6
  clear hb hk
  clear h ho
  generalize colZ o (t - late) = r at *
  go_enter Try.func31, Try.ntmps31
  go_wp2_with (first
    | (go_at_call 12; (with_reducible refine (valid_any o _).mono ?_); rintro e w1 ⟨rfl, hb⟩; have HB1 := Lib.hid (below_tr HB.out hb); have hc := (BX.next HP.out hb).cell; have d0 := hc 0; have d1 := hc 1; have d2 := hc 2; have d3 := hc 3; have d4 := hc 4; have d5 := hc 5; have d6 := hc 6; clear hb hc)
    | (go_at_call 38; (with_reducible refine (isMinute_any _ _).mono ?_); rintro e wm ⟨rfl, rfl⟩)
    | (go_at_call 44; (with_reducible refine (isDelay_any _ _).mono ?_); rintro e wd ⟨rfl, rfl⟩)
    | (go_at_call 39; (with_reducible refine (CP.out _).mono ?_); rintro e w2 ⟨rfl, hb⟩; replace HB1 := Lib.hid (below_tr HB1.out hb); clear hb d0 d1 d2 d3 d4 d5 d6)
    | (go_at_call 35; (with_reducible refine (CF.out _).mono ?_); rintro e w3 ⟨rfl, hb⟩; replace HB1 := Lib.hid (below_tr HB1.out hb); clear hb))
  go_ret2
  exact ⟨rfl, HB1.out⟩
theorem asked_no {o : Orb} {t late : Int} (h : asked o t late = false) : okB o = false ∨ (okB o = true ∧ isMin t = false) ∨ (okB o = true ∧ isMin t = true ∧ isDel late = false) := by
  unfold asked at h
  revert h
  cases okB o <;> cases isMin t <;> cases isDel late <;> simp
set_option maxRecDepth 100000 in
set_option maxHeartbeats 1000000 in
theorem ask_no (o : Orb) (t late : Int) (h : asked o t late = false) (k : Nat) (w : World) :
    Calls Try.prog 31 #[OV o, .int .i64 t, .int .i64 late, .func (.func k) #[] #[]] w (OutV w (.tuple #[.int .i64 0, .int .i64 70])) := by
  obtain ⟨V, B, hV, hBn, hb, hk⟩ := box1 w (OC o) 24
  have HP := Lib.hid (show BX V B (OC o) 24 from hk)
  have HB := Lib.hid hb
  have c0 := BX.cell HP.out 0; have c1 := BX.cell HP.out 1; have c2 := BX.cell HP.out 2; have c3 := BX.cell HP.out 3; have c4 := BX.cell HP.out 4; have c5 := BX.cell HP.out 5; have c6 := BX.cell HP.out 6
  clear hb hk
  rcases asked_no h with e1 | ⟨e1, e2⟩ | ⟨e1, e2, e3⟩
  all_goals
    clear h
    go_enter Try.func31, Try.ntmps31
    go_wp2_with (first
    | (go_at_call 12; (with_reducible refine (valid_any o _).mono ?_); rintro e w1 ⟨rfl, hb⟩; have HB1 := Lib.hid (below_tr HB.out hb); have hc := (BX.next HP.out hb).cell; have d0 := hc 0; have d1 := hc 1; have d2 := hc 2; have d3 := hc 3; have d4 := hc 4; have d5 := hc 5; have d6 := hc 6; clear hb hc)
    | (go_at_call 38; (with_reducible refine (isMinute_any _ _).mono ?_); rintro e wm ⟨rfl, rfl⟩)
    | (go_at_call 44; (with_reducible refine (isDelay_any _ _).mono ?_); rintro e wd ⟨rfl, rfl⟩))
    go_ret2
    exact ⟨rfl, HB1.out⟩
set_option maxRecDepth 100000 in
set_option maxHeartbeats 1000000 in
theorem rowS_yes (o : Orb) (t late : Int) (h : asked o t late = true) (w : World) :
    Calls Try.prog 15 #[OV o, .int .i64 t, .int .i64 late] w (OutV w (.tuple #[.int .i64 (rowZ o (t - late)), .int .i64 0])) := by
  have CA := Lib.hid (fun W => ask_row o t late h W)
  obtain ⟨V, B, hV, hBn, hb, hk⟩ := box1 w (OC o) 24
  have HB := Lib.hid hb
  have HP := Lib.hid (show BX V B (OC o) 24 from hk)
  have c0 := BX.cell HP.out 0; have c1 := BX.cell HP.out 1; have c2 := BX.cell HP.out 2; have c3 := BX.cell HP.out 3; have c4 := BX.cell HP.out 4; have c5 := BX.cell HP.out 5; have c6 := BX.cell HP.out 6
  clear hb hk h
  go_enter Try.func15, Try.ntmps15
  go_wp2_with fail
  (with_reducible refine (CA.out _).mono ?_)
  rintro e w1 ⟨rfl, hb⟩
  replace HB := Lib.hid (below_tr HB.out hb)
  clear hb c0 c1 c2 c3 c4 c5 c6
  go_wp2
  go_ret2
  exact ⟨rfl, HB.out⟩
set_option maxRecDepth 100000 in
set_option maxHeartbeats 1000000 in
theorem rowS_no (o : Orb) (t late : Int) (h : asked o t late = false) (w : World) :
    Calls Try.prog 15 #[OV o, .int .i64 t, .int .i64 late] w (OutV w (.tuple #[.int .i64 0, .int .i64 70])) := by
  have CA := Lib.hid (fun W => ask_no o t late h 32 W)
  obtain ⟨V, B, hV, hBn, hb, hk⟩ := box1 w (OC o) 24
  have HB := Lib.hid hb
  have HP := Lib.hid (show BX V B (OC o) 24 from hk)
  have c0 := BX.cell HP.out 0; have c1 := BX.cell HP.out 1; have c2 := BX.cell HP.out 2; have c3 := BX.cell HP.out 3; have c4 := BX.cell HP.out 4; have c5 := BX.cell HP.out 5; have c6 := BX.cell HP.out 6
  clear hb hk h
  go_enter Try.func15, Try.ntmps15
  go_wp2_with fail
  (with_reducible refine (CA.out _).mono ?_)
  rintro e w1 ⟨rfl, hb⟩
  replace HB := Lib.hid (below_tr HB.out hb)
  clear hb c0 c1 c2 c3 c4 c5 c6
  go_wp2
  go_ret2
  exact ⟨rfl, HB.out⟩
set_option maxRecDepth 100000 in
set_option maxHeartbeats 1000000 in
theorem colS_yes (o : Orb) (t late : Int) (h : asked o t late = true) (w : World) :
    Calls Try.prog 17 #[OV o, .int .i64 t, .int .i64 late] w (OutV w (.tuple #[.int .i64 (colZ o (t - late)), .int .i64 0])) := by
  have CA := Lib.hid (fun W => ask_col o t late h W)
  obtain ⟨V, B, hV, hBn, hb, hk⟩ := box1 w (OC o) 24
  have HB := Lib.hid hb
  have HP := Lib.hid (show BX V B (OC o) 24 from hk)
  have c0 := BX.cell HP.out 0; have c1 := BX.cell HP.out 1; have c2 := BX.cell HP.out 2; have c3 := BX.cell HP.out 3; have c4 := BX.cell HP.out 4; have c5 := BX.cell HP.out 5; have c6 := BX.cell HP.out 6
  clear hb hk h
  go_enter Try.func17, Try.ntmps17
  go_wp2_with fail
  (with_reducible refine (CA.out _).mono ?_)
  rintro e w1 ⟨rfl, hb⟩
  replace HB := Lib.hid (below_tr HB.out hb)
  clear hb c0 c1 c2 c3 c4 c5 c6
  go_wp2
  go_ret2
  exact ⟨rfl, HB.out⟩
set_option maxRecDepth 100000 in
set_option maxHeartbeats 1000000 in
theorem colS_no (o : Orb) (t late : Int) (h : asked o t late = false) (w : World) :
    Calls Try.prog 17 #[OV o, .int .i64 t, .int .i64 late] w (OutV w (.tuple #[.int .i64 0, .int .i64 70])) := by
  have CA := Lib.hid (fun W => ask_no o t late h 35 W)
  obtain ⟨V, B, hV, hBn, hb, hk⟩ := box1 w (OC o) 24
  have HB := Lib.hid hb
  have HP := Lib.hid (show BX V B (OC o) 24 from hk)
  have c0 := BX.cell HP.out 0; have c1 := BX.cell HP.out 1; have c2 := BX.cell HP.out 2; have c3 := BX.cell HP.out 3; have c4 := BX.cell HP.out 4; have c5 := BX.cell HP.out 5; have c6 := BX.cell HP.out 6
  clear hb hk h
  go_enter Try.func17, Try.ntmps17
  go_wp2_with fail
  (with_reducible refine (CA.out _).mono ?_)
  rintro e w1 ⟨rfl, hb⟩
  replace HB := Lib.hid (below_tr HB.out hb)
  clear hb c0 c1 c2 c3 c4 c5 c6
  go_wp2
  go_ret2
  exact ⟨rfl, HB.out⟩
set_option maxRecDepth 100000 in
set_option maxHeartbeats 1000000 in
theorem ask_cell (o : Orb) (t late : Int) (h : asked o t late = true) (w : World) :
    Calls Try.prog 36 #[OV o, .int .i64 t, .int .i64 late, .func (.func 37) #[] #[]] w (OutV w (.tuple #[KV (celO o (t - late)), .int .i64 0])) := by
  obtain ⟨ho, ht, hl⟩ := asked_iff.1 h
  have e1 : okB o = true := okB_iff.2 ho
  have e2 : isMin t = true := isMin_iff.2 ht
  have e3 : isDel late = true := isDel_iff.2 hl
  have CP := Lib.hid (fun W => pathOf_any o ho W)
  have CF := Lib.hid (fun W => pcell_any o (t - late) ho (by unfold okM; omega) W)
  obtain ⟨t0, t1⟩ := ht
  obtain ⟨l0, l1⟩ := hl
  obtain ⟨V, B, hV, hBn, hb, hk⟩ := box1 w (OC o) 24
  obtain ⟨X, C, hX, hCn, hb2, hk2⟩ := box1 V #[.int .i64 0, .int .i64 0] 38
  have HN := Lib.hid (show w.heap.size ≤ C from by have := hb.size; omega)
  have HP := Lib.hid (show BX X B (OC o) 24 from BX.next hk hb2)
  have HC := Lib.hid (show BX X C #[.int .i64 0, .int .i64 0] 38 from hk2)
  have HB := Lib.hid (below_tr hb hb2)
  have c0 := BX.cell HP.out 0; have c1 := BX.cell HP.out 1; have c2 := BX.cell HP.out 2; have c3 := BX.cell HP.out 3; have c4 := BX.cell HP.out 4; have c5 := BX.cell HP.out 5; have c6 := BX.cell HP.out 6
  clear hb hk hb2 hk2 h ho
  generalize celO o (t - late) = r at *
  go_enter Try.func36, Try.ntmps36
  go_wp2_with (first
    | (go_at_call 12; (with_reducible refine (valid_any o _).mono ?_); rintro e w1 ⟨rfl, hb⟩; have HB1 := Lib.hid (below_tr HB.out hb); have hc := (BX.next HP.out hb).cell; have d0 := hc 0; have d1 := hc 1; have d2 := hc 2; have d3 := hc 3; have d4 := hc 4; have d5 := hc 5; have d6 := hc 6; have HC1 := Lib.hid (BX.next HC.out hb); clear hb hc)
    | (go_at_call 38; (with_reducible refine (isMinute_any _ _).mono ?_); rintro e wm ⟨rfl, rfl⟩)
    | (go_at_call 44; (with_reducible refine (isDelay_any _ _).mono ?_); rintro e wd ⟨rfl, rfl⟩)
    | (go_at_call 39; (with_reducible refine (CP.out _).mono ?_); rintro e w2 ⟨rfl, hb⟩; replace HB1 := Lib.hid (below_tr HB1.out hb); replace HC1 := Lib.hid (BX.next HC1.out hb); clear hb d0 d1 d2 d3 d4 d5 d6)
    | (go_at_call 37; (with_reducible refine (CF.out _).mono ?_); rintro e w3 ⟨rfl, hb⟩; replace HB1 := Lib.hid (below_tr HB1.out hb); replace HC1 := Lib.hid (BX.next HC1.out hb); have k0 := BX.cell HC1.out 0; have k1 := BX.cell HC1.out 1; have k2 := BX.frozen HC1.out 0; have k3 := BX.frozen HC1.out 1; clear hb))
  obtain ⟨Z, hZ⟩ : ∃ Z, (w3.setCell ⟨C, 0, none⟩ (iV r.1.1)).setCell ⟨C, 1, none⟩ (iV r.1.2) = Z := ⟨_, rfl⟩
  have hz1 : BX Z C #[(iV r.1.1), (iV r.1.2)] 38 := by rw [← hZ]; exact BX.put (BX.put HC1.out _) _
  have hz2 : Below w.heap.size w Z := by rw [← hZ]; exact (HB1.out.setCell (p := ⟨C, 0, none⟩) HN.out _).setCell (p := ⟨C, 1, none⟩) HN.out _
  rw [hZ]
  exact bodyPost_ret (results_row_tmp rfl _ _ C 38 _ (0, 0) _ rfl hz1 Try.underlying38 rfl sizeCell _ rfl) rfl ⟨rfl, hz2⟩
set_option maxRecDepth 100000 in
set_option maxHeartbeats 1000000 in
theorem ask_cellno (o : Orb) (t late : Int) (h : asked o t late = false) (k : Nat) (w : World) :
    Calls Try.prog 36 #[OV o, .int .i64 t, .int .i64 late, .func (.func k) #[] #[]] w (OutV w (.tuple #[CV 0 0, .int .i64 70])) := by
  obtain ⟨V, B, hV, hBn, hb, hk⟩ := box1 w (OC o) 24
  obtain ⟨X, C, hX, hCn, hb2, hk2⟩ := box1 V #[.int .i64 0, .int .i64 0] 38
  have HN := Lib.hid (show w.heap.size ≤ C from by have := hb.size; omega)
  have HP := Lib.hid (show BX X B (OC o) 24 from BX.next hk hb2)
  have HC := Lib.hid (show BX X C #[.int .i64 0, .int .i64 0] 38 from hk2)
  have HB := Lib.hid (below_tr hb hb2)
  have c0 := BX.cell HP.out 0; have c1 := BX.cell HP.out 1; have c2 := BX.cell HP.out 2; have c3 := BX.cell HP.out 3; have c4 := BX.cell HP.out 4; have c5 := BX.cell HP.out 5; have c6 := BX.cell HP.out 6
  clear hb hk hb2 hk2
  rcases asked_no h with e1 | ⟨e1, e2⟩ | ⟨e1, e2, e3⟩
  all_goals
    clear h
    go_enter Try.func36, Try.ntmps36
    go_wp2_with (first
    | (go_at_call 12; (with_reducible refine (valid_any o _).mono ?_); rintro e w1 ⟨rfl, hb⟩; obtain ⟨Y, D, hY, hDn, hb3, hk3⟩ := box1 w1 #[.int .i64 0, .int .i64 0] 38; have HC1 := BX.next (BX.next HC.out hb) hb3; have HCY := Lib.hid HC1; have HBY := Lib.hid (below_tr (below_tr HB.out hb) hb3); have y0 := row_cell hk3 0; have y1 := row_cell hk3 1; have k0 := BX.cell HC1 0; have k1 := BX.cell HC1 1; have k2 := BX.frozen HC1 0; have k3 := BX.frozen HC1 1; clear hb HC1 hb3 hk3)
    | (go_at_call 38; (with_reducible refine (isMinute_any _ _).mono ?_); rintro e wm ⟨rfl, rfl⟩)
    | (go_at_call 44; (with_reducible refine (isDelay_any _ _).mono ?_); rintro e wd ⟨rfl, rfl⟩))
    obtain ⟨Z, hZ⟩ : ∃ Z, (Y.setCell ⟨C, 0, none⟩ (iZ 0)).setCell ⟨C, 1, none⟩ (iZ 0) = Z := ⟨_, rfl⟩
    have hz1 : BX Z C #[(iZ 0), (iZ 0)] 38 := by rw [← hZ]; exact BX.put (BX.put HCY.out _) _
    have hz2 : Below w.heap.size w Z := by rw [← hZ]; exact (HBY.out.setCell (p := ⟨C, 0, none⟩) HN.out _).setCell (p := ⟨C, 1, none⟩) HN.out _
    rw [hZ]
    exact bodyPost_ret (results_row_tmp rfl _ _ C 38 _ (0, 0) _ rfl hz1 Try.underlying38 rfl sizeCell _ rfl) rfl ⟨rfl, hz2⟩
set_option maxRecDepth 100000 in
set_option maxHeartbeats 1000000 in
theorem atS_yes (o : Orb) (t late : Int) (h : asked o t late = true) (w : World) :
    Calls Try.prog 19 #[OV o, .int .i64 t, .int .i64 late] w (OutV w (.tuple #[KV (celO o (t - late)), .int .i64 0])) := by
  have CA := Lib.hid (fun W => ask_cell o t late h W)
  obtain ⟨V, B, hV, hBn, hb, hk⟩ := box1 w (OC o) 24
  obtain ⟨X, C, hX, hCn, hb2, hk2⟩ := box1 V #[.int .i64 0, .int .i64 0] 38
  have HN := Lib.hid (show w.heap.size ≤ C from by have := hb.size; omega)
  have HP := Lib.hid (show BX X B (OC o) 24 from BX.next hk hb2)
  have HC := Lib.hid (show BX X C #[.int .i64 0, .int .i64 0] 38 from hk2)
  have HB := Lib.hid (below_tr hb hb2)
  have c0 := BX.cell HP.out 0; have c1 := BX.cell HP.out 1; have c2 := BX.cell HP.out 2; have c3 := BX.cell HP.out 3; have c4 := BX.cell HP.out 4; have c5 := BX.cell HP.out 5; have c6 := BX.cell HP.out 6
  clear hb hk hb2 hk2
  clear h
  generalize celO o (t - late) = r at *
  go_enter Try.func19, Try.ntmps19
  go_wp2_with fail
  (with_reducible refine (CA.out _).mono ?_)
  rintro e w1 ⟨rfl, hb⟩
  replace HB := Lib.hid (below_tr HB.out hb)
  replace HC := Lib.hid (BX.next HC.out hb)
  have k0 := BX.cell HC.out 0; have k1 := BX.cell HC.out 1; have k2 := BX.frozen HC.out 0; have k3 := BX.frozen HC.out 1
  clear hb c0 c1 c2 c3 c4 c5 c6
  go_wp2
  obtain ⟨Z, hZ⟩ : ∃ Z, (w1.setCell ⟨C, 0, none⟩ (iV r.1.1)).setCell ⟨C, 1, none⟩ (iV r.1.2) = Z := ⟨_, rfl⟩
  have hz1 : BX Z C #[(iV r.1.1), (iV r.1.2)] 38 := by rw [← hZ]; exact BX.put (BX.put HC.out _) _
  have hz2 : Below w.heap.size w Z := by rw [← hZ]; exact (HB.out.setCell (p := ⟨C, 0, none⟩) HN.out _).setCell (p := ⟨C, 1, none⟩) HN.out _
  rw [hZ]
  exact bodyPost_ret (results_row_tmp rfl _ _ C 38 _ (0, 0) _ rfl hz1 Try.underlying38 rfl sizeCell _ rfl) rfl ⟨rfl, hz2⟩
set_option maxRecDepth 100000 in
set_option maxHeartbeats 1000000 in
theorem atS_no (o : Orb) (t late : Int) (h : asked o t late = false) (w : World) :
    Calls Try.prog 19 #[OV o, .int .i64 t, .int .i64 late] w (OutV w (.tuple #[CV 0 0, .int .i64 70])) := by
  have CA := Lib.hid (fun W => ask_cellno o t late h 37 W)
  obtain ⟨V, B, hV, hBn, hb, hk⟩ := box1 w (OC o) 24
  obtain ⟨X, C, hX, hCn, hb2, hk2⟩ := box1 V #[.int .i64 0, .int .i64 0] 38
  have HN := Lib.hid (show w.heap.size ≤ C from by have := hb.size; omega)
  have HP := Lib.hid (show BX X B (OC o) 24 from BX.next hk hb2)
  have HC := Lib.hid (show BX X C #[.int .i64 0, .int .i64 0] 38 from hk2)
  have HB := Lib.hid (below_tr hb hb2)
  have c0 := BX.cell HP.out 0; have c1 := BX.cell HP.out 1; have c2 := BX.cell HP.out 2; have c3 := BX.cell HP.out 3; have c4 := BX.cell HP.out 4; have c5 := BX.cell HP.out 5; have c6 := BX.cell HP.out 6
  clear hb hk hb2 hk2
  clear h
  go_enter Try.func19, Try.ntmps19
  go_wp2_with fail
  (with_reducible refine (CA.out _).mono ?_)
  rintro e w1 ⟨rfl, hb⟩
  replace HB := Lib.hid (below_tr HB.out hb)
  replace HC := Lib.hid (BX.next HC.out hb)
  have k0 := BX.cell HC.out 0; have k1 := BX.cell HC.out 1; have k2 := BX.frozen HC.out 0; have k3 := BX.frozen HC.out 1
  clear hb c0 c1 c2 c3 c4 c5 c6
  go_wp2
  obtain ⟨Z, hZ⟩ : ∃ Z, (w1.setCell ⟨C, 0, none⟩ (iZ 0)).setCell ⟨C, 1, none⟩ (iZ 0) = Z := ⟨_, rfl⟩
  have hz1 : BX Z C #[(iZ 0), (iZ 0)] 38 := by rw [← hZ]; exact BX.put (BX.put HC.out _) _
  have hz2 : Below w.heap.size w Z := by rw [← hZ]; exact (HB.out.setCell (p := ⟨C, 0, none⟩) HN.out _).setCell (p := ⟨C, 1, none⟩) HN.out _
  rw [hZ]
  exact bodyPost_ret (results_row_tmp rfl _ _ C 38 _ (0, 0) _ rfl hz1 Try.underlying38 rfl sizeCell _ rfl) rfl ⟨rfl, hz2⟩
end Go.Proofs.Ytdomgielpofbhaa
