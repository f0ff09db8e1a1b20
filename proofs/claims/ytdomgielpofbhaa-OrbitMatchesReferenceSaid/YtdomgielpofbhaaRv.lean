/- The reference's Valid, asked. -/
import Derived.Test.YtdomgielpofbhaaAs
namespace Go.Proofs.Ytdomgielpofbhaa
open Go.RowKit Go.Shelf
set_option linter.unusedSimpArgs false
set_option linter.unusedVariables false
set_option maxRecDepth 100000 in
set_option maxHeartbeats 2000000 in
theorem rvalid_a (o : Orb) (h : isIn o.p 20 2000 = false) (w : World) : Calls Try.prog 13 #[OV o] w (OutV w (.bool (okB o))) := by
  obtain ⟨V, hV, hb, hk⟩ := box_o w o
  have HB := Lib.hid hb
  have c0 := hk.cell 0; have c1 := hk.cell 1; have c2 := hk.cell 2; have c3 := hk.cell 3; have c4 := hk.cell 4; have c5 := hk.cell 5; have c6 := hk.cell 6
  have HO := Lib.hid (show okB o = false from by
    cases e : okB o
    · rfl
    · have h1 := okB_iff.1 e
      unfold okO at h1
      have := isIn_iff.2 (show 20 ≤ o.p ∧ o.p ≤ 2000 from ⟨h1.2.1, h1.2.2.1⟩)
      rw [h] at this; cases this)
  clear hb hk
  go_enter Try.func13, Try.ntmps13
  go_wp2_with (go_at_call 30; (with_reducible refine (in_any _ _ _ _).mono ?_); rintro e w' ⟨rfl, rfl⟩)
  go_ret
  exact ⟨ret_bool' HO.out.symm, HB.out⟩
set_option maxRecDepth 100000 in
set_option maxHeartbeats 4000000 in
theorem rvalid_b (o : Orb) (h : isIn o.p 20 2000 = true) (w : World) : Calls Try.prog 13 #[OV o] w (OutV w (.bool (okB o))) := by
  obtain ⟨V, hV, hb, hk⟩ := box_o w o
  have HB := Lib.hid hb
  have c0 := hk.cell 0; have c1 := hk.cell 1; have c2 := hk.cell 2; have c3 := hk.cell 3; have c4 := hk.cell 4; have c5 := hk.cell 5; have c6 := hk.cell 6
  obtain ⟨p0, p1⟩ := isIn_iff.1 h
  clear hb hk
  go_enter Try.func13, Try.ntmps13
  go_wp2_with (go_at_call 30; (with_reducible refine (in_any _ _ _ _).mono ?_); rintro e w' ⟨rfl, rfl⟩)
  all_goals
    simp only [tm2, isIn, decide_eq_true_eq, decide_eq_false_iff_not, Bool.not_eq_true', Bool.not_eq_false'] at *
    go_ret
    exact ⟨ret_bool' (by rw [Bool.eq_iff_iff, okB_iff]; unfold okO; simp only [decide_eq_true_eq, Bool.false_eq_true, true_iff, false_iff]; omega), HB.out⟩
theorem rvalid_any (o : Orb) (w : World) : Calls Try.prog 13 #[OV o] w (OutV w (.bool (okB o))) := by
  cases h : isIn o.p 20 2000
  · exact rvalid_a o h w
  · exact rvalid_b o h w
set_option maxRecDepth 100000 in
set_option maxHeartbeats 2000000 in
theorem rasked_any (o : Orb) (t late : Int) (w : World) : Calls Try.prog 33 #[OV o, .int .i64 t, .int .i64 late] w (OutV w (.bool (asked o t late))) := by
  obtain ⟨V, hV, hb, hk⟩ := box_o w o
  have HB := Lib.hid hb
  have CV := Lib.hid (fun W => rvalid_any o W)
  have HA := Lib.hid (show asked o t late = (okB o && isIn t 0 1000000 && isIn late (-10) 10) from rfl)
  have c0 := hk.cell 0; have c1 := hk.cell 1; have c2 := hk.cell 2; have c3 := hk.cell 3; have c4 := hk.cell 4; have c5 := hk.cell 5; have c6 := hk.cell 6
  clear hb hk
  go_enter Try.func33, Try.ntmps33
  rcases hv : okB o with _ | _
  all_goals
    rw [hv] at CV HA
    go_wp2_with (first
      | (go_at_call 13; (with_reducible refine (CV.out _).mono ?_); rintro e w1 ⟨rfl, hb⟩; have HB1 := Lib.hid (below_tr HB.out hb); clear hb c0 c1 c2 c3 c4 c5 c6)
      | (go_at_call 30; (with_reducible refine (in_any _ _ _ _).mono ?_); rintro e w' ⟨rfl, rfl⟩))
    all_goals
      go_ret
      exact ⟨ret_bool' (by rw [HA.out]; simp_all), HB1.out⟩
end Go.Proofs.Ytdomgielpofbhaa
