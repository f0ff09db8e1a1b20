/- Valid, walked: the program's and the reference's. -/
import Derived.Test.YtdomgielpofbhaaVa
namespace Go.Proofs.Ytdomgielpofbhaa
open Go.RowKit Go.Shelf
set_option linter.unusedSimpArgs false
set_option linter.unusedVariables false
theorem tm2 {z : Int} : z.tmod 2 = 0 ↔ z % 2 = 0 := by rw [← Int.dvd_iff_tmod_eq_zero, Int.dvd_iff_emod_eq_zero]
/-- An orbit in a block. -/
theorem box_o (w : World) (o : Orb) : ∃ V, w.alloc (.cells (OC o) 24) = V ∧ Below w.heap.size w V ∧ BX V w.heap.size (OC o) 24 :=
  ⟨_, rfl, (Below.refl _ _).alloc (Nat.le_refl _) _, BX.new rfl⟩
set_option maxRecDepth 100000 in
set_option maxHeartbeats 2000000 in
theorem valid_any (o : Orb) (w : World) : Calls Try.prog 12 #[OV o] w (OutV w (.bool (okB o))) := by
  obtain ⟨V, hV, hb, hk⟩ := box_o w o
  have HB := Lib.hid hb
  have c0 := hk.cell 0; have c1 := hk.cell 1; have c2 := hk.cell 2; have c3 := hk.cell 3; have c4 := hk.cell 4; have c5 := hk.cell 5; have c6 := hk.cell 6
  clear hb hk
  go_enter Try.func12, Try.ntmps12
  go_wp2
  all_goals
    simp only [tm2] at *
    go_ret
    exact ⟨ret_bool' (by rw [Bool.eq_iff_iff, okB_iff]; unfold okO; simp only [decide_eq_true_eq, Bool.false_eq_true, true_iff, false_iff]; omega), HB.out⟩
end Go.Proofs.Ytdomgielpofbhaa
