/- Program and reference, pair by pair: the same answer for whatever orbit, minute and delay. -/
import Derived.Test.YtdomgielpofbhaaRn
import Derived.Test.YtdomgielpofbhaaMu
namespace Go.Proofs.Ytdomgielpofbhaa
open Go.RowKit Go.Shelf Go.Maps
set_option linter.unusedSimpArgs false
set_option linter.unusedVariables false
theorem row_pair (o : Orb) (t late : Int) : ∃ z er : Int, (∀ w, Calls Try.prog 15 #[OV o, .int .i64 t, .int .i64 late] w (OutV w (.tuple #[.int .i64 z, .int .i64 er]))) ∧
    ∀ w, Calls Try.prog 16 #[OV o, .int .i64 t, .int .i64 late] w (OutV w (.tuple #[.int .i64 z, .int .i64 er])) := by
  cases h : asked o t late
  · exact ⟨0, 70, fun w => rowS_no o t late h w, fun w => rrow_no o t late h w⟩
  · exact ⟨_, 0, fun w => rowS_yes o t late h w, fun w => rrow_yes o t late h w⟩
theorem col_pair (o : Orb) (t late : Int) : ∃ z er : Int, (∀ w, Calls Try.prog 17 #[OV o, .int .i64 t, .int .i64 late] w (OutV w (.tuple #[.int .i64 z, .int .i64 er]))) ∧
    ∀ w, Calls Try.prog 18 #[OV o, .int .i64 t, .int .i64 late] w (OutV w (.tuple #[.int .i64 z, .int .i64 er])) := by
  cases h : asked o t late
  · exact ⟨0, 70, fun w => colS_no o t late h w, fun w => rcol_no o t late h w⟩
  · exact ⟨_, 0, fun w => colS_yes o t late h w, fun w => rcol_yes o t late h w⟩
theorem at_pair (o : Orb) (t late : Int) : ∃ x y er : Int, (∀ w, Calls Try.prog 19 #[OV o, .int .i64 t, .int .i64 late] w (OutV w (.tuple #[CV x y, .int .i64 er]))) ∧
    ∀ w, Calls Try.prog 20 #[OV o, .int .i64 t, .int .i64 late] w (OutV w (.tuple #[CV x y, .int .i64 er])) := by
  cases h : asked o t late
  · exact ⟨0, 0, 70, fun w => atS_no o t late h w, fun w => rat_no o t late h w⟩
  · exact ⟨_, _, 0, fun w => atS_yes o t late h w, fun w => rat_yes o t late h w⟩
theorem must_all (o : Orb) (t : Int) (w : World) : Calls Try.prog 23 #[OV o, .int .i64 t] w fun e w' => ∃ l, (askC o t = true → Could o t l) ∧ (askC o t = false → l = []) ∧ OutV w (mustV l) e w' := by
  cases h : askC o t
  · exact (mustS_no o t h w).mono fun e w' he => ⟨[], by simp, by simp, he⟩
  · exact (mustS_yes o t h w).mono fun e w' ⟨l, hl, he⟩ => ⟨l, fun _ => hl, by simp, he⟩
theorem rmust_all (o : Orb) (t : Int) (w : World) : Calls Try.prog 24 #[OV o, .int .i64 t] w fun e w' => ∃ l, (askC o t = true → Could o t l) ∧ (askC o t = false → l = []) ∧ OutV w (mustV l) e w' := by
  cases h : askC o t
  · exact (rmustS_no o t h w).mono fun e w' he => ⟨[], by simp, by simp, he⟩
  · exact (rmustS_yes o t h w).mono fun e w' ⟨l, hl, he⟩ => ⟨l, fun _ => hl, by simp, he⟩
end Go.Proofs.Ytdomgielpofbhaa
