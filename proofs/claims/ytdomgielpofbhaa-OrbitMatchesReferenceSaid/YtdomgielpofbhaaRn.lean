/- The reference's Must; answers of program and reference, for whatever orbit and minute. -/
import Derived.Test.YtdomgielpofbhaaRc
import Derived.Test.YtdomgielpofbhaaRu
import Derived.Test.YtdomgielpofbhaaRk
namespace Go.Proofs.Ytdomgielpofbhaa
open Go.RowKit Go.Shelf Go.Maps
set_option linter.unusedSimpArgs false
set_option linter.unusedVariables false
/-- Where a satellite could be, asked well or not: the program's Could. -/
theorem could_all (o : Orb) (t : Int) : ∃ er : Int, (er = 0 ∨ er = 70) ∧ ((askC o t = true ∧ er = 0) ∨ (askC o t = false ∧ er = 70)) ∧ ∀ w, Calls Try.prog 21 #[OV o, .int .i64 t] w fun e w' => ∃ l, (askC o t = true → Could o t l) ∧ (askC o t = false → l = []) ∧ OutL w l er e w' := by
  cases h : askC o t
  · exact ⟨70, .inr rfl, .inr ⟨rfl, rfl⟩, fun w => (could_no o t h w).mono fun e w' he => ⟨[], by simp, by simp, he⟩⟩
  · exact ⟨0, .inl rfl, .inl ⟨rfl, rfl⟩, fun w => (couldS_yes o t h w).mono fun e w' ⟨l, hl, he⟩ => ⟨l, fun _ => hl, by simp, he⟩⟩
/-- The same of the reference's. -/
theorem rcould_all (o : Orb) (t : Int) (er : Int) (her : (askC o t = true ∧ er = 0) ∨ (askC o t = false ∧ er = 70)) (w : World) : Calls Try.prog 22 #[OV o, .int .i64 t] w fun e w' => ∃ l, (askC o t = true → Could o t l) ∧ (askC o t = false → l = []) ∧ OutL w l er e w' := by
  rcases her with ⟨h, rfl⟩ | ⟨h, rfl⟩
  · exact (rcould_yes o t h w).mono fun e w' ⟨l, hl, he⟩ => ⟨l, fun _ => hl, fun h' => absurd (h'.symm.trans h) Bool.false_ne_true, he⟩
  · exact (rcould_no o t h w).mono fun e w' he => ⟨[], fun h' => absurd (h.symm.trans h') Bool.false_ne_true, fun _ => rfl, he⟩
theorem could_same {o : Orb} {t : Int} {l m : List Cel} (h1 : askC o t = true → Could o t l) (h2 : askC o t = false → l = []) (h3 : askC o t = true → Could o t m) (h4 : askC o t = false → m = []) : l = m := by
  cases h : askC o t
  · rw [h2 h, h4 h]
  · exact could_one (h1 h) (h3 h)
theorem rmustS_no (o : Orb) (t : Int) (h : askC o t = false) (w : World) : Calls Try.prog 24 #[OV o, .int .i64 t] w (OutV w (.tuple #[CV 0 0, .bool false])) := rmust_no_of o t (rcould_no o t h) w
theorem rmustS_yes (o : Orb) (t : Int) (h : askC o t = true) (w : World) : Calls Try.prog 24 #[OV o, .int .i64 t] w fun e w' => ∃ l, Could o t l ∧ OutV w (mustV l) e w' := rmust_yes_of o t (rcould_yes o t h) w
/-- A track, asked well or not. -/
def trkA (o : Orb) (f u late : Int) : List Cel := if okB o && trkOK f u late then trk o (f - late) (u - f).toNat else []
def trkE (o : Orb) (f u late : Int) : Int := if okB o && trkOK f u late then 0 else 70
theorem track_all (o : Orb) (f u late : Int) (w : World) : Calls Try.prog 26 #[OV o, .agg #[.int .i64 f, .int .i64 u], .int .i64 late] w (OutL w (trkA o f u late) (trkE o f u late)) := by
  unfold trkA trkE
  cases h : okB o && trkOK f u late
  · exact track_no o f u late h w
  · rw [Bool.and_eq_true] at h
    exact track_yes o f u late (okB_iff.1 h.1) h.2 w
theorem rtrack_all (o : Orb) (f u late : Int) (w : World) : Calls Try.prog 27 #[OV o, .agg #[.int .i64 f, .int .i64 u], .int .i64 late] w (OutL w (trkA o f u late) (trkE o f u late)) := by
  unfold trkA trkE
  cases h : okB o && trkOK f u late
  · exact rtrack_no o f u late h w
  · rw [Bool.and_eq_true] at h
    exact rtrack_yes o f u late (okB_iff.1 h.1) h.2 w
end Go.Proofs.Ytdomgielpofbhaa
