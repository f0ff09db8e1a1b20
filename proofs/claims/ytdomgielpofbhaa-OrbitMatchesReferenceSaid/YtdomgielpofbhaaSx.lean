/- sane, walked: the chapter's examples. -/
import Derived.Test.YtdomgielpofbhaaRs
import Derived.Test.YtdomgielpofbhaaMu
import Derived.Test.YtdomgielpofbhaaTk
namespace Go.Proofs.Ytdomgielpofbhaa
open Go.RowKit Go.Shelf Go.Maps
set_option linter.unusedSimpArgs false
set_option linter.unusedVariables false
def oS : Orb := { p := 100, f := 0, lo := 2000, hi := 22000, nd := 5000, tn := 500, sl := 1 }
def oC : Orb := { p := 100, f := 0, lo := 2000, hi := 22000, nd := 5000, tn := 500, sl := 0 }
abbrev SV : Value := .agg #[.int .i64 100, .int .i64 0, .int .i64 2000, .int .i64 22000, .int .i64 5000, .int .i64 500, .int .i64 1]
abbrev SC : Value := .agg #[.int .i64 100, .int .i64 0, .int .i64 2000, .int .i64 22000, .int .i64 5000, .int .i64 500, .int .i64 0]
def c95 : Cel := ⟨(9, 5), by decide⟩
def c106 : Cel := ⟨(10, 6), by decide⟩
theorem sa_r0 (w : World) : Calls Try.prog 15 #[SV, .int .i64 0, .int .i64 0] w (OutV w (.tuple #[.int .i64 2000, .int .i64 0])) := by
  have e : rowZ oS (0 - 0) = 2000 := by decide
  have h := rowS_yes oS 0 0 (by decide) w
  rw [e] at h
  exact h
theorem sa_r1 (w : World) : Calls Try.prog 15 #[SV, .int .i64 25, .int .i64 0] w (OutV w (.tuple #[.int .i64 12000, .int .i64 0])) := by
  have e : rowZ oS (25 - 0) = 12000 := by decide
  have h := rowS_yes oS 25 0 (by decide) w
  rw [e] at h
  exact h
theorem sa_r2 (w : World) : Calls Try.prog 15 #[SV, .int .i64 50, .int .i64 0] w (OutV w (.tuple #[.int .i64 22000, .int .i64 0])) := by
  have e : rowZ oS (50 - 0) = 22000 := by decide
  have h := rowS_yes oS 50 0 (by decide) w
  rw [e] at h
  exact h
theorem sa_r3 (w : World) : Calls Try.prog 15 #[SV, .int .i64 75, .int .i64 0] w (OutV w (.tuple #[.int .i64 12000, .int .i64 0])) := by
  have e : rowZ oS (75 - 0) = 12000 := by decide
  have h := rowS_yes oS 75 0 (by decide) w
  rw [e] at h
  exact h
theorem sa_r4 (w : World) : Calls Try.prog 15 #[SV, .int .i64 100, .int .i64 0] w (OutV w (.tuple #[.int .i64 2000, .int .i64 0])) := by
  have e : rowZ oS (100 - 0) = 2000 := by decide
  have h := rowS_yes oS 100 0 (by decide) w
  rw [e] at h
  exact h
theorem sa_c0 (w : World) : Calls Try.prog 17 #[SV, .int .i64 10, .int .i64 0] w (OutV w (.tuple #[.int .i64 10000, .int .i64 0])) := by
  have e : colZ oS (10 - 0) = 10000 := by decide
  have h := colS_yes oS 10 0 (by decide) w
  rw [e] at h
  exact h
theorem sa_c1 (w : World) : Calls Try.prog 17 #[SV, .int .i64 100, .int .i64 0] w (OutV w (.tuple #[.int .i64 7000, .int .i64 0])) := by
  have e : colZ oS (100 - 0) = 7000 := by decide
  have h := colS_yes oS 100 0 (by decide) w
  rw [e] at h
  exact h
theorem sa_a0 (w : World) : Calls Try.prog 19 #[SV, .int .i64 10, .int .i64 0] w (OutV w (.tuple #[.agg #[.int .i64 10, .int .i64 6], .int .i64 0])) := by
  have e : celO oS (10 - 0) = c106 := by decide
  have h := atS_yes oS 10 0 (by decide) w
  rw [e] at h
  exact h
theorem sa_a1 (w : World) : Calls Try.prog 19 #[SV, .int .i64 10, .int .i64 1] w (OutV w (.tuple #[.agg #[.int .i64 9, .int .i64 5], .int .i64 0])) := by
  have e : celO oS (10 - 1) = c95 := by decide
  have h := atS_yes oS 10 1 (by decide) w
  rw [e] at h
  exact h
theorem sa_a2 (w : World) : Calls Try.prog 19 #[SV, .int .i64 (-1), .int .i64 0] w (OutV w (.tuple #[.agg #[.int .i64 0, .int .i64 0], .int .i64 70])) := by
  have h := atS_no oS (-1) 0 (by decide) w
  exact h
theorem sa_could : Could oS 10 [c95, c106] := by
  have e : trk oS (10 - oS.sl) (2 * oS.sl + 1).toNat = [c95, c106, c106] := by decide
  refine ⟨by unfold Srt; decide, fun c => ?_⟩
  rw [e]
  simp
theorem sa_calm : Could oC 10 [c106] := by
  have e : trk oC (10 - oC.sl) (2 * oC.sl + 1).toNat = [c106] := by decide
  exact ⟨by unfold Srt; decide, fun c => by rw [e]⟩
theorem sa_l (w : World) : Calls Try.prog 21 #[SV, .int .i64 10] w fun e w' => ∃ al c, e = .returned (.tuple #[.slice al 2 c, .int .i64 0]) ∧ Cs w' al 2 [c95, c106] ∧ Below w.heap.size w w' := by
  refine Calls.mono (show Calls Try.prog 21 #[OV oS, .int .i64 10] w _ from couldS_yes oS 10 (by decide) w) ?_
  rintro e w' ⟨l, hl, al, c, he, hcs, hb⟩
  obtain rfl := could_one hl sa_could
  exact ⟨al, c, he, hcs, hb⟩
theorem sa_m (w : World) : Calls Try.prog 23 #[SV, .int .i64 10] w (OutV w (.tuple #[.agg #[.int .i64 0, .int .i64 0], .bool false])) := by
  refine Calls.mono (show Calls Try.prog 23 #[OV oS, .int .i64 10] w _ from mustS_yes oS 10 (by decide) w) ?_
  rintro e w' ⟨l, hl, h⟩
  obtain rfl := could_one hl sa_could
  exact h
theorem sa_mc (w : World) : Calls Try.prog 23 #[SC, .int .i64 10] w (OutV w (.tuple #[.agg #[.int .i64 10, .int .i64 6], .bool true])) := by
  refine Calls.mono (show Calls Try.prog 23 #[OV oC, .int .i64 10] w _ from mustS_yes oC 10 (by decide) w) ?_
  rintro e w' ⟨l, hl, h⟩
  obtain rfl := could_one hl sa_calm
  exact h
theorem sa_t (w : World) : Calls Try.prog 26 #[SV, .agg #[.int .i64 9, .int .i64 11], .int .i64 0] w fun e w' => ∃ al c, e = .returned (.tuple #[.slice al 2 c, .int .i64 0]) ∧ Cs w' al 2 [c95, c106] ∧ Below w.heap.size w w' := by
  have e : trk oS (9 - 0) (11 - 9 : Int).toNat = [c95, c106] := by decide
  have h := track_yes oS 9 11 0 (by decide) (by decide) w
  rw [e] at h
  exact h
theorem sa_v (w : World) : Calls Try.prog 12 #[SV] w (OutV w (.bool true)) := valid_any oS w
theorem sa_z (w : World) : Calls Try.prog 12 #[.agg #[.int .i64 0, .int .i64 0, .int .i64 0, .int .i64 0, .int .i64 0, .int .i64 0, .int .i64 0]] w (OutV w (.bool false)) := valid_any { p := 0, f := 0, lo := 0, hi := 0, nd := 0, tn := 0, sl := 0 } w
theorem sa_same (al : Option Addr) (ac B : Nat) (w : World) (h : Cs w al 2 [c95, c106]) (hB0 : VR B #[.int .i64 9, .int .i64 5, .int .i64 10, .int .i64 6] 38 w) :
    Calls Try.prog 25 #[.slice al 2 ac, .slice (some ⟨B, 0, none⟩) 2 2] w (OutV w (.bool true)) := by
  have hB : BX w B #[.int .i64 9, .int .i64 5, .int .i64 10, .int .i64 6] 38 := hB0
  have h2 : Cs w (some ⟨B, 0, none⟩) ([c95, c106] : List Cel).length [c95, c106] := ⟨rfl, by simp, .inr ⟨B, rfl, hB.lt, fun i p hi => by
    rcases i with _ | _ | i
    · cases hi; exact ⟨hB.cell 0, hB.cell 1⟩
    · cases hi; exact ⟨hB.cell 2, hB.cell 3⟩
    · simp at hi⟩⟩
  have hh := same_any al (some ⟨B, 0, none⟩) ac 2 [c95, c106] [c95, c106] w h h2
  rw [show decide ([c95, c106] = [c95, c106]) = true from by simp] at hh
  exact hh
end Go.Proofs.Ytdomgielpofbhaa
