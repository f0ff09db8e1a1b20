/- Integer layer, merged: Nsh. -/
import Derived.Test.YtcjcafekacceiaaGreatDoorC
/-! A natural's slice. -/
namespace Go.Proofs.YtcjcafekacceiaaGreatDoor
open Go.RowKit

theorem Nt.shape {w : World} {v : Value} {n : Nat} (h : Nt w v n) : ∃ al c, v = .slice al (dz 10000 n).length c := by
  obtain ⟨al, c, h, _⟩ := Ls.shape h
  exact ⟨al, c, h⟩

end Go.Proofs.YtcjcafekacceiaaGreatDoor
