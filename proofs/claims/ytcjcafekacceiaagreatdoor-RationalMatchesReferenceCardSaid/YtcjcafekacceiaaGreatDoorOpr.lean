/- How a struct of two strings opens, that a law takes by value. -/
import Derived.Lib.SmallJoins
import Derived.Test.YtcjcafekacceiaaGreatDoorLaw
namespace Go.Proofs.YtcjcafekacceiaaGreatDoor
open Go.Joins Go.ChangeShapes Go.WideShapes Go.ChangeAt Go.RowKit Go.Deep
theorem open_ratio {H : Type} {enc : TypeId × Value → H} {P : Program} {w : World} {base b0 : Nat} {spare : Nat → Bool} {held : Bool} {r : Reach} {t : TypeId} {f0 f1 : Field} {v : Value} {d : DataW H} {p : List MemPlace}
    (hs : P.underlying t = some (.struct #[f0, f1])) (hone : oneCellFields P #[f0, f1] = true) (hC : P.cellsOf t = 2) (h0 : P.underlying f0.type = some .string) (h1 : P.underlying f1.type = some .string)
    (hv : Value.okWide P w r b0 t v) (h : DataW.Trod enc P w base spare held t v d p) :
    ∃ a b : ByteArray, v = .agg #[.string a, .string b] ∧ a.size ≤ 9223372036854775807 ∧ b.size ≤ 9223372036854775807 := by
  obtain ⟨v0, v1, y0, y1, n, rfl, _, _, g0, g1⟩ := open_agg2 hs hone hC hv h
  obtain ⟨a, ea, _, sa⟩ := DataW.trod_string h0 g0
  obtain ⟨b, eb, _, sb⟩ := DataW.trod_string h1 g1
  cases ea
  cases eb
  exact ⟨a, b, rfl, Nat.le_trans sa (by decide), Nat.le_trans sb (by decide)⟩
end Go.Proofs.YtcjcafekacceiaaGreatDoor
