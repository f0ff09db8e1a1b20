/- What RationalField's two walks share. -/
import Derived.Test.YtcjcafekacceiaaGreatDoorFd
namespace Go.Proofs.YtcjcafekacceiaaGreatDoor
open Go.RowKit
def FRes (w : World) (n1 d1 n2 d2 n3 d3 n4 d4 : ByteArray) (e1 e2 e3 e4 : Int) (e : Ending) (w' : World) : Prop :=
  e = .returned (.tuple #[.agg #[.string n1, .string d1, .string n2, .string d2, .string n3, .string d3, .string n4, .string d4], .agg #[.int .i64 e1, .int .i64 e2, .int .i64 e3, .int .i64 e4]]) ∧ Below w.heap.size w w'
theorem box4f {w : World} {B : Nat} {x0 x1 x2 x3 : Value} {T : TypeId} (h : w.heap[B]? = some (.cells #[x0, x1, x2, x3] T)) :
    w.cell? ⟨B, 0, none⟩ = some x0 ∧ w.cell? ⟨B, 1, none⟩ = some x1 ∧ w.cell? ⟨B, 2, none⟩ = some x2 ∧ w.cell? ⟨B, 3, none⟩ = some x3 := by
  refine ⟨?_, ?_, ?_, ?_⟩ <;> simp [World.cell?, h]

end Go.Proofs.YtcjcafekacceiaaGreatDoor
