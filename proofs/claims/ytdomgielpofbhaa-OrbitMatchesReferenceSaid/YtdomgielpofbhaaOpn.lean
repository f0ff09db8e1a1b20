/- How a law's arguments open: an array of seven integers, an array of two integers, by value. -/
import Derived.Test.YtdomgielpofbhaaLaw
import Derived.Test.YtdomgielpofbhaaLn
namespace Go.Proofs.Ytdomgielpofbhaa
open Go.ChangeShapes Go.WideShapes Go.ChangeAt Go.RowKit
set_option linter.unusedVariables false
set_option linter.unusedSimpArgs false
theorem wf_i64 {z : Int} (w : (Lit.int .i64 z).wf = true) : -9223372036854775808 ≤ z ∧ z ≤ 9223372036854775807 := by simpa [Lit.wf, IntKind.min, IntKind.max, IntKind.signed, IntKind.bits] using w
/-- An array of 7 ints, by value. -/
theorem open_ints7 {H : Type} {enc : TypeId × Value → H} {P : Program} {w : World} {base b0 : Nat} {spare : Nat → Bool} {held : Bool} {r : Reach} {t e : TypeId} {v : Value} {d : DataW H} {p : List MemPlace}
    (ht : P.underlying t = some (.array 7 e)) (he : P.underlying e = some (.int .i64)) (hce : P.cellsOf e = 1) (hct : P.cellsOf t = 7)
    (hv : Value.okWide P w r b0 t v) (h : DataW.Trod enc P w base spare held t v d p) :
    ∃ z0 z1 z2 z3 z4 z5 z6 : Int, v = X7 z0 z1 z2 z3 z4 z5 z6 ∧ I64 z0 ∧ I64 z1 ∧ I64 z2 ∧ I64 z3 ∧ I64 z4 ∧ I64 z5 ∧ I64 z6 := by
  simp only [Value.okWide, ht] at hv
  obtain ⟨cs, rfl, hcs, _⟩ := hv
  obtain ⟨fuel, hf⟩ := h
  obtain ⟨xs, m, _, _, hcl, hxl, hel⟩ := DataW.trod_array ht hf
  have h0 := hel 0 (by omega)
  have h1 := hel 1 (by omega)
  have h2 := hel 2 (by omega)
  have h3 := hel 3 (by omega)
  have h4 := hel 4 (by omega)
  have h5 := hel 5 (by omega)
  have h6 := hel 6 (by omega)
  rw [hce] at h0 h1 h2 h3 h4 h5 h6
  obtain ⟨x0, x1, x2, x3, x4, x5, x6, rfl⟩ : ∃ x0 x1 x2 x3 x4 x5 x6, xs = [x0, x1, x2, x3, x4, x5, x6] := by
    match xs, hxl with
    | [x0, x1, x2, x3, x4, x5, x6], _ => exact ⟨x0, x1, x2, x3, x4, x5, x6, rfl⟩
  obtain ⟨z0, e0, _, w0⟩ := DataW.trod_int he (x := x0) h0
  obtain ⟨z1, e1, _, w1⟩ := DataW.trod_int he (x := x1) h1
  obtain ⟨z2, e2, _, w2⟩ := DataW.trod_int he (x := x2) h2
  obtain ⟨z3, e3, _, w3⟩ := DataW.trod_int he (x := x3) h3
  obtain ⟨z4, e4, _, w4⟩ := DataW.trod_int he (x := x4) h4
  obtain ⟨z5, e5, _, w5⟩ := DataW.trod_int he (x := x5) h5
  obtain ⟨z6, e6, _, w6⟩ := DataW.trod_int he (x := x6) h6
  rw [hct] at hcs
  obtain ⟨cl⟩ := cs
  match cl, hcs with
  | [y0, y1, y2, y3, y4, y5, y6], _ =>
    simp [Value.cells] at e0 e1 e2 e3 e4 e5 e6
    exact ⟨z0, z1, z2, z3, z4, z5, z6, by rw [e0, e1, e2, e3, e4, e5, e6], wf_i64 w0, wf_i64 w1, wf_i64 w2, wf_i64 w3, wf_i64 w4, wf_i64 w5, wf_i64 w6⟩
/-- An array of 2 ints, by value. -/
theorem open_ints2 {H : Type} {enc : TypeId × Value → H} {P : Program} {w : World} {base b0 : Nat} {spare : Nat → Bool} {held : Bool} {r : Reach} {t e : TypeId} {v : Value} {d : DataW H} {p : List MemPlace}
    (ht : P.underlying t = some (.array 2 e)) (he : P.underlying e = some (.int .i64)) (hce : P.cellsOf e = 1) (hct : P.cellsOf t = 2)
    (hv : Value.okWide P w r b0 t v) (h : DataW.Trod enc P w base spare held t v d p) :
    ∃ a b : Int, v = .agg #[.int .i64 a, .int .i64 b] ∧ I64 a ∧ I64 b := by
  simp only [Value.okWide, ht] at hv
  obtain ⟨cs, rfl, hcs, _⟩ := hv
  obtain ⟨fuel, hf⟩ := h
  obtain ⟨xs, m, _, _, hcl, hxl, hel⟩ := DataW.trod_array ht hf
  have h0 := hel 0 (by omega)
  have h1 := hel 1 (by omega)
  rw [hce] at h0 h1
  obtain ⟨x0, x1, rfl⟩ : ∃ x0 x1, xs = [x0, x1] := by
    match xs, hxl with
    | [x0, x1], _ => exact ⟨x0, x1, rfl⟩
  obtain ⟨a, ea, _, wa⟩ := DataW.trod_int he (x := x0) h0
  obtain ⟨b, eb, _, wb⟩ := DataW.trod_int he (x := x1) h1
  rw [hct] at hcs
  obtain ⟨cl⟩ := cs
  match cl, hcs with
  | [y0, y1], _ =>
    simp [Value.cells] at ea eb
    exact ⟨a, b, by rw [ea, eb], wf_i64 wa, wf_i64 wb⟩
end Go.Proofs.Ytdomgielpofbhaa
