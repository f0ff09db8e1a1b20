/- How an orbit and a spell among a law's arguments open: structs of seven and of two integers, by value. -/
import Derived.Test.YtdomgielpofbhaaOpn
namespace Go.Proofs.Ytdomgielpofbhaa
open Go.ChangeShapes Go.WideShapes Go.ChangeAt Go.RowKit
set_option linter.unusedVariables false
set_option linter.unusedSimpArgs false
set_option linter.constructorNameAsVariable false
set_option maxRecDepth 100000
/-- An orbit, by value. -/
theorem open_orb {H : Type} {enc : TypeId × Value → H} {w : World} {base b0 : Nat} {spare : Nat → Bool} {held : Bool} {r : Reach} {v : Value} {d : DataW H} {p : List MemPlace}
    (hv : Value.okWide Try.prog w r b0 24 v) (h : DataW.Trod enc Try.prog w base spare held 24 v d p) :
    ∃ z0 z1 z2 z3 z4 z5 z6 : Int, v = .agg #[.int .i64 z0, .int .i64 z1, .int .i64 z2, .int .i64 z3, .int .i64 z4, .int .i64 z5, .int .i64 z6] ∧ I64 z0 ∧ I64 z1 ∧ I64 z2 ∧ I64 z3 ∧ I64 z4 ∧ I64 z5 ∧ I64 z6 := by
  have ht := Try.underlying24
  have he := Try.underlying3
  have hce : Try.prog.cellsOf 3 = 1 := by kernel_rfl
  have hct : Try.prog.cellsOf 24 = 7 := by kernel_rfl
  simp only [Value.okWide, ht] at hv
  obtain ⟨cs, rfl, hcs, _⟩ := hv
  obtain ⟨fuel, hf⟩ := h
  obtain ⟨xs, m, _, _, hcl, hxl, hel⟩ := DataW.trod_struct ht hf
  have h0 := hel 0 _ rfl
  have h1 := hel 1 _ rfl
  have h2 := hel 2 _ rfl
  have h3 := hel 3 _ rfl
  have h4 := hel 4 _ rfl
  have h5 := hel 5 _ rfl
  have h6 := hel 6 _ rfl
  simp only [List.getElem_toArray, List.getElem_cons_zero, List.getElem_cons_succ] at h0 h1 h2 h3 h4 h5 h6
  rw [hce] at h0 h1 h2 h3 h4 h5 h6
  obtain ⟨x0, x1, x2, x3, x4, x5, x6, rfl⟩ : ∃ x0 x1 x2 x3 x4 x5 x6, xs = [x0, x1, x2, x3, x4, x5, x6] := by
    match xs, hxl with
    | [x0, x1, x2, x3, x4, x5, x6], _ => exact ⟨x0, x1, x2, x3, x4, x5, x6, rfl⟩
  obtain ⟨z0, e0, _, w0⟩ := DataW.trod_int he (x := x0) h0
  obtain ⟨z1, e1, _, w1⟩ := DataW.trod_int he (x := x1) h1
  obtain ⟨z2, e2, _, w2⟩ := DataW.trod_int he (x := x2) h2
  obtain ⟨z3, e3, _, w3⟩ := DataW.trod_int he (x := x3) h3
  obtain ⟨z4, e4, _, w4⟩ := DataW.trod_int he (x := x4) h4
  obtain ⟨z5, e5, _, w5⟩ := DataW.trod_int he (x := x5) h5
  obtain ⟨z6, e6, _, w6⟩ := DataW.trod_int he (x := x6) h6
  rw [hct] at hcs
  obtain ⟨cl⟩ := cs
  match cl, hcs with
  | [y0, y1, y2, y3, y4, y5, y6], _ =>
    simp [Value.cells] at e0 e1 e2 e3 e4 e5 e6
    exact ⟨z0, z1, z2, z3, z4, z5, z6, by rw [e0, e1, e2, e3, e4, e5, e6], wf_i64 w0, wf_i64 w1, wf_i64 w2, wf_i64 w3, wf_i64 w4, wf_i64 w5, wf_i64 w6⟩
/-- A spell, by value. -/
theorem open_spell {H : Type} {enc : TypeId × Value → H} {w : World} {base b0 : Nat} {spare : Nat → Bool} {held : Bool} {r : Reach} {v : Value} {d : DataW H} {p : List MemPlace}
    (hv : Value.okWide Try.prog w r b0 26 v) (h : DataW.Trod enc Try.prog w base spare held 26 v d p) :
    ∃ z0 z1 : Int, v = .agg #[.int .i64 z0, .int .i64 z1] ∧ I64 z0 ∧ I64 z1 := by
  have ht := Try.underlying26
  have he := Try.underlying3
  have hce : Try.prog.cellsOf 3 = 1 := by kernel_rfl
  have hct : Try.prog.cellsOf 26 = 2 := by kernel_rfl
  simp only [Value.okWide, ht] at hv
  obtain ⟨cs, rfl, hcs, _⟩ := hv
  obtain ⟨fuel, hf⟩ := h
  obtain ⟨xs, m, _, _, hcl, hxl, hel⟩ := DataW.trod_struct ht hf
  have h0 := hel 0 _ rfl
  have h1 := hel 1 _ rfl
  simp only [List.getElem_toArray, List.getElem_cons_zero, List.getElem_cons_succ] at h0 h1
  rw [hce] at h0 h1
  obtain ⟨x0, x1, rfl⟩ : ∃ x0 x1, xs = [x0, x1] := by
    match xs, hxl with
    | [x0, x1], _ => exact ⟨x0, x1, rfl⟩
  obtain ⟨z0, e0, _, w0⟩ := DataW.trod_int he (x := x0) h0
  obtain ⟨z1, e1, _, w1⟩ := DataW.trod_int he (x := x1) h1
  rw [hct] at hcs
  obtain ⟨cl⟩ := cs
  match cl, hcs with
  | [y0, y1], _ =>
    simp [Value.cells] at e0 e1
    exact ⟨z0, z1, by rw [e0, e1], wf_i64 w0, wf_i64 w1⟩
end Go.Proofs.Ytdomgielpofbhaa
