/- How a law's arguments open: slices of pairs of integers, pairs of integers; the package-level variables. -/
import Derived.Test.YtbgdlfkeimaaiaaDoorLaw
import Derived.Test.YtbgdlfkeimaaiaaDoorAr
namespace Go.Proofs.YtbgdlfkeimaaiaaDoor
open Go.ChangeShapes Go.WideShapes Go.ChangeAt Go.RowKit
set_option linter.unusedVariables false
set_option linter.unusedSimpArgs false
abbrev I64 (z : Int) : Prop := -9223372036854775808 ≤ z ∧ z ≤ 9223372036854775807
theorem wf_i64 {z : Int} (w : (Lit.int .i64 z).wf = true) : -9223372036854775808 ≤ z ∧ z ≤ 9223372036854775807 := by simpa [Lit.wf, IntKind.min, IntKind.max, IntKind.signed, IntKind.bits] using w
/-- The cells of an array of 2 ints. -/
theorem trod_ints2 {H : Type} {enc : TypeId × Value → H} {P : Program} {w : World} {base : Nat} {spare : Nat → Bool} {held : Bool} {t e : TypeId} {fuel : Nat} {cs : List Value} {x : DataW H × List MemPlace}
    (ht : P.underlying t = some (.array 2 e)) (he : P.underlying e = some (.int .i64)) (hce : P.cellsOf e = 1) (hl : cs.length = 2) (hf : DataW.trod enc P w base spare held fuel t cs = some x) :
    ∃ a b : Int, cs = [.int .i64 a, .int .i64 b] ∧ I64 a ∧ I64 b := by
  obtain ⟨xs, m, _, _, hcl, hxl, hel⟩ := DataW.trod_array ht hf
  have h0 := hel 0 (by omega)
  have h1 := hel 1 (by omega)
  rw [hce] at h0 h1
  obtain ⟨x0, x1, rfl⟩ : ∃ x0 x1, xs = [x0, x1] := by
    match xs, hxl with
    | [x0, x1], _ => exact ⟨x0, x1, rfl⟩
  obtain ⟨a, ea, _, wa⟩ := DataW.trod_int he (x := x0) h0
  obtain ⟨b, eb, _, wb⟩ := DataW.trod_int he (x := x1) h1
  match cs, hl with
  | [y0, y1], _ =>
    simp at ea eb
    exact ⟨a, b, by rw [ea, eb], wf_i64 wa, wf_i64 wb⟩
/-- A slice of pairs of integers among the arguments, nil and empty included. -/
theorem open_s2 {H : Type} {enc : TypeId × Value → H} {P : Program} {w : World} {base b0 : Nat} {held : Bool} {r : Reach} {t e q : TypeId} {v : Value} {d : DataW H} {p : List MemPlace}
    (ht : P.underlying t = some (.slice e)) (he : P.underlying e = some (.array 2 q)) (hq : P.underlying q = some (.int .i64)) (hce : P.cellsOf e = 2) (hcq : P.cellsOf q = 1)
    (hv : Value.okWide P w r b0 t v) (h : DataW.Trod enc P w base (fun _ => true) held t v d p) :
    ∃ (al : Option Addr) (n c : Nat), v = .slice al n c ∧ S2 w al n := by
  obtain ⟨al, n, c, rfl⟩ := okWide_slice ht hv
  obtain ⟨fuel, hf⟩ := h
  refine ⟨al, n, c, rfl, ?_⟩
  rcases Go.Deep.open_slice ht hf with ⟨hcs, _⟩ | ⟨a, len, cap, m, k, D, Pl, hcs, _, hl, hm, hmm, _, hx⟩
  · simp [Value.cells] at hcs
    obtain ⟨rfl, rfl, rfl⟩ := hcs
    exact ⟨by decide, .inl rfl⟩
  · simp [Value.cells] at hcs
    obtain ⟨rfl, rfl, rfl⟩ := hcs
    simp only [if_true] at hmm
    obtain rfl := hmm.symm
    have hcap : c ≤ 9223372036854775807 := hm
    refine ⟨by omega, ?_⟩
    rcases Nat.eq_zero_or_pos n with h0 | h0
    · exact .inl h0
    right
    have each : ∀ i, i < n → ∃ z0 z1 : Int, I64 z0 ∧ I64 z1 ∧ w.cell? (a.add (i * 2)) = some (.int .i64 z0) ∧ w.cell? ((a.add (i * 2)).add 1) = some (.int .i64 z1) := by
      intro i hi
      obtain ⟨cs', h1, h2⟩ := hx i (by omega)
      rw [hce] at h1
      obtain ⟨_, hlen, hc⟩ := World.cells?_some h1
      obtain ⟨z0, z1, rfl, r0, r1⟩ := trod_ints2 he hq hcq hlen h2
      exact ⟨z0, z1, r0, r1, hc 0 (by decide), hc 1 (by decide)⟩
    obtain ⟨b, o, spot⟩ := a
    have hz := each 0 h0
    obtain ⟨_, _, _, _, c0, _⟩ := hz
    have hspot : spot = none := by simpa [Addr.add] using World.cell?_spot c0
    subst hspot
    have hlt : b < w.heap.size := by
      have := (World.cells?_block (hx 0 (by omega)).choose_spec.1 (by rw [hce]; decide))
      simpa [Addr.add] using this
    refine ⟨b, o, rfl, hlt, fun i hi => ?_⟩
    obtain ⟨z0, z1, r0, r1, c0, c1⟩ := each i hi
    rw [add_plain] at c0 c1
    rw [add_plain] at c1
    exact ⟨z0, z1, r0, r1, c0, c1⟩
/-- An array of 2 ints, by value. -/
theorem open_ints2 {H : Type} {enc : TypeId × Value → H} {P : Program} {w : World} {base b0 : Nat} {spare : Nat → Bool} {held : Bool} {r : Reach} {t e : TypeId} {v : Value} {d : DataW H} {p : List MemPlace}
    (ht : P.underlying t = some (.array 2 e)) (he : P.underlying e = some (.int .i64)) (hce : P.cellsOf e = 1) (hct : P.cellsOf t = 2)
    (hv : Value.okWide P w r b0 t v) (h : DataW.Trod enc P w base spare held t v d p) :
    ∃ a b : Int, v = .agg #[.int .i64 a, .int .i64 b] ∧ I64 a ∧ I64 b := by
  simp only [Value.okWide, ht] at hv
  obtain ⟨cs, rfl, hcs, _⟩ := hv
  obtain ⟨fuel, hf⟩ := h
  obtain ⟨xs, m, _, _, hcl, hxl, hel⟩ := DataW.trod_array ht hf
  have h0 := hel 0 (by omega)
  have h1 := hel 1 (by omega)
  rw [hce] at h0 h1
  obtain ⟨x0, x1, rfl⟩ : ∃ x0 x1, xs = [x0, x1] := by
    match xs, hxl with
    | [x0, x1], _ => exact ⟨x0, x1, rfl⟩
  obtain ⟨a, ea, _, wa⟩ := DataW.trod_int he (x := x0) h0
  obtain ⟨b, eb, _, wb⟩ := DataW.trod_int he (x := x1) h1
  rw [hct] at hcs
  obtain ⟨cl⟩ := cs
  match cl, hcs with
  | [y0, y1], _ =>
    simp [Value.cells] at ea eb
    exact ⟨a, b, by rw [ea, eb], wf_i64 wa, wf_i64 wb⟩
def DB : List Int := [0, 1, 56, 2, 57, 49, 28, 3, 61, 58, 42, 50, 38, 29, 17, 4, 62, 47, 59, 36, 45, 43, 51, 22, 53, 39, 33, 30, 24, 18, 12, 5, 63, 55, 48, 27, 60, 41, 37, 16, 46, 35, 44, 21, 52, 32, 23, 11, 54, 26, 40, 15, 34, 20, 31, 10, 25, 14, 19, 9, 13, 8, 7, 6]
/-- An array of two booleans among the package-level variables. -/
theorem bools_of_head {P : Program} {W : World} {name : String} {a b : Bool} {rest : List (String × DataW Unit)} {g : Nat} {t e : TypeId}
    (hg : P.globalNamed name = some g) (hty : (P.globals[g]?).map (·.type) = some t) (ht : P.underlying t = some (.array 2 e)) (he : P.underlying e = some .bool) (hce : P.cellsOf e = 1) (hct : P.cellsOf t = 2)
    (h : laidMet P ((name, .agg [.lit (.bool a), .lit (.bool b)]) :: rest) W) : W.cell? ⟨g, 0, none⟩ = some (.bool a) ∧ W.cell? ⟨g, 1, none⟩ = some (.bool b) := by
  obtain ⟨ps, ⟨g', t', cs, fuel, p, q, hg', ht', hvar, hd, _, _⟩, _⟩ := h
  obtain rfl := Option.some.inj (hg.symm.trans hg')
  obtain rfl := Option.some.inj (hty.symm.trans ht')
  obtain ⟨xs, m, _, hx, hcl, hxl, hel⟩ := DataW.trod_array ht hd
  have h0 := hel 0 (by omega)
  have h1 := hel 1 (by omega)
  rw [hce] at h0 h1
  obtain ⟨x0, x1, rfl⟩ : ∃ x0 x1, xs = [x0, x1] := by
    match xs, hxl with
    | [x0, x1], _ => exact ⟨x0, x1, rfl⟩
  obtain ⟨u, eu, hu⟩ := DataW.trod_bool he (x := x0) h0
  obtain ⟨v, ev, hv⟩ := DataW.trod_bool he (x := x1) h1
  rw [hct] at hcl
  have hx' := congrArg Prod.fst hx
  simp [hu, hv] at hx'
  obtain ⟨rfl, rfl⟩ := hx'
  obtain ⟨cl⟩ := cs
  match cl, hcl with
  | [y0, y1], _ =>
    simp at eu ev
    have c0 := World.var?_cell hg hvar 0
    have c1 := World.var?_cell hg hvar 1
    exact ⟨by rw [c0, eu]; rfl, by rw [c1, ev]; rfl⟩
theorem tab_of_cells {W : World} (hc : ∀ i, i < DB.length → W.cell? ⟨3, i, none⟩ = some (.int .u8 (DB.getD i 0)))
    (hd : W.cell? ⟨0, 0, none⟩ = some (.bool true) ∧ W.cell? ⟨0, 1, none⟩ = some (.bool false)) (hn : W.cell? ⟨1, 0, none⟩ = some (.bool false) ∧ W.cell? ⟨1, 1, none⟩ = some (.bool true)) : Tab W := by
  have h0 := hc 0 (by decide)
  refine ⟨?_, fun i hi => ?_, hd, hn⟩
  · rcases Nat.lt_or_ge 3 W.heap.size with hz | hz
    · exact hz
    · exfalso; simp [World.cell?, Array.getElem?_eq_none hz] at h0
  · rw [hc i hi]
    have e : ∀ i, i < 64 → DB.getD i 0 = (Lib.deBruijn64tab.getD i 0 : Nat) := by decide
    rw [e i hi]
end Go.Proofs.YtbgdlfkeimaaiaaDoor
