/- How an area and a cell or a spell open, that a law takes by value. -/
import Derived.Lib.SmallJoins
import Derived.Test.YtbgdlfkeimaaiaaDoorOpn
import Derived.Test.YtbgdlfkeimaaiaaDoorGe
namespace Go.Proofs.YtbgdlfkeimaaiaaDoor
open Go.Joins Go.ChangeShapes Go.WideShapes Go.ChangeAt Go.RowKit Go.Deep
set_option linter.unusedVariables false
set_option linter.unusedSimpArgs false
theorem open_cell {H : Type} {enc : TypeId × Value → H} {P : Program} {w : World} {base b0 : Nat} {spare : Nat → Bool} {held : Bool} {r : Reach} {t : TypeId} {f0 f1 : Field} {v : Value} {d : DataW H} {p : List MemPlace}
    (hs : P.underlying t = some (.struct #[f0, f1])) (hone : oneCellFields P #[f0, f1] = true) (hC : P.cellsOf t = 2) (h0 : P.underlying f0.type = some (.int .i64)) (h1 : P.underlying f1.type = some (.int .i64))
    (hv : Value.okWide P w r b0 t v) (h : DataW.Trod enc P w base spare held t v d p) :
    ∃ a b : Int, v = .agg #[.int .i64 a, .int .i64 b] ∧ I64 a ∧ I64 b := by
  obtain ⟨v0, v1, y0, y1, n, rfl, _, _, g0, g1⟩ := open_agg2 hs hone hC hv h
  obtain ⟨a, ea, _, wa⟩ := DataW.trod_int h0 g0
  obtain ⟨b, eb, _, wb⟩ := DataW.trod_int h1 g1
  cases ea
  cases eb
  exact ⟨a, b, rfl, wf_i64 wa, wf_i64 wb⟩
theorem open_area {H : Type} {enc : TypeId × Value → H} {P : Program} {w : World} {base b0 : Nat} {held : Bool} {r : Reach} {t e : TypeId} {f0 : Field} {v : Value} {d : DataW H} {p : List MemPlace}
    (hs : P.underlying t = some (.struct #[f0])) (hone : oneCellFields P #[f0] = true) (hC : P.cellsOf t = 1) (h0 : P.underlying f0.type = some (.slice e)) (he : P.underlying e = some (.int .i64)) (hce : P.cellsOf e = 1)
    (hv : Value.okWide P w r b0 t v) (h : DataW.Trod enc P w base (fun _ => true) held t v d p) :
    ∃ (al : Option Addr) (n c : Nat) (zs : List Int), v = .agg #[.slice al n c] ∧ Sw w al n c zs := by
  obtain ⟨cs, rfl, hsz⟩ := okWide_struct hs hv
  obtain ⟨cl⟩ := cs
  obtain ⟨c0, rfl⟩ : ∃ c0, cl = [c0] := by
    have : cl.length = 1 := by simpa using hsz.trans hC
    match cl, this with
    | [c0], _ => exact ⟨c0, rfl⟩
  obtain ⟨fuel, hf⟩ := h
  obtain ⟨y0, n, _, _, hf0⟩ := trod_struct1 hs hf
  obtain ⟨o0, k0⟩ := hone_of hone 0 f0 rfl
  have hf1 : DataW.trod enc P w base (fun _ => true) held n f0.type [c0] = some y0 := by simpa [Value.cells, o0, k0] using hf0
  rcases Go.Deep.open_slice h0 hf1 with ⟨hcs, _⟩ | ⟨a, len, cap, m, k, D, Pl, hcs, _, hl, hm, hmm, _, hx⟩
  · obtain rfl : c0 = .slice none 0 0 := by simpa using hcs
    exact ⟨none, 0, 0, [], rfl, Nat.le_refl _, by decide, rfl, (fun z hz => by cases hz), .inl rfl⟩
  · obtain rfl : c0 = .slice (some a) len cap := by simpa using hcs
    simp only [if_true] at hmm
    obtain rfl := hmm.symm
    have hcap : cap ≤ 9223372036854775807 := hm
    have each : ∀ i, ∃ z : Int, i < len → (I64 z ∧ w.cell? (a.add i) = some (.int .i64 z)) := by
      intro i
      by_cases hi : i < len
      · obtain ⟨cs', h1, h2⟩ := hx i (by omega)
        rw [hce, Nat.mul_one] at h1
        obtain ⟨_, hlen, hc⟩ := World.cells?_some h1
        match cs', hlen with
        | [x], _ =>
          obtain ⟨z, ez, _, wz⟩ := DataW.trod_int he h2
          cases ez
          refine ⟨z, fun _ => ⟨wf_i64 wz, ?_⟩⟩
          have := hc 0 (by decide)
          simpa [Addr.add] using this
      · exact ⟨0, fun h => absurd h hi⟩
    obtain ⟨f, hfz⟩ := Classical.axiomOfChoice each
    refine ⟨some a, len, cap, (List.range len).map f, rfl, by omega, by omega, by simp, ?_, ?_⟩
    · intro z hz
      obtain ⟨i, hi, rfl⟩ := List.mem_map.1 hz
      exact (hfz i (List.mem_range.1 hi)).1
    · rcases Nat.eq_zero_or_pos len with hz | hz
      · exact .inl hz
      · right
        obtain ⟨b, o, spot⟩ := a
        have hc0 := (hfz 0 hz).2
        have hspot : spot = none := by simpa [Addr.add] using World.cell?_spot hc0
        subst hspot
        refine ⟨b, o, rfl, ?_, fun i hi => ?_⟩
        · rcases Nat.lt_or_ge b w.heap.size with hz | hz
          · exact hz
          · exfalso; simp [Addr.add, World.cell?, Array.getElem?_eq_none hz] at hc0
        · have := (hfz i hi).2
          rw [List.getD_eq_getElem?_getD, List.getElem?_map, List.getElem?_range hi]
          rw [← show (⟨b, o, none⟩ : Addr).add i = ⟨b, o + i, none⟩ from by unfold Addr.add; split <;> simp_all]
          exact this
end Go.Proofs.YtbgdlfkeimaaiaaDoor
