/- Cells: what the law's loop puts together, in plain lists. -/
import Derived.Test.YtipfafglbkbafaaDoorSa
namespace Go.Proofs.YtipfafglbkbafaaDoor
open Go.RowKit Go.Shelf
set_option linter.unusedVariables false
set_option linter.unusedSimpArgs false
/-- The area of the first i cells of a list. -/
def putTo (l : List (Nat × Nat)) (i : Nat) : Ar := fun x y => (l.take i).any (fun p => decide (p.1 = x ∧ p.2 = y))
theorem putTo_iff {l : List (Nat × Nat)} {i x y : Nat} : putTo l i x y = true ↔ ∃ k, k < i ∧ l[k]? = some (x, y) := by
  unfold putTo
  rw [List.any_eq_true]
  constructor
  · rintro ⟨p, hp, h⟩
    obtain ⟨k, hk⟩ := List.mem_iff_getElem?.1 hp
    rw [decide_eq_true_eq] at h
    rw [List.getElem?_take] at hk
    split at hk
    · rename_i hlt
      refine ⟨k, hlt, ?_⟩
      rw [hk]
      obtain ⟨a, b⟩ := p
      obtain ⟨rfl, rfl⟩ := h
      rfl
    · cases hk
  · rintro ⟨k, hk, h⟩
    refine ⟨(x, y), List.mem_iff_getElem?.2 ⟨k, by rw [List.getElem?_take, if_pos hk, h]⟩, by simp⟩
theorem putTo_0 (l : List (Nat × Nat)) : Eqv nul (putTo l 0) := fun x y _ _ => rfl
theorem put_eqv {f g : Ar} (h : Eqv f g) (a b : Nat) : Eqv (putA f a b) (putA g a b) := fun x y hx hy => by unfold putA; rw [h x y hx hy]
theorem putTo_succ {l : List (Nat × Nat)} {i a b : Nat} (h : l[i]? = some (a, b)) : Eqv (putA (putTo l i) a b) (putTo l (i + 1)) := eqv_iff fun x y hx hy => by
  unfold putA
  rw [Bool.or_eq_true, Bool.and_eq_true, beq_iff_eq, beq_iff_eq, putTo_iff, putTo_iff]
  constructor
  · rintro (⟨k, hk, h2⟩ | ⟨rfl, rfl⟩)
    · exact ⟨k, by omega, h2⟩
    · exact ⟨i, by omega, h⟩
  · rintro ⟨k, hk, h2⟩
    rcases Nat.lt_or_ge k i with h3 | h3
    · exact .inl ⟨k, h3, h2⟩
    · obtain rfl : k = i := by omega
      rw [h] at h2
      cases h2
      exact .inr ⟨rfl, rfl⟩
/-- A cell of the list has not been put before it. -/
theorem putTo_new {f : Ar} {l : List (Nat × Nat)} {i x y : Nat} (e : cellsTo f 24 = l) (h : l[i]? = some (x, y)) : putTo l i x y = false := by
  rw [← Bool.not_eq_true, putTo_iff]
  rintro ⟨k, hk, h2⟩
  have hs := cells_sorted f 24
  rw [e] at hs
  have h3 := (List.pairwise_iff_getElem.1 hs) k i (List.getElem?_eq_some_iff.1 h2).1 (List.getElem?_eq_some_iff.1 h).1 hk
  rw [(List.getElem?_eq_some_iff.1 h2).2, (List.getElem?_eq_some_iff.1 h).2] at h3
  unfold cellLt at h3
  simp at h3
/-- All of them are the area again. -/
theorem putTo_all {f : Ar} {l : List (Nat × Nat)} {N : Nat} (e : cellsTo f 24 = l) (eN : l.length = N) : Eqv (putTo l N) f := eqv_iff fun x y hx hy => by
  rw [putTo_iff]
  constructor
  · rintro ⟨k, _, h⟩
    have hm := List.mem_of_getElem? h
    rw [← e, cells_mem] at hm
    exact hm.2.2
  · intro h
    have hm : (x, y) ∈ l := by rw [← e]; exact cells_mem.2 ⟨hy, hx, h⟩
    obtain ⟨k, hk⟩ := List.mem_iff_getElem?.1 hm
    exact ⟨k, by rw [← eN]; exact (List.getElem?_eq_some_iff.1 hk).1, hk⟩
/-- Two neighbours of the list ascend. -/
theorem cells_next {f : Ar} {l : List (Nat × Nat)} {i x y x' y' : Nat} (e : cellsTo f 24 = l) (h : l[i]? = some (x, y)) (h' : l[i + 1]? = some (x', y')) : y < y' ∨ (y = y' ∧ x < x') := by
  have hs := cells_sorted f 24
  rw [e] at hs
  have h3 := (List.pairwise_iff_getElem.1 hs) i (i + 1) (List.getElem?_eq_some_iff.1 h).1 (List.getElem?_eq_some_iff.1 h').1 (by omega)
  rw [(List.getElem?_eq_some_iff.1 h).2, (List.getElem?_eq_some_iff.1 h').2] at h3
  exact h3
theorem cl_cells {w : World} {b o c : Nat} {f : Ar} {l : List (Nat × Nat)} {N : Nat} (e : cellsTo f 24 = l) (eN : l.length = N) (h : SA w (some ⟨b, o, none⟩) 24 f) (hT : Tab w) : Calls Tryd.prog 27 #[.agg #[.slice (some ⟨b, o, none⟩) 24 c]] w fun e w' => ∃ rl rc, e = .returned (.slice rl N rc) ∧ Cs w' rl N l ∧ Below w.heap.size w w' := by
  have h := cellsV (c := c) h hT
  rw [e, eN] at h
  exact h
theorem cl_up_cs {w : World} {al : Option Addr} {n : Nat} {l : List (Nat × Nat)} (h : Cs w al n l) : Up w (fun W => Cs W al n l) := fun _ hb => h.below (Nat.le_refl _) hb
theorem cl_up_b (w : World) : Up w (fun W => Below w.heap.size w W) := fun _ hb => hb
theorem cl_at {w : World} {al : Option Addr} {n : Nat} {l : List (Nat × Nat)} (h : Up w (fun W => Cs W al n l)) {i : Nat} (hi : i < n) : ∃ (b px py : Nat), al = some ⟨b, 0, none⟩ ∧ l[i]? = some (px, py) ∧ Up w (fun W => W.cell? ⟨b, i * 2, none⟩ = some (.int .i64 (px : Int)) ∧ W.cell? ⟨b, i * 2 + 1, none⟩ = some (.int .i64 (py : Int))) := by
  obtain ⟨h1, h2, h3⟩ := h.now
  rcases h3 with h3 | ⟨b, rfl, hb, hc⟩
  · omega
  · obtain ⟨p, hp⟩ : ∃ p, l[i]? = some p := ⟨l[i]'(by omega), List.getElem?_eq_getElem _⟩
    refine ⟨b, p.1, p.2, rfl, hp, fun W hW => ?_⟩
    have := hc i p hp
    exact ⟨(hW.cell (p := ⟨b, i * 2, none⟩) hb).trans this.1, (hW.cell (p := ⟨b, i * 2 + 1, none⟩) hb).trans this.2⟩
theorem cl_mem {f : Ar} {l : List (Nat × Nat)} {i px py : Nat} (e : cellsTo f 24 = l) (h : l[i]? = some (px, py)) : px < 48 ∧ py < 24 := by
  have hm := List.mem_of_getElem? h
  rw [← e, cells_mem] at hm
  exact ⟨hm.2.1, hm.1⟩
end Go.Proofs.YtipfafglbkbafaaDoor
