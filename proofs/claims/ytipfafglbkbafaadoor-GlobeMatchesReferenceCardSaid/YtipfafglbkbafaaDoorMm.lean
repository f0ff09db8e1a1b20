/- What the law of all functions carries: four areas and four cells in rows. -/
import Derived.Test.YtipfafglbkbafaaDoorSa
import Derived.Test.YtipfafglbkbafaaDoorFe
import Derived.Test.YtipfafglbkbafaaDoorMl
namespace Go.Proofs.YtipfafglbkbafaaDoor
open Go.RowKit Go.Shelf
set_option linter.unusedVariables false
set_option linter.unusedSimpArgs false
/-- Four areas in a row, valid or not. -/
def Areas (W : World) (L : Nat) : Prop := ∀ i, i < 4 → ∃ al n c zs o, Is zs o ∧ W.cell? ⟨L, i, none⟩ = some (.slice al n c) ∧ Sl W al n zs
theorem cell_lt {W : World} {b o : Nat} {v : Value} (h : W.cell? ⟨b, o, none⟩ = some v) : b < W.heap.size := by
  rcases Nat.lt_or_ge b W.heap.size with hz | hz
  · exact hz
  · exfalso; simp [World.cell?, Array.getElem?_eq_none hz] at h
theorem areas_at {w : World} {L i : Nat} (h : Areas w L) (hi : i < 4) : ∃ al n c zs o, Is zs o ∧ Up w (fun W => W.cell? ⟨L, i, none⟩ = some (.slice al n c) ∧ Sl W al n zs) := by
  obtain ⟨al, n, c, zs, o, hO, hc, hs⟩ := h i hi
  exact ⟨al, n, c, zs, o, hO, fun W hb => ⟨(hb.cell (p := ⟨L, i, none⟩) (cell_lt hc)).trans hc, hs.below (Nat.le_refl _) hb⟩⟩
/-- Four cells in a row. -/
def Cells4 (W : World) (C : Nat) : Prop := ∀ i, i < 4 → ∃ x y : Int, W.cell? ⟨C, i * 2, none⟩ = some (.int .i64 x) ∧ W.cell? ⟨C, i * 2 + 1, none⟩ = some (.int .i64 y)
theorem cells4_at {w : World} {C i : Nat} (h : Cells4 w C) (hi : i < 4) : ∃ x y : Int, Up w (fun W => W.cell? ⟨C, i * 2, none⟩ = some (.int .i64 x) ∧ W.cell? ⟨C, i * 2 + 1, none⟩ = some (.int .i64 y)) := by
  obtain ⟨x, y, h1, h2⟩ := h i hi
  exact ⟨x, y, fun W hb => ⟨(hb.cell (p := ⟨C, i * 2, none⟩) (cell_lt h1)).trans h1, (hb.cell (p := ⟨C, i * 2 + 1, none⟩) (cell_lt h1)).trans h2⟩⟩
theorem cells4_of {W : World} {C : Nat} {x0 y0 x1 y1 x2 y2 x3 y3 : Int} {t : TypeId} (h : W.heap[C]? = some (.cells #[.int .i64 x0, .int .i64 y0, .int .i64 x1, .int .i64 y1, .int .i64 x2, .int .i64 y2, .int .i64 x3, .int .i64 y3] t (0, 0))) : Cells4 W C := by
  intro i hi
  have hc := row_cell h
  match i, hi with
  | 0, _ => exact ⟨x0, y0, (hc 0).trans rfl, (hc 1).trans rfl⟩
  | 1, _ => exact ⟨x1, y1, (hc 2).trans rfl, (hc 3).trans rfl⟩
  | 2, _ => exact ⟨x2, y2, (hc 4).trans rfl, (hc 5).trans rfl⟩
  | 3, _ => exact ⟨x3, y3, (hc 6).trans rfl, (hc 7).trans rfl⟩
theorem areas_of {W : World} {L : Nat} {a0 a1 a2 a3 : Option Addr} {n0 n1 n2 n3 c0 c1 c2 c3 : Nat} {z0 z1 z2 z3 : List Int} {t : TypeId} (h : W.heap[L]? = some (.cells #[.slice a0 n0 c0, .slice a1 n1 c1, .slice a2 n2 c2, .slice a3 n3 c3] t (0, 0)))
    (h0 : Sl W a0 n0 z0) (h1 : Sl W a1 n1 z1) (h2 : Sl W a2 n2 z2) (h3 : Sl W a3 n3 z3) : Areas W L := by
  intro i hi
  have hc := row_cell h
  match i, hi with
  | 0, _ => obtain ⟨o, ho⟩ := is_ex z0; exact ⟨a0, n0, c0, z0, o, ho, (hc 0).trans rfl, h0⟩
  | 1, _ => obtain ⟨o, ho⟩ := is_ex z1; exact ⟨a1, n1, c1, z1, o, ho, (hc 1).trans rfl, h1⟩
  | 2, _ => obtain ⟨o, ho⟩ := is_ex z2; exact ⟨a2, n2, c2, z2, o, ho, (hc 2).trans rfl, h2⟩
  | 3, _ => obtain ⟨o, ho⟩ := is_ex z3; exact ⟨a3, n3, c3, z3, o, ho, (hc 3).trans rfl, h3⟩
/-- Two pairs in a row. -/
theorem pairs_at {w : World} {Z j : Nat} {p0 q0 p1 q1 : Int} {t : TypeId} (h : VR Z #[.int .i64 p0, .int .i64 q0, .int .i64 p1, .int .i64 q1] t w) (hj : j < 2) :
    ∃ p q : Int, Up w (fun W => W.cell? ⟨Z, j * 2, none⟩ = some (.int .i64 p) ∧ W.cell? ⟨Z, j * 2 + 1, none⟩ = some (.int .i64 q)) := by
  have hc := row_cell h
  have hl := (Array.getElem?_eq_some_iff.1 h).1
  have key : ∀ p q, w.cell? ⟨Z, j * 2, none⟩ = some (.int .i64 p) → w.cell? ⟨Z, j * 2 + 1, none⟩ = some (.int .i64 q) → Up w (fun W => W.cell? ⟨Z, j * 2, none⟩ = some (.int .i64 p) ∧ W.cell? ⟨Z, j * 2 + 1, none⟩ = some (.int .i64 q)) :=
    fun p q h1 h2 W hb => ⟨(hb.cell (p := ⟨Z, j * 2, none⟩) hl).trans h1, (hb.cell (p := ⟨Z, j * 2 + 1, none⟩) hl).trans h2⟩
  match j, hj with
  | 0, _ => exact ⟨p0, q0, key _ _ ((hc 0).trans rfl) ((hc 1).trans rfl)⟩
  | 1, _ => exact ⟨p1, q1, key _ _ ((hc 2).trans rfl) ((hc 3).trans rfl)⟩
theorem Up.at {w W : World} {P : World → Prop} (h : Up w P) (hb : Below w.heap.size w W) : P W := h W hb
theorem up_sa {w : World} {b o : Nat} {f : Ar} (h : SA w (some ⟨b, o, none⟩) 24 f) : Up w (fun W => SA W (some ⟨b, o, none⟩) 24 f) := fun W hb => Sl.below h (Nat.le_refl _) hb
theorem up_sl {w : World} {al : Option Addr} {n : Nat} {zs : List Int} (h : Sl w al n zs) : Up w (fun W => Sl W al n zs) := fun W hb => h.below (Nat.le_refl _) hb
theorem up_hf {w : World} {g : Nat} {t : TypeId} {f : Ar} (h : HasF w g t f) : Up w (fun W => HasF W g t f) := fun W hb => h.below hb h.lt
theorem up_cs {w : World} {al : Option Addr} {N : Nat} {l : List (Nat × Nat)} (h : Cs w al N l) : Up w (fun W => Cs W al N l) := fun W hb => h.below (Nat.le_refl _) hb
theorem pd_done {w W : World} {P : Nat} {al : Option Addr} {n c : Nat} {zs : List Int} {v : Value} (hs : Sl W al n zs) (hk : VR P #[v] 25 W) (hn : n = 0 ∨ ∀ b q, al = some ⟨b, q, none⟩ → b ≠ P) (hP : w.heap.size ≤ P) (hb : Below w.heap.size w W) :
    VG P al n c zs (W.setCell ⟨P, 0, none⟩ (.slice al n c)) ∧ Below w.heap.size w (W.setCell ⟨P, 0, none⟩ (.slice al n c)) :=
  ⟨⟨sl_set hs hn, heap_setCell_same _ _ 0 _ _ _ hk⟩, hb.setCell hP _⟩
theorem pd_ne1 {W : World} {P : Nat} {al : Option Addr} {n : Nat} {zs : List Int} (h : Sl W al n zs) (e : W.heap.size = P) : n = 0 ∨ ∀ b q, al = some ⟨b, q, none⟩ → b ≠ P := sl_lt h (Nat.le_of_eq e)
theorem pd_ne2 {W : World} {P : Nat} {al : Option Addr} {n : Nat} {cs : Array Value} {t : TypeId} (h : VR P cs t W) (hf : ∀ b q, al = some ⟨b, q, none⟩ → W.heap.size ≤ b) : n = 0 ∨ ∀ b q, al = some ⟨b, q, none⟩ → b ≠ P :=
  .inr fun b q e => by
    have h1 := (Array.getElem?_eq_some_iff.1 h).1
    have h2 := hf b q e
    omega
/-- An area whose row p is set to any number. -/
theorem bent_sl {W : World} {g p : Nat} {f : Ar} {row : Int} (h : HasF W g 3 f) (hp : p < 24) (h0 : -9223372036854775808 ≤ row) (h1 : row ≤ 9223372036854775807) : Sl (W.setCell ⟨g, p, none⟩ (.int .i64 row)) (some ⟨g, 0, none⟩) 24 ((rz f).set p row) := by
  refine ⟨by rw [List.length_set, rz_len], by decide, fun z hz => ?_, .inr ⟨g, 0, rfl, by simpa using h.lt, fun i hi => ?_⟩⟩
  · rcases List.mem_or_eq_of_mem_set hz with hz | rfl
    · have := rz_mem f z hz; omega
    · exact ⟨h0, h1⟩
  · rw [Nat.zero_add]
    have hh := heap_setCell_same W g p _ _ (.int .i64 row) h
    rw [cell_of_row _ g i _ _ (0, 0) hh, List.getD_eq_getElem?_getD]
    by_cases e : i = p
    · subst e
      rw [Array.getElem?_setIfInBounds_self_of_lt (by rw [FC_size]; omega), List.getElem?_set_self (by rw [rz_len]; omega)]
      rfl
    · rw [Array.getElem?_setIfInBounds_ne (fun h => e h.symm), List.getElem?_set_ne (fun h => e h.symm), FC_at f (by omega)]
      have := rz_at f (y := i) (by omega)
      rw [List.getD_eq_getElem?_getD] at this
      rw [this]
theorem vr1 {B : Nat} {v : Value} {t : TypeId} {W : World} (h : VR B #[v] t W) : W.cell? ⟨B, 0, none⟩ = some v := (row_cell h 0).trans rfl
theorem vr4_0 {B : Nat} {a b c d : Value} {t : TypeId} {W : World} (h : VR B #[a, b, c, d] t W) : W.cell? ⟨B, 0, none⟩ = some a := (row_cell h 0).trans rfl
theorem vr4_1 {B : Nat} {a b c d : Value} {t : TypeId} {W : World} (h : VR B #[a, b, c, d] t W) : W.cell? ⟨B, 1, none⟩ = some b := (row_cell h 1).trans rfl
theorem vr4_2 {B : Nat} {a b c d : Value} {t : TypeId} {W : World} (h : VR B #[a, b, c, d] t W) : W.cell? ⟨B, 2, none⟩ = some c := (row_cell h 2).trans rfl
theorem vr4_3 {B : Nat} {a b c d : Value} {t : TypeId} {W : World} (h : VR B #[a, b, c, d] t W) : W.cell? ⟨B, 3, none⟩ = some d := (row_cell h 3).trans rfl
end Go.Proofs.YtipfafglbkbafaaDoor
