/- The least and the greatest of heights; the cells of a set lie on the globe. -/
import Derived.Test.YtbgdlfkeimaaiaaDoorGc
import Derived.Test.YtbgdlfkeimaaiaaDoorSu
namespace Go.Proofs.YtbgdlfkeimaaiaaDoor
set_option linter.unusedVariables false
set_option linter.unusedSimpArgs false
def lo (l : List Int) : Int := l.foldl min 90
def hi (l : List Int) : Int := l.foldl max (-90)
theorem lo_nil : lo [] = 90 := rfl
theorem hi_nil : hi [] = -90 := rfl
theorem lo_snoc (l : List Int) (h : Int) : lo (l ++ [h]) = min (lo l) h := by simp [lo]
theorem hi_snoc (l : List Int) (h : Int) : hi (l ++ [h]) = max (hi l) h := by simp [hi]
theorem fmin_le : ∀ (l : List Int) (a : Int), l.foldl min a ≤ a ∧ ∀ h ∈ l, l.foldl min a ≤ h
  | [], a => ⟨Int.le_refl _, fun h hh => by cases hh⟩
  | x :: l, a => by
    have ih := fmin_le l (min a x)
    rw [List.foldl_cons]
    refine ⟨by omega, fun h hh => ?_⟩
    rcases List.mem_cons.1 hh with rfl | hh
    · omega
    · exact ih.2 h hh
theorem fmin_in : ∀ (l : List Int) (a : Int), l.foldl min a = a ∨ l.foldl min a ∈ l
  | [], a => .inl rfl
  | x :: l, a => by
    rw [List.foldl_cons]
    rcases fmin_in l (min a x) with h | h
    · rw [h]
      by_cases hax : a ≤ x
      · exact .inl (by omega)
      · exact .inr (by rw [show min a x = x by omega]; exact List.mem_cons_self ..)
    · exact .inr (List.mem_cons_of_mem _ h)
theorem fmax_le : ∀ (l : List Int) (a : Int), a ≤ l.foldl max a ∧ ∀ h ∈ l, h ≤ l.foldl max a
  | [], a => ⟨Int.le_refl _, fun h hh => by cases hh⟩
  | x :: l, a => by
    have ih := fmax_le l (max a x)
    rw [List.foldl_cons]
    refine ⟨by omega, fun h hh => ?_⟩
    rcases List.mem_cons.1 hh with rfl | hh
    · omega
    · exact ih.2 h hh
theorem fmax_in : ∀ (l : List Int) (a : Int), l.foldl max a = a ∨ l.foldl max a ∈ l
  | [], a => .inl rfl
  | x :: l, a => by
    rw [List.foldl_cons]
    rcases fmax_in l (max a x) with h | h
    · rw [h]
      by_cases hax : x ≤ a
      · exact .inl (by omega)
      · exact .inr (by rw [show max a x = x by omega]; exact List.mem_cons_self ..)
    · exact .inr (List.mem_cons_of_mem _ h)
theorem lo_le {l : List Int} {h : Int} (hh : h ∈ l) : lo l ≤ h := (fmin_le l 90).2 h hh
theorem hi_le {l : List Int} {h : Int} (hh : h ∈ l) : h ≤ hi l := (fmax_le l (-90)).2 h hh
theorem lo_in (l : List Int) : lo l = 90 ∨ lo l ∈ l := fmin_in l 90
theorem hi_in (l : List Int) : hi l = -90 ∨ hi l ∈ l := fmax_in l (-90)
theorem lo_bd (l : List Int) (h : ∀ x ∈ l, -90 ≤ x ∧ x ≤ 90) : -90 ≤ lo l ∧ lo l ≤ 90 := by
  refine ⟨?_, (fmin_le l 90).1⟩
  rcases lo_in l with e | e
  · omega
  · exact (h _ e).1
theorem hi_bd (l : List Int) (h : ∀ x ∈ l, -90 ≤ x ∧ x ≤ 90) : -90 ≤ hi l ∧ hi l ≤ 90 := by
  refine ⟨(fmax_le l (-90)).1, ?_⟩
  rcases hi_in l with e | e
  · omega
  · exact (h _ e).2
theorem lo_sub {l m : List Int} (h : ∀ x ∈ l, x ∈ m) : lo m ≤ lo l := by
  rcases lo_in l with e | e
  · rw [e]; exact (fmin_le m 90).1
  · exact lo_le (h _ e)
theorem hi_sub {l m : List Int} (h : ∀ x ∈ l, x ∈ m) : hi l ≤ hi m := by
  rcases hi_in l with e | e
  · rw [e]; exact (fmax_le m (-90)).1
  · exact hi_le (h _ e)
theorem lo_ext {l m : List Int} (h : ∀ x, x ∈ l ↔ x ∈ m) : lo l = lo m := Int.le_antisymm (lo_sub fun x hx => (h x).2 hx) (lo_sub fun x hx => (h x).1 hx)
theorem hi_ext {l m : List Int} (h : ∀ x, x ∈ l ↔ x ∈ m) : hi l = hi m := Int.le_antisymm (hi_sub fun x hx => (h x).1 hx) (hi_sub fun x hx => (h x).2 hx)
theorem lo_reached {l : List Int} (h : ∀ x ∈ l, -90 ≤ x ∧ x ≤ 90) (hn : l ≠ []) : lo l ∈ l := by
  rcases lo_in l with e | e
  · obtain ⟨x, hx⟩ := List.exists_mem_of_ne_nil l hn
    have := lo_le hx
    have := (h x hx).2
    rw [show lo l = x by omega]; exact hx
  · exact e
theorem hi_reached {l : List Int} (h : ∀ x ∈ l, -90 ≤ x ∧ x ≤ 90) (hn : l ≠ []) : hi l ∈ l := by
  rcases hi_in l with e | e
  · obtain ⟨x, hx⟩ := List.exists_mem_of_ne_nil l hn
    have := hi_le hx
    have := (h x hx).1
    rw [show hi l = x by omega]; exact hx
  · exact e
/-- The heights of cells at a minute. -/
def rowH (cs : List (Nat × Nat)) (t : Nat) : List Int := cs.map fun c => hgt c.1 c.2 t
/-- The heights of cells at minutes. -/
def hsT (cs : List (Nat × Nat)) (ts : List Nat) : List Int := ts.flatMap (rowH cs)
theorem hsT_snoc (cs : List (Nat × Nat)) (ts : List Nat) (t : Nat) : hsT cs (ts ++ [t]) = hsT cs ts ++ rowH cs t := by simp [hsT]
theorem rowH_take (cs : List (Nat × Nat)) (t k : Nat) (c : Nat × Nat) (h : cs[k]? = some c) : (rowH cs t).take (k + 1) = (rowH cs t).take k ++ [hgt c.1 c.2 t] := by
  have hk := (List.getElem?_eq_some_iff.1 h)
  obtain ⟨hl, he⟩ := hk
  unfold rowH
  rw [List.take_succ_eq_append_getElem (by simpa using hl)]
  simp [he]
theorem rowH_all (cs : List (Nat × Nat)) (t : Nat) : (rowH cs t).take cs.length = rowH cs t := List.take_of_length_le (by simp [rowH])
theorem hsT_mem {cs : List (Nat × Nat)} {ts : List Nat} {h : Int} : h ∈ hsT cs ts ↔ ∃ c ∈ cs, ∃ t ∈ ts, h = hgt c.1 c.2 t := by
  unfold hsT rowH
  simp only [List.mem_flatMap, List.mem_map]
  constructor
  · rintro ⟨t, ht, c, hc, rfl⟩; exact ⟨c, hc, t, ht, rfl⟩
  · rintro ⟨c, hc, t, ht, rfl⟩; exact ⟨t, ht, c, hc, rfl⟩
theorem hsT_bd (cs : List (Nat × Nat)) (ts : List Nat) : ∀ x ∈ hsT cs ts, -90 ≤ x ∧ x ≤ 90 := fun x hx => by
  obtain ⟨c, _, t, _, rfl⟩ := hsT_mem.1 hx
  exact hgt_le _ _ _
theorem take_bd {l : List Int} (h : ∀ x ∈ l, -90 ≤ x ∧ x ≤ 90) (k : Nat) : ∀ x ∈ l.take k, -90 ≤ x ∧ x ≤ 90 := fun x hx => h x (List.mem_of_mem_take hx)
theorem rowCells_on (f : Ar) (y n : Nat) (p : Nat × Nat) : p ∈ rowCells f y n ↔ p.2 = y ∧ p.1 < n ∧ f p.1 y = true := by
  unfold rowCells
  simp only [List.mem_map, List.mem_filter, List.mem_range]
  constructor
  · rintro ⟨x, ⟨h1, h2⟩, rfl⟩; exact ⟨rfl, h1, h2⟩
  · obtain ⟨a, b⟩ := p
    rintro ⟨h1, h2, h3⟩
    simp only at h1 h2 h3
    subst h1
    exact ⟨a, ⟨h2, h3⟩, rfl⟩
theorem cellsTo_on (f : Ar) : ∀ n p, p ∈ cellsTo f n ↔ p.2 < n ∧ p.1 < 48 ∧ f p.1 p.2 = true
  | 0, p => by simp [cellsTo]
  | n + 1, p => by
    have ih := cellsTo_on f n p
    show p ∈ cellsTo f n ++ rowCells f n 48 ↔ _
    rw [List.mem_append, ih, rowCells_on]
    constructor
    · rintro (⟨h1, h2, h3⟩ | ⟨h1, h2, h3⟩)
      · exact ⟨by omega, h2, h3⟩
      · exact ⟨by omega, h2, by rw [h1]; exact h3⟩
    · rintro ⟨h1, h2, h3⟩
      by_cases e : p.2 = n
      · exact .inr ⟨e, h2, by rw [← e]; exact h3⟩
      · exact .inl ⟨by omega, h2, h3⟩
end Go.Proofs.YtbgdlfkeimaaiaaDoor
