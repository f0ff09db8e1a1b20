/- What the reference's loops put together, without a program. -/
import Derived.Test.YtipfafglbkbafaaDoorMd
namespace Go.Proofs.YtipfafglbkbafaaDoor
open Go.RowKit Go.Shelf
set_option linter.unusedVariables false
set_option linter.unusedSimpArgs false
/-- The cells of f that lie ahead of column X of row Y, row by row. -/
def upTo (f : Ar) (Y X : Nat) : Ar := fun x y => f x y && (decide (y < Y) || (decide (y = Y) && decide (x < X)))
theorem upTo_iff {f : Ar} {Y X x y : Nat} : upTo f Y X x y = true ↔ f x y = true ∧ (y < Y ∨ (y = Y ∧ x < X)) := by
  unfold upTo
  rw [Bool.and_eq_true, Bool.or_eq_true, Bool.and_eq_true, decide_eq_true_eq, decide_eq_true_eq, decide_eq_true_eq]
theorem put_iff {f : Ar} {a b x y : Nat} : putA f a b x y = true ↔ f x y = true ∨ (x = a ∧ y = b) := by
  unfold putA
  rw [Bool.or_eq_true, Bool.and_eq_true, beq_iff_eq, beq_iff_eq]
theorem upTo_0 (f : Ar) : Eqv nul (upTo f 0 0) := eqv_iff fun x y _ _ => by
  rw [upTo_iff]
  constructor
  · intro h; cases h
  · rintro ⟨_, h | h⟩ <;> omega
theorem upTo_yes {f : Ar} {Y X : Nat} (h : f X Y = true) : Eqv (putA (upTo f Y X) X Y) (upTo f Y (X + 1)) := eqv_iff fun x y _ _ => by
  rw [put_iff, upTo_iff, upTo_iff]
  constructor
  · rintro (⟨h1, h2⟩ | ⟨rfl, rfl⟩)
    · exact ⟨h1, by omega⟩
    · exact ⟨h, by omega⟩
  · rintro ⟨h1, h2⟩
    by_cases e : x = X ∧ y = Y
    · exact .inr e
    · exact .inl ⟨h1, by omega⟩
theorem upTo_no {f : Ar} {Y X : Nat} (h : f X Y = false) : Eqv (upTo f Y X) (upTo f Y (X + 1)) := eqv_iff fun x y _ _ => by
  rw [upTo_iff, upTo_iff]
  constructor
  · rintro ⟨h1, h2⟩
    exact ⟨h1, by omega⟩
  · rintro ⟨h1, h2⟩
    by_cases e : x = X ∧ y = Y
    · rw [e.1, e.2, h] at h1; cases h1
    · exact ⟨h1, by omega⟩
theorem upTo_row (f : Ar) (Y : Nat) : Eqv (upTo f Y 48) (upTo f (Y + 1) 0) := eqv_iff fun x y hx _ => by
  rw [upTo_iff, upTo_iff]
  constructor
  · rintro ⟨h1, h2⟩; exact ⟨h1, by omega⟩
  · rintro ⟨h1, h2⟩; exact ⟨h1, by omega⟩
theorem upTo_all (f : Ar) : Eqv (upTo f 24 0) f := eqv_iff fun x y _ hy => by
  rw [upTo_iff]
  exact ⟨fun h => h.1, fun h => ⟨h, .inl hy⟩⟩
/-- The first i cells of a list, each k columns farther east. -/
def putS (l : List (Nat × Nat)) (k i : Nat) : Ar := fun x y => (l.take i).any (fun p => decide ((p.1 + k) % 48 = x ∧ p.2 = y))
theorem take_any {l : List (Nat × Nat)} {i : Nat} {P : Nat × Nat → Bool} : (l.take i).any P = true ↔ ∃ j p, j < i ∧ l[j]? = some p ∧ P p = true := by
  rw [List.any_eq_true]
  constructor
  · rintro ⟨p, hp, h⟩
    obtain ⟨j, hj⟩ := List.mem_iff_getElem?.1 hp
    rw [List.getElem?_take] at hj
    split at hj
    · rename_i hlt; exact ⟨j, p, hlt, hj, h⟩
    · cases hj
  · rintro ⟨j, p, hj, h, hp⟩
    exact ⟨p, List.mem_iff_getElem?.2 ⟨j, by rw [List.getElem?_take, if_pos hj, h]⟩, hp⟩
theorem take_any_succ {l : List (Nat × Nat)} {i : Nat} {p : Nat × Nat} (h : l[i]? = some p) (P : Nat × Nat → Bool) : (l.take (i + 1)).any P = ((l.take i).any P || P p) := by
  rw [List.take_add_one, h, List.any_append]
  simp
theorem putS_0 (l : List (Nat × Nat)) (k : Nat) : Eqv nul (putS l k 0) := fun x y _ _ => rfl
theorem putS_succ {l : List (Nat × Nat)} {k i a b : Nat} (h : l[i]? = some (a, b)) : Eqv (putA (putS l k i) ((a + k) % 48) b) (putS l k (i + 1)) := fun x y _ _ => by
  unfold putS putA
  rw [take_any_succ h]
  congr 1
  rw [Bool.eq_iff_iff, Bool.and_eq_true, beq_iff_eq, beq_iff_eq, decide_eq_true_eq]
  exact ⟨fun ⟨h1, h2⟩ => ⟨h1.symm, h2.symm⟩, fun ⟨h1, h2⟩ => ⟨h1.symm, h2.symm⟩⟩
theorem cells_at {f : Ar} {l : List (Nat × Nat)} (e : cellsTo f 24 = l) {i : Nat} {p : Nat × Nat} (h : l[i]? = some p) : p.1 < 48 ∧ p.2 < 24 ∧ f p.1 p.2 = true := by
  have hm := List.mem_of_getElem? h
  rw [← e, cells_mem] at hm
  exact ⟨hm.2.1, hm.1, hm.2.2⟩
theorem cells_has {f : Ar} {l : List (Nat × Nat)} (e : cellsTo f 24 = l) {x y : Nat} (hx : x < 48) (hy : y < 24) (h : f x y = true) : ∃ j, j < l.length ∧ l[j]? = some (x, y) := by
  have hm : (x, y) ∈ l := by rw [← e]; exact cells_mem.2 ⟨hy, hx, h⟩
  obtain ⟨j, hj⟩ := List.mem_iff_getElem?.1 hm
  exact ⟨j, (List.getElem?_eq_some_iff.1 hj).1, hj⟩
theorem putS_all {f : Ar} {l : List (Nat × Nat)} (e : cellsTo f 24 = l) {k : Nat} (hk : k < 48) : Eqv (putS l k l.length) (turn f k) := eqv_iff fun x y hx hy => by
  unfold putS
  rw [take_any]
  constructor
  · rintro ⟨j, p, hj, h, hp⟩
    rw [decide_eq_true_eq] at hp
    obtain ⟨h1, h2, h3⟩ := cells_at e h
    show f ((x + (48 - k)) % 48) y = true
    rw [show (x + (48 - k)) % 48 = p.1 by omega, ← hp.2]; exact h3
  · intro h
    obtain ⟨j, hj, h2⟩ := cells_has e (x := (x + (48 - k)) % 48) (y := y) (Nat.mod_lt _ (by decide)) hy h
    exact ⟨j, _, hj, h2, by rw [decide_eq_true_eq]; exact ⟨by show ((x + (48 - k)) % 48 + k) % 48 = x; omega, rfl⟩⟩
theorem k48_nat (a : Nat) : k48 (a : Int) = a % 48 := by unfold k48; omega
theorem k48_shift (a : Nat) (z : Int) : k48 ((a : Int) + z.tmod 48) = (a + k48 z) % 48 := by
  unfold k48
  rcases Int.lt_or_le z 0 with hz | hz
  · have h1 : z.tmod 48 = -((-z) % 48) := by
      rw [show z = -(-z) by omega, Int.neg_tmod, Int.tmod_eq_emod_of_nonneg (by omega), Int.neg_neg]
    rw [h1]; omega
  · rw [Int.tmod_eq_emod_of_nonneg hz]; omega
/-- The columns from n to the west of a on, s of them. -/
def arc (a n s : Nat) (x : Nat) : Bool := anyTo (fun j => (a + (48 - n) + j) % 48 == x) s
theorem arc_all {a n x : Nat} (ha : a < 48) (hx : x < 48) (hn : n ≤ 24) : arc a n (2 * n + 1) x = true ↔ dx a x ≤ n := by
  unfold arc
  rw [any_iff]
  constructor
  · rintro ⟨j, hj, h⟩
    rw [beq_iff_eq] at h
    unfold dx
    omega
  · intro h
    unfold dx at h
    refine ⟨(x + 96 - (a + (48 - n))) % 48, ?_, ?_⟩
    · omega
    · rw [beq_iff_eq]; omega
theorem arc_0 (a n x : Nat) : arc a n 0 x = false := rfl
theorem arc_succ (a n s x : Nat) : arc a n (s + 1) x = (arc a n s x || ((a + (48 - n) + s) % 48 == x)) := by
  rw [Bool.eq_iff_iff, Bool.or_eq_true]
  unfold arc
  rw [any_iff, any_iff]
  constructor
  · rintro ⟨j, hj, h⟩
    by_cases e : j = s
    · subst e; exact .inr h
    · exact .inl ⟨j, by omega, h⟩
  · rintro (⟨j, hj, h⟩ | h)
    · exact ⟨j, by omega, h⟩
    · exact ⟨s, by omega, h⟩
/-- The first i cells of a list, each made wide by n; of the next one, at (a, b), the first s columns. -/
def wideS (l : List (Nat × Nat)) (n i : Nat) : Ar := fun x y => (l.take i).any (fun p => arc p.1 n (2 * n + 1) x && (y == p.2))
def wideI (l : List (Nat × Nat)) (n i a b s : Nat) : Ar := fun x y => wideS l n i x y || (arc a n s x && (y == b))
theorem wideS_0 (l : List (Nat × Nat)) (n : Nat) : Eqv nul (wideS l n 0) := fun x y _ _ => rfl
theorem wideI_0 (l : List (Nat × Nat)) (n i a b : Nat) : Eqv (wideS l n i) (wideI l n i a b 0) := fun x y _ _ => by
  unfold wideI; rw [arc_0, Bool.false_and, Bool.or_false]
theorem wideI_succ (l : List (Nat × Nat)) (n i a b s : Nat) : Eqv (putA (wideI l n i a b s) ((a + (48 - n) + s) % 48) b) (wideI l n i a b (s + 1)) := fun x y _ _ => by
  show ((wideS l n i x y || (arc a n s x && (y == b))) || ((x == (a + (48 - n) + s) % 48) && (y == b))) = (wideS l n i x y || (arc a n (s + 1) x && (y == b)))
  rw [arc_succ, show (x == (a + (48 - n) + s) % 48) = ((a + (48 - n) + s) % 48 == x) from Bool.beq_comm]
  cases wideS l n i x y <;> cases arc a n s x <;> cases ((a + (48 - n) + s) % 48 == x) <;> cases (y == b) <;> rfl
theorem wideI_all {l : List (Nat × Nat)} {n i a b : Nat} (h : l[i]? = some (a, b)) : Eqv (wideI l n i a b (2 * n + 1)) (wideS l n (i + 1)) := fun x y _ _ => by
  unfold wideI wideS
  rw [take_any_succ h]
def wideF (f : Ar) (n : Nat) : Ar := fun x y => anyTo (fun a => f a y && decide (dx a x ≤ n)) 48
theorem wideS_all {f : Ar} {l : List (Nat × Nat)} (e : cellsTo f 24 = l) {n : Nat} (hn : n ≤ 24) : Eqv (wideS l n l.length) (wideF f n) := eqv_iff fun x y hx hy => by
  unfold wideS wideF
  rw [take_any, any_iff]
  constructor
  · rintro ⟨j, p, hj, h, hp⟩
    obtain ⟨h1, h2, h3⟩ := cells_at e h
    rw [Bool.and_eq_true, arc_all h1 hx hn, beq_iff_eq] at hp
    exact ⟨p.1, h1, by rw [Bool.and_eq_true, decide_eq_true_eq, hp.2]; exact ⟨h3, hp.1⟩⟩
  · rintro ⟨a, ha, h⟩
    rw [Bool.and_eq_true, decide_eq_true_eq] at h
    obtain ⟨j, hj, h2⟩ := cells_has e ha hy h.1
    exact ⟨j, _, hj, h2, by rw [Bool.and_eq_true, arc_all ha hx hn, beq_iff_eq]; exact ⟨h.2, rfl⟩⟩
/-- What lies within n rows, of the rows below Z. -/
def tallR (g : Ar) (n y Z : Nat) (x : Nat) : Bool := anyTo (fun z => g x z && decide (dy z y ≤ n)) Z
def tallTo (g : Ar) (n Y Z : Nat) : Ar := fun x y => if y < Y then tallR g n y 24 x else if y = Y then tallR g n Y Z x else false
theorem tallR_succ (g : Ar) (n y Z x : Nat) : tallR g n y (Z + 1) x = (tallR g n y Z x || (g x Z && decide (dy Z y ≤ n))) := by
  rw [Bool.eq_iff_iff, Bool.or_eq_true]
  unfold tallR
  rw [any_iff, any_iff]
  constructor
  · rintro ⟨j, hj, h⟩
    by_cases e : j = Z
    · subst e; exact .inr h
    · exact .inl ⟨j, by omega, h⟩
  · rintro (⟨j, hj, h⟩ | h)
    · exact ⟨j, by omega, h⟩
    · exact ⟨Z, by omega, h⟩
theorem tallR_none {g : Ar} {n y Z x : Nat} (h : ∀ z, z < Z → n < dy z y) : tallR g n y Z x = false := by
  rw [← Bool.not_eq_true]
  unfold tallR
  rw [any_iff]
  rintro ⟨z, hz, h2⟩
  rw [Bool.and_eq_true, decide_eq_true_eq] at h2
  have := h z hz
  omega
theorem tallR_end {g : Ar} {n y Z x : Nat} (hZ : Z ≤ 24) (h : ∀ z, Z ≤ z → z < 24 → n < dy z y) : tallR g n y Z x = tallR g n y 24 x := by
  rw [Bool.eq_iff_iff]
  unfold tallR
  rw [any_iff, any_iff]
  constructor
  · rintro ⟨z, hz, h2⟩; exact ⟨z, by omega, h2⟩
  · rintro ⟨z, hz, h2⟩
    by_cases e : z < Z
    · exact ⟨z, e, h2⟩
    · rw [Bool.and_eq_true, decide_eq_true_eq] at h2
      have := h z (by omega) hz
      omega
theorem tall_0 (g : Ar) (n : Nat) : Eqv nul (tallTo g n 0 0) := fun x y _ _ => by
  unfold tallTo
  rw [if_neg (by omega)]
  split <;> rfl
theorem tall_start {g : Ar} {n Y : Nat} : Eqv (tallTo g n Y 0) (tallTo g n Y (Y - n)) := fun x y _ _ => by
  unfold tallTo
  by_cases h1 : y < Y
  · rw [if_pos h1, if_pos h1]
  · rw [if_neg h1, if_neg h1]
    by_cases h2 : y = Y
    · rw [if_pos h2, if_pos h2, tallR_none (Z := Y - n) (fun z hz => by unfold dy; omega)]; rfl
    · rw [if_neg h2, if_neg h2]
theorem tall_row {g : Ar} {n Y Z : Nat} (h : dy Z Y ≤ n) : rowOf (tallTo g n Y (Z + 1)) Y = rowOf (tallTo g n Y Z) Y ||| rowOf g Z := by
  unfold rowOf
  rw [bits_or]
  refine bits_congr (fun x _ => ?_)
  unfold tallTo
  rw [if_neg (Nat.lt_irrefl Y), if_neg (Nat.lt_irrefl Y), if_pos rfl, if_pos rfl, tallR_succ, decide_eq_true h, Bool.and_true]
theorem tall_other {g : Ar} {n Y Z y : Nat} (h : y ≠ Y) (x : Nat) : tallTo g n Y (Z + 1) x y = tallTo g n Y Z x y := by
  unfold tallTo
  rw [if_neg h, if_neg h]
theorem tall_end {g : Ar} {n Y Z : Nat} (hZ : Z ≤ 24) (h : ∀ z, Z ≤ z → z < 24 → n < dy z Y) : Eqv (tallTo g n Y Z) (tallTo g n (Y + 1) 0) := fun x y _ _ => by
  unfold tallTo
  by_cases h1 : y < Y
  · rw [if_pos h1, if_pos (by omega)]
  · rw [if_neg h1]
    by_cases h2 : y = Y
    · subst h2
      rw [if_pos rfl, if_pos (by omega)]
      exact tallR_end hZ h
    · rw [if_neg h2, if_neg (by omega)]
      split <;> rfl
theorem tall_all {f g : Ar} {n : Nat} (hg : Eqv g (wideF f n)) : Eqv (tallTo g n 24 0) (grown f n) := eqv_iff fun x y hx hy => by
  unfold tallTo
  rw [if_pos hy, grown_iff]
  unfold tallR
  rw [any_iff]
  constructor
  · rintro ⟨z, hz, h⟩
    rw [Bool.and_eq_true, decide_eq_true_eq, hg x z hx hz] at h
    obtain ⟨a, ha, h2⟩ := any_iff.1 h.1
    rw [Bool.and_eq_true, decide_eq_true_eq] at h2
    exact ⟨a, z, ha, hz, h2.1, by unfold near; omega⟩
  · rintro ⟨a, b, ha, hb, h1, h2⟩
    unfold near at h2
    refine ⟨b, hb, ?_⟩
    rw [Bool.and_eq_true, decide_eq_true_eq, hg x b hx hb]
    exact ⟨any_iff.2 ⟨a, ha, by rw [Bool.and_eq_true, decide_eq_true_eq]; exact ⟨h1, by omega⟩⟩, by omega⟩
/-- A box of h rows, and of the next row the first X columns. -/
def boxTo (cx cy w h X : Nat) : Ar := fun x y => box cx cy w h x y || ((y == cy + h) && decide ((x + (48 - cx)) % 48 < X))
theorem boxTo_0 (cx cy w : Nat) : Eqv nul (boxTo cx cy w 0 0) := eqv_iff fun x y _ _ => by
  unfold boxTo box
  simp [nul]
theorem boxTo_put {cx cy w h X : Nat} (hc : cx < 48) (hX : X < 48) : Eqv (putA (boxTo cx cy w h X) ((cx + X) % 48) (cy + h)) (boxTo cx cy w h (X + 1)) := eqv_iff fun x y hx _ => by
  rw [put_iff]
  unfold boxTo
  rw [Bool.or_eq_true, Bool.or_eq_true, Bool.and_eq_true, Bool.and_eq_true, beq_iff_eq, decide_eq_true_eq, decide_eq_true_eq]
  constructor
  · rintro ((h1 | ⟨h1, h2⟩) | ⟨rfl, rfl⟩)
    · exact .inl h1
    · exact .inr ⟨h1, by omega⟩
    · exact .inr ⟨rfl, by omega⟩
  · rintro (h1 | ⟨h1, h2⟩)
    · exact .inl (.inl h1)
    · by_cases e : (x + (48 - cx)) % 48 < X
      · exact .inl (.inr ⟨h1, e⟩)
      · exact .inr ⟨by omega, h1⟩
theorem boxTo_row (cx cy w h : Nat) : Eqv (boxTo cx cy w h w) (boxTo cx cy w (h + 1) 0) := eqv_iff fun x y _ _ => by
  unfold boxTo box
  simp only [Bool.or_eq_true, Bool.and_eq_true, beq_iff_eq, decide_eq_true_eq]
  omega
theorem boxTo_all (cx cy w h : Nat) : Eqv (boxTo cx cy w h 0) (box cx cy w h) := eqv_iff fun x y _ _ => by
  unfold boxTo box
  simp only [Bool.or_eq_true, Bool.and_eq_true, beq_iff_eq, decide_eq_true_eq]
  omega
theorem contains_count (f g : Ar) : (rowsOf (andA f g) == rowsOf g) = decide (count (lessA g f) = 0) := by
  rw [Bool.eq_iff_iff, beq_iff_eq, decide_eq_true_eq, rows_eqv, count_zero]
  constructor
  · intro e x y hx hy
    have := e x y hx hy
    show (g x y && !f x y) = false
    have h2 : (f x y && g x y) = g x y := this
    cases hg : g x y <;> cases hf : f x y <;> simp_all
  · intro e x y hx hy
    have := e x y hx hy
    show (f x y && g x y) = g x y
    have h2 : (g x y && !f x y) = false := this
    cases hg : g x y <;> cases hf : f x y <;> simp_all
theorem putA_eqv {f g : Ar} (h : Eqv f g) (a b : Nat) : Eqv (putA f a b) (putA g a b) := fun x y hx hy => by unfold putA; rw [h x y hx hy]
/-- Put, of what is only the same on the globe. -/
theorem put_step {f g h : Ar} {a b : Nat} (e : Eqv f g) (s : Eqv (putA g a b) h) : Eqv (putA f a b) h := Eqv.trans (putA_eqv e a b) s
end Go.Proofs.YtipfafglbkbafaaDoor
