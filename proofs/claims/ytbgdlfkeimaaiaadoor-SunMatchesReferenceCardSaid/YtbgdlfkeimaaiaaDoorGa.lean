/- Sets of cells, plainly (of the layer globe, as far as the sun wants it). -/
namespace Go.Proofs.YtbgdlfkeimaaiaaDoor
set_option linter.unusedVariables false
set_option linter.unusedSimpArgs false

/-- The number whose lower n bits are as f says. -/
def bitsTo (f : Nat → Bool) : Nat → Nat
  | 0 => 0
  | n + 1 => (if f n then 2 ^ n else 0) + bitsTo f n
theorem bitsTo_lt (f : Nat → Bool) : ∀ n, bitsTo f n < 2 ^ n
  | 0 => by simp [bitsTo]
  | n + 1 => by
    have := bitsTo_lt f n
    unfold bitsTo
    rw [Nat.pow_succ]
    split <;> omega
theorem bitsTo_bit (f : Nat → Bool) : ∀ n x, (bitsTo f n).testBit x = (decide (x < n) && f x)
  | 0, x => by simp [bitsTo]
  | n + 1, x => by
    have hb := bitsTo_lt f n
    have ih := bitsTo_bit f n x
    unfold bitsTo
    rcases Nat.lt_trichotomy x n with h | rfl | h
    · have e : decide (x < n + 1) = decide (x < n) := by rw [decide_eq_decide]; omega
      rw [e]
      split
      · rw [Nat.testBit_two_pow_add_gt h]; exact ih
      · rw [Nat.zero_add]; exact ih
    · have hz : (bitsTo f x).testBit x = false := Nat.testBit_lt_two_pow hb
      split
      · rename_i hf
        rw [Nat.testBit_two_pow_add_eq, hz, hf]; simp
      · rename_i hf
        rw [Nat.zero_add, hz]; simp [hf]
    · have hlt : (if f n then 2 ^ n else 0) + bitsTo f n < 2 ^ x := by
        have h2 : 2 ^ (n + 1) ≤ 2 ^ x := Nat.pow_le_pow_right (by decide) h
        rw [Nat.pow_succ] at h2
        split <;> omega
      rw [Nat.testBit_lt_two_pow hlt]
      have e : decide (x < n + 1) = false := by rw [decide_eq_false_iff_not]; omega
      rw [e]; rfl
theorem ext_bits {n a b : Nat} (ha : a < 2 ^ n) (hb : b < 2 ^ n) (h : ∀ x, x < n → a.testBit x = b.testBit x) : a = b := by
  apply Nat.eq_of_testBit_eq
  intro x
  by_cases hx : x < n
  · exact h x hx
  · have h2 : 2 ^ n ≤ 2 ^ x := Nat.pow_le_pow_right (by decide) (by omega)
    rw [Nat.testBit_lt_two_pow (Nat.lt_of_lt_of_le ha h2), Nat.testBit_lt_two_pow (Nat.lt_of_lt_of_le hb h2)]
theorem bits_congr {n : Nat} {f g : Nat → Bool} (h : ∀ x, x < n → f x = g x) : bitsTo f n = bitsTo g n :=
  ext_bits (bitsTo_lt _ n) (bitsTo_lt _ n) (fun x hx => by rw [bitsTo_bit, bitsTo_bit, h x hx])
/-- A set of cells. -/
abbrev Ar := Nat → Nat → Bool
def rowOf (f : Ar) (y : Nat) : Nat := bitsTo (fun x => f x y) 48
def rowsOf (f : Ar) : List Nat := (List.range 24).map (rowOf f)
theorem rows_len (f : Ar) : (rowsOf f).length = 24 := by unfold rowsOf; simp
theorem rows_at (f : Ar) {y : Nat} (hy : y < 24) : (rowsOf f)[y]? = some (rowOf f y) := by
  unfold rowsOf; rw [List.getElem?_map, List.getElem?_range hy]; rfl
theorem row_lt (f : Ar) (y : Nat) : rowOf f y < 281474976710656 := bitsTo_lt _ 48
def Eqv (f g : Ar) : Prop := ∀ x y, x < 48 → y < 24 → f x y = g x y
/-- How many bits, how many cells. -/
def cntTo (f : Nat → Bool) : Nat → Nat
  | 0 => 0
  | n + 1 => (if f n then 1 else 0) + cntTo f n
theorem cnt_le (f : Nat → Bool) : ∀ n, cntTo f n ≤ n
  | 0 => by simp [cntTo]
  | n + 1 => by have := cnt_le f n; unfold cntTo; split <;> omega
theorem cnt_zero {f : Nat → Bool} : ∀ {n}, cntTo f n = 0 ↔ ∀ x, x < n → f x = false
  | 0 => by simp [cntTo]
  | n + 1 => by
    unfold cntTo
    rw [Nat.add_eq_zero_iff, cnt_zero (n := n)]
    constructor
    · rintro ⟨h1, h2⟩ x hx
      by_cases e : x = n
      · subst e; cases hf : f x with | false => rfl | true => rw [hf] at h1; cases h1
      · exact h2 x (by omega)
    · intro h
      exact ⟨by rw [h n (by omega)]; rfl, fun x hx => h x (by omega)⟩
def sumTo (g : Nat → Nat) : Nat → Nat
  | 0 => 0
  | n + 1 => g n + sumTo g n
theorem sum_zero {g : Nat → Nat} : ∀ {n}, sumTo g n = 0 ↔ ∀ y, y < n → g y = 0
  | 0 => by simp [sumTo]
  | n + 1 => by
    unfold sumTo
    rw [Nat.add_eq_zero_iff, sum_zero (n := n)]
    constructor
    · rintro ⟨h1, h2⟩ y hy
      by_cases e : y = n
      · subst e; exact h1
      · exact h2 y (by omega)
    · intro h; exact ⟨h n (by omega), fun y hy => h y (by omega)⟩
def count (f : Ar) : Nat := sumTo (fun y => cntTo (fun x => f x y) 48) 24
theorem count_zero {f : Ar} : count f = 0 ↔ Eqv f (fun _ _ => false) := by
  unfold count Eqv
  rw [sum_zero]
  constructor
  · intro h x y hx hy; exact cnt_zero.1 (h y hy) x hx
  · intro h y hy; exact cnt_zero.2 (fun x hx => h x y hx hy)
/-- The distance of two columns, and of two cells. -/
def dx (a b : Nat) : Nat := min ((a + (48 - b)) % 48) ((b + (48 - a)) % 48)
def dy (a b : Nat) : Nat := (a - b) + (b - a)
def near (a b c d : Nat) : Nat := max (dx a c) (dy b d)
def anyTo (f : Nat → Bool) : Nat → Bool
  | 0 => false
  | n + 1 => f n || anyTo f n
/-- All cells at a distance of at most n. -/
def grown (f : Ar) (n : Nat) : Ar := fun x y => anyTo (fun a => anyTo (fun b => f a b && decide (near a b x y ≤ n)) 24) 48
/-- The cells of a row, and of an area, in order. -/
def rowCells (f : Ar) (y n : Nat) : List (Nat × Nat) := ((List.range n).filter (fun x => f x y)).map (fun x => (x, y))
def cellsTo (f : Ar) : Nat → List (Nat × Nat)
  | 0 => []
  | n + 1 => cellsTo f n ++ rowCells f n 48
theorem rowCells_succ (f : Ar) (y n : Nat) : rowCells f y (n + 1) = rowCells f y n ++ if f n y then [(n, y)] else [] := by
  unfold rowCells
  rw [List.range_succ, List.filter_append, List.map_append]
  congr 1
  by_cases h : f n y <;> simp [h]
theorem rowCells_len (f : Ar) (y : Nat) : ∀ n, (rowCells f y n).length = cntTo (fun x => f x y) n
  | 0 => rfl
  | n + 1 => by
    rw [rowCells_succ, List.length_append, rowCells_len f y n]
    show _ = (if f n y then 1 else 0) + _
    split <;> simp <;> omega
theorem cells_len (f : Ar) : (cellsTo f 24).length = count f := by
  have : ∀ n, (cellsTo f n).length = sumTo (fun y => cntTo (fun x => f x y) 48) n := by
    intro n
    induction n with
    | zero => rfl
    | succ n ih =>
      show (cellsTo f n ++ rowCells f n 48).length = _
      rw [List.length_append, ih, rowCells_len]
      show _ = cntTo (fun x => f x n) 48 + _
      omega
  exact this 24
end Go.Proofs.YtbgdlfkeimaaiaaDoor
