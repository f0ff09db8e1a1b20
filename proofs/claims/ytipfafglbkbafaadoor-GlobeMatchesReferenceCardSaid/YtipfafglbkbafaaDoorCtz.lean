/- The cells of a row, one after the other: the lowest bit, and the word without it. -/
import Derived.Test.YtipfafglbkbafaaDoorGm
import Derived.Lib.TrailingZeros
namespace Go.Proofs.YtipfafglbkbafaaDoor
open Go
set_option linter.unusedVariables false
set_option linter.unusedSimpArgs false

theorem odd_bit (k m i : Nat) : (2 ^ k * (2 * m + 1)).testBit i = (decide (i = k) || (decide (k < i) && m.testBit (i - k - 1))) := by
  rw [Nat.mul_comm, Nat.testBit_mul_two_pow]
  rcases Nat.lt_trichotomy i k with h | rfl | h
  · have h1 : ¬ k ≤ i := by omega
    have h2 : ¬ i = k := by omega
    have h3 : ¬ k < i := by omega
    simp [h1, h2, h3]
  · simp
  · have h1 : k ≤ i := by omega
    have h2 : ¬ i = k := by omega
    obtain ⟨j, rfl⟩ : ∃ j, i = k + (j + 1) := ⟨i - k - 1, by omega⟩
    have e : k + (j + 1) - k = j + 1 := by omega
    rw [e, Nat.testBit_succ, show (2 * m + 1) / 2 = m by omega]
    simp [h1, h]
theorem less_bit (k m i : Nat) : (2 ^ k * (2 * m + 1) &&& (2 ^ k * (2 * m + 1) - 1)).testBit i = (decide (k < i) && m.testBit (i - k - 1)) := by
  have hp : 0 < 2 ^ k := Nat.two_pow_pos k
  have e : 2 ^ k * (2 * m + 1) - 1 = 2 ^ k * (2 * m) + (2 ^ k - 1) := by rw [Nat.mul_add]; omega
  rw [Nat.testBit_and, odd_bit, e, Nat.testBit_two_pow_mul_add _ (by omega)]
  rcases Nat.lt_trichotomy i k with h | rfl | h
  · have h2 : ¬ i = k := by omega
    have h3 : ¬ k < i := by omega
    simp [h2, h3]
  · simp
  · have h2 : ¬ i = k := by omega
    have h4 : ¬ i < k := by omega
    obtain ⟨j, rfl⟩ : ∃ j, i = k + (j + 1) := ⟨i - k - 1, by omega⟩
    have e3 : k + (j + 1) - k = j + 1 := by omega
    rw [if_neg h4, e3, Nat.testBit_succ, show 2 * m / 2 = m by omega]
    simp [h]
/-- The bits from k on. -/
def from_ (f : Nat → Bool) (k : Nat) : Nat := bitsTo (fun x => decide (k ≤ x) && f x) 48
theorem from_0 (f : Nat → Bool) : from_ f 0 = bitsTo f 48 := bits_congr (fun x _ => by simp)
theorem from_lt (f : Nat → Bool) (k : Nat) : from_ f k < 281474976710656 := bitsTo_lt _ 48
theorem from_bit (f : Nat → Bool) (k x : Nat) : (from_ f k).testBit x = (decide (x < 48) && (decide (k ≤ x) && f x)) := bitsTo_bit _ 48 x
theorem from_zero {f : Nat → Bool} {k : Nat} (h : from_ f k = 0) : ∀ x, x < 48 → k ≤ x → f x = false := fun x hx hk => by
  have := from_bit f k x
  rw [h, Nat.zero_testBit] at this
  simp only [hx, hk, decide_true, Bool.true_and] at this
  exact this.symm
theorem from_step {f : Nat → Bool} {k : Nat} (h : from_ f k ≠ 0) : ∃ t, Lib.ctz 64 (from_ f k) = t ∧ t < 48 ∧ k ≤ t ∧ f t = true ∧ (∀ x, k ≤ x → x < t → f x = false) ∧ from_ f k &&& (from_ f k - 1) = from_ f (t + 1) ∧ 1 ≤ from_ f k := by
  have hlt := from_lt f k
  obtain ⟨m, hm, hk⟩ := Lib.ctzFrom_spec 64 (from_ f k) (by omega) (by omega)
  have e : Lib.ctz 64 (from_ f k) = Lib.ctzFrom 64 (from_ f k) := by simp [Lib.ctz, h]
  refine ⟨_, e, ?_⟩
  generalize Lib.ctzFrom 64 (from_ f k) = t at *
  have hbit : ∀ i, (decide (i < 48) && (decide (k ≤ i) && f i)) = (decide (i = t) || (decide (t < i) && m.testBit (i - t - 1))) := fun i => by
    rw [← from_bit, ← odd_bit, ← hm]
  have ht := hbit t
  simp only [decide_true, Bool.true_or, Bool.and_eq_true, decide_eq_true_eq] at ht
  refine ⟨ht.1, ht.2.1, ht.2.2, fun x h1 h2 => ?_, ?_, by omega⟩
  · have := hbit x
    have a1 : x < 48 := by omega
    have a2 : ¬ x = t := by omega
    have a3 : ¬ t < x := by omega
    simpa [a1, h1, a2, a3] using this
  · have hx : from_ f k &&& (from_ f k - 1) < 2 ^ 48 := Nat.lt_of_le_of_lt Nat.and_le_left hlt
    refine ext_bits hx (from_lt f (t + 1)) (fun i hi => ?_)
    have e2 : (from_ f k &&& (from_ f k - 1)).testBit i = (decide (t < i) && m.testBit (i - t - 1)) := by rw [hm]; exact less_bit t m i
    have := hbit i
    rw [e2, from_bit]
    by_cases c : t < i
    · have a1 : ¬ i = t := by omega
      have a2 : k ≤ i := by omega
      have a3 : t + 1 ≤ i := by omega
      simp only [hi, a1, a2, a3, c, decide_true, decide_false, Bool.true_and, Bool.false_or] at this ⊢
      exact this.symm
    · have a3 : ¬ t + 1 ≤ i := by omega
      simp [c, a3]
/-- Nothing between: the cells up to t are those up to k. -/
theorem rowCells_skip (f : Ar) (y : Nat) {k : Nat} : ∀ {t}, k ≤ t → (∀ x, k ≤ x → x < t → f x y = false) → rowCells f y t = rowCells f y k
  | 0, h, _ => by obtain rfl : k = 0 := by omega
                  rfl
  | t + 1, h, hz => by
    by_cases e : k = t + 1
    · rw [e]
    · rw [rowCells_succ, hz t (by omega) (by omega), rowCells_skip f y (t := t) (by omega) (fun x h1 h2 => hz x h1 (by omega))]
      simp
theorem rowCells_next (f : Ar) (y : Nat) {k t : Nat} (h : k ≤ t) (hz : ∀ x, k ≤ x → x < t → f x y = false) (ht : f t y = true) : rowCells f y (t + 1) = rowCells f y k ++ [(t, y)] := by
  rw [rowCells_succ, ht, rowCells_skip f y h hz]; simp
end Go.Proofs.YtipfafglbkbafaaDoor
