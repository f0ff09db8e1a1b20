/- A burst of at most 32 bits changes the checksum: plain words. -/
import Derived.Test.YtkpjdbfmcelddaaDoorAffM
namespace Go.Proofs.YtkpjdbfmcelddaaDoor
open Go.RowKit

/-- One shift of the register. -/
def sh (r : Nat) : Nat := if r % 2 = 1 then r / 2 ^^^ 2197175160 else r / 2
def shN : Nat → Nat → Nat
  | 0, r => r
  | n + 1, r => shN n (sh r)
theorem shN_add : ∀ (a b r : Nat), shN (a + b) r = shN b (shN a r)
  | 0, b, r => by rw [Nat.zero_add]; rfl
  | a + 1, b, r => by rw [show a + 1 + b = (a + b) + 1 by omega, shN, shN_add a b]; rfl
theorem xor_half (x y : Nat) : (x ^^^ y) / 2 = x / 2 ^^^ y / 2 := by
  have := Nat.shiftRight_xor_distrib (a := x) (b := y) (i := 1)
  rwa [Nat.shiftRight_eq_div_pow, Nat.shiftRight_eq_div_pow, Nat.shiftRight_eq_div_pow] at this
theorem xor_parity (x y : Nat) : (x ^^^ y) % 2 = x % 2 ^^^ y % 2 := Nat.xor_mod_two_pow (n := 1)
theorem sh_xor (x y : Nat) : sh (x ^^^ y) = sh x ^^^ sh y := by
  unfold sh
  rw [xor_half, xor_parity]
  rcases Nat.mod_two_eq_zero_or_one x with hx | hx <;> rcases Nat.mod_two_eq_zero_or_one y with hy | hy <;> rw [hx, hy]
  · simp
  · simp only [show (0 ^^^ 1 : Nat) = 1 by decide, if_true, show ¬ (0 : Nat) = 1 by decide, if_false]; ac_rfl
  · simp only [show (1 ^^^ 0 : Nat) = 1 by decide, if_true, show ¬ (0 : Nat) = 1 by decide, if_false]; ac_rfl
  · simp only [show (1 ^^^ 1 : Nat) = 0 by decide, if_true, show ¬ (0 : Nat) = 1 by decide, if_false]
    rw [show x / 2 ^^^ 2197175160 ^^^ (y / 2 ^^^ 2197175160) = x / 2 ^^^ y / 2 ^^^ (2197175160 ^^^ 2197175160) by ac_rfl, Nat.xor_self, Nat.xor_zero]
theorem shN_xor : ∀ (n x y : Nat), shN n (x ^^^ y) = shN n x ^^^ shN n y
  | 0, _, _ => rfl
  | n + 1, x, y => by rw [shN, sh_xor, shN_xor n]; rfl
theorem sh_double (x : Nat) : sh (2 * x) = x := by unfold sh; rw [if_neg (by omega)]; omega
theorem shN_pow : ∀ (n x : Nat), shN n (x * 2 ^ n) = x
  | 0, x => by simp [shN]
  | n + 1, x => by rw [shN, show x * 2 ^ (n + 1) = 2 * (x * 2 ^ n) by rw [Nat.pow_succ]; ac_rfl, sh_double, shN_pow n]
theorem low_high (r n : Nat) : r = r % 2 ^ n ^^^ (r / 2 ^ n) * 2 ^ n := by
  have h := Nat.two_pow_add_eq_or_of_lt (Nat.mod_lt r (Nat.two_pow_pos n)) (r / 2 ^ n)
  rw [Nat.mul_comm]
  have e : 2 ^ n * (r / 2 ^ n) + r % 2 ^ n = r := Nat.div_add_mod r _
  apply Nat.eq_of_testBit_eq
  intro i
  rw [Nat.testBit_xor, Nat.testBit_two_pow_mul, Nat.testBit_mod_two_pow, Nat.testBit_div_two_pow]
  by_cases hi : i < n
  · simp [hi, show ¬ n ≤ i by omega]
  · simp [hi, show n ≤ i by omega, show i - n + n = i by omega]
theorem t4_sh (r : Nat) : t4 r = shN 4 r := by
  have hq : ∀ i, i < 16 → quartersL.getD i 0 = shN 4 i := by decide +kernel
  have e := low_high r 4
  rw [show (2 : Nat) ^ 4 = 16 from rfl] at e
  have h := congrArg (shN 4) e
  rw [shN_xor, show (16 : Nat) = 2 ^ 4 from rfl, shN_pow] at h
  rw [h]
  unfold t4
  rw [hq _ (Nat.mod_lt _ (by decide)), Nat.xor_comm]
theorem crcStep_sh (r : Nat) (b : UInt8) : crcStep r b = shN 8 (r ^^^ b.toNat) := by
  unfold crcStep; rw [t4_sh, t4_sh, ← shN_add]

/-- The bytes of a number, the lowest first. -/
def le : Nat → Nat → List UInt8
  | 0, _ => []
  | n + 1, x => UInt8.ofNat (x % 256) :: le n (x / 256)
theorem le_length : ∀ (n x : Nat), (le n x).length = n
  | 0, _ => rfl
  | n + 1, x => by rw [le, List.length_cons, le_length n]
theorem le_getElem : ∀ (n x j : Nat) (h : j < (le n x).length), ((le n x)[j]).toNat = x / 2 ^ (8 * j) % 256
  | 0, _, _, h => by simp [le] at h
  | n + 1, x, 0, _ => by simp [le]
  | n + 1, x, j + 1, h => by
    simp only [le, List.getElem_cons_succ]
    rw [le_getElem n (x / 256) j, Nat.div_div_eq_div_mul, show 256 * 2 ^ (8 * j) = 2 ^ (8 * (j + 1)) by rw [show 8 * (j + 1) = 8 * j + 8 by omega, Nat.pow_add]; omega]
/-- The register behind the bytes of a number is the number, shifted as often as it has bits. -/
theorem foldl_le : ∀ (n x r : Nat), x < 2 ^ (8 * n) → (le n x).foldl crcStep r = shN (8 * n) (r ^^^ x)
  | 0, x, r, h => by
    have : x = 0 := by simpa using h
    subst this; simp [le, shN]
  | n + 1, x, r, h => by
    rw [le, List.foldl_cons, foldl_le n (x / 256) _ (by
      rw [show 8 * (n + 1) = 8 * n + 8 by omega, Nat.pow_add] at h; omega), crcStep_sh, show 8 * (n + 1) = 8 + 8 * n by omega, shN_add]
    congr 1
    have hb : (UInt8.ofNat (x % 256)).toNat = x % 256 := by simp
    rw [hb]
    have e := low_high x 8
    rw [show (2 : Nat) ^ 8 = 256 from rfl] at e
    conv => rhs; rw [e]
    rw [← Nat.xor_assoc, shN_xor 8 (r ^^^ x % 256), show (x / 256 * 256) = x / 256 * 2 ^ 8 from rfl, shN_pow 8 (x / 256)]
theorem sh_lt (r : Nat) (h : r < 2 ^ 32) : sh r < 2 ^ 32 := by
  unfold sh; split
  · exact Nat.xor_lt_two_pow (by omega) (by decide)
  · omega
theorem sh_zero (r : Nat) (h : r < 2 ^ 32) (h0 : sh r = 0) : r = 0 := by
  unfold sh at h0; split at h0
  · have h2 := congrArg (· ^^^ 2197175160) h0
    simp only [Nat.xor_assoc, Nat.xor_self, Nat.xor_zero, Nat.zero_xor] at h2
    omega
  · omega
theorem shN_zero : ∀ (n r : Nat), r < 2 ^ 32 → shN n r = 0 → r = 0
  | 0, _, _, h => h
  | n + 1, r, h, h0 => sh_zero r h (shN_zero n (sh r) (sh_lt r h) h0)
theorem shN_of_zero : ∀ n, shN n 0 = 0
  | 0 => rfl
  | n + 1 => by rw [shN, show sh 0 = 0 from rfl, shN_of_zero n]

/-- The text in which the bits of a pattern are turned, from a place on. -/
def turned (l : List UInt8) (p : Nat) (x : Nat) : List UInt8 := xorL l (le l.length (x * 2 ^ p))
theorem turned_length (l : List UInt8) (p x : Nat) : (turned l p x).length = l.length := by
  unfold turned; rw [xorL_length _ _ (by rw [le_length])]
theorem turned_zero (l : List UInt8) (p : Nat) : turned l p 0 = l := by
  unfold turned
  rw [Nat.zero_mul]
  induction l with
  | nil => rfl
  | cons a l ih => simp only [List.length_cons, le, xorL, Nat.zero_mod, Nat.zero_div]; rw [ih]; congr 1; simp
theorem sum_turned (l : List UInt8) (p x : Nat) (hx : x < 2 ^ 32) (hp : p ≤ 8 * l.length) (h : x * 2 ^ p < 2 ^ (8 * l.length)) : (sumN (turned l p x) = sumN l) ↔ x = 0 := by
  have e := foldl_xor l (le l.length (x * 2 ^ p)) 4294967295 0 (by rw [le_length])
  rw [Nat.xor_zero, foldl_le _ _ _ h, Nat.zero_xor, show 8 * l.length = p + (8 * l.length - p) by omega, shN_add, shN_pow] at e
  unfold sumN crc turned
  rw [e]
  generalize List.foldl crcStep 4294967295 l = y
  constructor
  · intro h'
    have h2 : y ^^^ shN (8 * l.length - p) x = y := by
      have := congrArg (4294967295 ^^^ ·) h'
      simpa [← Nat.xor_assoc] using this
    have h3 := congrArg (y ^^^ ·) h2
    simp only [← Nat.xor_assoc, Nat.xor_self, Nat.zero_xor] at h3
    exact shN_zero _ _ hx h3
  · intro h'; subst h'; rw [shN_of_zero, Nat.xor_zero]
/-- One more bit: one byte turns. -/
theorem turned_bit (l : List UInt8) (p x k j : Nat) (hx : x < 2 ^ k) (hj : j < l.length) :
    ((turned l p (x + 2 ^ k)).getD j 0).toNat = if j = (p + k) / 8 then ((turned l p x).getD j 0).toNat ^^^ 2 ^ ((p + k) % 8) else ((turned l p x).getD j 0).toNat := by
  have hg : ∀ y, ((turned l p y).getD j 0).toNat = l[j].toNat ^^^ (y * 2 ^ p / 2 ^ (8 * j) % 256) := fun y => by
    have hl : j < (xorL l (le l.length (y * 2 ^ p))).length := by rw [xorL_length _ _ (by rw [le_length])]; exact hj
    show ((xorL l (le l.length (y * 2 ^ p))).getD j 0).toNat = _
    rw [List.getD_eq_getElem?_getD, List.getElem?_eq_getElem hl, Option.getD_some]
    rw [xorL_getElem _ _ j _ hj (by rw [le_length]; exact hj), xor_toNat, le_getElem]
  rw [hg, hg]
  have hs : (x + 2 ^ k) * 2 ^ p = x * 2 ^ p ^^^ 2 ^ (p + k) := by
    have hlt : x * 2 ^ p < 2 ^ (p + k) := by rw [Nat.pow_add, Nat.mul_comm (2 ^ p)]; exact Nat.mul_lt_mul_of_pos_right hx (Nat.two_pow_pos p)
    rw [Nat.add_mul, ← Nat.pow_add, Nat.add_comm k p]
    have e := low_high (x * 2 ^ p + 2 ^ (p + k)) (p + k)
    rw [Nat.add_mod_right, Nat.mod_eq_of_lt hlt, Nat.add_div_right _ (Nat.two_pow_pos _), Nat.div_eq_of_lt hlt, Nat.zero_add, Nat.one_mul] at e
    exact e
  rw [hs]
  have hd : (x * 2 ^ p ^^^ 2 ^ (p + k)) / 2 ^ (8 * j) % 256 = (x * 2 ^ p / 2 ^ (8 * j) % 256) ^^^ (2 ^ (p + k) / 2 ^ (8 * j) % 256) := by
    rw [← Nat.shiftRight_eq_div_pow, Nat.shiftRight_xor_distrib, Nat.shiftRight_eq_div_pow, Nat.shiftRight_eq_div_pow]
    exact Nat.xor_mod_two_pow (n := 8)
  rw [hd]
  have hb : 2 ^ (p + k) / 2 ^ (8 * j) % 256 = if j = (p + k) / 8 then 2 ^ ((p + k) % 8) else 0 := by
    generalize p + k = m
    split
    · rename_i h
      have hm : m = 8 * j + m % 8 := by omega
      have h2 : 2 ^ m = 2 ^ (m % 8) * 2 ^ (8 * j) := by rw [← Nat.pow_add]; congr 1; omega
      rw [h2, Nat.mul_div_cancel _ (Nat.two_pow_pos _)]
      exact Nat.mod_eq_of_lt (show 2 ^ (m % 8) < 2 ^ 8 from Nat.pow_lt_pow_right (by decide) (by omega))
    · rename_i h
      by_cases hl : 8 * j ≤ m
      · have h2 : 2 ^ m = (2 ^ (m - 8 * j - 8) * 256) * 2 ^ (8 * j) := by
          rw [show (256 : Nat) = 2 ^ 8 from rfl, ← Nat.pow_add, ← Nat.pow_add]; congr 1; omega
        rw [h2, Nat.mul_div_cancel _ (Nat.two_pow_pos _), Nat.mul_mod_left]
      · rw [Nat.div_eq_of_lt (Nat.pow_lt_pow_right (by decide) (by omega))]
  rw [hb]
  split
  · rw [Nat.xor_assoc]
  · rw [Nat.xor_zero]
end Go.Proofs.YtkpjdbfmcelddaaDoor
