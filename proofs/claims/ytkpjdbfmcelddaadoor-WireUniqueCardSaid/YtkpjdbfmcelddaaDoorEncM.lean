/- The encoding of integers and strings is decoded to what was encoded, and what is decoded was encoded: plain words. -/
import Derived.Test.YtkpjdbfmcelddaaDoorEncC
namespace Go.Proofs.YtkpjdbfmcelddaaDoor
open Go.RowKit

def encL (k y : Nat) : List UInt8 := (bytesOf (grps k y)).map fun n => UInt8.ofNat n.toNat
theorem enc_eq (z : Nat) : enc z = encL 8 z := rfl
theorem encL_last (k y : Nat) (h : y ≤ 127) : encL k y = [UInt8.ofNat y] := by
  unfold encL; rw [grps_last k y h]
  simp [bytesOf, byteOf, Nat.mod_eq_of_lt (show y < 128 by omega)]
theorem encL_more (k y : Nat) (h : 127 < y) : encL (k + 1) y = UInt8.ofNat (y % 128 + 128) :: encL k (y / 128) := by
  unfold encL; rw [grps_succ k y h]
  simp only [bytesOf, byteOf, List.map_cons, if_true]
  congr 1

/-- What was encoded is decoded, whatever follows. -/
theorem dec_encL : ∀ (k i y acc : Nat) (rest : List UInt8), y < 2 ^ (7 * k + 7) → (0 < i → 0 < y) →
    dec (k + 1) i acc (encL k y ++ rest) = some (acc + y * 2 ^ (7 * i), i + (encL k y).length, true) := by
  intro k
  induction k with
  | zero =>
    intro i y acc rest hy hi
    have hy' : y ≤ 127 := by simp at hy; omega
    rw [encL_last 0 y hy']
    have hb : (UInt8.ofNat y).toNat = y := by simp; omega
    rw [List.singleton_append, dec, if_pos (by omega), hb]
    simp only [List.length_singleton, Option.some.injEq, Prod.mk.injEq, true_and]
    rcases Nat.eq_zero_or_pos i with h | h
    · subst h; simp
    · have := hi h; simp; omega
  | succ k ih =>
    intro i y acc rest hy hi
    by_cases h : y ≤ 127
    · rw [encL_last (k + 1) y h]
      have hb : (UInt8.ofNat y).toNat = y := by simp; omega
      rw [List.singleton_append, dec, if_pos (by omega), hb]
      simp only [List.length_singleton, Option.some.injEq, Prod.mk.injEq, true_and]
      rcases Nat.eq_zero_or_pos i with h0 | h0
      · subst h0; simp
      · have := hi h0; simp; omega
    · have hb : (UInt8.ofNat (y % 128 + 128)).toNat = y % 128 + 128 := by simp; omega
      have hy2 : y / 128 < 2 ^ (7 * k + 7) := by
        have e : 2 ^ (7 * (k + 1) + 7) = 2 ^ (7 * k + 7) * 128 := by rw [show 7 * (k + 1) + 7 = (7 * k + 7) + 7 from by omega, Nat.pow_add]
        rw [e] at hy; omega
      rw [encL_more k y (by omega), List.cons_append, dec, if_neg (by omega), hb, ih (i + 1) (y / 128) _ rest hy2 (fun _ => by omega)]
      simp only [List.length_cons, Option.some.injEq, Prod.mk.injEq, and_true]
      refine ⟨?_, by omega⟩
      have e : 2 ^ (7 * (i + 1)) = 128 * 2 ^ (7 * i) := by rw [show 7 * (i + 1) = 7 * i + 7 from by omega, Nat.pow_add, Nat.mul_comm]
      rw [e, show y % 128 + 128 - 128 = y % 128 from by omega, ← Nat.mul_assoc, Nat.add_assoc, ← Nat.add_mul]
      congr 2; omega

theorem dec_enc (z : Nat) (hz : z < 2 ^ 63) (rest : List UInt8) : dec 9 0 0 (enc z ++ rest) = some (z, (enc z).length, true) := by
  have := dec_encL 8 0 z 0 rest hz (fun h => by omega)
  rw [enc_eq]; simpa using this

/-- What is decoded was encoded. -/
theorem encL_dec : ∀ (k i acc z n : Nat) (l : List UInt8), dec (k + 1) i acc l = some (z, n, true) →
    ∃ y, z = acc + y * 2 ^ (7 * i) ∧ (0 < i → 0 < y) ∧ y < 2 ^ (7 * k + 7) ∧ l.take (n - i) = encL k y ∧ i < n := by
  intro k
  induction k with
  | zero =>
    intro i acc z n l h
    cases l with
    | nil => simp [dec] at h
    | cons b l =>
      rw [dec] at h
      split at h
      · rename_i hb
        simp only [Option.some.injEq, Prod.mk.injEq] at h
        obtain ⟨rfl, rfl, hok⟩ := h
        refine ⟨b.toNat, rfl, ?_, by simp; omega, ?_, by omega⟩
        · intro hi
          rcases Nat.eq_zero_or_pos b.toNat with h0 | h0
          · rw [h0] at hok; simp at hok; omega
          · exact h0
        · rw [encL_last 0 _ (by omega), show i + 1 - i = 1 from by omega]; simp
      · simp [dec] at h
  | succ k ih =>
    intro i acc z n l h
    cases l with
    | nil => simp [dec] at h
    | cons b l =>
      rw [dec] at h
      split at h
      · rename_i hb
        simp only [Option.some.injEq, Prod.mk.injEq] at h
        obtain ⟨rfl, rfl, hok⟩ := h
        have hp : 128 ≤ 2 ^ (7 * (k + 1) + 7) := by
          rw [show 7 * (k + 1) + 7 = 7 * (k + 1) + 7 from rfl, Nat.pow_add]
          have := Nat.one_le_two_pow (n := 7 * (k + 1)); omega
        refine ⟨b.toNat, rfl, ?_, by omega, ?_, by omega⟩
        · intro hi
          rcases Nat.eq_zero_or_pos b.toNat with h0 | h0
          · rw [h0] at hok; simp at hok; omega
          · exact h0
        · rw [encL_last _ _ (by omega), show i + 1 - i = 1 from by omega]; simp
      · rename_i hb
        have hb2 : b.toNat < 256 := UInt8.toNat_lt b
        obtain ⟨y, h1, h2, h3, h4, h5⟩ := ih (i + 1) _ z n l h
        have hy := h2 (by omega)
        refine ⟨y * 128 + (b.toNat - 128), ?_, fun _ => by omega, ?_, ?_, by omega⟩
        · have e : 2 ^ (7 * (i + 1)) = 128 * 2 ^ (7 * i) := by rw [show 7 * (i + 1) = 7 * i + 7 from by omega, Nat.pow_add, Nat.mul_comm]
          rw [h1, e, Nat.add_mul, Nat.mul_assoc, Nat.add_assoc, Nat.add_comm (_ * _) (y * _)]
        · have e : 2 ^ (7 * (k + 1) + 7) = 2 ^ (7 * k + 7) * 128 := by rw [show 7 * (k + 1) + 7 = (7 * k + 7) + 7 from by omega, Nat.pow_add]
          rw [e]; omega
        · rw [encL_more k _ (by omega), show n - i = (n - (i + 1)) + 1 from by omega, List.take_succ_cons, h4]
          rw [show (y * 128 + (b.toNat - 128)) / 128 = y from by omega, show (y * 128 + (b.toNat - 128)) % 128 + 128 = b.toNat from by omega, UInt8.ofNat_toNat]

theorem enc_dec (z n : Nat) (l : List UInt8) (h : dec 9 0 0 l = some (z, n, true)) : l.take n = enc z ∧ z < 2 ^ 63 := by
  obtain ⟨y, h1, _, h3, h4, _⟩ := encL_dec 8 0 0 z n l h
  obtain rfl : z = y := by simpa using h1
  exact ⟨h4, h3⟩

theorem unzig_zig (m : Int) : unzig (zig m) = m := by
  unfold zig
  split
  · unfold unzig; rw [if_pos (by omega)]; omega
  · unfold unzig; rw [if_neg (by omega)]; omega
theorem zig_unzig (z : Nat) : zig (unzig z) = z := by
  unfold unzig
  split
  · unfold zig; rw [if_pos (by omega)]; omega
  · unfold zig; rw [if_neg (by omega)]; omega
theorem unzig_range (z : Nat) (h : z ≤ 9223372036854775806) : -4611686018427387903 ≤ unzig z ∧ unzig z ≤ 4611686018427387903 := by
  unfold unzig; split <;> omega
theorem zig_le (m : Int) (h1 : -4611686018427387903 ≤ m) (h2 : m ≤ 4611686018427387903) : zig m ≤ 9223372036854775806 := by
  unfold zig; split <;> omega

theorem intO_enc (m : Int) (h1 : -4611686018427387903 ≤ m) (h2 : m ≤ 4611686018427387903) (rest : List UInt8) :
    intO (enc (zig m) ++ rest) = some (m, (enc (zig m)).length) := by
  unfold intO
  rw [dec_enc _ (zig_lt m h1 h2)]
  simp only [if_pos (zig_le m h1 h2), unzig_zig]
theorem enc_intO (l : List UInt8) (m : Int) (n : Nat) (h : intO l = some (m, n)) : l.take n = enc (zig m) ∧ -4611686018427387903 ≤ m ∧ m ≤ 4611686018427387903 := by
  unfold intO at h
  rcases hd : dec 9 0 0 l with _ | ⟨z, k, ok⟩
  · rw [hd] at h; simp at h
  · rw [hd] at h
    cases ok
    · simp at h
    · simp only at h
      split at h
      · rename_i hz
        simp only [Option.some.injEq, Prod.mk.injEq] at h
        obtain ⟨rfl, rfl⟩ := h
        rw [zig_unzig]
        exact ⟨(enc_dec z k l hd).1, unzig_range z hz⟩
      · simp at h

/-- An integer's encoding that begins another one's text is that one's. -/
theorem enc_prefix (m k : Int) (hm : -4611686018427387903 ≤ m ∧ m ≤ 4611686018427387903) (hk : -4611686018427387903 ≤ k ∧ k ≤ 4611686018427387903) (r r' : List UInt8)
    (h : enc (zig m) ++ r = enc (zig k) ++ r') : m = k := by
  have h1 := intO_enc m hm.1 hm.2 r
  have h2 := intO_enc k hk.1 hk.2 r'
  rw [h, h2] at h1
  simp at h1; exact h1.1.symm
/-- No proper beginning of an encoding is accepted. -/
theorem intO_short (m : Int) (hm : -4611686018427387903 ≤ m ∧ m ≤ 4611686018427387903) (j : Nat) (hj : j < (enc (zig m)).length) : intO ((enc (zig m)).take j) = none := by
  rcases h : intO ((enc (zig m)).take j) with _ | ⟨k, n⟩
  · rfl
  · exfalso
    have hb := intO_bound _ _ _ h
    obtain ⟨ht, hk⟩ := enc_intO _ _ _ h
    have hl : n ≤ j := by have := hb.2.1; rw [List.length_take] at this; omega
    rw [List.take_take, Nat.min_eq_left hl] at ht
    have e := List.take_append_drop n (enc (zig m))
    rw [ht] at e
    have := enc_prefix k m hk hm ((enc (zig m)).drop n) [] (by rw [e, List.append_nil])
    subst this
    have hlen := congrArg List.length ht
    rw [List.length_take] at hlen; omega
end Go.Proofs.YtkpjdbfmcelddaaDoor
