/- The checksum of an exclusive-or of three texts: plain words. -/
import Derived.Test.YtkpjdbfmcelddaaDoorSum
namespace Go.Proofs.YtkpjdbfmcelddaaDoor
open Go.RowKit

theorem quarters_xor : ∀ i, i < 16 → ∀ j, j < 16 → quartersL.getD (i ^^^ j) 0 = quartersL.getD i 0 ^^^ quartersL.getD j 0 := by decide +kernel
theorem t4_xor (x y : Nat) : t4 (x ^^^ y) = t4 x ^^^ t4 y := by
  have h1 : (x ^^^ y) / 16 = x / 16 ^^^ y / 16 := by
    have := Nat.shiftRight_xor_distrib (a := x) (b := y) (i := 4)
    rwa [Nat.shiftRight_eq_div_pow, Nat.shiftRight_eq_div_pow, Nat.shiftRight_eq_div_pow] at this
  have h2 : (x ^^^ y) % 16 = x % 16 ^^^ y % 16 := Nat.xor_mod_two_pow (n := 4)
  unfold t4
  rw [h1, h2, quarters_xor _ (Nat.mod_lt _ (by decide)) _ (Nat.mod_lt _ (by decide))]
  ac_rfl
theorem xor_toNat (a b : UInt8) : (a ^^^ b).toNat = a.toNat ^^^ b.toNat := UInt8.toNat_xor a b
theorem crcStep_xor (r s : Nat) (a b : UInt8) : crcStep (r ^^^ s) (a ^^^ b) = crcStep r a ^^^ crcStep s b := by
  unfold crcStep
  rw [xor_toNat, show r ^^^ s ^^^ (a.toNat ^^^ b.toNat) = (r ^^^ a.toNat) ^^^ (s ^^^ b.toNat) by ac_rfl, t4_xor, t4_xor]
/-- Byte by byte. -/
def xorL : List UInt8 → List UInt8 → List UInt8
  | a :: l, b :: m => (a ^^^ b) :: xorL l m
  | _, _ => []
theorem foldl_xor : ∀ (l m : List UInt8) (r s : Nat), l.length = m.length → (xorL l m).foldl crcStep (r ^^^ s) = l.foldl crcStep r ^^^ m.foldl crcStep s
  | [], [], _, _, _ => rfl
  | [], _ :: _, _, _, h => by simp at h
  | _ :: _, [], _, _, h => by simp at h
  | a :: l, b :: m, r, s, h => by
    simp only [xorL, List.foldl_cons, crcStep_xor]
    exact foldl_xor l m _ _ (by simpa using h)
theorem xorL_length : ∀ (l m : List UInt8), l.length = m.length → (xorL l m).length = l.length
  | [], [], _ => rfl
  | [], _ :: _, h => by simp at h
  | _ :: _, [], h => by simp at h
  | a :: l, b :: m, h => by simp [xorL, xorL_length l m (by simpa using h)]
theorem sum_affine (a b c : List UInt8) (h1 : a.length = b.length) (h2 : b.length = c.length) :
    sumN (xorL (xorL a b) c) = (sumN a ^^^ sumN b) ^^^ sumN c := by
  unfold sumN crc
  have e1 := foldl_xor a b 4294967295 4294967295 h1
  have e2 := foldl_xor (xorL a b) c (4294967295 ^^^ 4294967295) 4294967295 (by rw [xorL_length a b h1]; omega)
  rw [e1] at e2
  rw [show 4294967295 ^^^ 4294967295 ^^^ 4294967295 = 4294967295 by decide] at e2
  rw [e2]
  generalize List.foldl crcStep 4294967295 a = x
  generalize List.foldl crcStep 4294967295 b = y
  generalize List.foldl crcStep 4294967295 c = z
  rw [show 4294967295 ^^^ x ^^^ (4294967295 ^^^ y) ^^^ (4294967295 ^^^ z) = (4294967295 ^^^ 4294967295) ^^^ (4294967295 ^^^ (x ^^^ y ^^^ z)) by ac_rfl, Nat.xor_self, Nat.zero_xor]
theorem xorL_getElem : ∀ (l m : List UInt8) (i : Nat) (h : i < (xorL l m).length) (h1 : i < l.length) (h2 : i < m.length), (xorL l m)[i] = l[i] ^^^ m[i]
  | [], _, _, h, _, _ => by simp [xorL] at h
  | _ :: _, [], _, h, _, _ => by simp [xorL] at h
  | a :: l, b :: m, 0, _, _, _ => rfl
  | a :: l, b :: m, i + 1, h, h1, h2 => by
    simp only [xorL, List.getElem_cons_succ]
    exact xorL_getElem l m i (by simpa [xorL] using h) (by simpa using h1) (by simpa using h2)
end Go.Proofs.YtkpjdbfmcelddaaDoor
