/- The exported functions at the texts of integers. -/
import Derived.Test.YtebjjgbdiabapaaGreatDoorSan
namespace Go.Proofs.YtebjjgbdiabapaaGreatDoor
open Go.RowKit

theorem str_size {z : Int} (h : Big z) : (str z).size ≤ 9223372036854775807 := by
  have h1 := shw_length z h
  have h2 : (str z).size = (shw z).length := by rw [← str_data]; rfl
  omega
theorem add_str {x y : Int} (hx : Big x) (hy : Big y) (hz : Big (x + y)) (W : World) (ht : Tb W) : Calls Tryz.prog 9 #[.string (str x), .string (str y)] W (ResOut W (str (x + y)) 0) := by
  have := add_any (str x) (str y) W (str_size hx) (str_size hy) ht
  rw [opS_ok hx hy, opE_ok hx hy, resS_ok hz, resE_ok hz] at this
  exact this
theorem sub_str {x y : Int} (hx : Big x) (hy : Big y) (hz : Big (x - y)) (W : World) (ht : Tb W) : Calls Tryz.prog 11 #[.string (str x), .string (str y)] W (ResOut W (str (x - y)) 0) := by
  have := sub_any (str x) (str y) W (str_size hx) (str_size hy) ht
  rw [opS_ok hx hy, opE_ok hx hy, resS_ok hz, resE_ok hz] at this
  exact this
theorem mul_str {x y : Int} (hx : Big x) (hy : Big y) (hz : Big (x * y)) (W : World) (ht : Tb W) : Calls Tryz.prog 13 #[.string (str x), .string (str y)] W (ResOut W (str (x * y)) 0) := by
  have := mul_any (str x) (str y) W (str_size hx) (str_size hy) ht
  rw [opS_ok hx hy, opE_ok hx hy, resS_ok hz, resE_ok hz] at this
  exact this
theorem gcd_str {x y : Int} (hx : Big x) (hy : Big y) (hz : Big (gcdZ x y)) (W : World) (ht : Tb W) : Calls Tryz.prog 17 #[.string (str x), .string (str y)] W (ResOut W (str (gcdZ x y)) 0) := by
  have := gcd_any (str x) (str y) W (str_size hx) (str_size hy) ht
  rw [opS_ok hx hy, opE_ok hx hy, resS_ok hz, resE_ok hz] at this
  exact this
theorem cmp_str {x y : Int} (hx : Big x) (hy : Big y) (W : World) : Calls Tryz.prog 25 #[.string (str x), .string (str y)] W (IntOut W (cmpZ x y)) := by
  have := compare_any (str x) (str y) W (str_size hx) (str_size hy)
  rw [cmpS_ok hx hy] at this
  exact this
theorem div_str {x y : Int} (hx : Big x) (hy : Big y) (h0 : y ≠ 0) (W : World) (ht : Tb W) : Calls Tryz.prog 15 #[.string (str x), .string (str y)] W (DivsOut W (str (x / y)) (str (x % y)) 0) := by
  have := div_any (str x) (str y) W (str_size hx) (str_size hy) ht
  have hv : divV (str x) (str y) = true := by
    unfold divV
    rw [(vS_str x).2 hx, (vS_str y).2 hy, nS_str hy]
    simpa using h0
  unfold divQ divR divE at this
  rw [hv, nS_str hx, nS_str hy] at this
  exact this
theorem div_none {x : Int} (hx : Big x) (W : World) (ht : Tb W) : Calls Tryz.prog 15 #[.string (str x), .string (str 0)] W (DivsOut W ⟨#[]⟩ ⟨#[]⟩ 30) := by
  have h0 : Big 0 := by unfold Big; exact Nat.pow_pos (by decide)
  have := div_any (str x) (str 0) W (str_size hx) (str_size h0) ht
  have hv : divV (str x) (str 0) = false := by
    unfold divV
    rw [nS_str h0]
    simp
  unfold divQ divR divE at this
  rw [hv] at this
  exact this
theorem root_str {x : Int} (hx : Big x) (h0 : 0 ≤ x) (W : World) (ht : Tb W) : Calls Tryz.prog 19 #[.string (str x)] W (ResOut W (str (sqr x.natAbs)) 0) := by
  have := root_any (str x) W (str_size hx) ht
  have hv : rootV (str x) = true := by
    unfold rootV
    rw [(vS_str x).2 hx, nS_str hx]
    simpa using h0
  unfold rootS rootE at this
  rw [hv, nS_str hx] at this
  exact this
theorem root_none {x : Int} (hx : Big x) (h0 : x < 0) (W : World) (ht : Tb W) : Calls Tryz.prog 19 #[.string (str x)] W (ResOut W ⟨#[]⟩ 30) := by
  have := root_any (str x) W (str_size hx) ht
  have hv : rootV (str x) = false := by
    unfold rootV
    rw [(vS_str x).2 hx, nS_str hx]
    simp; omega
  unfold rootS rootE at this
  rw [hv] at this
  exact this
theorem valid_str {x : Int} (hx : Big x) (W : World) : Calls Tryz.prog 23 #[.string (str x)] W (BoolOut W true) := by
  have := valid_any (str x) W (str_size hx)
  rw [show vld (str x).data.toList = true from (vS_str x).2 hx] at this
  exact this
/-- Below a power of ten. -/
def Sm (k : Nat) (z : Int) : Prop := z.natAbs < 10 ^ k
theorem Sm.big {k : Nat} {z : Int} (h : Sm k z) (hk : k ≤ 200) : Big z := Nat.lt_of_lt_of_le h (Nat.pow_le_pow_right (by decide) hk)
theorem Sm.mono {k m : Nat} {z : Int} (h : Sm k z) (hk : k ≤ m) : Sm m z := Nat.lt_of_lt_of_le h (Nat.pow_le_pow_right (by decide) hk)
theorem Sm.add {k : Nat} {x y : Int} (hx : Sm k x) (hy : Sm k y) : Sm (k + 1) (x + y) := by
  unfold Sm at *
  rw [Nat.pow_succ]
  have := Int.natAbs_add_le x y
  omega
theorem Sm.sub {k : Nat} {x y : Int} (hx : Sm k x) (hy : Sm k y) : Sm (k + 1) (x - y) := by
  unfold Sm at *
  rw [Nat.pow_succ]
  have := Int.natAbs_sub_le x y
  omega
theorem Sm.mul {k m : Nat} {x y : Int} (hx : Sm k x) (hy : Sm m y) : Sm (k + m) (x * y) := by
  unfold Sm at *
  rw [Int.natAbs_mul, Nat.pow_add]
  exact Nat.mul_lt_mul'' hx hy
theorem made_at (s : ByteArray) (m : Nat) (M : Int) (hM : M = (m : Int)) (hm : m ≤ 1000) (w : World) (hs : s.size ≤ 9223372036854775807) :
    Calls Tryz.prog 7 #[.string s, .int .i64 M] w (MadeOut w m) := by
  subst hM
  exact made_any s m hm w hs
theorem str0 : (⟨#[48]⟩ : ByteArray) = str 0 := by decide +kernel
theorem str1 : (⟨#[49]⟩ : ByteArray) = str 1 := by decide +kernel
theorem big0 : Big 0 := by unfold Big; exact Nat.pow_pos (by decide)
theorem big1 : Big 1 := Nat.one_lt_pow (by decide) (by decide)
end Go.Proofs.YtebjjgbdiabapaaGreatDoor
