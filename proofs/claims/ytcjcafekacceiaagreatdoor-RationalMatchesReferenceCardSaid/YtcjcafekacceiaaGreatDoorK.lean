/- Integer layer, merged: Str, Toi. -/
import Derived.Test.YtcjcafekacceiaaGreatDoorH
/-! The exported functions at the texts of integers. -/
namespace Go.Proofs.YtcjcafekacceiaaGreatDoor
open Go.RowKit

theorem add_str {x y : Int} (hx : Big x) (hy : Big y) (hz : Big (x + y)) (W : World) (ht : Tb W) : Calls Tryz.prog 59 #[.string (str x), .string (str y)] W (ResOut W (str (x + y)) 0) := by
  have := add_any (str x) (str y) W (str_size hx) (str_size hy) ht
  rw [opS_ok hx hy, opE_ok hx hy, resS_ok hz, resE_ok hz] at this
  exact this
theorem sub_str {x y : Int} (hx : Big x) (hy : Big y) (hz : Big (x - y)) (W : World) (ht : Tb W) : Calls Tryz.prog 71 #[.string (str x), .string (str y)] W (ResOut W (str (x - y)) 0) := by
  have := sub_any (str x) (str y) W (str_size hx) (str_size hy) ht
  rw [opS_ok hx hy, opE_ok hx hy, resS_ok hz, resE_ok hz] at this
  exact this
theorem mul_str {x y : Int} (hx : Big x) (hy : Big y) (hz : Big (x * y)) (W : World) (ht : Tb W) : Calls Tryz.prog 70 #[.string (str x), .string (str y)] W (ResOut W (str (x * y)) 0) := by
  have := mul_any (str x) (str y) W (str_size hx) (str_size hy) ht
  rw [opS_ok hx hy, opE_ok hx hy, resS_ok hz, resE_ok hz] at this
  exact this
theorem gcd_str {x y : Int} (hx : Big x) (hy : Big y) (hz : Big (gcdZ x y)) (W : World) (ht : Tb W) : Calls Tryz.prog 63 #[.string (str x), .string (str y)] W (ResOut W (str (gcdZ x y)) 0) := by
  have := gcd_any (str x) (str y) W (str_size hx) (str_size hy) ht
  rw [opS_ok hx hy, opE_ok hx hy, resS_ok hz, resE_ok hz] at this
  exact this
theorem cmp_str {x y : Int} (hx : Big x) (hy : Big y) (W : World) : Calls Tryz.prog 51 #[.string (str x), .string (str y)] W (IntOut W (cmpZ x y)) := by
  have := compare_any (str x) (str y) W (str_size hx) (str_size hy)
  rw [cmpS_ok hx hy] at this
  exact this
theorem div_str {x y : Int} (hx : Big x) (hy : Big y) (h0 : y ≠ 0) (W : World) (ht : Tb W) : Calls Tryz.prog 50 #[.string (str x), .string (str y)] W (DivsOut W (str (x / y)) (str (x % y)) 0) := by
  have := div_any (str x) (str y) W (str_size hx) (str_size hy) ht
  have hv : divV (str x) (str y) = true := by
    unfold divV
    rw [(vS_str x).2 hx, (vS_str y).2 hy, nS_str hy]
    simpa using h0
  unfold divQ divR divE at this
  rw [hv, nS_str hx, nS_str hy] at this
  exact this
theorem div_none {x : Int} (hx : Big x) (W : World) (ht : Tb W) : Calls Tryz.prog 50 #[.string (str x), .string (str 0)] W (DivsOut W ⟨#[]⟩ ⟨#[]⟩ 30) := by
  have h0 : Big 0 := by unfold Big; exact Nat.pow_pos (by decide)
  have := div_any (str x) (str 0) W (str_size hx) (str_size h0) ht
  have hv : divV (str x) (str 0) = false := by
    unfold divV
    rw [nS_str h0]
    simp
  unfold divQ divR divE at this
  rw [hv] at this
  exact this
theorem valid_str {x : Int} (hx : Big x) (W : World) : Calls Tryz.prog 128 #[.string (str x)] W (BoolOut W true) := by
  have := valid_any (str x) W (str_size hx)
  rw [show vld (str x).data.toList = true from (vS_str x).2 hx] at this
  exact this
/-- Below a power of ten. -/
def Sm (k : Nat) (z : Int) : Prop := z.natAbs < 10 ^ k
theorem Sm.big {k : Nat} {z : Int} (h : Sm k z) (hk : k ≤ 200) : Big z := Nat.lt_of_lt_of_le h (Nat.pow_le_pow_right (by decide) hk)
theorem Sm.mono {k m : Nat} {z : Int} (h : Sm k z) (hk : k ≤ m) : Sm m z := Nat.lt_of_lt_of_le h (Nat.pow_le_pow_right (by decide) hk)
theorem Sm.add {k : Nat} {x y : Int} (hx : Sm k x) (hy : Sm k y) : Sm (k + 1) (x + y) := by
  unfold Sm at *
  rw [Nat.pow_succ]
  have := Int.natAbs_add_le x y
  omega
theorem Sm.sub {k : Nat} {x y : Int} (hx : Sm k x) (hy : Sm k y) : Sm (k + 1) (x - y) := by
  unfold Sm at *
  rw [Nat.pow_succ]
  have := Int.natAbs_sub_le x y
  omega
theorem Sm.mul {k m : Nat} {x y : Int} (hx : Sm k x) (hy : Sm m y) : Sm (k + m) (x * y) := by
  unfold Sm at *
  rw [Int.natAbs_mul, Nat.pow_add]
  exact Nat.mul_lt_mul'' hx hy
theorem str0 : (⟨#[48]⟩ : ByteArray) = str 0 := by decide +kernel
theorem str1 : (⟨#[49]⟩ : ByteArray) = str 1 := by decide +kernel
theorem big0 : Big 0 := by unfold Big; exact Nat.pow_pos (by decide)
theorem big1 : Big 1 := Nat.one_lt_pow (by decide) (by decide)
end Go.Proofs.YtcjcafekacceiaaGreatDoor

/-! FromInt and ToInt, walked. -/
namespace Go.Proofs.YtcjcafekacceiaaGreatDoor
open Go.RowKit Go.Shelf

set_option maxHeartbeats 1000000 in
theorem fromInt_any (z : Int) (h0 : -9223372036854775808 ≤ z) (h1 : z ≤ 9223372036854775807) (w : World) (ht : Tb w) :
    Calls Tryz.prog 64 #[.int .i64 z] w fun e w' => e = .returned (.string (str z)) ∧ Below w.heap.size w w' := by
  have CI := Lib.hid (Tryz.strconv_Itoa z h0 h1 w ht)
  rw [itoa_shw] at CI
  clear ht
  go_enter Tryz.func64, Tryz.ntmps64
  go_wp2_with (go_at_call 96; refine CI.out.mono ?_; rintro e w1 ⟨rfl, q, os, hw⟩; have HB1 := Lib.hid (show Below w.heap.size w w1 by rw [hw]; exact below_grow w q os); clear hw)
  go_ret
  exact ⟨rfl, HB1.out⟩

end Go.Proofs.YtcjcafekacceiaaGreatDoor
