/- The library's counts of bits: OnesCount and TrailingZeros, walked. -/
import Derived.Test.YtipfafglbkbafaaDoorLf
import Derived.Test.YtipfafglbkbafaaDoorPop
import Derived.Test.YtipfafglbkbafaaDoorCtz
namespace Go.Proofs.YtipfafglbkbafaaDoor
open Go.RowKit
set_option linter.unusedSimpArgs false
set_option linter.unusedVariables false

theorem ones_last (x y z v : Nat) (h : Words x y z v) (hx : x < 281474976710656) :
    ∃ p q u : Nat, v + v / 256 = p ∧ p + p / 65536 = q ∧ q + q / 4294967296 = u ∧ p < 9223372036854775808 ∧ q < 9223372036854775808 ∧ u < 9223372036854775808 ∧ u &&& 127 = cntTo (fun k => x.testBit k) 48 := by
  have h1 := h.fin
  have h2 := h.bv
  rw [cnt_low x hx] at h1
  refine ⟨_, _, _, rfl, rfl, rfl, by omega, by omega, by omega, ?_⟩
  rw [← h1]
  exact Nat.and_two_pow_sub_one_eq_mod _ 7
theorem u64w {a : Int} {b : Nat} (h : a = (b : Int)) (hb : b < 18446744073709551616) : IntKind.u64.wrap a = (b : Int) := by rw [h, IntKind.wrap_u64]; omega
theorem and_div (x m d : Nat) (hx : x < 18446744073709551616) (hm : m < 18446744073709551616) : bits .and .u64 ((x : Int) / (d : Nat)) (m : Nat) = ((x / d &&& m : Nat) : Int) := by
  rw [← Int.natCast_ediv]
  exact bits_and_u64_nat _ _ (Nat.lt_of_le_of_lt (Nat.div_le_self _ _) hx) hm
set_option maxHeartbeats 1000000 in
theorem ones64_any (x : Nat) (hx : x < 281474976710656) (w : World) :
    Calls Tryd.prog 70 #[.int .u64 x] w fun e w' => e = .returned (.int .i64 (cntTo (fun k => x.testBit k) 48 : Nat)) ∧ w = w' := by
  obtain ⟨y, z, v, h⟩ := words x (by omega)
  obtain ⟨p, q, u, ep, eq, eu, bp, bq, bu, last⟩ := ones_last x y z v h hx
  have hy := h.by64; have hz := h.bz64; have hzz := h.bz68; have hv := h.bv
  have R1 : IntKind.u64.wrap (bits .and .u64 ((x : Int) / 2) 6148914691236517205 + bits .and .u64 (x : Int) 6148914691236517205) = (y : Int) := u64w (by
    have e1 := and_div x 6148914691236517205 2 (by omega) (by decide)
    have e2 := bits_and_u64_nat x 6148914691236517205 (by omega) (by decide)
    have e3 := h.hy
    rw [show bits .and .u64 ((x : Int) / 2) 6148914691236517205 = _ from e1, show bits .and .u64 (x : Int) 6148914691236517205 = _ from e2]; omega) hy
  have R2 : IntKind.u64.wrap (bits .and .u64 ((y : Int) / 4) 3689348814741910323 + bits .and .u64 (y : Int) 3689348814741910323) = (z : Int) := u64w (by
    have e1 := and_div y 3689348814741910323 4 hy (by decide)
    have e2 := bits_and_u64_nat y 3689348814741910323 hy (by decide)
    have e3 := h.hz
    rw [show bits .and .u64 ((y : Int) / 4) 3689348814741910323 = _ from e1, show bits .and .u64 (y : Int) 3689348814741910323 = _ from e2]; omega) hz
  have R3 : bits .and .u64 (IntKind.u64.wrap ((z : Int) / 16 + z)) 1085102592571150095 = (v : Int) := by
    rw [u64w (b := z / 16 + z) (by omega) hzz, show bits .and .u64 ((z / 16 + z : Nat) : Int) 1085102592571150095 = _ from bits_and_u64_nat (z / 16 + z) 1085102592571150095 hzz (by decide), h.hv]
  have R4 : IntKind.u64.wrap ((v : Int) + v / 256) = (p : Int) := u64w (by omega) (by omega)
  have R5 : IntKind.u64.wrap ((p : Int) + p / 65536) = (q : Int) := u64w (by omega) (by omega)
  have R6 : IntKind.u64.wrap ((q : Int) + q / 4294967296) = (u : Int) := u64w (by omega) (by omega)
  have HL := Lib.hid last
  have hu : (u : Int) < 9223372036854775808 := by omega
  clear ep eq eu h last hy hz hzz hv bp bq
  go_enter Tryd.func70, Tryd.ntmps70
  go_wp2
  go_ret
  exact ⟨ret_int' (by rw [← HL.out]; exact i64_and_nat u 127 (by omega) (by decide)), rfl⟩
theorem ones_any (x : Nat) (hx : x < 281474976710656) (w : World) :
    Calls Tryd.prog 54 #[.int .u64 x] w fun e w' => e = .returned (.int .i64 (cntTo (fun k => x.testBit k) 48 : Nat)) ∧ w = w' := by
  go_enter Tryd.func54, Tryd.ntmps54
  go_wp2_with (go_at_call 70; refine (ones64_any x hx _).mono ?_; rintro e w' ⟨rfl, rfl⟩)
  go_ret
  exact ⟨rfl, rfl⟩
/-- The library's table lies where its variable is. -/
def Tab (w : World) : Prop := 1 < w.heap.size ∧ ∀ j, j < 64 → w.cell? ⟨1, j, none⟩ = some (.int .u8 (Lib.deBruijn64tab.getD j 0 : Nat))
theorem Tab.below {B : Nat} {w w' : World} (h : Tab w) (hb : Below B w w') (hB : 1 < B) : Tab w' :=
  ⟨Nat.lt_of_lt_of_le h.1 hb.size, fun i hi => (hb.cell (p := ⟨1, i, none⟩) hB).trans (h.2 i hi)⟩
theorem tz_key (x a : Nat) (hx : x < 18446744073709551616) (hx0 : x ≠ 0) (hlow : x &&& (18446744073709551616 - x) = a) :
    IntKind.u64.wrap (bits BinOp.and IntKind.u64 (x : Int) (IntKind.u64.wrap (-(x : Int))) * 285870213051353865) / 288230376151711744 = ((a * 285870213051353865 % 18446744073709551616 / 288230376151711744 : Nat) : Int) := by
  have e1 : IntKind.u64.wrap (-(x : Int)) = ((18446744073709551616 - x : Nat) : Int) := by rw [IntKind.wrap_u64]; omega
  rw [e1, bits_and_u64_nat x _ hx (by omega), hlow, IntKind.wrap_u64]
  omega
set_option maxHeartbeats 1000000 in
theorem tz64_core (x k idx : Nat) (w : World) (hx0 : ((x : Int) == 0) = false)
    (key : IntKind.u64.wrap (bits BinOp.and IntKind.u64 (x : Int) (IntKind.u64.wrap (-(x : Int))) * 285870213051353865) / 288230376151711744 = (idx : Int))
    (hi : idx < 64) (hk : k < 64) (hcell : w.cell? ⟨1, idx, none⟩ = some (.int .u8 k)) :
    Calls Tryd.prog 74 #[.int .u64 x] w fun e w' => e = .returned (.int .i64 k) ∧ w = w' := by
  go_enter Tryd.func74, Tryd.ntmps74
  go_wp2
  go_ret
  exact ⟨rfl, rfl⟩
theorem tz64_any (x : Nat) (hx : x < 18446744073709551616) (hx0 : x ≠ 0) (w : World) (hT : Tab w) :
    Calls Tryd.prog 74 #[.int .u64 x] w fun e w' => e = .returned (.int .i64 (Lib.ctz 64 x : Nat)) ∧ w = w' := by
  obtain ⟨hlow, hk⟩ := Lib.lowest_bit 64 x hx0 hx
  obtain ⟨hi, htab⟩ := Lib.deBruijn64_at _ hk
  have hcell := hT.2 _ hi
  rw [htab] at hcell
  exact tz64_core x _ _ w (by simp; omega) (tz_key x _ hx hx0 hlow) hi hk hcell
theorem tz_any (x : Nat) (hx : x < 18446744073709551616) (hx0 : x ≠ 0) (w : World) (hT : Tab w) :
    Calls Tryd.prog 71 #[.int .u64 x] w fun e w' => e = .returned (.int .i64 (Lib.ctz 64 x : Nat)) ∧ w = w' := by
  have C := Lib.hid (tz64_any x hx hx0 w hT)
  clear hx0 hT
  generalize Lib.ctz 64 x = k at *
  go_enter Tryd.func71, Tryd.ntmps71
  go_wp2_with (go_at_call 74; refine C.out.mono ?_; rintro e w' ⟨rfl, rfl⟩)
  go_ret
  exact ⟨rfl, rfl⟩
end Go.Proofs.YtipfafglbkbafaaDoor
