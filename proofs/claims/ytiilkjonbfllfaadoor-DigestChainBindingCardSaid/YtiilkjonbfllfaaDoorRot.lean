/- The rotation, walked. -/
import Derived.WalkKit
import Derived.WalkLawsBesides
import Derived.WalkSpells
import Derived.Laws.Bits128
import Derived.Laws.Bits64b
import Derived.Laws.BitsAllLaws
import Derived.Lib.Hide
import Derived.IntWalk
import Derived.Deep.QuietTactic
import Derived.BigQuiet
import Derived.Below
import Derived.Test.YtiilkjonbfllfaaDoorChecked
import Derived.Test.YtiilkjonbfllfaaDoorShaM
namespace Go.Proofs.YtiilkjonbfllfaaDoor
open Go.RowKit

theorem rotr_lt (x r : Nat) (hx : x < 4294967296) : rotr x r < 4294967296 := by
  unfold rotr
  refine Nat.or_lt_two_pow (n := 32) (Nat.lt_of_le_of_lt (Nat.div_le_self _ _) hx) ?_
  exact Nat.mod_lt _ (by decide)
theorem or_rotr' (x r : Nat) (hx : x < 4294967296) :
    bits .or .u32 ((x : Int) / 2 ^ r) ((x : Int) * 2 ^ (32 - r) % 4294967296) = (rotr x r : Nat) := by
  have h := u32_or_nat (x / 2 ^ r) (x * 2 ^ (32 - r) % 4294967296) (Nat.lt_of_le_of_lt (Nat.div_le_self _ _) hx) (Nat.mod_lt _ (by decide))
  unfold rotr
  simpa using h
theorem or_rotr (x r : Nat) (hx : x < 4294967296) (h2 : r ≤ 31) :
    bits .or .u32 ((x : Int) * 2 ^ (32 - r) % 4294967296) ((x : Int) / 2 ^ (32 - (32 - r))) = (rotr x r : Nat) := by
  have h := u32_or_nat (x * 2 ^ (32 - r) % 4294967296) (x / 2 ^ r) (Nat.mod_lt _ (by decide)) (Nat.lt_of_le_of_lt (Nat.div_le_self _ _) hx)
  rw [show 32 - (32 - r) = r by omega]
  rw [Nat.or_comm] at h
  unfold rotr
  simpa using h

theorem rot32_any (x r : Nat) (hx : x < 4294967296) (h1 : 1 ≤ r) (h2 : r ≤ 31) (w : World) :
    Calls Tryd.prog 75 #[.int .u32 x, .int .i64 (-(r : Int))] w fun e w' => e = .returned (.int .u32 (rotr x r : Nat)) ∧ w = w' := by
  have hm : IntKind.u64.wrap (-(r : Int)) = 18446744073709551616 - r := by rw [IntKind.wrap_u64]; omega
  have hb : bits .and .u64 (18446744073709551616 - (r : Int)) 31 = 32 - r := by
    have h := u64_and_nat (18446744073709551616 - r) 31 (by omega) (by decide)
    rw [show (18446744073709551616 - r) &&& 31 = 32 - r by
      rw [show (31 : Nat) = 2 ^ 5 - 1 from rfl, Nat.and_two_pow_sub_one_eq_mod]; omega] at h
    have e : ((18446744073709551616 - r : Nat) : Int) = 18446744073709551616 - r := by omega
    rw [e] at h
    exact Eq.trans h (by omega)
  have hs : (32 - (r : Int)).toNat = 32 - r := by omega
  have hr : (r : Int).toNat = r := by omega
  go_enter Tryd.func75, Tryd.ntmps75
  go_wp2
  go_ret
  exact ⟨congrArg (fun z => Ending.returned (.int .u32 z)) (or_rotr x r hx h2), rfl⟩

theorem rotate_any (x r : Nat) (hx : x < 4294967296) (h1 : 1 ≤ r) (h2 : r ≤ 31) (w : World) :
    Calls Tryd.prog 70 #[.int .u32 x, .int .i64 r] w fun e w' => e = .returned (.int .u32 (rotr x r : Nat)) ∧ w = w' := by
  go_enter Tryd.func70, Tryd.ntmps70
  go_wp2_with (go_at_call 75; refine (rot32_any x r hx h1 h2 _).mono ?_; rintro e w' ⟨rfl, rfl⟩)
  go_ret
  exact ⟨rfl, rfl⟩

/-- The same, the count an integer. -/
theorem rotate_k (x : Nat) (k : Int) (hx : x < 4294967296) (h1 : 1 ≤ k) (h2 : k ≤ 31) (w : World) :
    Calls Tryd.prog 70 #[.int .u32 x, .int .i64 k] w fun e w' => e = .returned (.int .u32 (rotr x k.toNat : Nat)) ∧ w = w' := by
  obtain ⟨r, rfl⟩ := Int.eq_ofNat_of_zero_le (show 0 ≤ k by omega)
  exact rotate_any x r hx (by omega) (by omega) w

theorem rotated_any (x r : Nat) (hx : x < 4294967296) (h1 : 1 ≤ r) (h2 : r ≤ 31) (w : World) :
    Calls Tryd.prog 60 #[.int .u32 x, .int .i64 r] w fun e w' => e = .returned (.int .u32 (rotr x r : Nat)) ∧ ∃ n, w' = w.drewN n := by
  have hs : (32 - (r : Int)).toNat = 32 - r := by omega
  have h3 : 0 ≤ (r : Int) := by omega
  have h4 : 0 ≤ 32 - (r : Int) := by omega
  have h5 : IntKind.i64.wrap (32 - (r : Int)) = 32 - r := IntWalk.i64_in _ ⟨by omega, by omega⟩
  go_enter Tryd.func60, Tryd.ntmps60
  go_wp2
  go_quiet (fail)
  go_wp2
  go_ret
  exact ⟨congrArg (fun z => Ending.returned (.int .u32 z)) (or_rotr' x r hx), _, rfl⟩
theorem rotated_k (x : Nat) (k : Int) (hx : x < 4294967296) (h1 : 1 ≤ k) (h2 : k ≤ 31) (w : World) :
    Calls Tryd.prog 60 #[.int .u32 x, .int .i64 k] w fun e w' => e = .returned (.int .u32 (rotr x k.toNat : Nat)) ∧ ∃ n, w' = w.drewN n := by
  obtain ⟨r, rfl⟩ := Int.eq_ofNat_of_zero_le (show 0 ≤ k by omega)
  exact rotated_any x r hx (by omega) (by omega) w

theorem below_drewN {B : Nat} {a w : World} (h : Below B a w) (n : Nat) : Below B a (w.drewN n) := ⟨h.os, h.tape, h.output, h.size, h.block⟩
theorem quiet_at {P : Program} {f : FuncId} {args : Array Value} {w : World} {n : Nat} {v : Value} (h : Calls P f args (w.drewN n) fun e w' => e = .returned v ∧ w.drewN n = w') :
    Calls P f args (w.drewN n) fun e w'' => e = .returned v ∧ ∃ m, w'' = w.drewN m := h.mono fun _ _ ⟨he, h2⟩ => ⟨he, n, h2.symm⟩
theorem quiet_on {P : Program} {f : FuncId} {args : Array Value} {w : World} {n : Nat} {v : Value} (h : Calls P f args (w.drewN n) fun e w' => e = .returned v ∧ ∃ m, w' = (w.drewN n).drewN m) :
    Calls P f args (w.drewN n) fun e w'' => e = .returned v ∧ ∃ m, w'' = w.drewN m := h.mono fun _ _ ⟨he, m, h2⟩ => ⟨he, n + m, by rw [h2, World.drewN_drewN]⟩
/-- The same where the region begins in a world that has drawn already. -/
theorem quiet_at2 {P : Program} {f : FuncId} {args : Array Value} {w : World} {a n : Nat} {v : Value} (h : Calls P f args (w.drewN (a + n)) fun e w' => e = .returned v ∧ w.drewN (a + n) = w') :
    Calls P f args (w.drewN (a + n)) fun e w'' => e = .returned v ∧ ∃ m, w'' = w.drewN (a + m) := h.mono fun _ _ ⟨he, h2⟩ => ⟨he, n, h2.symm⟩
theorem quiet_on2 {P : Program} {f : FuncId} {args : Array Value} {w : World} {a n : Nat} {v : Value} (h : Calls P f args (w.drewN (a + n)) fun e w' => e = .returned v ∧ ∃ m, w' = (w.drewN (a + n)).drewN m) :
    Calls P f args (w.drewN (a + n)) fun e w'' => e = .returned v ∧ ∃ m, w'' = w.drewN (a + m) := h.mono fun _ _ ⟨he, m, h2⟩ => ⟨he, n + m, by rw [h2, World.drewN_drewN, Nat.add_assoc]⟩
end Go.Proofs.YtiilkjonbfllfaaDoor
