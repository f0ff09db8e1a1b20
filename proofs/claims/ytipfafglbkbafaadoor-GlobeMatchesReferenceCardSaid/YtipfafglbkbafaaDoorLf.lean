/- The leaves, walked: a row turned around, how far two numbers lie apart, a cell's validity, the joins of two rows. -/
import Derived.Test.YtipfafglbkbafaaDoorBas
namespace Go.Proofs.YtipfafglbkbafaaDoor
open Go.RowKit
set_option linter.unusedSimpArgs false
set_option linter.unusedVariables false

/-- A row turned around by k columns. -/
def turnN (r k : Nat) : Nat := ((r <<< k) ||| (r >>> (48 - k))) % 281474976710656
theorem turnN_lt (r k : Nat) : turnN r k < 281474976710656 := Nat.mod_lt _ (by decide)
theorem wrap_or_and (a b : Nat) (hb : b < 281474976710656) : bits .and .i64 (bits .or .i64 (wrap64 (a : Int)) (b : Int)) 281474976710655 = (((a ||| b) % 281474976710656 : Nat) : Int) := by
  have h1 : BitVec.ofInt 64 (wrap64 (a : Int)) = BitVec.ofNat 64 a := by
    apply BitVec.eq_of_toNat_eq
    rw [BitVec.toNat_ofInt, BitVec.toNat_ofNat]
    show (wrap64 (a : Int) % _).toNat = _
    rw [wrap64]
    omega
  have h2 : (BitVec.ofInt 64 (b : Int)) = BitVec.ofNat 64 b := BitVec.ofInt_natCast ..
  have h3 : bits .or .i64 (wrap64 (a : Int)) (b : Int) = IntKind.i64.wrap ((BitVec.ofNat 64 a ||| BitVec.ofNat 64 b).toNat : Int) := by
    show IntKind.i64.wrap ((BitVec.ofInt 64 (wrap64 (a : Int)) ||| BitVec.ofInt 64 (b : Int)).toNat : Int) = _
    rw [h1, h2]
  have h4 : ∀ z : Int, BitVec.ofInt 64 (IntKind.i64.wrap z) = BitVec.ofInt 64 z := fun z => by
    apply BitVec.eq_of_toNat_eq
    rw [BitVec.toNat_ofInt, BitVec.toNat_ofInt, IntKind.wrap_i64]
    omega
  rw [h3]
  show IntKind.i64.wrap ((BitVec.ofInt 64 (IntKind.i64.wrap ((BitVec.ofNat 64 a ||| BitVec.ofNat 64 b).toNat : Int)) &&& BitVec.ofInt 64 281474976710655).toNat : Int) = _
  rw [h4, BitVec.toNat_and, BitVec.toNat_ofInt, BitVec.toNat_or, BitVec.toNat_ofNat, BitVec.toNat_ofNat]
  have h5 : (BitVec.ofInt 64 281474976710655).toNat = 2 ^ 48 - 1 := by decide
  rw [h5, Nat.and_two_pow_sub_one_eq_mod]
  have h6 : ((((a % 2 ^ 64 ||| b % 2 ^ 64 : Nat) : Int) % ((2 ^ 64 : Nat) : Int)).toNat) % 2 ^ 48 = (a ||| b) % 2 ^ 48 := by
    have e : (((a % 2 ^ 64 ||| b % 2 ^ 64 : Nat) : Int) % ((2 ^ 64 : Nat) : Int)).toNat = (a % 2 ^ 64 ||| b % 2 ^ 64) % 2 ^ 64 := by omega
    rw [e, Nat.mod_mod_of_dvd _ (Nat.pow_dvd_pow 2 (by decide)), Nat.or_mod_two_pow, Nat.or_mod_two_pow, Nat.mod_mod_of_dvd _ (Nat.pow_dvd_pow 2 (by decide)), Nat.mod_mod_of_dvd _ (Nat.pow_dvd_pow 2 (by decide))]
  rw [h6, IntKind.wrap_i64]
  have : (a ||| b) % 2 ^ 48 < 2 ^ 48 := Nat.mod_lt _ (by decide)
  omega

theorem ret_int' {k : IntKind} {a b : Int} (h : a = b) : Ending.returned (.int k a) = .returned (.int k b) := by rw [h]
theorem turn_word (r k : Nat) (t : Int) (hr : r < 281474976710656) (hk : k < 48) (ht : t % 48 = (k : Int)) :
    bits BinOp.and IntKind.i64 (bits BinOp.or IntKind.i64 (wrap64 ((r : Int) * 2 ^ (t % 48).toNat)) ((r : Int) / 2 ^ (48 - t % 48).toNat)) 281474976710655 = ((turnN r k : Nat) : Int) := by
  have e1 : (t % 48).toNat = k := by omega
  have e2 : (48 - t % 48).toNat = 48 - k := by omega
  have e3 : (r : Int) * 2 ^ k = ((r * 2 ^ k : Nat) : Int) := by rw [Int.natCast_mul, Int.natCast_pow]; rfl
  have e4 : (r : Int) / 2 ^ (48 - k) = ((r / 2 ^ (48 - k) : Nat) : Int) := by rw [Int.natCast_ediv, Int.natCast_pow]; rfl
  rw [e1, e2, e3, e4, wrap_or_and _ _ (Nat.lt_of_le_of_lt (Nat.div_le_self _ _) hr), turnN, Nat.shiftLeft_eq, Nat.shiftRight_eq_div_pow]
theorem tmod48 (c : Int) (k : Nat) (hk : k < 48) (hck : c % 48 = (k : Int)) : ∃ t : Int, c.tmod 48 = t ∧ -48 < t ∧ t < 48 ∧ (t + 48) % 48 = (k : Int) := by
  refine ⟨_, rfl, ?_⟩
  rw [Int.tmod_eq_emod]
  split <;> simp <;> omega
set_option maxHeartbeats 400000 in
theorem turned_any (r : Nat) (hr : r < 281474976710656) (c : Int) (k : Nat) (hk : k < 48) (hck : c % 48 = (k : Int)) (w : World) :
    Calls Tryd.prog 51 #[iV r, .int .i64 c] w fun e w' => e = .returned (iV (turnN r k)) ∧ ∃ n, w' = w.drewN n := by
  obtain ⟨t, ht, h1, h2, h3⟩ := tmod48 c k hk hck
  clear hck
  go_enter Tryd.func51, Tryd.ntmps51
  go_wp2
  have h4 : t % 48 = (k : Int) := by omega
  clear ht h3 h1 h2
  have H4 := Lib.hid h4; clear h4
  go_quiet (fail)
  go_wp2
  go_ret
  exact ⟨ret_int' (turn_word r k t hr hk H4.out), nq, rfl⟩
theorem ret_bool' {a b : Bool} (h : a = b) : Ending.returned (.bool a) = .returned (.bool b) := by rw [h]
theorem apart_any (i j : Int) (h1 : -1000000 ≤ i) (h2 : i ≤ 1000000) (h3 : -1000000 ≤ j) (h4 : j ≤ 1000000) (w : World) :
    Calls Tryd.prog 50 #[.int .i64 i, .int .i64 j] w fun e w' => e = .returned (.int .i64 (max (i - j) (j - i))) ∧ w = w' := by
  go_enter Tryd.func50, Tryd.ntmps50
  go_wp2
  all_goals
    go_ret
    exact ⟨ret_int' (by omega), rfl⟩

/-- A cell on the globe. -/
def onG (x y : Int) : Bool := decide (0 ≤ x ∧ x < 48 ∧ 0 ≤ y ∧ y < 24)
abbrev CV (x y : Int) : Value := .agg #[.int .i64 x, .int .i64 y]
theorem validCell_any (x y : Int) (w : World) :
    Calls Tryd.prog 15 #[CV x y] w fun e w' => e = .returned (.bool (onG x y)) ∧ Below w.heap.size w w' := by
  go_enter Tryd.func15, Tryd.ntmps15
  go_wp2
  all_goals
    go_ret
    exact ⟨ret_bool' (Bool.eq_iff_iff.2 (by unfold onG; simp only [decide_eq_true_eq, Bool.false_eq_true, true_iff, false_iff]; omega)), (Below.refl _ _).alloc (Nat.le_refl _) _⟩
theorem union1_any (a b : Nat) (ha : a < 281474976710656) (hb : b < 281474976710656) (w : World) :
    Calls Tryd.prog 64 #[iV a, iV b] w fun e w' => e = .returned (iV (a ||| b)) ∧ w = w' := by
  go_enter Tryd.func64, Tryd.ntmps64
  go_wp2
  go_ret
  exact ⟨ret_int' (i64_or_nat a b (by omega) (by omega)), rfl⟩
theorem meet1_any (a b : Nat) (ha : a < 281474976710656) (hb : b < 281474976710656) (w : World) :
    Calls Tryd.prog 66 #[iV a, iV b] w fun e w' => e = .returned (iV (a &&& b)) ∧ w = w' := by
  go_enter Tryd.func66, Tryd.ntmps66
  go_wp2
  go_ret
  exact ⟨ret_int' (i64_and_nat a b (by omega) (by omega)), rfl⟩
theorem i64_andNot_nat (a b : Nat) (ha : a < 281474976710656) (hb : b < 281474976710656) : bits .andNot .i64 (a : Int) (b : Int) = ((a &&& (281474976710655 - b) : Nat) : Int) := by
  have hx : a &&& (281474976710655 - b) < 2 ^ 48 := Nat.and_lt_two_pow _ (by omega)
  have h1 : (BitVec.ofInt 64 (a : Int)).toNat = a := by
    rw [BitVec.ofInt_natCast, BitVec.toNat_ofNat]; exact Nat.mod_eq_of_lt (by omega)
  have h2 : (BitVec.ofInt 64 (b : Int)).toNat = b := by
    rw [BitVec.ofInt_natCast, BitVec.toNat_ofNat]; exact Nat.mod_eq_of_lt (by omega)
  show IntKind.i64.wrap ((BitVec.ofInt 64 (a : Int) &&& ~~~BitVec.ofInt 64 (b : Int)).toNat : Int) = _
  rw [BitVec.toNat_and, BitVec.toNat_not, h1, h2]
  have h3 : a &&& (2 ^ 64 - 1 - b) = a &&& (281474976710655 - b) := by
    have h4 : a &&& (2 ^ 64 - 1 - b) < 2 ^ 48 := Nat.lt_of_le_of_lt Nat.and_le_left (by omega)
    rw [← Nat.mod_eq_of_lt h4, Nat.and_mod_two_pow, Nat.mod_eq_of_lt (show a < 2 ^ 48 by omega)]
    congr 1
    omega
  rw [h3, IntKind.wrap_i64]
  omega
theorem less1_any (a b : Nat) (ha : a < 281474976710656) (hb : b < 281474976710656) (w : World) :
    Calls Tryd.prog 67 #[iV a, iV b] w fun e w' => e = .returned (iV (a &&& (281474976710655 - b))) ∧ w = w' := by
  go_enter Tryd.func67, Tryd.ntmps67
  go_wp2
  go_ret
  exact ⟨ret_int' (i64_andNot_nat a b ha hb), rfl⟩
end Go.Proofs.YtipfafglbkbafaaDoor
