/- The decoding functions and the checksum's step, walked. -/
import Derived.WalkKit
import Derived.WalkLawsBesides
import Derived.WalkSpells
import Derived.BigQuiet
import Derived.Deep.QuietTactic
import Derived.Laws.Bits128
import Derived.Laws.Bits64b
import Derived.Lib.Hide
import Derived.IntWalk
import Derived.Laws.BitsAllLaws
import Derived.Test.YtkpjdbfmcelddaaDoorChecked
namespace Go.Proofs.YtkpjdbfmcelddaaDoor
open Go.RowKit

theorem isOffset_yes (s : ByteArray) (a : Int) (h1 : 0 ≤ a) (h2 : a ≤ s.size) (w : World) :
    Calls Tryd.prog 25 #[.string s, .int .i64 a] w fun e w' => e = .returned (.bool true) ∧ w' = w := by
  go_enter Tryd.func25, Tryd.ntmps25
  go_wp2
  go_ret
  exact ⟨by simp, rfl⟩
theorem isOffset_no (s : ByteArray) (a : Int) (h : a < 0 ∨ s.size < a) (w : World) :
    Calls Tryd.prog 25 #[.string s, .int .i64 a] w fun e w' => e = .returned (.bool false) ∧ w' = w := by
  by_cases h1 : a < 0
  · go_enter Tryd.func25, Tryd.ntmps25
    go_wp2
    go_ret
    exact ⟨rfl, rfl⟩
  · have h2 : s.size < a := by omega
    clear h
    go_enter Tryd.func25, Tryd.ntmps25
    go_wp2
    go_ret
    exact ⟨by simp; omega, rfl⟩
def unzig (z : Nat) : Int := if z % 2 = 1 then -(((z + 1) / 2 : Nat) : Int) else ((z / 2 : Nat) : Int)
theorem unfold_any (z : Nat) (h : z ≤ 9223372036854775806) (w : World) :
    Calls Tryd.prog 27 #[.int .i64 z] w fun e w' => e = .returned (.int .i64 (unzig z)) ∧ w' = w := by
  by_cases h2 : z % 2 = 1
  · have hu : unzig z = -(((z : Int) + 1) / 2) := by unfold unzig; rw [if_pos h2]; omega
    rw [hu]; clear hu
    have h2' : (((z : Int) % 2) == 1) = true := by simp; omega
    go_enter Tryd.func27, Tryd.ntmps27
    go_wp2
    go_ret
    refine ⟨?_, rfl⟩
    have e : wrap64 ((-((z : Int) + 1)).tdiv 2) = -(((z : Int) + 1) / 2) := by
      rw [Int.neg_tdiv, Int.tdiv_eq_ediv_of_nonneg (by omega)]
      exact IntWalk.wrap64_in _ ⟨by omega, by omega⟩
    simpa using e
  · have hu : unzig z = (z : Int) / 2 := by unfold unzig; rw [if_neg h2]; omega
    rw [hu]; clear hu
    have h2' : (((z : Int) % 2) == 1) = false := by simp; omega
    go_enter Tryd.func27, Tryd.ntmps27
    go_wp2
    go_ret
    exact ⟨rfl, rfl⟩

/-- What stands for groups at the head of a text: the number, how many groups, whether the last one is needed. -/
def dec : Nat → Nat → Nat → List UInt8 → Option (Nat × Nat × Bool)
  | 0, _, _, _ => none
  | _ + 1, _, _, [] => none
  | f + 1, i, z, b :: l => if b.toNat < 128 then some (z + b.toNat * 2 ^ (7 * i), i + 1, !(b.toNat == 0 && decide (0 < i))) else dec f (i + 1) (z + (b.toNat - 128) * 2 ^ (7 * i)) l

def joinV (a : Nat) : Option (Nat × Nat × Bool) → Value
  | none => .tuple #[.int .i64 0, .int .i64 0, .bool false]
  | some (z, n, ok) => .tuple #[.int .i64 z, .int .i64 (a + n : Nat), .bool ok]

theorem i64_or_nat (a b : Nat) (ha : a < 2 ^ 63) (hb : b < 2 ^ 63) : bits .or .i64 (a : Int) (b : Int) = ((a ||| b : Nat) : Int) := by
  have hx : a ||| b < 2 ^ 63 := Nat.or_lt_two_pow ha hb
  have h1 : (BitVec.ofInt 64 (a : Int)).toNat = a := by
    rw [BitVec.ofInt_natCast, BitVec.toNat_ofNat]; exact Nat.mod_eq_of_lt (by omega)
  have h2 : (BitVec.ofInt 64 (b : Int)).toNat = b := by
    rw [BitVec.ofInt_natCast, BitVec.toNat_ofNat]; exact Nat.mod_eq_of_lt (by omega)
  show IntKind.i64.wrap ((BitVec.ofInt 64 (a : Int) ||| BitVec.ofInt 64 (b : Int)).toNat : Int) = _
  rw [BitVec.toNat_or, h1, h2, IntKind.wrap_i64]
  omega

theorem u8_and127 (b : Nat) (h : b < 256) : bits .and .u8 (b : Int) 127 = ((b % 128 : Nat) : Int) := by
  have := u8_and_nat b 127 h (by decide)
  rw [show b &&& 127 = b % 128 from Nat.and_two_pow_sub_one_eq_mod b 7] at this
  exact this

/-- A group is laid beside the lower ones. -/
theorem or_group (z k b : Nat) (hz : z < 2 ^ (7 * k)) (hk : k < 9) (hb : b < 256) :
    bits BinOp.or IntKind.i64 (z : Int) (wrap64 (wrap64 (bits BinOp.and IntKind.u8 (b : Int) 127) * 2 ^ (7 * k))) = ((z + b % 128 * 2 ^ (7 * k) : Nat) : Int) := by
  rw [u8_and127 b hb, IntWalk.wrap64_in ((b % 128 : Nat) : Int) ⟨by omega, by omega⟩]
  have hp : 2 ^ (7 * k) ≤ 2 ^ 56 := Nat.pow_le_pow_right (by decide) (by omega)
  have hm : b % 128 * 2 ^ (7 * k) ≤ 127 * 2 ^ 56 := Nat.mul_le_mul (by omega) hp
  have hc : ((b % 128 : Nat) : Int) * 2 ^ (7 * k) = ((b % 128 * 2 ^ (7 * k) : Nat) : Int) := by
    rw [Int.natCast_mul, Int.natCast_pow]; rfl
  rw [hc, IntWalk.wrap64_in _ ⟨by omega, by omega⟩, i64_or_nat _ _ (by omega) (by omega)]
  congr 1
  have := Nat.two_pow_add_eq_or_of_lt hz (b % 128)
  rw [Nat.or_comm, Nat.mul_comm (b % 128), ← this, Nat.add_comm]

theorem size_list (s : ByteArray) : s.size = s.data.toList.length := rfl

theorem drop_at (s : ByteArray) (j : Nat) (h : j < s.size) : s.data.toList.drop j = s[j] :: s.data.toList.drop (j + 1) := by
  rw [List.drop_eq_getElem_cons (by rw [← size_list]; exact h)]; rfl

theorem dec_stop (f i z : Nat) (b : UInt8) (l : List UInt8) (h : b.toNat < 128) : dec (f + 1) i z (b :: l) = some (z + b.toNat % 128 * 2 ^ (7 * i), i + 1, !(b.toNat == 0 && decide (0 < i))) := by
  rw [dec, if_pos h, Nat.mod_eq_of_lt h]
theorem dec_go (f i z : Nat) (b : UInt8) (l : List UInt8) (h : 128 ≤ b.toNat) : dec (f + 1) i z (b :: l) = dec f (i + 1) (z + b.toNat % 128 * 2 ^ (7 * i)) l := by
  have : b.toNat < 256 := UInt8.toNat_lt b
  rw [dec, if_neg (by omega), show b.toNat % 128 = b.toNat - 128 from by omega]

theorem ret_join (a : Nat) (z n : Nat) (ok : Bool) (x y : Int) (q : Bool) (o : Option (Nat × Nat × Bool)) (h : o = some (z, n, ok)) (hx : x = z) (hy : y = a + n) (hq : q = ok) :
    Ending.returned (.tuple #[.int .i64 x, .int .i64 y, .bool q]) = Ending.returned (joinV a o) := by
  subst h; subst hx; subst hq
  rw [hy, ← Int.natCast_add]; rfl

set_option maxRecDepth 100000 in
set_option maxHeartbeats 800000 in
theorem join_any (s : ByteArray) (a : Nat) (hs : s.size ≤ maxLen) (ha : a ≤ s.size) (w : World) :
    Calls Tryd.prog 26 #[.string s, .int .i64 a] w fun e w' => e = .returned (joinV a (dec 9 0 0 (s.data.toList.drop a))) ∧ w' = w := by
  unfold maxLen at hs
  go_enter Tryd.func26, Tryd.ntmps26
  go_wp2
  all_goals
    go_loop [4, 15] (fun zv iv => ∃ k z : Nat, k ≤ 9 ∧ a + k ≤ s.size ∧ z < 2 ^ (7 * k) ∧ zv = .int .i64 z ∧ iv = .int .i64 k ∧ dec 9 0 0 (s.data.toList.drop a) = dec (9 - k) k z (s.data.toList.drop (a + k))) (fun _ i => 9 - (intOf i).toNat)
    case atStart => exact ⟨0, 0, by omega, by omega, by simp, rfl, rfl, rfl⟩
    case round =>
      obtain ⟨k, z, hk9, hka, hz, rfl, rfl, hd⟩ := hrel
      have HD := Lib.hid hd
      clear hd
      by_cases hk : k < 9 ∧ a + k < s.size
      · obtain ⟨hk1, hk2⟩ := hk
        have HB := Lib.hid (show ∀ b : Nat, b < 256 → bits BinOp.or IntKind.i64 (z : Int) (wrap64 (wrap64 (bits BinOp.and IntKind.u8 (b : Int) 127) * 2 ^ (7 * k))) = ((z + b % 128 * 2 ^ (7 * k) : Nat) : Int) from fun b hb => or_group z k b hz hk1 hb)
        have HS := Lib.hid (drop_at s (a + k) hk2)
        have HF := Lib.hid (show 9 - k = (9 - (k + 1)) + 1 by omega)
        have HP := Lib.hid (show z + s[a + k].toNat % 128 * 2 ^ (7 * k) < 2 ^ (7 * (k + 1)) by
          rw [show 7 * (k + 1) = 7 * k + 7 from by omega, Nat.pow_add]
          have : s[a + k].toNat % 128 * 2 ^ (7 * k) ≤ 127 * 2 ^ (7 * k) := Nat.mul_le_mul_right _ (by omega)
          omega)
        go_wp2
        · go_ret3
          have h0 : s[a + k].toNat = 0 := by assumption
          refine ⟨ret_join a (z + s[a + k].toNat % 128 * 2 ^ (7 * k)) (k + 1) _ _ _ _ _ (by rw [HD.out, HS.out, HF.out, dec_stop _ _ _ _ _ (by omega)]) ?_ (by omega) (by simp [h0]), rfl⟩
          have := HB.out 0 (by omega)
          rw [h0]; simpa using this
        · go_ret3
          have h0 : ¬ s[a + k].toNat = 0 := by assumption
          have h1 : (s[a + k].toNat : Int) < 128 := by assumption
          exact ⟨ret_join a (z + s[a + k].toNat % 128 * 2 ^ (7 * k)) (k + 1) _ _ _ _ _ (by rw [HD.out, HS.out, HF.out, dec_stop _ _ _ _ _ (by omega)]) (HB.out _ (UInt8.toNat_lt _)) (by omega) (by simp [h0]), rfl⟩
        · have h1 : (128 : Int) ≤ s[a + k].toNat := by assumption
          exact ⟨⟨k + 1, z + s[a + k].toNat % 128 * 2 ^ (7 * k), by omega, by omega, HP.out, by rw [HB.out _ (UInt8.toNat_lt _)], by go_num, by rw [HD.out, HS.out, HF.out, dec_go _ _ _ _ _ (by omega)]; rfl⟩, by simp [intOf]; omega⟩
      · have HE := Lib.hid (show dec (9 - k) k z (s.data.toList.drop (a + k)) = none by
          by_cases h9 : k = 9
          · subst h9; rfl
          · rw [List.drop_eq_nil_of_le (by rw [← size_list]; omega), show 9 - k = (8 - k) + 1 from by omega]; rfl)
        go_wp2
        go_ret3
        exact ⟨by rw [HD.out, HE.out]; rfl, rfl⟩
end Go.Proofs.YtkpjdbfmcelddaaDoor
