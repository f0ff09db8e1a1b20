/- The reference's functions, walked: the same as the program's. -/
import Derived.Test.YtkpjdbfmcelddaaDoorEncM
import Derived.Test.YtkpjdbfmcelddaaDoorBurstM
import Derived.Maps.AppendAt
import Derived.OwnWalk
namespace Go.Proofs.YtkpjdbfmcelddaaDoor
open Go.RowKit

theorem rzigzag_any (m : Int) (h1 : -4611686018427387903 ≤ m) (h2 : m ≤ 4611686018427387903) (w : World) :
    Calls Tryd.prog 24 #[.int .i64 m] w fun e w' => e = .returned (.int .u64 (zig m : Nat)) ∧ w' = w := by
  by_cases h : m < 0
  · have e : ((zig m : Nat) : Int) = -2 * m - 1 := by unfold zig; rw [if_pos h]; omega
    rw [e]; clear e
    go_enter Tryd.func24, Tryd.ntmps24
    go_wp2
    go_ret
    exact ⟨congrArg (fun x => Ending.returned (.int .u64 x)) (by omega), rfl⟩
  · have e : ((zig m : Nat) : Int) = 2 * m := by unfold zig; rw [if_neg h]; omega
    rw [e]; clear e
    go_enter Tryd.func24, Tryd.ntmps24
    go_wp2
    go_ret
    exact ⟨congrArg (fun x => Ending.returned (.int .u64 x)) (by omega), rfl⟩

set_option maxRecDepth 100000 in
set_option maxHeartbeats 1000000 in
theorem rsum_any (s : ByteArray) (hs : s.size ≤ maxLen) (w : World) :
    Calls Tryd.prog 22 #[.string s] w fun e w' => e = .returned (.int .i64 (sumN s.data.toList : Nat)) ∧ w' = w := by
  unfold maxLen at hs
  go_enter Tryd.func22, Tryd.ntmps22
  go_wp2
  go_loop [3, 4] (fun rv iv => ∃ k : Nat, k ≤ s.size ∧ iv = .int .i64 k ∧ rv = .int .u32 (crc (s.data.toList.take k) : Nat)) (fun _ i => s.size - (intOf i).toNat)
  case atStart => exact ⟨0, Nat.zero_le _, rfl, rfl⟩
  case round =>
    obtain ⟨k, hk, rfl, rfl⟩ := hrel
    have hc := crc_lt (s.data.toList.take k)
    by_cases hlt : k < s.size
    · have HX := Lib.hid (show bits .xor .u32 (crc (s.data.toList.take k) : Nat) ((s[k].toNat : Int) % 4294967296) = ((crc (s.data.toList.take k) ^^^ s[k].toNat : Nat) : Int) by
        rw [Int.emod_eq_of_lt (by omega) (by have := UInt8.toNat_lt s[k]; omega)]
        exact u32_xor_nat _ _ hc (by have := UInt8.toNat_lt s[k]; omega))
      have HS := Lib.hid (show crc (s.data.toList.take (k + 1)) = shN 8 (crc (s.data.toList.take k) ^^^ s[k].toNat) by rw [take_snoc s k hlt, crc_snoc, crcStep_sh])
      have hl1 : crc (s.data.toList.take k) ^^^ s[k].toNat < 4294967296 := Nat.xor_lt_two_pow (n := 32) hc (by have := UInt8.toNat_lt s[k]; omega)
      go_wp2
      rw [HX.out]
      generalize crc (s.data.toList.take k) ^^^ s[k].toNat = x at *
      go_loop [3, 5] (fun rv jv => ∃ j y : Nat, j ≤ 8 ∧ jv = .int .i64 j ∧ rv = .int .u32 y ∧ y < 4294967296 ∧ shN (8 - j) y = shN 8 x) (fun _ j => 8 - (intOf j).toNat)
      case atStart => exact ⟨0, x, by omega, rfl, rfl, hl1, rfl⟩
      case round =>
        obtain ⟨j, y, hj, rfl, rfl, hy, hs2⟩ := hrel
        have HT := Lib.hid hs2; clear hs2
        by_cases hj8 : j < 8
        · have hE := Lib.hid (show shN (8 - j) y = shN (8 - (j + 1)) (sh y) by rw [show 8 - j = (8 - (j + 1)) + 1 by omega]; rfl)
          by_cases hodd : y % 2 = 1
          · have ho : ((y : Int) % 2 == 1) = true := beq_iff_eq.2 (by omega)
            have HV := Lib.hid (show bits .xor .u32 ((y : Int) / 2) 2197175160 = (sh y : Nat) by
              have := u32_xor_nat (y / 2) 2197175160 (by omega) (by decide)
              rw [Int.natCast_ediv] at this
              unfold sh; rw [if_pos hodd]; exact this)
            have hsl := sh_lt y hy
            clear hodd
            go_wp2
            go_round
            case rel => exact ⟨j + 1, sh y, by omega, by go_num, by rw [HV.out], hsl, by rw [← hE.out, HT.out]⟩
            case measure => simp [intOf]; omega
          · have ho : ((y : Int) % 2 == 1) = false := beq_eq_false_iff_ne.2 (by omega)
            have HV := Lib.hid (show ((y : Int) / 2) = (sh y : Nat) by unfold sh; rw [if_neg hodd]; omega)
            have hsl := sh_lt y hy
            clear hodd
            go_wp2
            go_round
            case rel => exact ⟨j + 1, sh y, by omega, by go_num, by rw [HV.out], hsl, by rw [← hE.out, HT.out]⟩
            case measure => simp [intOf]; omega
        · have hE := Lib.hid (show y = shN 8 x by rw [← HT.out, show 8 - j = 0 by omega]; rfl)
          go_wp2
          go_round
          case rel => exact ⟨k + 1, by omega, by go_num, by rw [HS.out, hE.out]⟩
          case measure => simp [intOf]; omega
    · have HX := Lib.hid (show wrap64 (bits BinOp.xor IntKind.u32 IntKind.u32.max (crc (s.data.toList.take k) : Nat)) = (sumN s.data.toList : Nat) by
        rw [List.take_of_length_le (show s.data.toList.length ≤ k from by have : s.size = s.data.toList.length := rfl; omega)]
        have hc := crc_lt s.data.toList
        have h1 : 4294967295 ^^^ crc s.data.toList < 2 ^ 32 := Nat.xor_lt_two_pow (n := 32) (by decide) hc
        rw [show IntKind.u32.max = ((4294967295 : Nat) : Int) from by decide, u32_xor_nat _ _ (by decide) hc]
        exact IntWalk.wrap64_in _ ⟨by omega, by omega⟩)
      go_wp2
      go_ret
      exact ⟨congrArg (fun x => Ending.returned (.int .i64 x)) HX.out, rfl⟩
end Go.Proofs.YtkpjdbfmcelddaaDoor
