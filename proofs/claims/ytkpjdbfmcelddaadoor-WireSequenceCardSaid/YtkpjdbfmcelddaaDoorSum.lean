/- The checksum, walked. -/
import Derived.WalkKit
import Derived.WalkLawsBesides
import Derived.WalkSpells
import Derived.Laws.Bits128
import Derived.Laws.BitsAllLaws
import Derived.Lib.Hide
import Derived.IntWalk
import Derived.Test.YtkpjdbfmcelddaaDoorChecked
namespace Go.Proofs.YtkpjdbfmcelddaaDoor
open Go.RowKit

/-- The table of the checksum. -/
def quartersL : List Nat := [0, 274646895, 549293790, 820201905, 1098587580, 1361435347, 1640403810, 1905808397, 2197175160, 2460548119, 2722870694, 2987750089, 3280807620, 3553878443, 3811616794, 4084100981]
/-- The table lies in block 0. -/
def Tab (w : World) : Prop := 0 < w.heap.size ∧ ∀ i, i < 16 → w.cell? ⟨0, i, none⟩ = some (.int .u32 (quartersL.getD i 0 : Nat))
theorem Tab.below {B : Nat} {w w' : World} (h : Tab w) (hb : Below B w w') (hB : 0 < B) : Tab w' :=
  ⟨Nat.lt_of_lt_of_le h.1 hb.size, fun i hi => (hb.cell (p := ⟨0, i, none⟩) hB).trans (h.2 i hi)⟩

theorem tab_of_cells {W : World} (hc : ∀ i, i < [0, 274646895, 549293790, 820201905, 1098587580, 1361435347, 1640403810, 1905808397, 2197175160, 2460548119, 2722870694, 2987750089, 3280807620, 3553878443, 3811616794, (4084100981 : Int)].length →
    W.cell? ⟨0, i, none⟩ = some (.int .u32 ([0, 274646895, 549293790, 820201905, 1098587580, 1361435347, 1640403810, 1905808397, 2197175160, 2460548119, 2722870694, 2987750089, 3280807620, 3553878443, 3811616794, 4084100981].getD i 0))) : Tab W := by
  have h0 := hc 0 (by decide)
  refine ⟨?_, fun i hi => ?_⟩
  · rcases Nat.eq_zero_or_pos W.heap.size with hz | hz
    · exfalso; simp [World.cell?, Array.getElem?_eq_none (show W.heap.size ≤ 0 by omega)] at h0
    · exact hz
  · rw [hc i hi]
    have e : ∀ i, i < 16 → [0, 274646895, 549293790, 820201905, 1098587580, 1361435347, 1640403810, 1905808397, 2197175160, 2460548119, 2722870694, 2987750089, 3280807620, 3553878443, 3811616794, (4084100981 : Int)].getD i 0 = (quartersL.getD i 0 : Nat) := by decide
    rw [e i hi]

/-- Four shifts. -/
def t4 (r : Nat) : Nat := (r / 16) ^^^ quartersL.getD (r % 16) 0
theorem quarters_lt : ∀ i, i < 16 → quartersL.getD i 0 < 4294967296 := by decide
theorem t4_lt (r : Nat) (h : r < 4294967296) : t4 r < 4294967296 := by
  unfold t4
  exact Nat.xor_lt_two_pow (n := 32) (by omega) (quarters_lt _ (by omega))

theorem shift4_any (r : Nat) (hr : r < 4294967296) (w : World) (hT : Tab w) :
    Calls Tryd.prog 29 #[.int .u32 r] w fun e w' => e = .returned (.int .u32 (t4 r : Nat)) ∧ w' = w := by
  have hm : bits .and .u32 (r : Int) 15 = ((r % 16 : Nat) : Int) := by
    have := u32_and_nat r 15 hr (by decide)
    rw [show r &&& 15 = r % 16 from Nat.and_two_pow_sub_one_eq_mod r 4] at this
    exact this
  have hcell := hT.2 (r % 16) (by omega)
  have HX := Lib.hid (show bits .xor .u32 ((r : Int) / 16) (quartersL[r % 16]?.getD 0 : Nat) = (t4 r : Nat) by
    have := u32_xor_nat (r / 16) (quartersL.getD (r % 16) 0) (by omega) (quarters_lt _ (by omega))
    rw [Int.natCast_ediv] at this
    exact this)
  have hlt : r % 16 < 16 := by omega
  go_enter Tryd.func29, Tryd.ntmps29
  go_wp2
  go_ret
  exact ⟨congrArg (fun x => Ending.returned (.int .u32 x)) HX.out, rfl⟩

def crcStep (r : Nat) (b : UInt8) : Nat := t4 (t4 (r ^^^ b.toNat))
def crc (l : List UInt8) : Nat := l.foldl crcStep 4294967295
def sumN (l : List UInt8) : Nat := 4294967295 ^^^ crc l
theorem crcStep_lt (r : Nat) (b : UInt8) (h : r < 4294967296) : crcStep r b < 4294967296 :=
  t4_lt _ (t4_lt _ (Nat.xor_lt_two_pow (n := 32) h (by have := UInt8.toNat_lt b; omega)))
theorem foldl_lt : ∀ (l : List UInt8) (r : Nat), r < 4294967296 → l.foldl crcStep r < 4294967296
  | [], _, h => h
  | b :: l, r, h => foldl_lt l _ (crcStep_lt r b h)
theorem crc_lt (l : List UInt8) : crc l < 4294967296 := foldl_lt l _ (by decide)
theorem crc_snoc (l : List UInt8) (b : UInt8) : crc (l ++ [b]) = crcStep (crc l) b := by simp [crc]
theorem take_snoc (s : ByteArray) (k : Nat) (h : k < s.size) : s.data.toList.take (k + 1) = s.data.toList.take k ++ [s[k]] := by
  rw [List.take_succ_eq_append_getElem (by exact h)]; rfl

theorem sum_any (s : ByteArray) (hs : s.size ≤ maxLen) (w : World) (hT : Tab w) :
    Calls Tryd.prog 21 #[.string s] w fun e w' => e = .returned (.int .i64 (sumN s.data.toList : Nat)) ∧ w' = w := by
  unfold maxLen at hs
  go_enter Tryd.func21, Tryd.ntmps21
  go_wp2
  go_loop [3, 7] (fun rv iv => ∃ k : Nat, k ≤ s.size ∧ iv = .int .i64 k ∧ rv = .int .u32 (crc (s.data.toList.take k) : Nat)) (fun _ i => s.size - (intOf i).toNat)
  case atStart => exact ⟨0, Nat.zero_le _, rfl, rfl⟩
  case round =>
    obtain ⟨k, hk, rfl, rfl⟩ := hrel
    have hc := crc_lt (s.data.toList.take k)
    by_cases hlt : k < s.size
    · have HX := Lib.hid (show bits .xor .u32 (crc (s.data.toList.take k) : Nat) ((s[k].toNat : Int) % 4294967296) = ((crc (s.data.toList.take k) ^^^ s[k].toNat : Nat) : Int) by
        rw [Int.emod_eq_of_lt (by omega) (by have := UInt8.toNat_lt s[k]; omega)]
        exact u32_xor_nat _ _ hc (by have := UInt8.toNat_lt s[k]; omega))
      have HS := Lib.hid (show crc (s.data.toList.take (k + 1)) = t4 (t4 (crc (s.data.toList.take k) ^^^ s[k].toNat)) by rw [take_snoc s k hlt, crc_snoc]; rfl)
      have hl1 : crc (s.data.toList.take k) ^^^ s[k].toNat < 4294967296 := Nat.xor_lt_two_pow (n := 32) hc (by have := UInt8.toNat_lt s[k]; omega)
      have hl2 := t4_lt _ hl1
      go_wp2_with fail
      rw [HX.out]
      refine (shift4_any _ hl1 _ hT).mono ?_
      rintro e w' ⟨rfl, rfl⟩
      go_wp2_with fail
      refine (shift4_any _ hl2 _ hT).mono ?_
      rintro e w' ⟨rfl, rfl⟩
      go_wp2
      go_round
      case rel => exact ⟨k + 1, by omega, by go_num, by rw [HS.out]⟩
      case measure => simp [intOf]; omega
    · have HX := Lib.hid (show wrap64 (bits BinOp.xor IntKind.u32 IntKind.u32.max (crc (s.data.toList.take k) : Nat)) = (sumN s.data.toList : Nat) by
        rw [List.take_of_length_le (show s.data.toList.length ≤ k from by have : s.size = s.data.toList.length := rfl; omega)]
        have hc := crc_lt s.data.toList
        have h1 : 4294967295 ^^^ crc s.data.toList < 2 ^ 32 := Nat.xor_lt_two_pow (n := 32) (by decide) hc
        rw [show IntKind.u32.max = ((4294967295 : Nat) : Int) from by decide, u32_xor_nat _ _ (by decide) hc]
        exact IntWalk.wrap64_in _ ⟨by omega, by omega⟩)
      go_wp2
      go_ret
      exact ⟨congrArg (fun x => Ending.returned (.int .i64 x)) HX.out, rfl⟩
end Go.Proofs.YtkpjdbfmcelddaaDoor
