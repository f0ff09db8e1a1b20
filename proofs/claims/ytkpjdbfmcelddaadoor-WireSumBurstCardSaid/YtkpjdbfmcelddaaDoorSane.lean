/- What every law of the layer calls first: sane returns true; pick and NumberFrom. -/
import Derived.Test.YtkpjdbfmcelddaaDoorEncC
import Derived.Test.YtkpjdbfmcelddaaDoorSum
import Derived.BigQuiet
import Derived.Deep.QuietTactic
namespace Go.Proofs.YtkpjdbfmcelddaaDoor
open Go.RowKit

theorem bstep {a b c : World} (h : Below a.heap.size a b) (k : Below b.heap.size b c) : Below a.heap.size a c := h.trans (k.mono h.size)

set_option maxRecDepth 100000 in
set_option maxHeartbeats 1000000 in
theorem sane_any (w : World) (hT : Tab w) :
    Calls Tryd.prog 10 #[] w fun e w' => e = .returned (.bool true) ∧ Below w.heap.size w w' := by
  have c1 := putInt_ok (-64) (by omega) (by omega)
  rw [show enc (zig (-64)) = [127] by decide +kernel] at c1
  have c2 := putInt_ok 64 (by omega) (by omega)
  rw [show enc (zig 64) = [128, 1] by decide +kernel] at c2
  have c3 := int_any ⟨#[97, 172, 2, 98]⟩ 1 (by decide +kernel) (by decide +kernel)
  rw [show intO (List.drop 1 (ByteArray.mk #[97, 172, 2, 98]).data.toList) = some (150, 2) by decide +kernel] at c3
  have c4 := int_any ⟨#[128, 0]⟩ 0 (by decide +kernel) (by decide +kernel)
  rw [show intO (List.drop 0 (ByteArray.mk #[128, 0]).data.toList) = none by decide +kernel] at c4
  have c5 := putString_ok ⟨#[97, 98]⟩ (by decide +kernel)
  rw [show ((ByteArray.mk (enc (2 * (ByteArray.mk #[97, 98]).size)).toArray) ++ ByteArray.mk #[97, 98] : ByteArray) = ⟨#[4, 97, 98]⟩ by decide +kernel] at c5
  have c6 := string_any ⟨#[4, 97, 98, 99]⟩ 0 (by decide +kernel) (by decide +kernel)
  rw [show strO (List.drop 0 (ByteArray.mk #[4, 97, 98, 99]).data.toList) = some (1, 3) by decide +kernel] at c6
  have c7 := string_any ⟨#[4, 97]⟩ 0 (by decide +kernel) (by decide +kernel)
  rw [show strO (List.drop 0 (ByteArray.mk #[4, 97]).data.toList) = none by decide +kernel] at c7
  have c8 := putInt_no 4611686018427387904 (by omega)
  have c9 := int_bad ⟨#[]⟩ 1 (by right; decide +kernel)
  have c10 := sum_any ⟨#[49, 50, 51, 52, 53, 54, 55, 56, 57]⟩ (by decide +kernel)
  rw [show sumN (ByteArray.mk #[49, 50, 51, 52, 53, 54, 55, 56, 57]).data.toList = 3808858755 by decide +kernel] at c10
  dsimp only [intV, strV] at c3 c4 c6 c7
  rw [show ByteArray.extract ⟨#[4, 97, 98, 99]⟩ (0 + 1) (0 + 3) = ⟨#[97, 98]⟩ by decide +kernel] at c6
  have H1 := Lib.hid c1; clear c1
  have H2 := Lib.hid c2; clear c2
  have H3 := Lib.hid c3; clear c3
  have H4 := Lib.hid c4; clear c4
  have H5 := Lib.hid c5; clear c5
  have H6 := Lib.hid c6; clear c6
  have H7 := Lib.hid c7; clear c7
  have H8 := Lib.hid c8; clear c8
  have H9 := Lib.hid c9; clear c9
  have H10 := Lib.hid c10; clear c10
  go_enter Tryd.func10, Tryd.ntmps10
  go_wp2_with fail
  refine (H1.out _).mono ?_
  rintro e w1 ⟨rfl, hb1⟩
  go_wp2_with fail
  refine (H2.out _).mono ?_
  rintro e w2 ⟨rfl, hb2⟩
  go_wp2_with fail
  refine (H3.out _).mono ?_
  rintro e w3 ⟨rfl, rfl⟩
  go_wp2_with fail
  refine (H4.out _).mono ?_
  rintro e w4 ⟨rfl, rfl⟩
  go_wp2_with fail
  refine (H5.out _).mono ?_
  rintro e w5 ⟨rfl, hb5⟩
  go_wp2_with fail
  refine (H6.out _).mono ?_
  rintro e w6 ⟨rfl, hb6⟩
  go_wp2_with fail
  refine (H7.out _).mono ?_
  rintro e w7 ⟨rfl, hb7⟩
  go_wp2_with fail
  refine (H8.out _).mono ?_
  rintro e w8 ⟨rfl, rfl⟩
  go_wp2_with fail
  refine (H9.out _).mono ?_
  rintro e w9 ⟨rfl, rfl⟩
  have hb : Below w.heap.size w w9 := bstep (bstep (bstep (bstep hb1 hb2) hb5) hb6) hb7
  have hT9 := hT.below hb hT.1
  go_wp2_with fail
  refine (H10.out _ hT9).mono ?_
  rintro e w' ⟨rfl, rfl⟩
  go_wp2
  go_ret
  exact ⟨rfl, hb⟩

/-- An arbitrary integer as one from 0 to n - 1. -/
def pickN (c n : Int) : Int := (if c < 0 then -(c + 1) else c) % n
theorem pickN_range (c n : Int) (h : 0 < n) : 0 ≤ pickN c n ∧ pickN c n < n := by
  unfold pickN; exact ⟨Int.emod_nonneg _ (by omega), Int.emod_lt_of_pos _ h⟩

theorem pick_any (c n : Int) (h : 0 < n) (hn : n ≤ 9223372036854775807) (h1 : -9223372036854775808 ≤ c) (h2 : c ≤ 9223372036854775807) (w : World) :
    Calls Tryd.prog 14 #[.int .i64 c, .int .i64 n] w fun e w' => e = .returned (.int .i64 (pickN c n)) ∧ w' = w := by
  unfold pickN
  by_cases hc : c < 0
  · rw [if_pos hc]
    go_enter Tryd.func14, Tryd.ntmps14
    go_wp2
    go_ret
    have e : -((c + 1).tmod n) = -(c + 1) % n := by rw [← Int.neg_tmod, Int.tmod_eq_emod_of_nonneg (by omega)]
    exact ⟨congrArg (fun x => Ending.returned (.int .i64 x)) e, rfl⟩
  · rw [if_neg hc]
    go_enter Tryd.func14, Tryd.ntmps14
    go_wp2
    go_ret
    exact ⟨rfl, rfl⟩

def numTab : List Int := [64, 128, 8192, 16384, 1073741824, 36028797018963968, 576460752303423488, 2]
theorem numTab_range : ∀ k, k < 8 → 2 ≤ numTab.getD k 0 ∧ numTab.getD k 0 ≤ 576460752303423488 := by decide
theorem numTab_at (k : Nat) (h : k < [Value.int IntKind.i64 64, Value.int IntKind.i64 128, Value.int IntKind.i64 8192, Value.int IntKind.i64 16384, Value.int IntKind.i64 1073741824, Value.int IntKind.i64 36028797018963968, Value.int IntKind.i64 576460752303423488, Value.int IntKind.i64 2].length) :
    [Value.int IntKind.i64 64, Value.int IntKind.i64 128, Value.int IntKind.i64 8192, Value.int IntKind.i64 16384, Value.int IntKind.i64 1073741824, Value.int IntKind.i64 36028797018963968, Value.int IntKind.i64 576460752303423488, Value.int IntKind.i64 2][k] = .int .i64 (numTab.getD k 0) := by
  match k, h with
  | 0, _ => rfl
  | 1, _ => rfl
  | 2, _ => rfl
  | 3, _ => rfl
  | 4, _ => rfl
  | 5, _ => rfl
  | 6, _ => rfl
  | 7, _ => rfl
def numF (c : Int) : Int :=
  let n := pickN (pickN c 4611686018427387904 / 8) (numTab.getD (pickN c 8).toNat 0)
  if 8 ≤ pickN c 16 then -n else n

set_option maxRecDepth 100000 in
set_option maxHeartbeats 1000000 in
theorem numberFrom_any (c : Int) (h1 : -9223372036854775808 ≤ c) (h2 : c ≤ 9223372036854775807) (w : World) :
    Calls Tryd.prog 11 #[.int .i64 c] w fun e w' => e = .returned (.int .i64 (numF c)) ∧ Below w.heap.size w w' := by
  have p1 := pickN_range c 4611686018427387904 (by omega)
  have p2 := pickN_range c 8 (by omega)
  have p3 := pickN_range c 16 (by omega)
  have p4 := numTab_range (pickN c 8).toNat (by omega)
  have p5 := pickN_range (pickN c 4611686018427387904 / 8) (numTab.getD (pickN c 8).toNat 0) (by omega)
  simp only [List.getD_eq_getElem?_getD] at p4 p5
  go_enter Tryd.func11, Tryd.ntmps11
  go_wp2_with fail
  refine (pick_any c 4611686018427387904 (by omega) (by omega) h1 h2 _).mono ?_
  rintro e w1 ⟨rfl, rfl⟩
  go_wp2_with fail
  refine (pick_any c 8 (by omega) (by omega) h1 h2 _).mono ?_
  rintro e w2 ⟨rfl, rfl⟩
  go_wp2_with fail
  rw [numTab_at _ (by simp; omega), List.getD_eq_getElem?_getD]
  refine (pick_any _ _ (by omega) (by omega) (by omega) (by omega) _).mono ?_
  rintro e w3 ⟨rfl, rfl⟩
  go_wp2_with fail
  refine (pick_any c 16 (by omega) (by omega) h1 h2 _).mono ?_
  rintro e w4 ⟨rfl, rfl⟩
  by_cases h8 : 8 ≤ pickN c 16
  · have HN := Lib.hid (show numF c = -(pickN (pickN c 4611686018427387904 / 8) (numTab.getD (pickN c 8).toNat 0)) by unfold numF; simp only [if_pos h8])
    go_wp2
    go_ret
    exact ⟨congrArg (fun x => Ending.returned (.int .i64 x)) HN.out.symm, (Below.refl _ _).alloc (Nat.le_refl _) _⟩
  · have HN := Lib.hid (show numF c = pickN (pickN c 4611686018427387904 / 8) (numTab.getD (pickN c 8).toNat 0) by unfold numF; simp only [if_neg h8])
    go_wp2
    go_ret
    exact ⟨congrArg (fun x => Ending.returned (.int .i64 x)) HN.out.symm, (Below.refl _ _).alloc (Nat.le_refl _) _⟩
theorem numF_range (c : Int) : -576460752303423488 ≤ numF c ∧ numF c ≤ 576460752303423488 := by
  have p2 := pickN_range c 8 (by omega)
  have p4 := numTab_range (pickN c 8).toNat (by omega)
  have p5 := pickN_range (pickN c 4611686018427387904 / 8) (numTab.getD (pickN c 8).toNat 0) (by omega)
  unfold numF
  dsimp only
  split <;> omega
end Go.Proofs.YtkpjdbfmcelddaaDoor
