/- Int, String and PutString, walked: what they return, in plain words. -/
import Derived.Test.YtkpjdbfmcelddaaDoorEncA
import Derived.Test.YtkpjdbfmcelddaaDoorEncB
import Derived.Test.YtkpjdbfmcelddaaDoorShelf
namespace Go.Proofs.YtkpjdbfmcelddaaDoor
open Go.RowKit

/-- The integer whose encoding a text begins with, and its length. -/
def intO (l : List UInt8) : Option (Int × Nat) :=
  match dec 9 0 0 l with
  | some (z, n, true) => if z ≤ 9223372036854775806 then some (unzig z, n) else none
  | _ => none
def intV (a : Nat) : Option (Int × Nat) → Value
  | none => .tuple #[.int .i64 0, .int .i64 0, .int .i64 10]
  | some (v, n) => .tuple #[.int .i64 v, .int .i64 (a + n : Nat), .int .i64 0]

theorem int_bad (s : ByteArray) (a : Int) (h : a < 0 ∨ s.size < a) (w : World) :
    Calls Tryd.prog 15 #[.string s, .int .i64 a] w fun e w' => e = .returned (.tuple #[.int .i64 0, .int .i64 0, .int .i64 2]) ∧ w' = w := by
  go_enter Tryd.func15, Tryd.ntmps15
  go_wp2_with (go_at_call 25; refine (isOffset_no s a h _).mono ?_; rintro e w' ⟨rfl, rfl⟩)
  go_ret3
  exact ⟨rfl, rfl⟩

theorem dec_bound : ∀ (f i z : Nat) (l : List UInt8) (z' n : Nat) (ok : Bool), dec f i z l = some (z', n, ok) → i < n ∧ n ≤ i + l.length ∧ n ≤ i + f
  | 0, _, _, _, _, _, _, h => by simp [dec] at h
  | _ + 1, _, _, [], _, _, _, h => by simp [dec] at h
  | f + 1, i, z, b :: l, z', n, ok, h => by
    rw [dec] at h
    split at h
    · simp only [Option.some.injEq, Prod.mk.injEq] at h
      obtain ⟨_, rfl, _⟩ := h
      simp
    · have := dec_bound f (i + 1) _ l z' n ok h
      simp; omega

set_option maxHeartbeats 800000 in
theorem int_any (s : ByteArray) (a : Nat) (hs : s.size ≤ maxLen) (ha : a ≤ s.size) (w : World) :
    Calls Tryd.prog 15 #[.string s, .int .i64 a] w fun e w' => e = .returned (intV a (intO (s.data.toList.drop a))) ∧ w' = w := by
  have hj := join_any s a hs ha
  have hlen : (s.data.toList.drop a).length = s.size - a := by rw [List.length_drop, ← size_list]
  unfold intO
  rcases hd : dec 9 0 0 (s.data.toList.drop a) with _ | ⟨z, n, ok⟩
  · rw [hd] at hj
    dsimp only [joinV] at hj
    have HJ := Lib.hid hj; clear hj hd hlen
    go_enter Tryd.func15, Tryd.ntmps15
    go_wp2_with (first | (go_at_call 25; refine (isOffset_yes s a (by omega) (by omega) _).mono ?_; rintro e w' ⟨rfl, rfl⟩) | (go_at_call 26; refine (HJ.out _).mono ?_; rintro e w' ⟨rfl, rfl⟩))
    go_ret3
    exact ⟨rfl, rfl⟩
  · rw [hd] at hj
    dsimp only [joinV] at hj
    have hn := dec_bound _ _ _ _ _ _ _ hd
    have HJ := Lib.hid hj; clear hj hd hlen
    cases ok
    · go_enter Tryd.func15, Tryd.ntmps15
      go_wp2_with (first | (go_at_call 25; refine (isOffset_yes s a (by omega) (by omega) _).mono ?_; rintro e w' ⟨rfl, rfl⟩) | (go_at_call 26; refine (HJ.out _).mono ?_; rintro e w' ⟨rfl, rfl⟩))
      go_ret3
      exact ⟨rfl, rfl⟩
    · by_cases hz : z ≤ 9223372036854775806
      · simp only [if_pos hz]
        go_enter Tryd.func15, Tryd.ntmps15
        go_wp2_with (first | (go_at_call 25; refine (isOffset_yes s a (by omega) (by omega) _).mono ?_; rintro e w' ⟨rfl, rfl⟩) | (go_at_call 26; refine (HJ.out _).mono ?_; rintro e w' ⟨rfl, rfl⟩) | (go_at_call 27; refine (unfold_any z hz _).mono ?_; rintro e w' ⟨rfl, rfl⟩))
        go_ret3
        exact ⟨rfl, rfl⟩
      · simp only [if_neg hz]
        have hz' : 9223372036854775806 < z := by omega
        go_enter Tryd.func15, Tryd.ntmps15
        go_wp2_with (first | (go_at_call 25; refine (isOffset_yes s a (by omega) (by omega) _).mono ?_; rintro e w' ⟨rfl, rfl⟩) | (go_at_call 26; refine (HJ.out _).mono ?_; rintro e w' ⟨rfl, rfl⟩))
        go_ret3
        exact ⟨rfl, rfl⟩

theorem clone_any (s : ByteArray) (w : World) (h : s.size ≤ 281474976710656) :
    Calls Tryd.prog 28 #[.string s] w fun e w' => e = .returned (.string s) ∧ Below w.heap.size w w' := by
  go_enter Tryd.func28, Tryd.ntmps28
  go_wp2_with (go_at_call 32; refine (Tryd.stringslite_Clone s _ h).mono ?_; rintro e w' ⟨rfl, hb⟩)
  go_ret
  exact ⟨rfl, hb⟩

/-- The string whose encoding a text begins with, where it begins and where it ends. -/
def strO (l : List UInt8) : Option (Nat × Nat) :=
  match intO l with
  | some (v, n) => if 0 ≤ v ∧ v ≤ 65536 ∧ v ≤ (l.length - n : Nat) then some (n, n + v.toNat) else none
  | none => none
def strV (s : ByteArray) (a : Nat) : Option (Nat × Nat) → Value
  | none => .tuple #[.string ⟨#[]⟩, .int .i64 0, .int .i64 10]
  | some (n, m) => .tuple #[.string (s.extract (a + n) (a + m)), .int .i64 (a + m : Nat), .int .i64 0]

theorem ret_str (s x : ByteArray) (a n m : Nat) {y : Int} (hx : x = s.extract (a + n) (a + m)) (hy : y = (a + m : Nat)) :
    Ending.returned (.tuple #[.string x, .int .i64 y, .int .i64 0]) = Ending.returned (strV s a (some (n, m))) := by rw [hx, hy]; rfl

theorem grps_length : ∀ (k y : Nat), (grps k y).length ≤ k + 1
  | 0, _ => by simp [grps]
  | k + 1, y => by
    have := grps_length k (y / 128)
    rw [grps]; split <;> simp; omega
theorem enc_length (z : Nat) : 0 < (enc z).length ∧ (enc z).length ≤ 9 := by
  have := grps_length 8 z
  have := grps_pos 8 z
  unfold enc; rw [List.length_map, bytesOf_length]; omega

theorem intO_bound (l : List UInt8) (v : Int) (n : Nat) (h : intO l = some (v, n)) : 0 < n ∧ n ≤ l.length ∧ n ≤ 9 ∧ -4611686018427387903 ≤ v ∧ v ≤ 4611686018427387903 := by
  unfold intO at h
  rcases hd : dec 9 0 0 l with _ | ⟨z, m, ok⟩
  · rw [hd] at h; simp at h
  · rw [hd] at h
    have := dec_bound _ _ _ _ _ _ _ hd
    cases ok
    · simp at h
    · simp only at h
      split at h
      · simp only [Option.some.injEq, Prod.mk.injEq] at h
        obtain ⟨rfl, rfl⟩ := h
        refine ⟨by omega, by omega, by omega, ?_, ?_⟩ <;> (unfold unzig; split <;> omega)
      · simp at h

theorem string_bad (s : ByteArray) (a : Int) (h : a < 0 ∨ s.size < a) (w : World) :
    Calls Tryd.prog 17 #[.string s, .int .i64 a] w fun e w' => e = .returned (.tuple #[.string ⟨#[]⟩, .int .i64 0, .int .i64 2]) ∧ w' = w := by
  go_enter Tryd.func17, Tryd.ntmps17
  go_wp2_with (go_at_call 15; refine (int_bad s a h _).mono ?_; rintro e w' ⟨rfl, rfl⟩)
  go_ret3
  exact ⟨rfl, rfl⟩

set_option maxHeartbeats 800000 in
theorem string_any (s : ByteArray) (a : Nat) (hs : s.size ≤ maxLen) (ha : a ≤ s.size) (w : World) :
    Calls Tryd.prog 17 #[.string s, .int .i64 a] w fun e w' => e = .returned (strV s a (strO (s.data.toList.drop a))) ∧ Below w.heap.size w w' := by
  have hj := int_any s a hs ha
  have hlen : (s.data.toList.drop a).length = s.size - a := by rw [List.length_drop, ← size_list]
  unfold strO
  rcases hd : intO (s.data.toList.drop a) with _ | ⟨v, n⟩
  · rw [hd] at hj
    dsimp only [intV] at hj
    have HJ := Lib.hid hj; clear hj hd hlen
    go_enter Tryd.func17, Tryd.ntmps17
    go_wp2_with (go_at_call 15; refine (HJ.out _).mono ?_; rintro e w' ⟨rfl, rfl⟩)
    go_ret3
    exact ⟨rfl, Below.refl _ _⟩
  · rw [hd] at hj
    dsimp only [intV] at hj
    obtain ⟨hn0, hn1, hn2, hv1, hv2⟩ := intO_bound _ _ _ hd
    unfold maxLen at hs
    rw [hlen] at hn1
    simp only [hlen]
    have HJ := Lib.hid hj; clear hj hd hlen
    by_cases hv : 0 ≤ v ∧ v ≤ 65536 ∧ v ≤ (s.size - a - n : Nat)
    · obtain ⟨h1, h2, h3⟩ := hv
      simp only [if_pos (show 0 ≤ v ∧ v ≤ 65536 ∧ v ≤ (s.size - a - n : Nat) from ⟨h1, h2, h3⟩)]
      obtain ⟨k, rfl⟩ := Int.eq_ofNat_of_zero_le h1
      simp only [Int.toNat_natCast]
      go_enter Tryd.func17, Tryd.ntmps17
      go_wp2_with (first | (go_at_call 15; refine (HJ.out _).mono ?_; rintro e w' ⟨rfl, rfl⟩))
      refine (clone_any _ _ ?_).mono ?_
      · rw [ByteArray.size_extract]; omega
      rintro e w1 ⟨rfl, hb⟩
      go_wp2
      go_ret3
      refine ⟨ret_str _ _ _ _ _ (by rw [Nat.add_assoc]) (by omega), hb⟩
    · simp only [if_neg hv]
      go_enter Tryd.func17, Tryd.ntmps17
      go_wp2_with (go_at_call 15; refine (HJ.out _).mono ?_; rintro e w' ⟨rfl, rfl⟩)
      all_goals (go_ret3; exact ⟨rfl, Below.refl _ _⟩)

/-- PutString, where it encodes. -/
theorem putString_ok (s : ByteArray) (hs : s.size ≤ 65536) (w : World) :
    Calls Tryd.prog 19 #[.string s] w fun e w' => e = .returned (.tuple #[.string (⟨(enc (2 * s.size)).toArray⟩ ++ s), .int .i64 0]) ∧ Below w.heap.size w w' := by
  have hz : zig (s.size : Int) = 2 * s.size := by unfold zig; rw [if_neg (by omega)]; omega
  have he := encode_any (s.size : Int) (by omega) (by omega)
  rw [hz] at he
  have hel := (enc_length (2 * s.size)).2
  have HE := Lib.hid he; clear he hz
  go_enter Tryd.func19, Tryd.ntmps19
  go_wp2_with (go_at_call 23; refine (HE.out _).mono ?_; rintro e w' ⟨rfl, hb⟩)
  go_ret2
  exact ⟨rfl, hb⟩
/-- PutString, where it refuses. -/
theorem putString_no (s : ByteArray) (hs : 65536 < s.size) (w : World) :
    Calls Tryd.prog 19 #[.string s] w fun e w' => e = .returned (.tuple #[.string ⟨#[]⟩, .int .i64 10]) ∧ w' = w := by
  go_enter Tryd.func19, Tryd.ntmps19
  go_wp2
  go_ret2
  exact ⟨rfl, rfl⟩
end Go.Proofs.YtkpjdbfmcelddaaDoor
