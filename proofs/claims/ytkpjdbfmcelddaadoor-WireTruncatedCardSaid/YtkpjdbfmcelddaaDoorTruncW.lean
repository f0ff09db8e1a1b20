/- The walk of WireTruncated. -/
import Derived.Test.YtkpjdbfmcelddaaDoorTripW
namespace Go.Proofs.YtkpjdbfmcelddaaDoor
open Go.RowKit

theorem strO_short (t : List UInt8) (n : Nat) (hn : t.length = n) (hn2 : n ≤ 200) (j : Nat) (hj : j < (enc (2 * n)).length + n) : strO ((enc (2 * n) ++ t).take j) = none := by
  have hzig : zig (n : Int) = 2 * n := by unfold zig; rw [if_neg (by omega)]; omega
  by_cases h : j < (enc (2 * n)).length
  · rw [List.take_append_of_le_length (by omega)]
    have := intO_short (n : Int) (by omega) j (by rw [hzig]; exact h)
    rw [hzig] at this
    unfold strO; rw [this]
  · have hi := intO_enc (n : Int) (by omega) (by omega) (t.take (j - (enc (2 * n)).length))
    rw [hzig] at hi
    rw [List.take_append, List.take_of_length_le (by omega)]
    unfold strO
    rw [hi]
    simp only [List.length_append, List.length_take]
    rw [if_neg (by omega)]

theorem int_short (m : Int) (hm : -4611686018427387903 ≤ m ∧ m ≤ 4611686018427387903) (j : Nat) (hj : j < (enc (zig m)).length) (w : World) :
    Calls Tryd.prog 15 #[.string ((⟨(enc (zig m)).toArray⟩ : ByteArray).extract 0 j), .int .i64 0] w fun e w' => e = .returned (.tuple #[.int .i64 0, .int .i64 0, .int .i64 10]) ∧ w' = w := by
  have el := enc_length (zig m)
  have h := int_any ((⟨(enc (zig m)).toArray⟩ : ByteArray).extract 0 j) 0 (by rw [ByteArray.size_extract]; unfold maxLen; omega) (Nat.zero_le _) w
  rw [List.drop_zero, Lib.extract_data, List.drop_zero, Nat.sub_zero] at h
  rw [show (ByteArray.mk (enc (zig m)).toArray).data.toList = enc (zig m) from rfl, intO_short m hm j hj] at h
  exact h
theorem str_short (t : ByteArray) (n : Nat) (hn : t.size = n) (hn2 : n ≤ 200) (j : Nat) (hj : j < (enc (2 * n)).length + n) (w : World) :
    Calls Tryd.prog 17 #[.string (((⟨(enc (2 * n)).toArray⟩ : ByteArray) ++ t).extract 0 j), .int .i64 0] w fun e w' => e = .returned (.tuple #[.string ⟨#[]⟩, .int .i64 0, .int .i64 10]) ∧ Below w.heap.size w w' := by
  have el := enc_length (2 * n)
  have h := string_any (((⟨(enc (2 * n)).toArray⟩ : ByteArray) ++ t).extract 0 j) 0 (by rw [ByteArray.size_extract]; unfold maxLen; omega) (by omega) w
  have hd : ((((⟨(enc (2 * n)).toArray⟩ : ByteArray) ++ t).extract 0 j).data.toList.drop 0) = (enc (2 * n) ++ t.data.toList).take j := by
    rw [List.drop_zero, Lib.extract_data, List.drop_zero, Nat.sub_zero]; congr 1
  rw [hd, strO_short t.data.toList n hn hn2 j hj] at h
  exact h

set_option maxRecDepth 100000 in
set_option maxHeartbeats 2000000 in
theorem truncated_walk (c d a : Int) (x y : Int) (hx : -576460752303423488 ≤ x ∧ x ≤ 576460752303423488) (hy : -576460752303423488 ≤ y ∧ y ≤ 576460752303423488) (t : ByteArray)
    (HX : Hid (∀ w, Calls Tryd.prog 11 #[.int .i64 c] w fun e w' => e = .returned (.int .i64 x) ∧ Below w.heap.size w w'))
    (HY : Hid (∀ w, Calls Tryd.prog 11 #[.int .i64 d] w fun e w' => e = .returned (.int .i64 y) ∧ Below w.heap.size w w'))
    (h1 : -9223372036854775808 ≤ a) (h2 : a ≤ 9223372036854775807) (w : World) (hT : Tab w) :
    Calls Tryd.prog 7 #[.int .i64 c, .int .i64 d, .string t, .int .i64 a] w fun e w' => e = .returned (.bool true) ∧ Below w.heap.size w w' := by
  obtain ⟨kt, ht1, ht2, ht3⟩ := min_len t.size 200 (by decide)
  have st : (t.extract 0 kt).size = kt := by rw [ByteArray.size_extract]; omega
  have ex := enc_length (zig x)
  have ey := enc_length (zig y)
  have et := enc_length (2 * kt)
  have nx : (((enc (zig x)).length : Int) == 0) = false := beq_eq_false_iff_ne.2 (by omega)
  have ny : (((enc (2 * kt)).length : Int) + (kt : Int) == 0) = false := beq_eq_false_iff_ne.2 (by omega)
  have hp1 := pickN_range a (enc (zig x)).length (by omega)
  have hp2 := pickN_range a ((enc (2 * kt)).length + kt : Nat) (by omega)
  go_enter Tryd.func7, Tryd.ntmps7
  go_wp2_with fail
  refine (sane_any _ hT).mono ?_
  rintro e w1 ⟨rfl, hb1⟩
  go_wp2_with fail
  refine (HX.out _).mono ?_
  rintro e w2 ⟨rfl, hb2⟩
  have hb2 := bstep hb1 hb2
  go_wp2_with fail
  refine (putInt_ok _ (by omega) (by omega) _).mono ?_
  rintro e w3 ⟨rfl, hb3⟩
  have hb3 := bstep hb2 hb3
  go_wp2_with fail
  refine (HY.out _).mono ?_
  rintro e w4 ⟨rfl, hb4⟩
  have hb4 := bstep hb3 hb4
  go_wp2_with fail
  refine (putInt_ok _ (by omega) (by omega) _).mono ?_
  rintro e w5 ⟨rfl, hb5⟩
  have hb5 := bstep hb4 hb5
  go_wp2_with fail
  refine (putString_ok (t.extract 0 kt) (by rw [st]; omega) _).mono ?_
  rw [st]
  rintro e w6 ⟨rfl, hb6⟩
  have hb6 := bstep hb5 hb6
  go_wp2_with fail
  refine (pick_any a (enc (zig x)).length (by omega) (by omega) h1 h2 _).mono ?_
  rintro e w7 ⟨rfl, rfl⟩
  obtain ⟨j, hj⟩ : ∃ j : Nat, pickN a (enc (zig x)).length = j := ⟨(pickN a (enc (zig x)).length).toNat, by omega⟩
  rw [hj] at hp1 ⊢
  have HJ := Lib.hid hj; clear hj
  go_wp2_with fail
  refine (int_short x (by omega) j (by omega) _).mono ?_
  rintro e w8 ⟨rfl, rfl⟩
  go_wp2_with fail
  refine (pick_any a _ (by omega) (by omega) h1 h2 _).mono ?_
  rintro e w9 ⟨rfl, rfl⟩
  obtain ⟨i, hi⟩ : ∃ i : Nat, pickN a (((enc (2 * kt)).length : Int) + (kt : Int)) = i := ⟨(pickN a ((enc (2 * kt)).length + kt)).toNat, by rw [← Int.natCast_add]; omega⟩
  rw [Int.natCast_add, hi] at hp2
  rw [hi]
  have HI := Lib.hid hi; clear hi
  go_wp2_with fail
  refine (str_short _ kt st (by omega) i (by omega) _).mono ?_
  rintro e w10 ⟨rfl, hb10⟩
  have hb10 := bstep hb6 hb10
  by_cases hxy : x = y
  · subst hxy
    have hq : ((({ data := (enc (zig x)).toArray } : ByteArray).extract 0 (enc (zig x)).length).toList == enc (zig x)) = true := by
      rw [beq_iff_eq, Lib.toList_data, Lib.extract_data]; simp
    go_wp2_with fail
    refine (HX.out _).mono ?_
    rintro e w11 ⟨rfl, hb11⟩
    have hb11 := bstep hb10 hb11
    go_wp2_with fail
    refine (HY.out _).mono ?_
    rintro e w12 ⟨rfl, hb12⟩
    have hb12 := bstep hb11 hb12
    go_wp2
    go_ret
    exact ⟨rfl, hb12⟩
  · have hq : (enc (zig x)).length ≤ (enc (zig y)).length → ((({ data := (enc (zig y)).toArray } : ByteArray).extract 0 (enc (zig x)).length).toList == enc (zig x)) = false := by
      intro _
      rw [beq_eq_false_iff_ne, Lib.toList_data, Lib.extract_data, List.drop_zero, Nat.sub_zero]
      intro e
      have e2 := List.take_append_drop (enc (zig x)).length (enc (zig y))
      rw [show (enc (zig y)).take (enc (zig x)).length = enc (zig x) from e] at e2
      exact hxy (enc_prefix x y (by omega) (by omega) _ [] (by rw [e2, List.append_nil]))
    have HQ := Lib.hid hq; clear hq
    have hne : (x == y) = false := beq_eq_false_iff_ne.2 hxy
    by_cases hle : (enc (zig x)).length ≤ (enc (zig y)).length
    · have hq := HQ.out hle
      clear HQ hxy
      go_wp2_with fail
      refine (HX.out _).mono ?_
      rintro e w11 ⟨rfl, hb11⟩
      have hb11 := bstep hb10 hb11
      go_wp2_with fail
      refine (HY.out _).mono ?_
      rintro e w12 ⟨rfl, hb12⟩
      have hb12 := bstep hb11 hb12
      go_wp2
      go_ret
      exact ⟨rfl, hb12⟩
    · clear HQ hxy
      go_wp2_with fail
      refine (HX.out _).mono ?_
      rintro e w11 ⟨rfl, hb11⟩
      have hb11 := bstep hb10 hb11
      go_wp2_with fail
      refine (HY.out _).mono ?_
      rintro e w12 ⟨rfl, hb12⟩
      have hb12 := bstep hb11 hb12
      go_wp2
      go_ret
      exact ⟨rfl, hb12⟩
end Go.Proofs.YtkpjdbfmcelddaaDoor
