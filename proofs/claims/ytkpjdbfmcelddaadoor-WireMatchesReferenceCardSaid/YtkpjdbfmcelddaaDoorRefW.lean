/- The walk of WireMatchesReference. -/
import Derived.Test.YtkpjdbfmcelddaaDoorRefC
namespace Go.Proofs.YtkpjdbfmcelddaaDoor
open Go.RowKit

theorem put_both (k : Int) : ∃ (t : ByteArray) (e : Int), (∀ w, Calls Tryd.prog 12 #[.int .i64 k] w fun r w' => r = .returned (.tuple #[.string t, .int .i64 e]) ∧ Below w.heap.size w w') ∧
    ∀ w, Calls Tryd.prog 13 #[.int .i64 k] w fun r w' => r = .returned (.tuple #[.string t, .int .i64 e]) ∧ Below w.heap.size w w' := by
  by_cases h : -4611686018427387903 ≤ k ∧ k ≤ 4611686018427387903
  · exact ⟨_, _, putInt_ok k h.1 h.2, rputInt_ok k h.1 h.2⟩
  · have h' : k < -4611686018427387903 ∨ 4611686018427387903 < k := by omega
    exact ⟨_, _, fun w => (putInt_no k h' w).mono fun e w' ⟨h1, h2⟩ => ⟨h1, h2 ▸ Below.refl _ _⟩, fun w => (rputInt_no k h' w).mono fun e w' ⟨h1, h2⟩ => ⟨h1, h2 ▸ Below.refl _ _⟩⟩
theorem intV_form (a : Nat) (o : Option (Int × Nat)) : ∃ v x e : Int, intV a o = .tuple #[.int .i64 v, .int .i64 x, .int .i64 e] := by
  rcases o with _ | ⟨v, n⟩
  · exact ⟨_, _, _, rfl⟩
  · exact ⟨_, _, _, rfl⟩
theorem strV_form (s : ByteArray) (a : Nat) (o : Option (Nat × Nat)) : ∃ (t : ByteArray) (x e : Int), strV s a o = .tuple #[.string t, .int .i64 x, .int .i64 e] := by
  rcases o with _ | ⟨v, n⟩
  · exact ⟨_, _, _, rfl⟩
  · exact ⟨_, _, _, rfl⟩
theorem int_both (s : ByteArray) (hs : s.size ≤ maxLen) (k : Int) : ∃ v x e : Int, (∀ w, Calls Tryd.prog 15 #[.string s, .int .i64 k] w fun r w' => r = .returned (.tuple #[.int .i64 v, .int .i64 x, .int .i64 e]) ∧ Below w.heap.size w w') ∧
    ∀ w, Calls Tryd.prog 16 #[.string s, .int .i64 k] w fun r w' => r = .returned (.tuple #[.int .i64 v, .int .i64 x, .int .i64 e]) ∧ Below w.heap.size w w' := by
  by_cases h : 0 ≤ k ∧ k ≤ s.size
  · obtain ⟨a, rfl⟩ := Int.eq_ofNat_of_zero_le h.1
    obtain ⟨v, x, e, hv⟩ := intV_form a (intO (s.data.toList.drop a))
    refine ⟨v, x, e, ?_, ?_⟩
    · rw [← hv]; exact fun w => (int_any s a hs (by omega) w).mono fun e w' ⟨h1, h2⟩ => ⟨h1, h2 ▸ Below.refl _ _⟩
    · rw [← hv]; exact rint_any s a hs (by omega)
  · have h' : k < 0 ∨ s.size < k := by omega
    exact ⟨_, _, _, fun w => (int_bad s k h' w).mono fun e w' ⟨h1, h2⟩ => ⟨h1, h2 ▸ Below.refl _ _⟩, fun w => (rint_bad s k h' w).mono fun e w' ⟨h1, h2⟩ => ⟨h1, h2 ▸ Below.refl _ _⟩⟩
theorem str_both (s : ByteArray) (hs : s.size ≤ maxLen) (k : Int) : ∃ (t : ByteArray) (x e : Int), (∀ w, Calls Tryd.prog 17 #[.string s, .int .i64 k] w fun r w' => r = .returned (.tuple #[.string t, .int .i64 x, .int .i64 e]) ∧ Below w.heap.size w w') ∧
    ∀ w, Calls Tryd.prog 18 #[.string s, .int .i64 k] w fun r w' => r = .returned (.tuple #[.string t, .int .i64 x, .int .i64 e]) ∧ Below w.heap.size w w' := by
  by_cases h : 0 ≤ k ∧ k ≤ s.size
  · obtain ⟨a, rfl⟩ := Int.eq_ofNat_of_zero_le h.1
    obtain ⟨v, x, e, hv⟩ := strV_form s a (strO (s.data.toList.drop a))
    refine ⟨v, x, e, ?_, ?_⟩
    · rw [← hv]; exact string_any s a hs (by omega)
    · rw [← hv]; exact rstring_any s a hs (by omega)
  · have h' : k < 0 ∨ s.size < k := by omega
    exact ⟨_, _, _, fun w => (string_bad s k h' w).mono fun e w' ⟨h1, h2⟩ => ⟨h1, h2 ▸ Below.refl _ _⟩, fun w => (rstring_bad s k h' w).mono fun e w' ⟨h1, h2⟩ => ⟨h1, h2 ▸ Below.refl _ _⟩⟩

set_option maxRecDepth 100000 in
set_option maxHeartbeats 2000000 in
theorem matches_walk (c : Int) (s : ByteArray) (a : Int) (c1 : -9223372036854775808 ≤ c) (c2 : c ≤ 9223372036854775807) (h1 : -9223372036854775808 ≤ a) (h2 : a ≤ 9223372036854775807) (w : World) (hT : Tab w) :
    Calls Tryd.prog 3 #[.int .i64 c, .string s, .int .i64 a] w fun e w' => e = .returned (.bool true) ∧ Below w.heap.size w w' := by
  obtain ⟨n, hn1, hn2, hn3⟩ := min_len s.size 300 (by decide)
  have sn : (s.extract 0 n).size = n := by rw [ByteArray.size_extract]; omega
  go_enter Tryd.func3, Tryd.ntmps3
  go_wp2_with fail
  refine (sane_any _ hT).mono ?_
  rintro e w1 ⟨rfl, hb1⟩
  go_wp2_with fail
  refine (numberFrom_any c c1 c2 _).mono ?_
  rintro e w2 ⟨rfl, hb2⟩
  have hb2 := bstep hb1 hb2
  generalize s.extract 0 n = t at *
  go_wp2_with fail
  have hb3 : Below w.heap.size w (w2.alloc (Obj.cells #[Value.int IntKind.i64 c, Value.int IntKind.i64 (numF c)] 3)) := hb2.alloc hb2.size _
  go_loopw [44] (fun i wr => ∃ k : Nat, k ≤ 2 ∧ i = .int .i64 k ∧ Below w.heap.size w wr ∧ w2.heap.size < wr.heap.size ∧ wr.cell? ⟨w2.heap.size, 0, none⟩ = some (.int .i64 c) ∧ wr.cell? ⟨w2.heap.size, 1, none⟩ = some (.int .i64 (numF c))) (fun i _ => 2 - (intOf i).toNat)
  case atStart => exact ⟨0, by omega, rfl, hb3, by simp, by simp, by simp⟩
  case round =>
    obtain ⟨k, hk, rfl, hbr, hsz, hc0, hc1⟩ := hrel
    by_cases hlt : k < 2
    · obtain ⟨q, hc⟩ : ∃ q : Int, wr.cell? ⟨w2.heap.size, k, none⟩ = some (.int .i64 q) := by
        rcases (show k = 0 ∨ k = 1 by omega) with rfl | rfl
        · exact ⟨_, hc0⟩
        · exact ⟨_, hc1⟩
      have HC0 := Lib.hid hc0; have HC1 := Lib.hid hc1; clear hc0 hc1
      obtain ⟨x, e, hp1, hp2⟩ := put_both q
      have HP1 := Lib.hid hp1; have HP2 := Lib.hid hp2; clear hp1 hp2
      go_wp2_with fail
      refine (HP1.out _).mono ?_
      rintro e w4 ⟨rfl, hb4⟩
      have hb4' := hbr.trans (hb4.mono hbr.size)
      go_wp2_with fail
      refine (HP2.out _).mono ?_
      rintro e w5 ⟨rfl, hb5⟩
      have hb5' := hb4'.trans (hb5.mono hb4'.size)
      have hz4 := hb4.size
      have hz5 := hb5.size
      have HK : ∀ j, w5.cell? ⟨w2.heap.size, j, none⟩ = wr.cell? ⟨w2.heap.size, j, none⟩ := fun j => (hb5.cell (p := ⟨w2.heap.size, j, none⟩) (by simp; omega)).trans (hb4.cell (p := ⟨w2.heap.size, j, none⟩) (by simp; omega))
      have HK0 := Lib.hid ((HK 0).trans HC0.out); have HK1 := Lib.hid ((HK 1).trans HC1.out); clear HK
      go_wp2
      go_roundw
      case rel => exact ⟨k + 1, by omega, by go_num, hb5', by omega, HK0.out, HK1.out⟩
      case measure => simp [intOf]; omega
    · clear hc0 hc1 hsz
      have hp := pickN_range a (n + 2) (by omega)
      go_wp2_with fail
      refine (pick_any a _ (by omega) (by omega) h1 h2 _).mono ?_
      rintro e w3 ⟨rfl, rfl⟩
      generalize pickN a (n + 2) = j at *
      go_wp2_with fail
      have hb6 : Below w.heap.size w (w3.alloc (Obj.cells #[Value.int IntKind.i64 a, Value.int IntKind.i64 j] 3)) := hbr.alloc hbr.size _
      go_loopw [75] (fun i wr => ∃ k : Nat, k ≤ 2 ∧ i = .int .i64 k ∧ Below w.heap.size w wr ∧ w3.heap.size < wr.heap.size ∧ wr.cell? ⟨w3.heap.size, 0, none⟩ = some (.int .i64 a) ∧ wr.cell? ⟨w3.heap.size, 1, none⟩ = some (.int .i64 j)) (fun i _ => 2 - (intOf i).toNat)
      case atStart => exact ⟨0, by omega, rfl, hb6, by simp, by simp, by simp⟩
      case round =>
        obtain ⟨k, hk, rfl, hbr, hsz, hc0, hc1⟩ := hrel
        by_cases hlt : k < 2
        · obtain ⟨q, hc⟩ : ∃ q : Int, wr.cell? ⟨w3.heap.size, k, none⟩ = some (.int .i64 q) := by
            rcases (show k = 0 ∨ k = 1 by omega) with rfl | rfl
            · exact ⟨_, hc0⟩
            · exact ⟨_, hc1⟩
          have HC0 := Lib.hid hc0; have HC1 := Lib.hid hc1; clear hc0 hc1
          obtain ⟨v1, x1, e1, hi1, hi2⟩ := int_both t (by unfold maxLen; omega) q
          obtain ⟨v2, x2, e2, hs1, hs2⟩ := str_both t (by unfold maxLen; omega) q
          have HI1 := Lib.hid hi1; have HI2 := Lib.hid hi2; have HS1 := Lib.hid hs1; have HS2 := Lib.hid hs2; clear hi1 hi2 hs1 hs2
          go_wp2_with fail
          refine (HI1.out _).mono ?_
          rintro e w4 ⟨rfl, hb4⟩
          have hb4' := hbr.trans (hb4.mono hbr.size)
          go_wp2_with fail
          refine (HI2.out _).mono ?_
          rintro e w5 ⟨rfl, hb5⟩
          have hb5' := hb4'.trans (hb5.mono hb4'.size)
          go_wp2_with fail
          refine (HS1.out _).mono ?_
          rintro e w6 ⟨rfl, hb6⟩
          have hb6' := hb5'.trans (hb6.mono hb5'.size)
          go_wp2_with fail
          refine (HS2.out _).mono ?_
          rintro e w7 ⟨rfl, hb7⟩
          have hb7' := hb6'.trans (hb7.mono hb6'.size)
          have hz4 := hb4.size
          have hz5 := hb5.size
          have hz6 := hb6.size
          have hz7 := hb7.size
          have HK : ∀ j, w7.cell? ⟨w3.heap.size, j, none⟩ = wr.cell? ⟨w3.heap.size, j, none⟩ := fun j =>
            (hb7.cell (p := ⟨w3.heap.size, j, none⟩) (by simp; omega)).trans ((hb6.cell (p := ⟨w3.heap.size, j, none⟩) (by simp; omega)).trans ((hb5.cell (p := ⟨w3.heap.size, j, none⟩) (by simp; omega)).trans (hb4.cell (p := ⟨w3.heap.size, j, none⟩) (by simp; omega))))
          have HK0 := Lib.hid ((HK 0).trans HC0.out); have HK1 := Lib.hid ((HK 1).trans HC1.out); clear HK
          go_wp2
          go_roundw
          case rel => exact ⟨k + 1, by omega, by go_num, hb7', by omega, HK0.out, HK1.out⟩
          case measure => simp [intOf]; omega
        · have hp1 := putString_ok t (by omega)
          have hp2 := rputString_ok t (by omega)
          have HP1 := Lib.hid hp1; have HP2 := Lib.hid hp2; clear hp1 hp2 hc0 hc1
          go_wp2_with fail
          refine (HP1.out _).mono ?_
          rintro e w4 ⟨rfl, hb4⟩
          have hb4' := hbr.trans (hb4.mono hbr.size)
          go_wp2_with fail
          refine (HP2.out _).mono ?_
          rintro e w5 ⟨rfl, hb5⟩
          have hb5' := hb4'.trans (hb5.mono hb4'.size)
          have hT5 := hT.below hb5' hT.1
          go_wp2_with fail
          refine (sum_any t (by unfold maxLen; omega) _ hT5).mono ?_
          rintro e w6 ⟨rfl, hw⟩
          have hw' := hw.symm; clear hw; subst hw'
          go_wp2_with fail
          refine (rsum_any t (by unfold maxLen; omega) _).mono ?_
          rintro e w6 ⟨rfl, hw⟩
          have hw' := hw.symm; clear hw; subst hw'
          go_wp2
          go_ret
          exact ⟨rfl, hb5'⟩
end Go.Proofs.YtkpjdbfmcelddaaDoor
