/- The reference's Int and String, walked. -/
import Derived.Test.YtkpjdbfmcelddaaDoorRefB
import Derived.Test.YtkpjdbfmcelddaaDoorUniqW
namespace Go.Proofs.YtkpjdbfmcelddaaDoor
open Go.RowKit

theorem rint_bad (s : ByteArray) (a : Int) (h : a < 0 ∨ s.size < a) (w : World) :
    Calls Tryd.prog 16 #[.string s, .int .i64 a] w fun e w' => e = .returned (.tuple #[.int .i64 0, .int .i64 0, .int .i64 2]) ∧ w' = w := by
  by_cases h1 : a < 0
  · go_enter Tryd.func16, Tryd.ntmps16
    go_wp2
    go_ret3
    exact ⟨rfl, rfl⟩
  · have h2 : s.size < a := by omega
    clear h
    go_enter Tryd.func16, Tryd.ntmps16
    go_wp2
    go_ret3
    exact ⟨rfl, rfl⟩

theorem wrap_group (z k b z' : Nat) (hz : z < 2 ^ (7 * k)) (hk : k < 9) (h : z + b % 128 * 2 ^ (7 * k) = z') :
    IntKind.u64.wrap ((z : Int) + IntKind.u64.wrap ((b : Int) % 128 * 2 ^ (7 * k))) = (z' : Int) := by
  have hp : 2 ^ (7 * k) ≤ 2 ^ 56 := Nat.pow_le_pow_right (by decide) (by omega)
  have hm : b % 128 * 2 ^ (7 * k) ≤ 127 * 2 ^ 56 := Nat.mul_le_mul (by omega) hp
  have hc : ((b : Int) % 128) * 2 ^ (7 * k) = ((b % 128 * 2 ^ (7 * k) : Nat) : Int) := by
    rw [Int.natCast_mul, Int.natCast_pow]; rfl
  rw [hc, IntKind.wrap_u64, IntKind.wrap_u64]
  omega

theorem ret_int (s : ByteArray) (a n : Nat) (v x y : Int) (h : intO (s.data.toList.drop a) = some (v, n)) (hx : x = v) (hy : y = (a + n : Nat)) :
    Ending.returned (.tuple #[.int .i64 x, .int .i64 y, .int .i64 0]) = Ending.returned (intV a (intO (s.data.toList.drop a))) := by rw [h, hx, hy]; rfl

set_option maxRecDepth 100000 in
set_option maxHeartbeats 2000000 in
theorem rint_any (s : ByteArray) (a : Nat) (hs : s.size ≤ maxLen) (ha : a ≤ s.size) (w : World) :
    Calls Tryd.prog 16 #[.string s, .int .i64 a] w fun e w' => e = .returned (intV a (intO (s.data.toList.drop a))) ∧ Below w.heap.size w w' := by
  unfold maxLen at hs
  have hda : decide (s.size < a) = false := decide_eq_false (by omega)
  have hda2 : decide ((a : Int) < 0) = false := decide_eq_false (by omega)
  go_enter Tryd.func16, Tryd.ntmps16
  go_wp2_with fail
  go_loop [7, 8] (fun zv iv => ∃ k z : Nat, k ≤ 9 ∧ a + k ≤ s.size ∧ z < 2 ^ (7 * k) ∧ zv = .int .u64 z ∧ iv = .int .i64 k ∧ dec 9 0 0 (s.data.toList.drop a) = dec (9 - k) k z (s.data.toList.drop (a + k))) (fun _ i => 9 - (intOf i).toNat)
  case atStart => exact ⟨0, 0, by omega, by omega, by simp, rfl, rfl, rfl⟩
  case round =>
    obtain ⟨k, z, hk9, hka, hz, rfl, rfl, hd⟩ := hrel
    have HD := Lib.hid hd
    clear hd
    by_cases hk : k < 9 ∧ a + k < s.size
    · obtain ⟨hk1, hk2⟩ := hk
      have hp : 2 ^ (7 * k) ≤ 2 ^ 56 := Nat.pow_le_pow_right (by decide) (by omega)
      have hzb : z < 72057594037927936 := by omega
      obtain ⟨b, hb⟩ : ∃ b : Nat, s[a + k].toNat = b := ⟨_, rfl⟩
      have hb256 : b < 256 := by rw [← hb]; exact UInt8.toNat_lt _
      obtain ⟨z', hz', hzl⟩ : ∃ z' : Nat, z + b % 128 * 2 ^ (7 * k) = z' ∧ z' < 2 ^ (7 * (k + 1)) := ⟨_, rfl, by
        rw [show 7 * (k + 1) = 7 * k + 7 from by omega, Nat.pow_add]
        have : b % 128 * 2 ^ (7 * k) ≤ 127 * 2 ^ (7 * k) := Nat.mul_le_mul_right _ (by omega)
        omega⟩
      have hzb' : z' < 9223372036854775808 := Nat.lt_of_lt_of_le hzl (Nat.pow_le_pow_right (n := 2) (by decide) (show 7 * (k + 1) ≤ 63 by omega))
      have hW := wrap_group z k b z' hz hk1 hz'
      have HS := Lib.hid (drop_at s (a + k) hk2)
      have HF := Lib.hid (show 9 - k = (9 - (k + 1)) + 1 by omega)
      have HB := Lib.hid hb
      have HZ := Lib.hid hz'; clear hz'
      by_cases hb128 : 128 ≤ b
      · have HN := Lib.hid (show dec 9 0 0 (s.data.toList.drop a) = dec (9 - (k + 1)) (k + 1) z' (s.data.toList.drop (a + (k + 1))) by
          rw [HD.out, HS.out, HF.out, dec_go _ _ _ _ _ (by rw [HB.out]; exact hb128), HB.out, HZ.out]; rfl)
        go_wp2_with fail
        go_round
        case rel => exact ⟨k + 1, z', by omega, by omega, hzl, rfl, by go_num, HN.out⟩
        case measure => simp [intOf]; omega
      · have HN := Lib.hid (show dec 9 0 0 (s.data.toList.drop a) = some (z', k + 1, !(b == 0 && decide (0 < k))) by
          rw [HD.out, HS.out, HF.out, dec_stop _ _ _ _ _ (by rw [HB.out]; omega), HB.out, HZ.out])
        by_cases hbig : z' = 9223372036854775807
        · have HR := Lib.hid (show intO (s.data.toList.drop a) = none by
            unfold intO; rw [HN.out]
            cases (!(b == 0 && decide (0 < k)))
            · rfl
            · simp only; rw [if_neg (by omega)])
          have ho : ((z' : Int) % 2 == 1) = true := beq_iff_eq.2 (by omega)
          have hbi : (z' : Int) = 9223372036854775807 := by omega
          clear hbig
          go_wp2_with fail
          refine (rputInt_no _ (by omega) _).mono ?_
          rintro e w1 ⟨rfl, rfl⟩
          go_wp2
          go_ret3
          exact ⟨by rw [HR.out]; rfl, Below.refl _ _⟩
        · have hzs : z' ≤ 9223372036854775806 := by omega
          have hur := unzig_range z' hzs
          have hpi := rputInt_ok (unzig z') hur.1 hur.2
          rw [zig_unzig] at hpi
          have HPI := Lib.hid hpi; clear hpi
          have hdec := HN.out
          by_cases hfl : b = 0 ∧ 0 < k
          · have HR := Lib.hid (show intO (s.data.toList.drop a) = none by
              unfold intO; rw [HN.out, show (!(b == 0 && decide (0 < k))) = false by simp [hfl.1, hfl.2]])
            have hq : (enc z' == (s.extract a (a + k + 1)).toList) = false := by
              rw [beq_eq_false_iff_ne, Lib.toList_data, Lib.extract_data, show a + k + 1 - a = k + 1 by omega]
              intro e
              have e2 := List.take_append_drop (k + 1) (s.data.toList.drop a)
              rw [← e] at e2
              have h3 := dec_enc z' hzb' (List.drop (k + 1) (List.drop a s.data.toList))
              rw [e2, HN.out] at h3
              simp [hfl.1, hfl.2] at h3
            clear hfl hdec hbig
            by_cases hpar : z' % 2 = 1
            · have ho : ((z' : Int) % 2 == 1) = true := beq_iff_eq.2 (by omega)
              have HU := Lib.hid (show (-((z' : Int) / 2) - 1) = unzig z' by unfold unzig; rw [if_pos hpar]; omega)
              clear hpar
              go_wp2_with fail
              rw [HU.out]
              refine (HPI.out _).mono ?_
              rintro e w1 ⟨rfl, hb1⟩
              go_wp2
              go_ret3
              exact ⟨by rw [HR.out]; rfl, hb1⟩
            · have ho : ((z' : Int) % 2 == 1) = false := beq_eq_false_iff_ne.2 (by omega)
              have HU := Lib.hid (show ((z' : Int) / 2) = unzig z' by unfold unzig; rw [if_neg hpar]; omega)
              clear hpar
              go_wp2_with fail
              rw [HU.out]
              refine (HPI.out _).mono ?_
              rintro e w1 ⟨rfl, hb1⟩
              go_wp2
              go_ret3
              exact ⟨by rw [HR.out]; rfl, hb1⟩
          · have hfb : (!(b == 0 && decide (0 < k))) = true := by
              rcases Nat.eq_zero_or_pos b with h0 | h0
              · have : ¬ 0 < k := fun h => hfl ⟨h0, h⟩
                simp [this]
              · simp; omega
            rw [hfb] at hdec
            have HR := Lib.hid (show intO (s.data.toList.drop a) = some (unzig z', k + 1) by
              unfold intO; rw [hdec]; simp only [if_pos hzs])
            have hq : (enc z' == (s.extract a (a + k + 1)).toList) = true := by
              rw [beq_iff_eq, Lib.toList_data, Lib.extract_data, show a + k + 1 - a = k + 1 by omega]
              exact (enc_dec z' (k + 1) _ hdec).1.symm
            clear hfl hdec hbig hfb
            by_cases hpar : z' % 2 = 1
            · have ho : ((z' : Int) % 2 == 1) = true := beq_iff_eq.2 (by omega)
              have HU := Lib.hid (show (-((z' : Int) / 2) - 1) = unzig z' by unfold unzig; rw [if_pos hpar]; omega)
              clear hpar
              go_wp2_with fail
              rw [HU.out]
              refine (HPI.out _).mono ?_
              rintro e w1 ⟨rfl, hb1⟩
              go_wp2
              go_ret3
              exact ⟨ret_int s a (k + 1) _ _ _ HR.out rfl (by omega), hb1⟩
            · have ho : ((z' : Int) % 2 == 1) = false := beq_eq_false_iff_ne.2 (by omega)
              have HU := Lib.hid (show ((z' : Int) / 2) = unzig z' by unfold unzig; rw [if_neg hpar]; omega)
              clear hpar
              go_wp2_with fail
              rw [HU.out]
              refine (HPI.out _).mono ?_
              rintro e w1 ⟨rfl, hb1⟩
              go_wp2
              go_ret3
              exact ⟨ret_int s a (k + 1) _ _ _ HR.out rfl (by omega), hb1⟩
    · have HE := Lib.hid (show intO (s.data.toList.drop a) = none by
        unfold intO
        rw [HD.out]
        by_cases h9 : k = 9
        · subst h9; rfl
        · rw [List.drop_eq_nil_of_le (by rw [← size_list]; omega), show 9 - k = (8 - k) + 1 from by omega]; rfl)
      go_wp2
      all_goals
        go_ret3
        exact ⟨by rw [HE.out]; rfl, Below.refl _ _⟩

theorem rstring_bad (s : ByteArray) (a : Int) (h : a < 0 ∨ s.size < a) (w : World) :
    Calls Tryd.prog 18 #[.string s, .int .i64 a] w fun e w' => e = .returned (.tuple #[.string ⟨#[]⟩, .int .i64 0, .int .i64 2]) ∧ w' = w := by
  go_enter Tryd.func18, Tryd.ntmps18
  go_wp2_with (go_at_call 16; refine (rint_bad s a h _).mono ?_; rintro e w' ⟨rfl, rfl⟩)
  go_ret3
  exact ⟨rfl, rfl⟩

set_option maxHeartbeats 800000 in
theorem rstring_any (s : ByteArray) (a : Nat) (hs : s.size ≤ maxLen) (ha : a ≤ s.size) (w : World) :
    Calls Tryd.prog 18 #[.string s, .int .i64 a] w fun e w' => e = .returned (strV s a (strO (s.data.toList.drop a))) ∧ Below w.heap.size w w' := by
  have hj := rint_any s a hs ha
  have hlen : (s.data.toList.drop a).length = s.size - a := by rw [List.length_drop, ← size_list]
  unfold strO
  rcases hd : intO (s.data.toList.drop a) with _ | ⟨v, n⟩
  · rw [hd] at hj
    dsimp only [intV] at hj
    have HJ := Lib.hid hj; clear hj hd hlen
    go_enter Tryd.func18, Tryd.ntmps18
    go_wp2_with (go_at_call 16; refine (HJ.out _).mono ?_; rintro e w' ⟨rfl, hb⟩)
    go_ret3
    exact ⟨rfl, hb⟩
  · rw [hd] at hj
    dsimp only [intV] at hj
    obtain ⟨hn0, hn1, hn2, hv1, hv2⟩ := intO_bound _ _ _ hd
    unfold maxLen at hs
    rw [hlen] at hn1
    simp only [hlen]
    have HJ := Lib.hid hj; clear hj hd hlen
    by_cases hv : 0 ≤ v ∧ v ≤ 65536 ∧ v ≤ (s.size - a - n : Nat)
    · obtain ⟨h1, h2, h3⟩ := hv
      simp only [if_pos (show 0 ≤ v ∧ v ≤ 65536 ∧ v ≤ (s.size - a - n : Nat) from ⟨h1, h2, h3⟩)]
      obtain ⟨k, rfl⟩ := Int.eq_ofNat_of_zero_le h1
      simp only [Int.toNat_natCast]
      go_enter Tryd.func18, Tryd.ntmps18
      go_wp2_with (go_at_call 16; refine (HJ.out _).mono ?_; rintro e w1 ⟨rfl, hb⟩)
      go_ret3
      exact ⟨ret_str _ _ _ _ _ (by rw [Nat.add_assoc]) (by omega), hb⟩
    · simp only [if_neg hv]
      go_enter Tryd.func18, Tryd.ntmps18
      go_wp2_with (go_at_call 16; refine (HJ.out _).mono ?_; rintro e w1 ⟨rfl, hb⟩)
      all_goals (go_ret3; exact ⟨rfl, hb⟩)
end Go.Proofs.YtkpjdbfmcelddaaDoor
