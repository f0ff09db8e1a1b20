/- The leaves of the orbit: around, minutes, delays, picked numbers, validity. -/
import Derived.Test.YtdomgielpofbhaaBs
namespace Go.Proofs.Ytdomgielpofbhaa
open Go.RowKit Go.Shelf
set_option linter.unusedSimpArgs false
set_option linter.unusedVariables false
theorem tm_pos {z q : Int} (q0 : 0 < q) (h : 0 ≤ z.tmod q) : z.tmod q = z % q := by
  have h1 := Int.emod_nonneg z (show q ≠ 0 by omega)
  have h2 := Int.emod_lt_of_pos z q0
  rw [Int.tmod_eq_emod] at h ⊢
  split at h
  · rename_i hc; rw [if_pos hc]; omega
  · rename_i hc
    rw [if_neg hc]
    omega
theorem tm_neg {z q : Int} (q0 : 0 < q) (q1 : q ≤ 2000000000) (h : z.tmod q < 0) : wrap64 (z.tmod q + q) = z % q := by
  have h1 := Int.emod_nonneg z (show q ≠ 0 by omega)
  have h2 := Int.emod_lt_of_pos z q0
  rw [Int.tmod_eq_emod] at h ⊢
  split at h
  · rename_i hc; omega
  · rename_i hc
    rw [if_neg hc, wrap64]
    omega
theorem around_any (z q : Int) (h0 : -9223372036854775808 ≤ z) (h1 : z ≤ 9223372036854775807) (q0 : 0 < q) (q1 : q ≤ 2000000000) (w : World) :
    Calls Try.prog 46 #[.int .i64 z, .int .i64 q] w fun e w' => e = .returned (.int .i64 (z % q)) ∧ w = w' := by
  go_enter Try.func46, Try.ntmps46
  go_wp2
  all_goals
    rename_i hs
    go_ret
    first
      | exact ⟨ret_int' (tm_neg q0 q1 hs), rfl⟩
      | exact ⟨ret_int' (tm_pos q0 hs), rfl⟩
theorem aroundm_any (z q : Int) (h0 : -9223372036854775808 ≤ z) (h1 : z ≤ 9223372036854775807) (q0 : 0 < q) (q1 : q ≤ 2000000000) (w : World) :
    Calls Try.prog 53 #[.int .i64 z, .int .i64 q] w fun e w' => e = .returned (.int .i64 (z % q)) ∧ w = w' := by
  go_enter Try.func53, Try.ntmps53
  go_wp2
  all_goals
    rename_i hs
    go_ret
    first
      | exact ⟨ret_int' (tm_neg q0 q1 hs), rfl⟩
      | exact ⟨ret_int' (tm_pos q0 hs), rfl⟩
theorem raround_any (z q : Int) (h0 : -9223372036854775808 ≤ z) (h1 : z ≤ 9223372036854775807) (q0 : 0 < q) (q1 : q ≤ 2000000000) (w : World) :
    Calls Try.prog 34 #[.int .i64 z, .int .i64 q] w fun e w' => e = .returned (.int .i64 (z % q)) ∧ w = w' := by
  go_enter Try.func34, Try.ntmps34
  go_wp2
  all_goals
    rename_i hs
    go_ret
    first
      | exact ⟨ret_int' (tm_neg q0 q1 hs), rfl⟩
      | exact ⟨ret_int' (tm_pos q0 hs), rfl⟩
theorem laround_any (z q : Int) (h0 : -9223372036854775808 ≤ z) (h1 : z ≤ 9223372036854775807) (q0 : 0 < q) (q1 : q ≤ 2000000000) (w : World) :
    Calls Try.prog 28 #[.int .i64 z, .int .i64 q] w fun e w' => e = .returned (.int .i64 (z % q)) ∧ w = w' := by
  go_enter Try.func28, Try.ntmps28
  go_wp2
  all_goals
    rename_i hs
    go_ret
    first
      | exact ⟨ret_int' (tm_neg q0 q1 hs), rfl⟩
      | exact ⟨ret_int' (tm_pos q0 hs), rfl⟩
/-- A minute, a delay. -/
def isMin (t : Int) : Bool := decide (0 ≤ t ∧ t ≤ 1000000)
theorem isMin_iff {t : Int} : isMin t = true ↔ 0 ≤ t ∧ t ≤ 1000000 := by unfold isMin; simp
def isDel (t : Int) : Bool := decide (-10 ≤ t ∧ t ≤ 10)
theorem isDel_iff {t : Int} : isDel t = true ↔ -10 ≤ t ∧ t ≤ 10 := by unfold isDel; simp
def isIn (n a b : Int) : Bool := decide (a ≤ n ∧ n ≤ b)
theorem isIn_iff {n a b : Int} : isIn n a b = true ↔ a ≤ n ∧ n ≤ b := by unfold isIn; simp
theorem isMinute_any (t : Int) (w : World) :
    Calls Try.prog 38 #[.int .i64 t] w fun e w' => e = .returned (.bool (isMin t)) ∧ w = w' := by
  go_enter Try.func38, Try.ntmps38
  go_wp2
  all_goals
    go_ret
    exact ⟨ret_bool' (Bool.eq_iff_iff.2 (by unfold isMin; simp only [decide_eq_true_eq, Bool.false_eq_true, true_iff, false_iff]; omega)), rfl⟩
theorem isDelay_any (t : Int) (w : World) :
    Calls Try.prog 44 #[.int .i64 t] w fun e w' => e = .returned (.bool (isDel t)) ∧ w = w' := by
  go_enter Try.func44, Try.ntmps44
  go_wp2
  all_goals
    go_ret
    exact ⟨ret_bool' (Bool.eq_iff_iff.2 (by unfold isDel; simp only [decide_eq_true_eq, Bool.false_eq_true, true_iff, false_iff]; omega)), rfl⟩
theorem in_any (n a b : Int) (w : World) :
    Calls Try.prog 30 #[.int .i64 n, .int .i64 a, .int .i64 b] w fun e w' => e = .returned (.bool (isIn n a b)) ∧ w = w' := by
  go_enter Try.func30, Try.ntmps30
  go_wp2
  all_goals
    go_ret
    exact ⟨ret_bool' (Bool.eq_iff_iff.2 (by unfold isIn; simp only [decide_eq_true_eq, Bool.false_eq_true, true_iff, false_iff]; omega)), rfl⟩
/-- What pick makes of a number. -/
def pickZ (c : Int) (n : Nat) : Nat := ((if c < 0 then -(c + 1) else c) % (n : Int)).toNat
theorem pickZ_lt (c : Int) {n : Nat} (hn : 0 < n) : pickZ c n < n := by
  unfold pickZ
  have h1 := Int.emod_nonneg (if c < 0 then -(c + 1) else c) (show (n : Int) ≠ 0 by omega)
  have h2 := Int.emod_lt_of_pos (if c < 0 then -(c + 1) else c) (show (0 : Int) < n by omega)
  omega
set_option maxHeartbeats 400000 in
theorem rpick_any (c : Int) (h0 : -9223372036854775808 ≤ c) (h1 : c ≤ 9223372036854775807) (n : Nat) (hn : 0 < n) (hn2 : n ≤ 2000000000) (N : Int) (hN : N = (n : Int)) (w : World) :
    Calls Try.prog 29 #[.int .i64 c, .int .i64 N] w fun e w' => e = .returned (.int .i64 (pickZ c n : Nat)) ∧ w = w' := by
  subst hN
  by_cases hc : c < 0
  · have hp : pickZ c n = (-(c + 1) % (n : Int)).toNat := by unfold pickZ; rw [if_pos hc]
    rw [hp]
    obtain ⟨d, hd⟩ : ∃ d, -(c + 1) = d := ⟨_, rfl⟩
    have hd0 : 0 ≤ d ∧ d ≤ 9223372036854775807 := by omega
    have hm0 := Int.emod_nonneg d (show (n : Int) ≠ 0 by omega)
    have hm1 := Int.emod_lt_of_pos d (show (0 : Int) < n by omega)
    obtain ⟨r, hr⟩ := Int.eq_ofNat_of_zero_le hm0
    have HR := Lib.hid hr
    rw [hr] at hm1
    go_enter Try.func29, Try.ntmps29
    go_wp2
    go_ret
    refine ⟨?_, rfl⟩
    have h := HR.out
    first
      | (rw [hd, h]; rfl)
      | (rw [h]; rfl)
  · have hp : pickZ c n = (c % (n : Int)).toNat := by unfold pickZ; rw [if_neg hc]
    rw [hp]
    have hc0 : 0 ≤ c := by omega
    have hm0 := Int.emod_nonneg c (show (n : Int) ≠ 0 by omega)
    have hm1 := Int.emod_lt_of_pos c (show (0 : Int) < n by omega)
    obtain ⟨r, hr⟩ := Int.eq_ofNat_of_zero_le hm0
    have HR := Lib.hid hr
    rw [hr] at hm1
    go_enter Try.func29, Try.ntmps29
    go_wp2
    go_ret
    refine ⟨?_, rfl⟩
    have h := HR.out
    first
      | rfl
      | (rw [h]; rfl)
set_option maxHeartbeats 400000 in
theorem lpick_any (c : Int) (h0 : -9223372036854775808 ≤ c) (h1 : c ≤ 9223372036854775807) (n : Nat) (hn : 0 < n) (hn2 : n ≤ 2000000000) (N : Int) (hN : N = (n : Int)) (w : World) :
    Calls Try.prog 14 #[.int .i64 c, .int .i64 N] w fun e w' => e = .returned (.int .i64 (pickZ c n : Nat)) ∧ w = w' := by
  subst hN
  by_cases hc : c < 0
  · have hp : pickZ c n = (-(c + 1) % (n : Int)).toNat := by unfold pickZ; rw [if_pos hc]
    rw [hp]
    obtain ⟨d, hd⟩ : ∃ d, -(c + 1) = d := ⟨_, rfl⟩
    have hd0 : 0 ≤ d ∧ d ≤ 9223372036854775807 := by omega
    have hm0 := Int.emod_nonneg d (show (n : Int) ≠ 0 by omega)
    have hm1 := Int.emod_lt_of_pos d (show (0 : Int) < n by omega)
    obtain ⟨r, hr⟩ := Int.eq_ofNat_of_zero_le hm0
    have HR := Lib.hid hr
    rw [hr] at hm1
    go_enter Try.func14, Try.ntmps14
    go_wp2
    go_ret
    refine ⟨?_, rfl⟩
    have h := HR.out
    first
      | (rw [hd, h]; rfl)
      | (rw [h]; rfl)
  · have hp : pickZ c n = (c % (n : Int)).toNat := by unfold pickZ; rw [if_neg hc]
    rw [hp]
    have hc0 : 0 ≤ c := by omega
    have hm0 := Int.emod_nonneg c (show (n : Int) ≠ 0 by omega)
    have hm1 := Int.emod_lt_of_pos c (show (0 : Int) < n by omega)
    obtain ⟨r, hr⟩ := Int.eq_ofNat_of_zero_le hm0
    have HR := Lib.hid hr
    rw [hr] at hm1
    go_enter Try.func14, Try.ntmps14
    go_wp2
    go_ret
    refine ⟨?_, rfl⟩
    have h := HR.out
    first
      | rfl
      | (rw [h]; rfl)
end Go.Proofs.Ytdomgielpofbhaa
