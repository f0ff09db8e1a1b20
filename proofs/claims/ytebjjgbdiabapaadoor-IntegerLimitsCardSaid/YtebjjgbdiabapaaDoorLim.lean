/- Powers of ten and their texts; nines and pick, walked. -/
import Derived.Test.YtebjjgbdiabapaaDoorOrdW
namespace Go.Proofs.YtebjjgbdiabapaaDoor
open Go.RowKit

def ninesL (n : Nat) : List UInt8 := List.replicate n 57
theorem digN_nines (n : Nat) : digN (ninesL n) = List.replicate n 9 := by
  unfold digN ninesL
  rw [List.reverse_replicate, List.map_replicate]
  rfl
theorem vz_nines : ∀ n : Nat, vz 10 (List.replicate n 9) = ((10 ^ n - 1 : Nat) : Int)
  | 0 => rfl
  | n + 1 => by
    have h := Nat.pow_pos (n := n) (show 0 < 10 by decide)
    rw [List.replicate_succ, vz, vz_nines n, Nat.pow_succ]
    omega
theorem nines_all (n : Nat) : (ninesL n).all isD = true := by
  rw [List.all_eq_true]
  intro c hc
  rw [(List.mem_replicate.1 hc).2]
  decide
def nine (n : Nat) : Int := ((10 ^ n - 1 : Nat) : Int)
theorem str_nine (n : Nat) (h : 0 < n) : (⟨(ninesL n).toArray⟩ : ByteArray) = str (nine n) := by
  unfold nine
  rw [str_nat]
  have h1 := txt_of (ninesL n) (nines_all n) (by unfold ninesL; intro e; have := congrArg List.length e; simp at this; omega) (by
    left
    obtain ⟨k, rfl⟩ : ∃ k, n = k + 1 := ⟨n - 1, by omega⟩
    unfold ninesL
    rw [List.replicate_succ]
    simp)
  rw [digN_nines, vz_nines, Int.toNat_natCast] at h1
  rw [h1]
def two (n : Nat) : Int := ((2 * 10 ^ n - 1 : Nat) : Int)
theorem str_two (n : Nat) : (⟨(49 :: ninesL n).toArray⟩ : ByteArray) = str (two n) := by
  unfold two
  rw [str_nat]
  have h1 := txt_of (49 :: ninesL n) (by rw [List.all_cons, nines_all n]; decide) (by simp) (.inl (by simp))
  have e : digN (49 :: ninesL n) = digN (ninesL n) ++ [1] := by unfold digN; simp
  have hp := Nat.pow_pos (n := n) (show 0 < 10 by decide)
  rw [e, digN_nines, vz_append, vt_eq, vz_nines, List.length_replicate] at h1
  have e2 : (((10 ^ n - 1 : Nat) : Int) + 10 ^ n * vz 10 [1]).toNat = 2 * 10 ^ n - 1 := by
    have e3 : vz 10 [1] = 1 := rfl
    have e4 : (10 : Int) ^ n = ((10 ^ n : Nat) : Int) := by rw [Int.natCast_pow]; rfl
    rw [e3, e4]; omega
  rw [e2] at h1
  rw [h1]
def one (m : Nat) : Int := ((10 ^ m : Nat) : Int)
theorem nine_one (m : Nat) : nine m + 1 = one m := by
  have hp := Nat.pow_pos (n := m) (show 0 < 10 by decide)
  unfold nine one; omega
theorem one_zero : one 0 = 0 + 1 := rfl
theorem big_nine {m : Nat} (h : m ≤ 200) : Big (nine m) := by
  have hp := Nat.pow_pos (n := m) (show 0 < 10 by decide)
  have h2 : 10 ^ m ≤ 10 ^ 200 := Nat.pow_le_pow_right (by decide) h
  unfold Big nine
  generalize 10 ^ 200 = T at *
  omega
theorem big_one {m : Nat} (h : m < 200) : Big (one m) := by
  have h2 : 10 ^ m < 10 ^ 200 := Nat.pow_lt_pow_right (by decide) h
  unfold Big one
  rw [Int.natAbs_natCast]
  exact h2
theorem big_two {n : Nat} (h : n < 200) : Big (two n) := by
  have hp := Nat.pow_pos (n := n) (show 0 < 10 by decide)
  have h2 : 10 ^ (n + 1) ≤ 10 ^ 200 := Nat.pow_le_pow_right (by decide) h
  rw [Nat.pow_succ] at h2
  unfold Big two
  generalize 10 ^ 200 = T at *
  omega
theorem prod_nat (m n : Nat) : (one m * two n).natAbs = 10 ^ m * (2 * 10 ^ n - 1) := by
  unfold one two
  rw [Int.natAbs_mul]; rfl
theorem prod_bounds (m n : Nat) : 10 ^ (m + n) ≤ 10 ^ m * (2 * 10 ^ n - 1) ∧ 10 ^ m * (2 * 10 ^ n - 1) < 10 ^ (m + n + 1) := by
  have hp := Nat.pow_pos (n := n) (show 0 < 10 by decide)
  have hm := Nat.pow_pos (n := m) (show 0 < 10 by decide)
  rw [Nat.pow_succ, Nat.pow_add, Nat.mul_assoc]
  exact ⟨Nat.mul_le_mul_left _ (by omega), Nat.mul_lt_mul_of_pos_left (by omega) hm⟩
theorem big_prod {m n : Nat} : Big (one m * two n) ↔ m + n < 200 := by
  obtain ⟨h1, h2⟩ := prod_bounds m n
  unfold Big
  rw [prod_nat]
  constructor
  · intro h
    by_cases hlt : m + n < 200
    · exact hlt
    · have : 10 ^ 200 ≤ 10 ^ (m + n) := Nat.pow_le_pow_right (by decide) (by omega)
      generalize 10 ^ 200 = T at *
      omega
  · intro h
    have : 10 ^ (m + n + 1) ≤ 10 ^ 200 := Nat.pow_le_pow_right (by decide) h
    generalize 10 ^ 200 = T at *
    omega
theorem size_prod (m n : Nat) : (str (one m * two n)).size = m + n + 1 := by
  obtain ⟨h1, h2⟩ := prod_bounds m n
  have h0 : 0 ≤ one m * two n := Int.mul_nonneg (Int.natCast_nonneg _) (Int.natCast_nonneg _)
  have e : (str (one m * two n)).size = (shw (one m * two n)).length := by rw [← str_data]; rfl
  rw [e]
  unfold shw
  rw [if_neg (by omega), prod_nat]
  have hne : 10 ^ m * (2 * 10 ^ n - 1) ≠ 0 := by
    have := Nat.pow_pos (n := m + n) (show 0 < 10 by decide); omega
  have hl : (txt (10 ^ m * (2 * 10 ^ n - 1))).length ≤ m + n + 1 := (txt_length _ _ (by omega)).2 h2
  have hg : ¬ (dz 10 (10 ^ m * (2 * 10 ^ n - 1))).length ≤ m + n := fun h => by
    have := (dz_length_iff 10 (by decide) _ _).1 h; omega
  have e2 : (txt (10 ^ m * (2 * 10 ^ n - 1))).length = (dz 10 (10 ^ m * (2 * 10 ^ n - 1))).length := by
    unfold txt; rw [if_neg hne, txtD_length]
  omega
def top : Int := nine 200
theorem big_top : Big top := big_nine (Nat.le_refl _)
theorem pow5 : 10 ^ 5 ≤ 10 ^ 200 := Nat.pow_le_pow_right (by decide) (by decide)
theorem top_nat : top = ((10 ^ 200 - 1 : Nat) : Int) := rfl
theorem top_add {X : Int} (hX : Sm 5 X) : Big (top + X) ↔ X ≤ 0 := by
  have hp := pow5
  have h5 : (10 : Nat) ^ 5 = 100000 := by decide
  unfold Sm at hX
  unfold Big
  rw [top_nat]
  generalize 10 ^ 200 = T at *
  omega
theorem top_sub {X : Int} (hX : Sm 5 X) : Big (-top - X) ↔ X ≤ 0 := by
  have hp := pow5
  have h5 : (10 : Nat) ^ 5 = 100000 := by decide
  unfold Sm at hX
  unfold Big
  rw [top_nat]
  generalize 10 ^ 200 = T at *
  omega
theorem big_neg {z : Int} (h : Big z) : Big (-z) := by unfold Big at *; rw [Int.natAbs_neg]; exact h
theorem top_pos : 0 < top := by
  rw [top_nat]
  have hp := pow5
  have h5 : (10 : Nat) ^ 5 = 100000 := by decide
  generalize 10 ^ 200 = T at *
  omega
theorem minus_str {z : Int} (h : 0 < z) : (⟨#[45]⟩ : ByteArray) ++ str z = str (-z) := by
  unfold str
  rw [minus_app]
  have e1 : shw z = txt z.natAbs := by unfold shw; rw [if_neg (by omega)]
  have e2 : shw (-z) = 45 :: txt z.natAbs := by unfold shw; rw [if_pos (by omega), Int.natAbs_neg]
  rw [e1, e2]
theorem one_app (l : List UInt8) : (⟨#[49]⟩ : ByteArray) ++ (⟨l.toArray⟩ : ByteArray) = ⟨(49 :: l).toArray⟩ := by
  apply ByteArray.ext
  apply Array.ext'
  simp [ByteArray.data_append]
theorem nine_app (n : Nat) : (⟨(ninesL n).toArray⟩ : ByteArray) ++ ⟨#[57]⟩ = ⟨(ninesL (n + 1)).toArray⟩ := by
  apply ByteArray.ext
  apply Array.ext'
  unfold ninesL
  simp [ByteArray.data_append, List.replicate_succ']
theorem nines_long : vld (ninesL 201) = false := by decide +kernel

set_option maxHeartbeats 1000000 in
theorem nines_any (n : Nat) (hn : n ≤ 1000) (N : Int) (hN : N = (n : Int)) (w : World) : Calls Tryd.prog 19 #[.int .i64 N] w fun e w' => e = .returned (.string ⟨(ninesL n).toArray⟩) ∧ w' = w := by
  subst hN
  go_enter Tryd.func19, Tryd.ntmps19
  go_wp2
  go_loop [3, 4] (fun s iv => ∃ k : Nat, k ≤ n ∧ iv = .int .i64 k ∧ s = .string ⟨(ninesL k).toArray⟩) (fun _ iv => n - (intOf iv).toNat)
  case atStart => exact ⟨0, Nat.zero_le _, rfl, rfl⟩
  case round =>
    obtain ⟨k, hk, rfl, rfl⟩ := hrel
    have hap := nine_app k
    by_cases hkn : k < n
    · obtain ⟨s1, hs1⟩ : ∃ s1 : ByteArray, ⟨(ninesL k).toArray⟩ = s1 := ⟨_, rfl⟩
      have hsz : s1.size ≤ 1000 := by rw [← hs1]; show (ninesL k).toArray.size ≤ 1000; unfold ninesL; simp; omega
      rw [hs1] at hap ⊢
      have H2 := Lib.hid hap
      clear hs1
      go_wp2
      go_round
      case rel => exact ⟨k + 1, by omega, by go_num, rfl⟩
      case measure => simp [intOf]; omega
    · obtain rfl : k = n := by omega
      clear hap
      go_wp2
      go_ret
      exact ⟨rfl, rfl⟩
/-- Some number below n. -/
def PickOut (w : World) (n : Nat) (e : Ending) (w' : World) : Prop := ∃ r : Nat, r < n ∧ e = .returned (.int .i64 r) ∧ w = w'
set_option maxHeartbeats 1000000 in
theorem pick_any (c : Int) (h0 : -9223372036854775808 ≤ c) (h1 : c ≤ 9223372036854775807) (n : Nat) (hn : 0 < n) (hn2 : n ≤ 1000000) (N : Int) (hN : N = (n : Int)) (w : World) : Calls Tryd.prog 20 #[.int .i64 c, .int .i64 N] w (PickOut w n) := by
  subst hN
  by_cases hc : c < 0
  · obtain ⟨d, hd⟩ : ∃ d, -(c + 1) = d := ⟨_, rfl⟩
    have hd0 : 0 ≤ d ∧ d ≤ 9223372036854775807 := by omega
    have hm0 := Int.emod_nonneg d (show (n : Int) ≠ 0 by omega)
    have hm1 := Int.emod_lt_of_pos d (show (0 : Int) < n by omega)
    obtain ⟨r, hr⟩ := Int.eq_ofNat_of_zero_le hm0
    rw [hr] at hm1
    go_enter Tryd.func20, Tryd.ntmps20
    go_wp2
    go_ret
    exact ⟨r, by omega, by first | rfl | exact congrArg (fun z => Ending.returned (.int .i64 z)) hr, rfl⟩
  · have hm0 := Int.emod_nonneg c (show (n : Int) ≠ 0 by omega)
    have hm1 := Int.emod_lt_of_pos c (show (0 : Int) < n by omega)
    obtain ⟨r, hr⟩ := Int.eq_ofNat_of_zero_le hm0
    rw [hr] at hm1
    go_enter Tryd.func20, Tryd.ntmps20
    go_wp2
    go_ret
    exact ⟨r, by omega, by first | rfl | exact congrArg (fun z => Ending.returned (.int .i64 z)) hr, rfl⟩
end Go.Proofs.YtebjjgbdiabapaaDoor
