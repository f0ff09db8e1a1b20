/- The sun's plain numbers: noon, the season, the height, and what the laws say of them. -/
import Derived.WalkKit
namespace Go.Proofs.YtbgdlfkeimaaiaaDoor
set_option linter.unusedVariables false
set_option linter.unusedSimpArgs false

/-- Noon at a minute, in thousandths of a column. -/
def noonN (t : Nat) : Nat := (1440 - t % 1440) * 100 / 3 % 48000
/-- The place of a day of the year, counted from the southernmost one. -/
def dayN (s : Nat) : Nat := if s ≤ 90 then s + 90 else if s ≤ 270 then 270 - s else s - 270
/-- The season at a minute, in thousandths of a row. -/
def seasN (t : Nat) : Nat := 9000 + dayN (t / 1440 % 360) * 100 / 3
/-- How far apart two numbers are. -/
def gapN (a b : Nat) : Nat := a - b + (b - a)
/-- How far a column is from noon. -/
def acrN (x t : Nat) : Nat := min (gapN (1000 * x + 500) (noonN t)) (48000 - gapN (1000 * x + 500) (noonN t))
/-- How far a row is from the season. -/
def alnN (y t : Nat) : Nat := gapN (1000 * y + 500) (seasN t)
/-- The height at a distance. -/
def degZ (d : Nat) : Int := max (90 - ((d * 75 / 10000 : Nat) : Int)) (-90)
/-- The height of the sun above a cell at a minute. -/
def hgt (x y t : Nat) : Int := degZ (acrN x t + alnN y t)

theorem noonN_lt (t : Nat) : noonN t < 48000 := Nat.mod_lt _ (by decide)
theorem dayN_le (s : Nat) (h : s < 360) : dayN s ≤ 180 := by unfold dayN; split <;> (try split) <;> omega
theorem seasN_le (t : Nat) : 9000 ≤ seasN t ∧ seasN t ≤ 15000 := by
  have := dayN_le (t / 1440 % 360) (Nat.mod_lt _ (by decide))
  unfold seasN; omega
theorem gap_eq (a b : Nat) : (gapN a b : Int) = max ((a : Int) - b) ((b : Int) - a) := by unfold gapN; omega
theorem gap_le (a b c : Nat) (ha : a ≤ c) (hb : b ≤ c) : gapN a b ≤ c := by unfold gapN; omega
theorem acrN_le (x t : Nat) (h : x < 48) : acrN x t ≤ 24000 := by unfold acrN; omega
theorem alnN_le (y t : Nat) (h : y < 24) : alnN y t ≤ 24000 := by
  have := seasN_le t
  unfold alnN gapN; omega
theorem degZ_le (d : Nat) : -90 ≤ degZ d ∧ degZ d ≤ 90 := by unfold degZ; omega
theorem hgt_le (x y t : Nat) : -90 ≤ hgt x y t ∧ hgt x y t ≤ 90 := degZ_le _
theorem degZ_mono {d e : Nat} (h : d ≤ e) : degZ e ≤ degZ d := by unfold degZ; omega
theorem degZ_step (d : Nat) : degZ d - degZ (d + 1000) = 7 ∨ degZ d - degZ (d + 1000) = 8 ∨ degZ (d + 1000) = -90 := by unfold degZ; omega

/-! P6.2: around. -/
theorem noon_back (t k : Nat) (h : t % 1440 + 30 * k < 1440) : ∃ q, q ≤ 48000 ∧ noonN t = (q + 1000 * k) % 48000 ∧ noonN (t + 30 * k) = q % 48000 ∧ q + 1000 * k ≤ 48000 := by
  have e : (t + 30 * k) % 1440 = t % 1440 + 30 * k := by
    rw [Nat.add_mod, Nat.mod_eq_of_lt (a := 30 * k) (by omega)]
    exact Nat.mod_eq_of_lt h
  refine ⟨(1440 - (t % 1440 + 30 * k)) * 100 / 3, by omega, ?_, ?_, by omega⟩
  · unfold noonN
    congr 1
    omega
  · unfold noonN
    rw [e]
theorem acr_around (x t k : Nat) (hx : x < 48) (hk : k < 48) (h : t % 1440 + 30 * k < 1440) : acrN x (t + 30 * k) = acrN ((x + k) % 48) t := by
  obtain ⟨q, h1, h2, h3, h4⟩ := noon_back t k h
  unfold acrN gapN
  rw [h2, h3]
  omega
theorem day_same (t d : Nat) (h : t % 1440 + d < 1440) : (t + d) / 1440 = t / 1440 := by omega
theorem seas_day {t u : Nat} (h : t / 1440 = u / 1440) : seasN t = seasN u := by unfold seasN; rw [h]
theorem hgt_around (x y t k : Nat) (hx : x < 48) (hk : k < 48) (h : t % 1440 + 30 * k < 1440) : hgt x y (t + 30 * k) = hgt ((x + k) % 48) y t := by
  unfold hgt alnN
  rw [acr_around x t k hx hk h, seas_day (day_same t (30 * k) h)]

/-! P6.4: from noon to midnight. -/
/-- The minute of the day at which noon is nearest. -/
def bestN (x : Nat) : Nat := 1425 - 30 * x
theorem noon_at (D m : Nat) (h : m < 1440) (h0 : 0 < m) : noonN (1440 * D + m) = (1440 - m) * 100 / 3 := by
  unfold noonN
  rw [show (1440 * D + m) % 1440 = m by omega]
  exact Nat.mod_eq_of_lt (by omega)
theorem noon_at0 (D : Nat) : noonN (1440 * D + 0) = 0 := by
  unfold noonN
  rw [show (1440 * D + 0) % 1440 = 0 by omega]
theorem acr_best (x D : Nat) (hx : x < 48) : acrN x (1440 * D + bestN x) = 0 := by
  have := noon_at D (bestN x) (by unfold bestN; omega) (by unfold bestN; omega)
  unfold acrN gapN
  rw [this]; unfold bestN; omega
theorem acr_pos (x D m : Nat) (hx : x < 48) (hm : m < bestN x) : 0 < acrN x (1440 * D + m) := by
  unfold bestN at hm
  by_cases h0 : m = 0
  · subst h0
    have := noon_at0 D
    unfold acrN gapN
    rw [this]; omega
  · have := noon_at D m (by omega) (by omega)
    unfold acrN gapN
    rw [this]; omega
theorem acr_after (x D j : Nat) (hx : x < 48) (hj : j < 720) (h : bestN x + j < 1440) : acrN x (1440 * D + (bestN x + j)) = (100 * j + 2) / 3 := by
  have := noon_at D (bestN x + j) h (by unfold bestN; omega)
  unfold acrN gapN
  rw [this]; unfold bestN at *; omega
theorem acr_before (x D j : Nat) (hx : x < 48) (hj : j < 720) (h : j ≤ bestN x) : acrN x (1440 * D + (bestN x - j)) = 100 * j / 3 := by
  by_cases h0 : bestN x - j = 0
  · have := noon_at0 D
    unfold acrN gapN
    rw [h0, this]; unfold bestN at *; omega
  · have := noon_at D (bestN x - j) (by unfold bestN; omega) (by omega)
    unfold acrN gapN
    rw [this]; unfold bestN at *; omega
theorem hgt_after (x y D a b : Nat) (hx : x < 48) (hab : a ≤ b) (hb : b < 720) (h : bestN x + b < 1440) : hgt x y (1440 * D + (bestN x + b)) ≤ hgt x y (1440 * D + (bestN x + a)) := by
  unfold hgt
  apply degZ_mono
  rw [acr_after x D a hx (by omega) (by omega), acr_after x D b hx hb h]
  have : alnN y (1440 * D + (bestN x + a)) = alnN y (1440 * D + (bestN x + b)) := by unfold alnN; rw [seas_day (t := 1440 * D + (bestN x + a)) (u := 1440 * D + (bestN x + b)) (by omega)]
  omega
theorem hgt_before (x y D a b : Nat) (hx : x < 48) (hab : a ≤ b) (hb : b < 720) (h : b ≤ bestN x) : hgt x y (1440 * D + (bestN x - b)) ≤ hgt x y (1440 * D + (bestN x - a)) := by
  unfold hgt
  apply degZ_mono
  rw [acr_before x D a hx (by omega) (by omega), acr_before x D b hx hb h]
  have hl : bestN x < 1440 := by unfold bestN; omega
  have : alnN y (1440 * D + (bestN x - a)) = alnN y (1440 * D + (bestN x - b)) := by unfold alnN; rw [seas_day (t := 1440 * D + (bestN x - a)) (u := 1440 * D + (bestN x - b)) (by omega)]
  omega

/-! P6.7: the year. -/
theorem noon_days (t k : Nat) : noonN (t + 1440 * k) = noonN t := by
  unfold noonN
  rw [Nat.add_mul_mod_self_left]
theorem seas_year (t : Nat) : seasN (t + 518400) = seasN t := by
  unfold seasN
  rw [show (t + 518400) / 1440 % 360 = t / 1440 % 360 by omega]
theorem seas_half (t : Nat) : seasN t + seasN (t + 259200) = 24000 ∨ seasN t + seasN (t + 259200) = 23999 := by
  unfold seasN
  have e : (t + 259200) / 1440 % 360 = (t / 1440 % 360 + 180) % 360 := by omega
  rw [e]
  have h := Nat.mod_lt (t / 1440) (show 0 < 360 by decide)
  generalize t / 1440 % 360 = s at h
  have e2 : dayN ((s + 180) % 360) = 180 - dayN s := by
    unfold dayN
    split <;> split <;> (try split) <;> (try split) <;> omega
  have := dayN_le s h
  rw [e2]
  omega
/-! The same in the walk's spelling. -/
theorem noon_z (t : Nat) : (1440 - (t : Int) % 1440) * 100 / 3 % 48000 = (noonN t : Int) := by
  unfold noonN
  have := Nat.mod_lt t (show 0 < 1440 by decide)
  rw [Int.natCast_emod, Int.natCast_ediv, Int.natCast_mul, Int.natCast_sub (by omega)]
  rfl
theorem seas_z1 (t : Nat) (h : ¬ 90 < (t : Int) / 1440 % 360) : 9000 + ((t : Int) / 1440 % 360 + 90) * 100 / 3 = (seasN t : Int) := by
  unfold seasN
  generalize hs : t / 1440 % 360 = s
  have e : (t : Int) / 1440 % 360 = (s : Int) := by omega
  rw [e] at *
  unfold dayN
  rw [if_pos (by omega)]
  omega
theorem seas_z2 (t : Nat) (h : 90 < (t : Int) / 1440 % 360) (h2 : ¬ 270 < (t : Int) / 1440 % 360) : 9000 + (180 - (t : Int) / 1440 % 360 + 90) * 100 / 3 = (seasN t : Int) := by
  unfold seasN
  generalize hs : t / 1440 % 360 = s
  have e : (t : Int) / 1440 % 360 = (s : Int) := by omega
  rw [e] at *
  unfold dayN
  rw [if_neg (by omega), if_pos (by omega), show (180 - (s : Int) + 90) = ((270 - s : Nat) : Int) by omega]
  generalize 270 - s = u
  omega
theorem seas_z3 (t : Nat) (h2 : 270 < (t : Int) / 1440 % 360) : 9000 + ((t : Int) / 1440 % 360 - 360 + 90) * 100 / 3 = (seasN t : Int) := by
  unfold seasN
  generalize hs : t / 1440 % 360 = s
  have e : (t : Int) / 1440 % 360 = (s : Int) := by omega
  rw [e] at *
  unfold dayN
  rw [if_neg (by omega), if_neg (by omega), show ((s : Int) - 360 + 90) = ((s - 270 : Nat) : Int) by omega]
  generalize s - 270 = u
  omega
end Go.Proofs.YtbgdlfkeimaaiaaDoor
