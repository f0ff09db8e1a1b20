/- What the methods calculate, step by step: of no program. -/
import Derived.Test.YtebjjgbdiabapaaGreatDoorMem
namespace Go.Proofs.YtebjjgbdiabapaaGreatDoor

abbrev B4 : Nat := 10000
theorem dig4 (n : Nat) : ∀ d ∈ dz 10000 n, 0 ≤ d ∧ d < 10000 := dz_digit 10000 (by decide) n
theorem vz4 (n : Nat) : vz 10000 (dz 10000 n) = n := vz_dz 10000 (by decide) n
theorem len4 (n k : Nat) : (dz 10000 n).length ≤ k ↔ n < 10000 ^ k := dz_length_iff 10000 (by decide) k n
theorem getD_mem {p : Int → Prop} (l : List Int) (h0 : p 0) (h : ∀ d ∈ l, p d) (i : Nat) : p (l[i]?.getD 0) := by
  by_cases hi : i < l.length
  · rw [List.getElem?_eq_getElem hi]; exact h _ (List.getElem_mem hi)
  · rw [List.getElem?_eq_none (by omega)]; exact h0
theorem dig4_at (n i : Nat) : 0 ≤ (dz 10000 n)[i]?.getD 0 ∧ (dz 10000 n)[i]?.getD 0 < 10000 := getD_mem (p := fun d => 0 ≤ d ∧ d < 10000) _ (by decide) (dig4 n) i

/-- A column is carried. -/
theorem carry_step (gs : List Int) (c col : Int) (rest : List Int) : vt 10000 gs (c + vz 10000 (col :: rest)) = vt 10000 (gs ++ [(c + col) % 10000]) ((c + col) / 10000 + vz 10000 rest) := by
  rw [vt_snoc, vz]
  congr 1
  omega
theorem carry_end (gs : List Int) (hg : ∀ d ∈ gs, 0 ≤ d ∧ d < 10000) (c : Int) (h : 0 ≤ vt 10000 gs c) : 0 ≤ c := by
  have h1 : vz 10000 gs < ((10000 ^ gs.length : Nat) : Int) := vz_lt 10000 gs hg
  rw [vt_eq] at h
  by_cases hc : 0 ≤ c
  · exact hc
  · have h2 : ((10000 : Int) ^ gs.length) * c ≤ 10000 ^ gs.length * (-1) := Int.mul_le_mul_of_nonneg_left (by omega) (Int.le_of_lt (Int.pow_pos (by decide)))
    have h3 : ((10000 ^ gs.length : Nat) : Int) = (10000 : Int) ^ gs.length := by rw [Int.natCast_pow]; rfl
    omega
theorem tmod_pos (t : Int) (h : 0 ≤ t.tmod 10000) : t.tmod 10000 = t % 10000 := by
  by_cases ht : 0 ≤ t
  · exact Int.tmod_eq_emod_of_nonneg ht
  · have e : t.tmod 10000 = -((-t).tmod 10000) := by rw [Int.neg_tmod, Int.neg_neg]
    have := Int.tmod_eq_emod_of_nonneg (a := -t) (b := 10000) (by omega)
    omega
theorem tmod_neg (t : Int) (h : t.tmod 10000 < 0) : t.tmod 10000 + 10000 = t % 10000 := by
  by_cases ht : 0 ≤ t
  · have := Int.tmod_eq_emod_of_nonneg (b := 10000) ht
    omega
  · have e : t.tmod 10000 = -((-t).tmod 10000) := by rw [Int.neg_tmod, Int.neg_neg]
    have := Int.tmod_eq_emod_of_nonneg (a := -t) (b := 10000) (by omega)
    omega
theorem tdiv_exact (t : Int) : (t - t % 10000).tdiv 10000 = t / 10000 := by
  have e : t - t % 10000 = 10000 * (t / 10000) := by omega
  rw [e, Int.mul_tdiv_cancel_left _ (by decide)]

theorem dz_drop (b : Nat) (hb : 2 ≤ b) : ∀ k n, (dz b n).drop k = dz b (n / b ^ k)
  | 0, n => by simp
  | k + 1, n => by
    by_cases h : n = 0
    · subst h; simp [dz_zero]
    · rw [dz_pos b hb n h, List.drop_succ_cons, dz_drop b hb k, Nat.div_div_eq_div_mul, Nat.pow_succ, Nat.mul_comm]
theorem dz_getD (b : Nat) (hb : 2 ≤ b) (n i : Nat) : (dz b n)[i]?.getD 0 = ((n / b ^ i % b : Nat) : Int) := by
  have h := dz_drop b hb i n
  have e : (dz b n)[i]? = ((dz b n).drop i)[0]? := by simp
  rw [e, h]
  by_cases h0 : n / b ^ i = 0
  · rw [h0, dz_zero]; simp
  · rw [dz_pos b hb _ h0]; simp
theorem vz_rep (b : Int) (l : List Int) : ∀ k, vz b (List.replicate k 0 ++ l) = b ^ k * vz b l
  | 0 => by simp
  | k + 1 => by
    rw [List.replicate_succ, List.cons_append, vz, vz_rep b l k, Int.pow_succ, ← Int.mul_assoc, Int.mul_comm b (b ^ k)]; omega
/-- The number above the lowest groups, group by group from the top. -/
theorem above_step (b : Nat) (_hb : 2 ≤ b) (n i : Nat) : n / b ^ i = n / b ^ (i + 1) * b + n / b ^ i % b := by
  rw [Nat.pow_succ, ← Nat.div_div_eq_div_mul]
  have := Nat.mod_add_div (n / b ^ i) b
  rw [Nat.mul_comm] at this
  omega

theorem div_step (b m g d : Nat) : (b * m + g) / d = b * (m / d) + (b * (m % d) + g) / d ∨ d = 0 := by
  rcases Nat.eq_zero_or_pos d with h | h
  · exact .inr h
  · left
    have e : b * m + g = d * (b * (m / d)) + (b * (m % d) + g) := by
      conv => lhs; rw [← Nat.mod_add_div m d]
      rw [Nat.mul_add, ← Nat.mul_assoc, ← Nat.mul_assoc, Nat.mul_comm b d]; omega
    rw [e, Nat.mul_add_div h]
theorem mod_step (b m g d : Nat) : (b * m + g) % d = (b * (m % d) + g) % d := by
  have e : b * m + g = d * (b * (m / d)) + (b * (m % d) + g) := by
    conv => lhs; rw [← Nat.mod_add_div m d]
    rw [Nat.mul_add, ← Nat.mul_assoc, ← Nat.mul_assoc, Nat.mul_comm b d]; omega
  rw [e, Nat.mul_add_mod]
/-- The next group of a quotient is below the base. -/
theorem next_lt (b r g d : Nat) (hr : r < d) (hg : g < b) : b * r + g < d * b := by
  have : b * (r + 1) ≤ b * d := Nat.mul_le_mul_left _ hr
  rw [Nat.mul_add, Nat.mul_comm b d] at this
  omega
theorem pow_le_of_len (b : Nat) (hb : 2 ≤ b) (d k : Nat) (h : k < (dz b d).length) : b ^ k ≤ d := by
  by_cases hd : d < b ^ k
  · have := (dz_length_iff b hb k d).2 hd
    omega
  · omega

theorem least_le (n d P : Nat) (hd : 0 < d) (hP : 0 < P) : n / P / (d / P + 1) ≤ n / d := by
  rw [Nat.le_div_iff_mul_le hd]
  have h1 : d ≤ P * (d / P + 1) := by
    have := Nat.lt_mul_div_succ d hP
    omega
  calc n / P / (d / P + 1) * d ≤ n / P / (d / P + 1) * (P * (d / P + 1)) := Nat.mul_le_mul_left _ h1
    _ = (n / P / (d / P + 1) * (d / P + 1)) * P := by rw [Nat.mul_comm P, ← Nat.mul_assoc]
    _ ≤ n / P * P := Nat.mul_le_mul_right _ (Nat.div_mul_le_self _ _)
    _ ≤ n := Nat.div_mul_le_self _ _
theorem le_most (n d P : Nat) (hD : 0 < d / P) (hP : 0 < P) : n / d ≤ n / P / (d / P) := by
  rw [Nat.le_div_iff_mul_le hD, Nat.le_div_iff_mul_le hP]
  calc n / d * (d / P) * P = n / d * (d / P * P) := Nat.mul_assoc ..
    _ ≤ n / d * d := Nat.mul_le_mul_left _ (Nat.div_mul_le_self _ _)
    _ ≤ n := Nat.div_mul_le_self _ _
theorem count_lt : ∀ (m k : Nat), k ≤ m → (List.range m).countP (fun i => decide (i < k)) = k
  | 0, k, h => by
    have : k = 0 := by omega
    subst this; rfl
  | m + 1, k, h => by
    rw [List.range_succ, List.countP_append]
    rcases Nat.lt_or_ge m k with h1 | h1
    · have : k = m + 1 := by omega
      subst this
      have e : (List.range m).countP (fun i => decide (i < m + 1)) = m := by
        have : (List.range m).countP (fun i => decide (i < m + 1)) = (List.range m).length := by
          rw [List.countP_eq_length]
          intro a ha
          have := List.mem_range.1 ha
          simp; omega
        rw [this, List.length_range]
      rw [e]; simp
    · rw [count_lt m k h1]
      have : ¬ m < k := by omega
      simp [this]
theorem over_iff (n d k : Nat) (hd : 0 < d) : n < k * d ↔ n / d < k := by
  rw [Nat.div_lt_iff_lt_mul hd]

/-- Newton's step does not fall below the root. -/
theorem newton_ge (n g s : Nat) (hs : s * s ≤ n) (hg : 0 < g) : s ≤ (g + n / g) / 2 := by
  have h : 2 * s ≤ g + n / g := by
    by_cases h2 : 2 * s ≤ g
    · exact Nat.le_trans h2 (Nat.le_add_right _ _)
    · have h3 : 2 * s - g ≤ n / g := by
        rw [Nat.le_div_iff_mul_le hg]
        refine Nat.le_trans ?_ hs
        rcases Nat.le_total s g with h4 | h4
        · obtain ⟨t, rfl⟩ : ∃ t, g = s + t := ⟨g - s, by omega⟩
          have e : 2 * s - (s + t) = s - t := by omega
          obtain ⟨u, rfl⟩ : ∃ u, s = t + u := ⟨s - t, by omega⟩
          rw [e, show t + u - t = u by omega]
          have : (t + u) * (t + u) = t * t + 2 * (t * u) + u * u := by
            rw [Nat.add_mul, Nat.mul_add, Nat.mul_add, Nat.mul_comm u t]; omega
          rw [this, Nat.mul_add, Nat.mul_add, Nat.mul_comm u t]; omega
        · obtain ⟨t, rfl⟩ : ∃ t, s = g + t := ⟨s - g, by omega⟩
          have e : 2 * (g + t) - g = g + 2 * t := by omega
          rw [e]
          have h1 : (g + t) * (g + t) = g * g + 2 * (t * g) + t * t := by
            rw [Nat.add_mul, Nat.mul_add, Nat.mul_add, Nat.mul_comm g t]; omega
          have h2 : (g + 2 * t) * g = g * g + 2 * (t * g) := by
            rw [Nat.add_mul, Nat.mul_assoc]
          omega
      omega
  omega
theorem newton_end (n g s : Nat) (hs2 : n < (s + 1) * (s + 1)) (hg : 0 < g) (hsg : s ≤ g) (h : g ≤ (g + n / g) / 2) : g = s := by
  have h1 : g ≤ n / g := by omega
  rw [Nat.le_div_iff_mul_le hg] at h1
  by_cases hlt : s + 1 ≤ g
  · have := Nat.mul_le_mul hlt hlt
    omega
  · omega
theorem root_ex : ∀ n : Nat, ∃ s, s * s ≤ n ∧ n < (s + 1) * (s + 1)
  | 0 => ⟨0, by decide, by decide⟩
  | n + 1 => by
    obtain ⟨s, h1, h2⟩ := root_ex n
    by_cases h : n + 1 < (s + 1) * (s + 1)
    · exact ⟨s, by omega, h⟩
    · refine ⟨s + 1, by omega, ?_⟩
      have : (s + 1 + 1) * (s + 1 + 1) = (s + 1) * (s + 1) + 2 * (s + 1) + 1 := by
        rw [Nat.add_mul (s + 1) 1, Nat.mul_add (s + 1) (s + 1) 1]; omega
      omega
theorem root_unique (n s t : Nat) (h1 : s * s ≤ n) (h2 : n < (s + 1) * (s + 1)) (h3 : t * t ≤ n) (h4 : n < (t + 1) * (t + 1)) : s = t := by
  rcases Nat.lt_trichotomy s t with h | h | h
  · have := Nat.mul_le_mul (show s + 1 ≤ t from h) (show s + 1 ≤ t from h); omega
  · exact h
  · have := Nat.mul_le_mul (show t + 1 ≤ s from h) (show t + 1 ≤ s from h); omega
end Go.Proofs.YtebjjgbdiabapaaGreatDoor
