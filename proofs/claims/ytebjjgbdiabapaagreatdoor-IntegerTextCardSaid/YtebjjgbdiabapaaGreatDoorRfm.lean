/- What the reference calculates digit by digit: of no program. -/
import Derived.Test.YtebjjgbdiabapaaGreatDoorTxt
import Derived.Test.YtebjjgbdiabapaaGreatDoorAri
namespace Go.Proofs.YtebjjgbdiabapaaGreatDoor

theorem vz10 (n : Nat) : vz 10 (dz 10 n) = n := vz_dz 10 (by decide) n
theorem len10 (n k : Nat) : (dz 10 n).length ≤ k ↔ n < 10 ^ k := dz_length_iff 10 (by decide) k n
theorem dig10_at (n i : Nat) : 0 ≤ (dz 10 n)[i]?.getD 0 ∧ (dz 10 n)[i]?.getD 0 < 10 := getD_mem (p := fun d => 0 ≤ d ∧ d < 10) _ (by decide) (dig10 n) i
theorem drop_vz (zs : List Int) (k : Nat) : vz 10 (zs.drop k) = zs[k]?.getD 0 + 10 * vz 10 (zs.drop (k + 1)) := by
  by_cases h : k < zs.length
  · rw [List.drop_eq_getElem_cons h, vz, List.getElem?_eq_getElem h]; rfl
  · rw [List.drop_eq_nil_of_le (by omega), List.drop_eq_nil_of_le (by omega), List.getElem?_eq_none (by omega)]; rfl
theorem drop_vz_end (zs : List Int) (k : Nat) (h : zs.length ≤ k) : vz 10 (zs.drop k) = 0 := by rw [List.drop_eq_nil_of_le h]; rfl
theorem drop_vz_nonneg (n k : Nat) : 0 ≤ vz 10 ((dz 10 n).drop k) := vz_nonneg 10 (by decide) _ (fun d hd => (dig10 n d (List.mem_of_mem_drop hd)).1)

/-- The first k digits of a number, zeros above it included. -/
def dk (s : Nat) : Nat → List Int
  | 0 => []
  | k + 1 => dk s k ++ [((s / 10 ^ k % 10 : Nat) : Int)]
theorem dk_length (s : Nat) : ∀ k, (dk s k).length = k
  | 0 => rfl
  | k + 1 => by simp [dk, dk_length s k]
theorem dk_digit (s : Nat) : ∀ k, ∀ d ∈ dk s k, 0 ≤ d ∧ d < 10
  | 0, d, h => by simp [dk] at h
  | k + 1, d, h => by
    rw [dk, List.mem_append, List.mem_singleton] at h
    rcases h with h | rfl
    · exact dk_digit s k d h
    · omega
theorem dk_vz (s : Nat) : ∀ k t, vt 10 (dk s k) t = ((s % 10 ^ k : Nat) : Int) + 10 ^ k * t
  | 0, t => by simp [dk, vt, Nat.mod_one]
  | k + 1, t => by
    rw [dk, vt_snoc, dk_vz s k, Int.mul_add, ← Int.mul_assoc, ← Int.pow_succ]
    have h1 : s % 10 ^ (k + 1) = s % 10 ^ k + 10 ^ k * (s / 10 ^ k % 10) := by
      rw [Nat.pow_succ, Nat.mod_mul]
    rw [h1, Int.natCast_add, Int.natCast_mul, Int.natCast_pow]
    show _ + (_ + _) = _ + _ + _
    rw [Int.add_assoc]
    rfl
/-- A number's digits are its first ones, up to the highest. -/
theorem dk_dz (s k : Nat) (h1 : s < 10 ^ k) (h2 : k = 0 ∨ 10 ^ (k - 1) ≤ s) : dk s k = dz 10 s := by
  have hv : vz 10 (dk s k) = (s : Int) := by rw [← vt_zero, dk_vz, Nat.mod_eq_of_lt h1, Int.mul_zero, Int.add_zero]
  have := canon_all 10 (by decide) (dk s k) (dk_digit s k) (by
    rcases h2 with rfl | h2
    · exact .inl rfl
    · cases k with
      | zero => exact .inl rfl
      | succ j =>
        right
        rw [dk_length, dk, List.getElem?_append_right (by rw [dk_length]; omega), dk_length]
        rw [Nat.add_sub_cancel] at h2
        have h3 : 0 < s / 10 ^ j := Nat.div_pos h2 (Nat.pow_pos (by decide))
        have h4 : s / 10 ^ j < 10 := by rw [Nat.div_lt_iff_lt_mul (Nat.pow_pos (by decide)), Nat.mul_comm, ← Nat.pow_succ]; exact h1
        generalize s / 10 ^ j = q at *
        simp
        omega)
  rw [show ((10 : Nat) : Int) = 10 from rfl, hv, Int.toNat_natCast] at this
  exact this

/-- plus, a round: the digits so far, and what is left to add. -/
def PlusN (a b k : Nat) (c : Int) (gs : List Int) : Prop :=
  gs = dk (a + b) k ∧ (0 ≤ c ∧ c ≤ 1) ∧ vt 10 gs (c + vz 10 ((dz 10 a).drop k) + vz 10 ((dz 10 b).drop k)) = ((a + b : Nat) : Int) ∧ (k = 0 ∨ 10 ^ (k - 1) ≤ a + b)
theorem plusN_start (a b : Nat) : PlusN a b 0 0 [] := ⟨rfl, ⟨by decide, by decide⟩, by simp [vt, vz10], .inl rfl⟩
theorem dz_getD10 (n i : Nat) : (dz 10 n)[i]?.getD 0 = ((n / 10 ^ i % 10 : Nat) : Int) := dz_getD 10 (by decide) n i
theorem lt_len (n k : Nat) : k < (dz 10 n).length ↔ 10 ^ k ≤ n := by
  have := len10 n k
  omega
theorem dk_next (s k : Nat) (u : Int) (h : vt 10 (dk s k) u = (s : Int)) : u = ((s / 10 ^ k : Nat) : Int) := by
  rw [dk_vz] at h
  have h1 : (s : Int) = ((s % 10 ^ k : Nat) : Int) + 10 ^ k * ((s / 10 ^ k : Nat) : Int) := by
    have := Nat.mod_add_div s (10 ^ k)
    have h2 : ((s % 10 ^ k + 10 ^ k * (s / 10 ^ k) : Nat) : Int) = (s : Int) := by rw [this]
    rw [Int.natCast_add, Int.natCast_mul, Int.natCast_pow] at h2
    exact h2.symm
  have hp : (10 : Int) ^ k ≠ 0 := Int.ne_of_gt (Int.pow_pos (by decide))
  have h3 : (10 : Int) ^ k * u = 10 ^ k * ((s / 10 ^ k : Nat) : Int) := by omega
  exact Int.eq_of_mul_eq_mul_left hp h3
theorem plusN_step (a b k : Nat) (c n : Int) (gs : List Int) (h : PlusN a b k c gs) (hn : n = c + (dz 10 a)[k]?.getD 0 + (dz 10 b)[k]?.getD 0) (hgo : k < (dz 10 a).length ∨ k < (dz 10 b).length ∨ 0 < c) :
    PlusN a b (k + 1) (n / 10) (gs ++ [n % 10]) ∧ 0 ≤ n ∧ n ≤ 19 := by
  obtain ⟨rfl, ⟨h0, h1⟩, hv, hk⟩ := h
  have ha := dig10_at a k
  have hb := dig10_at b k
  have e := dk_next _ _ _ hv
  rw [drop_vz _ k, drop_vz (dz 10 b) k] at e
  have hna := drop_vz_nonneg a (k + 1)
  have hnb := drop_vz_nonneg b (k + 1)
  have ev : vt 10 (dk (a + b) k) (n % 10 + 10 * (n / 10 + vz 10 ((dz 10 a).drop (k + 1)) + vz 10 ((dz 10 b).drop (k + 1)))) = ((a + b : Nat) : Int) := by
    rw [← hv]
    congr 1
    rw [drop_vz _ k, drop_vz (dz 10 b) k]
    omega
  refine ⟨⟨?_, by omega, ?_, .inr ?_⟩, by omega, by omega⟩
  · rw [dk]
    congr 2
    omega
  · rw [vt_snoc]; exact ev
  · rw [Nat.add_sub_cancel]
    rcases hgo with h | h | h
    · have := (lt_len a k).1 h; omega
    · have := (lt_len b k).1 h; omega
    · have h2 : 0 < (a + b) / 10 ^ k := by omega
      have h3 := Nat.div_mul_le_self (a + b) (10 ^ k)
      have h4 : 10 ^ k ≤ (a + b) / 10 ^ k * 10 ^ k := Nat.le_mul_of_pos_left _ h2
      omega
theorem plusN_end (a b k : Nat) (c : Int) (gs : List Int) (h : PlusN a b k c gs) (h1 : (dz 10 a).length ≤ k) (h2 : (dz 10 b).length ≤ k) (h3 : ¬ 0 < c) : gs = dz 10 (a + b) := by
  obtain ⟨rfl, ⟨h0, _⟩, hv, hk⟩ := h
  have e := dk_next _ _ _ hv
  rw [drop_vz_end _ _ h1, drop_vz_end _ _ h2] at e
  have hz : (a + b) / 10 ^ k = 0 := by omega
  have hlt : a + b < 10 ^ k := by
    rcases Nat.div_eq_zero_iff.1 hz with h | h
    · have := Nat.pow_pos (n := k) (show 0 < 10 by decide); omega
    · exact h
  exact dk_dz _ _ hlt hk

theorem plusN_over (a b k : Nat) (c : Int) (gs : List Int) (h : PlusN a b k c gs) (h1 : (dz 10 a).length < k) (h2 : (dz 10 b).length < k) : ¬ 0 < c := by
  obtain ⟨rfl, _, hv, _⟩ := h
  have e := dk_next _ _ _ hv
  rw [drop_vz_end _ _ (by omega), drop_vz_end _ _ (by omega)] at e
  obtain ⟨j, rfl⟩ : ∃ j, k = j + 1 := ⟨k - 1, by omega⟩
  have h3 := (len10 a j).1 (by omega)
  have h4 := (len10 b j).1 (by omega)
  have hz : (a + b) / 10 ^ (j + 1) = 0 := Nat.div_eq_of_lt (by rw [Nat.pow_succ]; omega)
  omega
/-- minus, a round. -/
def MinusN (a b k : Nat) (c : Int) (gs : List Int) : Prop :=
  (∀ d ∈ gs, 0 ≤ d ∧ d < 10) ∧ (0 ≤ c ∧ c ≤ 1) ∧ vt 10 gs (vz 10 ((dz 10 a).drop k) - vz 10 ((dz 10 b).drop k) - c) = (a : Int) - b ∧ gs.length = k
theorem minusN_start (a b : Nat) : MinusN a b 0 0 [] := ⟨by simp, ⟨by decide, by decide⟩, by simp [vt, vz10], rfl⟩
theorem minusN_step (a b k : Nat) (c n m c' : Int) (gs : List Int) (h : MinusN a b k c gs) (hn : n = (dz 10 a)[k]?.getD 0 - c - (dz 10 b)[k]?.getD 0) (hm : m = n + 10 * c') (hc : c' = if n < 0 then 1 else 0) :
    MinusN a b (k + 1) c' (gs ++ [m]) := by
  obtain ⟨hd, ⟨h0, h1⟩, hv, hl⟩ := h
  have ha := dig10_at a k
  have hb := dig10_at b k
  have hc01 : (n < 0 ∧ c' = 1) ∨ (0 ≤ n ∧ c' = 0) := by
    split at hc <;> omega
  refine ⟨?_, by omega, ?_, by simp [hl]⟩
  · intro d h
    rw [List.mem_append, List.mem_singleton] at h
    rcases h with h | rfl
    · exact hd d h
    · omega
  · rw [vt_snoc, ← hv]
    congr 1
    rw [drop_vz _ k, drop_vz (dz 10 b) k]
    omega
theorem carry_end10 (gs : List Int) (hg : ∀ d ∈ gs, 0 ≤ d ∧ d < 10) (c : Int) (h : 0 ≤ vt 10 gs c) : 0 ≤ c := by
  have h1 : vz 10 gs < ((10 ^ gs.length : Nat) : Int) := vz_lt 10 gs hg
  rw [vt_eq] at h
  by_cases hc : 0 ≤ c
  · exact hc
  · have h2 : ((10 : Int) ^ gs.length) * c ≤ 10 ^ gs.length * (-1) := Int.mul_le_mul_of_nonneg_left (by omega) (Int.le_of_lt (Int.pow_pos (by decide)))
    have h3 : ((10 ^ gs.length : Nat) : Int) = (10 : Int) ^ gs.length := by rw [Int.natCast_pow]; rfl
    omega
theorem minusN_end (a b k : Nat) (c : Int) (gs : List Int) (h : MinusN a b k c gs) (h1 : (dz 10 a).length ≤ k) (hle : b ≤ a) : vz 10 gs = ((a - b : Nat) : Int) := by
  obtain ⟨hd, ⟨h0, _⟩, hv, hl⟩ := h
  have h2 := dz_length_mono 10 (by decide) b a hle
  rw [drop_vz_end _ _ h1, drop_vz_end _ _ (by omega)] at hv
  have h3 := carry_end10 gs hd (0 - 0 - c) (by rw [hv]; omega)
  have hc : c = 0 := by omega
  subst hc
  rw [show (0 : Int) - 0 - 0 = 0 by decide, vt_zero] at hv
  omega

theorem vz_set (b : Int) : ∀ (zs : List Int) (i : Nat) (v : Int), i < zs.length → vz b (zs.set i v) = vz b zs + (v - zs[i]?.getD 0) * b ^ i
  | d :: zs, 0, v, _ => by simp [vz]; omega
  | d :: zs, i + 1, v, h => by
    have e : b * ((v - zs[i]?.getD 0) * b ^ i) = (v - zs[i]?.getD 0) * b ^ (i + 1) := by rw [Int.mul_left_comm, Int.mul_comm b (b ^ i), Int.pow_succ]
    rw [List.set_cons_succ, vz, vz, vz_set b zs i v (by simpa using h), List.getElem?_cons_succ, Int.mul_add, e]
    omega
theorem set_digit (zs : List Int) (i : Nat) (v : Int) (h : ∀ d ∈ zs, 0 ≤ d ∧ d < 10) (hv : 0 ≤ v ∧ v < 10) : ∀ d ∈ zs.set i v, 0 ≤ d ∧ d < 10 := by
  intro d hd
  rcases List.mem_or_eq_of_mem_set hd with h1 | h1
  · exact h d h1
  · subst h1; exact hv
/-- times, a round of the inner loop: what stands, and what is left of the row. -/
def TimesN (a b i k : Nat) (c : Int) (zs : List Int) : Prop :=
  (∀ d ∈ zs, 0 ≤ d ∧ d < 10) ∧ zs.length = (dz 10 a).length + (dz 10 b).length ∧ (0 ≤ c ∧ c ≤ 9) ∧
    vz 10 zs + 10 ^ (i + k) * (c + ((a / 10 ^ i % 10 : Nat) : Int) * vz 10 ((dz 10 b).drop k)) = ((a % 10 ^ (i + 1) * b : Nat) : Int)
def RowN (a b i : Nat) (zs : List Int) : Prop :=
  (∀ d ∈ zs, 0 ≤ d ∧ d < 10) ∧ zs.length = (dz 10 a).length + (dz 10 b).length ∧ vz 10 zs = ((a % 10 ^ i * b : Nat) : Int)
theorem timesN_start (a b i : Nat) (zs : List Int) (h : RowN a b i zs) : TimesN a b i 0 0 zs := by
  obtain ⟨h1, h2, h3⟩ := h
  refine ⟨h1, h2, ⟨by decide, by decide⟩, ?_⟩
  rw [h3, Nat.add_zero, List.drop_zero, vz10, Int.zero_add]
  have e : a % 10 ^ (i + 1) = a % 10 ^ i + 10 ^ i * (a / 10 ^ i % 10) := by rw [Nat.pow_succ, Nat.mod_mul]
  rw [e, Nat.add_mul, Int.natCast_add, Nat.mul_assoc, Int.natCast_mul (10 ^ i), Int.natCast_mul (a / 10 ^ i % 10), Int.natCast_pow]
  rfl
theorem timesN_end (a b i k : Nat) (c : Int) (zs : List Int) (h : TimesN a b i k c zs) (hk : (dz 10 b).length ≤ k) (hc : ¬ 0 < c) : RowN a b (i + 1) zs := by
  obtain ⟨h1, h2, h3, h4⟩ := h
  refine ⟨h1, h2, ?_⟩
  rw [drop_vz_end _ _ hk] at h4
  have : c = 0 := by omega
  subst this
  simpa using h4
theorem timesN_bound (a b i k : Nat) (c : Int) (zs : List Int) (h : TimesN a b i k c zs) (hi : i < (dz 10 a).length) (hgo : k < (dz 10 b).length ∨ 0 < c) : i + k < (dz 10 a).length + (dz 10 b).length := by
  rcases hgo with h1 | h1
  · omega
  · obtain ⟨h2, h3, h4, h5⟩ := h
    by_cases hlt : i + k < (dz 10 a).length + (dz 10 b).length
    · exact hlt
    · exfalso
      have hz := vz_nonneg 10 (by decide) zs (fun d hd => (h2 d hd).1)
      have ha := dz_lt 10 (by decide) a
      have hb := dz_lt 10 (by decide) b
      have hd := Int.mul_nonneg (show (0 : Int) ≤ ((a / 10 ^ i % 10 : Nat) : Int) by omega) (drop_vz_nonneg b k)
      have h6 : (10 : Int) ^ (i + k) * 1 ≤ 10 ^ (i + k) * (c + ((a / 10 ^ i % 10 : Nat) : Int) * vz 10 ((dz 10 b).drop k)) := Int.mul_le_mul_of_nonneg_left (by omega) (Int.le_of_lt (Int.pow_pos (by decide)))
      have h7 : a % 10 ^ (i + 1) * b ≤ a * b := Nat.mul_le_mul_right _ (Nat.mod_le _ _)
      have h8 : a * b < 10 ^ (dz 10 a).length * 10 ^ (dz 10 b).length := by
        have h9 : a * b ≤ a * 10 ^ (dz 10 b).length := Nat.mul_le_mul_left _ (Nat.le_of_lt hb)
        have h10 : a * 10 ^ (dz 10 b).length < 10 ^ (dz 10 a).length * 10 ^ (dz 10 b).length := Nat.mul_lt_mul_of_pos_right ha (Nat.pow_pos (by decide))
        omega
      rw [← Nat.pow_add] at h8
      have h11 : 10 ^ ((dz 10 a).length + (dz 10 b).length) ≤ 10 ^ (i + k) := Nat.pow_le_pow_right (by decide) (by omega)
      have h12 : ((10 ^ (i + k) : Nat) : Int) = (10 : Int) ^ (i + k) := by rw [Int.natCast_pow]; rfl
      omega
theorem timesN_step (a b i k : Nat) (c n : Int) (zs : List Int) (h : TimesN a b i k c zs) (hb : i + k < zs.length) (hn : n = zs[i + k]?.getD 0 + c + ((a / 10 ^ i % 10 : Nat) : Int) * (dz 10 b)[k]?.getD 0) :
    TimesN a b i (k + 1) (n / 10) (zs.set (i + k) (n % 10)) ∧ 0 ≤ n ∧ n ≤ 99 := by
  obtain ⟨h1, h2, h3, h4⟩ := h
  have hz := getD_mem (p := fun d => 0 ≤ d ∧ d < 10) zs (by decide) h1 (i + k)
  have hy := dig10_at b k
  have hx : 0 ≤ ((a / 10 ^ i % 10 : Nat) : Int) ∧ ((a / 10 ^ i % 10 : Nat) : Int) ≤ 9 := by omega
  have hp0 := Int.mul_nonneg hx.1 hy.1
  have hp1 : ((a / 10 ^ i % 10 : Nat) : Int) * (dz 10 b)[k]?.getD 0 ≤ 9 * 9 := Int.mul_le_mul hx.2 (by omega) hy.1 (by decide)
  have hn0 : 0 ≤ n ∧ n ≤ 99 := by omega
  refine ⟨⟨set_digit zs _ _ h1 (by omega), by rw [List.length_set]; exact h2, by omega, ?_⟩, hn0⟩
  rw [vz_set 10 zs (i + k) _ hb, ← h4, drop_vz _ k, ← Nat.add_assoc, Int.pow_succ]
  generalize (10 : Int) ^ (i + k) = p at *
  generalize vz 10 ((dz 10 b).drop (k + 1)) = t at *
  generalize ((a / 10 ^ i % 10 : Nat) : Int) = x at *
  generalize (dz 10 b)[k]?.getD 0 = y at *
  generalize zs[i + k]?.getD 0 = z at *
  rw [Int.mul_comm (n % 10 - z) p, Int.mul_assoc p 10, Int.add_assoc, ← Int.mul_add]
  congr 2
  have e1 : x * (y + 10 * t) = x * y + 10 * (x * t) := by rw [Int.mul_add, ← Int.mul_assoc, ← Int.mul_assoc, Int.mul_comm x 10]
  rw [e1]
  generalize x * t = u at *
  omega
end Go.Proofs.YtebjjgbdiabapaaGreatDoor
