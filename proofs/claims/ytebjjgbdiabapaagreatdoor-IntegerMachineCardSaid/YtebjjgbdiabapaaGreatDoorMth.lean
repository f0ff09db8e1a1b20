/- Numbers and their digits, lowest first, in any base: of no program. -/
import Derived.Lib.Hide
namespace Go.Proofs.YtebjjgbdiabapaaGreatDoor

/-- The value of digits, lowest first. -/
def vz (b : Int) : List Int → Int
  | [] => 0
  | d :: l => d + b * vz b l
/-- The value of digits with a number above them. -/
def vt (b : Int) : List Int → Int → Int
  | [], t => t
  | d :: l, t => d + b * vt b l t
/-- The digits of a number, by fuel. -/
def dzF (b : Nat) : Nat → Nat → List Int
  | 0, _ => []
  | f + 1, n => if n = 0 then [] else ((n % b : Nat) : Int) :: dzF b f (n / b)
/-- The digits of a number, lowest first; the highest one is not 0. -/
def dz (b n : Nat) : List Int := dzF b (n.log2 + 1) n

theorem dzF_any (b : Nat) (hb : 2 ≤ b) : ∀ (f g n : Nat), n < 2 ^ f → n < 2 ^ g → dzF b f n = dzF b g n
  | 0, 0, _, _, _ => rfl
  | 0, g + 1, n, h, _ => by
    have : n = 0 := by simpa using h
    simp [dzF, this]
  | f + 1, 0, n, _, h => by
    have : n = 0 := by simpa using h
    simp [dzF, this]
  | f + 1, g + 1, n, h1, h2 => by
    rw [dzF, dzF]
    by_cases h : n = 0
    · simp [h]
    · rw [if_neg h, if_neg h]
      have e : n / b ≤ n / 2 := Nat.div_le_div_left hb (by decide)
      rw [Nat.pow_succ] at h1 h2
      rw [dzF_any b hb f g (n / b) (by omega) (by omega)]
theorem lt_log2 (n : Nat) : n < 2 ^ (n.log2 + 1) := Nat.lt_log2_self
theorem dz_zero (b : Nat) : dz b 0 = [] := by simp [dz, dzF]
theorem dz_pos (b : Nat) (hb : 2 ≤ b) (n : Nat) (h : n ≠ 0) : dz b n = ((n % b : Nat) : Int) :: dz b (n / b) := by
  unfold dz
  rw [dzF, if_neg h]
  congr 1
  have e : n / b ≤ n / 2 := Nat.div_le_div_left hb (by decide)
  have := lt_log2 n
  rw [Nat.pow_succ] at this
  exact dzF_any b hb _ _ _ (by omega) (lt_log2 _)
theorem dz_induct (b : Nat) (hb : 2 ≤ b) {C : Nat → Prop} (h0 : C 0) (h1 : ∀ n, n ≠ 0 → C (n / b) → C n) : ∀ n, C n := by
  intro n
  induction n using Nat.strongRecOn with
  | _ n ih =>
    by_cases h : n = 0
    · rw [h]; exact h0
    · exact h1 n h (ih _ (Nat.div_lt_self (by omega) hb))
theorem vz_dz (b : Nat) (hb : 2 ≤ b) : ∀ n, vz b (dz b n) = n := by
  refine dz_induct b hb (by simp [dz_zero, vz]) ?_
  intro n hn ih
  rw [dz_pos b hb n hn, vz, ih]
  have := Nat.mod_add_div n b
  omega
theorem dz_digit (b : Nat) (hb : 2 ≤ b) : ∀ n, ∀ d ∈ dz b n, 0 ≤ d ∧ d < b := by
  refine dz_induct b hb (by simp [dz_zero]) ?_
  intro n hn ih d hd
  rw [dz_pos b hb n hn, List.mem_cons] at hd
  rcases hd with rfl | hd
  · have := Nat.mod_lt n (show 0 < b by omega)
    omega
  · exact ih d hd
theorem dz_nil (b : Nat) (hb : 2 ≤ b) (n : Nat) : dz b n = [] ↔ n = 0 := by
  constructor
  · intro h
    by_cases hn : n = 0
    · exact hn
    · rw [dz_pos b hb n hn] at h; simp at h
  · rintro rfl; exact dz_zero b
theorem dz_length_pos (b : Nat) (hb : 2 ≤ b) (n : Nat) : 0 < (dz b n).length ↔ n ≠ 0 := by
  rw [List.length_pos_iff, Ne, dz_nil b hb]
theorem vz_nonneg (b : Int) (hb : 0 ≤ b) : ∀ l : List Int, (∀ d ∈ l, 0 ≤ d) → 0 ≤ vz b l
  | [], _ => by simp [vz]
  | d :: l, h => by
    have h1 := vz_nonneg b hb l (fun x hx => h x (List.mem_cons_of_mem _ hx))
    have h2 := h d (List.mem_cons_self ..)
    have := Int.mul_nonneg hb h1
    rw [vz]; omega
theorem mul_step (b : Nat) (x y : Int) (h : x + 1 ≤ y) : (b : Int) * x + b ≤ b * y := by
  have := Int.mul_le_mul_of_nonneg_left h (show (0 : Int) ≤ b by omega)
  rw [Int.mul_add, Int.mul_one] at this
  exact this
theorem vz_lt (b : Nat) : ∀ l : List Int, (∀ d ∈ l, 0 ≤ d ∧ d < b) → vz b l < (b ^ l.length : Nat)
  | [], _ => by simp [vz]
  | d :: l, h => by
    have h1 := vz_lt b l (fun x hx => h x (List.mem_cons_of_mem _ hx))
    have h2 := h d (List.mem_cons_self ..)
    have := mul_step b _ _ h1
    rw [vz, List.length_cons, Nat.pow_succ, Nat.mul_comm]
    rw [Int.natCast_mul]; omega
theorem vz_zeros (b : Int) : ∀ l : List Int, (∀ d ∈ l, d = 0) → vz b l = 0
  | [], _ => rfl
  | d :: l, h => by
    rw [vz, vz_zeros b l (fun x hx => h x (List.mem_cons_of_mem _ hx)), h d (List.mem_cons_self ..)]; simp
theorem vz_append (b : Int) (y : List Int) : ∀ l : List Int, vz b (l ++ y) = vt b l (vz b y)
  | [] => rfl
  | d :: l => by rw [List.cons_append, vz, vt, vz_append b y l]
theorem vt_snoc (b : Int) (g t : Int) : ∀ l : List Int, vt b (l ++ [g]) t = vt b l (g + b * t)
  | [] => rfl
  | d :: l => by rw [List.cons_append, vt, vt, vt_snoc b g t l]
theorem vt_zero (b : Int) : ∀ l : List Int, vt b l 0 = vz b l
  | [] => rfl
  | d :: l => by rw [vt, vz, vt_zero b l]
theorem vt_eq (b : Int) (t : Int) : ∀ l : List Int, vt b l t = vz b l + b ^ l.length * t
  | [] => by simp [vt, vz]
  | d :: l => by
    rw [vt, vz, vt_eq b t l, List.length_cons, Int.mul_add, Int.pow_succ, ← Int.mul_assoc, Int.mul_comm b (b ^ _)]; omega

/-- Digits without the zeros above them are those of their value. -/
theorem canon (b : Nat) (hb : 2 ≤ b) : ∀ (l : List Int) (m : Nat), (∀ d ∈ l, 0 ≤ d ∧ d < b) → m ≤ l.length → (∀ i, m ≤ i → l[i]?.getD 0 = 0) → (m = 0 ∨ l[m - 1]?.getD 0 ≠ 0) →
    l.take m = dz b (vz b l).toNat
  | [], m, _, hm, _, _ => by simp [vz, dz_zero]
  | d :: l, 0, _, _, hz, _ => by
    rw [vz_zeros]
    · simp [dz_zero]
    · intro x hx
      obtain ⟨i, hi, rfl⟩ := List.getElem_of_mem hx
      have := hz i (Nat.zero_le _)
      rw [List.getElem?_eq_getElem hi] at this
      simpa using this
  | d :: l, m + 1, hd, hm, hz, hl => by
    have h1 := hd d (List.mem_cons_self ..)
    have hd' : ∀ x ∈ l, 0 ≤ x ∧ x < (b : Int) := fun x hx => hd x (List.mem_cons_of_mem _ hx)
    have hz' : ∀ i, m ≤ i → l[i]?.getD 0 = 0 := fun i hi => by simpa using hz (i + 1) (by omega)
    have hl' : m = 0 ∨ l[m - 1]?.getD 0 ≠ 0 := by
      cases m with
      | zero => exact .inl rfl
      | succ m => right; simpa using hl
    have ih := canon b hb l m hd' (by simpa using hm) hz' hl'
    have h0 := vz_nonneg b (by omega) l (fun x hx => (hd' x hx).1)
    obtain ⟨v, hv⟩ := Int.eq_ofNat_of_zero_le h0
    rw [hv, Int.toNat_natCast] at ih
    obtain ⟨k, rfl⟩ := Int.eq_ofNat_of_zero_le h1.1
    have e : (vz b (((k : Nat) : Int) :: l)).toNat = k + b * v := by
      rw [vz, hv]
      have : ((b : Int) * v) = ((b * v : Nat) : Int) := by rw [Int.natCast_mul]
      omega
    have hkb : k < b := by omega
    have hne : k + b * v ≠ 0 := by
      intro h
      have hk : k = 0 := by omega
      have hbv : b * v = 0 := by omega
      have hv0 : v = 0 := by
        rcases Nat.mul_eq_zero.1 hbv with h | h <;> omega
      rw [hv0, dz_zero] at ih
      cases m with
      | zero => simp [hk] at hl
      | succ m =>
        rw [List.take_eq_nil_iff] at ih
        rcases ih with h | h
        · omega
        · subst h; simp at hm
    rw [e, dz_pos b hb _ hne, List.take_succ_cons, ih]
    congr 1
    · rw [Nat.add_mul_mod_self_left, Nat.mod_eq_of_lt hkb]
    · rw [Nat.add_mul_div_left _ _ (by omega), Nat.div_eq_of_lt hkb, Nat.zero_add]

theorem dz_last (b : Nat) (hb : 2 ≤ b) : ∀ n, n ≠ 0 → (dz b n)[(dz b n).length - 1]?.getD 0 ≠ 0 := by
  refine dz_induct b hb (by simp) ?_
  intro n hn ih _
  rw [dz_pos b hb n hn]
  by_cases h : n / b = 0
  · rw [h, dz_zero]
    have := Nat.mod_add_div n b
    rw [h] at this
    simp; omega
  · have := ih h
    have hp := (dz_length_pos b hb (n / b)).2 h
    rw [List.length_cons, show (dz b (n / b)).length + 1 - 1 = ((dz b (n / b)).length - 1) + 1 by omega, List.getElem?_cons_succ]
    exact this
/-- Digits whose highest one is not 0 are those of their value. -/
theorem canon_all (b : Nat) (hb : 2 ≤ b) (l : List Int) (hd : ∀ d ∈ l, 0 ≤ d ∧ d < b) (h : l = [] ∨ l[l.length - 1]?.getD 0 ≠ 0) : l = dz b (vz b l).toNat := by
  have := canon b hb l l.length hd (Nat.le_refl _) (fun i hi => by rw [List.getElem?_eq_none hi]; rfl) (by rcases h with rfl | h; exact .inl rfl; exact .inr h)
  rwa [List.take_length] at this

theorem dz_length_le (b : Nat) (hb : 2 ≤ b) : ∀ (k n : Nat), n < b ^ k → (dz b n).length ≤ k
  | 0, n, h => by
    have : n = 0 := by simpa using h
    simp [this, dz_zero]
  | k + 1, n, h => by
    by_cases hn : n = 0
    · simp [hn, dz_zero]
    · rw [dz_pos b hb n hn, List.length_cons]
      have := dz_length_le b hb k (n / b) (by rw [Nat.div_lt_iff_lt_mul (by omega)]; rwa [Nat.pow_succ] at h)
      omega
theorem dz_lt (b : Nat) (hb : 2 ≤ b) (n : Nat) : n < b ^ (dz b n).length := by
  have := vz_lt b (dz b n) (dz_digit b hb n)
  rw [vz_dz b hb] at this
  omega
theorem dz_length_iff (b : Nat) (hb : 2 ≤ b) (k n : Nat) : (dz b n).length ≤ k ↔ n < b ^ k :=
  ⟨fun h => Nat.lt_of_lt_of_le (dz_lt b hb n) (Nat.pow_le_pow_right (by omega) h), dz_length_le b hb k n⟩
theorem dz_length_mono (b : Nat) (hb : 2 ≤ b) (m n : Nat) (h : m ≤ n) : (dz b m).length ≤ (dz b n).length :=
  dz_length_le b hb _ _ (Nat.lt_of_le_of_lt h (dz_lt b hb n))

/-- The higher digit decides. -/
theorem vz_less (b : Nat) : ∀ (x y : List Int) (i : Nat), (∀ d ∈ x, 0 ≤ d ∧ d < b) → (∀ d ∈ y, 0 ≤ d ∧ d < b) → x.length = y.length → i < x.length → x[i]?.getD 0 < y[i]?.getD 0 →
    (∀ j, i < j → x[j]?.getD 0 = y[j]?.getD 0) → vz b x < vz b y
  | [], _, _, _, _, _, hi, _, _ => by simp at hi
  | _ :: _, [], _, _, _, hl, _, _, _ => by simp at hl
  | d :: x, e :: y, 0, hx, hy, hl, _, h, hj => by
    have : x = y := by
      apply List.ext_getElem (by simpa using hl)
      intro i h1 h2
      have := hj (i + 1) (by omega)
      simpa [List.getElem?_eq_getElem h1, List.getElem?_eq_getElem h2] using this
    subst this
    simp at h
    simp [vz]; omega
  | d :: x, e :: y, i + 1, hx, hy, hl, hi, h, hj => by
    have ih := vz_less b x y i (fun z hz => hx z (List.mem_cons_of_mem _ hz)) (fun z hz => hy z (List.mem_cons_of_mem _ hz)) (by simpa using hl) (by simpa using hi) (by simpa using h)
      (fun j hj' => by simpa using hj (j + 1) (by omega))
    have h1 := hx d (List.mem_cons_self ..)
    have h2 := hy e (List.mem_cons_self ..)
    have := mul_step b _ _ ih
    rw [vz, vz]; omega
/-- What comparing two numbers answers. -/
def cmpN (m n : Nat) : Int := if m < n then -1 else if n < m then 1 else 0
def cmpZ (m n : Int) : Int := if m < n then -1 else if n < m then 1 else 0
theorem cmpN_len (b : Nat) (hb : 2 ≤ b) (m n : Nat) (h : (dz b m).length ≠ (dz b n).length) : cmpN m n = if (dz b m).length < (dz b n).length then -1 else 1 := by
  unfold cmpN
  rcases Nat.lt_trichotomy m n with h1 | h1 | h1
  · have := dz_length_mono b hb m n (by omega)
    rw [if_pos h1, if_pos (by omega)]
  · subst h1; exact absurd rfl h
  · have := dz_length_mono b hb n m (by omega)
    rw [if_neg (by omega), if_pos h1, if_neg (by omega)]
theorem cmpN_digit (b : Nat) (hb : 2 ≤ b) (m n : Nat) (i : Nat) (hl : (dz b m).length = (dz b n).length) (hi : i < (dz b m).length) (h : (dz b m)[i]?.getD 0 ≠ (dz b n)[i]?.getD 0)
    (hj : ∀ j, i < j → (dz b m)[j]?.getD 0 = (dz b n)[j]?.getD 0) : cmpN m n = if (dz b m)[i]?.getD 0 < (dz b n)[i]?.getD 0 then -1 else 1 := by
  unfold cmpN
  by_cases h1 : (dz b m)[i]?.getD 0 < (dz b n)[i]?.getD 0
  · have := vz_less b _ _ i (dz_digit b hb m) (dz_digit b hb n) hl hi h1 hj
    rw [vz_dz b hb, vz_dz b hb] at this
    rw [if_pos h1, if_pos (by omega)]
  · have := vz_less b _ _ i (dz_digit b hb n) (dz_digit b hb m) hl.symm (by omega) (by omega) (fun j hj' => (hj j hj').symm)
    rw [vz_dz b hb, vz_dz b hb] at this
    rw [if_neg h1, if_neg (by omega), if_pos (by omega)]
theorem dz_inj (b : Nat) (hb : 2 ≤ b) (m n : Nat) (h : dz b m = dz b n) : m = n := by
  have := vz_dz b hb m
  rw [h, vz_dz b hb n] at this
  omega
theorem cmpN_same (b : Nat) (hb : 2 ≤ b) (m n : Nat) (hl : (dz b m).length = (dz b n).length) (hj : ∀ j : Nat, (dz b m)[j]?.getD 0 = (dz b n)[j]?.getD 0) : cmpN m n = 0 := by
  have : dz b m = dz b n := by
    apply List.ext_getElem hl
    intro i h1 h2
    have := hj i
    simpa [List.getElem?_eq_getElem h1, List.getElem?_eq_getElem h2] using this
  have := dz_inj b hb m n this
  subst this
  simp [cmpN]
end Go.Proofs.YtebjjgbdiabapaaGreatDoor
