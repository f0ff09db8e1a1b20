/- Fractions in lowest terms, as the core library has them: what the layer reckons, without a program. -/
import Derived.Test.YtcjcafekacceiaaGreatDoorJ
namespace Go.Proofs.YtcjcafekacceiaaGreatDoor
open Go.RowKit


theorem gcd_gcdZ (x y : Int) : ((y.gcd x : Nat) : Int) = gcdZ x y := by
  unfold gcdZ Int.gcd; rw [Nat.gcd_comm]
/-- The divisor with the sign of the denominator. -/
def sgz (n d : Int) : Int := if d < 0 then 0 - gcdZ n d else gcdZ n d
theorem gcdZ_pos' {n d : Int} (h : d ≠ 0) : 0 < gcdZ n d := by
  unfold gcdZ
  have : 0 < Nat.gcd n.natAbs d.natAbs := Nat.gcd_pos_of_pos_right _ (by omega)
  omega
theorem gcdZ_dl (n d : Int) : gcdZ n d ∣ n := by
  unfold gcdZ; exact Int.ofNat_dvd_left.2 (Nat.gcd_dvd_left _ _)
theorem gcdZ_dr (n d : Int) : gcdZ n d ∣ d := by
  unfold gcdZ; exact Int.ofNat_dvd_left.2 (Nat.gcd_dvd_right _ _)
theorem sgz_ne {n d : Int} (h : d ≠ 0) : sgz n d ≠ 0 := by
  have := gcdZ_pos' (n := n) h
  unfold sgz; split <;> omega
theorem red_num (n d : Int) (h : d ≠ 0) : n / sgz n d = (Rat.divInt n d).num := by
  rw [Rat.num_divInt, gcd_gcdZ]
  unfold sgz
  by_cases hd : d < 0
  · rw [if_pos hd, Int.sign_eq_neg_one_of_neg hd]
    rw [show 0 - gcdZ n d = -gcdZ n d by omega, Int.ediv_neg, Int.neg_one_mul, Int.neg_ediv_of_dvd (gcdZ_dl n d)]
  · rw [if_neg hd, Int.sign_eq_one_of_pos (by omega), Int.one_mul]
theorem red_den (n d : Int) (h : d ≠ 0) : d / sgz n d = ((Rat.divInt n d).den : Int) := by
  rw [Rat.den_divInt, if_neg h, Int.natCast_ediv, gcd_gcdZ]
  unfold sgz
  by_cases hd : d < 0
  · rw [if_pos hd, show (d.natAbs : Int) = -d by omega, show 0 - gcdZ n d = -gcdZ n d by omega, Int.ediv_neg, Int.neg_ediv_of_dvd (gcdZ_dr n d)]
  · rw [if_neg hd, show (d.natAbs : Int) = d by omega]
theorem big_quo {n g : Int} (h : Big n) : Big (n / g) := by
  unfold Big at *
  have := Int.natAbs_ediv_le_natAbs n g
  omega
theorem big_gcd {n d : Int} (hn : Big n) (hd : Big d) : Big (gcdZ n d) := by
  unfold Big at *
  unfold gcdZ
  rw [Int.natAbs_natCast]
  rcases Nat.eq_zero_or_pos n.natAbs with h | h
  · rw [h, Nat.gcd_zero_left]; exact hd
  · exact Nat.lt_of_le_of_lt (Nat.gcd_le_left _ h) hn
theorem big_sub0 {z : Int} (h : Big z) : Big (0 - z) := by unfold Big at *; omega
theorem big_dnum {n d : Int} (h : d ≠ 0) (hn : Big n) : Big (Rat.divInt n d).num := by rw [← red_num n d h]; exact big_quo hn
theorem big_dden {n d : Int} (h : d ≠ 0) (hd : Big d) : Big ((Rat.divInt n d).den : Int) := by rw [← red_den n d h]; exact big_quo hd

/-- Both integers of a fraction have at most 200 digits. -/
def BQ (q : Rat) : Prop := Big q.num ∧ Big (q.den : Int)
theorem bq_div {n d : Int} (h : d ≠ 0) (hn : Big n) (hd : Big d) : BQ (Rat.divInt n d) := ⟨big_dnum h hn, big_dden h hd⟩
theorem q_den_ne (q : Rat) : (q.den : Int) ≠ 0 := by have := q.den_pos; omega
theorem q_div (q : Rat) : Rat.divInt q.num q.den = q := Rat.num_divInt_den q
theorem q_gcd (q : Rat) : gcdZ q.num q.den = 1 := by
  unfold gcdZ
  have := q.reduced
  rw [Int.natAbs_natCast]
  exact congrArg _ this
/-- An integer and a positive one without a common divisor are those of a fraction. -/
theorem q_of {n d : Int} (hd : 0 < d) (hg : gcdZ n d = 1) : ∃ q : Rat, n = q.num ∧ d = (q.den : Int) := by
  refine ⟨⟨n, d.toNat, by omega, ?_⟩, rfl, by show d = ((d.toNat : Nat) : Int); omega⟩
  unfold gcdZ at hg
  show Nat.gcd _ _ = 1
  rw [show d.toNat = d.natAbs by omega]
  exact Int.ofNat.inj hg

theorem add_div (p q : Rat) : Rat.divInt (p.num * q.den + q.num * p.den) ((p.den : Int) * q.den) = p + q := by
  rw [Rat.add_def', ← Rat.divInt_ofNat]; simp
theorem sub_div (p q : Rat) : Rat.divInt (p.num * q.den - q.num * p.den) ((p.den : Int) * q.den) = p - q := by
  rw [Rat.sub_def', ← Rat.divInt_ofNat]; simp
theorem mul_div (p q : Rat) : Rat.divInt (p.num * q.num) ((p.den : Int) * q.den) = p * q := by
  rw [Rat.mul_def', ← Rat.divInt_ofNat]; simp
theorem div_div (p q : Rat) : Rat.divInt (p.num * q.den) ((p.den : Int) * q.num) = p / q := by
  rw [Rat.div_def, Rat.inv_def]
  conv => rhs; rw [← Rat.num_divInt_den p]
  rw [Rat.divInt_mul_divInt]

/-- How two fractions are ordered. -/
def cmpQ (p q : Rat) : Int := if p < q then -1 else if q < p then 1 else 0
theorem cmpQ_cross (p q : Rat) : cmpQ p q = cmpZ (p.num * q.den) (q.num * p.den) := by
  unfold cmpQ cmpZ
  simp only [Rat.lt_iff]
theorem cmpQ_div {n d m c : Int} (hd : 0 < d) (hc : 0 < c) : cmpQ (Rat.divInt n d) (Rat.divInt m c) = cmpZ (n * c) (m * d) := by
  have key : ∀ {n d m c : Int}, 0 < d → 0 < c → (Rat.divInt n d < Rat.divInt m c ↔ n * c < m * d) := by
    intro n d m c hd hc
    have h1 : (Rat.divInt n d) = (n : Rat) / (d : Rat) := Rat.divInt_eq_div n d
    have h2 : (Rat.divInt m c) = (m : Rat) / (c : Rat) := Rat.divInt_eq_div m c
    have hd' : (0 : Rat) < (d : Rat) := Rat.intCast_pos.2 hd
    have hc' : (0 : Rat) < (c : Rat) := Rat.intCast_pos.2 hc
    rw [h1, h2, Rat.div_lt_iff hd', Rat.div_def, Rat.mul_assoc, Rat.mul_comm _ (d : Rat), ← Rat.mul_assoc, ← Rat.div_def, Rat.lt_div_iff hc', ← Rat.intCast_mul, ← Rat.intCast_mul, Rat.intCast_lt_intCast]
  unfold cmpQ cmpZ
  simp only [key hd hc, key hc hd]

/-- Rounded down, and up: so many parts of t. -/
def dnk (q : Rat) (t : Int) : Int := q.num * t / q.den
def upk (q : Rat) (t : Int) : Int := if q.num * t % q.den = 0 then q.num * t / q.den else q.num * t / q.den + 1
def dnQ (q : Rat) (t : Int) : Rat := Rat.divInt (dnk q t) t
def upQ (q : Rat) (t : Int) : Rat := Rat.divInt (upk q t) t
theorem cross_div {k t : Int} (ht : t ≠ 0) : (Rat.divInt k t).num * t = k * (Rat.divInt k t).den := by
  have h := Rat.num_divInt_den (Rat.divInt k t)
  exact (Rat.divInt_eq_divInt_iff (q_den_ne _) ht).1 h
theorem q_den_pos (q : Rat) : (0 : Int) < (q.den : Int) := by have := q.den_pos; omega
theorem on_grid {k t : Int} (ht : 0 < t) : (Rat.divInt k t).num * t / (Rat.divInt k t).den = k ∧ (Rat.divInt k t).num * t % (Rat.divInt k t).den = 0 := by
  rw [cross_div (by omega)]
  exact ⟨Int.mul_ediv_cancel _ (q_den_ne _), Int.mul_emod_left _ _⟩
theorem dn_again (q : Rat) {t : Int} (ht : 0 < t) : dnQ (upQ q t) t = upQ q t := by
  unfold dnQ upQ dnk; rw [(on_grid ht).1]
theorem up_again (q : Rat) {t : Int} (ht : 0 < t) : upQ (dnQ q t) t = dnQ q t := by
  unfold upQ dnQ upk; rw [if_pos (on_grid ht).2, (on_grid ht).1]
theorem dn_neg (q : Rat) (t : Int) : dnk (-q) t = -upk q t := by
  unfold dnk upk
  rw [Rat.neg_num, Rat.neg_den]
  have hd := q_den_pos q
  generalize (q.den : Int) = d at *
  generalize hm : q.num * t = m
  rw [Int.neg_mul, hm]
  by_cases h : m % d = 0
  · rw [if_pos h]
    exact Int.neg_ediv_of_dvd (Int.dvd_of_emod_eq_zero h)
  · rw [if_neg h]
    have h1 := Int.emod_nonneg m (show d ≠ 0 by omega)
    have h2 := Int.emod_lt_of_pos m hd
    have h3 := Int.mul_ediv_add_emod m d
    have e1 : (-(m / d + 1)) * d = -(d * (m / d)) - d := by rw [Int.neg_mul, Int.add_mul, Int.mul_comm]; omega
    have e2 : (-(m / d + 1) + 1) * d = -(d * (m / d)) := by rw [show -(m / d + 1) + 1 = -(m / d) by omega, Int.neg_mul, Int.mul_comm]
    generalize m / d = z at *
    have l1 : -(z + 1) ≤ -m / d := (Int.le_ediv_iff_mul_le hd).2 (by rw [e1]; omega)
    have l2 : -m / d < -(z + 1) + 1 := (Int.ediv_lt_iff_lt_mul hd).2 (by rw [e2]; omega)
    omega
theorem dn_neg_q (q : Rat) (t : Int) : -(dnQ (-q) t) = upQ q t := by
  unfold dnQ upQ; rw [dn_neg, Rat.neg_divInt, Int.neg_neg]
theorem dn_le (q : Rat) {t : Int} (ht : 0 < t) : cmpQ (dnQ q t) q = if q.num * t % q.den = 0 then 0 else -1 := by
  have e : cmpQ (dnQ q t) q = cmpQ (Rat.divInt (dnk q t) t) (Rat.divInt q.num q.den) := by rw [q_div]; rfl
  rw [e, cmpQ_div ht (q_den_pos q)]
  have hd := q_den_pos q
  unfold dnk cmpZ
  generalize (q.den : Int) = d at *
  generalize q.num * t = m
  have h1 := Int.emod_nonneg m (show d ≠ 0 by omega)
  have h3 := Int.mul_ediv_add_emod m d
  rw [Int.mul_comm (m / d) d]
  by_cases h : m % d = 0
  · rw [if_pos h, if_neg (by omega), if_neg (by omega)]
  · rw [if_neg h, if_pos (by omega)]
theorem up_ge (q : Rat) {t : Int} (ht : 0 < t) : cmpQ (upQ q t) q = if q.num * t % q.den = 0 then 0 else 1 := by
  have e : cmpQ (upQ q t) q = cmpQ (Rat.divInt (upk q t) t) (Rat.divInt q.num q.den) := by rw [q_div]; rfl
  rw [e, cmpQ_div ht (q_den_pos q)]
  have hd := q_den_pos q
  unfold upk cmpZ
  generalize (q.den : Int) = d at *
  generalize q.num * t = m
  have h1 := Int.emod_nonneg m (show d ≠ 0 by omega)
  have h2 := Int.emod_lt_of_pos m hd
  have h3 := Int.mul_ediv_add_emod m d
  by_cases h : m % d = 0
  · rw [if_pos h, if_pos h, Int.mul_comm (m / d) d, if_neg (by omega), if_neg (by omega)]
  · rw [if_neg h, if_neg h, Int.add_mul, Int.mul_comm (m / d) d, if_neg (by omega), if_pos (by omega)]
theorem width_q (q : Rat) {t : Int} (ht : 0 < t) : upQ q t - dnQ q t = if q.num * t % q.den = 0 then 0 else Rat.divInt 1 t := by
  unfold upQ dnQ upk dnk
  by_cases h : q.num * t % q.den = 0
  · rw [if_pos h, if_pos h]; exact Rat.sub_self
  · rw [if_neg h, if_neg h, Rat.divInt_sub_divInt _ _ (by omega) (by omega), ← Int.sub_mul, show q.num * t / (q.den : Int) + 1 - q.num * t / (q.den : Int) = 1 by omega, Rat.divInt_mul_right (by omega)]
theorem mul_t (k : Int) {t : Int} (ht : 0 < t) : Rat.divInt k t * Rat.divInt t 1 = Rat.divInt k 1 := by
  rw [Rat.divInt_mul_divInt, Int.mul_comm t 1, Rat.divInt_mul_right (by omega)]
theorem q_int (k : Int) : (Rat.divInt k 1).num = k ∧ (Rat.divInt k 1).den = 1 := by
  rw [show (1 : Int) = ((1 : Nat) : Int) from rfl, Rat.divInt_ofNat]
  constructor
  · rw [Rat.num_mkRat]; simp
  · rw [Rat.den_mkRat]; simp
theorem t_inv {t : Int} (ht : 0 < t) : (Rat.divInt 1 t).num = 1 ∧ ((Rat.divInt 1 t).den : Int) = t := by
  have hg : gcdZ 1 t = 1 := by unfold gcdZ; rw [show (1 : Int).natAbs = 1 from rfl, Nat.gcd_one_left]; rfl
  obtain ⟨q, h1, h2⟩ := q_of ht hg
  have := q_div q
  rw [← h1, ← h2] at this
  rw [this]
  exact ⟨h1.symm, h2.symm⟩

theorem cmpQ_lt {p q : Rat} (h : p < q) : cmpQ p q = -1 := by unfold cmpQ; rw [if_pos h]
theorem cmpQ_gt {p q : Rat} (h : q < p) : cmpQ p q = 1 := by
  unfold cmpQ; rw [if_neg (fun h2 => Rat.not_lt.2 (Rat.le_of_lt h) h2), if_pos h]
theorem cmpQ_self (p : Rat) : cmpQ p p = 0 := by unfold cmpQ; rw [if_neg Rat.lt_irrefl, if_neg Rat.lt_irrefl]
theorem q_tri (p q : Rat) : p < q ∨ p = q ∨ q < p := by
  by_cases h : p < q
  · exact .inl h
  · rcases Rat.le_iff_lt_or_eq.1 (Rat.not_lt.1 h) with h | h
    · exact .inr (.inr h)
    · exact .inr (.inl h.symm)
theorem q_lt_trans {a b c : Rat} (h1 : a < b) (h2 : b < c) : a < c :=
  Rat.not_le.1 fun h => Rat.not_le.2 h1 (Rat.le_trans (Rat.le_of_lt h2) h)
theorem q_ne_of_lt {p q : Rat} (h : p < q) : p ≠ q := Rat.ne_of_lt h
/-- The order of fractions, in three ways. -/
theorem cmpQ_ways (p q : Rat) : (p < q ∧ cmpQ p q = -1 ∧ cmpQ q p = 1 ∧ p ≠ q) ∨ (p = q ∧ cmpQ p q = 0 ∧ cmpQ q p = 0) ∨ (q < p ∧ cmpQ p q = 1 ∧ cmpQ q p = -1 ∧ p ≠ q) := by
  rcases q_tri p q with h | rfl | h
  · exact .inl ⟨h, cmpQ_lt h, cmpQ_gt h, Rat.ne_of_lt h⟩
  · exact .inr (.inl ⟨rfl, cmpQ_self _, cmpQ_self _⟩)
  · exact .inr (.inr ⟨h, cmpQ_gt h, cmpQ_lt h, Rat.ne_of_gt h⟩)
theorem cmpQ_sub (a b : Rat) : cmpQ (a - b) 0 = cmpQ a b := by
  have h1 : (a - b < 0) ↔ a < b := by
    rw [Rat.sub_eq_add_neg, ← Rat.add_lt_add_right (c := b), Rat.add_assoc, Rat.neg_add_cancel, Rat.add_zero, Rat.zero_add]
  have h2 : (0 < a - b) ↔ b < a := by
    rw [Rat.sub_eq_add_neg, ← Rat.add_lt_add_right (c := b), Rat.add_assoc, Rat.neg_add_cancel, Rat.add_zero, Rat.zero_add]
  unfold cmpQ
  simp only [h1, h2]
theorem cmpQ_add (a b t : Rat) : cmpQ (a + t) (b + t) = cmpQ a b := by
  unfold cmpQ
  simp only [Rat.add_lt_add_right]
theorem cmpQ_mul (a b t : Rat) : cmpQ (a * t) (b * t) = cmpQ a b * cmpQ t 0 := by
  rcases q_tri t 0 with h | rfl | h
  · have h' : 0 < -t := by rw [Rat.lt_neg_iff]; exact h
    have e : ∀ x y : Rat, x * t < y * t ↔ y < x := fun x y => by
      rw [← Rat.neg_lt_neg_iff, ← Rat.mul_neg, ← Rat.mul_neg, Rat.mul_lt_mul_right h']
    rw [cmpQ_lt h]
    rcases cmpQ_ways a b with ⟨h1, h2, _⟩ | ⟨rfl, h2, _⟩ | ⟨h1, h2, _⟩
    · rw [h2, cmpQ_gt ((e _ _).2 h1)]; rfl
    · rw [h2, cmpQ_self]; rfl
    · rw [h2, cmpQ_lt ((e _ _).2 h1)]; rfl
  · rw [Rat.mul_zero, Rat.mul_zero, cmpQ_self, Int.mul_zero]
  · rw [cmpQ_gt h, Int.mul_one]
    unfold cmpQ
    simp only [Rat.mul_lt_mul_right h]
theorem cross_add {n d m c : Int} (hd : d ≠ 0) (hc : c ≠ 0) : Rat.divInt n d + Rat.divInt m c = Rat.divInt (n * c + m * d) (d * c) := Rat.divInt_add_divInt _ _ hd hc
theorem cross_sub {n d m c : Int} (hd : d ≠ 0) (hc : c ≠ 0) : Rat.divInt n d - Rat.divInt m c = Rat.divInt (n * c - m * d) (d * c) := Rat.divInt_sub_divInt _ _ hd hc
theorem cross_mul {n d m c : Int} : Rat.divInt n d * Rat.divInt m c = Rat.divInt (n * m) (d * c) := Rat.divInt_mul_divInt _ _
theorem cross_quo {n d m c : Int} : Rat.divInt n d / Rat.divInt m c = Rat.divInt (n * c) (d * m) := by rw [Rat.div_def, Rat.inv_divInt, Rat.divInt_mul_divInt]
/-- The integers of a fraction are at most those that it is made of. -/
theorem num_le {n d : Int} (h : d ≠ 0) : (Rat.divInt n d).num.natAbs ≤ n.natAbs := by rw [← red_num n d h]; exact Int.natAbs_ediv_le_natAbs _ _
theorem den_le {n d : Int} (h : d ≠ 0) : (Rat.divInt n d).den ≤ d.natAbs := by
  have := red_den n d h
  have h2 := Int.natAbs_ediv_le_natAbs d (sgz n d)
  omega
theorem num_zero {n d : Int} (h : d ≠ 0) : (Rat.divInt n d).num = 0 ↔ n = 0 := by
  rw [Rat.num_eq_zero]
  constructor
  · intro e
    have := cross_div (k := n) h
    rw [e] at this
    simp at this
    exact this.symm
  · rintro rfl; exact Rat.zero_divInt _
/-- One step of the comparison of continued fractions. -/
theorem cf_step {n d m c : Int} (hd : 0 < d) (hc : 0 < c) :
    (n / d ≠ m / c → cmpZ (n * c) (m * d) = cmpZ (n / d) (m / c)) ∧ (n / d = m / c → cmpZ (n * c) (m * d) = cmpZ ((n % d) * c) ((m % c) * d)) := by
  have h1 := Int.mul_ediv_add_emod n d
  have h2 := Int.mul_ediv_add_emod m c
  have hr0 := Int.emod_nonneg n (show d ≠ 0 by omega)
  have hr1 := Int.emod_lt_of_pos n hd
  have hs0 := Int.emod_nonneg m (show c ≠ 0 by omega)
  have hs1 := Int.emod_lt_of_pos m hc
  generalize n / d = q at *
  generalize m / c = p at *
  generalize n % d = r at *
  generalize m % c = s at *
  have e1 : n * c = q * (d * c) + r * c := by rw [← h1, Int.add_mul, Int.mul_assoc, Int.mul_left_comm]
  have e2 : m * d = p * (d * c) + s * d := by rw [← h2, Int.add_mul, Int.mul_right_comm, Int.mul_comm, Int.mul_comm c d]
  have hrc0 : 0 ≤ r * c := Int.mul_nonneg hr0 (by omega)
  have hsd0 : 0 ≤ s * d := Int.mul_nonneg hs0 (by omega)
  have hrc : r * c < d * c := Int.mul_lt_mul_of_pos_right hr1 hc
  have hsd : s * d < d * c := by rw [Int.mul_comm d c]; exact Int.mul_lt_mul_of_pos_right hs1 hd
  rw [e1, e2]
  constructor
  · intro hne
    unfold cmpZ
    rcases Int.lt_or_gt_of_ne hne with h | h
    · have : (q + 1) * (d * c) ≤ p * (d * c) := Int.mul_le_mul_of_nonneg_right (by omega) (by omega)
      rw [Int.add_mul] at this
      rw [if_pos (by omega), if_pos h]
    · have : (p + 1) * (d * c) ≤ q * (d * c) := Int.mul_le_mul_of_nonneg_right (by omega) (by omega)
      rw [Int.add_mul] at this
      rw [if_neg (by omega), if_pos (by omega), if_neg (by omega), if_pos (by omega)]
  · rintro rfl
    unfold cmpZ
    generalize q * (d * c) = z
    by_cases h : r * c < s * d
    · rw [if_pos (by omega), if_pos h]
    · rw [if_neg (by omega), if_neg h]
      by_cases h' : s * d < r * c
      · rw [if_pos (by omega), if_pos h']
      · rw [if_neg (by omega), if_neg h']
/-- Where a remainder is 0, the remainders alone tell. -/
theorem cf_end {r s c d : Int} (hd : 0 < d) (hc : 0 < c) (hr : 0 ≤ r) (hs : 0 ≤ s) (h : r = 0 ∨ s = 0) : cmpZ (r * c) (s * d) = cmpZ r s := by
  unfold cmpZ
  rcases h with rfl | rfl
  · rw [Int.zero_mul]
    rcases Int.lt_or_eq_of_le hs with h | h
    · rw [if_pos (Int.mul_pos h hd), if_pos h]
    · rw [← h, Int.zero_mul]
  · rw [Int.zero_mul]
    rcases Int.lt_or_eq_of_le hr with h | h
    · rw [if_neg (by have := Int.mul_pos h hc; omega), if_pos (Int.mul_pos h hc), if_neg (by omega), if_pos h]
    · rw [← h, Int.zero_mul]
end Go.Proofs.YtcjcafekacceiaaGreatDoor
