/- What the layer's functions answer for fractions in lowest terms. -/
import Derived.Test.YtcjcafekacceiaaGreatDoorPa
namespace Go.Proofs.YtcjcafekacceiaaGreatDoor
open Go.RowKit

/-- A fraction's texts, as a pair. -/
abbrev qp (q : Rat) : Pr := (str q.num, str (q.den : Int))
theorem mkS_int {n d : Int} (hn : Big n) (hd : Big d) : mkS (str n) (str d) = if d = 0 then none else some (Rat.divInt n d) := by
  unfold mkS
  rw [(vS_str _).2 hn, (vS_str _).2 hd, nS_str hn, nS_str hd]
  by_cases h : d = 0
  · rw [if_pos h, h]; rfl
  · rw [if_neg h, decide_eq_true h]; rfl
theorem opE_z {f : Int → Int → Int} {x y : Int} (hx : Big x) (hy : Big y) : (opE f (str x) (str y) == 0) = bigB (f x y) := by
  rw [opE_ok hx hy]
  unfold resE
  cases bigB (f x y) <;> rfl
theorem opS_z {f : Int → Int → Int} {x y : Int} (hx : Big x) (hy : Big y) (h : bigB (f x y) = true) : opS f (str x) (str y) = str (f x y) := by
  rw [opS_ok hx hy, resS_ok ((bigB_iff _).1 h)]
def add2 (a b : Rat) : Option Rat := if bigB (a.num * b.den) && bigB (b.num * a.den) && bigB (a.num * b.den + b.num * a.den) && bigB ((a.den : Int) * b.den) then some (a + b) else none
def sub2 (a b : Rat) : Option Rat := if bigB (a.num * b.den) && bigB (b.num * a.den) && bigB (a.num * b.den - b.num * a.den) && bigB ((a.den : Int) * b.den) then some (a - b) else none
def mul2 (a b : Rat) : Option Rat := if bigB (a.num * b.num) && bigB ((a.den : Int) * b.den) then some (a * b) else none
def div2 (a b : Rat) : Option Rat := if bigB (a.num * b.den) && bigB ((a.den : Int) * b.num) && decide (b.num ≠ 0) then some (a / b) else none
theorem den_mul_ne (a b : Rat) : ((a.den : Int) * b.den) ≠ 0 := Int.mul_ne_zero (q_den_ne a) (q_den_ne b)
theorem sum_q {f : Int → Int → Int} {a b : Rat} (ha : BQ a) (hb : BQ b) : sumO f (qp a) (qp b) =
    if bigB (a.num * b.den) && bigB (b.num * a.den) && bigB (f (a.num * b.den) (b.num * a.den)) && bigB ((a.den : Int) * b.den) then some (Rat.divInt (f (a.num * b.den) (b.num * a.den)) ((a.den : Int) * b.den)) else none := by
  unfold sumO fVp
  rw [fV_str ha, fV_str hb, opE_z ha.1 hb.2, opE_z hb.1 ha.2]
  cases h1 : bigB (mulF a.num b.den) with
  | false => rfl
  | true =>
    cases h2 : bigB (mulF b.num a.den) with
    | false => rfl
    | true =>
      have g1 : Big (a.num * b.den) := (bigB_iff _).1 h1
      have g2 : Big (b.num * a.den) := (bigB_iff _).1 h2
      rw [opS_z ha.1 hb.2 h1, opS_z hb.1 ha.2 h2, opE_z g1 g2, opE_z ha.2 hb.2]
      cases h3 : bigB (f (mulF a.num b.den) (mulF b.num a.den)) with
      | false => rfl
      | true =>
        rw [opS_z g1 g2 h3]
        cases h4 : bigB (mulF a.den b.den) with
        | false => rfl
        | true =>
          rw [opS_z ha.2 hb.2 h4, mkS_int ((bigB_iff _).1 h3) ((bigB_iff _).1 h4), if_neg (den_mul_ne a b)]
          rfl
theorem add_q {a b : Rat} (ha : BQ a) (hb : BQ b) : sumO (fun x y => x + y) (qp a) (qp b) = add2 a b := by
  rw [sum_q ha hb, add_div]; rfl
theorem sub_q {a b : Rat} (ha : BQ a) (hb : BQ b) : sumO (fun x y => x - y) (qp a) (qp b) = sub2 a b := by
  rw [sum_q ha hb, sub_div]; rfl
theorem prod_q {a b : Rat} {x y : Int} (ha : BQ a) (hb : BQ b) (hx : Big x) (hy : Big y) : prodO (qp a) (qp b) (str x) (str y) =
    if bigB (a.num * x) && bigB ((a.den : Int) * y) && decide (y ≠ 0) then some (Rat.divInt (a.num * x) ((a.den : Int) * y)) else none := by
  unfold prodO fVp
  rw [fV_str ha, fV_str hb, opE_z ha.1 hx, opE_z ha.2 hy]
  cases h1 : bigB (mulF a.num x) with
  | false => rfl
  | true =>
    cases h2 : bigB (mulF a.den y) with
    | false => rfl
    | true =>
      rw [opS_z ha.1 hx h1, opS_z ha.2 hy h2, mkS_int ((bigB_iff _).1 h1) ((bigB_iff _).1 h2)]
      by_cases h : y = 0
      · subst h
        rw [if_pos (show mulF (a.den : Int) 0 = 0 from Int.mul_zero _)]; rfl
      · rw [if_neg (show mulF (a.den : Int) y ≠ 0 from Int.mul_ne_zero (q_den_ne a) h), decide_eq_true h]; rfl
theorem mul_q {a b : Rat} (ha : BQ a) (hb : BQ b) : prodO (qp a) (qp b) (str b.num) (str (b.den : Int)) = mul2 a b := by
  rw [prod_q ha hb hb.1 hb.2, mul_div, decide_eq_true (q_den_ne b), Bool.and_true]; rfl
theorem div_q {a b : Rat} (ha : BQ a) (hb : BQ b) : prodO (qp a) (qp b) (str (b.den : Int)) (str b.num) = div2 a b := by
  rw [prod_q ha hb hb.2 hb.1, div_div]; rfl
theorem none_sum (f : Int → Int → Int) {p q : Pr} (h : (fVp p && fVp q) = false) : sumO f p q = none := by unfold sumO; rw [h]; rfl
theorem none_prod {p q : Pr} (x y : ByteArray) (h : (fVp p && fVp q) = false) : prodO p q x y = none := by unfold prodO; rw [h]; rfl
theorem bq_of {q : Rat} {o : Option Rat} (h : o = some q) (p r : Pr) (x y : ByteArray) (hh : o = prodO p r x y) : BQ q := by
  subst hh
  unfold prodO at h
  split at h
  · exact mkS_bq h
  · cases h
theorem sum_bq {f : Int → Int → Int} {p r : Pr} {q : Rat} (h : sumO f p r = some q) : BQ q := by
  unfold sumO at h
  split at h
  · exact mkS_bq h
  · cases h
theorem prod_bq {p r : Pr} {x y : ByteArray} {q : Rat} (h : prodO p r x y = some q) : BQ q := bq_of h p r x y rfl
theorem round_bq {cs : ByteArray → ByteArray → ByteArray} {ce : ByteArray → ByteArray → Int} {p : Pr} {n : Int} {q : Rat} (h : roundO cs ce p n = some q) : BQ q := by
  unfold roundO at h
  split at h
  · exact mkS_bq h
  · cases h

def tenZ (n : Nat) : Int := ((10 ^ n : Nat) : Int)
theorem tenZ_pos (n : Nat) : 0 < tenZ n := by unfold tenZ; have := Nat.pow_pos (n := n) (show 0 < 10 by decide); omega
theorem big_ten {n : Nat} (h : n < 200) : Big (tenZ n) := by
  unfold Big tenZ
  rw [Int.natAbs_natCast]
  exact Nat.pow_lt_pow_right (by decide) h
theorem pwS_ten (n : Nat) : pwS n = str (tenZ n) := rfl
/-- Rounded down and up, with at most 30 places. -/
theorem dn_q {a : Rat} (ha : BQ a) {n : Nat} (hn : n ≤ 30) (hb : Big (a.num * tenZ n)) : roundO dnS dnE (qp a) n = some (dnQ a (tenZ n)) := by
  have hpl : plV (n : Int) = true := by unfold plV; simp; omega
  have hN : pwN (n : Int) = n := by unfold pwN; rw [hpl]; simp
  have hM : rdM (qp a) n = str (a.num * tenZ n) := by
    unfold rdM; rw [hN, pwS_ten]
    exact opS_z ha.1 (big_ten (by omega)) ((bigB_iff _).2 hb)
  have hdv : divV (str (a.num * tenZ n)) (str (a.den : Int)) = true := by
    unfold divV; rw [(vS_str _).2 hb, (vS_str _).2 ha.2, nS_str ha.2]; simpa using q_den_ne a
  unfold roundO rdQ rdR dnS dnE
  rw [hM, hN, pwS_ten, hpl]
  have e1 : (opE mulF (qp a).1 (str (tenZ n)) == 0) = true := by rw [opE_z ha.1 (big_ten (by omega))]; exact (bigB_iff _).2 hb
  rw [e1]
  unfold divE divQ fVp
  rw [hdv, fV_str ha, if_pos rfl, if_pos rfl, nS_str hb, nS_str ha.2, mkS_int (big_div _ _ hb) (big_ten (by omega)), if_neg (Int.ne_of_gt (tenZ_pos n))]
  rfl
theorem up_q {a : Rat} (ha : BQ a) {n : Nat} (hn : n ≤ 30) (hb : Big (a.num * tenZ n)) (hb2 : Big (a.num * tenZ n / a.den + 1)) : roundO upS upE (qp a) n = some (upQ a (tenZ n)) := by
  have hpl : plV (n : Int) = true := by unfold plV; simp; omega
  have hN : pwN (n : Int) = n := by unfold pwN; rw [hpl]; simp
  have hM : rdM (qp a) n = str (a.num * tenZ n) := by
    unfold rdM; rw [hN, pwS_ten]
    exact opS_z ha.1 (big_ten (by omega)) ((bigB_iff _).2 hb)
  have hdv : divV (str (a.num * tenZ n)) (str (a.den : Int)) = true := by
    unfold divV; rw [(vS_str _).2 hb, (vS_str _).2 ha.2, nS_str ha.2]; simpa using q_den_ne a
  have e1 : (opE mulF (qp a).1 (str (tenZ n)) == 0) = true := by rw [opE_z ha.1 (big_ten (by omega))]; exact (bigB_iff _).2 hb
  have eQ : rdQ (qp a) n = str (a.num * tenZ n / a.den) := by unfold rdQ divQ; rw [hM, hdv, if_pos rfl, nS_str hb, nS_str ha.2]
  have eR : rdR (qp a) n = str (a.num * tenZ n % a.den) := by unfold rdR divR; rw [hM, hdv, if_pos rfl, nS_str hb, nS_str ha.2]
  have eU : upE (rdQ (qp a) n) (rdR (qp a) n) = 0 ∧ upS (rdQ (qp a) n) (rdR (qp a) n) = str (upk a (tenZ n)) := by
    rw [eQ, eR]
    unfold upE upS upk
    rw [str0_eq]
    by_cases h : a.num * tenZ n % a.den = 0
    · rw [decide_eq_true h, if_pos rfl, if_pos rfl, if_pos h]; exact ⟨rfl, rfl⟩
    · rw [decide_eq_false h, if_neg h, str1, opE_ok (big_div _ _ hb) big1, opS_ok (big_div _ _ hb) big1, resE_ok hb2, resS_ok hb2]; exact ⟨rfl, rfl⟩
  have hbu : Big (upk a (tenZ n)) := by
    unfold upk
    split
    · exact big_div _ _ hb
    · exact hb2
  unfold roundO
  rw [eU.1, eU.2, hM, hN, pwS_ten, hpl, e1]
  unfold divE fVp
  rw [hdv, fV_str ha, if_pos rfl, mkS_int hbu (big_ten (by omega)), if_neg (Int.ne_of_gt (tenZ_pos n))]
  rfl
end Go.Proofs.YtcjcafekacceiaaGreatDoor
