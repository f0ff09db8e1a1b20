/- What the walk of RationalGrid rests on. -/
import Derived.Test.YtcjcafekacceiaaGreatDoorOd
import Derived.Test.YtcjcafekacceiaaGreatDoorLiW
namespace Go.Proofs.YtcjcafekacceiaaGreatDoor
open Go.RowKit
set_option linter.unusedVariables false

theorem neg_bq {q : Rat} (h : BQ q) : BQ (-q) := by
  unfold BQ at *
  rw [Rat.neg_num, Rat.neg_den]
  refine ⟨?_, h.2⟩
  have := h.1
  unfold Big at *
  rw [Int.natAbs_neg]; exact this
theorem sub0_q {q : Rat} (h : BQ q) : sub2 0 q = some (-q) := by
  have e0 : (0 : Rat).num = 0 := rfl
  have e1 : ((0 : Rat).den : Int) = 1 := rfl
  have n1 : bigB (-q.num) = true := (bigB_iff _).2 (by have := (neg_bq h).1; rw [Rat.neg_num] at this; exact this)
  unfold sub2
  rw [e0, e1, Int.zero_mul, Int.mul_one, Int.one_mul, Int.zero_sub, (bigB_iff _).2 h.1, (bigB_iff _).2 h.2, n1, show bigB 0 = true from by decide +kernel, Rat.sub_eq_add_neg, Rat.zero_add]
  rfl
/-- A multiple of the grid is no great fraction. -/
theorem gr_bd {k : Int} (hk : k.natAbs < 10 ^ 132) {n : Nat} (hn : n ≤ 30) : (Rat.divInt k (tenZ n)).num.natAbs < 10 ^ 132 ∧ (Rat.divInt k (tenZ n)).den ≤ 10 ^ 30 ∧ BQ (Rat.divInt k (tenZ n)) := by
  have ht := tenZ_pos n
  have h1 := num_le (n := k) (d := tenZ n) (by omega)
  have h2 := den_le (n := k) (d := tenZ n) (by omega)
  have h3 : (tenZ n).natAbs ≤ 10 ^ 30 := by unfold tenZ; rw [Int.natAbs_natCast]; exact Nat.pow_le_pow_right (by decide) hn
  have e1 : (10 : Nat) ^ 132 < 10 ^ 200 := by decide +kernel
  have e2 : (10 : Nat) ^ 30 < 10 ^ 200 := by decide +kernel
  refine ⟨Nat.lt_of_le_of_lt h1 hk, Nat.le_trans h2 h3, ?_, ?_⟩
  · exact Nat.lt_trans (Nat.lt_of_le_of_lt h1 hk) e1
  · unfold Big; rw [Int.natAbs_natCast]; exact Nat.lt_of_le_of_lt (Nat.le_trans h2 h3) e2
theorem gr_num {q : Rat} (hq : q.num.natAbs < 10 ^ 101) {n : Nat} (hn : n ≤ 30) : (q.num * tenZ n).natAbs < 10 ^ 131 := by
  have h3 : (tenZ n).natAbs ≤ 10 ^ 30 := by unfold tenZ; rw [Int.natAbs_natCast]; exact Nat.pow_le_pow_right (by decide) hn
  rw [Int.natAbs_mul]
  have h4 : 0 < (10 : Nat) ^ 30 := by decide
  exact Nat.lt_of_le_of_lt (Nat.mul_le_mul_left _ h3) (Nat.lt_of_lt_of_le (Nat.mul_lt_mul_of_pos_right hq h4) (by decide +kernel))
theorem gr_k {q : Rat} (hq : q.num.natAbs < 10 ^ 101) {n : Nat} (hn : n ≤ 30) : (dnk q (tenZ n)).natAbs < 10 ^ 132 ∧ (upk q (tenZ n)).natAbs < 10 ^ 132 ∧ Big (q.num * tenZ n) ∧ Big (q.num * tenZ n / q.den + 1) := by
  have h := gr_num hq hn
  have h1 := Int.natAbs_ediv_le_natAbs (q.num * tenZ n) q.den
  have e1 : (10 : Nat) ^ 131 + 1 < 10 ^ 132 := by decide +kernel
  have e2 : (10 : Nat) ^ 132 < 10 ^ 200 := by decide +kernel
  unfold dnk upk Big
  generalize q.num * tenZ n / q.den = z at *
  generalize q.num * tenZ n = m at *
  generalize (10 : Nat) ^ 131 = A at *
  generalize (10 : Nat) ^ 132 = B at *
  generalize (10 : Nat) ^ 200 = C at *
  refine ⟨by omega, ?_, by omega, by omega⟩
  split <;> omega
theorem gr_dn {q : Rat} (hb : BQ q) (hq : q.num.natAbs < 10 ^ 101) {n : Nat} (hn : n ≤ 30) : roundO dnS dnE (qp q) n = some (dnQ q (tenZ n)) := dn_q hb hn (gr_k hq hn).2.2.1
theorem gr_up {q : Rat} (hb : BQ q) (hq : q.num.natAbs < 10 ^ 101) {n : Nat} (hn : n ≤ 30) : roundO upS upE (qp q) n = some (upQ q (tenZ n)) := up_q hb hn (gr_k hq hn).2.2.1 (gr_k hq hn).2.2.2
theorem gr_dnb {q : Rat} (hq : q.num.natAbs < 10 ^ 101) {n : Nat} (hn : n ≤ 30) : BQ (dnQ q (tenZ n)) := (gr_bd (gr_k hq hn).1 hn).2.2
theorem gr_upb {q : Rat} (hq : q.num.natAbs < 10 ^ 101) {n : Nat} (hn : n ≤ 30) : BQ (upQ q (tenZ n)) := (gr_bd (gr_k hq hn).2.1 hn).2.2
/-- What lies on the grid, rounded again. -/
theorem gr_on {k : Int} (hk : k.natAbs < 10 ^ 132) {n : Nat} (hn : n ≤ 30) : Big ((Rat.divInt k (tenZ n)).num * tenZ n) ∧ Big ((Rat.divInt k (tenZ n)).num * tenZ n / ((Rat.divInt k (tenZ n)).den : Int) + 1) := by
  obtain ⟨h1, h2, _⟩ := gr_bd hk hn
  have ho := (on_grid (k := k) (tenZ_pos n)).1
  have h3 : (tenZ n).natAbs ≤ 10 ^ 30 := by unfold tenZ; rw [Int.natAbs_natCast]; exact Nat.pow_le_pow_right (by decide) hn
  have h4 : 0 < (10 : Nat) ^ 30 := by decide
  have e2 : (10 : Nat) ^ 132 + 1 < 10 ^ 200 := by decide +kernel
  constructor
  · unfold Big
    rw [Int.natAbs_mul]
    exact Nat.lt_of_le_of_lt (Nat.mul_le_mul_left _ h3) (Nat.lt_of_lt_of_le (Nat.mul_lt_mul_of_pos_right h1 h4) (by decide +kernel))
  · rw [ho]
    unfold Big
    generalize (10 : Nat) ^ 132 = B at *
    generalize (10 : Nat) ^ 200 = C at *
    omega
theorem gr_dn2 {q : Rat} (hq : q.num.natAbs < 10 ^ 101) {n : Nat} (hn : n ≤ 30) : roundO dnS dnE (qp (upQ q (tenZ n))) n = some (upQ q (tenZ n)) := by
  rw [dn_q (gr_upb hq hn) hn (gr_on (gr_k hq hn).2.1 hn).1, dn_again q (tenZ_pos n)]
theorem gr_up2 {q : Rat} (hq : q.num.natAbs < 10 ^ 101) {n : Nat} (hn : n ≤ 30) : roundO upS upE (qp (dnQ q (tenZ n))) n = some (dnQ q (tenZ n)) := by
  rw [up_q (gr_dnb hq hn) hn (gr_on (gr_k hq hn).1 hn).1 (gr_on (gr_k hq hn).1 hn).2, up_again q (tenZ_pos n)]
theorem gr_mul {q : Rat} (hq : q.num.natAbs < 10 ^ 101) {n : Nat} (hn : n ≤ 30) : mul2 (dnQ q (tenZ n)) (tq n) = some (Rat.divInt (dnk q (tenZ n)) 1) := by
  have h : Big ((dnQ q (tenZ n)).num * tenZ n) ∧ _ := gr_on (gr_k hq hn).1 hn
  unfold mul2
  rw [(tq_num n).1, (tq_num n).2, Int.mul_one, (bigB_iff _).2 (gr_dnb hq hn).2, (bigB_iff _).2 h.1]
  show some (dnQ q (tenZ n) * tq n) = _
  unfold dnQ tq
  rw [mul_t _ (tenZ_pos n)]
theorem gr_width {q : Rat} (hq : q.num.natAbs < 10 ^ 101) {n : Nat} (hn : n ≤ 30) : sub2 (upQ q (tenZ n)) (dnQ q (tenZ n)) = some (if q.num * tenZ n % q.den = 0 then 0 else uq n) := by
  obtain ⟨u1, u2, _⟩ := gr_bd (gr_k hq hn).2.1 hn
  obtain ⟨d1, d2, _⟩ := gr_bd (gr_k hq hn).1 hn
  have e : (10 : Nat) ^ 132 * 10 ^ 30 + 10 ^ 132 * 10 ^ 30 < 10 ^ 200 := by decide +kernel
  have f : (10 : Nat) ^ 30 * 10 ^ 30 < 10 ^ 200 := by decide +kernel
  have m1 : ((upQ q (tenZ n)).num * ((dnQ q (tenZ n)).den : Int)).natAbs ≤ 10 ^ 132 * 10 ^ 30 := by
    rw [Int.natAbs_mul, Int.natAbs_natCast]; exact Nat.mul_le_mul (Nat.le_of_lt u1) d2
  have m2 : ((dnQ q (tenZ n)).num * ((upQ q (tenZ n)).den : Int)).natAbs ≤ 10 ^ 132 * 10 ^ 30 := by
    rw [Int.natAbs_mul, Int.natAbs_natCast]; exact Nat.mul_le_mul (Nat.le_of_lt d1) u2
  have m3 : (((upQ q (tenZ n)).den : Int) * ((dnQ q (tenZ n)).den : Int)).natAbs ≤ 10 ^ 30 * 10 ^ 30 := by
    rw [Int.natAbs_mul, Int.natAbs_natCast, Int.natAbs_natCast]; exact Nat.mul_le_mul u2 d2
  have hw := width_q q (tenZ_pos n)
  unfold sub2
  rw [hw]
  generalize (upQ q (tenZ n)).num * ((dnQ q (tenZ n)).den : Int) = x at *
  generalize (dnQ q (tenZ n)).num * ((upQ q (tenZ n)).den : Int) = y at *
  generalize ((upQ q (tenZ n)).den : Int) * ((dnQ q (tenZ n)).den : Int) = z at *
  generalize (10 : Nat) ^ 132 * 10 ^ 30 = A at *
  generalize (10 : Nat) ^ 30 * 10 ^ 30 = B at *
  rw [(bigB_iff x).2 (by unfold Big; omega), (bigB_iff y).2 (by unfold Big; omega), (bigB_iff (x - y)).2 (by unfold Big; omega), (bigB_iff z).2 (by unfold Big; omega)]
  rfl
/-- Down of what is less by its sign, less by its sign. -/
theorem gr_neg {q : Rat} (hq : q.num.natAbs < 10 ^ 101) {n : Nat} (hn : n ≤ 30) : sub2 0 (dnQ (-q) (tenZ n)) = some (upQ q (tenZ n)) := by
  rw [sub0_q (gr_dnb (q := -q) (by rw [Rat.neg_num, Int.natAbs_neg]; exact hq) hn), dn_neg_q]
theorem gr_one (k : Int) : str ((Rat.divInt k 1).den : Int) = ⟨#[49]⟩ := by
  rw [(q_int k).2]; decide +kernel
theorem gr_w (n : Nat) (b : Bool) : (str (if b then (0 : Rat) else uq n).num = if b then ⟨#[48]⟩ else ⟨#[49]⟩) ∧ (str ((if b then (0 : Rat) else uq n).den : Int) = if b then ⟨#[49]⟩ else pwS n) := by
  cases b with
  | true => exact ⟨str00, str01⟩
  | false =>
    have h := qp_uq n
    exact ⟨congrArg Prod.fst h, congrArg Prod.snd h⟩
/-- What the widths and the comparisons say. -/
def GrX (za zb : Int) (un ud tt : ByteArray) : Prop := (za = 0 ∧ zb = 0 ∧ un = ⟨#[48]⟩ ∧ ud = ⟨#[49]⟩) ∨ (za = -1 ∧ zb = 1 ∧ un = ⟨#[49]⟩ ∧ ud = tt)
theorem gr_x {q : Rat} (hq : q.num.natAbs < 10 ^ 101) {n : Nat} (hn : n ≤ 30) :
    GrX (cmpQ (dnQ q (tenZ n)) q) (cmpQ (upQ q (tenZ n)) q) (oN (sub2 (upQ q (tenZ n)) (dnQ q (tenZ n)))) (oD (sub2 (upQ q (tenZ n)) (dnQ q (tenZ n)))) (pwS n) := by
  rw [dn_le q (tenZ_pos n), up_ge q (tenZ_pos n), gr_width hq hn]
  unfold GrX
  by_cases h : q.num * tenZ n % q.den = 0
  · rw [if_pos h, if_pos h, if_pos h]
    exact .inl ⟨rfl, rfl, str00, str01⟩
  · rw [if_neg h, if_neg h, if_neg h]
    have h := qp_uq n
    exact .inr ⟨rfl, rfl, congrArg Prod.fst h, congrArg Prod.snd h⟩
def MnOut (w : World) (x y : ByteArray) (e : Ending) (w' : World) : Prop := e = .returned (.agg #[.string x, .string y]) ∧ Below w.heap.size w w'
section
variable {w : World} {q : Rat} {n : Nat} (ht : ∀ W, Below w.heap.size w W → Tb W)
include ht
/-- Down and Up, where they answer. -/
theorem gc_dn {r : Rat} (hb : BQ q) (h : roundO dnS dnE (qp q) n = some r) (W : World) (hW : Below w.heap.size w W) :
    Calls Tryz.prog 23 #[.agg #[.string (str q.num), .string (str (q.den : Int))], .int .i64 (n : Int)] W (QRes W (str r.num) (str (r.den : Int)) 0) := by
  have := qdown_any (qp q) n W ⟨str_size hb.1, str_size hb.2⟩ (ht W hW)
  rw [h] at this
  exact this
theorem gc_up {r : Rat} (hb : BQ q) (h : roundO upS upE (qp q) n = some r) (W : World) (hW : Below w.heap.size w W) :
    Calls Tryz.prog 25 #[.agg #[.string (str q.num), .string (str (q.den : Int))], .int .i64 (n : Int)] W (QRes W (str r.num) (str (r.den : Int)) 0) := by
  have := qup_any (qp q) n W ⟨str_size hb.1, str_size hb.2⟩ (ht W hW)
  rw [h] at this
  exact this
theorem gc_mul {r : Rat} (hb : BQ q) (hn : n ≤ 30) (h : mul2 q (tq n) = some r) (W : World) (hW : Below w.heap.size w W) :
    Calls Tryz.prog 39 #[.agg #[.string (str q.num), .string (str (q.den : Int))], .agg #[.string (pwS n), .string ⟨#[49]⟩]] W (QRes W (str r.num) (str (r.den : Int)) 0) := by
  have e := qp_tq n
  have b := tq_bq (n := n) (by omega)
  have := qmul_any (qp q) (qp (tq n)) W ⟨str_size hb.1, str_size hb.2⟩ ⟨str_size b.1, str_size b.2⟩ (ht W hW)
  rw [show prodO (qp q) (qp (tq n)) (qp (tq n)).1 (qp (tq n)).2 = some r from by rw [← h]; exact mul_q hb b] at this
  rw [e] at this
  exact this
theorem gc_sub {p : Rat} (hb : BQ q) (hp : BQ p) (W : World) (hW : Below w.heap.size w W) :
    Calls Tryz.prog 40 #[.agg #[.string (str q.num), .string (str (q.den : Int))], .agg #[.string (str p.num), .string (str (p.den : Int))]] W (QRes W (oN (sub2 q p)) (oD (sub2 q p)) (oE (sub2 q p))) := by
  have := qsubs_any (qp q) (qp p) W ⟨str_size hb.1, str_size hb.2⟩ ⟨str_size hp.1, str_size hp.2⟩ (ht W hW)
  rw [sub_q hb hp] at this
  exact this
theorem gc_cmp {p : Rat} (hb : BQ q) (hp : BQ p) (W : World) (hW : Below w.heap.size w W) :
    Calls Tryz.prog 20 #[.agg #[.string (str q.num), .string (str (q.den : Int))], .agg #[.string (str p.num), .string (str (p.den : Int))]] W (IntOut W (cmpQ q p)) := qcmp_any q p hb hp W (ht W hW)
end
end Go.Proofs.YtcjcafekacceiaaGreatDoor
