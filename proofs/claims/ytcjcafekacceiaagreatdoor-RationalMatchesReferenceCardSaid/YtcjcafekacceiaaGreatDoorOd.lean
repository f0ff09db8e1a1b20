/- What the walk of RationalOrder rests on. -/
import Derived.Test.YtcjcafekacceiaaGreatDoorIs
import Derived.Test.YtcjcafekacceiaaGreatDoorLw
namespace Go.Proofs.YtcjcafekacceiaaGreatDoor
open Go.RowKit
set_option linter.unusedVariables false

theorem add2_bq {a b q : Rat} (h : add2 a b = some q) : q = a + b ∧ BQ q := by
  unfold add2 at h
  split at h
  · rename_i hh
    simp only [Bool.and_eq_true] at hh
    obtain ⟨⟨⟨h1, h2⟩, h3⟩, h4⟩ := hh
    cases h
    refine ⟨rfl, ?_⟩
    rw [← add_div]
    exact bq_div (den_mul_ne a b) ((bigB_iff _).1 h3) ((bigB_iff _).1 h4)
  · cases h
theorem sub2_bq {a b q : Rat} (h : sub2 a b = some q) : q = a - b ∧ BQ q := by
  unfold sub2 at h
  split at h
  · rename_i hh
    simp only [Bool.and_eq_true] at hh
    obtain ⟨⟨⟨h1, h2⟩, h3⟩, h4⟩ := hh
    cases h
    refine ⟨rfl, ?_⟩
    rw [← sub_div]
    exact bq_div (den_mul_ne a b) ((bigB_iff _).1 h3) ((bigB_iff _).1 h4)
  · cases h
theorem mul2_bq {a b q : Rat} (h : mul2 a b = some q) : q = a * b ∧ BQ q := by
  unfold mul2 at h
  split at h
  · rename_i hh
    simp only [Bool.and_eq_true] at hh
    obtain ⟨h1, h2⟩ := hh
    cases h
    refine ⟨rfl, ?_⟩
    rw [← mul_div]
    exact bq_div (den_mul_ne a b) ((bigB_iff _).1 h1) ((bigB_iff _).1 h2)
  · cases h
theorem div2_bq {a b q : Rat} (h : div2 a b = some q) : q = a / b ∧ BQ q ∧ b ≠ 0 := by
  unfold div2 at h
  split at h
  · rename_i hh
    simp only [Bool.and_eq_true, decide_eq_true_eq] at hh
    obtain ⟨⟨h1, h2⟩, h3⟩ := hh
    cases h
    refine ⟨rfl, ?_, ?_⟩
    · rw [← div_div]
      exact bq_div (Int.mul_ne_zero (q_den_ne a) h3) ((bigB_iff _).1 h1) ((bigB_iff _).1 h2)
    · intro e
      subst e
      exact h3 rfl
  · cases h
theorem ba_beq_ne {x y : ByteArray} (h : x ≠ y) : (x.toList == y.toList) = false := by
  rw [beq_eq_false_iff_ne]
  intro e
  refine h (ByteArray.ext ?_)
  rw [ByteArray.toList_eq, ByteArray.toList_eq] at e
  exact Array.ext' e
theorem ne_texts {a b : Rat} (ha : BQ a) (hb : BQ b) (h : a ≠ b) : ((str a.num).toList == (str b.num).toList) = false ∨ (str a.num = str b.num ∧ ((str (a.den : Int)).toList == (str (b.den : Int)).toList) = false) := by
  by_cases e : str a.num = str b.num
  · refine .inr ⟨e, ba_beq_ne (fun e2 => h (Rat.ext (str_inj _ _ e) ?_))⟩
    have := str_inj _ _ e2
    omega
  · exact .inl (ba_beq_ne e)
/-- What Order asks of three fractions' signs. -/
def OrdF (an ad bn bd : ByteArray) (ab bc ac : Int) : Prop :=
  (ab = 1 ∧ ((an.toList == bn.toList) = false ∨ (an = bn ∧ (ad.toList == bd.toList) = false))) ∨
  (ab = 0 ∧ an = bn ∧ ad = bd ∧ ((bc = 1) ∨ (bc = 0 ∧ ac = 0) ∨ (bc = -1 ∧ ac = -1))) ∨
  (ab = -1 ∧ ((an.toList == bn.toList) = false ∨ (an = bn ∧ (ad.toList == bd.toList) = false)) ∧ (bc = 1 ∨ (bc = 0 ∧ ac = -1) ∨ (bc = -1 ∧ ac = -1)))
theorem ord_facts {a b c : Rat} (ha : BQ a) (hb : BQ b) : OrdF (str a.num) (str (a.den : Int)) (str b.num) (str (b.den : Int)) (cmpQ a b) (cmpQ b c) (cmpQ a c) := by
  unfold OrdF
  rcases cmpQ_ways a b with ⟨h1, e1, _, n1⟩ | ⟨rfl, e1, _⟩ | ⟨h1, e1, _, n1⟩
  · right; right
    refine ⟨e1, ne_texts ha hb n1, ?_⟩
    rcases cmpQ_ways b c with ⟨h2, e2, _, _⟩ | ⟨rfl, e2, _⟩ | ⟨h2, e2, _, _⟩
    · exact .inr (.inr ⟨e2, cmpQ_lt (q_lt_trans h1 h2)⟩)
    · exact .inr (.inl ⟨e2, e1⟩)
    · exact .inl e2
  · right; left
    refine ⟨e1, rfl, rfl, ?_⟩
    rcases cmpQ_ways a c with ⟨h2, e2, _, _⟩ | ⟨rfl, e2, _⟩ | ⟨h2, e2, _, _⟩
    · exact .inr (.inr ⟨e2, e2⟩)
    · exact .inr (.inl ⟨e2, e2⟩)
    · exact .inl e2
  · exact .inl ⟨e1, ne_texts ha hb n1⟩
theorem cmpQ_rev (a b : Rat) : cmpQ b a = -cmpQ a b := by
  rcases cmpQ_ways a b with ⟨_, e1, e2, _⟩ | ⟨rfl, e1, _⟩ | ⟨_, e1, e2, _⟩
  · rw [e1, e2]; rfl
  · rw [e1]; rfl
  · rw [e1, e2]
theorem cmpQ_rng (a b : Rat) : cmpQ a b = -1 ∨ cmpQ a b = 0 ∨ cmpQ a b = 1 := by
  rcases cmpQ_ways a b with ⟨_, e1, _⟩ | ⟨_, e1, _⟩ | ⟨_, e1, _⟩ <;> simp [e1]
/-- Compare, at texts. -/
def CmpC (w : World) (x y x' y' : ByteArray) (z : Int) : Prop := ∀ W, Below w.heap.size w W → Calls Tryz.prog 20 #[.agg #[.string x, .string y], .agg #[.string x', .string y']] W (IntOut W z)
theorem CmpC.at {w : World} {x y x' y' : ByteArray} {z : Int} (h : CmpC w x y x' y' z) (W : World) (hW : Below w.heap.size w W) : Calls Tryz.prog 20 #[.agg #[.string x, .string y], .agg #[.string x', .string y']] W (IntOut W z) := h W hW
theorem cmp_c {w : World} {a b : Rat} {z : Int} (ht : ∀ W, Below w.heap.size w W → Tb W) (ha : BQ a) (hb : BQ b) (h : cmpQ a b = z) : CmpC w (str a.num) (str (a.den : Int)) (str b.num) (str (b.den : Int)) z := fun W hW => by
  have := qcmp_any a b ha hb W (ht W hW)
  rw [h] at this
  exact this
theorem bq0 : BQ 0 := ⟨by unfold Big; exact Nat.pow_pos (by decide), by unfold Big; decide +kernel⟩
theorem str00 : str (0 : Rat).num = ⟨#[48]⟩ := by decide +kernel
theorem str01 : str ((0 : Rat).den : Int) = ⟨#[49]⟩ := by decide +kernel
theorem cmp_c0 {w : World} {a : Rat} {z : Int} (ht : ∀ W, Below w.heap.size w W → Tb W) (ha : BQ a) (h : cmpQ a 0 = z) : CmpC w (str a.num) (str (a.den : Int)) ⟨#[48]⟩ ⟨#[49]⟩ z := by
  have := cmp_c ht ha bq0 h
  rw [str00, str01] at this
  exact this
theorem sub_fact {w : World} {a b : Rat} (ht : ∀ W, Below w.heap.size w W → Tb W) :
    oE (sub2 a b) = 40 ∨ (oE (sub2 a b) = 0 ∧ CmpC w (oN (sub2 a b)) (oD (sub2 a b)) ⟨#[48]⟩ ⟨#[49]⟩ (cmpQ a b)) := by
  cases h : sub2 a b with
  | none => exact .inl rfl
  | some q =>
    obtain ⟨rfl, hq⟩ := sub2_bq h
    exact .inr ⟨rfl, cmp_c0 ht hq (cmpQ_sub a b)⟩
theorem add_fact {w : World} {a b t : Rat} (ht : ∀ W, Below w.heap.size w W → Tb W) :
    oE (add2 a t) = 40 ∨ (oE (add2 a t) = 0 ∧ oE (add2 b t) = 40) ∨ (oE (add2 a t) = 0 ∧ oE (add2 b t) = 0 ∧ CmpC w (oN (add2 a t)) (oD (add2 a t)) (oN (add2 b t)) (oD (add2 b t)) (cmpQ a b)) := by
  cases h : add2 a t with
  | none => exact .inl rfl
  | some q =>
    cases h2 : add2 b t with
    | none => exact .inr (.inl ⟨rfl, rfl⟩)
    | some r =>
      obtain ⟨rfl, hq⟩ := add2_bq h
      obtain ⟨rfl, hr⟩ := add2_bq h2
      exact .inr (.inr ⟨rfl, rfl, cmp_c ht hq hr (cmpQ_add a b t)⟩)
theorem mul_fact {w : World} {a b t : Rat} (ht : ∀ W, Below w.heap.size w W → Tb W) :
    oE (mul2 a t) = 40 ∨ (oE (mul2 a t) = 0 ∧ oE (mul2 b t) = 40) ∨ (oE (mul2 a t) = 0 ∧ oE (mul2 b t) = 0 ∧ CmpC w (oN (mul2 a t)) (oD (mul2 a t)) (oN (mul2 b t)) (oD (mul2 b t)) (cmpQ a b * cmpQ t 0)) := by
  cases h : mul2 a t with
  | none => exact .inl rfl
  | some q =>
    cases h2 : mul2 b t with
    | none => exact .inr (.inl ⟨rfl, rfl⟩)
    | some r =>
      obtain ⟨rfl, hq⟩ := mul2_bq h
      obtain ⟨rfl, hr⟩ := mul2_bq h2
      exact .inr (.inr ⟨rfl, rfl, cmp_c ht hq hr (cmpQ_mul a b t)⟩)
end Go.Proofs.YtcjcafekacceiaaGreatDoor
