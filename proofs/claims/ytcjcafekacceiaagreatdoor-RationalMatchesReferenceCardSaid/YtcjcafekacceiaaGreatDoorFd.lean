/- What the walk of RationalField rests on. -/
import Derived.Test.YtcjcafekacceiaaGreatDoorOd
import Derived.Test.YtcjcafekacceiaaGreatDoorFo
namespace Go.Proofs.YtcjcafekacceiaaGreatDoor
open Go.RowKit
set_option linter.unusedVariables false

/-- An operation, of what may not be there. -/
def opt2 (f : Rat → Rat → Option Rat) (o p : Option Rat) : Option Rat := match o, p with | some x, some y => f x y | _, _ => none
def OB (o : Option Rat) : Prop := ∀ q, o = some q → BQ q
theorem ob_some {q : Rat} (h : BQ q) : OB (some q) := fun _ e => by cases e; exact h
theorem ob_add (a b : Rat) : OB (add2 a b) := fun _ e => (add2_bq e).2
theorem ob_sub (a b : Rat) : OB (sub2 a b) := fun _ e => (sub2_bq e).2
theorem ob_mul (a b : Rat) : OB (mul2 a b) := fun _ e => (mul2_bq e).2
theorem ob_div (a b : Rat) : OB (div2 a b) := fun _ e => (div2_bq e).2.1
theorem ob_opt {f : Rat → Rat → Option Rat} (hf : ∀ a b, OB (f a b)) (o p : Option Rat) : OB (opt2 f o p) := by
  cases o with
  | none => exact fun _ e => by cases e
  | some x =>
    cases p with
    | none => exact fun _ e => by cases e
    | some y => exact hf x y
theorem o_size {o : Option Rat} (h : OB o) : (oN o, oD o).1.size ≤ 9223372036854775807 ∧ (oN o, oD o).2.size ≤ 9223372036854775807 := by
  cases o with
  | none => exact ⟨by decide, by decide⟩
  | some q => exact ⟨str_size (h q rfl).1, str_size (h q rfl).2⟩
theorem fVp_none : fVp (oN none, oD none) = false := by decide +kernel
theorem add_o {w : World} (ht : ∀ W, Below w.heap.size w W → Tb W) {o p : Option Rat} (ho : OB o) (hp : OB p) (W : World) (hW : Below w.heap.size w W) :
    Calls Tryz.prog 38 #[.agg #[.string (oN o), .string (oD o)], .agg #[.string (oN p), .string (oD p)]] W (QOut W (opt2 add2 o p)) := by
  have h := qadds_any (oN o, oD o) (oN p, oD p) W (o_size ho) (o_size hp) (ht W hW)
  have e : sumO (fun x y => x + y) (oN o, oD o) (oN p, oD p) = opt2 add2 o p := by
    cases o with
    | none => exact none_sum _ (by rw [fVp_none]; rfl)
    | some x =>
      cases p with
      | none => exact none_sum _ (by rw [fVp_none, Bool.and_false])
      | some y => exact add_q (ho x rfl) (hp y rfl)
  rw [e] at h
  exact h
theorem sub_o {w : World} (ht : ∀ W, Below w.heap.size w W → Tb W) {o p : Option Rat} (ho : OB o) (hp : OB p) (W : World) (hW : Below w.heap.size w W) :
    Calls Tryz.prog 40 #[.agg #[.string (oN o), .string (oD o)], .agg #[.string (oN p), .string (oD p)]] W (QOut W (opt2 sub2 o p)) := by
  have h := qsubs_any (oN o, oD o) (oN p, oD p) W (o_size ho) (o_size hp) (ht W hW)
  have e : sumO (fun x y => x - y) (oN o, oD o) (oN p, oD p) = opt2 sub2 o p := by
    cases o with
    | none => exact none_sum _ (by rw [fVp_none]; rfl)
    | some x =>
      cases p with
      | none => exact none_sum _ (by rw [fVp_none, Bool.and_false])
      | some y => exact sub_q (ho x rfl) (hp y rfl)
  rw [e] at h
  exact h
theorem mul_o {w : World} (ht : ∀ W, Below w.heap.size w W → Tb W) {o p : Option Rat} (ho : OB o) (hp : OB p) (W : World) (hW : Below w.heap.size w W) :
    Calls Tryz.prog 39 #[.agg #[.string (oN o), .string (oD o)], .agg #[.string (oN p), .string (oD p)]] W (QOut W (opt2 mul2 o p)) := by
  have h := qmul_any (oN o, oD o) (oN p, oD p) W (o_size ho) (o_size hp) (ht W hW)
  have e : prodO (oN o, oD o) (oN p, oD p) (oN p) (oD p) = opt2 mul2 o p := by
    cases o with
    | none => exact none_prod _ _ (by rw [fVp_none]; rfl)
    | some x =>
      cases p with
      | none => exact none_prod _ _ (by rw [fVp_none, Bool.and_false])
      | some y => exact mul_q (ho x rfl) (hp y rfl)
  rw [e] at h
  exact h
theorem div_o {w : World} (ht : ∀ W, Below w.heap.size w W → Tb W) {o p : Option Rat} (ho : OB o) (hp : OB p) (W : World) (hW : Below w.heap.size w W) :
    Calls Tryz.prog 45 #[.agg #[.string (oN o), .string (oD o)], .agg #[.string (oN p), .string (oD p)]] W (QOut W (opt2 div2 o p)) := by
  have h := qdiv_any (oN o, oD o) (oN p, oD p) W (o_size ho) (o_size hp) (ht W hW)
  have e : prodO (oN o, oD o) (oN p, oD p) (oD p) (oN p) = opt2 div2 o p := by
    cases o with
    | none => exact none_prod _ _ (by rw [fVp_none]; rfl)
    | some x =>
      cases p with
      | none => exact none_prod _ _ (by rw [fVp_none, Bool.and_false])
      | some y => exact div_q (ho x rfl) (hp y rfl)
  rw [e] at h
  exact h
/-- The law's four, of what may not be there. -/
theorem four_o {w : World} (ht : ∀ W, Below w.heap.size w W → Tb W) {o p : Option Rat} (ho : OB o) (hp : OB p) (W : World) (hW : Below w.heap.size w W) :
    Calls Tryz.prog 15 #[.agg #[.string (oN o), .string (oD o)], .agg #[.string (oN p), .string (oD p)]] W (FourOut W (opt2 add2 o p) (opt2 sub2 o p) (opt2 mul2 o p) (opt2 div2 o p)) :=
  four_any (oN o, oD o) (oN p, oD p) _ _ _ _ W (fun V hV => add_o ht ho hp V (below1 hW hV)) (fun V hV => sub_o ht ho hp V (below1 hW hV)) (fun V hV => mul_o ht ho hp V (below1 hW hV)) (fun V hV => div_o ht ho hp V (below1 hW hV))

theorem add2_comm (a b : Rat) : add2 a b = add2 b a := by
  unfold add2
  rw [Rat.add_comm a b, Int.add_comm (a.num * b.den), Int.mul_comm (a.den : Int)]
  congr 3
  rw [Bool.and_comm (bigB (a.num * b.den))]
theorem mul2_comm (a b : Rat) : mul2 a b = mul2 b a := by
  unfold mul2
  rw [Rat.mul_comm a b, Int.mul_comm a.num, Int.mul_comm (a.den : Int)]
theorem e_ways (o : Option Rat) : (oE o = 40 ∧ o = none) ∨ (oE o = 0 ∧ ∃ q, o = some q) := by
  cases o with
  | none => exact .inl ⟨rfl, rfl⟩
  | some q => exact .inr ⟨rfl, q, rfl⟩
theorem field_one (a b c : Rat) :
    oE (add2 a b) = 40 ∨ (oE (add2 a b) = 0 ∧ oE (add2 b c) = 40) ∨ (oE (add2 a b) = 0 ∧ oE (add2 b c) = 0 ∧ oE (opt2 add2 (add2 a b) (some c)) = 40) ∨
    (oE (add2 a b) = 0 ∧ oE (add2 b c) = 0 ∧ oE (opt2 add2 (add2 a b) (some c)) = 0 ∧ oE (opt2 add2 (some a) (add2 b c)) = 40) ∨
    (oE (add2 a b) = 0 ∧ oE (add2 b c) = 0 ∧ oE (opt2 add2 (add2 a b) (some c)) = 0 ∧ oE (opt2 add2 (some a) (add2 b c)) = 0 ∧ opt2 add2 (some a) (add2 b c) = opt2 add2 (add2 a b) (some c)) := by
  rcases e_ways (add2 a b) with ⟨h, _⟩ | ⟨h, r, hr⟩
  · exact .inl h
  rcases e_ways (add2 b c) with ⟨g, _⟩ | ⟨g, s, hs⟩
  · exact .inr (.inl ⟨h, g⟩)
  rcases e_ways (opt2 add2 (add2 a b) (some c)) with ⟨i, _⟩ | ⟨i, t, ht⟩
  · exact .inr (.inr (.inl ⟨h, g, i⟩))
  rcases e_ways (opt2 add2 (some a) (add2 b c)) with ⟨j, _⟩ | ⟨j, u, hu⟩
  · exact .inr (.inr (.inr (.inl ⟨h, g, i, j⟩)))
  refine .inr (.inr (.inr (.inr ⟨h, g, i, j, ?_⟩)))
  rw [hu, ht]
  rw [hr] at ht
  rw [hs] at hu
  rw [(add2_bq ht).1, (add2_bq hu).1, (add2_bq hr).1, (add2_bq hs).1, Rat.add_assoc]
theorem field_two (a b c : Rat) :
    oE (mul2 a b) = 40 ∨ (oE (mul2 a b) = 0 ∧ oE (mul2 b c) = 40) ∨ (oE (mul2 a b) = 0 ∧ oE (mul2 b c) = 0 ∧ oE (opt2 mul2 (some a) (mul2 b c)) = 40) ∨
    (oE (mul2 a b) = 0 ∧ oE (mul2 b c) = 0 ∧ oE (opt2 mul2 (some a) (mul2 b c)) = 0 ∧ oE (opt2 mul2 (mul2 a b) (some c)) = 40) ∨
    (oE (mul2 a b) = 0 ∧ oE (mul2 b c) = 0 ∧ oE (opt2 mul2 (some a) (mul2 b c)) = 0 ∧ oE (opt2 mul2 (mul2 a b) (some c)) = 0 ∧ opt2 mul2 (some a) (mul2 b c) = opt2 mul2 (mul2 a b) (some c)) := by
  rcases e_ways (mul2 a b) with ⟨h, _⟩ | ⟨h, r, hr⟩
  · exact .inl h
  rcases e_ways (mul2 b c) with ⟨g, _⟩ | ⟨g, s, hs⟩
  · exact .inr (.inl ⟨h, g⟩)
  rcases e_ways (opt2 mul2 (some a) (mul2 b c)) with ⟨j, _⟩ | ⟨j, u, hu⟩
  · exact .inr (.inr (.inl ⟨h, g, j⟩))
  rcases e_ways (opt2 mul2 (mul2 a b) (some c)) with ⟨i, _⟩ | ⟨i, t, ht⟩
  · exact .inr (.inr (.inr (.inl ⟨h, g, j, i⟩)))
  refine .inr (.inr (.inr (.inr ⟨h, g, j, i, ?_⟩)))
  rw [hu, ht]
  rw [hr] at ht
  rw [hs] at hu
  rw [(mul2_bq ht).1, (mul2_bq hu).1, (mul2_bq hr).1, (mul2_bq hs).1, Rat.mul_assoc]
theorem field_three (a b c : Rat) :
    oE (add2 a b) = 40 ∨ (oE (add2 a b) = 0 ∧ oE (mul2 a c) = 40) ∨ (oE (add2 a b) = 0 ∧ oE (mul2 a c) = 0 ∧ oE (mul2 b c) = 40) ∨
    (oE (add2 a b) = 0 ∧ oE (mul2 a c) = 0 ∧ oE (mul2 b c) = 0 ∧ oE (opt2 add2 (mul2 a c) (mul2 b c)) = 40) ∨
    (oE (add2 a b) = 0 ∧ oE (mul2 a c) = 0 ∧ oE (mul2 b c) = 0 ∧ oE (opt2 add2 (mul2 a c) (mul2 b c)) = 0 ∧ oE (opt2 mul2 (add2 a b) (some c)) = 40) ∨
    (oE (add2 a b) = 0 ∧ oE (mul2 a c) = 0 ∧ oE (mul2 b c) = 0 ∧ oE (opt2 add2 (mul2 a c) (mul2 b c)) = 0 ∧ oE (opt2 mul2 (add2 a b) (some c)) = 0 ∧ opt2 add2 (mul2 a c) (mul2 b c) = opt2 mul2 (add2 a b) (some c)) := by
  rcases e_ways (add2 a b) with ⟨h, _⟩ | ⟨h, r, hr⟩
  · exact .inl h
  rcases e_ways (mul2 a c) with ⟨k, _⟩ | ⟨k, v, hv⟩
  · exact .inr (.inl ⟨h, k⟩)
  rcases e_ways (mul2 b c) with ⟨g, _⟩ | ⟨g, s, hs⟩
  · exact .inr (.inr (.inl ⟨h, k, g⟩))
  rcases e_ways (opt2 add2 (mul2 a c) (mul2 b c)) with ⟨j, _⟩ | ⟨j, u, hu⟩
  · exact .inr (.inr (.inr (.inl ⟨h, k, g, j⟩)))
  rcases e_ways (opt2 mul2 (add2 a b) (some c)) with ⟨i, _⟩ | ⟨i, t, ht⟩
  · exact .inr (.inr (.inr (.inr (.inl ⟨h, k, g, j, i⟩))))
  refine .inr (.inr (.inr (.inr (.inr ⟨h, k, g, j, i, ?_⟩))))
  rw [hu, ht]
  rw [hr] at ht
  rw [hs, hv] at hu
  rw [(mul2_bq ht).1, (add2_bq hu).1, (add2_bq hr).1, (mul2_bq hs).1, (mul2_bq hv).1, Rat.add_mul]
theorem field_back (a b : Rat) : oE (add2 a b) = 40 ∨ (oE (add2 a b) = 0 ∧ oE (opt2 sub2 (add2 a b) (some b)) = 40) ∨ (oE (add2 a b) = 0 ∧ oE (opt2 sub2 (add2 a b) (some b)) = 0 ∧ opt2 sub2 (add2 a b) (some b) = some a) := by
  rcases e_ways (add2 a b) with ⟨h, _⟩ | ⟨h, r, hr⟩
  · exact .inl h
  rcases e_ways (opt2 sub2 (add2 a b) (some b)) with ⟨i, _⟩ | ⟨i, t, ht⟩
  · exact .inr (.inl ⟨h, i⟩)
  refine .inr (.inr ⟨h, i, ?_⟩)
  rw [ht]
  rw [hr] at ht
  rw [(sub2_bq ht).1, (add2_bq hr).1, Rat.sub_eq_add_neg, Rat.add_assoc, Rat.add_neg_cancel, Rat.add_zero]
theorem field_again (a b : Rat) : oE (div2 a b) = 40 ∨ (oE (div2 a b) = 0 ∧ oE (opt2 mul2 (div2 a b) (some b)) = 40) ∨ (oE (div2 a b) = 0 ∧ oE (opt2 mul2 (div2 a b) (some b)) = 0 ∧ opt2 mul2 (div2 a b) (some b) = some a) := by
  rcases e_ways (div2 a b) with ⟨h, _⟩ | ⟨h, r, hr⟩
  · exact .inl h
  rcases e_ways (opt2 mul2 (div2 a b) (some b)) with ⟨i, _⟩ | ⟨i, t, ht⟩
  · exact .inr (.inl ⟨h, i⟩)
  refine .inr (.inr ⟨h, i, ?_⟩)
  rw [ht]
  rw [hr] at ht
  rw [(mul2_bq ht).1, (div2_bq hr).1, Rat.div_mul_cancel (div2_bq hr).2.2]
/-- What is small is never too large. -/
theorem field_small {a b : Rat} (ha : a.num.natAbs < 10 ^ 3 ∧ a.den < 10 ^ 3) (hb : b.num.natAbs < 10 ^ 3 ∧ b.den < 10 ^ 3) : oE (add2 a b) = 0 ∧ oE (mul2 a b) = 0 := by
  have key : ∀ {x y : Int}, x.natAbs < 10 ^ 3 → y.natAbs < 10 ^ 3 → (x * y).natAbs < 10 ^ 6 := fun {x y} hx hy => by
    rw [Int.natAbs_mul]
    exact Nat.lt_of_le_of_lt (Nat.mul_le_mul (Nat.le_pred_of_lt hx) (Nat.le_pred_of_lt hy)) (by decide)
  have da : ((a.den : Int)).natAbs < 10 ^ 3 := by rw [Int.natAbs_natCast]; exact ha.2
  have db : ((b.den : Int)).natAbs < 10 ^ 3 := by rw [Int.natAbs_natCast]; exact hb.2
  have e : ∀ {z : Int}, z.natAbs < 2 * 10 ^ 6 → bigB z = true := fun h => (bigB_iff _).2 (Nat.lt_trans h (by decide +kernel))
  have k1 := key ha.1 db
  have k2 := key hb.1 da
  have k3 := key da db
  have k4 := key ha.1 hb.1
  constructor
  · unfold add2
    rw [e (by omega), e (by omega), e (by omega), e (by omega)]; rfl
  · unfold mul2
    rw [e (by omega), e (by omega)]; rfl
end Go.Proofs.YtcjcafekacceiaaGreatDoor
