/- Arrays that are equal to themselves. -/
import Derived.Laws.StructEq
import Derived.Test.YtcjcafekacceiaaGreatDoorRk
namespace Go.Proofs.YtcjcafekacceiaaGreatDoor
open Go.RowKit
theorem equalIn_array_self {P : Program} (w : World) (d : Nat) (t : TypeId) (len : Nat) (elem : TypeId) (ht : P.underlying t = some (.array len elem)) (n : Nat) (hn : (sizeOf elem).run P w = .ok n w) (xs : Array Value)
    (h : ∀ i, i < len → ∃ v, (part elem xs (i * n)).run P w = .ok v w ∧ (Op.equalIn d elem v v).run P w = .ok true w) : (Op.equalIn (d + 1) t (.agg xs) (.agg xs)).run P w = .ok true w := by
  simp only [Op.equalIn, Sem.run_bind, run_underlying ht, Result.andThen_ok, hn]
  simp only [Std.Legacy.Range.forIn_eq_forIn_range', Std.Legacy.Range.size, Nat.sub_zero, Nat.add_one_sub_one, Nat.div_one]
  have hL : ∀ i ∈ List.range' 0 len, i < len := by
    intro i hi
    simp at hi
    omega
  generalize List.range' 0 len = L at *
  induction L with
  | nil => simp
  | cons i L ih =>
    obtain ⟨v, h1, h2⟩ := h i (hL i (by simp))
    simp only [List.forIn_cons, Sem.run_bind, h1, h2, Result.andThen_ok, Bool.not_true, Bool.false_eq_true, if_false, Sem.run_pure]
    exact ih (fun j hj => hL j (by simp [hj]))
theorem eq_r (x y : ByteArray) (w : World) (d : Nat) : (Op.equalIn (d + 2) 23 (.agg #[.string x, .string y]) (.agg #[.string x, .string y])).run Tryz.prog w = .ok true w := by
  have hS : Tryz.prog.underlying 23 = some (.struct (Tryz.prog.fieldsOf 23)) := by kernel_rfl
  have hp : Tryz.prog.stoodInHeld 23 = false := by kernel_rfl
  have u9 := Tryz.underlying9
  rw [run_equalIn_agg w (d + 1) 23 _ _ hS hp]
  simp only [Program.fieldsOf, Tryz.underlying23]
  go_simp
theorem eq_r8 (n1 d1 n2 d2 n3 d3 n4 d4 : ByteArray) (w : World) : (Op.equalIn 10000 31 (.agg #[.string n1, .string d1, .string n2, .string d2, .string n3, .string d3, .string n4, .string d4]) (.agg #[.string n1, .string d1, .string n2, .string d2, .string n3, .string d3, .string n4, .string d4])).run Tryz.prog w = .ok true w := by
  rw [show (10000 : Nat) = 9999 + 1 from rfl]
  refine equalIn_array_self w 9999 _ 4 23 Tryz.underlying31 2 (by go_simp) _ (fun i hi => ?_)
  have : i = 0 ∨ i = 1 ∨ i = 2 ∨ i = 3 := by omega
  rcases this with rfl | rfl | rfl | rfl
  · exact ⟨.agg #[.string n1, .string d1], by go_simp, eq_r n1 d1 w 9997⟩
  · exact ⟨.agg #[.string n2, .string d2], by go_simp, eq_r n2 d2 w 9997⟩
  · exact ⟨.agg #[.string n3, .string d3], by go_simp, eq_r n3 d3 w 9997⟩
  · exact ⟨.agg #[.string n4, .string d4], by go_simp, eq_r n4 d4 w 9997⟩
theorem eq_e (z : Int) (w : World) (d : Nat) : (Op.equalIn (d + 1) 32 (.int .i64 z) (.int .i64 z)).run Tryz.prog w = .ok true w := by
  have h := run_equalIn_int (P := Tryz.prog) w d 32 .i64 .i64 z z Tryz.underlying32
  rw [h]; simp
theorem eq_e4 (e1 e2 e3 e4 : Int) (w : World) : (Op.equalIn 10000 33 (.agg #[.int .i64 e1, .int .i64 e2, .int .i64 e3, .int .i64 e4]) (.agg #[.int .i64 e1, .int .i64 e2, .int .i64 e3, .int .i64 e4])).run Tryz.prog w = .ok true w := by
  rw [show (10000 : Nat) = 9999 + 1 from rfl]
  refine equalIn_array_self w 9999 _ 4 32 Tryz.underlying33 1 (by go_simp) _ (fun i hi => ?_)
  have : i = 0 ∨ i = 1 ∨ i = 2 ∨ i = 3 := by omega
  rcases this with rfl | rfl | rfl | rfl
  · exact ⟨.int .i64 e1, by go_simp, eq_e e1 w 9998⟩
  · exact ⟨.int .i64 e2, by go_simp, eq_e e2 w 9998⟩
  · exact ⟨.int .i64 e3, by go_simp, eq_e e3 w 9998⟩
  · exact ⟨.int .i64 e4, by go_simp, eq_e e4 w 9998⟩
theorem gd8 : Tryz.prog.eqGuardType Tryz.prog.depth 31 = false := by kernel_rfl
theorem gd4 : Tryz.prog.eqGuardType Tryz.prog.depth 33 = false := by kernel_rfl
end Go.Proofs.YtcjcafekacceiaaGreatDoor
