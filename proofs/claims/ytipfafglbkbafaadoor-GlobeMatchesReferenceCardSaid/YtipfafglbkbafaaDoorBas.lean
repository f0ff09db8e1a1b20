/- Rows of areas in memory: what the layer's contracts speak of. -/
import Derived.WalkKit
import Derived.WalkLawsBesides
import Derived.WalkSpells
import Derived.BigQuiet
import Derived.Deep.QuietTactic
import Derived.Deep.RegionHeld3
import Derived.Deep.DrawnRows
import Derived.StillTailTactics
import Derived.Laws.Rows
import Derived.Laws.Tables
import Derived.Laws.Bits64b
import Derived.Laws.ShiftsVarLaws
import Derived.Below
import Derived.IntWalk
import Derived.Outline
import Derived.Lib.Hide
import Derived.Test.YtipfafglbkbafaaDoorChecked
import Derived.Test.YtipfafglbkbafaaDoorGm
namespace Go.Proofs.YtipfafglbkbafaaDoor
open Go.RowKit
set_option linter.unusedSimpArgs false
set_option linter.unusedVariables false

abbrev iV (n : Nat) : Value := .int .i64 (n : Int)
/-- The rows of a set of cells, as an array. -/
def FV (f : Ar) : Value := .agg ((rowsOf f).map iV).toArray
def FC (f : Ar) : Array Value := ((rowsOf f).map iV).toArray
theorem FV_eq (f : Ar) : FV f = .agg (FC f) := rfl
theorem FC_size (f : Ar) : (FC f).size = 24 := by unfold FC; simp [rows_len]
theorem FC_at (f : Ar) {y : Nat} (hy : y < 24) : (FC f)[y]? = some (iV (rowOf f y)) := by
  unfold FC
  rw [List.getElem?_toArray, List.getElem?_map, rows_at f hy]; rfl
theorem FC_one (f : Ar) : (FC f).all (·.oneCell') = true := by
  unfold FC
  rw [List.all_toArray, List.all_map, List.all_eq_true]
  intro n _; rfl
/-- No cells. -/
def nul : Ar := fun _ _ => false
theorem rows_nul (y : Nat) : rowOf nul y = 0 := by
  have : ∀ n, bitsTo (fun _ => false) n = 0 := by
    intro n
    induction n with
    | zero => rfl
    | succ n ih => unfold bitsTo; rw [ih]; rfl
  exact this 48
theorem rows_set {f g : Ar} {k r : Nat} (hk : k < 24) (hr : rowOf g k = r) (ho : ∀ y, y < 24 → y ≠ k → ∀ x, x < 48 → g x y = f x y) : (rowsOf f).set k r = rowsOf g := by
  apply List.ext_getElem?
  intro y
  by_cases hy : y < 24
  · rw [rows_at g hy]
    by_cases e : k = y
    · subst e
      rw [List.getElem?_set_self (by rw [rows_len]; exact hy), hr]
    · rw [List.getElem?_set_ne e, rows_at f hy]
      exact congrArg some (bits_congr (fun x hx => (ho y hy (fun h => e h.symm) x hx).symm))
  · rw [List.getElem?_eq_none (by rw [List.length_set, rows_len]; omega), List.getElem?_eq_none (by rw [rows_len]; omega)]
theorem FC_set {f g : Ar} {k r : Nat} (hk : k < 24) (hr : rowOf g k = r) (ho : ∀ y, y < 24 → y ≠ k → ∀ x, x < 48 → g x y = f x y) : (FC f).setIfInBounds k (iV r) = FC g := by
  unfold FC
  rw [← rows_set hk hr ho]
  simp [List.map_set]
theorem FC_eqv {f g : Ar} (h : Eqv f g) : FC f = FC g := by unfold FC; rw [rows_eqv.2 h]
theorem FV_eqv {f g : Ar} (h : Eqv f g) : FV f = FV g := by unfold FV; rw [rows_eqv.2 h]

theorem heap_old' (w : World) (o : Obj) (i : Nat) (h : i < w.heap.size) : (w.alloc o).heap[i]? = w.heap[i]? := by
  show (w.heap.push o)[i]? = _
  rw [Array.getElem?_push, if_neg (by omega)]
theorem heap_new' (w : World) (o : Obj) (i : Nat) (h : i = w.heap.size) : (w.alloc o).heap[i]? = some o := by
  subst h
  show (w.heap.push o)[w.heap.size]? = _
  simp
/-- A block holds the rows of f. -/
def HasF (w : World) (g : Nat) (t : TypeId) (f : Ar) : Prop := w.heap[g]? = some (.cells (FC f) t (0, 0))
theorem HasF.cell {w : World} {g : Nat} {t : TypeId} {f : Ar} (h : HasF w g t f) {y : Nat} (hy : y < 24) : w.cell? ⟨g, y, none⟩ = some (iV (rowOf f y)) := by
  rw [cell_of_row w g y _ t (0, 0) h]
  exact FC_at f hy
theorem HasF.frozen {w : World} {g : Nat} {t : TypeId} {f : Ar} (h : HasF w g t f) (y : Nat) : w.frozen? ⟨g, y, none⟩ = false := frozen_of_row w g y _ t h
theorem HasF.lt {w : World} {g : Nat} {t : TypeId} {f : Ar} (h : HasF w g t f) : g < w.heap.size := (Array.getElem?_eq_some_iff.1 h).1
theorem HasF.below {B : Nat} {w w' : World} {g : Nat} {t : TypeId} {f : Ar} (h : HasF w g t f) (hb : Below B w w') (hg : g < B) : HasF w' g t f := (hb.block g hg).trans h
theorem HasF.set {w : World} {g : Nat} {t : TypeId} {f f' : Ar} (h : HasF w g t f) {k r : Nat} (hk : k < 24) (hr : rowOf f' k = r) (ho : ∀ y, y < 24 → y ≠ k → ∀ x, x < 48 → f' x y = f x y) : HasF (w.setCell ⟨g, k, none⟩ (iV r)) g t f' := by
  unfold HasF
  rw [heap_setCell_same _ _ _ _ _ _ h]
  exact congrArg (fun c => some (Obj.cells c t (0, 0))) (FC_set hk hr ho)

theorem i64_or_nat (a b : Nat) (ha : a < 2 ^ 63) (hb : b < 2 ^ 63) : bits .or .i64 (a : Int) (b : Int) = ((a ||| b : Nat) : Int) := by
  have hx : a ||| b < 2 ^ 63 := Nat.or_lt_two_pow ha hb
  have h1 : (BitVec.ofInt 64 (a : Int)).toNat = a := by
    rw [BitVec.ofInt_natCast, BitVec.toNat_ofNat]; exact Nat.mod_eq_of_lt (by omega)
  have h2 : (BitVec.ofInt 64 (b : Int)).toNat = b := by
    rw [BitVec.ofInt_natCast, BitVec.toNat_ofNat]; exact Nat.mod_eq_of_lt (by omega)
  show IntKind.i64.wrap ((BitVec.ofInt 64 (a : Int) ||| BitVec.ofInt 64 (b : Int)).toNat : Int) = _
  rw [BitVec.toNat_or, h1, h2, IntKind.wrap_i64]
  omega
theorem i64_and_nat (a b : Nat) (ha : a < 2 ^ 63) (hb : b < 2 ^ 63) : bits .and .i64 (a : Int) (b : Int) = ((a &&& b : Nat) : Int) := by
  have hx : a &&& b < 2 ^ 63 := Nat.and_lt_two_pow _ hb
  have h1 : (BitVec.ofInt 64 (a : Int)).toNat = a := by
    rw [BitVec.ofInt_natCast, BitVec.toNat_ofNat]; exact Nat.mod_eq_of_lt (by omega)
  have h2 : (BitVec.ofInt 64 (b : Int)).toNat = b := by
    rw [BitVec.ofInt_natCast, BitVec.toNat_ofNat]; exact Nat.mod_eq_of_lt (by omega)
  show IntKind.i64.wrap ((BitVec.ofInt 64 (a : Int) &&& BitVec.ofInt 64 (b : Int)).toNat : Int) = _
  rw [BitVec.toNat_and, h1, h2, IntKind.wrap_i64]
  omega
end Go.Proofs.YtipfafglbkbafaaDoor
