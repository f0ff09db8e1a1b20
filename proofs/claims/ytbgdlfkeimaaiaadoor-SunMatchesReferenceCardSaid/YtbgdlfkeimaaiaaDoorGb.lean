/- Areas in memory; the program's read. -/
import Derived.Lib.TrailingZeros
import Derived.WalkKit
import Derived.WalkLawsBesides
import Derived.WalkSpells
import Derived.BigQuiet
import Derived.Deep.QuietTactic
import Derived.Deep.RegionHeld3
import Derived.Deep.DrawnRows
import Derived.StillTailTactics
import Derived.Laws.Rows
import Derived.Laws.Tables
import Derived.Laws.Bits64b
import Derived.Laws.ShiftsVarLaws
import Derived.Below
import Derived.IntWalk
import Derived.Outline
import Derived.Lib.Hide
import Derived.Test.YtbgdlfkeimaaiaaDoorChecked
import Derived.Deep.MidRow
import Derived.Deep.Cut
import Derived.Deep.CutBlock
import Derived.Deep.DeepCutAuto
import Derived.Laws.StructEq
import Derived.RangeFuncNested
import Derived.Shelf.Abstract
import Derived.Test.YtbgdlfkeimaaiaaDoorGa
namespace Go.Proofs.YtbgdlfkeimaaiaaDoor
set_option linter.unusedVariables false
set_option linter.unusedSimpArgs false

/-- A word as its eight bytes. -/
def bytes : Nat → Nat → List Nat
  | 0, _ => []
  | n + 1, x => x % 256 :: bytes n (x / 256)
/-- The word of the library's first three steps. -/
def w3 (x : Nat) : Nat :=
  let y := (x / 2 &&& 6148914691236517205) + (x &&& 6148914691236517205)
  let z := (y / 4 &&& 3689348814741910323) + (y &&& 3689348814741910323)
  (z / 16 + z) &&& 1085102592571150095
end Go.Proofs.YtbgdlfkeimaaiaaDoor

namespace Go.Proofs.YtbgdlfkeimaaiaaDoor
open Go
set_option linter.unusedVariables false
set_option linter.unusedSimpArgs false

theorem odd_bit (k m i : Nat) : (2 ^ k * (2 * m + 1)).testBit i = (decide (i = k) || (decide (k < i) && m.testBit (i - k - 1))) := by
  rw [Nat.mul_comm, Nat.testBit_mul_two_pow]
  rcases Nat.lt_trichotomy i k with h | rfl | h
  · have h1 : ¬ k ≤ i := by omega
    have h2 : ¬ i = k := by omega
    have h3 : ¬ k < i := by omega
    simp [h1, h2, h3]
  · simp
  · have h1 : k ≤ i := by omega
    have h2 : ¬ i = k := by omega
    obtain ⟨j, rfl⟩ : ∃ j, i = k + (j + 1) := ⟨i - k - 1, by omega⟩
    have e : k + (j + 1) - k = j + 1 := by omega
    rw [e, Nat.testBit_succ, show (2 * m + 1) / 2 = m by omega]
    simp [h1, h]
theorem less_bit (k m i : Nat) : (2 ^ k * (2 * m + 1) &&& (2 ^ k * (2 * m + 1) - 1)).testBit i = (decide (k < i) && m.testBit (i - k - 1)) := by
  have hp : 0 < 2 ^ k := Nat.two_pow_pos k
  have e : 2 ^ k * (2 * m + 1) - 1 = 2 ^ k * (2 * m) + (2 ^ k - 1) := by rw [Nat.mul_add]; omega
  rw [Nat.testBit_and, odd_bit, e, Nat.testBit_two_pow_mul_add _ (by omega)]
  rcases Nat.lt_trichotomy i k with h | rfl | h
  · have h2 : ¬ i = k := by omega
    have h3 : ¬ k < i := by omega
    simp [h2, h3]
  · simp
  · have h2 : ¬ i = k := by omega
    have h4 : ¬ i < k := by omega
    obtain ⟨j, rfl⟩ : ∃ j, i = k + (j + 1) := ⟨i - k - 1, by omega⟩
    have e3 : k + (j + 1) - k = j + 1 := by omega
    rw [if_neg h4, e3, Nat.testBit_succ, show 2 * m / 2 = m by omega]
    simp [h]
/-- The bits from k on. -/
def from_ (f : Nat → Bool) (k : Nat) : Nat := bitsTo (fun x => decide (k ≤ x) && f x) 48
theorem from_0 (f : Nat → Bool) : from_ f 0 = bitsTo f 48 := bits_congr (fun x _ => by simp)
theorem from_lt (f : Nat → Bool) (k : Nat) : from_ f k < 281474976710656 := bitsTo_lt _ 48
theorem from_bit (f : Nat → Bool) (k x : Nat) : (from_ f k).testBit x = (decide (x < 48) && (decide (k ≤ x) && f x)) := bitsTo_bit _ 48 x
theorem from_zero {f : Nat → Bool} {k : Nat} (h : from_ f k = 0) : ∀ x, x < 48 → k ≤ x → f x = false := fun x hx hk => by
  have := from_bit f k x
  rw [h, Nat.zero_testBit] at this
  simp only [hx, hk, decide_true, Bool.true_and] at this
  exact this.symm
theorem from_step {f : Nat → Bool} {k : Nat} (h : from_ f k ≠ 0) : ∃ t, Lib.ctz 64 (from_ f k) = t ∧ t < 48 ∧ k ≤ t ∧ f t = true ∧ (∀ x, k ≤ x → x < t → f x = false) ∧ from_ f k &&& (from_ f k - 1) = from_ f (t + 1) ∧ 1 ≤ from_ f k := by
  have hlt := from_lt f k
  obtain ⟨m, hm, hk⟩ := Lib.ctzFrom_spec 64 (from_ f k) (by omega) (by omega)
  have e : Lib.ctz 64 (from_ f k) = Lib.ctzFrom 64 (from_ f k) := by simp [Lib.ctz, h]
  refine ⟨_, e, ?_⟩
  generalize Lib.ctzFrom 64 (from_ f k) = t at *
  have hbit : ∀ i, (decide (i < 48) && (decide (k ≤ i) && f i)) = (decide (i = t) || (decide (t < i) && m.testBit (i - t - 1))) := fun i => by
    rw [← from_bit, ← odd_bit, ← hm]
  have ht := hbit t
  simp only [decide_true, Bool.true_or, Bool.and_eq_true, decide_eq_true_eq] at ht
  refine ⟨ht.1, ht.2.1, ht.2.2, fun x h1 h2 => ?_, ?_, by omega⟩
  · have := hbit x
    have a1 : x < 48 := by omega
    have a2 : ¬ x = t := by omega
    have a3 : ¬ t < x := by omega
    simpa [a1, h1, a2, a3] using this
  · have hx : from_ f k &&& (from_ f k - 1) < 2 ^ 48 := Nat.lt_of_le_of_lt Nat.and_le_left hlt
    refine ext_bits hx (from_lt f (t + 1)) (fun i hi => ?_)
    have e2 : (from_ f k &&& (from_ f k - 1)).testBit i = (decide (t < i) && m.testBit (i - t - 1)) := by rw [hm]; exact less_bit t m i
    have := hbit i
    rw [e2, from_bit]
    by_cases c : t < i
    · have a1 : ¬ i = t := by omega
      have a2 : k ≤ i := by omega
      have a3 : t + 1 ≤ i := by omega
      simp only [hi, a1, a2, a3, c, decide_true, decide_false, Bool.true_and, Bool.false_or] at this ⊢
      exact this.symm
    · have a3 : ¬ t + 1 ≤ i := by omega
      simp [c, a3]
/-- Nothing between: the cells up to t are those up to k. -/
theorem rowCells_skip (f : Ar) (y : Nat) {k : Nat} : ∀ {t}, k ≤ t → (∀ x, k ≤ x → x < t → f x y = false) → rowCells f y t = rowCells f y k
  | 0, h, _ => by obtain rfl : k = 0 := by omega
                  rfl
  | t + 1, h, hz => by
    by_cases e : k = t + 1
    · rw [e]
    · rw [rowCells_succ, hz t (by omega) (by omega), rowCells_skip f y (t := t) (by omega) (fun x h1 h2 => hz x h1 (by omega))]
      simp
theorem rowCells_next (f : Ar) (y : Nat) {k t : Nat} (h : k ≤ t) (hz : ∀ x, k ≤ x → x < t → f x y = false) (ht : f t y = true) : rowCells f y (t + 1) = rowCells f y k ++ [(t, y)] := by
  rw [rowCells_succ, ht, rowCells_skip f y h hz]; simp
end Go.Proofs.YtbgdlfkeimaaiaaDoor

namespace Go.Proofs.YtbgdlfkeimaaiaaDoor
open Go.RowKit
set_option linter.unusedSimpArgs false
set_option linter.unusedVariables false

abbrev iV (n : Nat) : Value := .int .i64 (n : Int)
/-- The rows of a set of cells, as an array. -/
def FV (f : Ar) : Value := .agg ((rowsOf f).map iV).toArray
def FC (f : Ar) : Array Value := ((rowsOf f).map iV).toArray
theorem FV_eq (f : Ar) : FV f = .agg (FC f) := rfl
theorem FC_size (f : Ar) : (FC f).size = 24 := by unfold FC; simp [rows_len]
theorem FC_at (f : Ar) {y : Nat} (hy : y < 24) : (FC f)[y]? = some (iV (rowOf f y)) := by
  unfold FC
  rw [List.getElem?_toArray, List.getElem?_map, rows_at f hy]; rfl
theorem FC_one (f : Ar) : (FC f).all (·.oneCell') = true := by
  unfold FC
  rw [List.all_toArray, List.all_map, List.all_eq_true]
  intro n _; rfl
/-- No cells. -/
def nul : Ar := fun _ _ => false
theorem rows_nul (y : Nat) : rowOf nul y = 0 := by
  have : ∀ n, bitsTo (fun _ => false) n = 0 := by
    intro n
    induction n with
    | zero => rfl
    | succ n ih => unfold bitsTo; rw [ih]; rfl
  exact this 48
theorem rows_set {f g : Ar} {k r : Nat} (hk : k < 24) (hr : rowOf g k = r) (ho : ∀ y, y < 24 → y ≠ k → ∀ x, x < 48 → g x y = f x y) : (rowsOf f).set k r = rowsOf g := by
  apply List.ext_getElem?
  intro y
  by_cases hy : y < 24
  · rw [rows_at g hy]
    by_cases e : k = y
    · subst e
      rw [List.getElem?_set_self (by rw [rows_len]; exact hy), hr]
    · rw [List.getElem?_set_ne e, rows_at f hy]
      exact congrArg some (bits_congr (fun x hx => (ho y hy (fun h => e h.symm) x hx).symm))
  · rw [List.getElem?_eq_none (by rw [List.length_set, rows_len]; omega), List.getElem?_eq_none (by rw [rows_len]; omega)]
theorem FC_set {f g : Ar} {k r : Nat} (hk : k < 24) (hr : rowOf g k = r) (ho : ∀ y, y < 24 → y ≠ k → ∀ x, x < 48 → g x y = f x y) : (FC f).setIfInBounds k (iV r) = FC g := by
  unfold FC
  rw [← rows_set hk hr ho]
  simp [List.map_set]
theorem heap_old' (w : World) (o : Obj) (i : Nat) (h : i < w.heap.size) : (w.alloc o).heap[i]? = w.heap[i]? := by
  show (w.heap.push o)[i]? = _
  rw [Array.getElem?_push, if_neg (by omega)]
theorem heap_new' (w : World) (o : Obj) (i : Nat) (h : i = w.heap.size) : (w.alloc o).heap[i]? = some o := by
  subst h
  show (w.heap.push o)[w.heap.size]? = _
  simp
/-- A block holds the rows of f. -/
def HasF (w : World) (g : Nat) (t : TypeId) (f : Ar) : Prop := w.heap[g]? = some (.cells (FC f) t (0, 0))
theorem HasF.cell {w : World} {g : Nat} {t : TypeId} {f : Ar} (h : HasF w g t f) {y : Nat} (hy : y < 24) : w.cell? ⟨g, y, none⟩ = some (iV (rowOf f y)) := by
  rw [cell_of_row w g y _ t (0, 0) h]
  exact FC_at f hy
theorem HasF.frozen {w : World} {g : Nat} {t : TypeId} {f : Ar} (h : HasF w g t f) (y : Nat) : w.frozen? ⟨g, y, none⟩ = false := frozen_of_row w g y _ t h
theorem HasF.lt {w : World} {g : Nat} {t : TypeId} {f : Ar} (h : HasF w g t f) : g < w.heap.size := (Array.getElem?_eq_some_iff.1 h).1
theorem HasF.below {B : Nat} {w w' : World} {g : Nat} {t : TypeId} {f : Ar} (h : HasF w g t f) (hb : Below B w w') (hg : g < B) : HasF w' g t f := (hb.block g hg).trans h
theorem HasF.set {w : World} {g : Nat} {t : TypeId} {f f' : Ar} (h : HasF w g t f) {k r : Nat} (hk : k < 24) (hr : rowOf f' k = r) (ho : ∀ y, y < 24 → y ≠ k → ∀ x, x < 48 → f' x y = f x y) : HasF (w.setCell ⟨g, k, none⟩ (iV r)) g t f' := by
  unfold HasF
  rw [heap_setCell_same _ _ _ _ _ _ h]
  exact congrArg (fun c => some (Obj.cells c t (0, 0))) (FC_set hk hr ho)

theorem i64_and_nat (a b : Nat) (ha : a < 2 ^ 63) (hb : b < 2 ^ 63) : bits .and .i64 (a : Int) (b : Int) = ((a &&& b : Nat) : Int) := by
  have hx : a &&& b < 2 ^ 63 := Nat.and_lt_two_pow _ hb
  have h1 : (BitVec.ofInt 64 (a : Int)).toNat = a := by
    rw [BitVec.ofInt_natCast, BitVec.toNat_ofNat]; exact Nat.mod_eq_of_lt (by omega)
  have h2 : (BitVec.ofInt 64 (b : Int)).toNat = b := by
    rw [BitVec.ofInt_natCast, BitVec.toNat_ofNat]; exact Nat.mod_eq_of_lt (by omega)
  show IntKind.i64.wrap ((BitVec.ofInt 64 (a : Int) &&& BitVec.ofInt 64 (b : Int)).toNat : Int) = _
  rw [BitVec.toNat_and, h1, h2, IntKind.wrap_i64]
  omega
end Go.Proofs.YtbgdlfkeimaaiaaDoor

namespace Go.Proofs.YtbgdlfkeimaaiaaDoor
open Go.RowKit
set_option linter.unusedSimpArgs false
set_option linter.unusedVariables false

theorem ret_bool' {a b : Bool} (h : a = b) : Ending.returned (.bool a) = .returned (.bool b) := by rw [h]
/-- A cell on the globe. -/
def onG (x y : Int) : Bool := decide (0 ≤ x ∧ x < 48 ∧ 0 ≤ y ∧ y < 24)
abbrev CV (x y : Int) : Value := .agg #[.int .i64 x, .int .i64 y]
theorem validCell_any (x y : Int) (w : World) :
    Calls Tryd.prog 38 #[CV x y] w fun e w' => e = .returned (.bool (onG x y)) ∧ Below w.heap.size w w' := by
  go_enter Tryd.func38, Tryd.ntmps38
  go_wp2
  all_goals
    go_ret
    exact ⟨ret_bool' (Bool.eq_iff_iff.2 (by unfold onG; simp only [decide_eq_true_eq, Bool.false_eq_true, true_iff, false_iff]; omega)), (Below.refl _ _).alloc (Nat.le_refl _) _⟩
end Go.Proofs.YtbgdlfkeimaaiaaDoor

namespace Go.Proofs.YtbgdlfkeimaaiaaDoor
open Go.RowKit
set_option linter.unusedSimpArgs false
set_option linter.unusedVariables false

/-- What the package-level variables hold: a table of the library's, and the two lights. -/
def Tab (w : World) : Prop := 3 < w.heap.size ∧ (∀ j, j < 64 → w.cell? ⟨3, j, none⟩ = some (.int .u8 (Lib.deBruijn64tab.getD j 0 : Nat))) ∧
  (w.cell? ⟨0, 0, none⟩ = some (.bool true) ∧ w.cell? ⟨0, 1, none⟩ = some (.bool false)) ∧ (w.cell? ⟨1, 0, none⟩ = some (.bool false) ∧ w.cell? ⟨1, 1, none⟩ = some (.bool true))
theorem Tab.below {B : Nat} {w w' : World} (h : Tab w) (hb : Below B w w') (hB : 3 < B) : Tab w' :=
  ⟨Nat.lt_of_lt_of_le h.1 hb.size, fun i hi => (hb.cell (p := ⟨3, i, none⟩) hB).trans (h.2.1 i hi),
    ⟨(hb.cell (p := ⟨0, 0, none⟩) (Nat.lt_trans (by decide) hB)).trans h.2.2.1.1, (hb.cell (p := ⟨0, 1, none⟩) (Nat.lt_trans (by decide) hB)).trans h.2.2.1.2⟩,
    ⟨(hb.cell (p := ⟨1, 0, none⟩) (Nat.lt_trans (by decide) hB)).trans h.2.2.2.1, (hb.cell (p := ⟨1, 1, none⟩) (Nat.lt_trans (by decide) hB)).trans h.2.2.2.2⟩⟩
theorem tz_key (x a : Nat) (hx : x < 18446744073709551616) (hx0 : x ≠ 0) (hlow : x &&& (18446744073709551616 - x) = a) :
    IntKind.u64.wrap (bits BinOp.and IntKind.u64 (x : Int) (IntKind.u64.wrap (-(x : Int))) * 285870213051353865) / 288230376151711744 = ((a * 285870213051353865 % 18446744073709551616 / 288230376151711744 : Nat) : Int) := by
  have e1 : IntKind.u64.wrap (-(x : Int)) = ((18446744073709551616 - x : Nat) : Int) := by rw [IntKind.wrap_u64]; omega
  rw [e1, bits_and_u64_nat x _ hx (by omega), hlow, IntKind.wrap_u64]
  omega
set_option maxHeartbeats 1000000 in
theorem tz64_core (x k idx : Nat) (w : World) (hx0 : ((x : Int) == 0) = false)
    (key : IntKind.u64.wrap (bits BinOp.and IntKind.u64 (x : Int) (IntKind.u64.wrap (-(x : Int))) * 285870213051353865) / 288230376151711744 = (idx : Int))
    (hi : idx < 64) (hk : k < 64) (hcell : w.cell? ⟨3, idx, none⟩ = some (.int .u8 k)) :
    Calls Tryd.prog 59 #[.int .u64 x] w fun e w' => e = .returned (.int .i64 k) ∧ w = w' := by
  go_enter Tryd.func59, Tryd.ntmps59
  go_wp2
  go_ret
  exact ⟨rfl, rfl⟩
theorem tz64_any (x : Nat) (hx : x < 18446744073709551616) (hx0 : x ≠ 0) (w : World) (hT : Tab w) :
    Calls Tryd.prog 59 #[.int .u64 x] w fun e w' => e = .returned (.int .i64 (Lib.ctz 64 x : Nat)) ∧ w = w' := by
  obtain ⟨hlow, hk⟩ := Lib.lowest_bit 64 x hx0 hx
  obtain ⟨hi, htab⟩ := Lib.deBruijn64_at _ hk
  have hcell := hT.2.1 _ hi
  rw [htab] at hcell
  exact tz64_core x _ _ w (by simp; omega) (tz_key x _ hx hx0 hlow) hi hk hcell
theorem tz_any (x : Nat) (hx : x < 18446744073709551616) (hx0 : x ≠ 0) (w : World) (hT : Tab w) :
    Calls Tryd.prog 56 #[.int .u64 x] w fun e w' => e = .returned (.int .i64 (Lib.ctz 64 x : Nat)) ∧ w = w' := by
  have C := Lib.hid (tz64_any x hx hx0 w hT)
  clear hx0 hT
  generalize Lib.ctz 64 x = k at *
  go_enter Tryd.func56, Tryd.ntmps56
  go_wp2_with (go_at_call 59; refine C.out.mono ?_; rintro e w' ⟨rfl, rfl⟩)
  go_ret
  exact ⟨rfl, rfl⟩
end Go.Proofs.YtbgdlfkeimaaiaaDoor

namespace Go.Proofs.YtbgdlfkeimaaiaaDoor
open Go.RowKit
set_option linter.unusedSimpArgs false
set_option linter.unusedVariables false

theorem info62 : (Tryd.prog.info? 70).map (·.size) = some 24 := by kernel_rfl
theorem infoFC (f : Ar) : (Tryd.prog.info? 70).map (·.size) = some (FC f).size := by rw [FC_size]; exact info62
/-- A slice of integers, nil and empty included. -/
def Sl (W : World) (al : Option Addr) (n : Nat) (zs : List Int) : Prop :=
  n = zs.length ∧ n ≤ 140737488355328 ∧ (∀ z ∈ zs, -9223372036854775808 ≤ z ∧ z ≤ 9223372036854775807) ∧
    (n = 0 ∨ ∃ b o, al = some ⟨b, o, none⟩ ∧ b < W.heap.size ∧ ∀ i, i < n → W.cell? ⟨b, o + i, none⟩ = some (.int .i64 (zs.getD i 0)))
theorem Sl.below {W W' : World} {al : Option Addr} {n : Nat} {zs : List Int} (h : Sl W al n zs) {B : Nat} (hB : W.heap.size ≤ B) (hb : Below B W W') : Sl W' al n zs := by
  obtain ⟨h1, h2, h3, h4⟩ := h
  refine ⟨h1, h2, h3, ?_⟩
  rcases h4 with h4 | ⟨b, o, rfl, hb', hc⟩
  · exact .inl h4
  · exact .inr ⟨b, o, rfl, Nat.lt_of_lt_of_le hb' hb.size, fun i hi => (hb.cell (p := ⟨b, o + i, none⟩) (by show b < B; omega)).trans (hc i hi)⟩
theorem Sl.alloc {W : World} {al : Option Addr} {n : Nat} {zs : List Int} (h : Sl W al n zs) (ob : Obj) : Sl (W.alloc ob) al n zs :=
  h.below (Nat.le_refl _) ((Below.refl _ _).alloc (Nat.le_refl _) _)
/-- The rows of f as integers. -/
def rz (f : Ar) : List Int := (rowsOf f).map Int.ofNat
theorem rz_len (f : Ar) : (rz f).length = 24 := by unfold rz; rw [List.length_map, rows_len]
theorem rz_at (f : Ar) {y : Nat} (hy : y < 24) : (rz f).getD y 0 = (rowOf f y : Int) := by
  unfold rz
  rw [List.getD_eq_getElem?_getD, List.getElem?_map, rows_at f hy]; rfl
theorem rz_mem (f : Ar) : ∀ z ∈ rz f, 0 ≤ z ∧ z ≤ 281474976710655 := by
  intro z hz
  unfold rz rowsOf at hz
  rw [List.map_map] at hz
  obtain ⟨y, _, rfl⟩ := List.mem_map.1 hz
  have := row_lt f y
  show (0 : Int) ≤ (rowOf f y : Int) ∧ (rowOf f y : Int) ≤ _
  omega
/-- Stored whole, in a block of the call's own. -/
theorem below_setRow {B : Nat} {w0 w : World} (h : Below B w0 w) {g : Nat} (hg : B ≤ g) (cs : Array Value) : Below B w0 (w.setRow g cs) :=
  ⟨h.os, h.tape, h.output, by rw [setRow_size]; exact h.size, fun k hk => (setRow_other w g k cs (by omega)).trans (h.block k hk)⟩
def inR (z : Int) : Prop := 0 ≤ z ∧ z ≤ 281474976710655
instance (z : Int) : Decidable (inR z) := by unfold inR; infer_instance
/-- What a slice of rows says: an area, or none. -/
def Is (zs : List Int) : Option Ar → Prop
  | some f => zs = rz f
  | none => ¬ (zs.length = 24 ∧ ∀ z ∈ zs, inR z)
theorem is_some_ok {zs : List Int} {f : Ar} (h : Is zs (some f)) : zs.length = 24 ∧ ∀ z ∈ zs, inR z := by
  obtain rfl : zs = rz f := h
  exact ⟨rz_len f, rz_mem f⟩
/-- An area's slice of rows. -/
def SA (W : World) (al : Option Addr) (n : Nat) (f : Ar) : Prop := Sl W al n (rz f)
theorem SA.n {W : World} {al : Option Addr} {n : Nat} {f : Ar} (h : SA W al n f) : n = 24 := by rw [h.1, rz_len]
theorem SA.parts {W : World} {al : Option Addr} {n : Nat} {f : Ar} (h : SA W al n f) : n = 24 ∧ ∃ b o, al = some ⟨b, o, none⟩ ∧ b < W.heap.size ∧ ∀ y, y < 24 → W.cell? ⟨b, o + y, none⟩ = some (iV (rowOf f y)) := by
  have hn := h.n
  obtain ⟨h1, h2, h3, h4⟩ := h
  refine ⟨hn, ?_⟩
  rcases h4 with h4 | ⟨b, o, rfl, hb, hc⟩
  · omega
  · exact ⟨b, o, rfl, hb, fun y hy => by rw [hc y (by omega), rz_at f hy]⟩
theorem SA.range {W : World} {b o : Nat} {f : Ar} (hc : ∀ y, y < 24 → W.cell? ⟨b, o + y, none⟩ = some (iV (rowOf f y))) : W.rangeAt b o (FC f).toList := by
  intro j v hv
  have hj : j < 24 := by
    have := (List.getElem?_eq_some_iff.1 hv).1
    simpa [FC_size] using this
  rw [hc j hj]
  have := FC_at f hj
  rw [← Array.getElem?_toList] at this
  rw [← this]; exact hv
theorem FC_nul : FC nul = #[.int .i64 0, .int .i64 0, .int .i64 0, .int .i64 0, .int .i64 0, .int .i64 0, .int .i64 0, .int .i64 0, .int .i64 0, .int .i64 0, .int .i64 0, .int .i64 0,
    .int .i64 0, .int .i64 0, .int .i64 0, .int .i64 0, .int .i64 0, .int .i64 0, .int .i64 0, .int .i64 0, .int .i64 0, .int .i64 0, .int .i64 0, .int .i64 0] := by
  unfold FC rowsOf
  rw [List.map_map]
  have : ∀ y ∈ List.range 24, (iV ∘ rowOf nul) y = .int .i64 0 := fun y _ => by show iV (rowOf nul y) = _; rw [rows_nul]; rfl
  rw [List.map_congr_left this]
  rfl
theorem results_row_tmp {P : Program} {fn : Func} {p u : Tmp} {ty : TypeId} (h : fn.results = #[.cell p ty, .tmp u]) (tmps : Array Value) (w : World) (g : Nat) (t : TypeId) (cs : Array Value) (fr : Nat × Nat) (d : TypeDesc)
    (hp : tmps.getD p undef = .pointer (some ⟨g, 0, none⟩)) (hg : w.heap[g]? = some (.cells cs t fr))
    (hu : P.underlying ty = some d) (hd : (match d with | .struct _ | .array _ _ => true | _ => false) = true) (hi : (P.info? ty).map (·.size) = some cs.size) (v : Value) (hv : tmps.getD u undef = v) :
    (results fn tmps).run P w = .ok (.tuple #[.agg cs, v]) w := by
  rw [results_cell_tmp h, hp, hv]
  simp only [asAddr, Sem.run_pure, Result.andThen_ok]
  rw [run_loadVar_row (P := P) w g t ty cs fr d hg hu hd hi]
  rfl
theorem wpList_arrayAt {P : Program} {ops : Array Oper} {rest : List Oper} {op : Oper} {a : Act} {w : World} {Q : Exit → Act → World → Prop} (hgd : op.guard = none) (ty : TypeId) (x : Operand) (ho : op.op = .sliceToArrayPointer ty x)
    (al : Option Addr) (n c m : Nat) (e : TypeId) (hx : a.eval x = .slice al n c) (hu : P.underlying ty = some (.array m e)) (hm : m ≤ n)
    (h : wpList P ops Q rest (a.put op.dst (.pointer al)) w) : wpList P ops Q (op :: rest) a w :=
  wpList_plain hgd fun _ hK => by
    unfold Oper.wp execOp
    simp only [ho, hx, Instr.arrayAt, Sem.run_bind, run_underlying hu, Result.andThen_ok, Sem.run_pure, if_neg (Nat.not_lt.2 hm)]
    exact hK _ _ h
theorem box_read (w : World) (b o c : Nat) (al : Option Addr) (n : Nat) : ∃ W, (w.alloc (.cells #[.slice al n c] 27)).alloc (.cells (FC nul) 70) = W ∧ Below w.heap.size w W ∧ W.heap.size = w.heap.size + 2 ∧
    W.cell? ⟨w.heap.size, 0, none⟩ = some (.slice al n c) ∧ HasF W (w.heap.size + 1) 70 nul := by
  refine ⟨_, rfl, ((Below.refl _ _).alloc (Nat.le_refl _) _).alloc (by simp) _, by simp, ?_, ?_⟩
  · rw [cell_of_row _ _ 0 #[.slice al n c] 27 (0, 0) (by rw [heap_old' _ _ _ (by simp), heap_new' _ _ _ rfl])]; rfl
  · unfold HasF
    rw [heap_new' _ _ _ (by simp)]
set_option maxRecDepth 100000 in
set_option maxHeartbeats 1000000 in
theorem read_yes (al : Option Addr) (n c : Nat) (f : Ar) (w : World) (h : SA w al n f) :
    Calls Tryd.prog 49 #[.agg #[.slice al n c]] w fun e w' => e = .returned (.tuple #[FV f, .bool true]) ∧ Below w.heap.size w w' := by
  obtain ⟨rfl, b, o, rfl, hb, hc⟩ := h.parts
  obtain ⟨W, hW, hB, hz, hbox, hF⟩ := box_read w b o c (some ⟨b, o, none⟩) 24
  have HR := Lib.hid (SA.range (W := W) (fun y hy => (hB.cell (p := ⟨b, o + y, none⟩) hb).trans (hc y hy)))
  have HC := Lib.hid (fun y (hy : y < 24) => (hB.cell (p := ⟨b, o + y, none⟩) hb).trans (hc y hy))
  have HFF := Lib.hid hF
  have HB := Lib.hid hB
  rw [FC_nul] at hW
  have HZ := Lib.hid hz
  clear hc h hF hB hz
  go_enter Tryd.func49, Tryd.ntmps49
  go_wp2
  clear hW
  go_loop [14] (fun iv => ∃ i : Nat, i ≤ 24 ∧ iv = .int .i64 i) (fun iv => 24 - (intOf iv).toNat)
  case atStart => exact ⟨0, by omega, rfl⟩
  case round =>
    obtain ⟨i, hi, rfl⟩ := hrel
    by_cases hlt : i < 24
    · have hci := HC.out i hlt
      have hr := row_lt f i
      generalize rowOf f i = r at hci hr
      go_wp2
      go_round
      case rel => exact ⟨i + 1, by omega, by go_num⟩
      case measure => simp [intOf]; omega
    · obtain rfl : i = 24 := by omega
      go_wp2_with (first
        | (refine wpList_arrayAt rfl 70 _ rfl (some ⟨b, o, none⟩) 24 c 24 3 rfl Tryd.underlying70 (Nat.le_refl _) ?_)
        | (refine wpList_load_mid rfl 70 _ rfl b o rfl (FC f).toList _ HR.out Tryd.underlying70 rfl (by rw [info62, Array.length_toList, FC_size]) ?_)
        | (refine wpList_store_row rfl 70 _ _ rfl (w.heap.size + 1) (FC f).toList.toArray rfl rfl 70 (FC nul) HFF.out (by rw [info62]; simp [FC_size]) (by simp [FC_size]) (FC_one f) ?_))
      have hgr := setRow_heap W (w.heap.size + 1) _ (FC f) _ _ HFF.out
      exact bodyPost_ret (v := .tuple #[.agg (FC f), .bool true]) (results_row_tmp rfl _ _ (w.heap.size + 1) 70 (FC f) (0, 0) _ rfl hgr Tryd.underlying70 rfl (infoFC f) _ rfl) rfl ⟨rfl, below_setRow HB.out (by omega) _⟩
theorem first_bad : ∀ (zs : List Int), ¬ (∀ z ∈ zs, inR z) → ∃ j, j < zs.length ∧ ¬ inR (zs.getD j 0) ∧ ∀ i, i < j → inR (zs.getD i 0)
  | [], h => absurd (fun z hz => by cases hz) h
  | a :: l, h => by
    by_cases ha : inR a
    · obtain ⟨j, h1, h2, h3⟩ := first_bad l (fun hl => h (fun z hz => by
        rcases List.mem_cons.1 hz with rfl | hz
        · exact ha
        · exact hl z hz))
      refine ⟨j + 1, by simp; omega, by simpa using h2, fun i hi => ?_⟩
      cases i with
      | zero => exact ha
      | succ i => simpa using h3 i (by omega)
    · exact ⟨0, by simp, ha, fun i hi => by omega⟩
set_option maxRecDepth 100000 in
set_option maxHeartbeats 1000000 in
theorem read_len (al : Option Addr) (n c : Nat) (w : World) (h : n ≠ 24) :
    Calls Tryd.prog 49 #[.agg #[.slice al n c]] w fun e w' => e = .returned (.tuple #[FV nul, .bool false]) ∧ Below w.heap.size w w' := by
  obtain ⟨W, hW, hB, hz, hbox, hF⟩ := box_read w 0 0 c al n
  have HFF := Lib.hid hF
  have HB := Lib.hid hB
  rw [FC_nul] at hW
  have HZ := Lib.hid hz
  have hn : ((n : Int) == 24) = false := by simp; omega
  have hn2 : ((n : Int) != 24) = true := by simp; omega
  clear hF hB hz h
  go_enter Tryd.func49, Tryd.ntmps49
  go_wp2_with (refine wpList_store_row rfl 70 _ _ rfl (w.heap.size + 1) (FC nul) rfl (by rw [FC_nul]; rfl) 70 (FC nul) HFF.out (infoFC nul) rfl (FC_one nul) ?_)
  have hgr := setRow_heap W (w.heap.size + 1) _ (FC nul) _ _ HFF.out
  exact bodyPost_ret (v := .tuple #[.agg (FC nul), .bool false]) (results_row_tmp rfl _ _ (w.heap.size + 1) 70 (FC nul) (0, 0) _ rfl hgr Tryd.underlying70 rfl (infoFC nul) _ rfl) rfl ⟨rfl, below_setRow HB.out (by omega) _⟩
set_option maxRecDepth 100000 in
set_option maxHeartbeats 1000000 in
theorem read_bad (b o c j : Nat) (zs : List Int) (w : World) (hb : b < w.heap.size) (hw : ∀ z ∈ zs, -9223372036854775808 ≤ z ∧ z ≤ 9223372036854775807) (hl : zs.length = 24)
    (hc : ∀ i, i < 24 → w.cell? ⟨b, o + i, none⟩ = some (.int .i64 (zs.getD i 0))) (hj : j < 24) (hbad : ¬ inR (zs.getD j 0)) (hok : ∀ i, i < j → inR (zs.getD i 0)) :
    Calls Tryd.prog 49 #[.agg #[.slice (some ⟨b, o, none⟩) 24 c]] w fun e w' => e = .returned (.tuple #[FV nul, .bool false]) ∧ Below w.heap.size w w' := by
  obtain ⟨W, hW, hB, hz, hbox, hF⟩ := box_read w b o c (some ⟨b, o, none⟩) 24
  have HC := Lib.hid (fun y (hy : y < 24) => (hB.cell (p := ⟨b, o + y, none⟩) hb).trans (hc y hy))
  have HFF := Lib.hid hF
  have HB := Lib.hid hB
  have HBAD := Lib.hid hbad
  have HOK := Lib.hid hok
  rw [FC_nul] at hW
  clear hc hF hB hz hbad hok
  go_enter Tryd.func49, Tryd.ntmps49
  go_wp2
  clear hW
  go_loop [14] (fun iv => ∃ i : Nat, i ≤ j ∧ iv = .int .i64 i) (fun iv => 24 - (intOf iv).toNat)
  case atStart => exact ⟨0, by omega, rfl⟩
  case round =>
    obtain ⟨i, hi, rfl⟩ := hrel
    have hci := HC.out i (by omega)
    by_cases hlt : i < j
    · have hr := HOK.out i hlt
      obtain ⟨r1, r2⟩ : 0 ≤ zs.getD i 0 ∧ zs.getD i 0 ≤ 281474976710655 := hr
      generalize zs.getD i 0 = r at hci r1 r2
      go_wp2
      go_round
      case rel => exact ⟨i + 1, by omega, by go_num⟩
      case measure => simp [intOf]; omega
    · obtain rfl : i = j := by omega
      have hr : zs.getD i 0 < 0 ∨ 281474976710655 < zs.getD i 0 := by have := HBAD.out; unfold inR at this; omega
      generalize zs.getD i 0 = r at hci hr
      clear HBAD HOK
      rcases hr with h2 | h2
      · go_wp2_with (refine wpList_store_row rfl 70 _ _ rfl (w.heap.size + 1) (FC nul) rfl (by rw [FC_nul]; rfl) 70 (FC nul) HFF.out (infoFC nul) rfl (FC_one nul) ?_)
        have hgr := setRow_heap W (w.heap.size + 1) _ (FC nul) _ _ HFF.out
        exact bodyPost_ret (v := .tuple #[.agg (FC nul), .bool false]) (results_row_tmp rfl _ _ (w.heap.size + 1) 70 (FC nul) (0, 0) _ rfl hgr Tryd.underlying70 rfl (infoFC nul) _ rfl) rfl ⟨rfl, below_setRow HB.out (by omega) _⟩
      · have h1 : 0 ≤ r := by omega
        go_wp2_with (refine wpList_store_row rfl 70 _ _ rfl (w.heap.size + 1) (FC nul) rfl (by rw [FC_nul]; rfl) 70 (FC nul) HFF.out (infoFC nul) rfl (FC_one nul) ?_)
        have hgr := setRow_heap W (w.heap.size + 1) _ (FC nul) _ _ HFF.out
        exact bodyPost_ret (v := .tuple #[.agg (FC nul), .bool false]) (results_row_tmp rfl _ _ (w.heap.size + 1) 70 (FC nul) (0, 0) _ rfl hgr Tryd.underlying70 rfl (infoFC nul) _ rfl) rfl ⟨rfl, below_setRow HB.out (by omega) _⟩
/-- The rows that were read: of an area, or none. -/
def of (o : Option Ar) : Ar := o.getD nul
theorem read_any (al : Option Addr) (n c : Nat) (zs : List Int) (o : Option Ar) (w : World) (h : Sl w al n zs) (hO : Is zs o) :
    Calls Tryd.prog 49 #[.agg #[.slice al n c]] w fun e w' => e = .returned (.tuple #[FV (of o), .bool o.isSome]) ∧ Below w.heap.size w w' := by
  cases o with
  | some f =>
    obtain rfl : zs = rz f := hO
    exact read_yes al n c f w h
  | none =>
    by_cases hn : n = 24
    · subst hn
      have hO' : ¬ (zs.length = 24 ∧ ∀ z ∈ zs, inR z) := hO
      obtain ⟨h1, h2, h3, h4⟩ := h
      rcases h4 with h4 | ⟨b, o, rfl, hb, hc⟩
      · omega
      obtain ⟨j, j1, j2, j3⟩ := first_bad zs (fun hh => hO' ⟨h1.symm, hh⟩)
      exact read_bad b o c j zs w hb h3 h1.symm hc (by omega) j2 j3
    · exact read_len al n c w hn
end Go.Proofs.YtbgdlfkeimaaiaaDoor

namespace Go.Proofs.YtbgdlfkeimaaiaaDoor
open Go.RowKit
set_option linter.unusedSimpArgs false
set_option linter.unusedVariables false

theorem HasF.store {w : World} {b : Nat} {t : TypeId} {f : Ar} (h : HasF w b t f) (g : Ar) : HasF (w.setRow b (FC g)) b t g := setRow_heap w b _ (FC g) _ _ h
theorem HasF.storeOther {w : World} {b c : Nat} {t : TypeId} {f : Ar} (h : HasF w c t f) (g : Array Value) (hne : c ≠ b) : HasF (w.setRow b g) c t f := (setRow_other w b c g hne).trans h
end Go.Proofs.YtbgdlfkeimaaiaaDoor

namespace Go.Proofs.YtbgdlfkeimaaiaaDoor
open Go.RowKit
set_option linter.unusedVariables false
set_option linter.unusedSimpArgs false

/-- The state within the region that makes two fields out of one. -/
def Ov (w : World) (V : World) : Option Nat → Prop
  | none => True
  | some g => w.heap.size + 2 ≤ g ∧ g < V.heap.size ∧ HasF V g 70 nul
structure St (w : World) (f : Ar) (g h : Option Nat) (V : World) : Prop where
  bl : Below w.heap.size w V
  sz : w.heap.size + 2 ≤ V.heap.size
  hf : HasF V w.heap.size 70 f
  hn : HasF V (w.heap.size + 1) 70 nul
  hg : Ov w V g
  hh : Ov w V h
  ne : ∀ x y, g = some x → h = some y → x ≠ y
theorem Ov.below {w V V' : World} {g : Option Nat} (h : Ov w V g) (hb : Below V.heap.size V V') : Ov w V' g := by
  cases g with
  | none => exact h
  | some g => exact ⟨h.1, Nat.lt_of_lt_of_le h.2.1 hb.size, h.2.2.below hb h.2.1⟩
theorem St.call {w : World} {f : Ar} {g h : Option Nat} {V V' : World} (s : St w f g h V) (hb : Below V.heap.size V V') : St w f g h V' :=
  ⟨s.bl.trans (hb.mono (by have := s.sz; omega)), Nat.le_trans s.sz hb.size, s.hf.below hb (by have := s.sz; omega), s.hn.below hb (by have := s.sz; omega), s.hg.below hb, s.hh.below hb, s.ne⟩
theorem St.drew {w : World} {f : Ar} {g h : Option Nat} {V : World} (s : St w f g h V) : St w f g h V.drew := s.call (Below.refl _ _).drew
/-- What the region leaves. -/
def TwoR (w : World) (f p q : Ar) (u v : Value) (V : World) : Prop :=
  ∃ g h, u = .pointer (some ⟨g, 0, none⟩) ∧ v = .pointer (some ⟨h, 0, none⟩) ∧ w.heap.size + 2 ≤ g ∧ w.heap.size + 2 ≤ h ∧ g < V.heap.size ∧ h < V.heap.size ∧ Below w.heap.size w V ∧
    HasF V w.heap.size 70 f ∧ HasF V (w.heap.size + 1) 70 nul ∧ HasF V g 70 p ∧ HasF V h 70 q
theorem St.out {w : World} {f : Ar} {g h : Nat} {V : World} (s : St w f (some g) (some h) V) (p q : Ar) : TwoR w f p q (.pointer (some ⟨g, 0, none⟩)) (.pointer (some ⟨h, 0, none⟩)) ((V.setRow g (FC p)).setRow h (FC q)) := by
  have h1 := s.hg; have h2 := s.hh; have h3 := s.ne g h rfl rfl
  have a1 := h1.1; have a2 := h2.1
  refine ⟨g, h, rfl, rfl, h1.1, h2.1, by rw [setRow_size, setRow_size]; exact h1.2.1, by rw [setRow_size, setRow_size]; exact h2.2.1, below_setRow (below_setRow s.bl (by omega) _) (by omega) _,
    (s.hf.storeOther _ (by omega)).storeOther _ (by omega), (s.hn.storeOther _ (by omega)).storeOther _ (by omega), (h1.2.2.store p).storeOther _ h3, (h2.2.2.storeOther _ (fun e => h3 e.symm)).store q⟩
theorem one_box (w : World) : ∃ V, w.alloc (.cells (FC nul) 70) = V ∧ Below w.heap.size w V ∧ HasF V w.heap.size 70 nul ∧ V.heap.size = w.heap.size + 1 :=
  ⟨_, rfl, (Below.refl _ _).alloc (Nat.le_refl _) _, heap_new' _ _ _ rfl, by simp⟩
end Go.Proofs.YtbgdlfkeimaaiaaDoor

namespace Go.Proofs.YtbgdlfkeimaaiaaDoor
open Go.RowKit
set_option linter.unusedVariables false
set_option linter.unusedSimpArgs false

theorem Eqv.trans {f g h : Ar} (a : Eqv f g) (b : Eqv g h) : Eqv f h := fun x y hx hy => (a x y hx hy).trans (b x y hx hy)
theorem Eqv.symm {f g : Ar} (a : Eqv f g) : Eqv g f := fun x y hx hy => (a x y hx hy).symm
end Go.Proofs.YtbgdlfkeimaaiaaDoor

namespace Go.Proofs.YtbgdlfkeimaaiaaDoor
open Go.RowKit
set_option linter.unusedVariables false
set_option linter.unusedSimpArgs false

/-- What a call that gives an area or an error leaves. -/
def zo : Option Ar → List Int
  | none => []
  | some f => rz f
def er : Option Ar → Int
  | none => 50
  | some _ => 0
def OutA (w : World) (o : Option Ar) (e : Ending) (w' : World) : Prop :=
  ∃ al n c, e = .returned (.tuple #[.agg #[.slice al n c], .int .i64 (er o)]) ∧ Sl w' al n (zo o) ∧ (∀ b q, al = some ⟨b, q, none⟩ → w.heap.size ≤ b) ∧ Below w.heap.size w w'
end Go.Proofs.YtbgdlfkeimaaiaaDoor

namespace Go.Proofs.YtbgdlfkeimaaiaaDoor
open Go.RowKit Go.Shelf
set_option linter.unusedVariables false
set_option linter.unusedSimpArgs false

theorem Sl.far {W : World} {al : Option Addr} {n : Nat} {zs : List Int} (h : Sl W al n zs) {r i : Nat} {v : Value} (hr : ∀ b q, al = some ⟨b, q, none⟩ → r ≠ b) : Sl (W.setCell ⟨r, i, none⟩ v) al n zs := by
  obtain ⟨h1, h2, h3, h4⟩ := h
  refine ⟨h1, h2, h3, ?_⟩
  rcases h4 with h4 | ⟨b, o, rfl, hb, hc⟩
  · exact .inl h4
  · refine .inr ⟨b, o, rfl, by simpa using hb, fun j hj => ?_⟩
    rw [World.cell?_setCell_far W _ _ v (by show r ≠ b; exact hr b o rfl)]
    exact hc j hj
/-- A result that lies in a block of the call's own, behind the area's variable. -/
theorem OutA.put {w W : World} {o : Option Ar} {al : Option Addr} {n c : Nat} {w' : World} (hs : Sl w' al n (zo o)) (hf : ∀ b q, al = some ⟨b, q, none⟩ → W.heap.size ≤ b) (hb : Below w.heap.size w W) (hb' : Below W.heap.size W w') {r : Nat} (h1 : w.heap.size ≤ r) (h2 : r < W.heap.size) {v : Value} :
    OutA w o (.returned (.tuple #[.agg #[.slice al n c], .int .i64 (er o)])) (w'.setCell ⟨r, 0, none⟩ v) :=
  ⟨al, n, c, rfl, hs.far (fun b q hq => by have := hf b q hq; omega), fun b q hq => Nat.le_trans hb.size (hf b q hq), (hb.trans (hb'.mono hb.size)).setCell h1 _⟩
end Go.Proofs.YtbgdlfkeimaaiaaDoor

namespace Go.Proofs.YtbgdlfkeimaaiaaDoor
open Go.RowKit Go.Shelf
set_option linter.unusedVariables false
set_option linter.unusedSimpArgs false

theorem row_cell {w : World} {g : Nat} {cs : Array Value} {t : TypeId} (h : w.heap[g]? = some (.cells cs t (0, 0))) (i : Nat) : w.cell? ⟨g, i, none⟩ = cs[i]? := cell_of_row w g i cs t (0, 0) h
end Go.Proofs.YtbgdlfkeimaaiaaDoor

namespace Go.Proofs.YtbgdlfkeimaaiaaDoor
open Go.RowKit Go.Shelf
set_option linter.unusedVariables false
set_option linter.unusedSimpArgs false

theorem cell_new1 (w : World) (v : Value) (t : TypeId) : (w.alloc (.cells #[v] t)).cell? ⟨w.heap.size, 0, none⟩ = some v := by
  rw [cell_of_row _ _ 0 #[v] t (0, 0) (heap_new' _ _ _ rfl)]; rfl
theorem box_one_area (w : World) (al : Option Addr) (n c : Nat) : ∃ W, w.alloc (.cells #[.slice al n c] 27) = W ∧ Below w.heap.size w W ∧ w.heap.size < W.heap.size ∧ W.cell? ⟨w.heap.size, 0, none⟩ = some (.slice al n c) :=
  ⟨_, rfl, (Below.refl _ _).alloc (Nat.le_refl _) _, by simp, cell_new1 _ _ _⟩
theorem run_index62 (f : Ar) (i : Nat) (hi : i < 24) (w : World) : (Instr.index 70 (.agg (FC f)) (.int .i64 i)).run Tryd.prog w = .ok (iV (rowOf f i)) w := by
  have h1 := FC_at f hi
  simp [Instr.index, asIntOf, run_underlying Tryd.underlying70, part, hi, h1, go_sem]
theorem sum_le (g : Nat → Nat) (c : Nat) (h : ∀ y, g y ≤ c) : ∀ n, sumTo g n ≤ n * c
  | 0 => by simp [sumTo]
  | n + 1 => by
    have := sum_le g c h n
    have := h n
    show g n + sumTo g n ≤ _
    rw [Nat.succ_mul]; omega
end Go.Proofs.YtbgdlfkeimaaiaaDoor

namespace Go.Proofs.YtbgdlfkeimaaiaaDoor
open Go.RowKit Go.Shelf
set_option linter.unusedVariables false
set_option linter.unusedSimpArgs false

/-- The cells of a slice that is not empty. -/
theorem Sl.at {W : World} {al : Option Addr} {n : Nat} {zs : List Int} (h : Sl W al n zs) (hn : 0 < n) : ∃ b o, al = some ⟨b, o, none⟩ ∧ b < W.heap.size ∧ ∀ i, i < n → W.cell? ⟨b, o + i, none⟩ = some (.int .i64 (zs.getD i 0)) := by
  rcases h.2.2.2 with h | h
  · omega
  · exact h
end Go.Proofs.YtbgdlfkeimaaiaaDoor
