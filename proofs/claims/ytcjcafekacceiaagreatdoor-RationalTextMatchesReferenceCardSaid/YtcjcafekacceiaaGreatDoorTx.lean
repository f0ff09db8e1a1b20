/- What the walk of RationalTextMatchesReference rests on. -/
import Derived.Test.YtcjcafekacceiaaGreatDoorRq
import Derived.Test.YtcjcafekacceiaaGreatDoorCt
namespace Go.Proofs.YtcjcafekacceiaaGreatDoor
open Go.RowKit
set_option linter.unusedVariables false

theorem prL_ne (q : Rat) : prL q ≠ [] := by
  unfold prL
  split
  · exact shw_ne _
  · simp
theorem prQ_ne (q : Rat) : (prQ q).toList ≠ [] := by
  rw [ByteArray.toList_eq]; show (prL q).toArray.toList ≠ []; simpa using prL_ne q
theorem prQ_size {q : Rat} (h : BQ q) : (prQ q).size ≤ 700 ∧ 0 < (prQ q).size := by
  have s1 := str_small h.1
  have s2 := str_small h.2
  constructor
  · by_cases hd : q.den = 1
    · rw [prQ_one hd]; omega
    · rw [prQ_more hd, ByteArray.size_append, ByteArray.size_append]; show _ + 1 + _ ≤ _; omega
  · show 0 < (prL q).toArray.size
    have := prL_ne q
    rw [List.size_toArray]
    exact List.length_pos_iff.2 this
theorem par_prQ {q : Rat} (h : BQ q) : parO (prQ q) = some q := by
  obtain ⟨h1, h2⟩ := cut_pr (q := q) (s := prQ q) (by simp [prQ])
  unfold parO
  rw [h1, h2, fV_str h, prS_q h]
  simp [mkS_str h]
theorem par_empty : parO ⟨#[]⟩ = none := by decide +kernel
theorem par_back {s : ByteArray} {q : Rat} (h : parO s = some q) : BQ q ∧ prQ q = s := by
  unfold parO at h
  split at h
  · rename_i hc
    simp only [Bool.and_eq_true] at hc
    obtain ⟨x, bx, hx1, hx2⟩ := fV_q hc.1
    rw [hx1, hx2, mkS_str bx] at h
    cases h
    rw [hx1, hx2, prS_q bx] at hc
    refine ⟨bx, ?_⟩
    have e := eq_of_beq hc.2
    rw [ByteArray.toList_eq, ByteArray.toList_eq] at e
    exact ba_ext e
  · cases h
/-- A fraction's text, and what is parsed of it. -/
def TxF (x y t tn td : ByteArray) (te : Int) : Prop :=
  (fV x y = false ∧ t = ⟨#[]⟩ ∧ te = 40) ∨ (fV x y = true ∧ t.toList ≠ [] ∧ tn = x ∧ td = y ∧ te = 0)
theorem tx_f (x y : ByteArray) : TxF x y (prS (x, y)) (oN (parO (prS (x, y)))) (oD (parO (prS (x, y)))) (oE (parO (prS (x, y)))) := by
  unfold TxF
  cases hv : fV x y with
  | false =>
    rw [prS_no (p := (x, y)) hv, par_empty]
    exact .inl ⟨rfl, rfl, rfl⟩
  | true =>
    obtain ⟨q, bq, rfl, rfl⟩ := fV_q hv
    rw [prS_q bq, par_prQ bq]
    exact .inr ⟨rfl, prQ_ne q, rfl, rfl, rfl⟩
theorem prS_size (p : Pr) : (prS p).size ≤ 9223372036854775807 := by
  cases hv : fVp p with
  | false => rw [prS_no hv]; decide
  | true =>
    obtain ⟨q, bq, h1, h2⟩ := fV_q hv
    obtain ⟨x, y⟩ := p
    simp only at h1 h2
    subst h1 h2
    rw [prS_q bq]
    have := (prQ_size bq).1
    omega
/-- What is parsed of a string. -/
def TyF (w : World) (s n d : ByteArray) (e : Int) : Prop := e = 40 ∨ (e = 0 ∧ ∀ W, Below w.heap.size w W → Calls Tryz.prog 33 #[.agg #[.string n, .string d]] W (PrOut W s))
theorem ty_f {w : World} (ht : ∀ W, Below w.heap.size w W → Tb W) (s : ByteArray) : TyF w s (oN (parO s)) (oD (parO s)) (oE (parO s)) := by
  unfold TyF
  cases h : parO s with
  | none => exact .inl rfl
  | some q =>
    obtain ⟨bq, hs⟩ := par_back h
    refine .inr ⟨rfl, fun W hW => ?_⟩
    have := print_q q bq W (ht W hW)
    rw [hs] at this
    exact this
theorem emp_or (t : ByteArray) (h : t.toList ≠ []) : t.toList.isEmpty = false ∧ (t.toList == []) = false ∧ t.data.toList.isEmpty = false := by
  have h2 := h
  rw [ByteArray.toList_eq] at h2
  refine ⟨?_, ?_, ?_⟩
  · rw [List.isEmpty_eq_false_iff]; exact h
  · rw [beq_eq_false_iff_ne]; exact h
  · rw [List.isEmpty_eq_false_iff]; exact h2
def Sl2 (V : World) (x y u v : ByteArray) (sl sn si : Value) (wx : World) : Prop :=
  ∃ g T, sl = .slice (some ⟨g, 0, none⟩) 2 2 ∧ sn = .int .i64 2 ∧ si = .int .i64 0 ∧ V.heap.size ≤ g ∧ wx.heap[g]? = some (.cells #[.string x, .string y, .string u, .string v] T) ∧ Below V.heap.size V wx
def Sl1 (V : World) (x y : ByteArray) (sl sn si : Value) (wx : World) : Prop :=
  ∃ g T, sl = .slice (some ⟨g, 0, none⟩) 2 2 ∧ sn = .int .i64 2 ∧ si = .int .i64 0 ∧ V.heap.size ≤ g ∧ wx.heap[g]? = some (.cells #[.string x, .string y] T) ∧ Below V.heap.size V wx
def Txi (iv : Value) : Prop := ∃ k : Nat, k ≤ 2 ∧ iv = .int .i64 k
theorem txi (k : Nat) (h : k ≤ 2) (z : Int) (hz : z = (k : Int)) : Txi (.int .i64 z) := ⟨k, h, by rw [hz]⟩
theorem Txi.ways {iv : Value} (h : Txi iv) : iv = .int .i64 0 ∨ iv = .int .i64 1 ∨ iv = .int .i64 2 := by
  obtain ⟨k, hk, rfl⟩ := h
  have : k = 0 ∨ k = 1 ∨ k = 2 := by omega
  rcases this with rfl | rfl | rfl
  · exact .inl rfl
  · exact .inr (.inl rfl)
  · exact .inr (.inr rfl)
theorem byte_row1 (w : World) (c : UInt8) : (w.alloc (.cells #[.int .u8 (c.toNat : Int)] 5)).ownsRow w.heap.size 5 1 (.slice (some ⟨w.heap.size, 0, none⟩) 1 1) 1 ([c].map u8c) := by
  rw [List.map_cons, List.map_nil]
  exact ⟨rfl, .inr ⟨w.heap.size, 1, #[.int .u8 (c.toNat : Int)], rfl, Nat.le_refl _, heap_new' _ _ _ rfl, Nat.le_refl _, by unfold maxLen; omega, rfl, rfl⟩⟩
theorem byte_row2 (w : World) (c : UInt8) : ((w.alloc (.cells #[.int .u8 (c.toNat : Int)] 5)).drew).ownsRow w.heap.size 5 1 (.slice (some ⟨w.heap.size, 0, none⟩) 1 1) 1 ([c].map u8c) := by
  rw [List.map_cons, List.map_nil]
  exact ⟨rfl, .inr ⟨w.heap.size, 1, #[.int .u8 (c.toNat : Int)], rfl, Nat.le_refl _, (show (w.alloc (.cells #[.int .u8 (c.toNat : Int)] 5)).heap[w.heap.size]? = _ from heap_new' _ _ _ rfl), Nat.le_refl _, by unfold maxLen; omega, rfl, rfl⟩⟩
end Go.Proofs.YtcjcafekacceiaaGreatDoor
