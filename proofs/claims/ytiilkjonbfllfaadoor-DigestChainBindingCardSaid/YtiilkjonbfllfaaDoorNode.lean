/- Sum, Leaf, Node and Chain, walked. -/
import Derived.Test.YtiilkjonbfllfaaDoorSumO
import Derived.Test.YtiilkjonbfllfaaDoorTreeM
namespace Go.Proofs.YtiilkjonbfllfaaDoor
open Go.RowKit

theorem nums_append (a b : ByteArray) : nums (a ++ b) = nums a ++ nums b := by simp [nums]
theorem catN1 (a : ByteArray) : catN [a] = nums a := by simp [catN]
theorem catN2 (a b : ByteArray) : catN [a, b] = nums (a ++ b) := by rw [nums_append]; simp [catN]
theorem catN3 (a b c : ByteArray) : catN [a, b, c] = nums (a ++ b ++ c) := by rw [nums_append, nums_append]; simp [catN]
theorem nums_len_le (a : ByteArray) : (nums a).length = a.size := nums_length a
theorem below1 {w W1 w' : World} (h1 : Below w.heap.size w W1) (hb : Below W1.heap.size W1 w') : Below w.heap.size w w' := h1.trans (hb.mono h1.size)

set_option maxHeartbeats 1000000 in
theorem sum_any (s : ByteArray) (hs : s.size ≤ 800000) (w : World) (hT : Tab w) :
    Calls Tryd.prog 13 #[.string s] w fun e w' => e = .returned (.string (dg s)) ∧ Below w.heap.size w w' := by
  have hc := Lib.hid (show strN (sha (catN [s])) = dg s by rw [catN1]; rfl)
  have hl := Lib.hid (show (catN [s]).length ≤ 900000 by rw [catN1, nums_length]; omega)
  have hz : 0 < w.heap.size := hT.1
  go_enter Tryd.func13, Tryd.ntmps13
  go_wp2_with fail
  obtain ⟨V, hV⟩ : ∃ V, w.alloc (Obj.cells #[Value.string s] 9) = V := ⟨_, rfl⟩
  have hb : Below w.heap.size w V := by rw [← hV]; exact (Below.refl _ _).alloc (Nat.le_refl _) _
  have hg : V.heap[w.heap.size]? = some (.cells #[Value.string s] 9 (0, 0)) := by rw [← hV]; exact heap_new' _ _ _ rfl
  have HV := Lib.hid hV
  refine (sumOf_any w.heap.size 0 1 1 [s] rfl (by omega) (by omega) hl.out _ ?c1 ?c2).mono ?c3
  case c1 => rw [HV.out]; exact hT.below hb hz
  case c2 =>
    intro i hi
    rw [HV.out, cell_of_row _ _ _ _ _ _ hg]
    match i, hi with
    | 0, _ => rfl
  case c3 =>
    rw [HV.out, hc.out]
    rintro e w' ⟨rfl, hb2⟩
    have hb3 := below1 hb hb2
    clear hg hb hV hb2
    go_wp2_with fail
    go_ret
    exact ⟨rfl, hb3⟩
theorem size_app (a b : ByteArray) : (a ++ b).size = a.size + b.size := ByteArray.size_append
set_option maxHeartbeats 1000000 in
theorem leaf_any (s : ByteArray) (hs : s.size ≤ 800000) (w : World) (hT : Tab w) :
    Calls Tryd.prog 15 #[.string s] w fun e w' => e = .returned (.string (leaf s)) ∧ Below w.heap.size w w' := by
  have hc := Lib.hid (show strN (sha (catN [⟨#[0]⟩, s])) = leaf s by rw [catN2]; rfl)
  have hl := Lib.hid (show (catN [⟨#[0]⟩, s]).length ≤ 900000 by rw [catN2, nums_length]; rw [size_app]; show 1 + s.size ≤ _; omega)
  have hz : 0 < w.heap.size := hT.1
  go_enter Tryd.func15, Tryd.ntmps15
  go_wp2_with fail
  obtain ⟨V, hV⟩ : ∃ V, w.alloc (Obj.cells #[Value.string ⟨#[0]⟩, Value.string s] 9) = V := ⟨_, rfl⟩
  have hb : Below w.heap.size w V := by rw [← hV]; exact (Below.refl _ _).alloc (Nat.le_refl _) _
  have hg : V.heap[w.heap.size]? = some (.cells #[Value.string ⟨#[0]⟩, Value.string s] 9 (0, 0)) := by rw [← hV]; exact heap_new' _ _ _ rfl
  have HV := Lib.hid hV
  refine (sumOf_any w.heap.size 0 2 2 [⟨#[0]⟩, s] rfl (by omega) (by omega) hl.out _ ?c1 ?c2).mono ?c3
  case c1 => rw [HV.out]; exact hT.below hb hz
  case c2 =>
    intro i hi
    rw [HV.out, cell_of_row _ _ _ _ _ _ hg]
    match i, hi with
    | 0, _ => rfl
    | 1, _ => rfl
  case c3 =>
    rw [HV.out, hc.out]
    rintro e w' ⟨rfl, hb2⟩
    have hb3 := below1 hb hb2
    clear hg hb hV hb2
    go_wp2_with fail
    go_ret
    exact ⟨rfl, hb3⟩
set_option maxHeartbeats 1000000 in
theorem node_any (a b : ByteArray) (ha : a.size ≤ 400000) (hb0 : b.size ≤ 400000) (w : World) (hT : Tab w) :
    Calls Tryd.prog 17 #[.string a, .string b] w fun e w' => e = .returned (.string (node a b)) ∧ Below w.heap.size w w' := by
  have hc := Lib.hid (show strN (sha (catN [⟨#[1]⟩, a, b])) = node a b by rw [catN3]; rfl)
  have hl := Lib.hid (show (catN [⟨#[1]⟩, a, b]).length ≤ 900000 by rw [catN3, nums_length]; rw [size_app, size_app]; show 1 + a.size + b.size ≤ _; omega)
  have hz : 0 < w.heap.size := hT.1
  go_enter Tryd.func17, Tryd.ntmps17
  go_wp2_with fail
  obtain ⟨V, hV⟩ : ∃ V, w.alloc (Obj.cells #[Value.string ⟨#[1]⟩, Value.string a, Value.string b] 9) = V := ⟨_, rfl⟩
  have hb : Below w.heap.size w V := by rw [← hV]; exact (Below.refl _ _).alloc (Nat.le_refl _) _
  have hg : V.heap[w.heap.size]? = some (.cells #[Value.string ⟨#[1]⟩, Value.string a, Value.string b] 9 (0, 0)) := by rw [← hV]; exact heap_new' _ _ _ rfl
  have HV := Lib.hid hV
  refine (sumOf_any w.heap.size 0 3 3 [⟨#[1]⟩, a, b] rfl (by omega) (by omega) hl.out _ ?c1 ?c2).mono ?c3
  case c1 => rw [HV.out]; exact hT.below hb hz
  case c2 =>
    intro i hi
    rw [HV.out, cell_of_row _ _ _ _ _ _ hg]
    match i, hi with
    | 0, _ => rfl
    | 1, _ => rfl
    | 2, _ => rfl
  case c3 =>
    rw [HV.out, hc.out]
    rintro e w' ⟨rfl, hb2⟩
    have hb3 := below1 hb hb2
    clear hg hb hV hb2
    go_wp2_with fail
    go_ret
    exact ⟨rfl, hb3⟩
set_option maxHeartbeats 1000000 in
theorem chain_any (a b : ByteArray) (ha : a.size ≤ 400000) (hb0 : b.size ≤ 400000) (w : World) (hT : Tab w) :
    Calls Tryd.prog 19 #[.string a, .string b] w fun e w' => e = .returned (.string (chain a b)) ∧ Below w.heap.size w w' := by
  have hc := Lib.hid (show strN (sha (catN [⟨#[2]⟩, a, b])) = chain a b by rw [catN3]; rfl)
  have hl := Lib.hid (show (catN [⟨#[2]⟩, a, b]).length ≤ 900000 by rw [catN3, nums_length]; rw [size_app, size_app]; show 1 + a.size + b.size ≤ _; omega)
  have hz : 0 < w.heap.size := hT.1
  go_enter Tryd.func19, Tryd.ntmps19
  go_wp2_with fail
  obtain ⟨V, hV⟩ : ∃ V, w.alloc (Obj.cells #[Value.string ⟨#[2]⟩, Value.string a, Value.string b] 9) = V := ⟨_, rfl⟩
  have hb : Below w.heap.size w V := by rw [← hV]; exact (Below.refl _ _).alloc (Nat.le_refl _) _
  have hg : V.heap[w.heap.size]? = some (.cells #[Value.string ⟨#[2]⟩, Value.string a, Value.string b] 9 (0, 0)) := by rw [← hV]; exact heap_new' _ _ _ rfl
  have HV := Lib.hid hV
  refine (sumOf_any w.heap.size 0 3 3 [⟨#[2]⟩, a, b] rfl (by omega) (by omega) hl.out _ ?c1 ?c2).mono ?c3
  case c1 => rw [HV.out]; exact hT.below hb hz
  case c2 =>
    intro i hi
    rw [HV.out, cell_of_row _ _ _ _ _ _ hg]
    match i, hi with
    | 0, _ => rfl
    | 1, _ => rfl
    | 2, _ => rfl
  case c3 =>
    rw [HV.out, hc.out]
    rintro e w' ⟨rfl, hb2⟩
    have hb3 := below1 hb hb2
    clear hg hb hV hb2
    go_wp2_with fail
    go_ret
    exact ⟨rfl, hb3⟩
end Go.Proofs.YtiilkjonbfllfaaDoor
