/- The blocks of a text and its digest, as plain lists. -/
import Derived.Test.YtiilkjonbfllfaaDoorBlk
import Derived.Test.YtiilkjonbfllfaaDoorShaL
namespace Go.Proofs.YtiilkjonbfllfaaDoor
def catN (ps : List ByteArray) : List Nat := (ps.map nums).flatten
theorem restOf_zero (ps : List ByteArray) : restOf ps 0 = catN ps := rfl
theorem catN_append (ps qs : List ByteArray) : catN (ps ++ qs) = catN ps ++ catN qs := by simp [catN]
theorem catN_snoc (ps : List ByteArray) (q : ByteArray) : catN (ps ++ [q]) = catN ps ++ nums q := by simp [catN]
theorem nums_strN (l : List Nat) (h : ∀ x ∈ l, x < 256) : nums (strN l) = l := by
  unfold nums strN
  rw [List.map_map]
  conv => rhs; rw [← List.map_id l]
  apply List.map_congr_left
  intro x hx
  have := h x hx
  simp [Nat.mod_eq_of_lt this]
theorem catN_pad (ps : List ByteArray) : catN (ps ++ [strN (pad (catN ps).length)]) = ext (catN ps) := by
  rw [catN_snoc, nums_strN _ (pad_lt _), ext_eq]
def stepB (s : St) (x : Bk) : St := block s x.1
theorem shaSt_of (b : List Nat) (ys : List Bk) (h : flat ys = ext b) : ys.foldl stepB init = shaSt b := by
  rw [← shaSt_fold b (ys.map Subtype.val) (fun y hy => by obtain ⟨x, _, rfl⟩ := List.mem_map.1 hy; exact x.2.1) h, List.foldl_map]; rfl
def lenTo (ps : List ByteArray) (k : Nat) : Nat := (catN (ps.take k)).length
theorem lenTo_step (ps : List ByteArray) (k : Nat) (h : k < ps.length) : lenTo ps (k + 1) = lenTo ps k + (ps.getD k ByteArray.empty).size := by
  unfold lenTo
  rw [List.take_succ_eq_append_getElem h, catN_snoc, List.length_append, nums_length, List.getD_eq_getElem?_getD, List.getElem?_eq_getElem h]; rfl
theorem lenTo_end (ps : List ByteArray) (k : Nat) (h : k = ps.length) : lenTo ps k = (catN ps).length := by
  rw [lenTo, h, List.take_length]
theorem lenTo_le (ps : List ByteArray) (k : Nat) : lenTo ps k ≤ (catN ps).length := by
  have h := congrArg List.length (congrArg catN (List.take_append_drop k ps))
  rw [catN_append, List.length_append] at h
  unfold lenTo; omega
theorem size_le_catN (ps : List ByteArray) (s : ByteArray) (h : s ∈ ps) : s.size ≤ (catN ps).length := by
  obtain ⟨a, b, rfl⟩ := List.append_of_mem h
  rw [catN_append, List.length_append]
  have : catN (s :: b) = nums s ++ catN b := rfl
  rw [this, List.length_append, nums_length]; omega
theorem block_ok (s : St) (x : Bk) : (stepB s x).ok := ⟨Nat.mod_lt _ (by decide), Nat.mod_lt _ (by decide), Nat.mod_lt _ (by decide), Nat.mod_lt _ (by decide), Nat.mod_lt _ (by decide), Nat.mod_lt _ (by decide), Nat.mod_lt _ (by decide), Nat.mod_lt _ (by decide)⟩
theorem init_ok : init.ok := by unfold St.ok init; decide
theorem fold_ok (ys : List Bk) : (ys.foldl stepB init).ok := by
  rcases List.eq_nil_or_concat ys with rfl | ⟨zs, z, rfl⟩
  · exact init_ok
  · rw [List.concat_eq_append, List.foldl_append]; exact block_ok _ z
end Go.Proofs.YtiilkjonbfllfaaDoor
