/- A list of texts put behind a list of the call's own, in a region that draws its order: the source empty or not, what it is behind kept in hand. -/
import Derived.Test.YtiilkjonbfllfaaDoorSplW
import Derived.Deep.AppendLies
namespace Go.Proofs.YtiilkjonbfllfaaDoor
open Go.RowKit

theorem grown_refl (w : World) (row : Option Nat) : w.grownBy w row := ⟨rfl, rfl, rfl, Nat.le_refl _, fun _ _ _ => rfl⟩
theorem step_strs {w : World} {ops : Array Oper} {o : Oper} {a : Act} {K : Act → World → Prop} {Q : Exit → Act → World → Prop} {E : Prop} (hgd : o.guard = none) (s x : Operand)
    (ho : o.op = .call { callee := .builtin .append, args := #[s, x], argTypes := #[26, 26] })
    (B : Nat) (v : Value) (n : Nat) (xs : List Value) (hs : a.eval s = v) (hown : w.ownsRow B 9 1 v n xs)
    (B2 : Nat) (u : Value) (m : Nat) (ps : List ByteArray) (hx : a.eval x = u) (hsrc : w.ownsRow B2 9 1 u m (ps.map Value.string))
    (hnm : n + m ≤ 1000) (hBw : B ≤ w.heap.size)
    (h : ∀ v' w', w'.ownsRow B 9 1 v' (n + m) (xs ++ ps.map Value.string) → w.grownBy w' v.ownBlock → K (a.put o.dst v') w') :
    if Region.wanted o (yielded ops a.tmps) = true then Oper.wp Tryd.prog o a w K Q else E := by
  have hw : Region.wanted o (yielded ops a.tmps) = true := by simp [Region.wanted, hgd]
  rw [if_pos hw]
  obtain ⟨i0, hi0, hz0, hz1, hz2⟩ := info_parts info9
  obtain ⟨hl, hr⟩ := hsrc
  rcases hr with ⟨rfl, rfl⟩ | hr
  · have hrun := run_append_owned_none (P := Tryd.prog) (w := w) B 26 o.type 9 i0 1 Tryd.underlying26 hi0 v n xs hown
    have hn : ps.map Value.string = [] := List.eq_nil_of_length_eq_zero (by rw [hl])
    have h2 := h v w (by rw [hn, List.append_nil]; exact hown) (grown_refl _ _)
    unfold Oper.wp
    simp [execOp, ho, resolve, invoke, builtin, hs, hx, hrun, Result.andThen]
    exact h2
  · obtain ⟨ad, c, e, hsr⟩ : ∃ ad c, u = .slice (some ad) m c ∧ ∀ j y, (ps.map Value.string)[j]? = some y → w.cell? (ad.add j) = some y := by
      rcases Nat.eq_zero_or_pos m with h0 | h0
      · obtain ⟨g, c, cur, e, _⟩ := hr
        refine ⟨_, _, e, fun j y hj => ?_⟩
        rw [List.eq_nil_of_length_eq_zero (show (ps.map Value.string).length = 0 by rw [hl, h0])] at hj
        simp at hj
      · obtain ⟨al, c, e, _⟩ := own_form (w := w) (v := u) (n := m) (xs := ps.map Value.string) ⟨hl, .inr hr⟩
        obtain ⟨ad, e2, _, _, hsr⟩ := own_src (w := w) (base := B2) (n := m) (c := c) (al := al) (xs := ps.map Value.string) (by rw [← e]; exact ⟨hl, .inr hr⟩) h0
        exact ⟨ad, c, by rw [e, e2], hsr⟩
    refine wp_append_own w s x _ ho B 9 i0 (.string ⟨#[]⟩) 1 16 Tryd.underlying26 hi0 hz0 hz1 hz2 rfl (by decide) v n xs hs hown ad m c _ (by rw [hx, e]) hl hsr (one_str ps) (by unfold maxLen; omega) (by omega) hBw ?_
    intro v' w' hown' hg _
    exact h v' w' hown' hg
theorem lit0 (w : World) : (w.alloc (.cells #[] 9)).ownsRow w.heap.size 9 1 (.slice (some ⟨w.heap.size, 0, none⟩) 0 0) 0 [] :=
  ⟨rfl, .inr ⟨w.heap.size, 0, #[], rfl, Nat.le_refl _, heap_new' _ _ _ rfl, Nat.le_refl _, by decide, rfl, rfl⟩⟩
theorem strs_snoc {w : World} {B : Nat} {v : Value} {q : List ByteArray} {r : ByteArray} {N : Nat} (h : w.ownsRow B 9 1 v (0 + N + 1) (([] ++ q.map Value.string) ++ [Value.string r])) (hq : q.length = N) :
    ∃ al c, v = .slice al (N + 1) c ∧ N + 1 ≤ c ∧ c ≤ maxLen ∧ Strs w al (N + 1) (q ++ [r]) := by
  rw [Nat.zero_add, List.nil_append] at h
  obtain ⟨al, c, rfl, h1, h2⟩ := own_form h
  refine ⟨al, c, rfl, h1, h2, ?_⟩
  have e : (q ++ [r]).length = N + 1 := by simp [hq]
  rw [show List.map Value.string q ++ [Value.string r] = (q ++ [r]).map Value.string by simp, ← e] at h
  rw [← e]
  exact strs_of_own h
theorem ver_far {l : List ByteArray} {i : Nat} (hi : i < l.length) (r s : ByteArray) {ps : List ByteArray} (h : ps.length ≠ (prfS l i).length) : verS r l.length i s ps = false := by
  refine verS_len r s ps hi ?_
  rw [prfS_dsc l i hi, List.length_map, List.length_reverse] at h
  rw [List.length_reverse]; simpa using h
end Go.Proofs.YtiilkjonbfllfaaDoor
