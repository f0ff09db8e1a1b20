/- A list of texts behind a list of the call's own: one law, the source empty or not. -/
import Derived.Test.YtiilkjonbfllfaaDoorWay
import Derived.Laws.AppendOwnNone
namespace Go.Proofs.YtiilkjonbfllfaaDoor
open Go.RowKit

theorem wpList_append_strs {w w0 : World} {ops : Array Oper} {rest : List Oper} {o : Oper} {a : Act} {Q : Exit → Act → World → Prop} (hgd : o.guard = none) (s x : Operand)
    (ho : o.op = .call { callee := .builtin .append, args := #[s, x], argTypes := #[26, 26] })
    (B : Nat) (v : Value) (n : Nat) (xs : List Value) (hs : a.eval s = v) (hown : w.ownsRow B 9 1 v n xs)
    (B2 : Nat) (u : Value) (m : Nat) (ps : List ByteArray) (hx : a.eval x = u) (hsrc : w.ownsRow B2 9 1 u m (ps.map Value.string))
    (hnm : n + m ≤ 1000) (hBw : B ≤ w.heap.size) (hb : Below B w0 w)
    (h : ∀ v' w', w'.ownsRow B 9 1 v' (n + m) (xs ++ ps.map Value.string) → Below B w0 w' → wpList Tryd.prog ops Q rest (a.put o.dst v') w') :
    wpList Tryd.prog ops Q (o :: rest) a w := by
  obtain ⟨i0, hi0, hz0, hz1, hz2⟩ := info_parts info9
  obtain ⟨hl, hr⟩ := hsrc
  rcases hr with ⟨rfl, rfl⟩ | hr
  · refine wpList_append_own_none hgd s x _ ho B 9 i0 1 Tryd.underlying26 hi0 v n xs hs hown hx ?_
    have hn : ps.map Value.string = [] := List.eq_nil_of_length_eq_zero (by rw [hl])
    have := h v w (by rw [hn, List.append_nil]; exact hown) hb
    exact this
  · obtain ⟨ad, c, e, hsr⟩ : ∃ ad c, u = .slice (some ad) m c ∧ ∀ j y, (ps.map Value.string)[j]? = some y → w.cell? (ad.add j) = some y := by
      rcases Nat.eq_zero_or_pos m with h0 | h0
      · obtain ⟨g, c, cur, e, _⟩ := hr
        refine ⟨_, _, e, fun j y hj => ?_⟩
        rw [List.eq_nil_of_length_eq_zero (show (ps.map Value.string).length = 0 by rw [hl, h0])] at hj
        simp at hj
      · obtain ⟨al, c, e, _⟩ := own_form (w := w) (v := u) (n := m) (xs := ps.map Value.string) ⟨hl, .inr hr⟩
        obtain ⟨ad, e2, _, _, hsr⟩ := own_src (w := w) (base := B2) (n := m) (c := c) (al := al) (xs := ps.map Value.string) (by rw [← e]; exact ⟨hl, .inr hr⟩) h0
        exact ⟨ad, c, by rw [e, e2], hsr⟩
    refine wpList_append_own w hgd s x _ ho B 9 i0 (.string ⟨#[]⟩) 1 16 Tryd.underlying26 hi0 hz0 hz1 hz2 rfl (by decide) v n xs hs hown ad m c _ (by rw [hx, e]) hl hsr (one_str ps) (by unfold maxLen; omega) (by omega) hBw ?_
    intro v' w' hown' hg _
    exact h v' w' hown' (hb.grown hg hBw (own_lt hown))

/-- A list that came out as long as its row, as a list of the call's own. -/
theorem own_of_out {w w' : World} {ps : List ByteArray} {v : Value} (h : StrOut w ps v w') (hl : ps.length ≤ maxLen) : w'.ownsRow w.heap.size 9 1 v ps.length (ps.map Value.string) := by
  obtain ⟨g, rfl, hg, hh, hb⟩ := h
  refine ⟨by simp, .inr ⟨g, ps.length, (ps.map Value.string).toArray, rfl, hg, hh, Nat.le_refl _, hl, by simp, ?_⟩⟩
  simp
  exact List.take_of_length_le (by simp)
theorem own_nil (w : World) (B : Nat) : w.ownsRow B 9 1 (.slice none 0 0) 0 (([] : List ByteArray).map Value.string) := ⟨rfl, .inl ⟨rfl, rfl⟩⟩
end Go.Proofs.YtiilkjonbfllfaaDoor
