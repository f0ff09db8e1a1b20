/- A cell put into a list of cells in order: what the reference's Could does, in plain words. -/
import Derived.Test.YtdomgielpofbhaaLt
import Derived.Test.YtdomgielpofbhaaRr
namespace Go.Proofs.Ytdomgielpofbhaa
open Go.RowKit Go.Shelf Go.Maps
set_option linter.unusedSimpArgs false
set_option linter.unusedVariables false
/-- The cells up to k are ahead of c. -/
def Ahead (l : List Cel) (c : Cel) (k : Nat) : Prop := ∀ (j : Nat) x, j < k → l[j]? = some x → kC x < kC c
theorem ahead_0 (l : List Cel) (c : Cel) : Ahead l c 0 := fun j x hj _ => by omega
theorem ahead_s {l : List Cel} {c x : Cel} {k : Nat} (h : Ahead l c k) (hx : l[k]? = some x) (hlt : kC x < kC c) : Ahead l c (k + 1) := fun j y hj hy => by
  by_cases e : j = k
  · subst e; rw [hx] at hy; rw [← Option.some.inj hy]; exact hlt
  · exact h j y (by omega) hy
/-- The list with c put in at k. -/
def insC (l : List Cel) (c : Cel) (k : Nat) : List Cel := l.take k ++ c :: l.drop k
theorem insC_len {l : List Cel} {c : Cel} {k : Nat} (h : k ≤ l.length) : (insC l c k).length = l.length + 1 := by
  simp only [insC, List.length_append, List.length_take, List.length_cons, List.length_drop]; omega
theorem insC_mem {l : List Cel} {c x : Cel} {k : Nat} : x ∈ insC l c k ↔ x ∈ l ∨ x = c := by
  unfold insC
  rw [List.mem_append, List.mem_cons]
  have h : x ∈ l ↔ x ∈ l.take k ∨ x ∈ l.drop k := by rw [← List.mem_append, List.take_append_drop]
  rw [h]
  constructor
  · rintro (h | h | h)
    · exact .inl (.inl h)
    · exact .inr h
    · exact .inl (.inr h)
  · rintro ((h | h) | h)
    · exact .inl h
    · exact .inr (.inr h)
    · exact .inr (.inl h)
theorem insC_srt {l : List Cel} {c : Cel} {k : Nat} (hl : Srt l) (ha : Ahead l c k) (hb : ∀ x, l[k]? = some x → kC c < kC x) : Srt (insC l c k) := by
  unfold insC Srt
  have h1 : (l.take k).Pairwise fun a b => kC a < kC b := List.Pairwise.sublist (List.take_sublist k l) hl
  have h2 : (l.drop k).Pairwise fun a b => kC a < kC b := List.Pairwise.sublist (List.drop_sublist k l) hl
  have h3 : ∀ x ∈ l.take k, kC x < kC c := fun x hx => by
    obtain ⟨j, hj, e⟩ := List.mem_iff_getElem.1 hx
    have hj' : j < k := by rw [List.length_take] at hj; omega
    refine ha j x hj' ?_
    rw [List.getElem_take] at e
    rw [← e]
    exact List.getElem?_eq_getElem _
  have h4 : ∀ x ∈ l.drop k, kC c < kC x := fun x hx => by
    rcases Nat.lt_or_ge k l.length with hk | hk
    · obtain ⟨y, hy⟩ : ∃ y, l[k]? = some y := ⟨_, List.getElem?_eq_getElem hk⟩
      have hc := hb y hy
      obtain ⟨j, hj, e⟩ := List.mem_iff_getElem.1 hx
      rw [List.getElem_drop] at e
      rw [List.length_drop] at hj
      rcases Nat.eq_zero_or_pos j with hz | hz
      · subst hz
        have : l[k]? = some x := by rw [← e]; exact List.getElem?_eq_getElem _
        exact hb x this
      · have hp := (List.pairwise_iff_getElem.1 hl) k (k + j) hk (by omega) (by omega)
        rw [e] at hp
        rw [List.getElem?_eq_getElem hk] at hy
        rw [Option.some.inj hy] at hp
        omega
    · rw [List.drop_eq_nil_of_le hk] at hx
      simp at hx
  refine List.pairwise_append.2 ⟨h1, List.pairwise_cons.2 ⟨h4, h2⟩, fun a ha' b hb' => ?_⟩
  rcases List.mem_cons.1 hb' with rfl | hb'
  · exact h3 a ha'
  · have := h3 a ha'; have := h4 b hb'; omega
/-- The cells of the first n delays, in order, each once. -/
def Part (o : Orb) (t : Int) (l : List Cel) (n : Nat) : Prop := Srt l ∧ ∀ x, x ∈ l ↔ ∃ m : Nat, m < n ∧ x = celO o (t - ((m : Int) - o.sl))
theorem part_0 (o : Orb) (t : Int) : Part o t [] 0 := ⟨List.Pairwise.nil, fun x => by simp⟩
theorem part_dup {o : Orb} {t : Int} {l : List Cel} {n : Nat} (h : Part o t l n) (hc : celO o (t - ((n : Int) - o.sl)) ∈ l) : Part o t l (n + 1) := by
  refine ⟨h.1, fun x => ⟨fun hx => ?_, ?_⟩⟩
  · obtain ⟨m, hm, e⟩ := (h.2 x).1 hx
    exact ⟨m, by omega, e⟩
  · rintro ⟨m, hm, e⟩
    by_cases hn : m = n
    · subst hn; rw [e]; exact hc
    · exact (h.2 x).2 ⟨m, by omega, e⟩
theorem part_ins {o : Orb} {t : Int} {l : List Cel} {n k : Nat} (h : Part o t l n) (ha : Ahead l (celO o (t - ((n : Int) - o.sl))) k) (hb : ∀ x, l[k]? = some x → kC (celO o (t - ((n : Int) - o.sl))) < kC x) :
    Part o t (insC l (celO o (t - ((n : Int) - o.sl))) k) (n + 1) := by
  refine ⟨insC_srt h.1 ha hb, fun x => ?_⟩
  rw [insC_mem, h.2]
  constructor
  · rintro (⟨m, hm, e⟩ | e)
    · exact ⟨m, by omega, e⟩
    · exact ⟨n, by omega, e⟩
  · rintro ⟨m, hm, e⟩
    by_cases hn : m = n
    · subst hn; exact .inr e
    · exact .inl ⟨m, by omega, e⟩
theorem part_le {o : Orb} {t : Int} {l : List Cel} {n : Nat} (h : Part o t l n) : l.length ≤ n := by
  have hs := srt_le (srt_nodup h.1) (m := (List.range n).map fun m : Nat => celO o (t - ((m : Int) - o.sl))) fun c hc => by
    obtain ⟨m, hm, e⟩ := (h.2 c).1 hc
    exact List.mem_map.2 ⟨m, List.mem_range.2 hm, e.symm⟩
  rwa [List.length_map, List.length_range] at hs
theorem part_done {o : Orb} (ho : okO o) {t : Int} {l : List Cel} {n : Nat} (h : Part o t l n) (hn : (n : Int) = 2 * o.sl + 1) : Could o t l := by
  have hs : 0 ≤ o.sl := by unfold okO at ho; omega
  refine ⟨h.1, fun x => (h.2 x).trans ⟨?_, ?_⟩⟩
  · rintro ⟨m, hm, e⟩
    refine trk_mem.2 ⟨(2 * o.sl - (m : Int)).toNat, by omega, ?_⟩
    rw [e]; congr 1; omega
  · intro hx
    obtain ⟨i, hi, e⟩ := trk_mem.1 hx
    refine ⟨(2 * o.sl - (i : Int)).toNat, by omega, ?_⟩
    rw [e]; congr 1; omega
end Go.Proofs.Ytdomgielpofbhaa
