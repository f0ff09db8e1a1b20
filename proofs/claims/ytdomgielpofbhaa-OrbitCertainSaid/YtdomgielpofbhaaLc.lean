/- What the law of certain and possible cells calls: which cells were seen. -/
import Derived.BigRegion
import Derived.Test.YtdomgielpofbhaaLo
namespace Go.Proofs.Ytdomgielpofbhaa
open Go.RowKit Go.Shelf Go.Maps
set_option linter.unusedSimpArgs false
set_option linter.unusedVariables false
/-- An array of 21 booleans. -/
def bvs (s : Nat → Bool) : Array Value := Array.ofFn (n := 21) fun i => Value.bool (s i)
def upd (s : Nat → Bool) (k : Nat) : Nat → Bool := fun i => if i = k then true else s i
theorem bvs_at (s : Nat → Bool) {k : Nat} (h : k < 21) : (bvs s)[k]? = some (.bool (s k)) := by
  unfold bvs
  rw [Array.getElem?_eq_getElem (by simpa using h), Array.getElem_ofFn]
theorem bvs_size (s : Nat → Bool) : (bvs s).size = 21 := by simp [bvs]
theorem bvs_set (s : Nat → Bool) (k : Nat) : (bvs s).setIfInBounds k (.bool true) = bvs (upd s k) := by
  apply Array.ext_getElem?
  intro i
  rw [Array.getElem?_setIfInBounds]
  by_cases hi : i < 21
  · rw [bvs_at _ hi, bvs_at _ hi, bvs_size]
    unfold upd
    by_cases e : k = i
    · subst e; rw [if_pos rfl, if_pos hi, if_pos rfl]
    · rw [if_neg e, if_neg (fun h => e h.symm)]
  · rw [Array.getElem?_eq_none (by rw [bvs_size]; omega), Array.getElem?_eq_none (by rw [bvs_size]; omega), bvs_size]
    by_cases e : k = i
    · rw [if_pos e, if_neg (by omega)]
    · rw [if_neg e]
theorem bvs_0 : bvs (fun _ => false) = #[.bool false, .bool false, .bool false, .bool false, .bool false, .bool false, .bool false, .bool false, .bool false, .bool false, .bool false, .bool false, .bool false, .bool false, .bool false, .bool false, .bool false, .bool false, .bool false, .bool false, .bool false] := rfl
/-- The cells of the delays so far were seen. -/
def Sn (o : Orb) (t : Int) (L : List Cel) (n : Nat) (s : Nat → Bool) : Prop := ∀ (j : Nat) x, L[j]? = some x → (∃ m : Nat, m < n ∧ x = celO o (t - ((m : Int) - o.sl))) → s j = true
def Sq (L : List Cel) (c : Cel) (j : Nat) (s : Nat → Bool) : Prop := ∀ q : Nat, q < j → L[q]? = some c → s q = true
theorem upd_le {s : Nat → Bool} {k j : Nat} (h : s j = true) : upd s k j = true := by unfold upd; split <;> simp_all
theorem upd_eq (s : Nat → Bool) (k : Nat) : upd s k k = true := by simp [upd]
theorem sn_0 (o : Orb) (t : Int) (L : List Cel) (s : Nat → Bool) : Sn o t L 0 s := fun j x _ ⟨m, hm, _⟩ => by omega
theorem sn_upd {o : Orb} {t : Int} {L : List Cel} {n : Nat} {s : Nat → Bool} (h : Sn o t L n s) (k : Nat) : Sn o t L n (upd s k) := fun j x hx hm => upd_le (h j x hx hm)
theorem sq_0 (L : List Cel) (c : Cel) (s : Nat → Bool) : Sq L c 0 s := fun q hq _ => by omega
theorem sq_yes {L : List Cel} {c : Cel} {j : Nat} {s : Nat → Bool} (h : Sq L c j s) : Sq L c (j + 1) (upd s j) := fun q hq hx => by
  by_cases e : q = j
  · subst e; exact upd_eq s q
  · exact upd_le (h q (by omega) hx)
theorem sq_no {L : List Cel} {c x : Cel} {j : Nat} {s : Nat → Bool} (h : Sq L c j s) (hx : L[j]? = some x) (hn : ¬ x = c) : Sq L c (j + 1) s := fun q hq hc => by
  by_cases e : q = j
  · subst e; rw [hx] at hc; exact absurd (Option.some.inj hc) hn
  · exact h q (by omega) hc
theorem sn_s {o : Orb} {t : Int} {L : List Cel} {n : Nat} {s : Nat → Bool} (h : Sn o t L n s) (hq : Sq L (celO o (t - ((n : Int) - o.sl))) L.length s) : Sn o t L (n + 1) s := fun j x hx ⟨m, hm, e⟩ => by
  by_cases he : m = n
  · subst he; subst e
    exact hq j (List.getElem?_eq_some_iff.1 hx).1 hx
  · exact h j x hx ⟨m, by omega, e⟩
theorem sn_all {o : Orb} (ho : okO o) {t : Int} {L : List Cel} (hL : Could o t L) {n : Nat} (hn : 2 * o.sl < n) {s : Nat → Bool} (h : Sn o t L n s) {j : Nat} {x : Cel} (hx : L[j]? = some x) : s j = true := by
  obtain ⟨d, d0, d1, e⟩ := could_of ho hL (List.mem_of_getElem? hx)
  have hs : 0 ≤ o.sl := by unfold okO at ho; omega
  refine h j x hx ⟨(d + o.sl).toNat, by omega, ?_⟩
  rw [e]
  congr 1
  omega
/-- Its cells are in order. -/
theorem srt_at {L : List Cel} (h : Srt L) {j : Nat} {x y : Cel} (hy : L[j]? = some y) (hx : L[j + 1]? = some x) : (y.1.2 : Int) < x.1.2 ∨ (y.1.2 : Int) = x.1.2 ∧ (y.1.1 : Int) < x.1.1 := by
  obtain ⟨h1, e1⟩ := List.getElem?_eq_some_iff.1 hy
  obtain ⟨h2, e2⟩ := List.getElem?_eq_some_iff.1 hx
  have hk := (List.pairwise_iff_getElem.1 h) j (j + 1) h1 h2 (by omega)
  rw [e1, e2] at hk
  have := kC_lt.1 hk
  omega
/-- Without slack it is where it is. -/
theorem calm_one {o : Orb} (h : okO o) {t : Int} {b : List Cel} (hb : Could (wid o 0) t b) : b = [celO o t] := by
  have h1 := could_le hb
  have h2 := could_ne (wid_ok h (by omega) (by omega)) hb
  have h3 : (2 * (wid o 0).sl + 1).toNat = 1 := rfl
  rw [h3] at h1
  obtain ⟨c, rfl⟩ := List.length_eq_one_iff.1 (show b.length = 1 by omega)
  obtain ⟨d, d0, d1, e⟩ := could_of (wid_ok h (by omega) (by omega)) hb (List.mem_singleton.2 rfl)
  have d2 : (-(0 : Int)) ≤ d := d0
  have d3 : d ≤ (0 : Int) := d1
  obtain rfl : d = 0 := by omega
  rw [e, Int.sub_zero]
  rfl
end Go.Proofs.Ytdomgielpofbhaa
