/- A row of spans turned round, walked. -/
import Derived.Test.YtiilkjonbfllfaaDoorRoot
import Derived.RegionTactic
import Derived.BigRegion
import Derived.ChangeAlike
namespace Go.Proofs.YtiilkjonbfllfaaDoor
open Go.RowKit

abbrev Sp := Nat × Nat
abbrev i64V (n : Nat) : Value := .int .i64 (n : Int)
/-- A block of spans: the first ones are xs. -/
def SpRow (w : World) (g c : Nat) (xs : List Sp) : Prop :=
  ∃ cur : Array Value, w.heap[g]? = some (.cells cur 57 (0, 0)) ∧ cur.size = c * 2 ∧ xs.length ≤ c ∧ ∀ k p, xs[k]? = some p → cur[k * 2]? = some (i64V p.1) ∧ cur[k * 2 + 1]? = some (i64V p.2)
theorem SpRow.cells {w : World} {g c : Nat} {xs : List Sp} (h : SpRow w g c xs) {k : Nat} {p : Sp} (hk : xs[k]? = some p) : w.cell? ⟨g, k * 2, none⟩ = some (i64V p.1) ∧ w.cell? ⟨g, k * 2 + 1, none⟩ = some (i64V p.2) := by
  obtain ⟨cur, hg, _, _, hc⟩ := h
  obtain ⟨h1, h2⟩ := hc k p hk
  exact ⟨by rw [cell_of_row _ _ _ _ _ _ hg]; exact h1, by rw [cell_of_row _ _ _ _ _ _ hg]; exact h2⟩
theorem SpRow.free {w : World} {g c : Nat} {xs : List Sp} (h : SpRow w g c xs) (j : Nat) : w.frozen? ⟨g, j, none⟩ = false := by
  obtain ⟨cur, hg, _⟩ := h
  exact frozen_of_row _ _ _ _ _ hg
/-- The list when i elements at either end have changed places. -/
def revd (xs : List Sp) (i : Nat) : List Sp := (List.range xs.length).map fun k => if k < i ∨ xs.length - i ≤ k then xs.getD (xs.length - 1 - k) (0, 0) else xs.getD k (0, 0)
theorem revd_length (xs : List Sp) (i : Nat) : (revd xs i).length = xs.length := by simp [revd]
theorem revd_at (xs : List Sp) (i k : Nat) (h : k < xs.length) : (revd xs i)[k]? = some (if k < i ∨ xs.length - i ≤ k then xs.getD (xs.length - 1 - k) (0, 0) else xs.getD k (0, 0)) := by
  simp [revd, h]
theorem revd_zero (xs : List Sp) : revd xs 0 = xs := by
  apply List.ext_getElem?
  intro k
  by_cases h : k < xs.length
  · rw [revd_at _ _ _ h, if_neg (by omega), List.getD_eq_getElem?_getD, List.getElem?_eq_getElem h]; rfl
  · rw [List.getElem?_eq_none (by rw [revd_length]; omega), List.getElem?_eq_none (by omega)]
theorem revd_end (xs : List Sp) (i : Nat) (h : xs.length ≤ 2 * i + 1) : revd xs i = xs.reverse := by
  apply List.ext_getElem?
  intro k
  by_cases hk : k < xs.length
  · rw [revd_at _ _ _ hk, List.getElem?_reverse hk]
    by_cases hc : k < i ∨ xs.length - i ≤ k
    · rw [if_pos hc, List.getD_eq_getElem?_getD, List.getElem?_eq_getElem (show xs.length - 1 - k < xs.length by omega)]; rfl
    · rw [if_neg hc, List.getD_eq_getElem?_getD, show xs.length - 1 - k = k by omega, List.getElem?_eq_getElem hk]; rfl
  · rw [List.getElem?_eq_none (by rw [revd_length]; omega), List.getElem?_eq_none (by simp; omega)]

theorem SpRow.set {w : World} {g c : Nat} {xs : List Sp} (h : SpRow w g c xs) (k : Nat) (p : Sp) (hk : k < xs.length) :
    SpRow ((w.setCell ⟨g, k * 2, none⟩ (i64V p.1)).setCell ⟨g, k * 2 + 1, none⟩ (i64V p.2)) g c (xs.set k p) := by
  obtain ⟨cur, hg, hz, hl, hc⟩ := h
  refine ⟨_, heap_setCell_same _ _ _ _ _ _ (heap_setCell_same _ _ _ _ _ _ hg), by simpa using hz, by simpa using hl, fun j q hq => ?_⟩
  rw [List.getElem?_set] at hq
  by_cases hj : k = j
  · subst hj
    rw [if_pos rfl, if_pos hk] at hq
    obtain rfl := Option.some.inj hq
    rw [Array.getElem?_setIfInBounds, Array.getElem?_setIfInBounds, Array.getElem?_setIfInBounds, Array.getElem?_setIfInBounds]
    simp; omega
  · rw [if_neg hj] at hq
    obtain ⟨h1, h2⟩ := hc j q hq
    rw [Array.getElem?_setIfInBounds, Array.getElem?_setIfInBounds, Array.getElem?_setIfInBounds, Array.getElem?_setIfInBounds, if_neg (by omega), if_neg (by omega), if_neg (by omega), if_neg (by omega)]
    exact ⟨h1, h2⟩
theorem SpRow.drew {w : World} {g c : Nat} {xs : List Sp} (h : SpRow w g c xs) : SpRow w.drew g c xs := h
theorem grown_set {w wr : World} {g : Nat} (h : w.grownBy wr (some g)) (j : Nat) (v : Value) : w.grownBy (wr.setCell ⟨g, j, none⟩ v) (some g) :=
  ⟨h.os, h.tape, h.output, by simpa [World.setCell] using h.size, fun k hk hne => (heap_setCell_other _ _ _ _ (fun e => hne (by rw [e]))).trans (h.block k hk hne)⟩
theorem grownBy_refl' (w : World) (g : Nat) : w.grownBy w (some g) := ⟨rfl, rfl, rfl, Nat.le_refl _, fun _ _ _ => rfl⟩
theorem grown_drew {w wr : World} {g : Nat} (h : w.grownBy wr (some g)) : w.grownBy wr.drew (some g) := ⟨h.os, h.tape, h.output, h.size, h.block⟩
theorem getD_some {xs : List Sp} {k : Nat} (h : k < xs.length) : xs[k]? = some (xs.getD k (0, 0)) := by
  rw [List.getD_eq_getElem?_getD, List.getElem?_eq_getElem h]; rfl
theorem revd_step (xs : List Sp) (i : Nat) (p q : Sp) (h : 2 * i + 1 < xs.length) (hp : (revd xs i)[i]? = some p) (hq : (revd xs i)[xs.length - 1 - i]? = some q) : revd xs (i + 1) = ((revd xs i).set i q).set (xs.length - 1 - i) p := by
  rw [revd_at _ _ _ (by omega), if_neg (by omega)] at hp
  rw [revd_at _ _ _ (by omega), if_neg (by omega)] at hq
  have hp' := Option.some.inj hp
  have hq' := Option.some.inj hq
  apply List.ext_getElem?
  intro k
  rw [List.getElem?_set, List.getElem?_set, List.length_set, revd_length]
  by_cases hk : k < xs.length
  · rw [revd_at _ _ _ hk, revd_at _ _ _ hk]
    by_cases e1 : xs.length - 1 - i = k
    · rw [if_pos e1, if_pos (by omega), if_pos (by omega), ← hp', show xs.length - 1 - k = i by omega]
    · rw [if_neg e1]
      by_cases e2 : i = k
      · rw [if_pos e2, if_pos (by omega), if_pos (by omega), ← hq', show xs.length - 1 - k = xs.length - 1 - i by omega]
      · rw [if_neg e2]
        by_cases e3 : k < i ∨ xs.length - i ≤ k
        · rw [if_pos e3, if_pos (by omega)]
        · rw [if_neg e3, if_neg (by omega)]
  · rw [List.getElem?_eq_none (by rw [revd_length]; omega), List.getElem?_eq_none (by rw [revd_length]; omega), if_neg (by omega), if_neg (by omega)]

set_option maxRecDepth 100000 in
set_option maxHeartbeats 2000000 in
theorem reverse_any (g n c : Nat) (xs : List Sp) (hn : xs.length = n) (hn1 : n ≤ 1000) (w : World) (hr : SpRow w g c xs) :
    Calls Tryd.prog 71 #[.slice (some ⟨g, 0, none⟩) n c] w fun e w' => e = .returned (.tuple #[]) ∧ SpRow w' g c xs.reverse ∧ w.grownBy w' (some g) := by
  have HN := Lib.hid hn; clear hn
  go_enter Tryd.func71, Tryd.ntmps71
  go_wp2
  go_loopw [2, 3] (fun iv jv wr => ∃ i : Nat, iv = .int .i64 i ∧ jv = .int .i64 ((n : Int) - 1 - i) ∧ 2 * i ≤ n + 1 ∧ SpRow wr g c (revd xs i) ∧ w.grownBy wr (some g)) (fun iv _ _ => n - (intOf iv).toNat)
  case atStart => exact ⟨0, rfl, by go_num, by omega, by rw [revd_zero]; exact hr, grownBy_refl' w g⟩
  case round =>
    obtain ⟨i, rfl, rfl, hi, hrow, hgr⟩ := hrel
    by_cases hlt : (i : Int) < n - 1 - i
    · obtain ⟨p, hp⟩ : ∃ p, (revd xs i)[i]? = some p := ⟨_, revd_at _ _ _ (by rw [HN.out]; omega)⟩
      obtain ⟨q, hq⟩ : ∃ q, (revd xs i)[n - 1 - i]? = some q := ⟨_, revd_at _ _ _ (by rw [HN.out]; omega)⟩
      obtain ⟨a1, a2⟩ := hrow.cells hp
      obtain ⟨b1, b2⟩ := hrow.cells hq
      have f1 := hrow.free (i * 2)
      have f2 := hrow.free (i * 2 + 1)
      have f3 := hrow.free ((n - 1 - i) * 2)
      have f4 := hrow.free ((n - 1 - i) * 2 + 1)
      have HP := Lib.hid hp; have HQ := Lib.hid hq
      clear hp hq
      have hj : ((n : Int) - 1 - i).toNat = n - 1 - i := by omega
      have hi0 : (i : Int) ≤ n - 1 := by omega
      have hj0 : 0 ≤ (n : Int) - 1 - i := by omega
      have hjn : (n : Int) - 1 - i < n := by omega
      go_wp2
      go_region
      go_wp2
      refine ⟨⟨i + 1, by go_num, by go_num, by omega, ?_, ?_⟩, by simp [intOf]; omega⟩
      · rw [revd_step xs i p q (by rw [HN.out]; omega) HP.out (by rw [HN.out]; exact HQ.out), HN.out]
        exact ((hrow.set i q (by rw [revd_length, HN.out]; omega)).set (n - 1 - i) p (by rw [List.length_set, revd_length, HN.out]; omega)).drew
      · exact grown_drew (grown_set (grown_set (grown_set (grown_set hgr _ _) _ _) _ _) _ _)
    · have HR := Lib.hid (revd_end xs i (by rw [HN.out]; omega))
      go_wp2
      go_end0
      exact ⟨rfl, by rw [← HR.out]; exact hrow, hgr⟩

theorem reverse_nil (w : World) :
    Calls Tryd.prog 71 #[.slice none 0 0] w fun e w' => e = .returned (.tuple #[]) ∧ w = w' := by
  go_enter Tryd.func71, Tryd.ntmps71
  go_wp2
  go_loop [2, 3] (fun iv jv => iv = .int .i64 0 ∧ jv = .int .i64 (-1)) (fun _ _ => 0)
  case atStart => exact ⟨rfl, rfl⟩
  case round =>
    obtain ⟨rfl, rfl⟩ := hrel
    go_wp2
    go_end0
    exact ⟨rfl, rfl⟩
end Go.Proofs.YtiilkjonbfllfaaDoor
