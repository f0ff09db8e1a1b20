/- The sun's leaves, walked: a minute, noon, the season, a middle, a gap, the light of a height. -/
import Derived.Laws.EntriesVeiled
import Derived.Test.YtbgdlfkeimaaiaaDoorGb
import Derived.Test.YtbgdlfkeimaaiaaDoorSu
namespace Go.Proofs.YtbgdlfkeimaaiaaDoor
open Go.RowKit
set_option linter.unusedSimpArgs false
set_option linter.unusedVariables false

theorem ret_int' {k : IntKind} {a b : Int} (h : a = b) : Ending.returned (.int k a) = .returned (.int k b) := by rw [h]
/-- A minute. -/
def isMin (t : Int) : Bool := decide (0 ≤ t ∧ t ≤ 1000000)
theorem isMin_iff {t : Int} : isMin t = true ↔ 0 ≤ t ∧ t ≤ 1000000 := by unfold isMin; simp
theorem isMinute_any (t : Int) (w : World) :
    Calls Tryd.prog 33 #[.int .i64 t] w fun e w' => e = .returned (.bool (isMin t)) ∧ w = w' := by
  go_enter Tryd.func33, Tryd.ntmps33
  go_wp2
  all_goals
    go_ret
    exact ⟨ret_bool' (Bool.eq_iff_iff.2 (by unfold isMin; simp only [decide_eq_true_eq, Bool.false_eq_true, true_iff, false_iff]; omega)), rfl⟩
theorem noon_any (t : Nat) (ht : t ≤ 1000000) (w : World) :
    Calls Tryd.prog 34 #[iV t] w fun e w' => e = .returned (iV (noonN t)) ∧ w = w' := by
  go_enter Tryd.func34, Tryd.ntmps34
  have h0 : (0 : Int) ≤ t := by omega
  have h1 : (t : Int) ≤ 1000000 := by omega
  go_wp2
  go_ret
  exact ⟨ret_int' (noon_z t), rfl⟩
theorem season_any (t : Nat) (ht : t ≤ 1000000) (w : World) :
    Calls Tryd.prog 37 #[iV t] w fun e w' => e = .returned (iV (seasN t)) ∧ w = w' := by
  go_enter Tryd.func37, Tryd.ntmps37
  have h0 : (0 : Int) ≤ t := by omega
  have h1 : (t : Int) ≤ 1000000 := by omega
  go_wp2
  all_goals
    go_ret
    first
      | exact ⟨ret_int' (seas_z1 t (by omega)), rfl⟩
      | exact ⟨ret_int' (seas_z2 t (by omega) (by omega)), rfl⟩
      | exact ⟨ret_int' (seas_z3 t (by omega)), rfl⟩
theorem middle_any (x : Nat) (hx : x < 48) (w : World) :
    Calls Tryd.prog 54 #[iV x] w fun e w' => e = .returned (iV (1000 * x + 500)) ∧ w = w' := by
  go_enter Tryd.func54, Tryd.ntmps54
  have h0 : (0 : Int) ≤ x := by omega
  have h1 : (x : Int) < 48 := by omega
  go_wp2
  go_ret
  exact ⟨ret_int' (by omega), rfl⟩
theorem sapart_any (a b : Nat) (ha : a ≤ 48000) (hb : b ≤ 48000) (w : World) :
    Calls Tryd.prog 53 #[iV a, iV b] w fun e w' => e = .returned (iV (gapN a b)) ∧ w = w' := by
  go_enter Tryd.func53, Tryd.ntmps53
  have h0 : (0 : Int) ≤ a := by omega
  have h1 : (a : Int) ≤ 48000 := by omega
  have h2 : (0 : Int) ≤ b := by omega
  have h3 : (b : Int) ≤ 48000 := by omega
  go_wp2
  all_goals
    go_ret
    exact ⟨ret_int' (by unfold gapN; omega), rfl⟩
/-- The light of a height. -/
abbrev LV (h : Int) : Value := .agg #[.bool (decide (0 < h)), .bool (decide (h < -20))]
theorem light_any (h : Int) (w : World) :
    Calls Tryd.prog 43 #[.int .i64 h] w fun e w' => e = .returned (LV h) ∧ Below w.heap.size w w' := by
  go_enter Tryd.func43, Tryd.ntmps43
  go_wp2
  exact bodyPost_ret (v := LV h) (by simp [results, Tryd.results43, go_sem]) rfl ⟨rfl, (Below.refl _ _).alloc (Nat.le_refl _) _⟩
theorem infoDs : (Tryd.prog.info? 67).map (·.size) = some 2 := by kernel_rfl
abbrev DsV : Value := .agg #[.func (.func 52) #[] #[], .func (.func 55) #[] #[]]
theorem dists_any (w : World) :
    Calls Tryd.prog 47 #[] w fun e w' => e = .returned DsV ∧ Below w.heap.size w w' := by
  go_enter Tryd.func47, Tryd.ntmps47
  go_wp2
  exact bodyPost_ret (v := DsV) (by simp [results, Tryd.results47, go_sem]) rfl ⟨rfl, (Below.refl _ _).alloc (Nat.le_refl _) _⟩
set_option maxRecDepth 100000 in
/-- The distance along the columns. -/
theorem d1_any (x y t : Nat) (hx : x < 48) (hy : y < 24) (ht : t ≤ 1000000) (w : World) :
    Calls Tryd.prog 52 #[CV x y, iV t] w fun e w' => e = .returned (iV (acrN x t)) ∧ Below w.heap.size w w' := by
  have hl := noonN_lt t
  have hg := gap_le (1000 * x + 500) (noonN t) 48000 (by omega) (by omega)
  go_enter Tryd.func52, Tryd.ntmps52
  go_wp2_with (first
    | (go_at_call 54; (with_reducible refine (middle_any x hx _).mono ?_); rintro e w' ⟨rfl, rfl⟩)
    | (go_at_call 34; (with_reducible refine (noon_any t ht _).mono ?_); rintro e w' ⟨rfl, rfl⟩)
    | (go_at_call 53; (with_reducible refine (sapart_any (1000 * x + 500) (noonN t) (by omega) (by omega) _).mono ?_); rintro e w' ⟨rfl, rfl⟩))
  all_goals
    go_ret
    exact ⟨ret_int' (by unfold acrN; omega), (Below.refl _ _).alloc (Nat.le_refl _) _⟩
set_option maxRecDepth 100000 in
theorem d2_any (x y t : Nat) (hx : x < 48) (hy : y < 24) (ht : t ≤ 1000000) (w : World) :
    Calls Tryd.prog 55 #[CV x y, iV t] w fun e w' => e = .returned (iV (alnN y t)) ∧ Below w.heap.size w w' := by
  have hl := seasN_le t
  go_enter Tryd.func55, Tryd.ntmps55
  go_wp2_with (first
    | (go_at_call 54; (with_reducible refine (middle_any y (by omega) _).mono ?_); rintro e w' ⟨rfl, rfl⟩)
    | (go_at_call 37; (with_reducible refine (season_any t ht _).mono ?_); rintro e w' ⟨rfl, rfl⟩)
    | (go_at_call 53; (with_reducible refine (sapart_any (1000 * y + 500) (seasN t) (by omega) (by omega) _).mono ?_); rintro e w' ⟨rfl, rfl⟩))
  go_ret
  exact ⟨rfl, (Below.refl _ _).alloc (Nat.le_refl _) _⟩
/-- The distances that have been added. -/
def sumD (x y t : Nat) : Nat → Nat
  | 0 => 0
  | 1 => acrN x t
  | _ => acrN x t + alnN y t
theorem deg_int (d : Nat) (h : d ≤ 48000) : max (90 - (d : Int) * 75 / 10000) (-90) = degZ d := by unfold degZ; omega
end Go.Proofs.YtbgdlfkeimaaiaaDoor
