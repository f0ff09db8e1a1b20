/- What the laws of the sun call: picked numbers, cells and days; how far a cell is from noon. -/
import Derived.Test.YtbgdlfkeimaaiaaDoorSa
namespace Go.Proofs.YtbgdlfkeimaaiaaDoor
open Go.RowKit
set_option linter.unusedSimpArgs false
set_option linter.unusedVariables false
theorem sameU (v : Value) (w : World) : ∀ e w', (e = .returned v ∧ w = w') → OutV w v e w' := fun e w' ⟨he, hw⟩ => ⟨he, hw ▸ Below.refl _ _⟩
theorem lpV (z : Int) (h0 : -9223372036854775808 ≤ z) (h1 : z ≤ 9223372036854775807) (n : Nat) (hn : 0 < n) (hn2 : n ≤ 2000000000) (N : Int) (hN : N = (n : Int)) :
    ∃ i : Nat, i < n ∧ ∀ w : World, Calls Tryd.prog 13 #[.int .i64 z, .int .i64 N] w (OutV w (iV i)) :=
  ⟨pickZ z n, pickZ_lt z hn, fun w => (lpick_any z h0 h1 n hn hn2 N hN w).mono fun _ _ ⟨he, hw⟩ => ⟨he, hw ▸ Below.refl _ _⟩⟩
theorem lcV (a b : Int) (ha0 : -9223372036854775808 ≤ a) (ha1 : a ≤ 9223372036854775807) (hb0 : -9223372036854775808 ≤ b) (hb1 : b ≤ 9223372036854775807) :
    ∃ x y : Nat, x < 48 ∧ y < 24 ∧ ∀ w : World, Calls Tryd.prog 12 #[.agg #[.int .i64 a, .int .i64 b]] w (OutV w (CV x y)) :=
  ⟨_, _, pickZ_lt a (by decide), pickZ_lt b (by decide), fun w => rcell_any a b ha0 ha1 hb0 hb1 w⟩
theorem dayV (z : Int) (h0 : -9223372036854775808 ≤ z) (h1 : z ≤ 9223372036854775807) :
    ∃ d : Nat, d < 690 ∧ ∀ w : World, Calls Tryd.prog 30 #[.int .i64 z] w (OutV w (.int .i64 (1440 * (d : Int)))) := by
  obtain ⟨d, hd, C⟩ := lpV z h0 h1 690 (by decide) (by decide) 690 rfl
  refine ⟨d, hd, fun w => ?_⟩
  have HC := Lib.hid (C w)
  have d0 : (0 : Int) ≤ d := by omega
  have d1 : (d : Int) < 690 := by omega
  clear C h0 h1
  go_enter Tryd.func30, Tryd.ntmps30
  go_wp2_with fail
  (with_reducible refine HC.out.mono ?_)
  rintro e w1 ⟨rfl, hb⟩
  have HB := Lib.hid hb
  clear hb
  go_wp2
  go_ret
  exact ⟨rfl, HB.out⟩
theorem acr_z (x t : Nat) (hx : x < 48) : min (max (1000 * (x : Int) + 500 - (noonN t : Int)) (-(1000 * (x : Int) + 500 - (noonN t : Int)))) (48000 - max (1000 * (x : Int) + 500 - (noonN t : Int)) (-(1000 * (x : Int) + 500 - (noonN t : Int)))) = (acrN x t : Int) := by
  have := noonN_lt t
  unfold acrN gapN
  omega
theorem across_any (x t : Nat) (hx : x < 48) (ht : t ≤ 1000000) (w : World) :
    Calls Tryd.prog 31 #[iV x, iV t] w (OutV w (.tuple #[iV (acrN x t), .bool true])) := by
  have HA := Lib.hid (acr_z x t hx)
  have n0 : (0 : Int) ≤ noonN t := by omega
  have n1 : (noonN t : Int) < 48000 := by have := noonN_lt t; omega
  have x0 : (0 : Int) ≤ x := by omega
  have x1 : (x : Int) < 48 := by omega
  go_enter Tryd.func31, Tryd.ntmps31
  go_wp2_with fail
  (with_reducible refine (noonS_yes t ht _).mono ?_)
  rintro e w1 ⟨rfl, rfl⟩
  generalize noonN t = q at *
  go_wp2
  go_ret2
  exact ⟨ret_two HA.out, Below.refl _ _⟩
end Go.Proofs.YtbgdlfkeimaaiaaDoor
