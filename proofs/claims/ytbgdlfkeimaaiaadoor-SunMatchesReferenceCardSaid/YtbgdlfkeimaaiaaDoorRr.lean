/- The reference's functions up to Dark, walked. -/
import Derived.Lib.MinMax
import Derived.Test.YtbgdlfkeimaaiaaDoorSd
import Derived.Test.YtbgdlfkeimaaiaaDoorGd
namespace Go.Proofs.YtbgdlfkeimaaiaaDoor
open Go.RowKit
set_option linter.unusedSimpArgs false
set_option linter.unusedVariables false
theorem rminute_any (t : Int) (w : World) :
    Calls Tryd.prog 35 #[.int .i64 t] w fun e w' => e = .returned (.bool (isMin t)) ∧ w = w' := by
  go_enter Tryd.func35, Tryd.ntmps35
  go_wp2
  all_goals
    go_ret
    exact ⟨ret_bool' (Bool.eq_iff_iff.2 (by unfold isMin; simp only [decide_eq_true_eq, Bool.false_eq_true, true_iff, false_iff]; omega)), rfl⟩
theorem down_any (n : Int) (h0 : -1000000 ≤ n) (h1 : n ≤ 1000000) (w : World) :
    Calls Tryd.prog 36 #[.int .i64 n] w fun e w' => e = .returned (.int .i64 (n / 3)) ∧ w = w' := by
  by_cases h : 0 ≤ n
  · go_enter Tryd.func36, Tryd.ntmps36
    go_wp2
    all_goals
      go_ret
      exact ⟨ret_int' (by omega), rfl⟩
  · have h2 : 0 ≤ 2 - n := by omega
    have h3 : n < 0 := by omega
    go_enter Tryd.func36, Tryd.ntmps36
    go_wp2
    all_goals
      go_ret
      exact ⟨ret_int' (by omega), rfl⟩
theorem away_any (a b : Nat) (ha : a ≤ 48000) (hb : b ≤ 48000) (w : World) :
    Calls Tryd.prog 41 #[iV a, iV b] w fun e w' => e = .returned (iV (gapN a b)) ∧ w = w' := by
  go_enter Tryd.func41, Tryd.ntmps41
  have h0 : (0 : Int) ≤ a := by omega
  have h1 : (a : Int) ≤ 48000 := by omega
  have h2 : (0 : Int) ≤ b := by omega
  have h3 : (b : Int) ≤ 48000 := by omega
  go_wp2
  all_goals
    go_ret
    exact ⟨ret_int' (by unfold gapN; omega), rfl⟩
theorem ret_two {k : IntKind} {a b : Int} {v : Value} (h : a = b) : Ending.returned (.tuple #[.int k a, v]) = .returned (.tuple #[.int k b, v]) := by rw [h]
theorem rseas_z1 (t : Nat) (h : ¬ 90 < (t : Int) / 1440 % 360) : 12000 + (t : Int) / 1440 % 360 * 100 / 3 = (seasN t : Int) := by
  rw [← seas_z1 t h]
  generalize (t : Int) / 1440 % 360 = s
  omega
theorem rseas_z2 (t : Nat) (h : 90 < (t : Int) / 1440 % 360) (h2 : ¬ 270 < (t : Int) / 1440 % 360) : 12000 + (180 - (t : Int) / 1440 % 360) * 100 / 3 = (seasN t : Int) := by
  rw [← seas_z2 t h h2]
  generalize (t : Int) / 1440 % 360 = s
  omega
theorem rseas_z3 (t : Nat) (h2 : 270 < (t : Int) / 1440 % 360) : 12000 + ((t : Int) / 1440 % 360 - 360) * 100 / 3 = (seasN t : Int) := by
  rw [← seas_z3 t h2]
  generalize (t : Int) / 1440 % 360 = s
  omega
theorem rnoon_yes (t : Nat) (ht : t ≤ 1000000) (w : World) :
    Calls Tryd.prog 15 #[iV t] w fun e w' => e = .returned (.tuple #[iV (noonN t), .int .i64 0]) ∧ w = w' := by
  have hm : isMin t = true := isMin_iff.2 (by omega)
  have h0 : (0 : Int) ≤ t := by omega
  have h1 : (t : Int) ≤ 1000000 := by omega
  go_enter Tryd.func15, Tryd.ntmps15
  go_wp2_with (first
    | (go_at_call 35; (with_reducible refine (rminute_any _ _).mono ?_); rintro e w' ⟨rfl, rfl⟩)
    | (go_at_call 36; (with_reducible refine (down_any _ (by omega) (by omega) _).mono ?_); rintro e w' ⟨rfl, rfl⟩))
  go_ret2
  exact ⟨ret_two (noon_z t), rfl⟩
theorem rnoon_no (t : Int) (ht : isMin t = false) (w : World) :
    Calls Tryd.prog 15 #[.int .i64 t] w fun e w' => e = .returned (.tuple #[.int .i64 0, .int .i64 60]) ∧ w = w' := by
  go_enter Tryd.func15, Tryd.ntmps15
  go_wp2_with (go_at_call 35; (with_reducible refine (rminute_any _ _).mono ?_); rintro e w' ⟨rfl, rfl⟩)
  go_ret2
  exact ⟨rfl, rfl⟩
theorem rseas_no (t : Int) (ht : isMin t = false) (w : World) :
    Calls Tryd.prog 17 #[.int .i64 t] w fun e w' => e = .returned (.tuple #[.int .i64 0, .int .i64 60]) ∧ w = w' := by
  go_enter Tryd.func17, Tryd.ntmps17
  go_wp2_with (go_at_call 35; (with_reducible refine (rminute_any _ _).mono ?_); rintro e w' ⟨rfl, rfl⟩)
  go_ret2
  exact ⟨rfl, rfl⟩
theorem rseas_yes (t : Nat) (ht : t ≤ 1000000) (w : World) :
    Calls Tryd.prog 17 #[iV t] w fun e w' => e = .returned (.tuple #[iV (seasN t), .int .i64 0]) ∧ w = w' := by
  have hm : isMin t = true := isMin_iff.2 (by omega)
  have h0 : (0 : Int) ≤ t := by omega
  have h1 : (t : Int) ≤ 1000000 := by omega
  go_enter Tryd.func17, Tryd.ntmps17
  go_wp2_with (first
    | (go_at_call 35; (with_reducible refine (rminute_any _ _).mono ?_); rintro e w' ⟨rfl, rfl⟩)
    | (go_at_call 36; (with_reducible refine (down_any _ (by omega) (by omega) _).mono ?_); rintro e w' ⟨rfl, rfl⟩))
  all_goals
    go_ret2
    first
      | exact ⟨ret_two (rseas_z1 t (by omega)), rfl⟩
      | exact ⟨ret_two (rseas_z2 t (by omega) (by omega)), rfl⟩
      | exact ⟨ret_two (rseas_z3 t (by omega)), rfl⟩
theorem away_mid (x b : Nat) (hx : x < 48) (hb : b ≤ 48000) (w : World) :
    Calls Tryd.prog 41 #[.int .i64 (1000 * (x : Int) + 500), iV b] w fun e w' => e = .returned (iV (gapN (1000 * x + 500) b)) ∧ w = w' := by
  rw [show 1000 * (x : Int) + 500 = ((1000 * x + 500 : Nat) : Int) by omega]
  exact away_any _ _ (by omega) hb w
theorem rdeg (d : Nat) (h : d ≤ 48000) : max (-90) (90 - (d : Int) * 75 / 10000) = degZ d := by unfold degZ; omega
set_option maxRecDepth 100000 in
set_option maxHeartbeats 1000000 in
theorem rheight_yes (x y t : Nat) (hx : x < 48) (hy : y < 24) (ht : t ≤ 1000000) (w : World) :
    Calls Tryd.prog 19 #[CV x y, iV t] w fun e w' => e = .returned (.tuple #[.int .i64 (hgt x y t), .int .i64 0]) ∧ Below w.heap.size w w' := by
  have hv : onG x y = true := by unfold onG; simp; omega
  obtain ⟨V, hV, hb, hz, hg⟩ := box_cell w x y
  have HB := Lib.hid hb; have HZ := Lib.hid hz
  have c0 := (row_cell hg 0).trans (show _ = some (.int .i64 (x : Int)) from rfl)
  have c1 := (row_cell hg 1).trans (show _ = some (.int .i64 (y : Int)) from rfl)
  have h1 : (0 : Int) ≤ x := by omega
  have h2 : (x : Int) < 48 := by omega
  have h3 : (0 : Int) ≤ y := by omega
  have h4 : (y : Int) < 24 := by omega
  clear hb hg hz
  go_enter Tryd.func19, Tryd.ntmps19
  go_wp2_with (first
    | (go_at_call 15; (with_reducible refine (rnoon_yes t ht _).mono ?_); rintro e w' ⟨rfl, rfl⟩)
    | (go_at_call 17; (with_reducible refine (rseas_yes t ht _).mono ?_); rintro e w' ⟨rfl, rfl⟩))
  (with_reducible refine (rvalidCell_any _ _ _).mono ?_)
  rintro e w1 ⟨rfl, hb1⟩
  have d0 := (hb1.cell (p := ⟨w.heap.size, 0, none⟩) HZ.out).trans c0
  have d1 := (hb1.cell (p := ⟨w.heap.size, 1, none⟩) HZ.out).trans c1
  have HB1 := Lib.hid (HB.out.trans (hb1.mono HB.out.size))
  clear hb1 c0 c1 hV
  have n1 := noonN_lt t
  have n2 := seasN_le t
  have n3 := gap_le (1000 * x + 500) (noonN t) 48000 (by omega) (by omega)
  have HA := Lib.hid (And.intro (acrN_le x t hx) (alnN_le y t hy))
  go_wp2_with fail
  (with_reducible refine (away_mid x (noonN t) hx (by omega) _).mono ?_)
  rintro e w' ⟨rfl, rfl⟩
  have HG := Lib.hid (show min ((gapN (1000 * x + 500) (noonN t) : Nat) : Int) (48000 - (gapN (1000 * x + 500) (noonN t) : Nat)) = (acrN x t : Nat) from by unfold acrN; omega)
  generalize gapN (1000 * x + 500) (noonN t) = g at *
  have g0 : (0 : Int) ≤ g := by omega
  have g1 : (g : Int) ≤ 48000 := by omega
  have hgg := HG.out
  go_wp2_with fail
  clear hgg
  (with_reducible refine (away_mid y (seasN t) (by omega) (by omega) _).mono ?_)
  rintro e w' ⟨rfl, rfl⟩
  have a0 := HA.out.1
  have a1 := HA.out.2
  have hal : gapN (1000 * y + 500) (seasN t) = alnN y t := rfl
  rw [hal]
  clear hal
  have HE := Lib.hid (rdeg (acrN x t + alnN y t) (by omega))
  have HEE := Lib.hid (show hgt x y t = degZ (acrN x t + alnN y t) from rfl)
  generalize acrN x t = p at *
  generalize alnN y t = q at *
  have p0 : (0 : Int) ≤ p := by omega
  have p1 : (p : Int) ≤ 24000 := by omega
  have q0 : (0 : Int) ≤ q := by omega
  have q1 : (q : Int) ≤ 24000 := by omega
  go_wp2
  go_ret2
  exact ⟨ret_two (by rw [HEE.out, ← HE.out]; omega), HB1.out⟩
end Go.Proofs.YtbgdlfkeimaaiaaDoor
