/- Noon, Season, Height, Lit and Dark, walked, for whatever arguments. -/
import Derived.Test.YtbgdlfkeimaaiaaDoorSh
namespace Go.Proofs.YtbgdlfkeimaaiaaDoor
open Go.RowKit
set_option linter.unusedSimpArgs false
set_option linter.unusedVariables false
theorem noonS_yes (t : Nat) (ht : t ≤ 1000000) (w : World) :
    Calls Tryd.prog 14 #[iV t] w fun e w' => e = .returned (.tuple #[iV (noonN t), .int .i64 0]) ∧ w = w' := by
  have hm : isMin t = true := isMin_iff.2 (by omega)
  go_enter Tryd.func14, Tryd.ntmps14
  go_wp2_with (first
    | (go_at_call 33; (with_reducible refine (isMinute_any _ _).mono ?_); rintro e w' ⟨rfl, rfl⟩)
    | (go_at_call 34; (with_reducible refine (noon_any t ht _).mono ?_); rintro e w' ⟨rfl, rfl⟩))
  go_ret2
  exact ⟨rfl, rfl⟩
theorem noonS_no (t : Int) (ht : isMin t = false) (w : World) :
    Calls Tryd.prog 14 #[.int .i64 t] w fun e w' => e = .returned (.tuple #[.int .i64 0, .int .i64 60]) ∧ w = w' := by
  go_enter Tryd.func14, Tryd.ntmps14
  go_wp2_with (go_at_call 33; (with_reducible refine (isMinute_any _ _).mono ?_); rintro e w' ⟨rfl, rfl⟩)
  go_ret2
  exact ⟨rfl, rfl⟩
theorem seasS_yes (t : Nat) (ht : t ≤ 1000000) (w : World) :
    Calls Tryd.prog 16 #[iV t] w fun e w' => e = .returned (.tuple #[iV (seasN t), .int .i64 0]) ∧ w = w' := by
  have hm : isMin t = true := isMin_iff.2 (by omega)
  go_enter Tryd.func16, Tryd.ntmps16
  go_wp2_with (first
    | (go_at_call 33; (with_reducible refine (isMinute_any _ _).mono ?_); rintro e w' ⟨rfl, rfl⟩)
    | (go_at_call 37; (with_reducible refine (season_any t ht _).mono ?_); rintro e w' ⟨rfl, rfl⟩))
  go_ret2
  exact ⟨rfl, rfl⟩
theorem seasS_no (t : Int) (ht : isMin t = false) (w : World) :
    Calls Tryd.prog 16 #[.int .i64 t] w fun e w' => e = .returned (.tuple #[.int .i64 0, .int .i64 60]) ∧ w = w' := by
  go_enter Tryd.func16, Tryd.ntmps16
  go_wp2_with (go_at_call 33; (with_reducible refine (isMinute_any _ _).mono ?_); rintro e w' ⟨rfl, rfl⟩)
  go_ret2
  exact ⟨rfl, rfl⟩
/-- A height is asked for that there is. -/
def isSun (x y t : Int) : Bool := onG x y && isMin t
theorem isSun_iff {x y t : Int} : isSun x y t = true ↔ (0 ≤ x ∧ x < 48 ∧ 0 ≤ y ∧ y < 24) ∧ 0 ≤ t ∧ t ≤ 1000000 := by
  unfold isSun onG isMin; simp
theorem isSun_nat {x y t : Int} (h : isSun x y t = true) : ∃ a b s : Nat, a < 48 ∧ b < 24 ∧ s ≤ 1000000 ∧ x = a ∧ y = b ∧ t = s := by
  have := isSun_iff.1 h
  exact ⟨x.toNat, y.toNat, t.toNat, by omega, by omega, by omega, by omega, by omega, by omega⟩
/-- A cell by value, in a block. -/
theorem box_cell (w : World) (x y : Int) : ∃ V, w.alloc (.cells #[.int .i64 x, .int .i64 y] 23) = V ∧ Below w.heap.size w V ∧ w.heap.size < V.heap.size ∧
    V.heap[w.heap.size]? = some (.cells #[.int .i64 x, .int .i64 y] 23 (0, 0)) :=
  ⟨_, rfl, (Below.refl _ _).alloc (Nat.le_refl _) _, by simp, heap_new' _ _ _ rfl⟩
set_option maxRecDepth 100000 in
theorem heightS_yes (x y t : Nat) (hx : x < 48) (hy : y < 24) (ht : t ≤ 1000000) (w : World) :
    Calls Tryd.prog 18 #[CV x y, iV t] w fun e w' => e = .returned (.tuple #[.int .i64 (hgt x y t), .int .i64 0]) ∧ Below w.heap.size w w' := by
  have hm : isMin t = true := isMin_iff.2 (by omega)
  have hv : onG x y = true := by unfold onG; simp; omega
  obtain ⟨V, hV, hb, hz, hg⟩ := box_cell w x y
  have HB := Lib.hid hb; have HG := Lib.hid hg; have HZ := Lib.hid hz
  have c0 := (row_cell hg 0).trans (show _ = some (.int .i64 (x : Int)) from rfl)
  have c1 := (row_cell hg 1).trans (show _ = some (.int .i64 (y : Int)) from rfl)
  clear hb hg hz
  go_enter Tryd.func18, Tryd.ntmps18
  go_wp2_with fail
  (with_reducible refine (validCell_any _ _ _).mono ?_)
  rintro e w1 ⟨rfl, hb1⟩
  have d0 := (hb1.cell (p := ⟨w.heap.size, 0, none⟩) HZ.out).trans c0
  have d1 := (hb1.cell (p := ⟨w.heap.size, 1, none⟩) HZ.out).trans c1
  have HB1 := Lib.hid (HB.out.trans (hb1.mono HB.out.size))
  clear hb1 c0 c1 hV
  go_wp2_with (go_at_call 33; (with_reducible refine (isMinute_any _ _).mono ?_); rintro e w' ⟨rfl, rfl⟩)
  (with_reducible refine (height_any x y t hx hy ht _).mono ?_)
  rintro e w2 ⟨rfl, hb2⟩
  have HB2 := Lib.hid (HB1.out.trans (hb2.mono HB1.out.size))
  clear hb2 d0 d1
  go_wp2
  go_ret2
  exact ⟨rfl, HB2.out⟩
set_option maxRecDepth 100000 in
theorem heightS_no (x y t : Int) (h : isSun x y t = false) (w : World) :
    Calls Tryd.prog 18 #[CV x y, .int .i64 t] w fun e w' => e = .returned (.tuple #[.int .i64 0, .int .i64 60]) ∧ Below w.heap.size w w' := by
  obtain ⟨V, hV, hb, hz, hg⟩ := box_cell w x y
  have HB := Lib.hid hb
  have c0 := (row_cell hg 0).trans (show _ = some (.int .i64 (x : Int)) from rfl)
  have c1 := (row_cell hg 1).trans (show _ = some (.int .i64 (y : Int)) from rfl)
  clear hb hg hz
  by_cases hv : onG x y = true
  · have hm : isMin t = false := by unfold isSun at h; rw [hv] at h; simpa using h
    clear h
    go_enter Tryd.func18, Tryd.ntmps18
    go_wp2_with fail
    (with_reducible refine (validCell_any _ _ _).mono ?_)
    rintro e w1 ⟨rfl, hb1⟩
    have HB1 := Lib.hid (HB.out.trans (hb1.mono HB.out.size))
    clear hb1 c0 c1 hV
    go_wp2_with (go_at_call 33; (with_reducible refine (isMinute_any _ _).mono ?_); rintro e w' ⟨rfl, rfl⟩)
    go_ret2
    exact ⟨rfl, HB1.out⟩
  · have hv : onG x y = false := by simpa using hv
    clear h
    go_enter Tryd.func18, Tryd.ntmps18
    go_wp2_with fail
    (with_reducible refine (validCell_any _ _ _).mono ?_)
    rintro e w1 ⟨rfl, hb1⟩
    have HB1 := Lib.hid (HB.out.trans (hb1.mono HB.out.size))
    clear hb1 c0 c1 hV
    go_wp2
    go_ret2
    exact ⟨rfl, HB1.out⟩
end Go.Proofs.YtbgdlfkeimaaiaaDoor
