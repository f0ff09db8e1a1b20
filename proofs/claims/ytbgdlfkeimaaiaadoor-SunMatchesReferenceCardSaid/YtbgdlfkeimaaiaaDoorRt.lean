/- The reference's Height where it is refused; Lit and Dark. -/
import Derived.Test.YtbgdlfkeimaaiaaDoorRr
namespace Go.Proofs.YtbgdlfkeimaaiaaDoor
open Go.RowKit
set_option linter.unusedSimpArgs false
set_option linter.unusedVariables false
set_option maxRecDepth 100000 in
theorem rheight_no (x y t : Int) (h : isSun x y t = false) (w : World) :
    Calls Tryd.prog 19 #[CV x y, .int .i64 t] w fun e w' => e = .returned (.tuple #[.int .i64 0, .int .i64 60]) ∧ Below w.heap.size w w' := by
  obtain ⟨V, hV, hb, hz, hg⟩ := box_cell w x y
  have HB := Lib.hid hb
  have c0 := (row_cell hg 0).trans (show _ = some (.int .i64 (x : Int)) from rfl)
  have c1 := (row_cell hg 1).trans (show _ = some (.int .i64 (y : Int)) from rfl)
  clear hb hg hz
  by_cases hm : isMin t = true
  · have hv : onG x y = false := by unfold isSun at h; rw [hm] at h; simpa using h
    obtain ⟨s, rfl⟩ : ∃ s : Nat, t = s := ⟨t.toNat, by have := isMin_iff.1 hm; omega⟩
    have hs : s ≤ 1000000 := by have := isMin_iff.1 hm; omega
    have HS := Lib.hid hs
    clear h hm hs
    go_enter Tryd.func19, Tryd.ntmps19
    go_wp2_with (first
      | (go_at_call 15; (with_reducible refine (rnoon_yes s HS.out _).mono ?_); rintro e w' ⟨rfl, rfl⟩)
      | (go_at_call 17; (with_reducible refine (rseas_yes s HS.out _).mono ?_); rintro e w' ⟨rfl, rfl⟩))
    (with_reducible refine (rvalidCell_any _ _ _).mono ?_)
    rintro e w1 ⟨rfl, hb1⟩
    have HB1 := Lib.hid (HB.out.trans (hb1.mono HB.out.size))
    clear hb1 c0 c1 hV
    go_wp2
    go_ret2
    exact ⟨rfl, HB1.out⟩
  · have hm : isMin t = false := by simpa using hm
    have HM := Lib.hid hm
    clear h hm
    go_enter Tryd.func19, Tryd.ntmps19
    go_wp2_with (first
      | (go_at_call 15; (with_reducible refine (rnoon_no t HM.out _).mono ?_); rintro e w' ⟨rfl, rfl⟩)
      | (go_at_call 17; (with_reducible refine (rseas_no t HM.out _).mono ?_); rintro e w' ⟨rfl, rfl⟩))
    go_ret2
    exact ⟨rfl, HB.out⟩
set_option maxRecDepth 100000 in
theorem rlit_yes (x y t : Nat) (hx : x < 48) (hy : y < 24) (ht : t ≤ 1000000) (w : World) :
    Calls Tryd.prog 23 #[CV x y, iV t] w fun e w' => e = .returned (.bool (decide (0 < hgt x y t))) ∧ Below w.heap.size w w' := by
  obtain ⟨V, hV, hb, hz, hg⟩ := box_cell w x y
  have HB := Lib.hid hb
  have c0 := (row_cell hg 0).trans (show _ = some (.int .i64 (x : Int)) from rfl)
  have c1 := (row_cell hg 1).trans (show _ = some (.int .i64 (y : Int)) from rfl)
  clear hb hg hz
  obtain ⟨v, hv⟩ : ∃ v, (decide (0 < hgt x y t)) = v := ⟨_, rfl⟩
  rw [hv]
  go_enter Tryd.func23, Tryd.ntmps23
  go_wp2_with fail
  (with_reducible refine (rheight_yes x y t hx hy ht _).mono ?_)
  rintro e w1 ⟨rfl, hb1⟩
  have HB1 := Lib.hid (HB.out.trans (hb1.mono HB.out.size))
  clear hb1 c0 c1 hV
  go_wp2
  all_goals
    go_ret
    exact ⟨rfl, HB1.out⟩
set_option maxRecDepth 100000 in
theorem rlit_no (x y t : Int) (h : isSun x y t = false) (w : World) :
    Calls Tryd.prog 23 #[CV x y, .int .i64 t] w fun e w' => e = .returned (.bool false) ∧ Below w.heap.size w w' := by
  obtain ⟨V, hV, hb, hz, hg⟩ := box_cell w x y
  have HB := Lib.hid hb
  have c0 := (row_cell hg 0).trans (show _ = some (.int .i64 (x : Int)) from rfl)
  have c1 := (row_cell hg 1).trans (show _ = some (.int .i64 (y : Int)) from rfl)
  have hn := Lib.hid h
  clear hb hg hz h
  go_enter Tryd.func23, Tryd.ntmps23
  go_wp2_with fail
  (with_reducible refine (rheight_no x y t hn.out _).mono ?_)
  rintro e w1 ⟨rfl, hb1⟩
  have HB1 := Lib.hid (HB.out.trans (hb1.mono HB.out.size))
  clear hb1 c0 c1 hV
  go_wp2
  go_ret
  exact ⟨rfl, HB1.out⟩
theorem rlit_any (x y t : Int) (w : World) :
    Calls Tryd.prog 23 #[CV x y, .int .i64 t] w fun e w' => e = .returned (.bool (litZ x y t)) ∧ Below w.heap.size w w' := by
  by_cases h : isSun x y t = true
  · obtain ⟨a, b, s, ha, hb, hs, rfl, rfl, rfl⟩ := isSun_nat h
    refine (rlit_yes a b s ha hb hs w).mono ?_
    rintro e w' ⟨rfl, hw⟩
    exact ⟨ret_bool' (by unfold litZ; rw [h]; simp), hw⟩
  · have h : isSun x y t = false := by simpa using h
    refine (rlit_no x y t h w).mono ?_
    rintro e w' ⟨rfl, hw⟩
    exact ⟨ret_bool' (by unfold litZ; rw [h]; rfl), hw⟩
set_option maxRecDepth 100000 in
theorem rdark_yes (x y t : Nat) (hx : x < 48) (hy : y < 24) (ht : t ≤ 1000000) (w : World) :
    Calls Tryd.prog 25 #[CV x y, iV t] w fun e w' => e = .returned (.bool (decide (hgt x y t < -20))) ∧ Below w.heap.size w w' := by
  obtain ⟨V, hV, hb, hz, hg⟩ := box_cell w x y
  have HB := Lib.hid hb
  have c0 := (row_cell hg 0).trans (show _ = some (.int .i64 (x : Int)) from rfl)
  have c1 := (row_cell hg 1).trans (show _ = some (.int .i64 (y : Int)) from rfl)
  clear hb hg hz
  obtain ⟨v, hv⟩ : ∃ v, (decide (hgt x y t < -20)) = v := ⟨_, rfl⟩
  rw [hv]
  go_enter Tryd.func25, Tryd.ntmps25
  go_wp2_with fail
  (with_reducible refine (rheight_yes x y t hx hy ht _).mono ?_)
  rintro e w1 ⟨rfl, hb1⟩
  have HB1 := Lib.hid (HB.out.trans (hb1.mono HB.out.size))
  clear hb1 c0 c1 hV
  go_wp2
  all_goals
    go_ret
    exact ⟨rfl, HB1.out⟩
set_option maxRecDepth 100000 in
theorem rdark_no (x y t : Int) (h : isSun x y t = false) (w : World) :
    Calls Tryd.prog 25 #[CV x y, .int .i64 t] w fun e w' => e = .returned (.bool false) ∧ Below w.heap.size w w' := by
  obtain ⟨V, hV, hb, hz, hg⟩ := box_cell w x y
  have HB := Lib.hid hb
  have c0 := (row_cell hg 0).trans (show _ = some (.int .i64 (x : Int)) from rfl)
  have c1 := (row_cell hg 1).trans (show _ = some (.int .i64 (y : Int)) from rfl)
  have hn := Lib.hid h
  clear hb hg hz h
  go_enter Tryd.func25, Tryd.ntmps25
  go_wp2_with fail
  (with_reducible refine (rheight_no x y t hn.out _).mono ?_)
  rintro e w1 ⟨rfl, hb1⟩
  have HB1 := Lib.hid (HB.out.trans (hb1.mono HB.out.size))
  clear hb1 c0 c1 hV
  go_wp2
  go_ret
  exact ⟨rfl, HB1.out⟩
theorem rdark_any (x y t : Int) (w : World) :
    Calls Tryd.prog 25 #[CV x y, .int .i64 t] w fun e w' => e = .returned (.bool (darkZ x y t)) ∧ Below w.heap.size w w' := by
  by_cases h : isSun x y t = true
  · obtain ⟨a, b, s, ha, hb, hs, rfl, rfl, rfl⟩ := isSun_nat h
    refine (rdark_yes a b s ha hb hs w).mono ?_
    rintro e w' ⟨rfl, hw⟩
    exact ⟨ret_bool' (by unfold darkZ; rw [h]; simp), hw⟩
  · have h : isSun x y t = false := by simpa using h
    refine (rdark_no x y t h w).mono ?_
    rintro e w' ⟨rfl, hw⟩
    exact ⟨ret_bool' (by unfold darkZ; rw [h]; rfl), hw⟩
/-- What Noon, Season and Height answer, for whatever arguments. -/
def nooZ (t : Int) : Int := if isMin t = true then (noonN t.toNat : Nat) else 0
def seaZ (t : Int) : Int := if isMin t = true then (seasN t.toNat : Nat) else 0
def ermZ (t : Int) : Int := if isMin t = true then 0 else 60
def hghZ (x y t : Int) : Int := if isSun x y t = true then hgt x.toNat y.toNat t.toNat else 0
def erhZ (x y t : Int) : Int := if isSun x y t = true then 0 else 60
theorem noonS_any (t : Int) (w : World) : Calls Tryd.prog 14 #[.int .i64 t] w fun e w' => e = .returned (.tuple #[.int .i64 (nooZ t), .int .i64 (ermZ t)]) ∧ Below w.heap.size w w' := by
  by_cases h : isMin t = true
  · obtain ⟨s, rfl⟩ : ∃ s : Nat, t = s := ⟨t.toNat, by have := isMin_iff.1 h; omega⟩
    have e1 : ermZ s = 0 := if_pos h
    have e2 : nooZ s = _ := if_pos h
    rw [e1, e2]
    exact (noonS_yes s (by have := isMin_iff.1 h; omega) w).mono fun e w' ⟨he, hw⟩ => ⟨he, hw ▸ Below.refl _ _⟩
  · have e1 : ermZ t = 60 := if_neg h
    have e2 : nooZ t = 0 := if_neg h
    rw [e1, e2]
    exact (noonS_no t (by simpa using h) w).mono fun e w' ⟨he, hw⟩ => ⟨he, hw ▸ Below.refl _ _⟩
theorem rnoon_any (t : Int) (w : World) : Calls Tryd.prog 15 #[.int .i64 t] w fun e w' => e = .returned (.tuple #[.int .i64 (nooZ t), .int .i64 (ermZ t)]) ∧ Below w.heap.size w w' := by
  by_cases h : isMin t = true
  · obtain ⟨s, rfl⟩ : ∃ s : Nat, t = s := ⟨t.toNat, by have := isMin_iff.1 h; omega⟩
    have e1 : ermZ s = 0 := if_pos h
    have e2 : nooZ s = _ := if_pos h
    rw [e1, e2]
    exact (rnoon_yes s (by have := isMin_iff.1 h; omega) w).mono fun e w' ⟨he, hw⟩ => ⟨he, hw ▸ Below.refl _ _⟩
  · have e1 : ermZ t = 60 := if_neg h
    have e2 : nooZ t = 0 := if_neg h
    rw [e1, e2]
    exact (rnoon_no t (by simpa using h) w).mono fun e w' ⟨he, hw⟩ => ⟨he, hw ▸ Below.refl _ _⟩
theorem seasS_any (t : Int) (w : World) : Calls Tryd.prog 16 #[.int .i64 t] w fun e w' => e = .returned (.tuple #[.int .i64 (seaZ t), .int .i64 (ermZ t)]) ∧ Below w.heap.size w w' := by
  by_cases h : isMin t = true
  · obtain ⟨s, rfl⟩ : ∃ s : Nat, t = s := ⟨t.toNat, by have := isMin_iff.1 h; omega⟩
    have e1 : ermZ s = 0 := if_pos h
    have e2 : seaZ s = _ := if_pos h
    rw [e1, e2]
    exact (seasS_yes s (by have := isMin_iff.1 h; omega) w).mono fun e w' ⟨he, hw⟩ => ⟨he, hw ▸ Below.refl _ _⟩
  · have e1 : ermZ t = 60 := if_neg h
    have e2 : seaZ t = 0 := if_neg h
    rw [e1, e2]
    exact (seasS_no t (by simpa using h) w).mono fun e w' ⟨he, hw⟩ => ⟨he, hw ▸ Below.refl _ _⟩
theorem rseas_any (t : Int) (w : World) : Calls Tryd.prog 17 #[.int .i64 t] w fun e w' => e = .returned (.tuple #[.int .i64 (seaZ t), .int .i64 (ermZ t)]) ∧ Below w.heap.size w w' := by
  by_cases h : isMin t = true
  · obtain ⟨s, rfl⟩ : ∃ s : Nat, t = s := ⟨t.toNat, by have := isMin_iff.1 h; omega⟩
    have e1 : ermZ s = 0 := if_pos h
    have e2 : seaZ s = _ := if_pos h
    rw [e1, e2]
    exact (rseas_yes s (by have := isMin_iff.1 h; omega) w).mono fun e w' ⟨he, hw⟩ => ⟨he, hw ▸ Below.refl _ _⟩
  · have e1 : ermZ t = 60 := if_neg h
    have e2 : seaZ t = 0 := if_neg h
    rw [e1, e2]
    exact (rseas_no t (by simpa using h) w).mono fun e w' ⟨he, hw⟩ => ⟨he, hw ▸ Below.refl _ _⟩
theorem heightS_any (x y t : Int) (w : World) : Calls Tryd.prog 18 #[CV x y, .int .i64 t] w fun e w' => e = .returned (.tuple #[.int .i64 (hghZ x y t), .int .i64 (erhZ x y t)]) ∧ Below w.heap.size w w' := by
  by_cases h : isSun x y t = true
  · obtain ⟨a, b, s, ha, hb, hs, rfl, rfl, rfl⟩ := isSun_nat h
    have e1 : erhZ a b s = 0 := if_pos h
    have e2 : hghZ a b s = _ := if_pos h
    rw [e1, e2]
    exact heightS_yes a b s ha hb hs w
  · have e1 : erhZ x y t = 60 := if_neg h
    have e2 : hghZ x y t = 0 := if_neg h
    rw [e1, e2]
    exact heightS_no x y t (by simpa using h) w
theorem rheight_any (x y t : Int) (w : World) : Calls Tryd.prog 19 #[CV x y, .int .i64 t] w fun e w' => e = .returned (.tuple #[.int .i64 (hghZ x y t), .int .i64 (erhZ x y t)]) ∧ Below w.heap.size w w' := by
  by_cases h : isSun x y t = true
  · obtain ⟨a, b, s, ha, hb, hs, rfl, rfl, rfl⟩ := isSun_nat h
    have e1 : erhZ a b s = 0 := if_pos h
    have e2 : hghZ a b s = _ := if_pos h
    rw [e1, e2]
    exact rheight_yes a b s ha hb hs w
  · have e1 : erhZ x y t = 60 := if_neg h
    have e2 : hghZ x y t = 0 := if_neg h
    rw [e1, e2]
    exact rheight_no x y t (by simpa using h) w
end Go.Proofs.YtbgdlfkeimaaiaaDoor
