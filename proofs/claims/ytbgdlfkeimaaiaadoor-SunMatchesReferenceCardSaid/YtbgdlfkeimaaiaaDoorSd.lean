/- Lit and Dark, walked: what is lit is compared as an array. -/
import Derived.Test.YtbgdlfkeimaaiaaDoorSc
namespace Go.Proofs.YtbgdlfkeimaaiaaDoor
open Go.RowKit
set_option linter.unusedSimpArgs false
set_option linter.unusedVariables false
theorem below_dn {w : World} {B : Nat} (n : Nat) : Below B w (w.drewN n) := by
  induction n with
  | zero => exact Below.refl _ _
  | succ n ih => exact ih.trans (Below.refl _ _).drew
/-- Is it lit there, and is it dark? -/
def litZ (x y t : Int) : Bool := isSun x y t && decide (0 < hgt x.toNat y.toNat t.toNat)
def darkZ (x y t : Int) : Bool := isSun x y t && decide (hgt x.toNat y.toNat t.toNat < -20)
theorem size_bool (w : World) : (sizeOf 4).run Tryd.prog w = .ok 1 w := by
  have h : (Tryd.prog.info? 4).map (·.size) = some 1 := by kernel_rfl
  cases hq : Tryd.prog.info? 4 with
  | none => rw [hq] at h; cases h
  | some i =>
    rw [hq] at h
    have hz : i.size = 1 := by simpa using h
    simp [sizeOf, typeInfo, hq, hz, go_sem]
theorem run_eqL (a b c d : Bool) (w : World) : (Op.equalIn 10000 62 (.agg #[.bool a, .bool b]) (.agg #[.bool c, .bool d])).run Tryd.prog w = .ok ((a == c) && (b == d)) w := by
  rw [Op.equalIn]
  simp only [Sem.run_bind, run_underlying Tryd.underlying62, Result.andThen_ok, size_bool, Std.Legacy.Range.forIn_eq_forIn_range', Std.Legacy.Range.size, Nat.sub_zero, Nat.add_sub_cancel, Nat.div_one]
  rw [show List.range' 0 2 1 = [0, 1] from rfl]
  have p0 : ∀ (x y : Bool) (w : World), (part 4 #[.bool x, .bool y] (0 * 1)).run Tryd.prog w = .ok (.bool x) w := fun x y w => by
    simp [part, isAgg, run_underlying Tryd.underlying4]
  have p1 : ∀ (x y : Bool) (w : World), (part 4 #[.bool x, .bool y] (1 * 1)).run Tryd.prog w = .ok (.bool y) w := fun x y w => by
    simp [part, isAgg, run_underlying Tryd.underlying4]
  have e : ∀ (x y : Bool) (w : World), (Op.equalIn 9999 4 (.bool x) (.bool y)).run Tryd.prog w = .ok (x == y) w := fun x y w => run_equalIn_bool' w 9998 4 x y Tryd.underlying4
  simp only [List.forIn_cons, List.forIn_nil, Sem.run_bind, p0, p1, Result.andThen_ok, e]
  cases a <;> cases b <;> cases c <;> cases d <;> simp [Sem.run_bind, p0, p1, e, go_sem]
theorem run_eqDay (z : Int) (w : World) : (Op.equalIn 10000 62 (LV z) (.agg #[.bool true, .bool false])).run Tryd.prog w = .ok (decide (0 < z)) w := by
  rw [run_eqL]
  congr 1
  by_cases h : 0 < z <;> simp [h] <;> omega
theorem run_eqNight (z : Int) (w : World) : (Op.equalIn 10000 62 (LV z) (.agg #[.bool false, .bool true])).run Tryd.prog w = .ok (decide (z < -20)) w := by
  rw [run_eqL]
  congr 1
  by_cases h : z < -20 <;> simp [h] <;> omega
set_option maxRecDepth 100000 in
set_option maxHeartbeats 1000000 in
theorem litS_yes (x y t : Nat) (hx : x < 48) (hy : y < 24) (ht : t ≤ 1000000) (w : World) (hT : Tab w) :
    Calls Tryd.prog 22 #[CV x y, iV t] w fun e w' => e = .returned (.bool (decide (0 < hgt x y t))) ∧ Below w.heap.size w w' := by
  obtain ⟨V, hV, hb, hz, hg⟩ := box_cell w x y
  have HB := Lib.hid hb
  have HT := Lib.hid hT
  have c0 := (row_cell hg 0).trans (show _ = some (.int .i64 (x : Int)) from rfl)
  have c1 := (row_cell hg 1).trans (show _ = some (.int .i64 (y : Int)) from rfl)
  clear hb hg hz hT
  have HH := Lib.hid (hgt_le x y t)
  go_enter Tryd.func22, Tryd.ntmps22
  go_wp2_with fail
  (with_reducible refine (heightS_yes x y t hx hy ht _).mono ?_)
  rintro e w1 ⟨rfl, hb1⟩
  have HB1 := Lib.hid (HB.out.trans (hb1.mono HB.out.size))
  clear hb1 c0 c1 hV
  have hB : Below w1.heap.size w1 w1.drew := (Below.refl _ _).drew
  have K := Lib.hid (fun w' (h : Below w1.heap.size w1 w') => show w'.cell? ⟨0, 0, none⟩ = some (.bool true) ∧ w'.cell? ⟨0, 1, none⟩ = some (.bool false) from
    (HT.out.below (HB1.out.trans (h.mono HB1.out.size)) HT.out.1).2.2.1)
  have heq := run_eqDay (hgt x y t)
  go_wp2_with fail
  go_region_held3 (fun w' => w'.cell? ⟨0, 0, none⟩ = some (.bool true) ∧ w'.cell? ⟨0, 1, none⟩ = some (.bool false))
    (first
      | exact K.out _ hB
      | go_keep)
    ((go_at_call 43; (with_reducible refine (light_any _ _).mono ?_); rintro e wi ⟨rfl, hb⟩; replace hB := hB.trans (hb.mono hB.size)))
  all_goals
    go_wp2
    go_ret
    exact ⟨rfl, HB1.out.trans (hB.mono HB1.out.size)⟩
set_option maxRecDepth 100000 in
theorem litS_no (x y t : Int) (h : isSun x y t = false) (w : World) :
    Calls Tryd.prog 22 #[CV x y, .int .i64 t] w fun e w' => e = .returned (.bool false) ∧ Below w.heap.size w w' := by
  obtain ⟨V, hV, hb, hz, hg⟩ := box_cell w x y
  have HB := Lib.hid hb
  have c0 := (row_cell hg 0).trans (show _ = some (.int .i64 (x : Int)) from rfl)
  have c1 := (row_cell hg 1).trans (show _ = some (.int .i64 (y : Int)) from rfl)
  have hn := Lib.hid h
  clear hb hg hz h
  go_enter Tryd.func22, Tryd.ntmps22
  go_wp2_with fail
  (with_reducible refine (heightS_no x y t hn.out _).mono ?_)
  rintro e w1 ⟨rfl, hb1⟩
  have HB1 := Lib.hid (HB.out.trans (hb1.mono HB.out.size))
  clear hb1 c0 c1 hV
  go_wp2_with fail
  go_quiet (fail)
  go_wp2
  go_ret
  exact ⟨rfl, HB1.out.trans (below_dn nq)⟩
theorem litS_any (x y t : Int) (w : World) (hT : Tab w) :
    Calls Tryd.prog 22 #[CV x y, .int .i64 t] w fun e w' => e = .returned (.bool (litZ x y t)) ∧ Below w.heap.size w w' := by
  by_cases h : isSun x y t = true
  · obtain ⟨a, b, s, ha, hb, hs, rfl, rfl, rfl⟩ := isSun_nat h
    refine (litS_yes a b s ha hb hs w hT).mono ?_
    rintro e w' ⟨rfl, hw⟩
    exact ⟨ret_bool' (by unfold litZ; rw [h]; simp), hw⟩
  · have h : isSun x y t = false := by simpa using h
    refine (litS_no x y t h w).mono ?_
    rintro e w' ⟨rfl, hw⟩
    exact ⟨ret_bool' (by unfold litZ; rw [h]; rfl), hw⟩
set_option maxRecDepth 100000 in
set_option maxHeartbeats 1000000 in
theorem darkS_yes (x y t : Nat) (hx : x < 48) (hy : y < 24) (ht : t ≤ 1000000) (w : World) (hT : Tab w) :
    Calls Tryd.prog 24 #[CV x y, iV t] w fun e w' => e = .returned (.bool (decide (hgt x y t < -20))) ∧ Below w.heap.size w w' := by
  obtain ⟨V, hV, hb, hz, hg⟩ := box_cell w x y
  have HB := Lib.hid hb
  have HT := Lib.hid hT
  have c0 := (row_cell hg 0).trans (show _ = some (.int .i64 (x : Int)) from rfl)
  have c1 := (row_cell hg 1).trans (show _ = some (.int .i64 (y : Int)) from rfl)
  clear hb hg hz hT
  have HH := Lib.hid (hgt_le x y t)
  go_enter Tryd.func24, Tryd.ntmps24
  go_wp2_with fail
  (with_reducible refine (heightS_yes x y t hx hy ht _).mono ?_)
  rintro e w1 ⟨rfl, hb1⟩
  have HB1 := Lib.hid (HB.out.trans (hb1.mono HB.out.size))
  clear hb1 c0 c1 hV
  have hB : Below w1.heap.size w1 w1.drew := (Below.refl _ _).drew
  have K := Lib.hid (fun w' (h : Below w1.heap.size w1 w') => show w'.cell? ⟨1, 0, none⟩ = some (.bool false) ∧ w'.cell? ⟨1, 1, none⟩ = some (.bool true) from
    (HT.out.below (HB1.out.trans (h.mono HB1.out.size)) HT.out.1).2.2.2)
  have heq := run_eqNight (hgt x y t)
  go_wp2_with fail
  go_region_held3 (fun w' => w'.cell? ⟨1, 0, none⟩ = some (.bool false) ∧ w'.cell? ⟨1, 1, none⟩ = some (.bool true))
    (first
      | exact K.out _ hB
      | go_keep)
    ((go_at_call 43; (with_reducible refine (light_any _ _).mono ?_); rintro e wi ⟨rfl, hb⟩; replace hB := hB.trans (hb.mono hB.size)))
  all_goals
    go_wp2
    go_ret
    exact ⟨rfl, HB1.out.trans (hB.mono HB1.out.size)⟩
set_option maxRecDepth 100000 in
theorem darkS_no (x y t : Int) (h : isSun x y t = false) (w : World) :
    Calls Tryd.prog 24 #[CV x y, .int .i64 t] w fun e w' => e = .returned (.bool false) ∧ Below w.heap.size w w' := by
  obtain ⟨V, hV, hb, hz, hg⟩ := box_cell w x y
  have HB := Lib.hid hb
  have c0 := (row_cell hg 0).trans (show _ = some (.int .i64 (x : Int)) from rfl)
  have c1 := (row_cell hg 1).trans (show _ = some (.int .i64 (y : Int)) from rfl)
  have hn := Lib.hid h
  clear hb hg hz h
  go_enter Tryd.func24, Tryd.ntmps24
  go_wp2_with fail
  (with_reducible refine (heightS_no x y t hn.out _).mono ?_)
  rintro e w1 ⟨rfl, hb1⟩
  have HB1 := Lib.hid (HB.out.trans (hb1.mono HB.out.size))
  clear hb1 c0 c1 hV
  go_wp2_with fail
  go_quiet (fail)
  go_wp2
  go_ret
  exact ⟨rfl, HB1.out.trans (below_dn nq)⟩
theorem darkS_any (x y t : Int) (w : World) (hT : Tab w) :
    Calls Tryd.prog 24 #[CV x y, .int .i64 t] w fun e w' => e = .returned (.bool (darkZ x y t)) ∧ Below w.heap.size w w' := by
  by_cases h : isSun x y t = true
  · obtain ⟨a, b, s, ha, hb, hs, rfl, rfl, rfl⟩ := isSun_nat h
    refine (darkS_yes a b s ha hb hs w hT).mono ?_
    rintro e w' ⟨rfl, hw⟩
    exact ⟨ret_bool' (by unfold darkZ; rw [h]; simp), hw⟩
  · have h : isSun x y t = false := by simpa using h
    refine (darkS_no x y t h w).mono ?_
    rintro e w' ⟨rfl, hw⟩
    exact ⟨ret_bool' (by unfold darkZ; rw [h]; rfl), hw⟩
end Go.Proofs.YtbgdlfkeimaaiaaDoor
