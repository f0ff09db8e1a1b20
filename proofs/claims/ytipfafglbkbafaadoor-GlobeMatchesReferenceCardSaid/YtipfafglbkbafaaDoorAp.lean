/- Shifted, Grown, With, Empty, Valid. -/
import Derived.Test.YtipfafglbkbafaaDoorCo
namespace Go.Proofs.YtipfafglbkbafaaDoor
open Go.RowKit Go.Shelf
set_option linter.unusedVariables false
set_option linter.unusedSimpArgs false

theorem box_arg (w : World) (al : Option Addr) (n c : Nat) (cs : Array Value) (t : TypeId) : ∃ W, ((w.alloc (.cells #[.slice al n c] 25)).alloc (.cells cs t)).alloc (.cells #[.slice none 0 0] 25) = W ∧ Below w.heap.size w W ∧ W.heap.size = w.heap.size + 3 ∧
    W.cell? ⟨w.heap.size, 0, none⟩ = some (.slice al n c) ∧ W.heap[w.heap.size + 1]? = some (.cells cs t (0, 0)) ∧ W.cell? ⟨w.heap.size + 2, 0, none⟩ = some (.slice none 0 0) ∧ W.frozen? ⟨w.heap.size + 2, 0, none⟩ = false := by
  refine ⟨_, rfl, (((Below.refl _ _).alloc (Nat.le_refl _) _).alloc (by simp) _).alloc (by simp <;> omega) _, by simp, ?_, ?_, ?_, ?_⟩
  · rw [cell_of_row _ _ 0 #[.slice al n c] 25 (0, 0) (by rw [heap_old' _ _ _ (by simp <;> omega), heap_old' _ _ _ (by simp), heap_new' _ _ _ rfl])]; rfl
  · rw [heap_old' _ _ _ (by simp), heap_new' _ _ _ (by simp)]
  · rw [cell_of_row _ _ 0 #[.slice none 0 0] 25 (0, 0) (by rw [heap_new' _ _ _ (by simp)])]; rfl
  · exact frozen_of_row _ _ 0 #[.slice none 0 0] 25 (by rw [heap_new' _ _ _ (by simp)])
def k48 (c : Int) : Nat := (c % 48).toNat
theorem k48_lt (c : Int) : k48 c < 48 := by unfold k48; omega
theorem k48_eq (c : Int) : c % 48 = (k48 c : Int) := by unfold k48; omega
theorem change_shifted (al : Option Addr) (n c : Nat) (zs : List Int) (oa : Option Ar) (hO : Is zs oa) (W : World) (h : Sl W al n zs) (B : Nat) (z : Int) (hB : B < W.heap.size) (hc : W.cell? ⟨B, 0, none⟩ = some (.int .i64 z)) :
    Calls Tryd.prog 57 #[.agg #[.slice al n c], .func (.func 59) #[] #[.pointer (some ⟨B, 0, none⟩)]] W (OutA W (oa.map (fun f => turn f (k48 z)))) := by
  cases oa with
  | none => exact change_no al n c zs W h hO _
  | some f =>
    obtain rfl : zs = rz f := hO
    exact change_yes al n c f (turn f (k48 z)) W h 59 #[.pointer (some ⟨B, 0, none⟩)] (enters_of Tryd.func59 (by kernel_rfl) rfl)
      (fun W' h' => shiftedC_any f B z (k48 z) (k48_lt z) (k48_eq z) W' (Nat.lt_of_lt_of_le hB h'.size) ((h'.cell (p := ⟨B, 0, none⟩) hB).trans hc))
theorem change_grown (al : Option Addr) (n c : Nat) (zs : List Int) (oa : Option Ar) (hO : Is zs oa) (W : World) (h : Sl W al n zs) (B d : Nat) (hd : d ≤ 24) (hB : B < W.heap.size) (hc : W.cell? ⟨B, 0, none⟩ = some (.int .i64 d)) :
    Calls Tryd.prog 57 #[.agg #[.slice al n c], .func (.func 61) #[] #[.pointer (some ⟨B, 0, none⟩)]] W (OutA W (oa.map (fun f => grown f d))) := by
  cases oa with
  | none => exact change_no al n c zs W h hO _
  | some f =>
    obtain rfl : zs = rz f := hO
    exact change_yes al n c f (grown f d) W h 61 #[.pointer (some ⟨B, 0, none⟩)] (enters_of Tryd.func61 (by kernel_rfl) rfl)
      (fun W' h' => grownC_any f B d hd W' (Nat.lt_of_lt_of_le hB h'.size) ((h'.cell (p := ⟨B, 0, none⟩) hB).trans hc))
theorem change_with (al : Option Addr) (n c : Nat) (zs : List Int) (oa : Option Ar) (hO : Is zs oa) (W : World) (h : Sl W al n zs) (B x y : Nat) (hx : x < 48) (hy : y < 24) (hB : B < W.heap.size) (hc0 : W.cell? ⟨B, 0, none⟩ = some (.int .i64 x)) (hc1 : W.cell? ⟨B, 1, none⟩ = some (.int .i64 y)) :
    Calls Tryd.prog 57 #[.agg #[.slice al n c], .func (.func 58) #[] #[.pointer (some ⟨B, 0, none⟩)]] W (OutA W (oa.map (fun f => putA f x y))) := by
  cases oa with
  | none => exact change_no al n c zs W h hO _
  | some f =>
    obtain rfl : zs = rz f := hO
    exact change_yes al n c f (putA f x y) W h 58 #[.pointer (some ⟨B, 0, none⟩)] (enters_of Tryd.func58 (by kernel_rfl) rfl)
      (fun W' h' => withC_any f B x y hx hy W' (Nat.lt_of_lt_of_le hB h'.size) ((h'.cell (p := ⟨B, 0, none⟩) hB).trans hc0) ((h'.cell (p := ⟨B, 1, none⟩) hB).trans hc1))
theorem row_cell {w : World} {g : Nat} {cs : Array Value} {t : TypeId} (h : w.heap[g]? = some (.cells cs t (0, 0))) (i : Nat) : w.cell? ⟨g, i, none⟩ = cs[i]? := cell_of_row w g i cs t (0, 0) h
set_option maxHeartbeats 1000000 in
theorem shiftedF_any (al : Option Addr) (n c : Nat) (zs : List Int) (oa : Option Ar) (hO : Is zs oa) (z : Int) (w : World) (h : Sl w al n zs) :
    Calls Tryd.prog 33 #[.agg #[.slice al n c], .int .i64 z] w (OutA w (oa.map (fun f => turn f (k48 z)))) := by
  obtain ⟨W, hW, hb, hz, h0, h1, h2, hf⟩ := box_arg w al n c #[.int .i64 z] 3
  have HB := Lib.hid hb
  have HZ := Lib.hid hz
  have CX := Lib.hid (change_shifted al n c zs oa hO W (h.below (Nat.le_refl _) hb) (w.heap.size + 1) z (by omega) ((row_cell h1 0).trans rfl))
  clear hb hz h hO h1
  go_enter Tryd.func33, Tryd.ntmps33
  go_wp2_with (go_at_call 57; (with_reducible refine CX.out.mono ?_); rintro e w3 ⟨rl, rn, rc, rfl, hs, hfr, hb3⟩; have d3 := (hb3.cell (p := ⟨w.heap.size + 2, 0, none⟩) (by have := HZ.out; show w.heap.size + 2 < W.heap.size; omega)).trans h2; have g3 := (hb3.frozen (p := ⟨w.heap.size + 2, 0, none⟩) (by have := HZ.out; show w.heap.size + 2 < W.heap.size; omega)).trans hf; have HS := Lib.hid (And.intro hs (And.intro hfr hb3)); clear hs hfr hb3 h0 h2 hf hW)
  exact bodyPost_ret (v := .tuple #[.agg #[.slice rl rn rc], .int .i64 (er (oa.map (fun f => turn f (k48 z))))]) (by simp [results, Tryd.results33, go_sem, d3]) rfl
    (OutA.put HS.out.1 HS.out.2.1 HB.out HS.out.2.2 (by omega) (by have := HZ.out; omega))
/-- What Grown answers. -/
def grownO (oa : Option Ar) (z : Int) : Option Ar := if 0 ≤ z ∧ z ≤ 24 then oa.map (fun f => grown f z.toNat) else none
set_option maxHeartbeats 1000000 in
theorem grownF_any (al : Option Addr) (n c : Nat) (zs : List Int) (oa : Option Ar) (hO : Is zs oa) (z : Int) (w : World) (h : Sl w al n zs) :
    Calls Tryd.prog 35 #[.agg #[.slice al n c], .int .i64 z] w (OutA w (grownO oa z)) := by
  obtain ⟨W, hW, hb, hz, h0, h1, h2, hf⟩ := box_arg w al n c #[.int .i64 z] 3
  have HB := Lib.hid hb
  have HZ := Lib.hid hz
  have hk := (row_cell h1 0).trans (show _ = some (.int .i64 z) from rfl)
  by_cases hz0 : 0 ≤ z ∧ z ≤ 24
  · obtain ⟨d, rfl⟩ := Int.eq_ofNat_of_zero_le hz0.1
    have CX := Lib.hid (change_grown al n c zs oa hO W (h.below (Nat.le_refl _) hb) (w.heap.size + 1) d (by omega) (by omega) hk)
    have HG := Lib.hid (show grownO oa (d : Int) = oa.map (fun f => grown f d) from by unfold grownO; rw [if_pos hz0]; rfl)
    obtain ⟨z1, z2⟩ := hz0
    clear hb hz h hO h1
    rw [HG.out]
    go_enter Tryd.func35, Tryd.ntmps35
    go_wp2_with (go_at_call 57; (with_reducible refine CX.out.mono ?_); rintro e w3 ⟨rl, rn, rc, rfl, hs, hfr, hb3⟩; have d3 := (hb3.cell (p := ⟨w.heap.size + 2, 0, none⟩) (by have := HZ.out; show w.heap.size + 2 < W.heap.size; omega)).trans h2; have g3 := (hb3.frozen (p := ⟨w.heap.size + 2, 0, none⟩) (by have := HZ.out; show w.heap.size + 2 < W.heap.size; omega)).trans hf; have HS := Lib.hid (And.intro hs (And.intro hfr hb3)); clear hs hfr hb3 h0 h2 hf hW hk)
    exact bodyPost_ret (v := .tuple #[.agg #[.slice rl rn rc], .int .i64 (er (oa.map (fun f => grown f d)))]) (by simp [results, Tryd.results35, go_sem, d3]) rfl
      (OutA.put HS.out.1 HS.out.2.1 HB.out HS.out.2.2 (by omega) (by have := HZ.out; omega))
  · have HG := Lib.hid (show grownO oa z = none from by unfold grownO; rw [if_neg hz0])
    rw [HG.out]
    have hz1 : z < 0 ∨ 24 < z := by omega
    clear hb hz h hO h1 hz0
    rcases hz1 with hz1 | hz1
    · go_enter Tryd.func35, Tryd.ntmps35
      go_wp2
      exact bodyPost_ret (v := .tuple #[.agg #[.slice none 0 0], .int .i64 50]) (by simp [results, Tryd.results35, go_sem, h2]) rfl ⟨none, 0, 0, rfl, Sl.nil _, fun b q h => (by cases h), HB.out.setCell (by show _ ≤ w.heap.size + 2; omega) _⟩
    · have hz2 : 0 ≤ z := by omega
      go_enter Tryd.func35, Tryd.ntmps35
      go_wp2
      exact bodyPost_ret (v := .tuple #[.agg #[.slice none 0 0], .int .i64 50]) (by simp [results, Tryd.results35, go_sem, h2]) rfl ⟨none, 0, 0, rfl, Sl.nil _, fun b q h => (by cases h), HB.out.setCell (by show _ ≤ w.heap.size + 2; omega) _⟩
/-- What With answers. -/
def withO (oa : Option Ar) (x y : Int) : Option Ar := if onG x y = true then oa.map (fun f => putA f x.toNat y.toNat) else none
theorem onG_iff {x y : Int} : onG x y = true ↔ 0 ≤ x ∧ x < 48 ∧ 0 ≤ y ∧ y < 24 := by unfold onG; rw [decide_eq_true_eq]
set_option maxHeartbeats 1000000 in
theorem withF_any (al : Option Addr) (n c : Nat) (zs : List Int) (oa : Option Ar) (hO : Is zs oa) (x y : Int) (w : World) (h : Sl w al n zs) :
    Calls Tryd.prog 29 #[.agg #[.slice al n c], CV x y] w (OutA w (withO oa x y)) := by
  obtain ⟨W, hW, hb, hz, h0, h1, h2, hf⟩ := box_arg w al n c #[.int .i64 x, .int .i64 y] 27
  have HB := Lib.hid hb
  have HZ := Lib.hid hz
  have hk := (row_cell h1 0).trans (show _ = some (.int .i64 x) from rfl)
  have hl := (row_cell h1 1).trans (show _ = some (.int .i64 y) from rfl)
  have CV' := Lib.hid (validCell_any x y W)
  by_cases hz0 : onG x y = true
  · have hxy := onG_iff.1 hz0
    obtain ⟨x', rfl⟩ := Int.eq_ofNat_of_zero_le hxy.1
    obtain ⟨y', rfl⟩ := Int.eq_ofNat_of_zero_le hxy.2.2.1
    have CX := Lib.hid (fun W' (hb' : Below W.heap.size W W') => change_with al n c zs oa hO W' (h.below (Nat.le_refl _) (hb.trans (hb'.mono hb.size))) (w.heap.size + 1) x' y' (by omega) (by omega) (Nat.lt_of_lt_of_le (by omega) hb'.size)
      ((hb'.cell (p := ⟨w.heap.size + 1, 0, none⟩) (by show w.heap.size + 1 < W.heap.size; omega)).trans hk) ((hb'.cell (p := ⟨w.heap.size + 1, 1, none⟩) (by show w.heap.size + 1 < W.heap.size; omega)).trans hl))
    have HG := Lib.hid (show withO oa (x' : Int) (y' : Int) = oa.map (fun f => putA f x' y') from by unfold withO; rw [if_pos hz0]; rfl)
    rw [hz0] at CV'
    have HH := Lib.hid (And.intro h2 (And.intro hf h0))
    clear hb hz h hO h1 hz0 h2 hf
    rw [HG.out]
    go_enter Tryd.func29, Tryd.ntmps29
    go_wp2_with fail
    (with_reducible refine CV'.out.mono ?_)
    rintro e w1 ⟨rfl, hb1⟩
    have k0 := (hb1.cell (p := ⟨w.heap.size, 0, none⟩) (by have := HZ.out; show w.heap.size < W.heap.size; omega)).trans HH.out.2.2
    have d1 := Lib.hid ((hb1.cell (p := ⟨w.heap.size + 2, 0, none⟩) (by have := HZ.out; show w.heap.size + 2 < W.heap.size; omega)).trans HH.out.1)
    have g1 := Lib.hid ((hb1.frozen (p := ⟨w.heap.size + 2, 0, none⟩) (by have := HZ.out; show w.heap.size + 2 < W.heap.size; omega)).trans HH.out.2.1)
    have CY := Lib.hid (CX.out w1 hb1)
    have HB1 := Lib.hid (HB.out.trans (hb1.mono HB.out.size))
    have HZ1 := Lib.hid (show w.heap.size + 3 ≤ w1.heap.size from by have := hb1.size; have := HZ.out; omega)
    clear hb1 CX h0 hk hl hW
    go_wp2_with (go_at_call 57; (with_reducible refine CY.out.mono ?_); rintro e w3 ⟨rl, rn, rc, rfl, hs, hfr, hb3⟩; have d3 := (hb3.cell (p := ⟨w.heap.size + 2, 0, none⟩) (by have := HZ1.out; show w.heap.size + 2 < w1.heap.size; omega)).trans d1.out; have g3 := (hb3.frozen (p := ⟨w.heap.size + 2, 0, none⟩) (by have := HZ1.out; show w.heap.size + 2 < w1.heap.size; omega)).trans g1.out; have HS := Lib.hid (And.intro hs (And.intro hfr hb3)); clear hs hfr hb3 k0)
    exact bodyPost_ret (v := .tuple #[.agg #[.slice rl rn rc], .int .i64 (er (oa.map (fun f => putA f x' y')))]) (by simp [results, Tryd.results29, go_sem, d3]) rfl
      (OutA.put HS.out.1 HS.out.2.1 HB1.out HS.out.2.2 (by omega) (by have := HZ1.out; omega))
  · have HG := Lib.hid (show withO oa x y = none from by unfold withO; rw [if_neg hz0])
    rw [HG.out]
    have hz1 : onG x y = false := by simpa using hz0
    rw [hz1] at CV'
    have HH := Lib.hid (And.intro h2 hf)
    clear hb hz h hO h1 hz0 h2 hf
    go_enter Tryd.func29, Tryd.ntmps29
    go_wp2_with fail
    (with_reducible refine CV'.out.mono ?_)
    rintro e w1 ⟨rfl, hb1⟩
    have d1 := (hb1.cell (p := ⟨w.heap.size + 2, 0, none⟩) (by have := HZ.out; show w.heap.size + 2 < W.heap.size; omega)).trans HH.out.1
    have g1 := (hb1.frozen (p := ⟨w.heap.size + 2, 0, none⟩) (by have := HZ.out; show w.heap.size + 2 < W.heap.size; omega)).trans HH.out.2
    have HB1 := Lib.hid (HB.out.trans (hb1.mono HB.out.size))
    clear hb1 h0 hk hl hW hz1
    go_wp2
    exact bodyPost_ret (v := .tuple #[.agg #[.slice none 0 0], .int .i64 50]) (by simp [results, Tryd.results29, go_sem, d1]) rfl ⟨none, 0, 0, rfl, Sl.nil _, fun b q h => (by cases h), HB1.out.setCell (by show _ ≤ w.heap.size + 2; omega) _⟩
end Go.Proofs.YtipfafglbkbafaaDoor
