/- Empty, Valid, Count, Near, Same. -/
import Derived.Test.YtipfafglbkbafaaDoorAp
import Derived.Test.YtipfafglbkbafaaDoorBi
namespace Go.Proofs.YtipfafglbkbafaaDoor
open Go.RowKit Go.Shelf
set_option linter.unusedVariables false
set_option linter.unusedSimpArgs false

theorem cell_new1 (w : World) (v : Value) (t : TypeId) : (w.alloc (.cells #[v] t)).cell? ⟨w.heap.size, 0, none⟩ = some v := by
  rw [cell_of_row _ _ 0 #[v] t (0, 0) (heap_new' _ _ _ rfl)]; rfl
theorem froz_new1 (w : World) (cs : Array Value) (t : TypeId) (i : Nat) : (w.alloc (.cells cs t)).frozen? ⟨w.heap.size, i, none⟩ = false := frozen_of_row _ _ i cs t (heap_new' _ _ _ rfl)
set_option maxRecDepth 100000 in
set_option maxHeartbeats 1000000 in
theorem empty_any (w : World) :
    Calls Tryd.prog 46 #[] w fun e w' => ∃ g, e = .returned (.agg #[.slice (some ⟨g, 0, none⟩) 24 24]) ∧ w.heap.size ≤ g ∧ HasF w' g 62 nul ∧ Below w.heap.size w w' := by
  obtain ⟨W, hW⟩ : ∃ W, w.alloc (.cells #[.slice none 0 0] 25) = W := ⟨_, rfl⟩
  have hb : Below w.heap.size w W := by rw [← hW]; exact (Below.refl _ _).alloc (Nat.le_refl _) _
  have h0 : W.cell? ⟨w.heap.size, 0, none⟩ = some (.slice none 0 0) := by rw [← hW]; exact cell_new1 _ _ _
  have hf : W.frozen? ⟨w.heap.size, 0, none⟩ = false := by rw [← hW]; exact froz_new1 _ _ _ _
  have hz : w.heap.size < W.heap.size := by rw [← hW]; simp
  have HB := Lib.hid hb; have HZ := Lib.hid hz
  have CW := Lib.hid (write_any nul W)
  simp only [FV_eq, FC_nul] at CW
  clear hb hz
  go_enter Tryd.func46, Tryd.ntmps46
  go_wp2_with (go_at_call 52; (with_reducible refine CW.out.mono ?_); rintro e w1 ⟨g, rfl, hge, hG, hb1⟩; have d0 := (hb1.cell (p := ⟨w.heap.size, 0, none⟩) HZ.out).trans h0; have df := (hb1.frozen (p := ⟨w.heap.size, 0, none⟩) HZ.out).trans hf; have HS := Lib.hid (And.intro hge (And.intro hG hb1)); clear hge hG hb1 h0 hf hW)
  exact bodyPost_ret (v := .agg #[.slice (some ⟨g, 0, none⟩) 24 24]) (by simp [results, Tryd.results46, go_sem, d0]) rfl
    ⟨g, rfl, by have := HS.out.1; have := HZ.out; omega, HS.out.2.1.other (by have := HS.out.1; have := HZ.out; omega), (HB.out.trans (HS.out.2.2.mono HB.out.size)).setCell (Nat.le_refl _) _⟩

theorem box_one_area (w : World) (al : Option Addr) (n c : Nat) : ∃ W, w.alloc (.cells #[.slice al n c] 25) = W ∧ Below w.heap.size w W ∧ w.heap.size < W.heap.size ∧ W.cell? ⟨w.heap.size, 0, none⟩ = some (.slice al n c) :=
  ⟨_, rfl, (Below.refl _ _).alloc (Nat.le_refl _) _, by simp, cell_new1 _ _ _⟩
set_option maxRecDepth 100000 in
set_option maxHeartbeats 1000000 in
theorem valid_any (al : Option Addr) (n c : Nat) (zs : List Int) (o : Option Ar) (hO : Is zs o) (w : World) (h : Sl w al n zs) :
    Calls Tryd.prog 22 #[.agg #[.slice al n c]] w fun e w' => e = .returned (.bool o.isSome) ∧ Below w.heap.size w w' := by
  obtain ⟨W, hW, hb, hz, h0⟩ := box_one_area w al n c
  have HB := Lib.hid hb
  have CR := Lib.hid (read_any al n c zs o W (h.below (Nat.le_refl _) hb) hO)
  simp only [FV_eq] at CR
  clear hb hz h hO
  go_enter Tryd.func22, Tryd.ntmps22
  go_wp2_with fail
  (with_reducible refine CR.out.mono ?_)
  rintro e w1 ⟨rfl, hb1⟩
  obtain ⟨V, hV, hbV, hq, hz1⟩ := one_box w1
  rw [FC_nul] at hV
  have HQ := Lib.hid hq
  have HB1 := Lib.hid (below_setRow (HB.out.trans ((hb1.trans (hbV.mono hb1.size)).mono HB.out.size)) (show w.heap.size ≤ w1.heap.size by have := HB.out.size; have := hb1.size; omega) (FC (of o)))
  clear hb1 hbV hq hz1 h0 hW
  go_wp2_with (refine wpList_store_row rfl 62 _ _ rfl w1.heap.size (FC (of o)) rfl rfl 62 (FC nul) HQ.out (infoFC _) (by rw [FC_size, FC_size]) (FC_one _) ?_)
  go_ret
  exact ⟨rfl, HB1.out⟩

theorem run_index62 (f : Ar) (i : Nat) (hi : i < 24) (w : World) : (Instr.index 62 (.agg (FC f)) (.int .i64 i)).run Tryd.prog w = .ok (iV (rowOf f i)) w := by
  have h1 := FC_at f hi
  simp [Instr.index, asIntOf, run_underlying Tryd.underlying62, part, hi, h1, go_sem]
theorem cnt_row (f : Ar) (y : Nat) : cntTo (fun k => (rowOf f y).testBit k) 48 = cntTo (fun x => f x y) 48 := cnt_congr (fun x hx => by
  rw [rowOf, bitsTo_bit]; simp [hx])
theorem sum_le (g : Nat → Nat) (c : Nat) (h : ∀ y, g y ≤ c) : ∀ n, sumTo g n ≤ n * c
  | 0 => by simp [sumTo]
  | n + 1 => by
    have := sum_le g c h n
    have := h n
    show g n + sumTo g n ≤ _
    rw [Nat.succ_mul]; omega
set_option maxRecDepth 100000 in
set_option maxHeartbeats 1000000 in
theorem count_any (al : Option Addr) (n c : Nat) (zs : List Int) (o : Option Ar) (hO : Is zs o) (w : World) (h : Sl w al n zs) :
    Calls Tryd.prog 24 #[.agg #[.slice al n c]] w fun e w' => e = .returned (.int .i64 (count (of o) : Nat)) ∧ Below w.heap.size w w' := by
  obtain ⟨W, hW, hb, hz, h0⟩ := box_one_area w al n c
  have HB := Lib.hid hb
  have CR := Lib.hid (read_any al n c zs o W (h.below (Nat.le_refl _) hb) hO)
  simp only [FV_eq] at CR
  clear hb hz h hO
  generalize hf : of o = f at *
  clear hf
  go_enter Tryd.func24, Tryd.ntmps24
  go_wp2_with fail
  (with_reducible refine CR.out.mono ?_)
  rintro e w1 ⟨rfl, hb1⟩
  obtain ⟨V, hV, hbV, hq, hz1⟩ := one_box w1
  rw [FC_nul] at hV
  have HQ := Lib.hid hq
  obtain ⟨V2, hV2⟩ : ∃ V2, V.setRow w1.heap.size (FC f) = V2 := ⟨_, rfl⟩
  have HQ2 := Lib.hid (show HasF V2 w1.heap.size 62 f from by rw [← hV2]; exact HQ.out.store f)
  have HB1 := Lib.hid (show Below w.heap.size w V2 from by rw [← hV2]; exact below_setRow (HB.out.trans ((hb1.trans (hbV.mono hb1.size)).mono HB.out.size)) (show w.heap.size ≤ w1.heap.size by have := HB.out.size; have := hb1.size; omega) (FC f))
  have H2 := Lib.hid hV2
  clear hb1 hbV hq hz1 h0 hW hV2
  go_wp2_with (first
    | (refine wpList_store_row rfl 62 _ _ rfl w1.heap.size (FC f) rfl rfl 62 (FC nul) HQ.out (infoFC _) (by rw [FC_size, FC_size]) (FC_one _) ?_; rw [H2.out])
    | (refine wpList_load_row rfl 62 _ rfl w1.heap.size rfl 62 (FC f) (0, 0) _ HQ2.out Tryd.underlying62 rfl (infoFC _) ?_))
  clear hV
  go_loop [5, 14] (fun cv iv => ∃ i : Nat, i ≤ 24 ∧ iv = .int .i64 i ∧ cv = .int .i64 (sumTo (fun y => cntTo (fun x => f x y) 48) i : Nat)) (fun _ iv => 24 - (intOf iv).toNat)
  case atStart => exact ⟨0, by omega, rfl, rfl⟩
  case round =>
    obtain ⟨i, hi, rfl, rfl⟩ := hrel
    have hi0 : (0 : Int) ≤ i := by omega
    have hs := sum_le (fun y => cntTo (fun x => f x y) 48) 48 (fun y => cnt_le _ 48) i
    by_cases hlt : i < 24
    · have hi1 : (i : Int) < 24 := by omega
      have hx := run_index62 f i hlt
      have HS := Lib.hid (show sumTo (fun y => cntTo (fun x => f x y) 48) (i + 1) = cntTo (fun x => f x i) 48 + sumTo (fun y => cntTo (fun x => f x y) 48) i from rfl)
      have hr := row_lt f i
      have hc := cnt_le (fun x => f x i) 48
      have C := Lib.hid (fun W' => ones_any (rowOf f i) (row_lt f i) W')
      rw [cnt_row f i] at C
      generalize rowOf f i = r at hx hr C
      generalize cntTo (fun x => f x i) 48 = k at C HS hc
      generalize sumTo (fun y => cntTo (fun x => f x y) 48) i = s at HS hs
      have hs2 : (s : Int) ≤ 1152 := by omega
      have hc2 : (k : Int) ≤ 48 := by omega
      have hr2 : (r : Int) < 281474976710656 := by omega
      go_wp2_with (go_at_call 54; (with_reducible refine (C.out _).mono ?_); rintro e w' ⟨rfl, rfl⟩)
      go_round
      case rel => exact ⟨i + 1, by omega, by go_num, by rw [HS.out]; exact congrArg (Value.int .i64) (by omega)⟩
      case measure => simp [intOf]; omega
    · obtain rfl : i = 24 := by omega
      go_wp2
      go_ret
      exact ⟨rfl, HB1.out⟩
theorem near_val (a b c d : Nat) (ha : a < 48) (hb : b < 24) (hc : c < 48) (hd : d < 24) : ∃ X Y : Int, max ((a : Int) - c) (c - a) = X ∧ max ((b : Int) - d) (d - b) = Y ∧ 0 ≤ X ∧ X ≤ 47 ∧ 0 ≤ Y ∧ Y ≤ 23 ∧ max Y (min X (48 - X)) = (near a b c d : Nat) := by
  refine ⟨_, _, rfl, rfl, by omega, by omega, by omega, by omega, ?_⟩
  unfold near dx dy
  omega
theorem box_cells (w : World) (a b c d : Int) : ∃ W, (w.alloc (.cells #[.int .i64 a, .int .i64 b] 27)).alloc (.cells #[.int .i64 c, .int .i64 d] 27) = W ∧ Below w.heap.size w W ∧ W.heap.size = w.heap.size + 2 ∧
    W.heap[w.heap.size]? = some (.cells #[.int .i64 a, .int .i64 b] 27 (0, 0)) ∧ W.heap[w.heap.size + 1]? = some (.cells #[.int .i64 c, .int .i64 d] 27 (0, 0)) := by
  refine ⟨_, rfl, ((Below.refl _ _).alloc (Nat.le_refl _) _).alloc (by simp) _, by simp, ?_, ?_⟩
  · rw [heap_old' _ _ _ (by simp), heap_new' _ _ _ rfl]
  · rw [heap_new' _ _ _ (by simp)]
set_option maxRecDepth 100000 in
set_option maxHeartbeats 1000000 in
theorem near_yes (a b c d : Nat) (ha : a < 48) (hb : b < 24) (hc : c < 48) (hd : d < 24) (w : World) :
    Calls Tryd.prog 17 #[CV a b, CV c d] w fun e w' => e = .returned (.int .i64 (near a b c d : Nat)) ∧ Below w.heap.size w w' := by
  have C1 := Lib.hid (fun W => validCell_any a b W)
  have C2 := Lib.hid (fun W => validCell_any c d W)
  have h1 : onG a b = true := onG_iff.2 ⟨by omega, by omega, by omega, by omega⟩
  have h2 : onG c d = true := onG_iff.2 ⟨by omega, by omega, by omega, by omega⟩
  rw [h1] at C1
  rw [h2] at C2
  obtain ⟨W, hW, hB, hz, k1, k2⟩ := box_cells w a b c d
  obtain ⟨X, Y, hX, hY, x0, x1, y0, y1, hN⟩ := near_val a b c d ha hb hc hd
  have CX := Lib.hid (fun W => swapw (apart_any (a : Int) c (by omega) (by omega) (by omega) (by omega) W))
  have CY := Lib.hid (fun W => swapw (apart_any (b : Int) d (by omega) (by omega) (by omega) (by omega) W))
  rw [hX] at CX
  rw [hY] at CY
  have HN := Lib.hid hN
  have HB := Lib.hid hB; have HZ := Lib.hid hz; have HK := Lib.hid (And.intro k1 k2)
  have b0 := (row_cell k1 0).trans (show _ = some (.int .i64 (a : Int)) from rfl)
  have b1 := (row_cell k1 1).trans (show _ = some (.int .i64 (b : Int)) from rfl)
  have d0 := (row_cell k2 0).trans (show _ = some (.int .i64 (c : Int)) from rfl)
  have d1 := (row_cell k2 1).trans (show _ = some (.int .i64 (d : Int)) from rfl)
  clear h1 h2 hX hY hN hB hz k1 k2 ha hb hc hd
  go_enter Tryd.func17, Tryd.ntmps17
  go_wp2_with fail
  (with_reducible refine (C1.out _).mono ?_)
  rintro e w1 ⟨rfl, hb1⟩
  have HB1 := Lib.hid hb1
  have d0' := (hb1.cell (p := ⟨w.heap.size + 1, 0, none⟩) (by have := HZ.out; show w.heap.size + 1 < W.heap.size; omega)).trans d0
  have d1' := (hb1.cell (p := ⟨w.heap.size + 1, 1, none⟩) (by have := HZ.out; show w.heap.size + 1 < W.heap.size; omega)).trans d1
  clear hb1 d0 d1 hW b0 b1
  go_wp2_with fail
  (with_reducible refine (C2.out _).mono ?_)
  rintro e w2 ⟨rfl, hb2⟩
  have hb3 := HB1.out.trans (hb2.mono HB1.out.size)
  have e0 := (hb3.cell (p := ⟨w.heap.size, 0, none⟩) (by have := HZ.out; show w.heap.size < W.heap.size; omega)).trans ((row_cell HK.out.1 0).trans (show _ = some (.int .i64 (a : Int)) from rfl))
  have e1 := (hb3.cell (p := ⟨w.heap.size, 1, none⟩) (by have := HZ.out; show w.heap.size < W.heap.size; omega)).trans ((row_cell HK.out.1 1).trans (show _ = some (.int .i64 (b : Int)) from rfl))
  have e2 := (hb3.cell (p := ⟨w.heap.size + 1, 0, none⟩) (by have := HZ.out; show w.heap.size + 1 < W.heap.size; omega)).trans ((row_cell HK.out.2 0).trans (show _ = some (.int .i64 (c : Int)) from rfl))
  have e3 := (hb3.cell (p := ⟨w.heap.size + 1, 1, none⟩) (by have := HZ.out; show w.heap.size + 1 < W.heap.size; omega)).trans ((row_cell HK.out.2 1).trans (show _ = some (.int .i64 (d : Int)) from rfl))
  have HB3 := Lib.hid (HB.out.trans (hb3.mono HB.out.size))
  clear hb3 hb2 d0' d1'
  go_wp2_with fail
  go_quiet ((go_at_call 50; first | (with_reducible exact Calls.quiet_of_same (CX.out _)) | (with_reducible exact Calls.quiet_of_same (CY.out _))))
  clear e0 e1 e2 e3
  go_wp2
  all_goals
    go_ret
    exact ⟨ret_int' (by rw [← HN.out]; omega), below_dn HB3.out⟩
set_option maxRecDepth 100000 in
set_option maxHeartbeats 1000000 in
theorem near_no (a b c d : Int) (h : onG a b = false ∨ onG c d = false) (w : World) :
    Calls Tryd.prog 17 #[CV a b, CV c d] w fun e w' => e = .returned (.int .i64 (-1)) ∧ Below w.heap.size w w' := by
  have C1 := Lib.hid (fun W => validCell_any a b W)
  have C2 := Lib.hid (fun W => validCell_any c d W)
  obtain ⟨W, hW, hB, hz, k1, k2⟩ := box_cells w a b c d
  have HB := Lib.hid hB; have HZ := Lib.hid hz
  have b0 := (row_cell k1 0).trans (show _ = some (.int .i64 a) from rfl)
  have b1 := (row_cell k1 1).trans (show _ = some (.int .i64 b) from rfl)
  have d0 := (row_cell k2 0).trans (show _ = some (.int .i64 c) from rfl)
  have d1 := (row_cell k2 1).trans (show _ = some (.int .i64 d) from rfl)
  clear hB hz k1 k2
  cases h1 : onG a b with
  | false =>
    rw [h1] at C1
    clear h h1
    go_enter Tryd.func17, Tryd.ntmps17
    go_wp2_with fail
    (with_reducible refine (C1.out _).mono ?_)
    rintro e w1 ⟨rfl, hb1⟩
    have HB1 := Lib.hid (HB.out.trans (hb1.mono HB.out.size))
    clear hb1 hW d0 d1 b0 b1
    go_wp2
    go_ret
    exact ⟨rfl, HB1.out⟩
  | true =>
    have h2 : onG c d = false := by
      rcases h with h | h
      · rw [h1] at h; cases h
      · exact h
    rw [h1] at C1
    rw [h2] at C2
    clear h h1 h2
    go_enter Tryd.func17, Tryd.ntmps17
    go_wp2_with fail
    (with_reducible refine (C1.out _).mono ?_)
    rintro e w1 ⟨rfl, hb1⟩
    have HB1 := Lib.hid (HB.out.trans (hb1.mono HB.out.size))
    have d0' := (hb1.cell (p := ⟨w.heap.size + 1, 0, none⟩) (by have := HZ.out; show w.heap.size + 1 < W.heap.size; omega)).trans d0
    have d1' := (hb1.cell (p := ⟨w.heap.size + 1, 1, none⟩) (by have := HZ.out; show w.heap.size + 1 < W.heap.size; omega)).trans d1
    clear hb1 hW d0 d1 b0 b1
    go_wp2_with fail
    (with_reducible refine (C2.out _).mono ?_)
    rintro e w2 ⟨rfl, hb2⟩
    have HB2 := Lib.hid (HB1.out.trans (hb2.mono HB1.out.size))
    clear hb2 d0' d1'
    go_wp2
    go_ret
    exact ⟨rfl, HB2.out⟩
end Go.Proofs.YtipfafglbkbafaaDoor
