/- combine, Union, Meet, Less. -/
import Derived.Test.YtipfafglbkbafaaDoorCh
namespace Go.Proofs.YtipfafglbkbafaaDoor
open Go.RowKit Go.Shelf
set_option linter.unusedVariables false
set_option linter.unusedSimpArgs false

theorem Sl.far {W : World} {al : Option Addr} {n : Nat} {zs : List Int} (h : Sl W al n zs) {r i : Nat} {v : Value} (hr : ∀ b q, al = some ⟨b, q, none⟩ → r ≠ b) : Sl (W.setCell ⟨r, i, none⟩ v) al n zs := by
  obtain ⟨h1, h2, h3, h4⟩ := h
  refine ⟨h1, h2, h3, ?_⟩
  rcases h4 with h4 | ⟨b, o, rfl, hb, hc⟩
  · exact .inl h4
  · refine .inr ⟨b, o, rfl, by simpa using hb, fun j hj => ?_⟩
    rw [World.cell?_setCell_far W _ _ v (by show r ≠ b; exact hr b o rfl)]
    exact hc j hj
theorem OutA.up {w W : World} {o : Option Ar} {e : Ending} {w' : World} (h : OutA W o e w') (hb : Below w.heap.size w W) : OutA w o e w' := by
  obtain ⟨al, n, c, he, hs, hf, hb'⟩ := h
  exact ⟨al, n, c, he, hs, fun b q hq => Nat.le_trans hb.size (hf b q hq), hb.trans (hb'.mono hb.size)⟩
/-- A result that lies in a block of the call's own, behind the area's variable. -/
theorem OutA.put {w W : World} {o : Option Ar} {al : Option Addr} {n c : Nat} {w' : World} (hs : Sl w' al n (zo o)) (hf : ∀ b q, al = some ⟨b, q, none⟩ → W.heap.size ≤ b) (hb : Below w.heap.size w W) (hb' : Below W.heap.size W w') {r : Nat} (h1 : w.heap.size ≤ r) (h2 : r < W.heap.size) {v : Value} :
    OutA w o (.returned (.tuple #[.agg #[.slice al n c], .int .i64 (er o)])) (w'.setCell ⟨r, 0, none⟩ v) :=
  ⟨al, n, c, rfl, hs.far (fun b q hq => by have := hf b q hq; omega), fun b q hq => Nat.le_trans hb.size (hf b q hq), (hb.trans (hb'.mono hb.size)).setCell h1 _⟩
def both (jb : Ar → Ar → Ar) : Option Ar → Option Ar → Option Ar
  | some f, some g => some (jb f g)
  | _, _ => none
theorem change_comb (k : Nat) (jn : Nat → Nat → Nat) (jb : Ar → Ar → Ar) (J : Joins k jn jb) (al : Option Addr) (n c : Nat) (zs : List Int) (oa : Option Ar) (hO : Is zs oa) (g : Ar) (W : World) (h : Sl W al n zs)
    (B1 B2 : Nat) (hB1 : B1 < W.heap.size) (hc : W.cell? ⟨B1, 0, none⟩ = some (.func (.func k) #[] #[])) (hG : HasF W B2 62 g) :
    Calls Tryd.prog 57 #[.agg #[.slice al n c], .func (.func 72) #[] #[.pointer (some ⟨B1, 0, none⟩), .pointer (some ⟨B2, 0, none⟩)]] W (OutA W (both jb oa (some g))) := by
  cases oa with
  | none => exact change_no al n c zs W h hO _
  | some f =>
    obtain rfl : zs = rz f := hO
    exact change_yes al n c f (jb f g) W h 72 #[.pointer (some ⟨B1, 0, none⟩), .pointer (some ⟨B2, 0, none⟩)] (enters_of Tryd.func72 (by kernel_rfl) rfl)
      (fun W' h' => combC_any k jn jb J f g B1 B2 W' (Nat.lt_of_lt_of_le hB1 h'.size) ((h'.cell (p := ⟨B1, 0, none⟩) hB1).trans hc) (hG.below h' hG.lt))
theorem box_comb (w : World) (al : Option Addr) (n c : Nat) (bl : Option Addr) (m d : Nat) (fv : Value) : ∃ W, (((w.alloc (.cells #[.slice al n c] 25)).alloc (.cells #[.slice bl m d] 25)).alloc (.cells #[fv] 31)).alloc (.cells #[.slice none 0 0] 25) = W ∧ Below w.heap.size w W ∧ W.heap.size = w.heap.size + 4 ∧
    W.cell? ⟨w.heap.size, 0, none⟩ = some (.slice al n c) ∧ W.cell? ⟨w.heap.size + 1, 0, none⟩ = some (.slice bl m d) ∧ W.cell? ⟨w.heap.size + 2, 0, none⟩ = some fv ∧ W.cell? ⟨w.heap.size + 3, 0, none⟩ = some (.slice none 0 0) ∧ W.frozen? ⟨w.heap.size + 3, 0, none⟩ = false := by
  refine ⟨_, rfl, ((((Below.refl _ _).alloc (Nat.le_refl _) _).alloc (by simp) _).alloc (by simp <;> omega) _).alloc (by simp <;> omega) _, by simp, ?_, ?_, ?_, ?_, ?_⟩
  · rw [cell_of_row _ _ 0 #[.slice al n c] 25 (0, 0) (by rw [heap_old' _ _ _ (by simp <;> omega), heap_old' _ _ _ (by simp <;> omega), heap_old' _ _ _ (by simp), heap_new' _ _ _ rfl])]; rfl
  · rw [cell_of_row _ _ 0 #[.slice bl m d] 25 (0, 0) (by rw [heap_old' _ _ _ (by simp <;> omega), heap_old' _ _ _ (by simp), heap_new' _ _ _ (by simp)])]; rfl
  · rw [cell_of_row _ _ 0 #[fv] 31 (0, 0) (by rw [heap_old' _ _ _ (by simp), heap_new' _ _ _ (by simp)])]; rfl
  · rw [cell_of_row _ _ 0 #[.slice none 0 0] 25 (0, 0) (by rw [heap_new' _ _ _ (by simp)])]; rfl
  · exact frozen_of_row _ _ 0 #[.slice none 0 0] 25 (by rw [heap_new' _ _ _ (by simp)])

set_option maxRecDepth 100000 in
set_option maxHeartbeats 1000000 in
theorem combine_any (k : Nat) (jn : Nat → Nat → Nat) (jb : Ar → Ar → Ar) (J : Joins k jn jb) (al : Option Addr) (n c : Nat) (zs : List Int) (oa : Option Ar) (hO : Is zs oa) (bl : Option Addr) (m d : Nat) (ys : List Int) (ob : Option Ar) (hP : Is ys ob)
    (w : World) (h : Sl w al n zs) (h' : Sl w bl m ys) :
    Calls Tryd.prog 63 #[.agg #[.slice al n c], .agg #[.slice bl m d], .func (.func k) #[] #[]] w (OutA w (both jb oa ob)) := by
  obtain ⟨W, hW, hb, hz, h0, h1, h2, h3, hf⟩ := box_comb w al n c bl m d (.func (.func k) #[] #[])
  have HB := Lib.hid hb
  have HZ := Lib.hid hz
  have CR := Lib.hid (read_any bl m d ys ob W (h'.below (Nat.le_refl _) hb) hP)
  have CC := Lib.hid (fun W' (hb' : Below w.heap.size w W') g B1 B2 => change_comb k jn jb J al n c zs oa hO g W' (h.below (Nat.le_refl _) hb') B1 B2)
  have HH := Lib.hid (And.intro h2 (And.intro h3 hf))
  simp only [FV_eq] at CR
  clear hb hz h2 h3 hf h h' hO hP J
  go_enter Tryd.func63, Tryd.ntmps63
  go_wp2_with fail
  (with_reducible refine CR.out.mono ?_)
  rintro e w1 ⟨rfl, hb1⟩
  obtain ⟨V, hV, hbV, hq, hz1⟩ := one_box w1
  rw [FC_nul] at hV
  have HQ := Lib.hid hq
  have hbW := hb1.trans (hbV.mono hb1.size)
  have hlt : w.heap.size + 4 ≤ w1.heap.size := by have := hb1.size; have := HZ.out; omega
  have HL := Lib.hid hlt
  have HB1 := Lib.hid (HB.out.trans (hbW.mono (by have := HZ.out; omega)))
  obtain ⟨V2, hV2⟩ : ∃ V2, V.setRow w1.heap.size (FC (of ob)) = V2 := ⟨_, rfl⟩
  have hbX : Below W.heap.size W V2 := by rw [← hV2]; exact below_setRow hbW hb1.size _
  have HX := Lib.hid (And.intro ((hbX.cell (p := ⟨w.heap.size + 2, 0, none⟩) (by have := HZ.out; show w.heap.size + 2 < W.heap.size; omega)).trans HH.out.1)
    (And.intro ((hbX.cell (p := ⟨w.heap.size + 3, 0, none⟩) (by have := HZ.out; show w.heap.size + 3 < W.heap.size; omega)).trans HH.out.2.1) ((hbX.frozen (p := ⟨w.heap.size + 3, 0, none⟩) (by have := HZ.out; show w.heap.size + 3 < W.heap.size; omega)).trans HH.out.2.2)))
  have HQ2 := Lib.hid (show HasF V2 w1.heap.size 62 (of ob) from by rw [← hV2]; exact HQ.out.store (of ob))
  have HB2 := Lib.hid (show Below w.heap.size w V2 from by rw [← hV2]; exact below_setRow HB1.out (by have := HL.out; omega) _)
  have HL2 := Lib.hid (show w.heap.size + 4 ≤ V2.heap.size from by have := HQ2.out.lt; have := HL.out; omega)
  have H2 := Lib.hid hV2
  have k0 := (hbX.cell (p := ⟨w.heap.size, 0, none⟩) (by have := HZ.out; show w.heap.size < W.heap.size; omega)).trans h0
  clear hb1 hbV hq hz1 hbW hlt h0 h1 hW hbX hV2
  cases ob with
  | none =>
    have d1 := HX.out.2.1
    have g1 := HX.out.2.2
    clear k0
    go_wp2_with (first
      | (refine wpList_store_row rfl 62 _ _ rfl w1.heap.size (FC (of none)) rfl rfl 62 (FC nul) HQ.out (infoFC _) (by rw [FC_size, FC_size]) (FC_one _) ?_; rw [H2.out]))
    exact bodyPost_ret (v := .tuple #[.agg #[.slice none 0 0], .int .i64 50]) (by simp [results, Tryd.results63, go_sem, d1]) rfl (by
      rw [show both jb oa none = none from by cases oa <;> rfl]
      exact ⟨none, 0, 0, rfl, Sl.nil _, fun b q h => (by cases h), HB2.out.setCell (by show _ ≤ w.heap.size + 3; omega) _⟩)
  | some g =>
    have CX := Lib.hid (CC.out V2 HB2.out g (w.heap.size + 2) w1.heap.size (by have := HL2.out; omega) HX.out.1 HQ2.out)
    have d1 := HX.out.2.1
    have g1 := HX.out.2.2
    clear CC
    go_wp2_with (first
      | (refine wpList_store_row rfl 62 _ _ rfl w1.heap.size (FC (of (some g))) rfl rfl 62 (FC nul) HQ.out (infoFC _) (by rw [FC_size, FC_size]) (FC_one _) ?_; rw [H2.out])
      | (go_at_call 57; (with_reducible refine CX.out.mono ?_); rintro e w3 ⟨rl, rn, rc, rfl, hs, hfr, hb3⟩; have d3 := (hb3.cell (p := ⟨w.heap.size + 3, 0, none⟩) (by have := HL2.out; show w.heap.size + 3 < V2.heap.size; omega)).trans d1; have g3 := (hb3.frozen (p := ⟨w.heap.size + 3, 0, none⟩) (by have := HL2.out; show w.heap.size + 3 < V2.heap.size; omega)).trans g1; have HS := Lib.hid (And.intro hs (And.intro hfr hb3)); clear hs hfr hb3 d1 g1 k0))
    exact bodyPost_ret (v := .tuple #[.agg #[.slice rl rn rc], .int .i64 (er (both jb oa (some g)))]) (by simp [results, Tryd.results63, go_sem, d3]) rfl
      (OutA.put HS.out.1 HS.out.2.1 HB2.out HS.out.2.2 (by omega) (by have := HL2.out; omega))

theorem box_two_areas (w : World) (al : Option Addr) (n c : Nat) (bl : Option Addr) (m d : Nat) : ∃ W, ((w.alloc (.cells #[.slice al n c] 25)).alloc (.cells #[.slice bl m d] 25)).alloc (.cells #[.slice none 0 0] 25) = W ∧ Below w.heap.size w W ∧ W.heap.size = w.heap.size + 3 ∧
    W.cell? ⟨w.heap.size, 0, none⟩ = some (.slice al n c) ∧ W.cell? ⟨w.heap.size + 1, 0, none⟩ = some (.slice bl m d) ∧ W.cell? ⟨w.heap.size + 2, 0, none⟩ = some (.slice none 0 0) ∧ W.frozen? ⟨w.heap.size + 2, 0, none⟩ = false := by
  refine ⟨_, rfl, (((Below.refl _ _).alloc (Nat.le_refl _) _).alloc (by simp) _).alloc (by simp <;> omega) _, by simp, ?_, ?_, ?_, ?_⟩
  · rw [cell_of_row _ _ 0 #[.slice al n c] 25 (0, 0) (by rw [heap_old' _ _ _ (by simp <;> omega), heap_old' _ _ _ (by simp), heap_new' _ _ _ rfl])]; rfl
  · rw [cell_of_row _ _ 0 #[.slice bl m d] 25 (0, 0) (by rw [heap_old' _ _ _ (by simp), heap_new' _ _ _ (by simp)])]; rfl
  · rw [cell_of_row _ _ 0 #[.slice none 0 0] 25 (0, 0) (by rw [heap_new' _ _ _ (by simp)])]; rfl
  · exact frozen_of_row _ _ 0 #[.slice none 0 0] 25 (by rw [heap_new' _ _ _ (by simp)])
set_option maxHeartbeats 1000000 in
theorem union_any (al : Option Addr) (n c : Nat) (zs : List Int) (oa : Option Ar) (hO : Is zs oa) (bl : Option Addr) (m d : Nat) (ys : List Int) (ob : Option Ar) (hP : Is ys ob) (w : World) (h : Sl w al n zs) (h' : Sl w bl m ys) :
    Calls Tryd.prog 37 #[.agg #[.slice al n c], .agg #[.slice bl m d]] w (OutA w (both orA oa ob)) := by
  obtain ⟨W, hW, hb, hz, h0, h1, h2, hf⟩ := box_two_areas w al n c bl m d
  have HB := Lib.hid hb
  have HZ := Lib.hid hz
  have CX := Lib.hid (combine_any _ _ _ joins_or al n c zs oa hO bl m d ys ob hP W (h.below (Nat.le_refl _) hb) (h'.below (Nat.le_refl _) hb))
  clear hb hz h h' hO hP
  go_enter Tryd.func37, Tryd.ntmps37
  go_wp2_with (go_at_call 63; (with_reducible refine CX.out.mono ?_); rintro e w3 ⟨rl, rn, rc, rfl, hs, hfr, hb3⟩; have d3 := (hb3.cell (p := ⟨w.heap.size + 2, 0, none⟩) (by have := HZ.out; show w.heap.size + 2 < W.heap.size; omega)).trans h2; have g3 := (hb3.frozen (p := ⟨w.heap.size + 2, 0, none⟩) (by have := HZ.out; show w.heap.size + 2 < W.heap.size; omega)).trans hf; have HS := Lib.hid (And.intro hs (And.intro hfr hb3)); clear hs hfr hb3 h0 h1 h2 hf hW)
  exact bodyPost_ret (v := .tuple #[.agg #[.slice rl rn rc], .int .i64 (er (both orA oa ob))]) (by simp [results, Tryd.results37, go_sem, d3]) rfl
    (OutA.put HS.out.1 HS.out.2.1 HB.out HS.out.2.2 (by omega) (by have := HZ.out; omega))
set_option maxHeartbeats 1000000 in
theorem meet_any (al : Option Addr) (n c : Nat) (zs : List Int) (oa : Option Ar) (hO : Is zs oa) (bl : Option Addr) (m d : Nat) (ys : List Int) (ob : Option Ar) (hP : Is ys ob) (w : World) (h : Sl w al n zs) (h' : Sl w bl m ys) :
    Calls Tryd.prog 39 #[.agg #[.slice al n c], .agg #[.slice bl m d]] w (OutA w (both andA oa ob)) := by
  obtain ⟨W, hW, hb, hz, h0, h1, h2, hf⟩ := box_two_areas w al n c bl m d
  have HB := Lib.hid hb
  have HZ := Lib.hid hz
  have CX := Lib.hid (combine_any _ _ _ joins_and al n c zs oa hO bl m d ys ob hP W (h.below (Nat.le_refl _) hb) (h'.below (Nat.le_refl _) hb))
  clear hb hz h h' hO hP
  go_enter Tryd.func39, Tryd.ntmps39
  go_wp2_with (go_at_call 63; (with_reducible refine CX.out.mono ?_); rintro e w3 ⟨rl, rn, rc, rfl, hs, hfr, hb3⟩; have d3 := (hb3.cell (p := ⟨w.heap.size + 2, 0, none⟩) (by have := HZ.out; show w.heap.size + 2 < W.heap.size; omega)).trans h2; have g3 := (hb3.frozen (p := ⟨w.heap.size + 2, 0, none⟩) (by have := HZ.out; show w.heap.size + 2 < W.heap.size; omega)).trans hf; have HS := Lib.hid (And.intro hs (And.intro hfr hb3)); clear hs hfr hb3 h0 h1 h2 hf hW)
  exact bodyPost_ret (v := .tuple #[.agg #[.slice rl rn rc], .int .i64 (er (both andA oa ob))]) (by simp [results, Tryd.results39, go_sem, d3]) rfl
    (OutA.put HS.out.1 HS.out.2.1 HB.out HS.out.2.2 (by omega) (by have := HZ.out; omega))
set_option maxHeartbeats 1000000 in
theorem less_any (al : Option Addr) (n c : Nat) (zs : List Int) (oa : Option Ar) (hO : Is zs oa) (bl : Option Addr) (m d : Nat) (ys : List Int) (ob : Option Ar) (hP : Is ys ob) (w : World) (h : Sl w al n zs) (h' : Sl w bl m ys) :
    Calls Tryd.prog 41 #[.agg #[.slice al n c], .agg #[.slice bl m d]] w (OutA w (both lessA oa ob)) := by
  obtain ⟨W, hW, hb, hz, h0, h1, h2, hf⟩ := box_two_areas w al n c bl m d
  have HB := Lib.hid hb
  have HZ := Lib.hid hz
  have CX := Lib.hid (combine_any _ _ _ joins_less al n c zs oa hO bl m d ys ob hP W (h.below (Nat.le_refl _) hb) (h'.below (Nat.le_refl _) hb))
  clear hb hz h h' hO hP
  go_enter Tryd.func41, Tryd.ntmps41
  go_wp2_with (go_at_call 63; (with_reducible refine CX.out.mono ?_); rintro e w3 ⟨rl, rn, rc, rfl, hs, hfr, hb3⟩; have d3 := (hb3.cell (p := ⟨w.heap.size + 2, 0, none⟩) (by have := HZ.out; show w.heap.size + 2 < W.heap.size; omega)).trans h2; have g3 := (hb3.frozen (p := ⟨w.heap.size + 2, 0, none⟩) (by have := HZ.out; show w.heap.size + 2 < W.heap.size; omega)).trans hf; have HS := Lib.hid (And.intro hs (And.intro hfr hb3)); clear hs hfr hb3 h0 h1 h2 hf hW)
  exact bodyPost_ret (v := .tuple #[.agg #[.slice rl rn rc], .int .i64 (er (both lessA oa ob))]) (by simp [results, Tryd.results41, go_sem, d3]) rfl
    (OutA.put HS.out.1 HS.out.2.1 HB.out HS.out.2.2 (by omega) (by have := HZ.out; omega))
end Go.Proofs.YtipfafglbkbafaaDoor
