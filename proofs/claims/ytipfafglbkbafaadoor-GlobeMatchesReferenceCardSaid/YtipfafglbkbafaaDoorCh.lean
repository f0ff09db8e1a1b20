/- change: a field read, turned by a function that came in, and written. -/
import Derived.Test.YtipfafglbkbafaaDoorCb
namespace Go.Proofs.YtipfafglbkbafaaDoor
open Go.RowKit
set_option linter.unusedVariables false
set_option linter.unusedSimpArgs false

/-- What a call that gives an area or an error leaves. -/
def zo : Option Ar → List Int
  | none => []
  | some f => rz f
def er : Option Ar → Int
  | none => 50
  | some _ => 0
def OutA (w : World) (o : Option Ar) (e : Ending) (w' : World) : Prop :=
  ∃ al n c, e = .returned (.tuple #[.agg #[.slice al n c], .int .i64 (er o)]) ∧ Sl w' al n (zo o) ∧ (∀ b q, al = some ⟨b, q, none⟩ → w.heap.size ≤ b) ∧ Below w.heap.size w w'
theorem Sl.nil (W : World) : Sl W none 0 [] := ⟨rfl, by decide, fun z hz => by (cases hz), .inl rfl⟩
theorem box_area (w : World) (al : Option Addr) (n c : Nat) : ∃ W, (w.alloc (.cells #[.slice al n c] 25)).alloc (.cells #[.slice none 0 0] 25) = W ∧ Below w.heap.size w W ∧ W.heap.size = w.heap.size + 2 ∧
    W.cell? ⟨w.heap.size, 0, none⟩ = some (.slice al n c) ∧ W.cell? ⟨w.heap.size + 1, 0, none⟩ = some (.slice none 0 0) ∧ W.frozen? ⟨w.heap.size + 1, 0, none⟩ = false := by
  refine ⟨_, rfl, ((Below.refl _ _).alloc (Nat.le_refl _) _).alloc (by simp) _, by simp, ?_, ?_, ?_⟩
  · rw [cell_of_row _ _ 0 #[.slice al n c] 25 (0, 0) (by rw [heap_old' _ _ _ (by simp), heap_new' _ _ _ rfl])]; rfl
  · rw [cell_of_row _ _ 0 #[.slice none 0 0] 25 (0, 0) (by rw [heap_new' _ _ _ (by simp)])]; rfl
  · exact frozen_of_row _ _ 0 #[.slice none 0 0] 25 (by rw [heap_new' _ _ _ (by simp)])

set_option maxRecDepth 100000 in
set_option maxHeartbeats 1000000 in
theorem change_no (al : Option Addr) (n c : Nat) (zs : List Int) (w : World) (h : Sl w al n zs) (hO : Is zs none) (fv : Value) :
    Calls Tryd.prog 57 #[.agg #[.slice al n c], fv] w (OutA w none) := by
  obtain ⟨W, hW, hb, hz, h0, h1, hf⟩ := box_area w al n c
  have HB := Lib.hid hb
  have HZ := Lib.hid hz
  have C := Lib.hid (fun W' (h' : Below w.heap.size w W') => read_any al n c zs none W' (h.below (Nat.le_refl _) h') hO)
  have HN := Lib.hid FC_nul
  clear hb hz hO h
  simp only [FV_eq] at C
  have CR := Lib.hid (C.out W HB.out)
  clear C
  have HH := Lib.hid (And.intro h1 hf)
  clear h1 hf
  go_enter Tryd.func57, Tryd.ntmps57
  go_wp2_with fail
  (with_reducible refine CR.out.mono ?_)
  rintro e w1 ⟨rfl, hb1⟩
  obtain ⟨V, hV, hbV, hq, hz1⟩ := one_box w1
  rw [FC_nul] at hV
  have HQ := Lib.hid hq
  have hbW := hb1.trans (hbV.mono hb1.size)
  have c0 : V.cell? ⟨w.heap.size, 0, none⟩ = some (.slice al n c) := (hbW.cell (p := ⟨w.heap.size, 0, none⟩) (by have := HZ.out; show w.heap.size < W.heap.size; omega)).trans h0
  have c1 : V.cell? ⟨w.heap.size + 1, 0, none⟩ = some (.slice none 0 0) := (hbW.cell (p := ⟨w.heap.size + 1, 0, none⟩) (by have := HZ.out; show w.heap.size + 1 < W.heap.size; omega)).trans HH.out.1
  have f1 : V.frozen? ⟨w.heap.size + 1, 0, none⟩ = false := (hbW.frozen (p := ⟨w.heap.size + 1, 0, none⟩) (by have := HZ.out; show w.heap.size + 1 < W.heap.size; omega)).trans HH.out.2
  have hlt : w.heap.size + 2 ≤ w1.heap.size := by have := hb1.size; have := HZ.out; omega
  have HB1 := Lib.hid (HB.out.trans (hbW.mono (by have := HZ.out; omega)))
  have HL := Lib.hid hlt
  clear hb1 hbV hq hz1 hbW hlt h0 hW
  obtain ⟨V2, hV2⟩ : ∃ V2, V.setRow w1.heap.size (FC (of none)) = V2 := ⟨_, rfl⟩
  have d1 : V2.cell? ⟨w.heap.size + 1, 0, none⟩ = some (.slice none 0 0) := by rw [← hV2, cell_setRow_other _ _ _ _ (by show w.heap.size + 1 ≠ _; have := HL.out; omega)]; exact c1
  have g1 : V2.frozen? ⟨w.heap.size + 1, 0, none⟩ = false := by rw [← hV2]; simp [World.frozen?, setRow_other V _ _ _ (show w.heap.size + 1 ≠ w1.heap.size by have := HL.out; omega)]; simpa [World.frozen?] using f1
  have HB2 := Lib.hid (show Below w.heap.size w V2 from by rw [← hV2]; exact below_setRow HB1.out (by have := HL.out; omega) _)
  have H2 := Lib.hid hV2
  clear hV2 c0 c1 f1
  go_wp2_with (first
    | (refine wpList_store_row rfl 62 _ _ rfl w1.heap.size (FC (of none)) rfl rfl 62 (FC nul) HQ.out (infoFC _) (by rw [FC_size, FC_size]) (FC_one _) ?_; rw [H2.out]))
  exact bodyPost_ret (v := .tuple #[.agg #[.slice none 0 0], .int .i64 50]) (by simp [results, Tryd.results57, go_sem, d1]) rfl ⟨none, 0, 0, rfl, Sl.nil _, fun b q h => (by cases h), HB2.out.setCell (by show _ ≤ w.heap.size + 1; omega) _⟩
set_option maxRecDepth 100000 in
set_option maxHeartbeats 1000000 in
theorem change_yes (al : Option Addr) (n c : Nat) (f g : Ar) (w : World) (h : SA w al n f) (k : Nat) (caps : Array Value) (hE : ∀ args w, (callFunc k args).run Tryd.prog w = .ok (.enter k args) w)
    (hK : ∀ W', Below w.heap.size w W' → Calls Tryd.prog k (#[FV f] ++ caps) W' fun e w' => e = .returned (FV g) ∧ Below W'.heap.size W' w') :
    Calls Tryd.prog 57 #[.agg #[.slice al n c], .func (.func k) #[] caps] w (OutA w (some g)) := by
  obtain ⟨W, hW, hb, hz, h0, h1, hf⟩ := box_area w al n c
  have HB := Lib.hid hb
  have HZ := Lib.hid hz
  have C := Lib.hid (fun W' (h' : Below w.heap.size w W') => read_yes al n c f W' (Sl.below h (Nat.le_refl _) h'))
  have HN := Lib.hid FC_nul
  have CK := Lib.hid hK
  have CW := Lib.hid (fun W' => write_any g W')
  clear hb hz h hK
  simp only [FV_eq] at C CK CW
  have CR := Lib.hid (C.out W HB.out)
  clear C
  have HH := Lib.hid (And.intro h1 hf)
  clear h1 hf
  go_enter Tryd.func57, Tryd.ntmps57
  go_wp2_with fail
  (with_reducible refine CR.out.mono ?_)
  rintro e w1 ⟨rfl, hb1⟩
  obtain ⟨V, hV, hbV, hq, hz1⟩ := one_box w1
  rw [FC_nul] at hV
  have HQ := Lib.hid hq
  have hbW := hb1.trans (hbV.mono hb1.size)
  have c0 : V.cell? ⟨w.heap.size, 0, none⟩ = some (.slice al n c) := (hbW.cell (p := ⟨w.heap.size, 0, none⟩) (by have := HZ.out; show w.heap.size < W.heap.size; omega)).trans h0
  have c1 : V.cell? ⟨w.heap.size + 1, 0, none⟩ = some (.slice none 0 0) := (hbW.cell (p := ⟨w.heap.size + 1, 0, none⟩) (by have := HZ.out; show w.heap.size + 1 < W.heap.size; omega)).trans HH.out.1
  have f1 : V.frozen? ⟨w.heap.size + 1, 0, none⟩ = false := (hbW.frozen (p := ⟨w.heap.size + 1, 0, none⟩) (by have := HZ.out; show w.heap.size + 1 < W.heap.size; omega)).trans HH.out.2
  have hlt : w.heap.size + 2 ≤ w1.heap.size := by have := hb1.size; have := HZ.out; omega
  have HB1 := Lib.hid (HB.out.trans (hbW.mono (by have := HZ.out; omega)))
  have HL := Lib.hid hlt
  clear hb1 hbV hq hz1 hbW hlt h0 hW
  obtain ⟨V2, hV2⟩ : ∃ V2, V.setRow w1.heap.size (FC f) = V2 := ⟨_, rfl⟩
  have d1 : V2.cell? ⟨w.heap.size + 1, 0, none⟩ = some (.slice none 0 0) := by rw [← hV2, cell_setRow_other _ _ _ _ (by show w.heap.size + 1 ≠ _; have := HL.out; omega)]; exact c1
  have g1 : V2.frozen? ⟨w.heap.size + 1, 0, none⟩ = false := by rw [← hV2]; simp [World.frozen?, setRow_other V _ _ _ (show w.heap.size + 1 ≠ w1.heap.size by have := HL.out; omega)]; simpa [World.frozen?] using f1
  have HB2 := Lib.hid (show Below w.heap.size w V2 from by rw [← hV2]; exact below_setRow HB1.out (by have := HL.out; omega) _)
  have H2 := Lib.hid hV2
  have HQ2 := Lib.hid (show HasF V2 w1.heap.size 62 f from by rw [← hV2]; exact HQ.out.store f)
  have HL2 := Lib.hid (show w.heap.size + 2 ≤ V2.heap.size from by have := HB2.out.size; have := HL.out; have := HQ2.out.lt; omega)
  have HD := Lib.hid (And.intro d1 g1)
  clear hV2 c0 c1 f1 d1 g1
  go_wp2_with (first
    | (refine wpList_store_row rfl 62 _ _ rfl w1.heap.size (FC f) rfl rfl 62 (FC nul) HQ.out (infoFC _) (by rw [FC_size, FC_size]) (FC_one _) ?_; rw [H2.out])
    | (refine wpList_load_row rfl 62 _ rfl w1.heap.size rfl 62 (FC f) (0, 0) _ HQ2.out Tryd.underlying62 rfl (infoFC _) ?_)
    | (go_at_fn k; (with_reducible refine (CK.out _ HB2.out).mono ?_); rintro e w3 ⟨rfl, hb3⟩; have HB3 := Lib.hid (HB2.out.trans (hb3.mono HB2.out.size)); have HL3 := Lib.hid (Nat.le_trans HL2.out hb3.size); have HD3 := Lib.hid (And.intro ((hb3.cell (p := ⟨w.heap.size + 1, 0, none⟩) (by have := HL2.out; show w.heap.size + 1 < V2.heap.size; omega)).trans HD.out.1) ((hb3.frozen (p := ⟨w.heap.size + 1, 0, none⟩) (by have := HL2.out; show w.heap.size + 1 < V2.heap.size; omega)).trans HD.out.2)); clear hb3)
    | (go_at_call 52; (with_reducible refine (CW.out _).mono ?_); rintro e w4 ⟨b, rfl, hge, hG, hb4⟩; have HB4 := Lib.hid (HB3.out.trans (hb4.mono HB3.out.size)); have HG4 := Lib.hid hG; have HGE := Lib.hid (Nat.le_trans HL3.out hge); have d4 := (hb4.cell (p := ⟨w.heap.size + 1, 0, none⟩) (by have := HL3.out; show w.heap.size + 1 < w3.heap.size; omega)).trans HD3.out.1; have g4 := (hb4.frozen (p := ⟨w.heap.size + 1, 0, none⟩) (by have := HL3.out; show w.heap.size + 1 < w3.heap.size; omega)).trans HD3.out.2; clear hb4 hG hge))
  have hGf := HG4.out.other (b := w.heap.size + 1) (i := 0) (v := .slice (some ⟨b, 0, none⟩) 24 24) (by have := HGE.out; omega)
  exact bodyPost_ret (v := .tuple #[.agg #[.slice (some ⟨b, 0, none⟩) 24 24], .int .i64 0]) (by simp [results, Tryd.results57, go_sem, d4]) rfl ⟨_, _, _, rfl, hGf.sa, fun b' q h => by
    cases h; have := HGE.out; omega, HB4.out.setCell (by show _ ≤ w.heap.size + 1; omega) _⟩
end Go.Proofs.YtipfafglbkbafaaDoor
