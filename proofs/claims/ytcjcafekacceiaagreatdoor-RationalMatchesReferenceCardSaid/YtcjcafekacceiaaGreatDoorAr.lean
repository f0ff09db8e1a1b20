/- Mul, Div, sum, Add, Sub, walked. -/
import Derived.Test.YtcjcafekacceiaaGreatDoorMu
namespace Go.Proofs.YtcjcafekacceiaaGreatDoor
open Go.RowKit

theorem pr_cells {W : World} {g : Nat} {p q : Pr} {T : TypeId} (h : W.heap[g]? = some (.cells #[.string p.1, .string p.2, .string q.1, .string q.2] T)) : PrCells W g [p, q] := by
  intro i z hz
  match i, hz with
  | 0, hz => cases hz; constructor <;> simp [World.cell?, h]
  | 1, hz => cases hz; constructor <;> simp [World.cell?, h]
  | k + 2, hz => simp at hz
theorem pr_cell1 {W : World} {g : Nat} {p : Pr} {T : TypeId} (h : W.heap[g]? = some (.cells #[.string p.1, .string p.2] T)) : PrCells W g [p] := by
  intro i z hz
  match i, hz with
  | 0, hz => cases hz; constructor <;> simp [World.cell?, h]
  | k + 1, hz => simp at hz

/-- The blocks that the walk makes first. -/
theorem blocks_Mul (p q : Pr) (w : World) : ∃ wA, ((((w.alloc (.cells #[.string p.1, .string p.2] 23)).alloc (.cells #[.string q.1, .string q.2] 23)).alloc (.cells #[.string ⟨#[]⟩, .string ⟨#[]⟩] 23)).alloc (.cells #[.string ⟨#[]⟩, .string ⟨#[]⟩] 23)).alloc (.cells #[.string p.1, .string p.2, .string q.1, .string q.2] 23) = wA ∧ Below w.heap.size w wA ∧ wA.heap.size = w.heap.size + 5 ∧ wA.heap[w.heap.size]? = some (.cells #[.string p.1, .string p.2] 23) ∧ wA.heap[w.heap.size + 1]? = some (.cells #[.string q.1, .string q.2] 23) ∧ wA.heap[w.heap.size + 2]? = some (.cells #[.string ⟨#[]⟩, .string ⟨#[]⟩] 23) ∧ wA.heap[w.heap.size + 3]? = some (.cells #[.string ⟨#[]⟩, .string ⟨#[]⟩] 23) ∧ wA.heap[w.heap.size + 4]? = some (.cells #[.string p.1, .string p.2, .string q.1, .string q.2] 23) := by
  refine ⟨_, rfl, (((((Below.refl w.heap.size w).alloc (Nat.le_refl _) _).alloc (by simp) _).alloc (by simp; omega) _).alloc (by simp; omega) _).alloc (by simp; omega) _, by simp, ?_, ?_, ?_, ?_, ?_⟩
  · exact (Below.heap_alloc _ _ _ (by simp <;> omega)).trans ((Below.heap_alloc _ _ _ (by simp <;> omega)).trans ((Below.heap_alloc _ _ _ (by simp <;> omega)).trans ((Below.heap_alloc _ _ _ (by simp)).trans (heap_new' _ _ _ rfl))))
  · exact (Below.heap_alloc _ _ _ (by simp <;> omega)).trans ((Below.heap_alloc _ _ _ (by simp <;> omega)).trans ((Below.heap_alloc _ _ _ (by simp <;> omega)).trans (heap_new' _ _ _ (by simp))))
  · exact (Below.heap_alloc _ _ _ (by simp <;> omega)).trans ((Below.heap_alloc _ _ _ (by simp <;> omega)).trans (heap_new' _ _ _ (by simp)))
  · exact (Below.heap_alloc _ _ _ (by simp <;> omega)).trans (heap_new' _ _ _ (by simp))
  · exact heap_new' _ _ _ (by simp)
set_option maxRecDepth 100000 in
set_option maxHeartbeats 2000000 in
theorem qmul_any (p q : Pr) (w : World) (hsp : p.1.size ≤ 9223372036854775807 ∧ p.2.size ≤ 9223372036854775807) (hsq : q.1.size ≤ 9223372036854775807 ∧ q.2.size ≤ 9223372036854775807) (ht : Tb w) :
    Calls Tryz.prog 39 #[.agg #[.string p.1, .string p.2], .agg #[.string q.1, .string q.2]] w (QOut w (prodO p q q.1 q.2)) := by
  obtain ⟨wA, hwA, hbA, hsA, h0, h1, h2, h3, h4⟩ := blocks_Mul p q w
  have hD : ∀ k, k = w.heap.size + 3 → k < wA.heap.size := fun k hk => by omega
  have CV := Lib.hid (validm_any (fun k => k = w.heap.size + 3) (w.heap.size + 4) 2 [p, q] wA rfl hD (by simp) (by omega) (pr_cells h4))
  have CM := Lib.hid (fun W (hW : Below wA.heap.size wA W) zo xo yo => setm_any (fun k => k = w.heap.size + 3) 70 (w.heap.size + 3) zo w.heap.size xo (w.heap.size + 1) yo W (fun k hk => by have := hW.size; have := hD k hk; omega))
  have CB := Lib.hid (fun W (hW : Below wA.heap.size wA W) c1 c2 c3 (g : Nat) (hv : ValC (fun k => k = w.heap.size + 3) W c1 [p, q]) (hs1 : SetC (fun k => k = w.heap.size + 3) W c2 70 (w.heap.size + 3) 0 w.heap.size 0 (w.heap.size + 1) 0)
      (hs2 : SetC (fun k => k = w.heap.size + 3) W c3 70 (w.heap.size + 3) 1 w.heap.size 1 (w.heap.size + 1) 1) (hl : Lv W (.slice (some ⟨g, 0, none⟩) 3 3) ([c1, c2, c3].map fV2)) =>
    build_any (fun k => k = w.heap.size + 3) w W (w.heap.size + 3) (.slice (some ⟨g, 0, none⟩) 3 3) [c1, c2, c3] (opS mulF p.1 q.1) (opS mulF p.2 q.2) (prodO p q q.1 q.2)
      (hbA.trans (hW.mono hbA.size)) (fun k hk => by have := hW.size; have := hD k hk; omega) (fun k hk => by omega) rfl hl (by simp) ht (opS_size _ _ _) (opS_size _ _ _)
      (fun c hc => by
        simp only [List.mem_cons, List.mem_nil_iff, or_false] at hc
        rcases hc with rfl | rfl | rfl
        · exact hv.ent
        · exact hs1.ent
        · exact hs2.ent)
      (fun W' hW' => by
        have hbb := hW.trans (hW'.mono hW.size)
        obtain ⟨y1, y2, _, _⟩ := box2 (bl_up h1 hbb)
        exact prod_steps rfl (by simp) (by simp) (below1 (hbA.trans (hW.mono hbA.size)) hW') (by omega) ht (hv.below hW') (hs1.below hW') (hs2.below hW') (bl_up h0 hbb) y1 y2 (bl_up h3 hbb) hsp hsq (hsq.1) (hsq.2)))
  have H2 := Lib.hid (fun W (hW : Below wA.heap.size wA W) => bl_up h2 hW)
  have HBA := Lib.hid hbA
  obtain ⟨kk1, kk2⟩ : (w.alloc (.cells #[.string p.1, .string p.2] 23)).cell? ⟨w.heap.size, 0, none⟩ = (w.alloc (.cells #[.string p.1, .string p.2] 23)).cell? ⟨w.heap.size, 0, none⟩ ∧ True := ⟨rfl, trivial⟩
  clear kk1 kk2 hD h0 h1 h2 h3 h4 hbA hsA ht
  generalize prodO p q q.1 q.2 = o at *
  obtain ⟨pa, pb⟩ := p
  obtain ⟨qa, qb⟩ := q
  simp only at *
  go_enter Tryz.func39, Tryz.ntmps39
  go_wp2_with fail
  (with_reducible refine CV.out.mono ?_)
  rintro e w1 ⟨c1, rfl, hc1, hb1⟩
  have HB1 := Lib.hid hb1; have HC1 := Lib.hid hc1
  clear hb1 hc1
  go_wp2_with fail
  (with_reducible refine (CM.out _ HB1.out _ _ _).mono ?_)
  rintro e w2 ⟨c2, rfl, hc2, hb2⟩
  have HB2 := Lib.hid (below1 HB1.out hb2); have HC2 := Lib.hid hc2; have HC12 := Lib.hid (HC1.out.below hb2)
  clear hb2 hc2
  go_wp2_with fail
  (with_reducible refine (CM.out _ HB2.out _ _ _).mono ?_)
  rintro e w3 ⟨c3, rfl, hc3, hb3⟩
  have HB3 := Lib.hid (below1 HB2.out hb3); have HC3 := Lib.hid hc3; have HC13 := Lib.hid (HC12.out.below hb3); have HC23 := Lib.hid (HC2.out.below hb3)
  clear hb3 hc3
  have ba := (Below.refl w3.heap.size w3).alloc (Nat.le_refl _) (.cells #[fV2 c1, fV2 c2, fV2 c3] 81)
  have HL := Lib.hid (Lv.lit w3 ([c1, c2, c3].map fV2) 81)
  have CBB := Lib.hid (CB.out _ (below1 HB3.out ba) c1 c2 c3 w3.heap.size (HC13.out.below ba) (HC23.out.below ba) (HC3.out.below ba) HL.out)
  have HB4 := Lib.hid (below1 HB3.out ba)
  have HS4 := Lib.hid (show w.heap.size + 2 < (w3.alloc (.cells #[fV2 c1, fV2 c2, fV2 c3] 81)).heap.size from by have := (Array.getElem?_eq_some_iff.1 (H2.out _ HB4.out)).1; exact this)
  clear ba
  go_wp2_with fail
  (with_reducible refine CBB.out.mono ?_)
  rintro e w5 ⟨rfl, hb5, hk5⟩
  have H5 := hk5.block (b := w.heap.size + 2) (by omega) (H2.out _ HB4.out)
  obtain ⟨r1, r2, r3, r4⟩ := box2 H5
  obtain ⟨s1, s2, _, _⟩ := box2 (put2_heap H5 (.string (oN o)) (.string (oD o)))
  have HP := Lib.hid (show QOut w o (.returned (.tuple #[.agg #[.string (oN o), .string (oD o)], .int .i64 (oE o)])) (put2 w5 (w.heap.size + 2) (.string (oN o)) (.string (oD o))) from ⟨rfl, put2_below hb5 (by omega) _ _⟩)
  clear hb5 hk5 H5
  generalize oN o = x at *
  generalize oD o = y at *
  generalize oE o = n at *
  go_wp2
  refine bodyPost_ret (v := .tuple #[.agg #[.string x, .string y], .int .i64 n]) (by simp [results, Tryz.results39, go_sem, s1, s2]) rfl ?_
  exact HP.out

/-- The blocks that the walk makes first. -/
theorem blocks_Div (p q : Pr) (w : World) : ∃ wA, ((((w.alloc (.cells #[.string p.1, .string p.2] 23)).alloc (.cells #[.string q.1, .string q.2] 23)).alloc (.cells #[.string ⟨#[]⟩, .string ⟨#[]⟩] 23)).alloc (.cells #[.string ⟨#[]⟩, .string ⟨#[]⟩] 23)).alloc (.cells #[.string p.1, .string p.2, .string q.1, .string q.2] 23) = wA ∧ Below w.heap.size w wA ∧ wA.heap.size = w.heap.size + 5 ∧ wA.heap[w.heap.size]? = some (.cells #[.string p.1, .string p.2] 23) ∧ wA.heap[w.heap.size + 1]? = some (.cells #[.string q.1, .string q.2] 23) ∧ wA.heap[w.heap.size + 2]? = some (.cells #[.string ⟨#[]⟩, .string ⟨#[]⟩] 23) ∧ wA.heap[w.heap.size + 3]? = some (.cells #[.string ⟨#[]⟩, .string ⟨#[]⟩] 23) ∧ wA.heap[w.heap.size + 4]? = some (.cells #[.string p.1, .string p.2, .string q.1, .string q.2] 23) := by
  refine ⟨_, rfl, (((((Below.refl w.heap.size w).alloc (Nat.le_refl _) _).alloc (by simp) _).alloc (by simp; omega) _).alloc (by simp; omega) _).alloc (by simp; omega) _, by simp, ?_, ?_, ?_, ?_, ?_⟩
  · exact (Below.heap_alloc _ _ _ (by simp <;> omega)).trans ((Below.heap_alloc _ _ _ (by simp <;> omega)).trans ((Below.heap_alloc _ _ _ (by simp <;> omega)).trans ((Below.heap_alloc _ _ _ (by simp)).trans (heap_new' _ _ _ rfl))))
  · exact (Below.heap_alloc _ _ _ (by simp <;> omega)).trans ((Below.heap_alloc _ _ _ (by simp <;> omega)).trans ((Below.heap_alloc _ _ _ (by simp <;> omega)).trans (heap_new' _ _ _ (by simp))))
  · exact (Below.heap_alloc _ _ _ (by simp <;> omega)).trans ((Below.heap_alloc _ _ _ (by simp <;> omega)).trans (heap_new' _ _ _ (by simp)))
  · exact (Below.heap_alloc _ _ _ (by simp <;> omega)).trans (heap_new' _ _ _ (by simp))
  · exact heap_new' _ _ _ (by simp)
set_option maxRecDepth 100000 in
set_option maxHeartbeats 2000000 in
theorem qdiv_any (p q : Pr) (w : World) (hsp : p.1.size ≤ 9223372036854775807 ∧ p.2.size ≤ 9223372036854775807) (hsq : q.1.size ≤ 9223372036854775807 ∧ q.2.size ≤ 9223372036854775807) (ht : Tb w) :
    Calls Tryz.prog 45 #[.agg #[.string p.1, .string p.2], .agg #[.string q.1, .string q.2]] w (QOut w (prodO p q q.2 q.1)) := by
  obtain ⟨wA, hwA, hbA, hsA, h0, h1, h2, h3, h4⟩ := blocks_Div p q w
  have hD : ∀ k, k = w.heap.size + 3 → k < wA.heap.size := fun k hk => by omega
  have CV := Lib.hid (validm_any (fun k => k = w.heap.size + 3) (w.heap.size + 4) 2 [p, q] wA rfl hD (by simp) (by omega) (pr_cells h4))
  have CM := Lib.hid (fun W (hW : Below wA.heap.size wA W) zo xo yo => setm_any (fun k => k = w.heap.size + 3) 70 (w.heap.size + 3) zo w.heap.size xo (w.heap.size + 1) yo W (fun k hk => by have := hW.size; have := hD k hk; omega))
  have CB := Lib.hid (fun W (hW : Below wA.heap.size wA W) c1 c2 c3 (g : Nat) (hv : ValC (fun k => k = w.heap.size + 3) W c1 [p, q]) (hs1 : SetC (fun k => k = w.heap.size + 3) W c2 70 (w.heap.size + 3) 0 w.heap.size 0 (w.heap.size + 1) 1)
      (hs2 : SetC (fun k => k = w.heap.size + 3) W c3 70 (w.heap.size + 3) 1 w.heap.size 1 (w.heap.size + 1) 0) (hl : Lv W (.slice (some ⟨g, 0, none⟩) 3 3) ([c1, c2, c3].map fV2)) =>
    build_any (fun k => k = w.heap.size + 3) w W (w.heap.size + 3) (.slice (some ⟨g, 0, none⟩) 3 3) [c1, c2, c3] (opS mulF p.1 q.2) (opS mulF p.2 q.1) (prodO p q q.2 q.1)
      (hbA.trans (hW.mono hbA.size)) (fun k hk => by have := hW.size; have := hD k hk; omega) (fun k hk => by omega) rfl hl (by simp) ht (opS_size _ _ _) (opS_size _ _ _)
      (fun c hc => by
        simp only [List.mem_cons, List.mem_nil_iff, or_false] at hc
        rcases hc with rfl | rfl | rfl
        · exact hv.ent
        · exact hs1.ent
        · exact hs2.ent)
      (fun W' hW' => by
        have hbb := hW.trans (hW'.mono hW.size)
        obtain ⟨y1, y2, _, _⟩ := box2 (bl_up h1 hbb)
        exact prod_steps rfl (by simp) (by simp) (below1 (hbA.trans (hW.mono hbA.size)) hW') (by omega) ht (hv.below hW') (hs1.below hW') (hs2.below hW') (bl_up h0 hbb) y2 y1 (bl_up h3 hbb) hsp hsq (hsq.2) (hsq.1)))
  have H2 := Lib.hid (fun W (hW : Below wA.heap.size wA W) => bl_up h2 hW)
  have HBA := Lib.hid hbA
  obtain ⟨kk1, kk2⟩ : (w.alloc (.cells #[.string p.1, .string p.2] 23)).cell? ⟨w.heap.size, 0, none⟩ = (w.alloc (.cells #[.string p.1, .string p.2] 23)).cell? ⟨w.heap.size, 0, none⟩ ∧ True := ⟨rfl, trivial⟩
  clear kk1 kk2 hD h0 h1 h2 h3 h4 hbA hsA ht
  generalize prodO p q q.2 q.1 = o at *
  obtain ⟨pa, pb⟩ := p
  obtain ⟨qa, qb⟩ := q
  simp only at *
  go_enter Tryz.func45, Tryz.ntmps45
  go_wp2_with fail
  (with_reducible refine CV.out.mono ?_)
  rintro e w1 ⟨c1, rfl, hc1, hb1⟩
  have HB1 := Lib.hid hb1; have HC1 := Lib.hid hc1
  clear hb1 hc1
  go_wp2_with fail
  (with_reducible refine (CM.out _ HB1.out _ _ _).mono ?_)
  rintro e w2 ⟨c2, rfl, hc2, hb2⟩
  have HB2 := Lib.hid (below1 HB1.out hb2); have HC2 := Lib.hid hc2; have HC12 := Lib.hid (HC1.out.below hb2)
  clear hb2 hc2
  go_wp2_with fail
  (with_reducible refine (CM.out _ HB2.out _ _ _).mono ?_)
  rintro e w3 ⟨c3, rfl, hc3, hb3⟩
  have HB3 := Lib.hid (below1 HB2.out hb3); have HC3 := Lib.hid hc3; have HC13 := Lib.hid (HC12.out.below hb3); have HC23 := Lib.hid (HC2.out.below hb3)
  clear hb3 hc3
  have ba := (Below.refl w3.heap.size w3).alloc (Nat.le_refl _) (.cells #[fV2 c1, fV2 c2, fV2 c3] 81)
  have HL := Lib.hid (Lv.lit w3 ([c1, c2, c3].map fV2) 81)
  have CBB := Lib.hid (CB.out _ (below1 HB3.out ba) c1 c2 c3 w3.heap.size (HC13.out.below ba) (HC23.out.below ba) (HC3.out.below ba) HL.out)
  have HB4 := Lib.hid (below1 HB3.out ba)
  have HS4 := Lib.hid (show w.heap.size + 2 < (w3.alloc (.cells #[fV2 c1, fV2 c2, fV2 c3] 81)).heap.size from by have := (Array.getElem?_eq_some_iff.1 (H2.out _ HB4.out)).1; exact this)
  clear ba
  go_wp2_with fail
  (with_reducible refine CBB.out.mono ?_)
  rintro e w5 ⟨rfl, hb5, hk5⟩
  have H5 := hk5.block (b := w.heap.size + 2) (by omega) (H2.out _ HB4.out)
  obtain ⟨r1, r2, r3, r4⟩ := box2 H5
  obtain ⟨s1, s2, _, _⟩ := box2 (put2_heap H5 (.string (oN o)) (.string (oD o)))
  have HP := Lib.hid (show QOut w o (.returned (.tuple #[.agg #[.string (oN o), .string (oD o)], .int .i64 (oE o)])) (put2 w5 (w.heap.size + 2) (.string (oN o)) (.string (oD o))) from ⟨rfl, put2_below hb5 (by omega) _ _⟩)
  clear hb5 hk5 H5
  generalize oN o = x at *
  generalize oD o = y at *
  generalize oE o = n at *
  go_wp2
  refine bodyPost_ret (v := .tuple #[.agg #[.string x, .string y], .int .i64 n]) (by simp [results, Tryz.results45, go_sem, s1, s2]) rfl ?_
  exact HP.out

/-- The blocks that the walk makes first. -/
theorem blocks_Sum (p q : Pr) (w : World) : ∃ wA, ((((((w.alloc (.cells #[.string p.1, .string p.2] 23)).alloc (.cells #[.string q.1, .string q.2] 23)).alloc (.cells #[.string ⟨#[]⟩, .string ⟨#[]⟩] 23)).alloc (.cells #[.string ⟨#[]⟩, .string ⟨#[]⟩] 23)).alloc (.cells #[.string ⟨#[]⟩] 9)).alloc (.cells #[.string ⟨#[]⟩] 9)).alloc (.cells #[.string p.1, .string p.2, .string q.1, .string q.2] 23) = wA ∧ Below w.heap.size w wA ∧ wA.heap.size = w.heap.size + 7 ∧ wA.heap[w.heap.size]? = some (.cells #[.string p.1, .string p.2] 23) ∧ wA.heap[w.heap.size + 1]? = some (.cells #[.string q.1, .string q.2] 23) ∧ wA.heap[w.heap.size + 2]? = some (.cells #[.string ⟨#[]⟩, .string ⟨#[]⟩] 23) ∧ wA.heap[w.heap.size + 3]? = some (.cells #[.string ⟨#[]⟩, .string ⟨#[]⟩] 23) ∧ wA.heap[w.heap.size + 4]? = some (.cells #[.string ⟨#[]⟩] 9) ∧ wA.heap[w.heap.size + 5]? = some (.cells #[.string ⟨#[]⟩] 9) ∧ wA.heap[w.heap.size + 6]? = some (.cells #[.string p.1, .string p.2, .string q.1, .string q.2] 23) := by
  refine ⟨_, rfl, (((((((Below.refl w.heap.size w).alloc (Nat.le_refl _) _).alloc (by simp) _).alloc (by simp; omega) _).alloc (by simp; omega) _).alloc (by simp; omega) _).alloc (by simp; omega) _).alloc (by simp; omega) _, by simp, ?_, ?_, ?_, ?_, ?_, ?_, ?_⟩
  · exact (Below.heap_alloc _ _ _ (by simp <;> omega)).trans ((Below.heap_alloc _ _ _ (by simp <;> omega)).trans ((Below.heap_alloc _ _ _ (by simp <;> omega)).trans ((Below.heap_alloc _ _ _ (by simp <;> omega)).trans ((Below.heap_alloc _ _ _ (by simp <;> omega)).trans ((Below.heap_alloc _ _ _ (by simp)).trans (heap_new' _ _ _ rfl))))))
  · exact (Below.heap_alloc _ _ _ (by simp <;> omega)).trans ((Below.heap_alloc _ _ _ (by simp <;> omega)).trans ((Below.heap_alloc _ _ _ (by simp <;> omega)).trans ((Below.heap_alloc _ _ _ (by simp <;> omega)).trans ((Below.heap_alloc _ _ _ (by simp <;> omega)).trans (heap_new' _ _ _ (by simp))))))
  · exact (Below.heap_alloc _ _ _ (by simp <;> omega)).trans ((Below.heap_alloc _ _ _ (by simp <;> omega)).trans ((Below.heap_alloc _ _ _ (by simp <;> omega)).trans ((Below.heap_alloc _ _ _ (by simp <;> omega)).trans (heap_new' _ _ _ (by simp)))))
  · exact (Below.heap_alloc _ _ _ (by simp <;> omega)).trans ((Below.heap_alloc _ _ _ (by simp <;> omega)).trans ((Below.heap_alloc _ _ _ (by simp <;> omega)).trans (heap_new' _ _ _ (by simp))))
  · exact (Below.heap_alloc _ _ _ (by simp <;> omega)).trans ((Below.heap_alloc _ _ _ (by simp <;> omega)).trans (heap_new' _ _ _ (by simp)))
  · exact (Below.heap_alloc _ _ _ (by simp <;> omega)).trans (heap_new' _ _ _ (by simp))
  · exact heap_new' _ _ _ (by simp)
set_option maxRecDepth 100000 in
set_option maxHeartbeats 2000000 in
theorem qsum_any (p q : Pr) (F : Nat) (f : Int → Int → Int) (hEF : Ent F)
    (hF : ∀ a b W', a.size ≤ 9223372036854775807 → b.size ≤ 9223372036854775807 → Tb W' → Calls Tryz.prog F #[.string a, .string b] W' (ResOut W' (opS f a b) (opE f a b)))
    (w : World) (hsp : p.1.size ≤ 9223372036854775807 ∧ p.2.size ≤ 9223372036854775807) (hsq : q.1.size ≤ 9223372036854775807 ∧ q.2.size ≤ 9223372036854775807) (ht : Tb w) :
    Calls Tryz.prog 67 #[.agg #[.string p.1, .string p.2], .agg #[.string q.1, .string q.2], .func (.func F) #[] #[]] w (QOut w (sumO f p q)) := by
  obtain ⟨wA, hwA, hbA, hsA, h0, h1, h2, h3, h4, h5, h6⟩ := blocks_Sum p q w
  have hD : ∀ k, (k = w.heap.size + 3 ∨ k = w.heap.size + 4 ∨ k = w.heap.size + 5) → k < wA.heap.size := fun k hk => by omega
  have CV := Lib.hid (validm_any (fun k => k = w.heap.size + 3 ∨ k = w.heap.size + 4 ∨ k = w.heap.size + 5) (w.heap.size + 6) 2 [p, q] wA rfl hD (by omega) (by omega) (pr_cells h6))
  have CM := Lib.hid (fun W (hW : Below wA.heap.size wA W) K zb zo xb xo yb yo => setm_any (fun k => k = w.heap.size + 3 ∨ k = w.heap.size + 4 ∨ k = w.heap.size + 5) K zb zo xb xo yb yo W (fun k hk => by have := hW.size; have := hD k hk; omega))
  have CB := Lib.hid (fun W (hW : Below wA.heap.size wA W) c1 c2 c3 c4 c5 (g : Nat) (hv : ValC (fun k => k = w.heap.size + 3 ∨ k = w.heap.size + 4 ∨ k = w.heap.size + 5) W c1 [p, q]) (hs2 : SetC (fun k => k = w.heap.size + 3 ∨ k = w.heap.size + 4 ∨ k = w.heap.size + 5) W c2 70 (w.heap.size + 4) 0 w.heap.size 0 (w.heap.size + 1) 1)
      (hs3 : SetC (fun k => k = w.heap.size + 3 ∨ k = w.heap.size + 4 ∨ k = w.heap.size + 5) W c3 70 (w.heap.size + 5) 0 (w.heap.size + 1) 0 w.heap.size 1) (hs4 : SetC (fun k => k = w.heap.size + 3 ∨ k = w.heap.size + 4 ∨ k = w.heap.size + 5) W c4 F (w.heap.size + 3) 0 (w.heap.size + 4) 0 (w.heap.size + 5) 0)
      (hs5 : SetC (fun k => k = w.heap.size + 3 ∨ k = w.heap.size + 4 ∨ k = w.heap.size + 5) W c5 70 (w.heap.size + 3) 1 w.heap.size 1 (w.heap.size + 1) 1) (hl : Lv W (.slice (some ⟨g, 0, none⟩) 5 5) ([c1, c2, c3, c4, c5].map fV2)) =>
    build_any (fun k => k = w.heap.size + 3 ∨ k = w.heap.size + 4 ∨ k = w.heap.size + 5) w W (w.heap.size + 3) (.slice (some ⟨g, 0, none⟩) 5 5) [c1, c2, c3, c4, c5] (opS f (opS mulF p.1 q.2) (opS mulF q.1 p.2)) (opS mulF p.2 q.2) (sumO f p q)
      (hbA.trans (hW.mono hbA.size)) (fun k hk => by have := hW.size; have := hD k hk; omega) (fun k hk => by omega) (.inl rfl) hl (by simp) ht (opS_size _ _ _) (opS_size _ _ _)
      (fun c hc => by
        simp only [List.mem_cons, List.mem_nil_iff, or_false] at hc
        rcases hc with rfl | rfl | rfl | rfl | rfl
        · exact hv.ent
        · exact hs2.ent
        · exact hs3.ent
        · exact hs4.ent
        · exact hs5.ent)
      (fun W' hW' => by
        have hbb := hW.trans (hW'.mono hW.size)
        exact sum_steps (A := w.heap.size) (B := w.heap.size + 1) (PA := w.heap.size + 4) (PB := w.heap.size + 5) hEF hF (.inl rfl) (.inr (.inl rfl)) (.inr (.inr rfl)) (by omega) (by omega) (by omega) (by omega) (by omega) (below1 (hbA.trans (hW.mono hbA.size)) hW') (by omega) (by omega) (by omega) ht
          (hv.below hW') (hs2.below hW') (hs3.below hW') (hs4.below hW') (hs5.below hW') (bl_up h0 hbb) (bl_up h1 hbb) (bl_up h4 hbb) (bl_up h5 hbb) (bl_up h3 hbb) hsp hsq))
  have H2 := Lib.hid (fun W (hW : Below wA.heap.size wA W) => bl_up h2 hW)
  have HBA := Lib.hid hbA
  clear hD h0 h1 h2 h3 h4 h5 h6 hbA hsA ht hEF hF
  generalize sumO f p q = o at *
  obtain ⟨pa, pb⟩ := p
  obtain ⟨qa, qb⟩ := q
  simp only at *
  go_enter Tryz.func67, Tryz.ntmps67
  go_wp2_with fail
  (with_reducible refine CV.out.mono ?_)
  rintro e w1 ⟨c1, rfl, hc1, hb1⟩
  have HB1 := Lib.hid hb1; have HC1_1 := Lib.hid hc1
  clear hb1 hc1
  go_wp2_with fail
  (with_reducible refine (CM.out _ HB1.out _ _ _ _ _ _ _).mono ?_)
  rintro e w2 ⟨c2, rfl, hc2, hb2⟩
  have HB2 := Lib.hid (below1 HB1.out hb2); have HC2_2 := Lib.hid hc2
  have HC1_2 := Lib.hid (HC1_1.out.below hb2)
  clear hb2 hc2
  go_wp2_with fail
  (with_reducible refine (CM.out _ HB2.out _ _ _ _ _ _ _).mono ?_)
  rintro e w3 ⟨c3, rfl, hc3, hb3⟩
  have HB3 := Lib.hid (below1 HB2.out hb3); have HC3_3 := Lib.hid hc3
  have HC1_3 := Lib.hid (HC1_2.out.below hb3)
  have HC2_3 := Lib.hid (HC2_2.out.below hb3)
  clear hb3 hc3
  go_wp2_with fail
  (with_reducible refine (CM.out _ HB3.out _ _ _ _ _ _ _).mono ?_)
  rintro e w4 ⟨c4, rfl, hc4, hb4⟩
  have HB4 := Lib.hid (below1 HB3.out hb4); have HC4_4 := Lib.hid hc4
  have HC1_4 := Lib.hid (HC1_3.out.below hb4)
  have HC2_4 := Lib.hid (HC2_3.out.below hb4)
  have HC3_4 := Lib.hid (HC3_3.out.below hb4)
  clear hb4 hc4
  go_wp2_with fail
  (with_reducible refine (CM.out _ HB4.out _ _ _ _ _ _ _).mono ?_)
  rintro e w5 ⟨c5, rfl, hc5, hb5⟩
  have HB5 := Lib.hid (below1 HB4.out hb5); have HC5_5 := Lib.hid hc5
  have HC1_5 := Lib.hid (HC1_4.out.below hb5)
  have HC2_5 := Lib.hid (HC2_4.out.below hb5)
  have HC3_5 := Lib.hid (HC3_4.out.below hb5)
  have HC4_5 := Lib.hid (HC4_4.out.below hb5)
  clear hb5 hc5
  have ba := (Below.refl w5.heap.size w5).alloc (Nat.le_refl _) (.cells #[fV2 c1, fV2 c2, fV2 c3, fV2 c4, fV2 c5] 81)
  have HL := Lib.hid (Lv.lit w5 ([c1, c2, c3, c4, c5].map fV2) 81)
  have CBB := Lib.hid (CB.out _ (below1 HB5.out ba) c1 c2 c3 c4 c5 w5.heap.size (HC1_5.out.below ba) (HC2_5.out.below ba) (HC3_5.out.below ba) (HC4_5.out.below ba) (HC5_5.out.below ba) HL.out)
  have HB6 := Lib.hid (below1 HB5.out ba)
  clear ba
  go_wp2_with fail
  (with_reducible refine CBB.out.mono ?_)
  rintro e w7 ⟨rfl, hb7, hk7⟩
  have H7 := hk7.block (b := w.heap.size + 2) (by omega) (H2.out _ HB6.out)
  obtain ⟨r1, r2, r3, r4⟩ := box2 H7
  obtain ⟨s1, s2, _, _⟩ := box2 (put2_heap H7 (.string (oN o)) (.string (oD o)))
  have HP := Lib.hid (show QOut w o (.returned (.tuple #[.agg #[.string (oN o), .string (oD o)], .int .i64 (oE o)])) (put2 w7 (w.heap.size + 2) (.string (oN o)) (.string (oD o))) from ⟨rfl, put2_below hb7 (by omega) _ _⟩)
  clear hb7 hk7 H7
  generalize oN o = x at *
  generalize oD o = y at *
  generalize oE o = n at *
  go_wp2
  refine bodyPost_ret (v := .tuple #[.agg #[.string x, .string y], .int .i64 n]) (by simp [results, Tryz.results67, go_sem, s1, s2]) rfl ?_
  exact HP.out

set_option maxRecDepth 100000 in
set_option maxHeartbeats 1000000 in
theorem qadds_any (p q : Pr) (w : World) (hsp : p.1.size ≤ 9223372036854775807 ∧ p.2.size ≤ 9223372036854775807) (hsq : q.1.size ≤ 9223372036854775807 ∧ q.2.size ≤ 9223372036854775807) (ht : Tb w) :
    Calls Tryz.prog 38 #[.agg #[.string p.1, .string p.2], .agg #[.string q.1, .string q.2]] w (QOut w (sumO (fun x y => x + y) p q)) := by
  obtain ⟨wA, hwA⟩ : ∃ wA, ((w.alloc (.cells #[.string p.1, .string p.2] 23)).alloc (.cells #[.string q.1, .string q.2] 23)).alloc (.cells #[.string ⟨#[]⟩, .string ⟨#[]⟩] 23) = wA := ⟨_, rfl⟩
  have hbA : Below w.heap.size w wA := by rw [← hwA]; exact (((Below.refl w.heap.size w).alloc (Nat.le_refl _) _).alloc (by simp) _).alloc (by simp <;> omega) _
  have h0 : wA.heap[w.heap.size + 2]? = some (.cells #[.string ⟨#[]⟩, .string ⟨#[]⟩] 23) := by rw [← hwA]; exact heap_new' _ _ _ (by simp)
  obtain ⟨m0, k0, _, _⟩ := box2 (show wA.heap[w.heap.size]? = some (.cells #[.string p.1, .string p.2] 23) by rw [← hwA]; exact (Below.heap_alloc _ _ _ (by simp <;> omega)).trans ((Below.heap_alloc _ _ _ (by simp)).trans (heap_new' _ _ _ rfl)))
  obtain ⟨m1, k1, _, _⟩ := box2 (show wA.heap[w.heap.size + 1]? = some (.cells #[.string q.1, .string q.2] 23) by rw [← hwA]; exact (Below.heap_alloc _ _ _ (by simp <;> omega)).trans (heap_new' _ _ _ (by simp)))
  have CC := Lib.hid (qsum_any p q 59 (fun x y => x + y) ent_add (fun a b W' ha hb ht => add_any a b W' ha hb ht) wA hsp hsq (ht.below hbA))
  have H0 := Lib.hid h0; have HBA := Lib.hid hbA
  clear hbA h0 ht
  generalize (sumO (fun x y => x + y) p q) = o at *
  obtain ⟨pa, pb⟩ := p
  obtain ⟨qa, qb⟩ := q
  simp only at *
  go_enter Tryz.func38, Tryz.ntmps38
  go_wp2_with fail
  (with_reducible refine CC.out.mono ?_)
  rintro e w1 ⟨rfl, hb1⟩
  have H1 := bl_up H0.out hb1
  obtain ⟨r1, r2, r3, r4⟩ := box2 H1
  obtain ⟨s1, s2, _, _⟩ := box2 (put2_heap H1 (.string (oN o)) (.string (oD o)))
  have HP := Lib.hid (show QOut w o (.returned (.tuple #[.agg #[.string (oN o), .string (oD o)], .int .i64 (oE o)])) (put2 w1 (w.heap.size + 2) (.string (oN o)) (.string (oD o))) from ⟨rfl, put2_below (below1 HBA.out hb1) (by omega) _ _⟩)
  clear hb1 H1
  generalize oN o = x at *
  generalize oD o = y at *
  generalize oE o = n at *
  go_wp2
  refine bodyPost_ret (v := .tuple #[.agg #[.string x, .string y], .int .i64 n]) (by simp [results, Tryz.results38, go_sem, s1, s2]) rfl ?_
  exact HP.out

set_option maxRecDepth 100000 in
set_option maxHeartbeats 1000000 in
theorem qsubs_any (p q : Pr) (w : World) (hsp : p.1.size ≤ 9223372036854775807 ∧ p.2.size ≤ 9223372036854775807) (hsq : q.1.size ≤ 9223372036854775807 ∧ q.2.size ≤ 9223372036854775807) (ht : Tb w) :
    Calls Tryz.prog 40 #[.agg #[.string p.1, .string p.2], .agg #[.string q.1, .string q.2]] w (QOut w (sumO (fun x y => x - y) p q)) := by
  obtain ⟨wA, hwA⟩ : ∃ wA, ((w.alloc (.cells #[.string p.1, .string p.2] 23)).alloc (.cells #[.string q.1, .string q.2] 23)).alloc (.cells #[.string ⟨#[]⟩, .string ⟨#[]⟩] 23) = wA := ⟨_, rfl⟩
  have hbA : Below w.heap.size w wA := by rw [← hwA]; exact (((Below.refl w.heap.size w).alloc (Nat.le_refl _) _).alloc (by simp) _).alloc (by simp <;> omega) _
  have h0 : wA.heap[w.heap.size + 2]? = some (.cells #[.string ⟨#[]⟩, .string ⟨#[]⟩] 23) := by rw [← hwA]; exact heap_new' _ _ _ (by simp)
  obtain ⟨m0, k0, _, _⟩ := box2 (show wA.heap[w.heap.size]? = some (.cells #[.string p.1, .string p.2] 23) by rw [← hwA]; exact (Below.heap_alloc _ _ _ (by simp <;> omega)).trans ((Below.heap_alloc _ _ _ (by simp)).trans (heap_new' _ _ _ rfl)))
  obtain ⟨m1, k1, _, _⟩ := box2 (show wA.heap[w.heap.size + 1]? = some (.cells #[.string q.1, .string q.2] 23) by rw [← hwA]; exact (Below.heap_alloc _ _ _ (by simp <;> omega)).trans (heap_new' _ _ _ (by simp)))
  have CC := Lib.hid (qsum_any p q 71 (fun x y => x - y) ent_sub (fun a b W' ha hb ht => sub_any a b W' ha hb ht) wA hsp hsq (ht.below hbA))
  have H0 := Lib.hid h0; have HBA := Lib.hid hbA
  clear hbA h0 ht
  generalize (sumO (fun x y => x - y) p q) = o at *
  obtain ⟨pa, pb⟩ := p
  obtain ⟨qa, qb⟩ := q
  simp only at *
  go_enter Tryz.func40, Tryz.ntmps40
  go_wp2_with fail
  (with_reducible refine CC.out.mono ?_)
  rintro e w1 ⟨rfl, hb1⟩
  have H1 := bl_up H0.out hb1
  obtain ⟨r1, r2, r3, r4⟩ := box2 H1
  obtain ⟨s1, s2, _, _⟩ := box2 (put2_heap H1 (.string (oN o)) (.string (oD o)))
  have HP := Lib.hid (show QOut w o (.returned (.tuple #[.agg #[.string (oN o), .string (oD o)], .int .i64 (oE o)])) (put2 w1 (w.heap.size + 2) (.string (oN o)) (.string (oD o))) from ⟨rfl, put2_below (below1 HBA.out hb1) (by omega) _ _⟩)
  clear hb1 H1
  generalize oN o = x at *
  generalize oD o = y at *
  generalize oE o = n at *
  go_wp2
  refine bodyPost_ret (v := .tuple #[.agg #[.string x, .string y], .int .i64 n]) (by simp [results, Tryz.results40, go_sem, s1, s2]) rfl ?_
  exact HP.out

end Go.Proofs.YtcjcafekacceiaaGreatDoor
