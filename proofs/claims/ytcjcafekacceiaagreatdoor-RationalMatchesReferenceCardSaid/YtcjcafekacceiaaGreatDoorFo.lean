/- The law's four and minus, walked. -/
import Derived.Test.YtcjcafekacceiaaGreatDoorSm
namespace Go.Proofs.YtcjcafekacceiaaGreatDoor
open Go.RowKit
set_option linter.unusedVariables false
set_option linter.unusedSimpArgs false

theorem setc_at {W : World} {B : Nat} {cs : Array Value} {T : TypeId} (h : W.heap[B]? = some (.cells cs T)) (k : Nat) (v : Value) : (W.setCell ⟨B, k, none⟩ v).heap[B]? = some (.cells (cs.setIfInBounds k v) T) := by
  have hlt : B < W.heap.size := (Array.getElem?_eq_some_iff.1 h).1
  simp [World.setCell, Array.getElem?_modify, h]
theorem cell_at {W : World} {B : Nat} {cs : Array Value} {T : TypeId} (h : W.heap[B]? = some (.cells cs T)) (k : Nat) : W.cell? ⟨B, k, none⟩ = cs[k]? := by simp [World.cell?, h]
theorem froz_at {W : World} {B : Nat} {cs : Array Value} {T : TypeId} (h : W.heap[B]? = some (.cells cs T)) (k : Nat) : W.frozen? ⟨B, k, none⟩ = false := by simp [World.frozen?, h]
theorem drew_at {W : World} {B : Nat} {o : Option Obj} (h : W.heap[B]? = o) : W.drew.heap[B]? = o := h
theorem kdset {D : Nat → Prop} {A W : World} {b o : Nat} {v : Value} (h : KD D A W) (hd : D b) : KD D A (W.setCell ⟨b, o, none⟩ v) := h.trans (KD.set W ⟨b, o, none⟩ v hd)
def FourOut (w : World) (o1 o2 o3 o4 : Option Rat) (e : Ending) (w' : World) : Prop :=
  e = .returned (.tuple #[.agg #[.string (oN o1), .string (oD o1), .string (oN o2), .string (oD o2), .string (oN o3), .string (oD o3), .string (oN o4), .string (oD o4)], .agg #[.int .i64 (oE o1), .int .i64 (oE o2), .int .i64 (oE o3), .int .i64 (oE o4)]]) ∧ Below w.heap.size w w'

set_option maxRecDepth 100000 in
set_option maxHeartbeats 8000000 in
theorem four_any (p q : Pr) (o1 o2 o3 o4 : Option Rat) (w : World)
    (h1 : ∀ W, Below w.heap.size w W → Calls Tryz.prog 38 #[.agg #[.string p.1, .string p.2], .agg #[.string q.1, .string q.2]] W (QOut W o1))
    (h2 : ∀ W, Below w.heap.size w W → Calls Tryz.prog 40 #[.agg #[.string p.1, .string p.2], .agg #[.string q.1, .string q.2]] W (QOut W o2))
    (h3 : ∀ W, Below w.heap.size w W → Calls Tryz.prog 39 #[.agg #[.string p.1, .string p.2], .agg #[.string q.1, .string q.2]] W (QOut W o3))
    (h4 : ∀ W, Below w.heap.size w W → Calls Tryz.prog 45 #[.agg #[.string p.1, .string p.2], .agg #[.string q.1, .string q.2]] W (QOut W o4)) :
    Calls Tryz.prog 15 #[.agg #[.string p.1, .string p.2], .agg #[.string q.1, .string q.2]] w (FourOut w o1 o2 o3 o4) := by
  obtain ⟨W0, hW0⟩ : ∃ V, (((((w.alloc (.cells #[.string p.1, .string p.2] 23)).alloc (.cells #[.string q.1, .string q.2] 23)).alloc (.cells #[.string ⟨#[]⟩, .string ⟨#[]⟩, .string ⟨#[]⟩, .string ⟨#[]⟩, .string ⟨#[]⟩, .string ⟨#[]⟩, .string ⟨#[]⟩, .string ⟨#[]⟩] 31)).alloc (.cells #[.int .i64 0, .int .i64 0, .int .i64 0, .int .i64 0] 33)).alloc (.cells #[.string ⟨#[]⟩, .string ⟨#[]⟩, .string ⟨#[]⟩, .string ⟨#[]⟩, .string ⟨#[]⟩, .string ⟨#[]⟩, .string ⟨#[]⟩, .string ⟨#[]⟩] 31)).alloc (.cells #[.int .i64 0, .int .i64 0, .int .i64 0, .int .i64 0] 33) = V := ⟨_, rfl⟩
  have B0 : Below w.heap.size w W0 := by rw [← hW0]; exact ((((((Below.refl w.heap.size w).alloc (Nat.le_refl _) _).alloc (by simp <;> omega) _).alloc (by simp <;> omega) _).alloc (by simp <;> omega) _).alloc (by simp <;> omega) _).alloc (by simp <;> omega) _
  have k0 : W0.heap[w.heap.size]? = some (.cells #[.string p.1, .string p.2] 23) := by rw [← hW0]; exact (Below.heap_alloc _ _ _ (by simp <;> omega)).trans ((Below.heap_alloc _ _ _ (by simp <;> omega)).trans ((Below.heap_alloc _ _ _ (by simp <;> omega)).trans ((Below.heap_alloc _ _ _ (by simp <;> omega)).trans ((Below.heap_alloc _ _ _ (by simp <;> omega)).trans (heap_new' _ _ _ rfl)))))
  have k1 : W0.heap[w.heap.size + 1]? = some (.cells #[.string q.1, .string q.2] 23) := by rw [← hW0]; exact (Below.heap_alloc _ _ _ (by simp <;> omega)).trans ((Below.heap_alloc _ _ _ (by simp <;> omega)).trans ((Below.heap_alloc _ _ _ (by simp <;> omega)).trans ((Below.heap_alloc _ _ _ (by simp <;> omega)).trans (heap_new' _ _ _ (by simp)))))
  have k2 : W0.heap[w.heap.size + 2]? = some (.cells #[.string ⟨#[]⟩, .string ⟨#[]⟩, .string ⟨#[]⟩, .string ⟨#[]⟩, .string ⟨#[]⟩, .string ⟨#[]⟩, .string ⟨#[]⟩, .string ⟨#[]⟩] 31) := by rw [← hW0]; exact (Below.heap_alloc _ _ _ (by simp <;> omega)).trans ((Below.heap_alloc _ _ _ (by simp <;> omega)).trans ((Below.heap_alloc _ _ _ (by simp <;> omega)).trans (heap_new' _ _ _ (by simp))))
  have k3 : W0.heap[w.heap.size + 3]? = some (.cells #[.int .i64 0, .int .i64 0, .int .i64 0, .int .i64 0] 33) := by rw [← hW0]; exact (Below.heap_alloc _ _ _ (by simp <;> omega)).trans ((Below.heap_alloc _ _ _ (by simp <;> omega)).trans (heap_new' _ _ _ (by simp)))
  have k4 : W0.heap[w.heap.size + 4]? = some (.cells #[.string ⟨#[]⟩, .string ⟨#[]⟩, .string ⟨#[]⟩, .string ⟨#[]⟩, .string ⟨#[]⟩, .string ⟨#[]⟩, .string ⟨#[]⟩, .string ⟨#[]⟩] 31) := by rw [← hW0]; exact (Below.heap_alloc _ _ _ (by simp <;> omega)).trans (heap_new' _ _ _ (by simp))
  have k5 : W0.heap[w.heap.size + 5]? = some (.cells #[.int .i64 0, .int .i64 0, .int .i64 0, .int .i64 0] 33) := by rw [← hW0]; exact heap_new' _ _ _ (by simp)
  have H1 := Lib.hid h1; have H2 := Lib.hid h2; have H3 := Lib.hid h3; have H4 := Lib.hid h4
  have HB0 := Lib.hid B0
  have HA0 := Lib.hid k0; have HQ0 := Lib.hid k1; have HX0 := Lib.hid k2; have HY0 := Lib.hid k3; have HR0 := Lib.hid k4; have HE0 := Lib.hid k5
  have HF := Lib.hid (fun W' (hb : Below w.heap.size w W') => show FourOut w o1 o2 o3 o4 (.returned (.tuple #[.agg #[.string (oN o1), .string (oD o1), .string (oN o2), .string (oD o2), .string (oN o3), .string (oD o3), .string (oN o4), .string (oD o4)], .agg #[.int .i64 (oE o1), .int .i64 (oE o2), .int .i64 (oE o3), .int .i64 (oE o4)]])) W' from ⟨rfl, hb⟩)
  clear h1 h2 h3 h4 B0 k0 k1 k2 k3 k4 k5
  have C1 := Lib.hid (fun W (hW : Below w.heap.size w W) => (H1.out W hW).mono (fun e W' h => show QRes W (oN o1) (oD o1) (oE o1) e W' from h))
  have C2 := Lib.hid (fun W (hW : Below w.heap.size w W) => (H2.out W hW).mono (fun e W' h => show QRes W (oN o2) (oD o2) (oE o2) e W' from h))
  have C3 := Lib.hid (fun W (hW : Below w.heap.size w W) => (H3.out W hW).mono (fun e W' h => show QRes W (oN o3) (oD o3) (oE o3) e W' from h))
  have C4 := Lib.hid (fun W (hW : Below w.heap.size w W) => (H4.out W hW).mono (fun e W' h => show QRes W (oN o4) (oD o4) (oE o4) e W' from h))
  generalize oN o1 = n1 at *
  generalize oD o1 = d1 at *
  generalize oE o1 = e1 at *
  generalize oN o2 = n2 at *
  generalize oD o2 = d2 at *
  generalize oE o2 = e2 at *
  generalize oN o3 = n3 at *
  generalize oD o3 = d3 at *
  generalize oE o3 = e3 at *
  generalize oN o4 = n4 at *
  generalize oD o4 = d4 at *
  generalize oE o4 = e4 at *
  obtain ⟨pa, pb⟩ := p
  obtain ⟨qa, qb⟩ := q
  simp only at *
  clear H1 H2 H3 H4
  go_enter Tryz.func15, Tryz.ntmps15
  obtain ⟨a1, a2, a3, a4⟩ := box2 HA0.out
  obtain ⟨b1, b2, b3, b4⟩ := box2 HQ0.out
  go_wp2_with fail
  (with_reducible refine (C1.out _ HB0.out).mono ?_)
  rintro e w1 ⟨rfl, hb⟩
  clear a1 a2 b1 b2 a3 b3 a4 b4 hW0
  have HAn := bl_up HA0.out hb
  have HQn := bl_up HQ0.out hb
  have HXn := bl_up HX0.out hb
  have HYn := bl_up HY0.out hb
  have HRn := bl_up HR0.out hb
  have HEn := bl_up HE0.out hb
  have HBn := below1 HB0.out hb
  have f1 := cell_at HRn 0; have f2 := cell_at HRn 1; have f3 := froz_at HRn 0; have f4 := froz_at HRn 1; have f5 := cell_at HEn 0; have f6 := froz_at HEn 0
  simp only [List.getElem?_toArray, List.getElem?_cons_zero, List.getElem?_cons_succ] at f1 f2 f5
  obtain ⟨W1, hW1⟩ : ∃ V, ((w1.setCell ⟨w.heap.size + 4, 0, none⟩ (.string n1)).setCell ⟨w.heap.size + 4, 1, none⟩ (.string d1)).setCell ⟨w.heap.size + 5, 0, none⟩ (.int .i64 e1) = V := ⟨_, rfl⟩
  have HA1 := Lib.hid (show W1.heap[w.heap.size]? = some (.cells #[.string pa, .string pb] 23) from by rw [← hW1]; exact (set_far (set_far (set_far HAn (by omega) _) (by omega) _) (by omega) _))
  have HQ1 := Lib.hid (show W1.heap[w.heap.size + 1]? = some (.cells #[.string qa, .string qb] 23) from by rw [← hW1]; exact (set_far (set_far (set_far HQn (by omega) _) (by omega) _) (by omega) _))
  have HX1 := Lib.hid (show W1.heap[w.heap.size + 2]? = some (.cells #[.string ⟨#[]⟩, .string ⟨#[]⟩, .string ⟨#[]⟩, .string ⟨#[]⟩, .string ⟨#[]⟩, .string ⟨#[]⟩, .string ⟨#[]⟩, .string ⟨#[]⟩] 31) from by rw [← hW1]; exact (set_far (set_far (set_far HXn (by omega) _) (by omega) _) (by omega) _))
  have HY1 := Lib.hid (show W1.heap[w.heap.size + 3]? = some (.cells #[.int .i64 0, .int .i64 0, .int .i64 0, .int .i64 0] 33) from by rw [← hW1]; exact (set_far (set_far (set_far HYn (by omega) _) (by omega) _) (by omega) _))
  have HR1 := Lib.hid (show W1.heap[w.heap.size + 4]? = some (.cells #[.string n1, .string d1, .string ⟨#[]⟩, .string ⟨#[]⟩, .string ⟨#[]⟩, .string ⟨#[]⟩, .string ⟨#[]⟩, .string ⟨#[]⟩] 31) from by rw [← hW1]; exact set_far (setc_at (setc_at HRn 0 _) 1 _) (by omega) _)
  have HE1 := Lib.hid (show W1.heap[w.heap.size + 5]? = some (.cells #[.int .i64 e1, .int .i64 0, .int .i64 0, .int .i64 0] 33) from by rw [← hW1]; exact setc_at (set_far (set_far HEn (by omega) _) (by omega) _) 0 _)
  have HB1 := Lib.hid (show Below w.heap.size w W1 from by rw [← hW1]; exact ((HBn.setCell (p := ⟨w.heap.size + 4, 0, none⟩) (by simp) _).setCell (p := ⟨w.heap.size + 4, 1, none⟩) (by simp) _).setCell (p := ⟨w.heap.size + 5, 0, none⟩) (by simp) _)
  clear HAn HQn HXn HYn HRn HEn HBn hb HA0 HQ0 HX0 HY0 HR0 HE0 HB0
  obtain ⟨a1, a2, a3, a4⟩ := box2 HA1.out
  obtain ⟨b1, b2, b3, b4⟩ := box2 HQ1.out
  go_wp2_with fail
  (with_reducible refine (C2.out _ HB1.out).mono ?_)
  rintro e w2 ⟨rfl, hb⟩
  clear a1 a2 b1 b2 a3 b3 a4 b4 hW1 f1 f2 f3 f4 f5 f6
  have HAn := bl_up HA1.out hb
  have HQn := bl_up HQ1.out hb
  have HXn := bl_up HX1.out hb
  have HYn := bl_up HY1.out hb
  have HRn := bl_up HR1.out hb
  have HEn := bl_up HE1.out hb
  have HBn := below1 HB1.out hb
  have f1 := cell_at HRn 2; have f2 := cell_at HRn 3; have f3 := froz_at HRn 2; have f4 := froz_at HRn 3; have f5 := cell_at HEn 1; have f6 := froz_at HEn 1
  simp only [List.getElem?_toArray, List.getElem?_cons_zero, List.getElem?_cons_succ] at f1 f2 f5
  obtain ⟨W2, hW2⟩ : ∃ V, ((w2.setCell ⟨w.heap.size + 4, 2, none⟩ (.string n2)).setCell ⟨w.heap.size + 4, 3, none⟩ (.string d2)).setCell ⟨w.heap.size + 5, 1, none⟩ (.int .i64 e2) = V := ⟨_, rfl⟩
  have HA2 := Lib.hid (show W2.heap[w.heap.size]? = some (.cells #[.string pa, .string pb] 23) from by rw [← hW2]; exact (set_far (set_far (set_far HAn (by omega) _) (by omega) _) (by omega) _))
  have HQ2 := Lib.hid (show W2.heap[w.heap.size + 1]? = some (.cells #[.string qa, .string qb] 23) from by rw [← hW2]; exact (set_far (set_far (set_far HQn (by omega) _) (by omega) _) (by omega) _))
  have HX2 := Lib.hid (show W2.heap[w.heap.size + 2]? = some (.cells #[.string ⟨#[]⟩, .string ⟨#[]⟩, .string ⟨#[]⟩, .string ⟨#[]⟩, .string ⟨#[]⟩, .string ⟨#[]⟩, .string ⟨#[]⟩, .string ⟨#[]⟩] 31) from by rw [← hW2]; exact (set_far (set_far (set_far HXn (by omega) _) (by omega) _) (by omega) _))
  have HY2 := Lib.hid (show W2.heap[w.heap.size + 3]? = some (.cells #[.int .i64 0, .int .i64 0, .int .i64 0, .int .i64 0] 33) from by rw [← hW2]; exact (set_far (set_far (set_far HYn (by omega) _) (by omega) _) (by omega) _))
  have HR2 := Lib.hid (show W2.heap[w.heap.size + 4]? = some (.cells #[.string n1, .string d1, .string n2, .string d2, .string ⟨#[]⟩, .string ⟨#[]⟩, .string ⟨#[]⟩, .string ⟨#[]⟩] 31) from by rw [← hW2]; exact set_far (setc_at (setc_at HRn 2 _) 3 _) (by omega) _)
  have HE2 := Lib.hid (show W2.heap[w.heap.size + 5]? = some (.cells #[.int .i64 e1, .int .i64 e2, .int .i64 0, .int .i64 0] 33) from by rw [← hW2]; exact setc_at (set_far (set_far HEn (by omega) _) (by omega) _) 1 _)
  have HB2 := Lib.hid (show Below w.heap.size w W2 from by rw [← hW2]; exact ((HBn.setCell (p := ⟨w.heap.size + 4, 2, none⟩) (by simp) _).setCell (p := ⟨w.heap.size + 4, 3, none⟩) (by simp) _).setCell (p := ⟨w.heap.size + 5, 1, none⟩) (by simp) _)
  clear HAn HQn HXn HYn HRn HEn HBn hb HA1 HQ1 HX1 HY1 HR1 HE1 HB1
  obtain ⟨a1, a2, a3, a4⟩ := box2 HA2.out
  obtain ⟨b1, b2, b3, b4⟩ := box2 HQ2.out
  go_wp2_with fail
  (with_reducible refine (C3.out _ HB2.out).mono ?_)
  rintro e w3 ⟨rfl, hb⟩
  clear a1 a2 b1 b2 a3 b3 a4 b4 hW2 f1 f2 f3 f4 f5 f6
  have HAn := bl_up HA2.out hb
  have HQn := bl_up HQ2.out hb
  have HXn := bl_up HX2.out hb
  have HYn := bl_up HY2.out hb
  have HRn := bl_up HR2.out hb
  have HEn := bl_up HE2.out hb
  have HBn := below1 HB2.out hb
  have f1 := cell_at HRn 4; have f2 := cell_at HRn 5; have f3 := froz_at HRn 4; have f4 := froz_at HRn 5; have f5 := cell_at HEn 2; have f6 := froz_at HEn 2
  simp only [List.getElem?_toArray, List.getElem?_cons_zero, List.getElem?_cons_succ] at f1 f2 f5
  obtain ⟨W3, hW3⟩ : ∃ V, ((w3.setCell ⟨w.heap.size + 4, 4, none⟩ (.string n3)).setCell ⟨w.heap.size + 4, 5, none⟩ (.string d3)).setCell ⟨w.heap.size + 5, 2, none⟩ (.int .i64 e3) = V := ⟨_, rfl⟩
  have HA3 := Lib.hid (show W3.heap[w.heap.size]? = some (.cells #[.string pa, .string pb] 23) from by rw [← hW3]; exact (set_far (set_far (set_far HAn (by omega) _) (by omega) _) (by omega) _))
  have HQ3 := Lib.hid (show W3.heap[w.heap.size + 1]? = some (.cells #[.string qa, .string qb] 23) from by rw [← hW3]; exact (set_far (set_far (set_far HQn (by omega) _) (by omega) _) (by omega) _))
  have HX3 := Lib.hid (show W3.heap[w.heap.size + 2]? = some (.cells #[.string ⟨#[]⟩, .string ⟨#[]⟩, .string ⟨#[]⟩, .string ⟨#[]⟩, .string ⟨#[]⟩, .string ⟨#[]⟩, .string ⟨#[]⟩, .string ⟨#[]⟩] 31) from by rw [← hW3]; exact (set_far (set_far (set_far HXn (by omega) _) (by omega) _) (by omega) _))
  have HY3 := Lib.hid (show W3.heap[w.heap.size + 3]? = some (.cells #[.int .i64 0, .int .i64 0, .int .i64 0, .int .i64 0] 33) from by rw [← hW3]; exact (set_far (set_far (set_far HYn (by omega) _) (by omega) _) (by omega) _))
  have HR3 := Lib.hid (show W3.heap[w.heap.size + 4]? = some (.cells #[.string n1, .string d1, .string n2, .string d2, .string n3, .string d3, .string ⟨#[]⟩, .string ⟨#[]⟩] 31) from by rw [← hW3]; exact set_far (setc_at (setc_at HRn 4 _) 5 _) (by omega) _)
  have HE3 := Lib.hid (show W3.heap[w.heap.size + 5]? = some (.cells #[.int .i64 e1, .int .i64 e2, .int .i64 e3, .int .i64 0] 33) from by rw [← hW3]; exact setc_at (set_far (set_far HEn (by omega) _) (by omega) _) 2 _)
  have HB3 := Lib.hid (show Below w.heap.size w W3 from by rw [← hW3]; exact ((HBn.setCell (p := ⟨w.heap.size + 4, 4, none⟩) (by simp) _).setCell (p := ⟨w.heap.size + 4, 5, none⟩) (by simp) _).setCell (p := ⟨w.heap.size + 5, 2, none⟩) (by simp) _)
  clear HAn HQn HXn HYn HRn HEn HBn hb HA2 HQ2 HX2 HY2 HR2 HE2 HB2
  obtain ⟨a1, a2, a3, a4⟩ := box2 HA3.out
  obtain ⟨b1, b2, b3, b4⟩ := box2 HQ3.out
  go_wp2_with fail
  (with_reducible refine (C4.out _ HB3.out).mono ?_)
  rintro e w4 ⟨rfl, hb⟩
  clear a1 a2 b1 b2 a3 b3 a4 b4 hW3 f1 f2 f3 f4 f5 f6
  have HAn := bl_up HA3.out hb
  have HQn := bl_up HQ3.out hb
  have HXn := bl_up HX3.out hb
  have HYn := bl_up HY3.out hb
  have HRn := bl_up HR3.out hb
  have HEn := bl_up HE3.out hb
  have HBn := below1 HB3.out hb
  have f1 := cell_at HRn 6; have f2 := cell_at HRn 7; have f3 := froz_at HRn 6; have f4 := froz_at HRn 7; have f5 := cell_at HEn 3; have f6 := froz_at HEn 3
  simp only [List.getElem?_toArray, List.getElem?_cons_zero, List.getElem?_cons_succ] at f1 f2 f5
  obtain ⟨W4, hW4⟩ : ∃ V, ((w4.setCell ⟨w.heap.size + 4, 6, none⟩ (.string n4)).setCell ⟨w.heap.size + 4, 7, none⟩ (.string d4)).setCell ⟨w.heap.size + 5, 3, none⟩ (.int .i64 e4) = V := ⟨_, rfl⟩
  have HA4 := Lib.hid (show W4.heap[w.heap.size]? = some (.cells #[.string pa, .string pb] 23) from by rw [← hW4]; exact (set_far (set_far (set_far HAn (by omega) _) (by omega) _) (by omega) _))
  have HQ4 := Lib.hid (show W4.heap[w.heap.size + 1]? = some (.cells #[.string qa, .string qb] 23) from by rw [← hW4]; exact (set_far (set_far (set_far HQn (by omega) _) (by omega) _) (by omega) _))
  have HX4 := Lib.hid (show W4.heap[w.heap.size + 2]? = some (.cells #[.string ⟨#[]⟩, .string ⟨#[]⟩, .string ⟨#[]⟩, .string ⟨#[]⟩, .string ⟨#[]⟩, .string ⟨#[]⟩, .string ⟨#[]⟩, .string ⟨#[]⟩] 31) from by rw [← hW4]; exact (set_far (set_far (set_far HXn (by omega) _) (by omega) _) (by omega) _))
  have HY4 := Lib.hid (show W4.heap[w.heap.size + 3]? = some (.cells #[.int .i64 0, .int .i64 0, .int .i64 0, .int .i64 0] 33) from by rw [← hW4]; exact (set_far (set_far (set_far HYn (by omega) _) (by omega) _) (by omega) _))
  have HR4 := Lib.hid (show W4.heap[w.heap.size + 4]? = some (.cells #[.string n1, .string d1, .string n2, .string d2, .string n3, .string d3, .string n4, .string d4] 31) from by rw [← hW4]; exact set_far (setc_at (setc_at HRn 6 _) 7 _) (by omega) _)
  have HE4 := Lib.hid (show W4.heap[w.heap.size + 5]? = some (.cells #[.int .i64 e1, .int .i64 e2, .int .i64 e3, .int .i64 e4] 33) from by rw [← hW4]; exact setc_at (set_far (set_far HEn (by omega) _) (by omega) _) 3 _)
  have HB4 := Lib.hid (show Below w.heap.size w W4 from by rw [← hW4]; exact ((HBn.setCell (p := ⟨w.heap.size + 4, 6, none⟩) (by simp) _).setCell (p := ⟨w.heap.size + 4, 7, none⟩) (by simp) _).setCell (p := ⟨w.heap.size + 5, 3, none⟩) (by simp) _)
  clear HAn HQn HXn HYn HRn HEn HBn hb HA3 HQ3 HX3 HY3 HR3 HE3 HB3
  go_upto_region 7 with fail
  clear f1 f2 f3 f4 f5 f6 hW4
  have KS := Lib.hid (fun w' (h : KD (fun b => b = w.heap.size + 2 ∨ b = w.heap.size + 3) W4 w') => show w'.cell? ⟨w.heap.size + 4, 0, none⟩ = some (.string n1) ∧ w'.cell? ⟨w.heap.size + 4, 1, none⟩ = some (.string d1) ∧ w'.cell? ⟨w.heap.size + 4, 2, none⟩ = some (.string n2) ∧ w'.cell? ⟨w.heap.size + 4, 3, none⟩ = some (.string d2) ∧ w'.cell? ⟨w.heap.size + 4, 4, none⟩ = some (.string n3) ∧ w'.cell? ⟨w.heap.size + 4, 5, none⟩ = some (.string d3) ∧ w'.cell? ⟨w.heap.size + 4, 6, none⟩ = some (.string n4) ∧ w'.cell? ⟨w.heap.size + 4, 7, none⟩ = some (.string d4) ∧ w'.cell? ⟨w.heap.size + 5, 0, none⟩ = some (.int .i64 e1) ∧ w'.cell? ⟨w.heap.size + 5, 1, none⟩ = some (.int .i64 e2) ∧ w'.cell? ⟨w.heap.size + 5, 2, none⟩ = some (.int .i64 e3) ∧ w'.cell? ⟨w.heap.size + 5, 3, none⟩ = some (.int .i64 e4) from by
    have g1 := h.block (b := w.heap.size + 4) (by omega) HR4.out
    have g2 := h.block (b := w.heap.size + 5) (by omega) HE4.out
    refine ⟨?_, ?_, ?_, ?_, ?_, ?_, ?_, ?_, ?_, ?_, ?_, ?_⟩
    all_goals first | exact (cell_at g1 _).trans rfl | exact (cell_at g2 _).trans rfl)
  have x0 : W4.cell? ⟨w.heap.size + 2, 0, none⟩ = some (.string ⟨#[]⟩) := (cell_at HX4.out 0).trans rfl; have xf0 := froz_at HX4.out 0
  have x1 : W4.cell? ⟨w.heap.size + 2, 1, none⟩ = some (.string ⟨#[]⟩) := (cell_at HX4.out 1).trans rfl; have xf1 := froz_at HX4.out 1
  have x2 : W4.cell? ⟨w.heap.size + 2, 2, none⟩ = some (.string ⟨#[]⟩) := (cell_at HX4.out 2).trans rfl; have xf2 := froz_at HX4.out 2
  have x3 : W4.cell? ⟨w.heap.size + 2, 3, none⟩ = some (.string ⟨#[]⟩) := (cell_at HX4.out 3).trans rfl; have xf3 := froz_at HX4.out 3
  have x4 : W4.cell? ⟨w.heap.size + 2, 4, none⟩ = some (.string ⟨#[]⟩) := (cell_at HX4.out 4).trans rfl; have xf4 := froz_at HX4.out 4
  have x5 : W4.cell? ⟨w.heap.size + 2, 5, none⟩ = some (.string ⟨#[]⟩) := (cell_at HX4.out 5).trans rfl; have xf5 := froz_at HX4.out 5
  have x6 : W4.cell? ⟨w.heap.size + 2, 6, none⟩ = some (.string ⟨#[]⟩) := (cell_at HX4.out 6).trans rfl; have xf6 := froz_at HX4.out 6
  have x7 : W4.cell? ⟨w.heap.size + 2, 7, none⟩ = some (.string ⟨#[]⟩) := (cell_at HX4.out 7).trans rfl; have xf7 := froz_at HX4.out 7
  have y0 : W4.cell? ⟨w.heap.size + 3, 0, none⟩ = some (.int .i64 0) := (cell_at HY4.out 0).trans rfl; have yf0 := froz_at HY4.out 0
  have y1 : W4.cell? ⟨w.heap.size + 3, 1, none⟩ = some (.int .i64 0) := (cell_at HY4.out 1).trans rfl; have yf1 := froz_at HY4.out 1
  have y2 : W4.cell? ⟨w.heap.size + 3, 2, none⟩ = some (.int .i64 0) := (cell_at HY4.out 2).trans rfl; have yf2 := froz_at HY4.out 2
  have y3 : W4.cell? ⟨w.heap.size + 3, 3, none⟩ = some (.int .i64 0) := (cell_at HY4.out 3).trans rfl; have yf3 := froz_at HY4.out 3
  clear HA4 HQ4
  have KDD := Lib.hid (show KD (fun b => b = w.heap.size + 2 ∨ b = w.heap.size + 3) W4 W4.drew from KD.of_below (Below.refl _ _).drew)
  clear C1 C2 C3 C4
  refine wp_region_held_drew (S := fun w' => w'.cell? ⟨w.heap.size + 4, 0, none⟩ = some (.string n1) ∧ w'.cell? ⟨w.heap.size + 4, 1, none⟩ = some (.string d1) ∧ w'.cell? ⟨w.heap.size + 4, 2, none⟩ = some (.string n2) ∧ w'.cell? ⟨w.heap.size + 4, 3, none⟩ = some (.string d2) ∧ w'.cell? ⟨w.heap.size + 4, 4, none⟩ = some (.string n3) ∧ w'.cell? ⟨w.heap.size + 4, 5, none⟩ = some (.string d3) ∧ w'.cell? ⟨w.heap.size + 4, 6, none⟩ = some (.string n4) ∧ w'.cell? ⟨w.heap.size + 4, 7, none⟩ = some (.string d4) ∧ w'.cell? ⟨w.heap.size + 5, 0, none⟩ = some (.int .i64 e1) ∧ w'.cell? ⟨w.heap.size + 5, 1, none⟩ = some (.int .i64 e2) ∧ w'.cell? ⟨w.heap.size + 5, 2, none⟩ = some (.int .i64 e3) ∧ w'.cell? ⟨w.heap.size + 5, 3, none⟩ = some (.int .i64 e4)) (by kernel_rfl) (KS.out _ KDD.out) (fun hHeld => ?_)
  refine wpAnyH_take (i := 0) (oi := _) (v := .agg #[.string n1, .string d1, .string n2, .string d2, .string n3, .string d3, .string n4, .string d4]) rfl (by kernel_rfl) (by kernel_rfl) (by kernel_rfl) (fun _ _ _ h => h) (Or.inl ⟨by rfl, ?_⟩) (by assumption) ?_
  · intro w hSw
    obtain ⟨c0, c1, c2, c3, c4, c5, c6, c7, _, _, _, _⟩ := hSw
    go_simp
    try with_reducible rfl
  simp only [List.getElem_toArray, List.getElem_cons_zero, List.getElem_cons_succ, Act.put, List.setIfInBounds_toArray, List.set_cons_zero, List.set_cons_succ]
  refine wpAnyH_take (i := 1) (oi := _) (v := .agg #[.int .i64 e1, .int .i64 e2, .int .i64 e3, .int .i64 e4]) rfl (by kernel_rfl) (by kernel_rfl) (by kernel_rfl) (fun _ _ _ h => h) (Or.inl ⟨by rfl, ?_⟩) (by assumption) ?_
  · intro w hSw
    obtain ⟨_, _, _, _, _, _, _, _, c0, c1, c2, c3⟩ := hSw
    go_simp
    try with_reducible rfl
  simp only [List.getElem_toArray, List.getElem_cons_zero, List.getElem_cons_succ, Act.put, List.setIfInBounds_toArray, List.set_cons_zero, List.set_cons_succ]
  refine wpAnyH_ready (rs := [2]) (by kernel_rfl) (by simp) ?_
  refine AllReadyH.cons (o := _) rfl (fun K hK => ?_) AllReadyH.nil
  clear hHeld
  rw [if_pos (by kernel_rfl)]
  simp only [List.getElem_toArray, List.getElem_cons_zero, List.getElem_cons_succ]
  go_simp
  obtain ⟨W5, hW5⟩ : ∃ V, (((((((((W4).setCell ⟨w.heap.size + 2, 0, none⟩ (.string n1)).setCell ⟨w.heap.size + 2, 1, none⟩ (.string d1)).setCell ⟨w.heap.size + 2, 2, none⟩ (.string n2)).setCell ⟨w.heap.size + 2, 3, none⟩ (.string d2)).setCell ⟨w.heap.size + 2, 4, none⟩ (.string n3)).setCell ⟨w.heap.size + 2, 5, none⟩ (.string d3)).setCell ⟨w.heap.size + 2, 6, none⟩ (.string n4)).setCell ⟨w.heap.size + 2, 7, none⟩ (.string d4)).drew = V := ⟨_, rfl⟩
  have KD5 := Lib.hid (show KD (fun b => b = w.heap.size + 2 ∨ b = w.heap.size + 3) W4 W5 from by
    rw [← hW5]; refine KD.trans ?_ (KD.of_below (Below.refl _ _).drew)
    iterate 8 (refine kdset ?_ (Or.inl rfl))
    exact KD.of_below (Below.refl _ _))
  have HX5 := Lib.hid (show W5.heap[w.heap.size + 2]? = some (.cells #[.string n1, .string d1, .string n2, .string d2, .string n3, .string d3, .string n4, .string d4] 31) from by
    rw [← hW5]
    have g := setc_at (setc_at (setc_at (setc_at (setc_at (setc_at (setc_at (setc_at HX4.out 0 (.string n1)) 1 (.string d1)) 2 (.string n2)) 3 (.string d2)) 4 (.string n3)) 5 (.string d3)) 6 (.string n4)) 7 (.string d4)
    simp only [List.setIfInBounds_toArray, List.set_cons_zero, List.set_cons_succ] at g
    exact drew_at g)
  have HY5 := Lib.hid (show W5.heap[w.heap.size + 3]? = some (.cells #[.int .i64 0, .int .i64 0, .int .i64 0, .int .i64 0] 33) from by
    rw [← hW5]; exact drew_at (set_far (set_far (set_far (set_far (set_far (set_far (set_far (set_far HY4.out (by omega) _) (by omega) _) (by omega) _) (by omega) _) (by omega) _) (by omega) _) (by omega) _) (by omega) _))
  have HB5 := Lib.hid (show Below w.heap.size w W5 from by
    rw [← hW5]; refine Below.drew ?_
    iterate 8 (refine Below.setCell ?_ (by simp) _)
    exact HB4.out)
  rw [show (((((((((W4).setCell ⟨w.heap.size + 2, 0, none⟩ (.string n1)).setCell ⟨w.heap.size + 2, 1, none⟩ (.string d1)).setCell ⟨w.heap.size + 2, 2, none⟩ (.string n2)).setCell ⟨w.heap.size + 2, 3, none⟩ (.string d2)).setCell ⟨w.heap.size + 2, 4, none⟩ (.string n3)).setCell ⟨w.heap.size + 2, 5, none⟩ (.string d3)).setCell ⟨w.heap.size + 2, 6, none⟩ (.string n4)).setCell ⟨w.heap.size + 2, 7, none⟩ (.string d4)).drew = W5 from hW5]
  clear x0 x1 x2 x3 x4 x5 x6 x7 xf0 xf1 xf2 xf3 xf4 xf5 xf6 xf7 y0 y1 y2 y3 yf0 yf1 yf2 yf3
  refine hK.out _ _ (KS.out _ KD5.out) (fun hHeld => ?_)
  clear hHeld hK K hW5 HX4 HY4 HR4 HE4 HB4
  have y0 : W5.cell? ⟨w.heap.size + 3, 0, none⟩ = some (.int .i64 0) := (cell_at HY5.out 0).trans rfl; have yf0 := froz_at HY5.out 0
  have y1 : W5.cell? ⟨w.heap.size + 3, 1, none⟩ = some (.int .i64 0) := (cell_at HY5.out 1).trans rfl; have yf1 := froz_at HY5.out 1
  have y2 : W5.cell? ⟨w.heap.size + 3, 2, none⟩ = some (.int .i64 0) := (cell_at HY5.out 2).trans rfl; have yf2 := froz_at HY5.out 2
  have y3 : W5.cell? ⟨w.heap.size + 3, 3, none⟩ = some (.int .i64 0) := (cell_at HY5.out 3).trans rfl; have yf3 := froz_at HY5.out 3
  refine wpAnyH_ready (rs := [3]) (by kernel_rfl) (by simp) ?_
  refine AllReadyH.cons (o := _) rfl (fun K hK => ?_) AllReadyH.nil
  rw [if_pos (by kernel_rfl)]
  simp only [List.getElem_toArray, List.getElem_cons_zero, List.getElem_cons_succ]
  go_simp
  obtain ⟨W6, hW6⟩ : ∃ V, ((((W5).setCell ⟨w.heap.size + 3, 0, none⟩ (.int .i64 e1)).setCell ⟨w.heap.size + 3, 1, none⟩ (.int .i64 e2)).setCell ⟨w.heap.size + 3, 2, none⟩ (.int .i64 e3)).setCell ⟨w.heap.size + 3, 3, none⟩ (.int .i64 e4) = V := ⟨_, rfl⟩
  have KD6 := Lib.hid (show KD (fun b => b = w.heap.size + 2 ∨ b = w.heap.size + 3) W4 W6 from by
    rw [← hW6]
    iterate 4 (refine kdset ?_ (Or.inr rfl))
    exact KD5.out)
  have HX6 := Lib.hid (show W6.heap[w.heap.size + 2]? = some (.cells #[.string n1, .string d1, .string n2, .string d2, .string n3, .string d3, .string n4, .string d4] 31) from by
    rw [← hW6]; exact set_far (set_far (set_far (set_far HX5.out (by omega) _) (by omega) _) (by omega) _) (by omega) _)
  have HY6 := Lib.hid (show W6.heap[w.heap.size + 3]? = some (.cells #[.int .i64 e1, .int .i64 e2, .int .i64 e3, .int .i64 e4] 33) from by
    rw [← hW6]
    have g := setc_at (setc_at (setc_at (setc_at HY5.out 0 (.int .i64 e1)) 1 (.int .i64 e2)) 2 (.int .i64 e3)) 3 (.int .i64 e4)
    simp only [List.setIfInBounds_toArray, List.set_cons_zero, List.set_cons_succ] at g
    exact g)
  have HB6 := Lib.hid (show Below w.heap.size w W6 from by
    rw [← hW6]
    iterate 4 (refine Below.setCell ?_ (by simp) _)
    exact HB5.out)
  rw [show ((((W5).setCell ⟨w.heap.size + 3, 0, none⟩ (.int .i64 e1)).setCell ⟨w.heap.size + 3, 1, none⟩ (.int .i64 e2)).setCell ⟨w.heap.size + 3, 2, none⟩ (.int .i64 e3)).setCell ⟨w.heap.size + 3, 3, none⟩ (.int .i64 e4) = W6 from hW6]
  clear y0 y1 y2 y3 yf0 yf1 yf2 yf3
  refine hK.out _ _ (KS.out _ KD6.out) (fun hHeld => ?_)
  clear hHeld hK K hW6 HX5 HY5 HB5 KD5 KS KDD KD6
  have x0 := (cell_at HX6.out 0).trans (show _ = some (.string n1) from rfl)
  have x1 := (cell_at HX6.out 1).trans (show _ = some (.string d1) from rfl)
  have x2 := (cell_at HX6.out 2).trans (show _ = some (.string n2) from rfl)
  have x3 := (cell_at HX6.out 3).trans (show _ = some (.string d2) from rfl)
  have x4 := (cell_at HX6.out 4).trans (show _ = some (.string n3) from rfl)
  have x5 := (cell_at HX6.out 5).trans (show _ = some (.string d3) from rfl)
  have x6 := (cell_at HX6.out 6).trans (show _ = some (.string n4) from rfl)
  have x7 := (cell_at HX6.out 7).trans (show _ = some (.string d4) from rfl)
  have y0 := (cell_at HY6.out 0).trans (show _ = some (.int .i64 e1) from rfl)
  have y1 := (cell_at HY6.out 1).trans (show _ = some (.int .i64 e2) from rfl)
  have y2 := (cell_at HY6.out 2).trans (show _ = some (.int .i64 e3) from rfl)
  have y3 := (cell_at HY6.out 3).trans (show _ = some (.int .i64 e4) from rfl)
  refine wpAnyH_done (by kernel_rfl) ?_ _
  go_wp2
  refine bodyPost_ret (v := .tuple #[.agg #[.string n1, .string d1, .string n2, .string d2, .string n3, .string d3, .string n4, .string d4], .agg #[.int .i64 e1, .int .i64 e2, .int .i64 e3, .int .i64 e4]]) (by simp [results, Tryz.results15, go_sem, x0, x1, x2, x3, x4, x5, x6, x7, y0, y1, y2, y3]) rfl ?_
  exact HF.out _ HB6.out
end Go.Proofs.YtcjcafekacceiaaGreatDoor
