/- The reference's put, on a row in a block of any size; what its loops keep. -/
import Derived.Test.YtipfafglbkbafaaDoorRc
namespace Go.Proofs.YtipfafglbkbafaaDoor
open Go.RowKit Go.Shelf
set_option linter.unusedVariables false
set_option linter.unusedSimpArgs false
/-- A block that begins with the rows of f. -/
def HasR (w : World) (g : Nat) (f : Ar) : Prop := ∃ cs : Array Value, w.heap[g]? = some (.cells cs 3 (0, 0)) ∧ ∀ y, y < 24 → cs[y]? = some (iV (rowOf f y))
theorem HasR.lt {w : World} {g : Nat} {f : Ar} (h : HasR w g f) : g < w.heap.size := by
  obtain ⟨cs, h1, _⟩ := h
  exact (Array.getElem?_eq_some_iff.1 h1).1
theorem HasR.cell {w : World} {g : Nat} {f : Ar} (h : HasR w g f) {y : Nat} (hy : y < 24) : w.cell? ⟨g, y, none⟩ = some (iV (rowOf f y)) := by
  obtain ⟨cs, h1, h2⟩ := h
  exact (cell_of_row w g y cs _ (0, 0) h1).trans (h2 y hy)
theorem HasR.frozen {w : World} {g : Nat} {f : Ar} (h : HasR w g f) (y : Nat) : w.frozen? ⟨g, y, none⟩ = false := by
  obtain ⟨cs, h1, _⟩ := h
  exact frozen_of_row w g y cs _ h1
theorem HasR.below {B : Nat} {w w' : World} {g : Nat} {f : Ar} (h : HasR w g f) (hb : Below B w w') (hg : g < B) : HasR w' g f := by
  obtain ⟨cs, h1, h2⟩ := h
  exact ⟨cs, (hb.block g hg).trans h1, h2⟩
theorem HasR.same {w w' : World} {g : Nat} {f : Ar} (h : HasR w g f) (hb : w'.heap[g]? = w.heap[g]?) : HasR w' g f := by
  obtain ⟨cs, h1, h2⟩ := h
  exact ⟨cs, hb.trans h1, h2⟩
theorem HasR.eqv {w : World} {g : Nat} {f f' : Ar} (h : HasR w g f) (e : Eqv f f') : HasR w g f' := by
  obtain ⟨cs, h1, h2⟩ := h
  exact ⟨cs, h1, fun y hy => by rw [h2 y hy, show rowOf f y = rowOf f' y from bits_congr (fun x hx => e x y hx hy)]⟩
theorem HasR.set {w : World} {g : Nat} {f f' : Ar} (h : HasR w g f) {k r : Nat} (hk : k < 24) (hr : rowOf f' k = r) (ho : ∀ y, y < 24 → y ≠ k → ∀ x, x < 48 → f' x y = f x y) : HasR (w.setCell ⟨g, k, none⟩ (iV r)) g f' := by
  obtain ⟨cs, h1, h2⟩ := h
  refine ⟨_, heap_setCell_same _ _ k _ _ _ h1, fun y hy => ?_⟩
  by_cases e : y = k
  · subst e
    have hlt := (Array.getElem?_eq_some_iff.1 (h2 y hy)).1
    rw [Array.getElem?_setIfInBounds_self_of_lt hlt, hr]
  · rw [Array.getElem?_setIfInBounds_ne (fun h => e h.symm), h2 y hy]
    exact congrArg (fun r => some (iV r)) (bits_congr (fun x hx => (ho y hy e x hx).symm))
theorem HasF.r {w : World} {g : Nat} {f : Ar} (h : HasF w g 3 f) : HasR w g f := ⟨FC f, h, fun y hy => FC_at f hy⟩
theorem HasR.sa {W : World} {g : Nat} {f : Ar} (h : HasR W g f) : SA W (some ⟨g, 0, none⟩) 24 f := SA.mk h.lt (fun y hy => by rw [Nat.zero_add]; exact h.cell hy)
def PutR (w : World) (b : Nat) (f : Ar) (e : Ending) (w' : World) : Prop :=
  e = .returned (.tuple #[]) ∧ HasR w' b f ∧ w.heap.size ≤ w'.heap.size ∧ (∀ k, k < w.heap.size → k ≠ b → w'.heap[k]? = w.heap[k]?) ∧ (∀ B, B ≤ b → B ≤ w.heap.size → Below B w w')
set_option maxRecDepth 100000 in
set_option maxHeartbeats 1000000 in
theorem putR_any (b c : Nat) (f : Ar) (x : Int) (y : Nat) (hy : y < 24) (w : World) (h : HasR w b f) :
    Calls Tryd.prog 49 #[.agg #[.slice (some ⟨b, 0, none⟩) 24 c], .int .i64 x, .int .i64 y] w (PutR w b (putA f (k48 x) y)) := by
  obtain ⟨t, ht, h1, h2, h3⟩ := tmod48 x (k48 x) (k48_lt x) (k48_eq x)
  have hk := k48_lt x
  obtain ⟨W, hW, hb, hz, h0⟩ := box_one_area w (some ⟨b, 0, none⟩) 24 c
  have hF := h.below hb h.lt
  have hlt := h.lt
  have y0 : (0 : Int) ≤ y := by omega
  have y1 : (y : Int) < 24 := by omega
  have hc := hF.cell hy
  have hf := hF.frozen y
  have HFF := Lib.hid hF
  have HP := Lib.hid (put_row (f := f) (b := y) hk)
  have HR := Lib.hid (row_lt f y)
  have HB := Lib.hid (And.intro hb (And.intro hlt hW))
  generalize rowOf f y = r at hc HP HR
  generalize hkk : k48 x = k at *
  have HS := Lib.hid (And.intro (shl1 k hk) (pow48 hk))
  clear hkk hb hz h hF hlt
  have hV : ∀ V : World, V = (W.setCell ⟨b, y, none⟩ (iV (r ||| 2 ^ k))).drew → PutR w b (putA f k y) (.returned (.tuple #[])) V := by
    rintro V rfl
    refine ⟨rfl, HFF.out.set (f' := putA f k y) hy HP.out (fun z _ hz x' _ => put_other hz x'), ?_, ?_, ?_⟩
    · have := HB.out.1.size
      simpa using this
    · intro q hq hne
      exact (heap_setCell_other _ _ _ _ hne).trans (HB.out.1.block q hq)
    · intro B h1 h2
      exact ((HB.out.1.mono h2).setCell (p := ⟨b, y, none⟩) h1 _).drew
  have HVV := Lib.hid hV
  clear hV
  by_cases hneg : t < 0
  · have e : t + 48 = (k : Int) := by omega
    have e1 : 0 ≤ t + 48 := by omega
    have e2 : t + 48 < 48 := by omega
    have e3 : (t + 48).toNat = k := by omega
    have HE3 := Lib.hid e3
    clear h3 e hk e3
    go_enter Tryd.func49, Tryd.ntmps49
    go_wp2
    clear hW ht
    have e3 := HE3.out
    go_still_tail 12, (by kernel_rfl)
    clear e3
    go_wp2
    exact bodyPost_end (results_none rfl _ _ _) rfl (HVV.out _ (by rw [HS.out.1, iV_or HR.out HS.out.2]))
  · have e : t = (k : Int) := by omega
    have e1 : 0 ≤ t := by omega
    have e2 : t < 48 := by omega
    have e3 : t.toNat = k := by omega
    have HE3 := Lib.hid e3
    clear h3 e hk e3
    go_enter Tryd.func49, Tryd.ntmps49
    go_wp2
    clear hW ht
    have e3 := HE3.out
    go_still_tail 12, (by kernel_rfl)
    clear e3
    go_wp2
    exact bodyPost_end (results_none rfl _ _ _) rfl (HVV.out _ (by rw [HS.out.1, iV_or HR.out HS.out.2]))
/-- What a loop keeps that puts cells into an area of its own: the variable B holds the block g. -/
def Ob (w2 : World) (g B c : Nat) (f : Ar) (W : World) : Prop := HasR W g f ∧ Below w2.heap.size w2 W ∧ W.heap[B]? = some (.cells #[.slice (some ⟨g, 0, none⟩) 24 c] 25 (0, 0)) ∧ w2.heap.size ≤ g ∧ g ≠ B ∧ w2.heap.size ≤ B
theorem Ob.next {w2 W W' : World} {g B c : Nat} {f : Ar} (h : Ob w2 g B c f W) (hb : Below W.heap.size W W') : Ob w2 g B c f W' :=
  ⟨h.1.below hb h.1.lt, h.2.1.trans (hb.mono h.2.1.size), (hb.block B (Array.getElem?_eq_some_iff.1 h.2.2.1).1).trans h.2.2.1, h.2.2.2⟩
theorem Ob.eqv {w2 W : World} {g B c : Nat} {f f' : Ar} (h : Ob w2 g B c f W) (e : Eqv f f') : Ob w2 g B c f' W := ⟨h.1.eqv e, h.2⟩
theorem Ob.cell {w2 W : World} {g B c : Nat} {f : Ar} (h : Ob w2 g B c f W) : W.cell? ⟨B, 0, none⟩ = some (.slice (some ⟨g, 0, none⟩) 24 c) := (row_cell h.2.2.1 0).trans rfl
theorem Ob.drew {w2 W : World} {g B c : Nat} {f : Ar} (h : Ob w2 g B c f W) : Ob w2 g B c f W.drew := ⟨h.1.same rfl, h.2.1.drew, h.2.2.1, h.2.2.2⟩
def OutO (w2 : World) (g B c : Nat) (f : Ar) (e : Ending) (w' : World) : Prop := e = .returned (.tuple #[]) ∧ Ob w2 g B c f w'
theorem put_ob {w2 W : World} {g B c : Nat} {f f' : Ar} (h : Ob w2 g B c f W) (x : Int) (y : Nat) (hy : y < 24) (e : Eqv (putA f (k48 x) y) f') :
    Calls Tryd.prog 49 #[.agg #[.slice (some ⟨g, 0, none⟩) 24 c], .int .i64 x, .int .i64 (y : Int)] W (OutO w2 g B c f') := by
  refine (putR_any g c f x y hy W h.1).mono fun e' W' ⟨he, hF, hz, ho, hb⟩ => ⟨he, ?_⟩
  obtain ⟨h1, h2, h3, h4, h5, h6⟩ := h
  exact ⟨hF.eqv e, h2.trans (hb _ h4 h2.size), (ho B (Array.getElem?_eq_some_iff.1 h3).1 (fun e => h5 e.symm)).trans h3, h4, h5, h6⟩
/-- The row Y, set in place. -/
theorem Ob.row {w2 W : World} {g B c : Nat} {f f' : Ar} (h : Ob w2 g B c f W) {y r : Nat} (hy : y < 24) (hr : rowOf f' y = r) (ho : ∀ z, z < 24 → z ≠ y → ∀ x, x < 48 → f' x z = f x z) : Ob w2 g B c f' (W.setCell ⟨g, y, none⟩ (iV r)) :=
  ⟨h.1.set hy hr ho, h.2.1.setCell h.2.2.2.1 _, (heap_setCell_other _ _ _ _ (fun e => h.2.2.2.2.1 e.symm)).trans h.2.2.1, h.2.2.2⟩
theorem ob_start {w2 U : World} {g : Nat} {f : Ar} {B c : Nat} {W : World} (hF : HasR U g f) (hg : w2.heap.size ≤ g) (hb : Below w2.heap.size w2 U) (hB : U.heap.size = B) (hb2 : Below U.heap.size U W) (hk : W.heap[B]? = some (.cells #[.slice (some ⟨g, 0, none⟩) 24 c] 25 (0, 0))) : Ob w2 g B c f W :=
  ⟨hF.below hb2 hF.lt, hb.trans (hb2.mono hb.size), hk, hg, by have := hF.lt; omega, by have := hb.size; omega⟩
theorem ob_out {w w2 W : World} {g B P c : Nat} {f : Ar} {v : Value} (h : Ob w2 g B c f W) (hw : Below w.heap.size w w2) (hP : w.heap.size ≤ P) (hP2 : P < w2.heap.size) :
    OutA w (some f) (.returned (.tuple #[.agg #[.slice (some ⟨g, 0, none⟩) 24 c], .int .i64 0])) (W.setCell ⟨P, 0, none⟩ v) := by
  obtain ⟨h1, h2, h3, h4, h5, h6⟩ := h
  refine ⟨_, _, _, rfl, (HasR.sa (h1.same (heap_setCell_other _ _ _ _ (show g ≠ P by omega)))), fun b q e => ?_, (hw.trans (h2.mono hw.size)).setCell hP _⟩
  cases e
  have := hw.size
  omega
theorem no_out {w W : World} {P : Nat} {v : Value} (hb : Below w.heap.size w W) (hP : w.heap.size ≤ P) : OutA w none (.returned (.tuple #[.agg #[.slice none 0 0], .int .i64 50])) (W.setCell ⟨P, 0, none⟩ v) :=
  ⟨none, 0, 0, rfl, Sl.nil _, (fun b q h => by cases h), hb.setCell hP _⟩
end Go.Proofs.YtipfafglbkbafaaDoor
