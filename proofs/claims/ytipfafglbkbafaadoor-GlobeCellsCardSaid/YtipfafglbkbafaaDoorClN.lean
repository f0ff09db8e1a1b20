/- Cells: what the law's loop keeps. -/
import Derived.Test.YtipfafglbkbafaaDoorClM
namespace Go.Proofs.YtipfafglbkbafaaDoor
open Go.RowKit Go.Shelf
set_option linter.unusedVariables false
set_option linter.unusedSimpArgs false
theorem cl_vb {w W : World} (h : VB w W) : Up W (VB w) := fun X hX => ⟨h.1.trans (hX.mono h.1.size), Tab.below h.2 hX h.2.1⟩
theorem cl_valid {a b : Nat} (ha : a < 48) (hb : b < 24) {w : World} : Calls Tryd.prog 15 #[CV a b] w (OutV w (.bool true)) :=
  (vcellV w a b).mono (OutV.as (by rw [onG_iff.2 ⟨by omega, by omega, by omega, by omega⟩]))
theorem cl_cell {f : Ar} {l : List (Nat × Nat)} {i px py : Nat} (e : cellsTo f 24 = l) (h : l[i]? = some (px, py)) : px < 48 ∧ py < 24 ∧ f px py = true := by
  have hm := List.mem_of_getElem? h
  rw [← e, cells_mem] at hm
  exact ⟨hm.2.1, hm.1, hm.2.2⟩
theorem cl_prev {w : World} {f : Ar} {b : Nat} {n : Nat} {l : List (Nat × Nat)} {i px py : Nat} (e : cellsTo f 24 = l) (h : Up w (fun W => Cs W (some ⟨b, 0, none⟩) n l)) (hi : 0 < i) (hp : l[i]? = some (px, py)) :
    ∃ k qx qy : Nat, i = k + 1 ∧ IntKind.i64.wrap ((i : Int) - 1) = (k : Int) ∧ Up w (fun W => W.cell? ⟨b, k * 2, none⟩ = some (.int .i64 (qx : Int)) ∧ W.cell? ⟨b, k * 2 + 1, none⟩ = some (.int .i64 (qy : Int))) ∧ (qy < py ∨ (qy = py ∧ qx < px)) := by
  obtain ⟨k, rfl⟩ : ∃ k, i = k + 1 := ⟨i - 1, by omega⟩
  have hlen := (List.getElem?_eq_some_iff.1 hp).1
  have hn := h.now.1
  have hm := h.now.2.1
  obtain ⟨b', qx, qy, hb, hq, hu⟩ := cl_at h (i := k) (by omega)
  cases hb
  refine ⟨k, qx, qy, rfl, ?_, hu, cells_next e hq hp⟩
  rw [IntKind.wrap_i64]; omega
theorem cl_new {f g : Ar} {l : List (Nat × Nat)} {i px py : Nat} (e : cellsTo f 24 = l) (h : l[i]? = some (px, py)) (hg : Eqv g (putTo l i)) (hx : px < 48) (hy : py < 24) : g px py = false := (hg px py hx hy).trans (putTo_new e h)
/-- What the loop keeps. -/
def ClI (w : World) (B b o c : Nat) (f : Ar) (rl : Option Addr) (N : Nat) (l : List (Nat × Nat)) (D : Nat) (W : World) : Prop :=
  VB w W ∧ VA B b o c f W ∧ Cs W rl N l ∧ B ≠ D ∧ b ≠ D ∧ (N = 0 ∨ ∀ x, rl = some x → x.block ≠ D) ∧ w.heap.size ≤ D ∧ 1 < w.heap.size
def OutG (w : World) (g : Ar) (e : Ending) (w' : World) : Prop :=
  ∃ b o c, e = .returned (.tuple #[.agg #[.slice (some ⟨b, o, none⟩) 24 c], .int .i64 0]) ∧ SA w' (some ⟨b, o, none⟩) 24 g ∧ w.heap.size ≤ b ∧ Below w.heap.size w w'
theorem cl_with {w : World} {b o c : Nat} {f : Ar} (x y : Nat) (hx : x < 48) (hy : y < 24) (h : SA w (some ⟨b, o, none⟩) 24 f) : Calls Tryd.prog 29 #[.agg #[.slice (some ⟨b, o, none⟩) 24 c], CV x y] w (OutG w (putA f x y)) := by
  have := withF_any (some ⟨b, o, none⟩) 24 c _ (some f) rfl (x : Int) (y : Int) w h
  rw [show withO (some f) (x : Int) (y : Int) = some (putA f x y) from by unfold withO; rw [if_pos (onG_iff.2 ⟨by omega, by omega, by omega, by omega⟩)]; rfl] at this
  refine this.mono fun e w' ⟨al, n, c, he, hs, hf, hb⟩ => ?_
  have hn : n = 24 := SA.n hs
  subst hn
  obtain ⟨_, b, o, rfl, _, _⟩ := SA.parts hs
  exact ⟨b, o, c, he, hs, hf b o rfl, hb⟩
theorem cl_up_sa {w : World} {b o : Nat} {f : Ar} (h : SA w (some ⟨b, o, none⟩) 24 f) : Up w (fun W => SA W (some ⟨b, o, none⟩) 24 f) := fun W hb => Sl.below h (Nat.le_refl _) hb
theorem sa_set {W : World} {b o D k : Nat} {f : Ar} {v : Value} (h : SA W (some ⟨b, o, none⟩) 24 f) (hn : b ≠ D) : SA (W.setCell ⟨D, k, none⟩ v) (some ⟨b, o, none⟩) 24 f := by
  obtain ⟨_, b', o', he, hb, hc⟩ := SA.parts h
  cases he
  refine SA.mk (by simpa using hb) (fun y hy => ?_)
  rw [← hc y hy]
  exact World.cell?_of_block (a := ⟨b, o + y, none⟩) (heap_setCell_other _ _ _ _ hn)
theorem va_set {W : World} {B b o c D k : Nat} {f : Ar} {v : Value} (h : VA B b o c f W) (h1 : B ≠ D) (h2 : b ≠ D) : VA B b o c f (W.setCell ⟨D, k, none⟩ v) :=
  ⟨sa_set h.1 h2, (heap_setCell_other _ _ _ _ h1).trans h.2⟩
theorem cs_set {W : World} {rl : Option Addr} {N D k : Nat} {l : List (Nat × Nat)} {v : Value} (h : Cs W rl N l) (hn : N = 0 ∨ ∀ x, rl = some x → x.block ≠ D) : Cs (W.setCell ⟨D, k, none⟩ v) rl N l := by
  obtain ⟨h1, h2, h3⟩ := h
  refine ⟨h1, h2, ?_⟩
  rcases h3 with h3 | ⟨b, rfl, hb, hc⟩
  · exact .inl h3
  · rcases hn with hn | hn
    · exact .inl hn
    · have hne : b ≠ D := hn _ rfl
      exact .inr ⟨b, rfl, by simpa using hb, fun i p hp =>
        ⟨(World.cell?_of_block (a := ⟨b, i * 2, none⟩) (heap_setCell_other _ _ _ _ hne)).trans (hc i p hp).1, (World.cell?_of_block (a := ⟨b, i * 2 + 1, none⟩) (heap_setCell_other _ _ _ _ hne)).trans (hc i p hp).2⟩⟩
theorem va_new {W : World} {D b o c : Nat} {f : Ar} {v : Value} (hk : W.heap[D]? = some (.cells #[v] 25 (0, 0))) (h : SA W (some ⟨b, o, none⟩) 24 f) (hn : b ≠ D) : VA D b o c f (W.setCell ⟨D, 0, none⟩ (.slice (some ⟨b, o, none⟩) 24 c)) :=
  ⟨sa_set h hn, heap_setCell_same _ _ 0 _ _ _ hk⟩
theorem cl_store {w W : World} {B b o c : Nat} {f g : Ar} {rl : Option Addr} {N : Nat} {l : List (Nat × Nat)} {D bo oo co : Nat} {v : Value} (h : ClI w B b o c f rl N l D W) (hk : W.heap[D]? = some (.cells #[v] 25 (0, 0)))
    (hs : SA W (some ⟨bo, oo, none⟩) 24 g) (hn : bo ≠ D) : ClI w B b o c f rl N l D (W.setCell ⟨D, 0, none⟩ (.slice (some ⟨bo, oo, none⟩) 24 co)) ∧ VA D bo oo co g (W.setCell ⟨D, 0, none⟩ (.slice (some ⟨bo, oo, none⟩) 24 co)) := by
  obtain ⟨h1, h2, h3, h4, h5, h6, h7, h8⟩ := h
  have hb : Below w.heap.size W (W.setCell ⟨D, 0, none⟩ (.slice (some ⟨bo, oo, none⟩) 24 co)) := (Below.refl _ _).setCell h7 _
  refine ⟨⟨⟨h1.1.trans hb, ?_⟩, va_set h2 h4 h5, cs_set h3 h6, h4, h5, h6, h7, h8⟩, va_new hk hs hn⟩
  exact h1.2.below hb h8
theorem cl_lt {W : World} {B b o c N : Nat} {f : Ar} {rl : Option Addr} {l : List (Nat × Nat)} (h : VA B b o c f W) (hc : Cs W rl N l) : B < W.heap.size ∧ b < W.heap.size ∧ (N = 0 ∨ ∀ x, rl = some x → x.block < W.heap.size) := by
  obtain ⟨_, b', o', he, hb, _⟩ := SA.parts h.1
  cases he
  refine ⟨(Array.getElem?_eq_some_iff.1 h.2).1, hb, ?_⟩
  rcases hc.2.2 with h3 | ⟨b, rfl, hb, _⟩
  · exact .inl h3
  · refine .inr fun x hx => ?_
    cases hx
    exact hb
theorem cl_fresh {W : World} {B b o : Nat} {f : Ar} (e : W.heap.size = B) (h : SA W (some ⟨b, o, none⟩) 24 f) : B = W.heap.size ∧ b ≠ B := by
  obtain ⟨_, b', o', he, hb, _⟩ := SA.parts h
  cases he
  exact ⟨e.symm, by omega⟩
theorem cl_start {w V U W : World} {B b o c N D : Nat} {f : Ar} {rl : Option Addr} {l : List (Nat × Nat)} (h1 : VB w W) (h2 : VA B b o c f W) (h3 : Cs W rl N l) (hq : B < V.heap.size ∧ b < V.heap.size ∧ (N = 0 ∨ ∀ x, rl = some x → x.block < V.heap.size))
    (hs : V.heap.size ≤ U.heap.size) (hD : D = U.heap.size) (hw : w.heap.size ≤ V.heap.size ∧ 1 < w.heap.size) : ClI w B b o c f rl N l D W :=
  ⟨h1, h2, h3, by omega, by omega, by
    rcases hq.2.2 with h | h
    · exact .inl h
    · refine .inr fun x hx => ?_
      have := h x hx
      omega, by omega, hw.2⟩
theorem cl_ne1 {W : World} {b o P : Nat} {f : Ar} (h : SA W (some ⟨b, o, none⟩) 24 f) (e : W.heap.size = P) : b ≠ P := (cl_fresh e h).2
theorem cl_ne2 {W : World} {P : Nat} {cs : Array Value} {t : TypeId} {b : Nat} (h : VR P cs t W) (hb : W.heap.size ≤ b) : b ≠ P := by
  have := (Array.getElem?_eq_some_iff.1 h).1
  omega
theorem cl_done {w W : World} {P b o c : Nat} {f : Ar} {v : Value} (hs : SA W (some ⟨b, o, none⟩) 24 f) (hk : VR P #[v] 25 W) (hn : b ≠ P) (hP : w.heap.size ≤ P) (hb : Below w.heap.size w W) :
    VA P b o c f (W.setCell ⟨P, 0, none⟩ (.slice (some ⟨b, o, none⟩) 24 c)) ∧ Below w.heap.size w (W.setCell ⟨P, 0, none⟩ (.slice (some ⟨b, o, none⟩) 24 c)) :=
  ⟨va_new hk hs hn, hb.setCell hP _⟩
theorem cl_all {f g : Ar} {l : List (Nat × Nat)} {N i : Nat} (e : cellsTo f 24 = l) (eN : l.length = N) (hi : i = N) (h : Eqv g (putTo l i)) : Eqv g f := by
  subst hi
  exact h.trans (putTo_all e eN)
theorem cl_len {f : Ar} {l : List (Nat × Nat)} {N : Nat} (e : cellsTo f 24 = l) (eN : l.length = N) : count f = N := by rw [← cells_len, e, eN]
end Go.Proofs.YtipfafglbkbafaaDoor
