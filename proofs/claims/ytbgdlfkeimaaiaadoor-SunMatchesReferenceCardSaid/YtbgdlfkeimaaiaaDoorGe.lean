/- The reference's Valid, Cells and Count; an area cut. -/
import Derived.Laws.AppendOwn
import Derived.WalkKit
import Derived.WalkSpells
import Derived.Test.YtbgdlfkeimaaiaaDoorGd
namespace Go.Proofs.YtbgdlfkeimaaiaaDoor
open Go.RowKit Go.Shelf
set_option linter.unusedVariables false
set_option linter.unusedSimpArgs false
theorem rvalid_no {al : Option Addr} {n c : Nat} {zs : List Int} (hO : Is zs none) {w : World} (h : Sl w al n zs) : Calls Tryd.prog 45 #[.agg #[.slice al n c]] w (OutV w (.bool false)) := rvalid_any al n c zs none hO w h
theorem rvalid_yes {b o c : Nat} {f : Ar} {w : World} (h : SA w (some ⟨b, o, none⟩) 24 f) : Calls Tryd.prog 45 #[.agg #[.slice (some ⟨b, o, none⟩) 24 c]] w (OutV w (.bool true)) := rvalid_any _ _ c _ (some f) rfl w h
end Go.Proofs.YtbgdlfkeimaaiaaDoor

namespace Go.Proofs.YtbgdlfkeimaaiaaDoor
open Go.RowKit Go.Shelf
set_option linter.unusedVariables false
set_option linter.unusedSimpArgs false
/-- A list of cells is returned. -/
def OutCs (w : World) (l : List (Nat × Nat)) (e : Ending) (w' : World) : Prop := ∃ rl rc, e = .returned (.slice rl l.length rc) ∧ Cs w' rl l.length l ∧ (∀ x, rl = some x → w.heap.size ≤ x.block) ∧ Below w.heap.size w w'
theorem Cs.of_row2 {W : World} {n0 : Nat} {e : TypeId} {v : Value} {l : List (Nat × Nat)} (h : W.ownsRow n0 e 2 v l.length (cvs l)) (hl : l.length ≤ 1152) : ∃ al c, v = .slice al l.length c ∧ Cs W al l.length l ∧ (∀ x, al = some x → n0 ≤ x.block) := by
  obtain ⟨al, c, rfl, hc⟩ := Cs.of_row h hl
  refine ⟨al, c, rfl, hc, fun x hx => ?_⟩
  subst hx
  rcases h.2 with ⟨h1, _⟩ | ⟨g, cap, cur, h1, hb, _⟩
  · cases h1
  · cases h1
    exact hb
theorem row_keep {W W' : World} {B : Nat} {e : TypeId} {k : Nat} {v : Value} {n : Nat} {xs : List Value} (h : W.ownsRow B e k v n xs) (hb : Below W.heap.size W W') : W'.ownsRow B e k v n xs := by
  refine ⟨h.1, ?_⟩
  rcases h.2 with h' | ⟨g', cap', cur, h', hB, hg, h3⟩
  · exact .inl h'
  · exact .inr ⟨g', cap', cur, h', hB, (hb.block _ (Array.getElem?_eq_some_iff.1 hg).1).trans hg, h3⟩
theorem rowCells_le (f : Ar) (y n : Nat) (hn : n ≤ 48) : (rowCells f y n).length ≤ 48 := by
  rw [rowCells_len]; exact Nat.le_trans (cnt_le _ _) hn
theorem cellsTo_le (f : Ar) (n : Nat) (hn : n ≤ 24) : (cellsTo f n).length ≤ 1152 := by
  rw [cellsTo_len]
  exact Nat.le_trans (sum_le (fun y => cntTo (fun x => f x y) 48) 48 (fun y => cnt_le _ 48) n) (by omega)
set_option maxRecDepth 100000 in
set_option maxHeartbeats 1000000 in
theorem rcells_some (b o c : Nat) (f : Ar) (w : World) (h : SA w (some ⟨b, o, none⟩) 24 f) :
    Calls Tryd.prog 51 #[.agg #[.slice (some ⟨b, o, none⟩) 24 c]] w (OutCs w (cellsTo f 24)) := by
  obtain ⟨i0, hi, hz0, hz1, hz2⟩ := info_parts' infoCell
  obtain ⟨v1, Ba, eA1, eB1, hb1, hk1⟩ := box1 w #[.slice (some ⟨b, o, none⟩) 24 c] 27
  have UB := Lib.hid ((up_bl w).next hb1)
  have UA := Lib.hid (up_va (Sl.below h (Nat.le_refl _) hb1) hk1)
  have HI := Lib.hid (And.intro hi (And.intro hz0 (And.intro hz1 hz2)))
  clear h hb1 hk1 hi hz0 hz1 hz2
  go_enter Tryd.func51, Tryd.ntmps51
  have hl0 := UA.out.now.cell
  go_wp2_with fail
  clear eA1 eB1
  clear hl0
  (with_reducible refine (rvalid_yes UA.out.now.1).mono ?_)
  rintro e w2 ⟨rfl, hb⟩
  replace UB := Lib.hid (UB.out.next hb)
  replace UA := Lib.hid (UA.out.next hb)
  clear hb
  go_wp2
  go_loopw [3, 4] (fun v yv wr => ∃ y : Nat, y ≤ 24 ∧ yv = .int .i64 y ∧ wr.ownsRow w2.heap.size 23 2 v (cellsTo f y).length (cvs (cellsTo f y)) ∧ Below w2.heap.size w2 wr) (fun _ yv _ => 24 - (intOf yv).toNat)
  case atStart => exact ⟨0, by omega, rfl, World.ownsRow_nil _ _ _ _, Below.refl _ _⟩
  case round =>
    obtain ⟨y, hy, rfl, hrow, hB⟩ := hrel
    have HR := Lib.hid hrow
    have HB := Lib.hid hB
    clear hrow hB
    have y0 : (0 : Int) ≤ y := by omega
    rename World => wy
    by_cases hlt : y < 24
    · have y1 : (y : Int) < 24 := by omega
      go_wp2
      go_loopw [3, 5] (fun v xv wr => ∃ x : Nat, x ≤ 48 ∧ xv = .int .i64 x ∧ wr.ownsRow w2.heap.size 23 2 v (cellsTo f y ++ rowCells f y x).length (cvs (cellsTo f y ++ rowCells f y x)) ∧ Below w2.heap.size w2 wr) (fun _ xv _ => 48 - (intOf xv).toNat)
      case atStart => exact ⟨0, by omega, rfl, by rw [show rowCells f y 0 = [] from rfl, List.append_nil]; exact HR.out, HB.out⟩
      case round =>
        obtain ⟨x, hx, rfl, hrow, hB⟩ := hrel
        clear HR HB
        have UBx := Lib.hid (UB.out.next hB)
        have UAx := Lib.hid (UA.out.next hB)
        have UCx := Lib.hid ((up_bl w2).next hB)
        have HR := Lib.hid hrow
        clear hrow hB
        have x0 : (0 : Int) ≤ x := by omega
        by_cases hxl : x < 48
        · have x1 : (x : Int) < 48 := by omega
          obtain ⟨r, hr⟩ : ∃ r, f x y = r := ⟨_, rfl⟩
          have HF := Lib.hid hr
          clear hr
          have hl0 := UAx.out.now.cell
          go_wp2_with fail
          clear hl0
          (with_reducible refine ((rhas_any b o c f x y hxl hlt _ UAx.out.now.1).mono (OutV.as (congrArg Value.bool HF.out))).mono ?_)
          rintro e w3 ⟨rfl, hb⟩
          have HR2 := Lib.hid (row_keep HR.out hb)
          clear HR
          replace UBx := Lib.hid (UBx.out.next hb)
          replace UAx := Lib.hid (UAx.out.next hb)
          replace UCx := Lib.hid (UCx.out.next hb)
          clear hb
          rcases r with _ | _
          · go_wp2
            refine ⟨⟨x + 1, by omega, by go_num, ?_, UCx.out.now⟩, by simp [intOf]; omega⟩
            rw [rowCells_succ, HF.out, if_neg (by decide), List.append_nil]
            exact HR2.out
          · have hrow := HR2.out
            obtain ⟨hi, hz0, hz1, hz2⟩ := HI.out
            have hle := UCx.out.now.size
            have hlen : (cellsTo f y ++ rowCells f y x).length ≤ 2304 := by rw [List.length_append]; have := cellsTo_le f y (by omega); have := rowCells_le f y x hx; omega
            have HW := Lib.hid (show (cvs (cellsTo f y ++ rowCells f y (x + 1)) = cvs (cellsTo f y ++ rowCells f y x) ++ [iV x, iV y]) ∧ (cellsTo f y ++ rowCells f y (x + 1)).length = (cellsTo f y ++ rowCells f y x).length + 1 from by rw [rowCells_succ, HF.out, if_pos rfl, ← List.append_assoc]; exact ⟨cvs_app _ [(x, y)], by rw [List.length_append]; rfl⟩)
            generalize hL : (cellsTo f y ++ rowCells f y x).length = L at hrow HW hlen
            have HLL := Lib.hid hlen
            clear hlen hL HR2
            go_wp2_with (at_builtin; refine wpList_append_own _ rfl _ _ 37 rfl w2.heap.size 23 i0 (.agg #[.int .i64 0, .int .i64 0]) 2 16 Tryd.underlying37 hi hz0 hz1 hz2 rfl (by decide) _ _ _ rfl (hrow.alloc _) ⟨w3.heap.size, 0, none⟩ 1 1 [iV x, iV y] rfl rfl (World.news_of_block (cs := #[iV x, iV y]) (heap_new' w3 _ _ rfl)) (by simp [Value.oneCell']) (by have := HLL.out; unfold maxLen; omega) (by have := HLL.out; omega) (by simp; omega) ?_; intro v' w9 hown' hgrow _; have HR9 := Lib.hid hown'; have HB9 := Lib.hid ((UCx.out.now.alloc hle _).grown hgrow (by simp; omega) (fun k hk => (hrow.lt k hk).1)); clear hown' hgrow hrow hi hz0 hz1 hz2)
            refine ⟨⟨x + 1, by omega, by go_num, ?_, HB9.out⟩, by simp [intOf]; omega⟩
            rw [HW.out.1, HW.out.2]
            exact HR9.out
        · obtain rfl : x = 48 := by omega
          have HB := Lib.hid UCx.out.now
          clear UBx UAx UCx
          go_wp2
          exact ⟨⟨y + 1, by omega, by go_num, HR.out, HB.out⟩, by simp [intOf]; omega⟩
    · obtain rfl : y = 24 := by omega
      have HL := Lib.hid (Cs.of_row2 HR.out (cellsTo_le f 24 (by omega)))
      have UE := Lib.hid (UB.out _ HB.out)
      have UZ := Lib.hid UB.out.now.size
      clear UA UB HI HR HB
      obtain ⟨rl, rc, rfl, hcs, hfr⟩ := HL.out
      have HC := Lib.hid hcs
      have HFR := Lib.hid (fun x hx => Nat.le_trans UZ.out (hfr x hx))
      clear HL hcs hfr
      go_wp2
      go_ret
      exact ⟨rl, rc, rfl, HC.out, HFR.out, UE.out⟩
set_option maxRecDepth 100000 in
set_option maxHeartbeats 1000000 in
theorem rcells_none (al : Option Addr) (n c : Nat) (zs : List Int) (hO : Is zs none) (w : World) (h : Sl w al n zs) :
    Calls Tryd.prog 51 #[.agg #[.slice al n c]] w (OutCs w []) := by
  obtain ⟨v1, Ba, eA1, eB1, hb1, hk1⟩ := box1 w #[.slice al n c] 27
  have UB := Lib.hid ((up_bl w).next hb1)
  have UA := Lib.hid (up_vg (Sl.below h (Nat.le_refl _) hb1) hk1)
  have HO := Lib.hid hO
  clear h hb1 hk1 hO
  go_enter Tryd.func51, Tryd.ntmps51
  have hl0 := UA.out.now.cell
  go_wp2_with fail
  clear eA1 eB1
  clear hl0
  (with_reducible refine (rvalid_no HO.out UA.out.now.1).mono ?_)
  rintro e w2 ⟨rfl, hb⟩
  replace UB := Lib.hid (UB.out.next hb)
  replace UA := Lib.hid (UA.out.next hb)
  clear hb
  go_wp2
  go_ret
  exact ⟨none, 0, rfl, ⟨rfl, by decide, .inl rfl⟩, (fun x hx => by cases hx), UB.out.now⟩
theorem cells_nul : cellsTo nul 24 = [] := List.eq_nil_of_length_eq_zero (by rw [cells_len]; exact count_zero.2 (fun x y _ _ => rfl))
theorem rCells_any (al : Option Addr) (n c : Nat) (zs : List Int) (o : Option Ar) (hO : Is zs o) (w : World) (h : Sl w al n zs) :
    Calls Tryd.prog 51 #[.agg #[.slice al n c]] w (OutCs w (cellsTo (of o) 24)) := by
  cases o with
  | none =>
    rw [show cellsTo (of none) 24 = [] from cells_nul]
    exact rcells_none al n c zs hO w h
  | some f =>
    obtain rfl : zs = rz f := hO
    obtain ⟨rfl, b, o, rfl, hb, hc⟩ := SA.parts h
    exact rcells_some b o c f w h
set_option maxRecDepth 100000 in
set_option maxHeartbeats 1000000 in
theorem rCount_any (al : Option Addr) (n c : Nat) (zs : List Int) (oa : Option Ar) (hO : Is zs oa) (w : World) (h : Sl w al n zs) :
    Calls Tryd.prog 46 #[.agg #[.slice al n c]] w (OutV w (.int .i64 (count (of oa) : Nat))) := by
  obtain ⟨v1, Ba, eA1, eB1, hb1, hk1⟩ := box1 w #[.slice al n c] 27
  have UB := Lib.hid ((up_bl w).next hb1)
  have UA := Lib.hid (up_vg (Sl.below h (Nat.le_refl _) hb1) hk1)
  have HO := Lib.hid hO
  clear h hb1 hk1 hO
  go_enter Tryd.func46, Tryd.ntmps46
  have hl0 := UA.out.now.cell
  go_wp2_with fail
  clear eA1 eB1
  clear hl0
  (with_reducible refine (rCells_any al n c zs oa HO.out _ UA.out.now.1).mono ?_)
  rintro e w1 ⟨rl, rc, rfl, hc, _, hb⟩
  replace UB := Lib.hid (UB.out.next hb)
  replace UA := Lib.hid (UA.out.next hb)
  rw [cells_len]
  clear hc hb
  go_wp2
  go_ret
  exact ⟨rfl, UB.out.now⟩
end Go.Proofs.YtbgdlfkeimaaiaaDoor

namespace Go.Proofs.YtbgdlfkeimaaiaaDoor
open Go.RowKit Go.Shelf
set_option linter.unusedVariables false
set_option linter.unusedSimpArgs false
/-- A block that begins with the rows of f. -/
def HasR (w : World) (g : Nat) (f : Ar) : Prop := ∃ cs : Array Value, w.heap[g]? = some (.cells cs 3 (0, 0)) ∧ ∀ y, y < 24 → cs[y]? = some (iV (rowOf f y))
theorem HasR.lt {w : World} {g : Nat} {f : Ar} (h : HasR w g f) : g < w.heap.size := by
  obtain ⟨cs, h1, _⟩ := h
  exact (Array.getElem?_eq_some_iff.1 h1).1
theorem HasR.cell {w : World} {g : Nat} {f : Ar} (h : HasR w g f) {y : Nat} (hy : y < 24) : w.cell? ⟨g, y, none⟩ = some (iV (rowOf f y)) := by
  obtain ⟨cs, h1, h2⟩ := h
  exact (cell_of_row w g y cs _ (0, 0) h1).trans (h2 y hy)
theorem HasR.frozen {w : World} {g : Nat} {f : Ar} (h : HasR w g f) (y : Nat) : w.frozen? ⟨g, y, none⟩ = false := by
  obtain ⟨cs, h1, _⟩ := h
  exact frozen_of_row w g y cs _ h1
theorem HasR.below {B : Nat} {w w' : World} {g : Nat} {f : Ar} (h : HasR w g f) (hb : Below B w w') (hg : g < B) : HasR w' g f := by
  obtain ⟨cs, h1, h2⟩ := h
  exact ⟨cs, (hb.block g hg).trans h1, h2⟩
theorem HasR.same {w w' : World} {g : Nat} {f : Ar} (h : HasR w g f) (hb : w'.heap[g]? = w.heap[g]?) : HasR w' g f := by
  obtain ⟨cs, h1, h2⟩ := h
  exact ⟨cs, hb.trans h1, h2⟩
theorem HasR.set {w : World} {g : Nat} {f f' : Ar} (h : HasR w g f) {k r : Nat} (hk : k < 24) (hr : rowOf f' k = r) (ho : ∀ y, y < 24 → y ≠ k → ∀ x, x < 48 → f' x y = f x y) : HasR (w.setCell ⟨g, k, none⟩ (iV r)) g f' := by
  obtain ⟨cs, h1, h2⟩ := h
  refine ⟨_, heap_setCell_same _ _ k _ _ _ h1, fun y hy => ?_⟩
  by_cases e : y = k
  · subst e
    have hlt := (Array.getElem?_eq_some_iff.1 (h2 y hy)).1
    rw [Array.getElem?_setIfInBounds_self_of_lt hlt, hr]
  · rw [Array.getElem?_setIfInBounds_ne (fun h => e h.symm), h2 y hy]
    exact congrArg (fun r => some (iV r)) (bits_congr (fun x hx => (ho y hy e x hx).symm))
/-- What a loop keeps that puts cells into an area of its own: the variable B holds the block g. -/
def Ob (w2 : World) (g B c : Nat) (f : Ar) (W : World) : Prop := HasR W g f ∧ Below w2.heap.size w2 W ∧ W.heap[B]? = some (.cells #[.slice (some ⟨g, 0, none⟩) 24 c] 27 (0, 0)) ∧ w2.heap.size ≤ g ∧ g ≠ B ∧ w2.heap.size ≤ B
theorem Ob.next {w2 W W' : World} {g B c : Nat} {f : Ar} (h : Ob w2 g B c f W) (hb : Below W.heap.size W W') : Ob w2 g B c f W' :=
  ⟨h.1.below hb h.1.lt, h.2.1.trans (hb.mono h.2.1.size), (hb.block B (Array.getElem?_eq_some_iff.1 h.2.2.1).1).trans h.2.2.1, h.2.2.2⟩
theorem Ob.cell {w2 W : World} {g B c : Nat} {f : Ar} (h : Ob w2 g B c f W) : W.cell? ⟨B, 0, none⟩ = some (.slice (some ⟨g, 0, none⟩) 24 c) := (row_cell h.2.2.1 0).trans rfl
theorem Ob.drew {w2 W : World} {g B c : Nat} {f : Ar} (h : Ob w2 g B c f W) : Ob w2 g B c f W.drew := ⟨h.1.same rfl, h.2.1.drew, h.2.2.1, h.2.2.2⟩
/-- The row Y, set in place. -/
theorem Ob.row {w2 W : World} {g B c : Nat} {f f' : Ar} (h : Ob w2 g B c f W) {y r : Nat} (hy : y < 24) (hr : rowOf f' y = r) (ho : ∀ z, z < 24 → z ≠ y → ∀ x, x < 48 → f' x z = f x z) : Ob w2 g B c f' (W.setCell ⟨g, y, none⟩ (iV r)) :=
  ⟨h.1.set hy hr ho, h.2.1.setCell h.2.2.2.1 _, (heap_setCell_other _ _ _ _ (fun e => h.2.2.2.2.1 e.symm)).trans h.2.2.1, h.2.2.2⟩
end Go.Proofs.YtbgdlfkeimaaiaaDoor

namespace Go.Proofs.YtbgdlfkeimaaiaaDoor
open Go.RowKit Go.Shelf
set_option linter.unusedVariables false
set_option linter.unusedSimpArgs false
/-- All blocks but g are as they were. -/
def Kp (W0 : World) (g : Nat) (W : World) : Prop := W0.heap.size ≤ W.heap.size ∧ ∀ k, k < W0.heap.size → k ≠ g → W.heap[k]? = W0.heap[k]?
theorem Kp.refl (W : World) (g : Nat) : Kp W g W := ⟨Nat.le_refl _, fun _ _ _ => rfl⟩
theorem Kp.drew (W : World) (g : Nat) : Kp W g W.drew := ⟨Nat.le_refl _, fun _ _ _ => rfl⟩
theorem Kp.trans {A B C : World} {g : Nat} (h : Kp A g B) (h' : Kp B g C) : Kp A g C := ⟨Nat.le_trans h.1 h'.1, fun k hk hn => (h'.2 k (Nat.lt_of_lt_of_le hk h.1) hn).trans (h.2 k hk hn)⟩
end Go.Proofs.YtbgdlfkeimaaiaaDoor

namespace Go.Proofs.YtbgdlfkeimaaiaaDoor
open Go.RowKit Go.Shelf
set_option linter.unusedVariables false
set_option linter.unusedSimpArgs false
section
variable {al bl : Option Addr} {n c m d : Nat} {zs ys : List Int} {oa ob : Option Ar}
end
/-- A slice of whole numbers, of any length. -/
def Sw (W : World) (al : Option Addr) (n c : Nat) (zs : List Int) : Prop :=
  n ≤ c ∧ n ≤ 9223372036854775807 ∧ n = zs.length ∧ (∀ z ∈ zs, -9223372036854775808 ≤ z ∧ z ≤ 9223372036854775807) ∧ (n = 0 ∨ ∃ b o, al = some ⟨b, o, none⟩ ∧ b < W.heap.size ∧ ∀ i, i < n → W.cell? ⟨b, o + i, none⟩ = some (.int .i64 (zs.getD i 0)))
theorem Sw.cut {W : World} {al : Option Addr} {n c k : Nat} {zs : List Int} (h : Sw W al n c zs) (hk : k = min n 25) : Sl W al k (zs.take k) := by
  obtain ⟨h1, h2, h3, h4, h5⟩ := h
  refine ⟨by rw [List.length_take]; omega, by omega, fun z hz => h4 z (List.mem_of_mem_take hz), ?_⟩
  rcases h5 with h5 | ⟨b, o, rfl, hb, hc⟩
  · exact .inl (by omega)
  · refine .inr ⟨b, o, rfl, hb, fun i hi => ?_⟩
    rw [hc i (by omega), List.getD_eq_getElem?_getD, List.getD_eq_getElem?_getD, List.getElem?_take, if_pos hi]
end Go.Proofs.YtbgdlfkeimaaiaaDoor

namespace Go.Proofs.YtbgdlfkeimaaiaaDoor
open Go.RowKit
section
variable {P : Program}
theorem run_cut_to (t e : TypeId) (sz : Nat) (hu : P.underlying t = some (.slice e)) (hs : (P.info? e).map (·.size) = some sz) (al : Option Addr) (n c h : Nat) (hh : h ≤ c) (w : World) :
    (Instr.slice t (.slice al n c) none (some (.int .i64 h)) none).run P w = .ok (.slice al h c) w := by
  cases hq : P.info? e with
  | none => simp [hq] at hs
  | some i =>
    cases al <;> simp [Instr.slice, Instr.sliceBounds, Instr.sliceBound, asIntOf, run_underlying hu, sizeOf, typeInfo, hq, go_sem] <;> intro h' <;> omega
end
end Go.Proofs.YtbgdlfkeimaaiaaDoor

namespace Go.Proofs.YtbgdlfkeimaaiaaDoor
open Go.RowKit Go.Shelf
set_option linter.unusedVariables false
set_option linter.unusedSimpArgs false
/-- An area with these rows is returned. -/
def OutS (w : World) (zs : List Int) (en : Ending) (w' : World) : Prop := ∃ al n c, en = .returned (.agg #[.slice al n c]) ∧ Sl w' al n zs ∧ Below w.heap.size w w'
theorem Sw.below {W W' : World} {al : Option Addr} {n c : Nat} {zs : List Int} (h : Sw W al n c zs) (hb : Below W.heap.size W W') : Sw W' al n c zs := by
  obtain ⟨h1, h2, h3, h4, h5⟩ := h
  refine ⟨h1, h2, h3, h4, ?_⟩
  rcases h5 with h5 | ⟨b, o, rfl, hlt, hc⟩
  · exact .inl h5
  · exact .inr ⟨b, o, rfl, Nat.lt_of_lt_of_le hlt hb.size, fun i hi => (hb.cell (p := ⟨b, o + i, none⟩) hlt).trans (hc i hi)⟩
theorem sl_set {W : World} {al : Option Addr} {n : Nat} {zs : List Int} {D k : Nat} {v : Value} (h : Sl W al n zs) (hn : n = 0 ∨ ∀ b q, al = some ⟨b, q, none⟩ → b ≠ D) : Sl (W.setCell ⟨D, k, none⟩ v) al n zs := by
  obtain ⟨h1, h2, h3, h4⟩ := h
  refine ⟨h1, h2, h3, ?_⟩
  rcases h4 with h4 | ⟨b, o, rfl, hb, hc⟩
  · exact .inl h4
  · rcases hn with hn | hn
    · exact .inl hn
    · exact .inr ⟨b, o, rfl, by simpa using hb, fun i hi => (World.cell?_of_block (a := ⟨b, o + i, none⟩) (heap_setCell_other _ _ _ _ (hn b o rfl))).trans (hc i hi)⟩
theorem sl_lt {W : World} {al : Option Addr} {n : Nat} {zs : List Int} (h : Sl W al n zs) {D : Nat} (hD : W.heap.size ≤ D) : n = 0 ∨ ∀ b q, al = some ⟨b, q, none⟩ → b ≠ D := by
  rcases h.2.2.2 with h4 | ⟨b, o, rfl, hb, hc⟩
  · exact .inl h4
  · refine .inr fun b' q e => ?_
    cases e
    omega
theorem few_out {w W : World} {al : Option Addr} {n c k P : Nat} {zs : List Int} {v : Value} (h : Sw w al n c zs) (hk : k = min n 25) (hb : Below w.heap.size w W) (hP : w.heap.size ≤ P) : OutS w (zs.take k) (.returned (.agg #[.slice al k c])) (W.setCell ⟨P, 0, none⟩ v) :=
  ⟨al, k, c, rfl, sl_set ((h.cut hk).below (Nat.le_refl _) hb) (sl_lt (h.cut hk) hP), hb.setCell hP _⟩
set_option maxRecDepth 100000 in
set_option maxHeartbeats 1000000 in
theorem few_any (al : Option Addr) (n c : Nat) (zs : List Int) (w : World) (h : Sw w al n c zs) :
    Calls Tryd.prog 27 #[.agg #[.slice al n c]] w (fun e w' => ∃ k, OutS w (zs.take k) e w') := by
  have HS := Lib.hid h
  have hc := h.1
  obtain ⟨v1, Ba, eA1, eB1, hb1, hk1⟩ := box1 w #[.slice al n c] 27
  obtain ⟨v2, Bp, eA2, eB2, hb2, hk2⟩ := box1 v1 #[.slice none 0 0] 27
  have UB := Lib.hid (((up_bl w).next hb1).next hb2)
  have UA := Lib.hid ((up_vr hk1 : Up v1 (VR Ba #[.slice al n c] 27)).next hb2)
  have UP := Lib.hid (up_vr hk2 : Up v2 (VR Bp #[.slice none 0 0] 27))
  have HP := Lib.hid (show w.heap.size ≤ Bp from by rw [← eB2]; exact ((up_bl w).next hb1).now.size)
  clear hb1 hb2 hk1 hk2
  have cA := (row_cell UA.out.now 0).trans (show _ = some (.slice al n c) from rfl)
  have HB := Lib.hid UB.out.now
  have dP := (row_cell UP.out.now 0).trans (show _ = some (.slice none 0 0) from rfl)
  have fP := frozen_of_row _ Bp 0 _ _ UP.out.now
  clear h UA UB UP
  rcases Nat.lt_trichotomy n 25 with h3 | h3 | h3
  · have g0 : (n : Int) < 25 := by omega
    have hcut := fun w => run_cut_to (P := Tryd.prog) 25 3 1 Tryd.underlying25 (by kernel_rfl) al n c n (by omega) w
    go_enter Tryd.func27, Tryd.ntmps27
    go_wp2
    exact bodyPost_ret (v := .agg #[.slice al n c]) (by simp [results, Tryd.results27, go_sem, dP]) rfl ⟨n, few_out HS.out (by omega) HB.out HP.out⟩
  · subst h3
    have hz := hc
    have hcut := fun w => run_cut_to (P := Tryd.prog) 25 3 1 Tryd.underlying25 (by kernel_rfl) al 25 c 25 (by omega) w
    simp only [show (((25 : Nat) : Int)) = 25 from rfl] at hcut
    go_enter Tryd.func27, Tryd.ntmps27
    go_wp2
    exact bodyPost_ret (v := .agg #[.slice al 25 c]) (by simp [results, Tryd.results27, go_sem, dP]) rfl ⟨25, few_out HS.out (by omega) HB.out HP.out⟩
  · have g0 : (25 : Int) < n := by omega
    have hcut := fun w => run_cut_to (P := Tryd.prog) 25 3 1 Tryd.underlying25 (by kernel_rfl) al n c 25 (by omega) w
    simp only [show (((25 : Nat) : Int)) = 25 from rfl] at hcut
    go_enter Tryd.func27, Tryd.ntmps27
    go_wp2
    exact bodyPost_ret (v := .agg #[.slice al 25 c]) (by simp [results, Tryd.results27, go_sem, dP]) rfl ⟨25, few_out HS.out (by omega) HB.out HP.out⟩
end Go.Proofs.YtbgdlfkeimaaiaaDoor
