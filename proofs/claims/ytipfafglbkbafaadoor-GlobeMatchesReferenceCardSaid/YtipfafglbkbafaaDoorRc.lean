/- The reference's Cells, Count. -/
import Derived.Laws.AppendOwn
import Derived.Test.YtipfafglbkbafaaDoorRh
namespace Go.Proofs.YtipfafglbkbafaaDoor
open Go.RowKit Go.Shelf
set_option linter.unusedVariables false
set_option linter.unusedSimpArgs false
/-- A list of cells is returned. -/
def OutCs (w : World) (l : List (Nat × Nat)) (e : Ending) (w' : World) : Prop := ∃ rl rc, e = .returned (.slice rl l.length rc) ∧ Cs w' rl l.length l ∧ (∀ x, rl = some x → w.heap.size ≤ x.block) ∧ Below w.heap.size w w'
theorem Cs.of_row2 {W : World} {n0 : Nat} {e : TypeId} {v : Value} {l : List (Nat × Nat)} (h : W.ownsRow n0 e 2 v l.length (cvs l)) (hl : l.length ≤ 1152) : ∃ al c, v = .slice al l.length c ∧ Cs W al l.length l ∧ (∀ x, al = some x → n0 ≤ x.block) := by
  obtain ⟨al, c, rfl, hc⟩ := Cs.of_row h hl
  refine ⟨al, c, rfl, hc, fun x hx => ?_⟩
  subst hx
  rcases h.2 with ⟨h1, _⟩ | ⟨g, cap, cur, h1, hb, _⟩
  · cases h1
  · cases h1
    exact hb
theorem row_keep {W W' : World} {B : Nat} {e : TypeId} {k : Nat} {v : Value} {n : Nat} {xs : List Value} (h : W.ownsRow B e k v n xs) (hb : Below W.heap.size W W') : W'.ownsRow B e k v n xs := by
  refine ⟨h.1, ?_⟩
  rcases h.2 with h' | ⟨g', cap', cur, h', hB, hg, h3⟩
  · exact .inl h'
  · exact .inr ⟨g', cap', cur, h', hB, (hb.block _ (Array.getElem?_eq_some_iff.1 hg).1).trans hg, h3⟩
theorem rowCells_le (f : Ar) (y n : Nat) (hn : n ≤ 48) : (rowCells f y n).length ≤ 48 := by
  rw [rowCells_len]; exact Nat.le_trans (cnt_le _ _) hn
theorem cellsTo_le (f : Ar) (n : Nat) (hn : n ≤ 24) : (cellsTo f n).length ≤ 1152 := by
  rw [cellsTo_len]
  exact Nat.le_trans (sum_le (fun y => cntTo (fun x => f x y) 48) 48 (fun y => cnt_le _ 48) n) (by omega)
set_option maxRecDepth 100000 in
set_option maxHeartbeats 1000000 in
theorem rcells_some (b o c : Nat) (f : Ar) (w : World) (h : SA w (some ⟨b, o, none⟩) 24 f) :
    Calls Tryd.prog 28 #[.agg #[.slice (some ⟨b, o, none⟩) 24 c]] w (OutCs w (cellsTo f 24)) := by
  obtain ⟨i0, hi, hz0, hz1, hz2⟩ := info_parts' infoCell
  obtain ⟨v1, Ba, eA1, eB1, hb1, hk1⟩ := box1 w #[.slice (some ⟨b, o, none⟩) 24 c] 25
  have UB := Lib.hid ((up_bl w).next hb1)
  have UA := Lib.hid (up_va (Sl.below h (Nat.le_refl _) hb1) hk1)
  have HI := Lib.hid (And.intro hi (And.intro hz0 (And.intro hz1 hz2)))
  clear h hb1 hk1 hi hz0 hz1 hz2
  go_enter Tryd.func28, Tryd.ntmps28
  have hl0 := UA.out.now.cell
  go_wp2_with fail
  clear eA1 eB1
  clear hl0
  (with_reducible refine (rvalid_yes UA.out.now.1).mono ?_)
  rintro e w2 ⟨rfl, hb⟩
  replace UB := Lib.hid (UB.out.next hb)
  replace UA := Lib.hid (UA.out.next hb)
  clear hb
  go_wp2
  go_loopw [3, 4] (fun v yv wr => ∃ y : Nat, y ≤ 24 ∧ yv = .int .i64 y ∧ wr.ownsRow w2.heap.size 27 2 v (cellsTo f y).length (cvs (cellsTo f y)) ∧ Below w2.heap.size w2 wr) (fun _ yv _ => 24 - (intOf yv).toNat)
  case atStart => exact ⟨0, by omega, rfl, World.ownsRow_nil _ _ _ _, Below.refl _ _⟩
  case round =>
    obtain ⟨y, hy, rfl, hrow, hB⟩ := hrel
    have HR := Lib.hid hrow
    have HB := Lib.hid hB
    clear hrow hB
    have y0 : (0 : Int) ≤ y := by omega
    rename World => wy
    by_cases hlt : y < 24
    · have y1 : (y : Int) < 24 := by omega
      go_wp2
      go_loopw [3, 5] (fun v xv wr => ∃ x : Nat, x ≤ 48 ∧ xv = .int .i64 x ∧ wr.ownsRow w2.heap.size 27 2 v (cellsTo f y ++ rowCells f y x).length (cvs (cellsTo f y ++ rowCells f y x)) ∧ Below w2.heap.size w2 wr) (fun _ xv _ => 48 - (intOf xv).toNat)
      case atStart => exact ⟨0, by omega, rfl, by rw [show rowCells f y 0 = [] from rfl, List.append_nil]; exact HR.out, HB.out⟩
      case round =>
        obtain ⟨x, hx, rfl, hrow, hB⟩ := hrel
        clear HR HB
        have UBx := Lib.hid (UB.out.next hB)
        have UAx := Lib.hid (UA.out.next hB)
        have UCx := Lib.hid ((up_bl w2).next hB)
        have HR := Lib.hid hrow
        clear hrow hB
        have x0 : (0 : Int) ≤ x := by omega
        by_cases hxl : x < 48
        · have x1 : (x : Int) < 48 := by omega
          obtain ⟨r, hr⟩ : ∃ r, f x y = r := ⟨_, rfl⟩
          have HF := Lib.hid hr
          clear hr
          have hl0 := UAx.out.now.cell
          go_wp2_with fail
          clear hl0
          (with_reducible refine ((rhas_any b o c f x y hxl hlt _ UAx.out.now.1).mono (OutV.as (congrArg Value.bool HF.out))).mono ?_)
          rintro e w3 ⟨rfl, hb⟩
          have HR2 := Lib.hid (row_keep HR.out hb)
          clear HR
          replace UBx := Lib.hid (UBx.out.next hb)
          replace UAx := Lib.hid (UAx.out.next hb)
          replace UCx := Lib.hid (UCx.out.next hb)
          clear hb
          rcases r with _ | _
          · go_wp2
            refine ⟨⟨x + 1, by omega, by go_num, ?_, UCx.out.now⟩, by simp [intOf]; omega⟩
            rw [rowCells_succ, HF.out, if_neg (by decide), List.append_nil]
            exact HR2.out
          · have hrow := HR2.out
            obtain ⟨hi, hz0, hz1, hz2⟩ := HI.out
            have hle := UCx.out.now.size
            have hlen : (cellsTo f y ++ rowCells f y x).length ≤ 2304 := by rw [List.length_append]; have := cellsTo_le f y (by omega); have := rowCells_le f y x hx; omega
            have HW := Lib.hid (show (cvs (cellsTo f y ++ rowCells f y (x + 1)) = cvs (cellsTo f y ++ rowCells f y x) ++ [iV x, iV y]) ∧ (cellsTo f y ++ rowCells f y (x + 1)).length = (cellsTo f y ++ rowCells f y x).length + 1 from by rw [rowCells_succ, HF.out, if_pos rfl, ← List.append_assoc]; exact ⟨cvs_app _ [(x, y)], by rw [List.length_append]; rfl⟩)
            generalize hL : (cellsTo f y ++ rowCells f y x).length = L at hrow HW hlen
            have HLL := Lib.hid hlen
            clear hlen hL HR2
            go_wp2_with (at_builtin; refine wpList_append_own _ rfl _ _ 36 rfl w2.heap.size 27 i0 (.agg #[.int .i64 0, .int .i64 0]) 2 16 Tryd.underlying36 hi hz0 hz1 hz2 rfl (by decide) _ _ _ rfl (hrow.alloc _) ⟨w3.heap.size, 0, none⟩ 1 1 [iV x, iV y] rfl rfl (World.news_of_block (cs := #[iV x, iV y]) (heap_new' w3 _ _ rfl)) (by simp [Value.oneCell']) (by have := HLL.out; unfold maxLen; omega) (by have := HLL.out; omega) (by simp; omega) ?_; intro v' w9 hown' hgrow _; have HR9 := Lib.hid hown'; have HB9 := Lib.hid ((UCx.out.now.alloc hle _).grown hgrow (by simp; omega) (fun k hk => (hrow.lt k hk).1)); clear hown' hgrow hrow hi hz0 hz1 hz2)
            refine ⟨⟨x + 1, by omega, by go_num, ?_, HB9.out⟩, by simp [intOf]; omega⟩
            rw [HW.out.1, HW.out.2]
            exact HR9.out
        · obtain rfl : x = 48 := by omega
          have HB := Lib.hid UCx.out.now
          clear UBx UAx UCx
          go_wp2
          exact ⟨⟨y + 1, by omega, by go_num, HR.out, HB.out⟩, by simp [intOf]; omega⟩
    · obtain rfl : y = 24 := by omega
      have HL := Lib.hid (Cs.of_row2 HR.out (cellsTo_le f 24 (by omega)))
      have UE := Lib.hid (UB.out _ HB.out)
      have UZ := Lib.hid UB.out.now.size
      clear UA UB HI HR HB
      obtain ⟨rl, rc, rfl, hcs, hfr⟩ := HL.out
      have HC := Lib.hid hcs
      have HFR := Lib.hid (fun x hx => Nat.le_trans UZ.out (hfr x hx))
      clear HL hcs hfr
      go_wp2
      go_ret
      exact ⟨rl, rc, rfl, HC.out, HFR.out, UE.out⟩
set_option maxRecDepth 100000 in
set_option maxHeartbeats 1000000 in
theorem rcells_none (al : Option Addr) (n c : Nat) (zs : List Int) (hO : Is zs none) (w : World) (h : Sl w al n zs) :
    Calls Tryd.prog 28 #[.agg #[.slice al n c]] w (OutCs w []) := by
  obtain ⟨v1, Ba, eA1, eB1, hb1, hk1⟩ := box1 w #[.slice al n c] 25
  have UB := Lib.hid ((up_bl w).next hb1)
  have UA := Lib.hid (up_vg (Sl.below h (Nat.le_refl _) hb1) hk1)
  have HO := Lib.hid hO
  clear h hb1 hk1 hO
  go_enter Tryd.func28, Tryd.ntmps28
  have hl0 := UA.out.now.cell
  go_wp2_with fail
  clear eA1 eB1
  clear hl0
  (with_reducible refine (rvalid_no HO.out UA.out.now.1).mono ?_)
  rintro e w2 ⟨rfl, hb⟩
  replace UB := Lib.hid (UB.out.next hb)
  replace UA := Lib.hid (UA.out.next hb)
  clear hb
  go_wp2
  go_ret
  exact ⟨none, 0, rfl, ⟨rfl, by decide, .inl rfl⟩, (fun x hx => by cases hx), UB.out.now⟩
theorem cells_nul : cellsTo nul 24 = [] := List.eq_nil_of_length_eq_zero (by rw [cells_len]; exact count_zero.2 (fun x y _ _ => rfl))
theorem rCells_any (al : Option Addr) (n c : Nat) (zs : List Int) (o : Option Ar) (hO : Is zs o) (w : World) (h : Sl w al n zs) :
    Calls Tryd.prog 28 #[.agg #[.slice al n c]] w (OutCs w (cellsTo (of o) 24)) := by
  cases o with
  | none =>
    rw [show cellsTo (of none) 24 = [] from cells_nul]
    exact rcells_none al n c zs hO w h
  | some f =>
    obtain rfl : zs = rz f := hO
    obtain ⟨rfl, b, o, rfl, hb, hc⟩ := SA.parts h
    exact rcells_some b o c f w h
set_option maxRecDepth 100000 in
set_option maxHeartbeats 1000000 in
theorem rCount_any (al : Option Addr) (n c : Nat) (zs : List Int) (oa : Option Ar) (hO : Is zs oa) (w : World) (h : Sl w al n zs) :
    Calls Tryd.prog 25 #[.agg #[.slice al n c]] w (OutV w (.int .i64 (count (of oa) : Nat))) := by
  obtain ⟨v1, Ba, eA1, eB1, hb1, hk1⟩ := box1 w #[.slice al n c] 25
  have UB := Lib.hid ((up_bl w).next hb1)
  have UA := Lib.hid (up_vg (Sl.below h (Nat.le_refl _) hb1) hk1)
  have HO := Lib.hid hO
  clear h hb1 hk1 hO
  go_enter Tryd.func25, Tryd.ntmps25
  have hl0 := UA.out.now.cell
  go_wp2_with fail
  clear eA1 eB1
  clear hl0
  (with_reducible refine (rCells_any al n c zs oa HO.out _ UA.out.now.1).mono ?_)
  rintro e w1 ⟨rl, rc, rfl, hc, _, hb⟩
  replace UB := Lib.hid (UB.out.next hb)
  replace UA := Lib.hid (UA.out.next hb)
  rw [cells_len]
  clear hc hb
  go_wp2
  go_ret
  exact ⟨rfl, UB.out.now⟩
end Go.Proofs.YtipfafglbkbafaaDoor
