/- few: an area cut to 25 rows. -/
import Derived.Test.YtipfafglbkbafaaDoorSlic
import Derived.Test.YtipfafglbkbafaaDoorPr
namespace Go.Proofs.YtipfafglbkbafaaDoor
open Go.RowKit Go.Shelf
set_option linter.unusedVariables false
set_option linter.unusedSimpArgs false
/-- An area with these rows is returned. -/
def OutS (w : World) (zs : List Int) (en : Ending) (w' : World) : Prop := ∃ al n c, en = .returned (.agg #[.slice al n c]) ∧ Sl w' al n zs ∧ Below w.heap.size w w'
theorem Sw.below {W W' : World} {al : Option Addr} {n c : Nat} {zs : List Int} (h : Sw W al n c zs) (hb : Below W.heap.size W W') : Sw W' al n c zs := by
  obtain ⟨h1, h2, h3, h4, h5⟩ := h
  refine ⟨h1, h2, h3, h4, ?_⟩
  rcases h5 with h5 | ⟨b, o, rfl, hlt, hc⟩
  · exact .inl h5
  · exact .inr ⟨b, o, rfl, Nat.lt_of_lt_of_le hlt hb.size, fun i hi => (hb.cell (p := ⟨b, o + i, none⟩) hlt).trans (hc i hi)⟩
theorem up_sw {w : World} {al : Option Addr} {n c : Nat} {zs : List Int} (h : Sw w al n c zs) : Up w (fun W => Sw W al n c zs) := fun _ hb => h.below hb
theorem sl_set {W : World} {al : Option Addr} {n : Nat} {zs : List Int} {D k : Nat} {v : Value} (h : Sl W al n zs) (hn : n = 0 ∨ ∀ b q, al = some ⟨b, q, none⟩ → b ≠ D) : Sl (W.setCell ⟨D, k, none⟩ v) al n zs := by
  obtain ⟨h1, h2, h3, h4⟩ := h
  refine ⟨h1, h2, h3, ?_⟩
  rcases h4 with h4 | ⟨b, o, rfl, hb, hc⟩
  · exact .inl h4
  · rcases hn with hn | hn
    · exact .inl hn
    · exact .inr ⟨b, o, rfl, by simpa using hb, fun i hi => (World.cell?_of_block (a := ⟨b, o + i, none⟩) (heap_setCell_other _ _ _ _ (hn b o rfl))).trans (hc i hi)⟩
theorem sl_lt {W : World} {al : Option Addr} {n : Nat} {zs : List Int} (h : Sl W al n zs) {D : Nat} (hD : W.heap.size ≤ D) : n = 0 ∨ ∀ b q, al = some ⟨b, q, none⟩ → b ≠ D := by
  rcases h.2.2.2 with h4 | ⟨b, o, rfl, hb, hc⟩
  · exact .inl h4
  · refine .inr fun b' q e => ?_
    cases e
    omega
theorem few_out {w W : World} {al : Option Addr} {n c k P : Nat} {zs : List Int} {v : Value} (h : Sw w al n c zs) (hk : k = min n 25) (hb : Below w.heap.size w W) (hP : w.heap.size ≤ P) : OutS w (zs.take k) (.returned (.agg #[.slice al k c])) (W.setCell ⟨P, 0, none⟩ v) :=
  ⟨al, k, c, rfl, sl_set ((h.cut hk).below (Nat.le_refl _) hb) (sl_lt (h.cut hk) hP), hb.setCell hP _⟩
set_option maxRecDepth 100000 in
set_option maxHeartbeats 1000000 in
theorem few_any (al : Option Addr) (n c : Nat) (zs : List Int) (w : World) (h : Sw w al n c zs) :
    Calls Tryd.prog 13 #[.agg #[.slice al n c]] w (fun e w' => ∃ k, OutS w (zs.take k) e w') := by
  have HS := Lib.hid h
  have hc := h.1
  obtain ⟨v1, Ba, eA1, eB1, hb1, hk1⟩ := box1 w #[.slice al n c] 25
  obtain ⟨v2, Bp, eA2, eB2, hb2, hk2⟩ := box1 v1 #[.slice none 0 0] 25
  have UB := Lib.hid (((up_bl w).next hb1).next hb2)
  have UA := Lib.hid ((up_vr hk1 : Up v1 (VR Ba #[.slice al n c] 25)).next hb2)
  have UP := Lib.hid (up_vr hk2 : Up v2 (VR Bp #[.slice none 0 0] 25))
  have HP := Lib.hid (show w.heap.size ≤ Bp from by rw [← eB2]; exact ((up_bl w).next hb1).now.size)
  clear hb1 hb2 hk1 hk2
  have cA := (row_cell UA.out.now 0).trans (show _ = some (.slice al n c) from rfl)
  have HB := Lib.hid UB.out.now
  have dP := (row_cell UP.out.now 0).trans (show _ = some (.slice none 0 0) from rfl)
  have fP := frozen_of_row _ Bp 0 _ _ UP.out.now
  clear h UA UB UP
  rcases Nat.lt_trichotomy n 25 with h3 | h3 | h3
  · have g0 : (n : Int) < 25 := by omega
    have hcut := fun w => run_cut_to (P := Tryd.prog) 23 3 1 Tryd.underlying23 (by kernel_rfl) al n c n (by omega) w
    go_enter Tryd.func13, Tryd.ntmps13
    go_wp2
    exact bodyPost_ret (v := .agg #[.slice al n c]) (by simp [results, Tryd.results13, go_sem, dP]) rfl ⟨n, few_out HS.out (by omega) HB.out HP.out⟩
  · subst h3
    have hz := hc
    have hcut := fun w => run_cut_to (P := Tryd.prog) 23 3 1 Tryd.underlying23 (by kernel_rfl) al 25 c 25 (by omega) w
    simp only [show (((25 : Nat) : Int)) = 25 from rfl] at hcut
    go_enter Tryd.func13, Tryd.ntmps13
    go_wp2
    exact bodyPost_ret (v := .agg #[.slice al 25 c]) (by simp [results, Tryd.results13, go_sem, dP]) rfl ⟨25, few_out HS.out (by omega) HB.out HP.out⟩
  · have g0 : (25 : Int) < n := by omega
    have hcut := fun w => run_cut_to (P := Tryd.prog) 23 3 1 Tryd.underlying23 (by kernel_rfl) al n c 25 (by omega) w
    simp only [show (((25 : Nat) : Int)) = 25 from rfl] at hcut
    go_enter Tryd.func13, Tryd.ntmps13
    go_wp2
    exact bodyPost_ret (v := .agg #[.slice al 25 c]) (by simp [results, Tryd.results13, go_sem, dP]) rfl ⟨25, few_out HS.out (by omega) HB.out HP.out⟩
end Go.Proofs.YtipfafglbkbafaaDoor
