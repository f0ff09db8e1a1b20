/- The reference's Shifted. -/
import Derived.Test.YtipfafglbkbafaaDoorRl
namespace Go.Proofs.YtipfafglbkbafaaDoor
open Go.RowKit Go.Shelf
set_option linter.unusedVariables false
set_option linter.unusedSimpArgs false
/-- All blocks but g are as they were. -/
def Kp (W0 : World) (g : Nat) (W : World) : Prop := W0.heap.size ≤ W.heap.size ∧ ∀ k, k < W0.heap.size → k ≠ g → W.heap[k]? = W0.heap[k]?
theorem Kp.refl (W : World) (g : Nat) : Kp W g W := ⟨Nat.le_refl _, fun _ _ _ => rfl⟩
theorem Kp.drew (W : World) (g : Nat) : Kp W g W.drew := ⟨Nat.le_refl _, fun _ _ _ => rfl⟩
theorem Kp.trans {A B C : World} {g : Nat} (h : Kp A g B) (h' : Kp B g C) : Kp A g C := ⟨Nat.le_trans h.1 h'.1, fun k hk hn => (h'.2 k (Nat.lt_of_lt_of_le hk h.1) hn).trans (h.2 k hk hn)⟩
theorem Cs.kp {W W' : World} {rl : Option Addr} {N g : Nat} {l : List (Nat × Nat)} (h : Cs W rl N l) (hf : ∀ x, rl = some x → x.block ≠ g) (hk : Kp W g W') : Cs W' rl N l := by
  obtain ⟨h1, h2, h3⟩ := h
  refine ⟨h1, h2, ?_⟩
  rcases h3 with h3 | ⟨b, rfl, hb, hc⟩
  · exact .inl h3
  · have hne : b ≠ g := hf _ rfl
    exact .inr ⟨b, rfl, Nat.lt_of_lt_of_le hb hk.1, fun i p hp =>
      ⟨(World.cell?_of_block (a := ⟨b, i * 2, none⟩) (hk.2 b hb hne)).trans (hc i p hp).1, (World.cell?_of_block (a := ⟨b, i * 2 + 1, none⟩) (hk.2 b hb hne)).trans (hc i p hp).2⟩⟩
theorem cs_at2 {W : World} {rl : Option Addr} {N g i : Nat} {l : List (Nat × Nat)} (h : Cs W rl N l) (hf : ∀ x, rl = some x → x.block ≠ g) (hi : i < N) : ∃ lb px py, rl = some ⟨lb, 0, none⟩ ∧ l[i]? = some (px, py) ∧
    ∀ W', Kp W g W' → W'.cell? ⟨lb, i * 2, none⟩ = some (.int .i64 (px : Int)) ∧ W'.cell? ⟨lb, i * 2 + 1, none⟩ = some (.int .i64 (py : Int)) := by
  obtain ⟨h1, h2, h3⟩ := h
  rcases h3 with h3 | ⟨b, rfl, hb, hc⟩
  · omega
  · obtain ⟨p, hp⟩ : ∃ p, l[i]? = some p := ⟨l[i]'(by omega), List.getElem?_eq_getElem _⟩
    refine ⟨b, p.1, p.2, rfl, hp, fun W' hk => ?_⟩
    have hne : b ≠ g := hf _ rfl
    exact ⟨(World.cell?_of_block (a := ⟨b, i * 2, none⟩) (hk.2 b hb hne)).trans (hc i p hp).1, (World.cell?_of_block (a := ⟨b, i * 2 + 1, none⟩) (hk.2 b hb hne)).trans (hc i p hp).2⟩
def OutK (w2 W : World) (g B c : Nat) (f : Ar) (e : Ending) (w' : World) : Prop := e = .returned (.tuple #[]) ∧ Ob w2 g B c f w' ∧ Kp W g w'
theorem put_okp {w2 W : World} {g B c : Nat} {f f' : Ar} (h : Ob w2 g B c f W) (x : Int) (y : Nat) (hy : y < 24) (e : Eqv (putA f (k48 x) y) f') :
    Calls Tryd.prog 49 #[.agg #[.slice (some ⟨g, 0, none⟩) 24 c], .int .i64 x, .int .i64 (y : Int)] W (OutK w2 W g B c f') := by
  refine (putR_any g c f x y hy W h.1).mono fun e' W' ⟨he, hF, hz, ho, hb⟩ => ⟨he, ?_, hz, ho⟩
  obtain ⟨h1, h2, h3, h4, h5, h6⟩ := h
  exact ⟨hF.eqv e, h2.trans (hb _ h4 h2.size), (ho B (Array.getElem?_eq_some_iff.1 h3).1 (fun e => h5 e.symm)).trans h3, h4, h5, h6⟩
theorem rcells_as {b o c : Nat} {f : Ar} {l : List (Nat × Nat)} {N : Nat} (e : cellsTo f 24 = l) (eN : l.length = N) {w : World} (h : SA w (some ⟨b, o, none⟩) 24 f) :
    Calls Tryd.prog 28 #[.agg #[.slice (some ⟨b, o, none⟩) 24 c]] w fun e w' => ∃ rl rc, e = .returned (.slice rl N rc) ∧ Cs w' rl N l ∧ (∀ x, rl = some x → w.heap.size ≤ x.block) ∧ Below w.heap.size w w' := by
  subst eN; subst e
  exact rcells_some b o c f w h
theorem shift_step {f : Ar} {l : List (Nat × Nat)} {z t s : Int} {i px py : Nat} (e : cellsTo f 24 = l) (h : l[i]? = some (px, py)) (ht : z.tmod 48 = t) (hs : (px : Int) + t = s) : py < 24 ∧ Eqv (putA (putS l (k48 z) i) (k48 s) py) (putS l (k48 z) (i + 1)) := by
  refine ⟨(cells_at e h).2.1, ?_⟩
  rw [← hs, ← ht, k48_shift]
  exact putS_succ h
theorem shift_all {f : Ar} {l : List (Nat × Nat)} {N i : Nat} (e : cellsTo f 24 = l) (eN : l.length = N) (hi : i = N) (z : Int) : Eqv (putS l (k48 z) i) (turn f (k48 z)) := by
  rw [hi, ← eN]
  exact putS_all e (k48_lt z)
set_option maxRecDepth 100000 in
set_option maxHeartbeats 1000000 in
theorem rshifted_no (al : Option Addr) (n c : Nat) (zs : List Int) (hO : Is zs none) (z : Int) (w : World) (h : Sl w al n zs) :
    Calls Tryd.prog 34 #[.agg #[.slice al n c], .int .i64 z] w (OutA w none) := by
  obtain ⟨v1, Ba, eA1, eB1, hb1, hk1⟩ := box1 w #[.slice al n c] 25
  obtain ⟨v2, Bp, eA2, eB2, hb2, hk2⟩ := box1 v1 #[.slice none 0 0] 25
  have UB := Lib.hid (((up_bl w).next hb1).next hb2)
  have UA := Lib.hid ((up_vg (Sl.below h (Nat.le_refl _) ((up_bl w).next hb1).now) hk1).next hb2)
  have UP := Lib.hid (up_vr hk2 : Up v2 (VR Bp #[.slice none 0 0] 25))
  have HP := Lib.hid (show w.heap.size ≤ Bp from by rw [← eB2]; exact ((up_bl w).next hb1).now.size)
  clear h hb1 hb2 hk1 hk2
  have HN := Lib.hid hO
  clear hO
  go_enter Tryd.func34, Tryd.ntmps34
  have hl0 := UA.out.now.cell
  go_wp2_with fail
  clear eA1 eB1 eA2 eB2
  clear hl0
  (with_reducible refine (rvalid_no HN.out UA.out.now.1).mono ?_)
  rintro e w3 ⟨rfl, hb⟩
  replace UB := Lib.hid (UB.out.next hb)
  replace UA := Lib.hid (UA.out.next hb)
  replace UP := Lib.hid (UP.out.next hb)
  clear hb
  have dP := (row_cell UP.out.now 0).trans (show _ = some (.slice none 0 0) from rfl)
  have fP := frozen_of_row _ Bp 0 _ _ UP.out.now
  go_wp2
  exact bodyPost_ret (v := .tuple #[.agg #[.slice none 0 0], .int .i64 50]) (by simp [results, Tryd.results34, go_sem, dP]) rfl (no_out UB.out.now HP.out)
set_option maxRecDepth 100000 in
set_option maxHeartbeats 1000000 in
theorem rshifted_yes (b o c : Nat) (f : Ar) (z : Int) (w : World) (h : SA w (some ⟨b, o, none⟩) 24 f) :
    Calls Tryd.prog 34 #[.agg #[.slice (some ⟨b, o, none⟩) 24 c], .int .i64 z] w (OutA w (some (turn f (k48 z)))) := by
  obtain ⟨v1, Ba, eA1, eB1, hb1, hk1⟩ := box1 w #[.slice (some ⟨b, o, none⟩) 24 c] 25
  obtain ⟨v2, Bp, eA2, eB2, hb2, hk2⟩ := box1 v1 #[.slice none 0 0] 25
  have UB := Lib.hid (((up_bl w).next hb1).next hb2)
  have UA := Lib.hid ((up_va (Sl.below h (Nat.le_refl _) ((up_bl w).next hb1).now) hk1).next hb2)
  have UP := Lib.hid (up_vr hk2 : Up v2 (VR Bp #[.slice none 0 0] 25))
  have HP := Lib.hid (show w.heap.size ≤ Bp from by rw [← eB2]; exact ((up_bl w).next hb1).now.size)
  clear h hb1 hb2 hk1 hk2
  obtain ⟨l, el⟩ : ∃ l, cellsTo f 24 = l := ⟨_, rfl⟩
  obtain ⟨N, eN⟩ : ∃ N, l.length = N := ⟨_, rfl⟩
  have HL := Lib.hid (And.intro el eN)
  clear el eN
  obtain ⟨t, ht, t1, t2, _⟩ := tmod48 z (k48 z) (k48_lt z) (k48_eq z)
  have HT := Lib.hid ht
  clear ht
  go_enter Tryd.func34, Tryd.ntmps34
  have hl0 := UA.out.now.cell
  go_wp2_with fail
  clear eA1 eB1 eA2 eB2
  clear hl0
  (with_reducible refine (rvalid_yes UA.out.now.1).mono ?_)
  rintro e w3 ⟨rfl, hb⟩
  replace UB := Lib.hid (UB.out.next hb)
  replace UA := Lib.hid (UA.out.next hb)
  replace UP := Lib.hid (UP.out.next hb)
  clear hb
  go_wp2_with fail
  (with_reducible refine (rempty_any _).mono ?_)
  rintro e w4 ⟨g, rfl, hge, hG, hb⟩
  obtain ⟨x4, B, e1, e2, hb2, hk⟩ := box1 w4 #[.slice (some ⟨g, 0, none⟩) 24 24] 25
  have HO := Lib.hid (ob_start (c := 24) hG.r hge hb e2 hb2 hk : Ob w3 g B 24 nul x4)
  have HB2 := Lib.hid UB.out.now
  have HP2 := Lib.hid (Array.getElem?_eq_some_iff.1 UP.out.now).1
  clear hge hG hb hb2 hk
  have UAx := Lib.hid (UA.out.next HO.out.2.1)
  have hl0 := UAx.out.now.cell
  go_wp2_with fail
  clear e1 e2
  clear hl0
  (with_reducible refine (rcells_as HL.out.1 HL.out.2 UAx.out.now.1).mono ?_)
  rintro e w20 ⟨rl, rc, rfl, hcs, hfr, hb⟩
  have HFR := Lib.hid (show ∀ x, rl = some x → x.block ≠ g from fun x hx => by have := hfr x hx; have := HO.out.1.lt; omega)
  have HCS := Lib.hid hcs
  replace HO := Lib.hid (HO.out.next hb)
  clear hcs hfr hb
  clear UAx
  go_wp2
  go_loopw [8] (fun iv wr => ∃ i : Nat, i ≤ N ∧ iv = .int .i64 i ∧ Ob w3 g B 24 (putS l (k48 z) i) wr ∧ Kp w20 g wr) (fun iv _ => N - (intOf iv).toNat)
  case atStart => exact ⟨0, Nat.zero_le _, rfl, HO.out.eqv (putS_0 _ _), Kp.refl _ _⟩
  case round =>
    obtain ⟨i, hi, rfl, hO, hK⟩ := hrel
    clear HO
    have HO := Lib.hid hO
    have HK := Lib.hid hK
    clear hO
    have i0 : (0 : Int) ≤ i := by omega
    by_cases hlt : i < N
    · have i1 : (i : Int) < N := by omega
      have i2 : (i : Int) < 1152 := by have := HCS.out.2.1; omega
      have HM := Lib.hid (show i + 1 ≤ N ∧ N - (i + 1) < N - i by omega)
      obtain ⟨lb, px, py, hrl, hp, hc⟩ := cs_at2 (HCS.out.kp HFR.out hK) HFR.out hlt
      have hpx := (cells_at HL.out.1 hp).1
      obtain ⟨s, hs⟩ : ∃ s, (px : Int) + t = s := ⟨_, rfl⟩
      have hw : IntKind.i64.wrap ((px : Int) + t) = s := by rw [IntKind.wrap_i64]; omega
      have HS := Lib.hid (shift_step HL.out.1 hp HT.out hs)
      have HC := Lib.hid hc
      subst hrl
      clear hp hpx hs hc hK hlt hi
      have ht := HT.out
      go_wp2
      refine wp_region_held_drew (S := fun w' => w'.cell? ⟨B, 0, none⟩ = some (.slice (some ⟨g, 0, none⟩) 24 24) ∧ w'.cell? ⟨lb, i * 2, none⟩ = some (.int .i64 (px : Int)) ∧ w'.cell? ⟨lb, i * 2 + 1, none⟩ = some (.int .i64 (py : Int))) (by kernel_rfl) ⟨HO.out.drew.cell, (HC.out _ (Kp.drew _ _)).1, (HC.out _ (Kp.drew _ _)).2⟩ (fun hHeld => ?_)
      refine wpAnyH_take (i := 0) (oi := _) (v := ?_) rfl (by kernel_rfl) (by kernel_rfl) (by kernel_rfl) (fun _ _ _ h => h) (Or.inl ⟨by rfl, ?_⟩) (by assumption) ?_
      rotate_left 1
      · (intro w hSw; (try dsimp only at hSw); go_simp; try with_reducible rfl)
      try simp only [List.getElem_toArray, List.getElem_cons_zero, List.getElem_cons_succ, Act.put, List.setIfInBounds_toArray, List.set_cons_zero, List.set_cons_succ]
      refine wpAnyH_take (i := 1) (oi := _) (v := ?_) rfl (by kernel_rfl) (by kernel_rfl) (by kernel_rfl) (fun _ _ _ h => h) (Or.inl ⟨by rfl, ?_⟩) (by assumption) ?_
      rotate_left 1
      · (intro w hSw; (try dsimp only at hSw); go_simp; try with_reducible rfl)
      try simp only [List.getElem_toArray, List.getElem_cons_zero, List.getElem_cons_succ, Act.put, List.setIfInBounds_toArray, List.set_cons_zero, List.set_cons_succ]
      refine wpAnyH_take (i := 2) (oi := _) (v := ?_) rfl (by kernel_rfl) (by kernel_rfl) (by kernel_rfl) (fun _ _ _ h => h) (Or.inl ⟨by rfl, ?_⟩) (by assumption) ?_
      rotate_left 1
      · (intro w hSw; (try dsimp only at hSw); go_simp; try with_reducible rfl)
      try simp only [List.getElem_toArray, List.getElem_cons_zero, List.getElem_cons_succ, Act.put, List.setIfInBounds_toArray, List.set_cons_zero, List.set_cons_succ]
      refine wpAnyH_take (i := 3) (oi := _) (v := ?_) rfl (by kernel_rfl) (by kernel_rfl) (by kernel_rfl) (fun _ _ _ h => h) (Or.inl ⟨by rfl, ?_⟩) (by assumption) ?_
      rotate_left 1
      · (intro w hSw; (try dsimp only at hSw); go_simp; try with_reducible rfl)
      try simp only [List.getElem_toArray, List.getElem_cons_zero, List.getElem_cons_succ, Act.put, List.setIfInBounds_toArray, List.set_cons_zero, List.set_cons_succ]
      refine wpAnyH_take (i := 4) (oi := _) (v := ?_) rfl (by kernel_rfl) (by kernel_rfl) (by kernel_rfl) (fun _ _ _ h => h) (Or.inl ⟨by rfl, ?_⟩) (by assumption) ?_
      rotate_left 1
      · (intro w hSw; (try dsimp only at hSw); go_simp; try with_reducible rfl)
      try simp only [List.getElem_toArray, List.getElem_cons_zero, List.getElem_cons_succ, Act.put, List.setIfInBounds_toArray, List.set_cons_zero, List.set_cons_succ]
      refine wpAnyH_take (i := 5) (oi := _) (v := ?_) rfl (by kernel_rfl) (by kernel_rfl) (by kernel_rfl) (fun _ _ _ h => h) (Or.inl ⟨by rfl, ?_⟩) (by assumption) ?_
      rotate_left 1
      · (intro w hSw; (try dsimp only at hSw); go_simp; try with_reducible rfl)
      try simp only [List.getElem_toArray, List.getElem_cons_zero, List.getElem_cons_succ, Act.put, List.setIfInBounds_toArray, List.set_cons_zero, List.set_cons_succ]
      refine wpAnyH_take (i := 6) (oi := _) (v := ?_) rfl (by kernel_rfl) (by kernel_rfl) (by kernel_rfl) (fun _ _ _ h => h) (Or.inl ⟨by rfl, ?_⟩) (by assumption) ?_
      rotate_left 1
      · (intro w hSw; (try dsimp only at hSw); go_simp; try with_reducible rfl)
      try simp only [List.getElem_toArray, List.getElem_cons_zero, List.getElem_cons_succ, Act.put, List.setIfInBounds_toArray, List.set_cons_zero, List.set_cons_succ]
      refine wpAnyH_take (i := 7) (oi := _) (v := ?_) rfl (by kernel_rfl) (by kernel_rfl) (by kernel_rfl) (fun _ _ _ h => h) (Or.inl ⟨by rfl, ?_⟩) (by assumption) ?_
      rotate_left 1
      · (intro w hSw; (try dsimp only at hSw); go_simp; try with_reducible rfl)
      try simp only [List.getElem_toArray, List.getElem_cons_zero, List.getElem_cons_succ, Act.put, List.setIfInBounds_toArray, List.set_cons_zero, List.set_cons_succ]
      refine wpAnyH_take (i := 8) (oi := _) (v := ?_) rfl (by kernel_rfl) (by kernel_rfl) (by kernel_rfl) (fun _ _ _ h => h) (Or.inl ⟨by rfl, ?_⟩) (by assumption) ?_
      rotate_left 1
      · (intro w hSw; (try dsimp only at hSw); go_simp; try with_reducible rfl)
      try simp only [List.getElem_toArray, List.getElem_cons_zero, List.getElem_cons_succ, Act.put, List.setIfInBounds_toArray, List.set_cons_zero, List.set_cons_succ]
      refine wpAnyH_take (i := 9) (oi := _) (v := ?_) rfl (by kernel_rfl) (by kernel_rfl) (by kernel_rfl) (fun _ _ _ h => h) (Or.inl ⟨by rfl, ?_⟩) (by assumption) ?_
      rotate_left 1
      · (intro w hSw; (try dsimp only at hSw); go_simp; try with_reducible rfl)
      try simp only [List.getElem_toArray, List.getElem_cons_zero, List.getElem_cons_succ, Act.put, List.setIfInBounds_toArray, List.set_cons_zero, List.set_cons_succ]
      refine wpAnyH_take (i := 10) (oi := _) (v := ?_) rfl (by kernel_rfl) (by kernel_rfl) (by kernel_rfl) (fun _ _ _ h => h) (Or.inl ⟨by rfl, ?_⟩) (by assumption) ?_
      rotate_left 1
      · (intro w hSw; (try dsimp only at hSw); go_simp; try with_reducible rfl)
      try simp only [List.getElem_toArray, List.getElem_cons_zero, List.getElem_cons_succ, Act.put, List.setIfInBounds_toArray, List.set_cons_zero, List.set_cons_succ]
      refine wpAnyH_take (i := 11) (oi := _) (v := ?_) rfl (by kernel_rfl) (by kernel_rfl) (by kernel_rfl) (fun _ _ _ h => h) (Or.inl ⟨by rfl, ?_⟩) (by assumption) ?_
      rotate_left 1
      · (intro w hSw; (try dsimp only at hSw); go_simp; try with_reducible rfl)
      try simp only [List.getElem_toArray, List.getElem_cons_zero, List.getElem_cons_succ, Act.put, List.setIfInBounds_toArray, List.set_cons_zero, List.set_cons_succ]
      refine wpAnyH_take (i := 12) (oi := _) (v := ?_) rfl (by kernel_rfl) (by kernel_rfl) (by kernel_rfl) (fun _ _ _ h => h) (Or.inl ⟨by rfl, ?_⟩) (by assumption) ?_
      rotate_left 1
      · (intro w hSw; (try dsimp only at hSw); go_simp; try with_reducible rfl)
      try simp only [List.getElem_toArray, List.getElem_cons_zero, List.getElem_cons_succ, Act.put, List.setIfInBounds_toArray, List.set_cons_zero, List.set_cons_succ]
      refine wpAnyH_take (i := 13) (oi := _) (v := ?_) rfl (by kernel_rfl) (by kernel_rfl) (by kernel_rfl) (fun _ _ _ h => h) (Or.inl ⟨by rfl, ?_⟩) (by assumption) ?_
      rotate_left 1
      · (intro w hSw; (try dsimp only at hSw); go_simp; try with_reducible rfl)
      try simp only [List.getElem_toArray, List.getElem_cons_zero, List.getElem_cons_succ, Act.put, List.setIfInBounds_toArray, List.set_cons_zero, List.set_cons_succ]
      refine wpAnyH_ready (rs := [14]) (by kernel_rfl) (by simp) ?_
      refine AllReadyH.cons (o := _) rfl (fun K hK => ?_) AllReadyH.nil
      rw [if_pos (by kernel_rfl)]
      simp only [List.getElem_toArray, List.getElem_cons_zero, List.getElem_cons_succ]
      go_simp
      (with_reducible refine (put_okp HO.out.drew s py HS.out.1 HS.out.2).mono ?_)
      rintro e w9 ⟨rfl, hO2, hK2⟩
      have HO2 := Lib.hid hO2
      have HK2 := Lib.hid ((Kp.drew _ _).trans hK2)
      clear hO2 hK2 hHeld
      refine hK.out _ _ ⟨HO2.out.cell, (HC.out _ HK2.out).1, (HC.out _ HK2.out).2⟩ (fun hHeld => ?_)
      clear hK K
      try simp only [List.getElem_toArray, List.getElem_cons_zero, List.getElem_cons_succ, Act.put, List.setIfInBounds_toArray, List.set_cons_zero, List.set_cons_succ]
      refine wpAnyH_done (by kernel_rfl) ?_ _
      clear hw ht hHeld
      have HK3 := Lib.hid (HK.out.trans HK2.out)
      clear HK HK2 HC HS HO
      go_wp2
      refine ⟨⟨i + 1, HM.out.1, by go_num, HO2.out, HK3.out⟩, ?_⟩
      have hm := HM.out.2; clear HM; simp only [intOf, Int.toNat_natCast]; first | exact hm | (simp; omega)
    · have HO2 := Lib.hid (HO.out.eqv (shift_all HL.out.1 HL.out.2 (show i = N by omega) z))
      have i1 : ¬ ((i : Int) < N) := by omega
      have UPx := Lib.hid (UP.out.next HO2.out.2.1)
      clear UA UB UP HO HK hK HCS HFR HT HL hi hlt t1 t2
      have dP := (row_cell UPx.out.now 0).trans (show _ = some (.slice none 0 0) from rfl)
      have fP := frozen_of_row _ Bp 0 _ _ UPx.out.now
      have cO := HO2.out.cell
      go_wp2
      exact bodyPost_ret (v := .tuple #[.agg #[.slice (some ⟨g, 0, none⟩) 24 24], .int .i64 0]) (by simp [results, Tryd.results34, go_sem, dP]) rfl (ob_out HO2.out HB2.out HP.out HP2.out)
theorem rShifted_any (al : Option Addr) (n c : Nat) (zs : List Int) (oa : Option Ar) (hO : Is zs oa) (z : Int) (w : World) (h : Sl w al n zs) :
    Calls Tryd.prog 34 #[.agg #[.slice al n c], .int .i64 z] w (OutA w (oa.map (fun f => turn f (k48 z)))) := by
  cases oa with
  | none => exact rshifted_no al n c zs hO z w h
  | some f =>
    obtain rfl : zs = rz f := hO
    obtain ⟨rfl, b, o, rfl, hb, hc⟩ := SA.parts h
    exact rshifted_yes b o c f z w h
end Go.Proofs.YtipfafglbkbafaaDoor
