/- The reference's Grown. -/
import Derived.Test.YtipfafglbkbafaaDoorRs
namespace Go.Proofs.YtipfafglbkbafaaDoor
open Go.RowKit Go.Shelf
set_option linter.unusedVariables false
set_option linter.unusedSimpArgs false
theorem wide_step {l : List (Nat × Nat)} {n i px py s : Nat} {d v : Int} (hn : n ≤ 24) (hd : (px : Int) - (n : Int) = d) (hv : v = d + (s : Int)) : Eqv (putA (wideI l n i px py s) (k48 v) py) (wideI l n i px py (s + 1)) := by
  have e : k48 v = (px + (48 - n) + s) % 48 := by unfold k48; omega
  rw [e]
  exact wideI_succ l n i px py s
theorem wide_all {f : Ar} {l : List (Nat × Nat)} {N i n : Nat} (e : cellsTo f 24 = l) (eN : l.length = N) (hi : i = N) (hn : n ≤ 24) : Eqv (wideS l n i) (wideF f n) := by
  rw [hi, ← eN]
  exact wideS_all e hn
theorem wide_i {l : List (Nat × Nat)} {n i a b s : Nat} (h : l[i]? = some (a, b)) (hs : s = 2 * n + 1) : Eqv (wideI l n i a b s) (wideS l n (i + 1)) := by
  rw [hs]; exact wideI_all h
theorem tall_last {g : Ar} {n Y Z : Nat} (hZ : Z ≤ 24) (h : ¬ (Z ≤ 23 ∧ Z ≤ Y + n)) : Eqv (tallTo g n Y Z) (tallTo g n (Y + 1) 0) := tall_end hZ (fun z h1 h2 => by unfold dy; omega)
theorem tall_dy {n Y z : Nat} (h1 : Y - n ≤ z) (h2 : z ≤ Y + n) : dy z Y ≤ n := by unfold dy; omega
theorem Ob.row2 {w2 W : World} {g B c n Y z : Nat} {h : Ar} (o : Ob w2 g B c (tallTo h n Y z) W) (hY : Y < 24) (hz : dy z Y ≤ n) {ra rb : Nat} (ha : rowOf (tallTo h n Y z) Y = ra) (hb : rowOf h z = rb) :
    Ob w2 g B c (tallTo h n Y (z + 1)) (W.setCell ⟨g, Y, none⟩ (.int .i64 (bits .or .i64 (ra : Int) (rb : Int)))) := by
  have l1 := row_lt (tallTo h n Y z) Y
  have l2 := row_lt h z
  rw [ha] at l1
  rw [hb] at l2
  rw [iV_or l1 l2]
  exact o.row hY (by rw [tall_row hz, ha, hb]) (fun z' _ hne x _ => tall_other hne x)
set_option maxRecDepth 100000 in
set_option maxHeartbeats 1000000 in
theorem rgrown_neg (b o c : Nat) (f : Ar) (z : Int) (h1 : z < 0) (w : World) (h : SA w (some ⟨b, o, none⟩) 24 f) :
    Calls Tryd.prog 36 #[.agg #[.slice (some ⟨b, o, none⟩) 24 c], .int .i64 z] w (OutA w none) := by
  obtain ⟨v1, Ba, eA1, eB1, hb1, hk1⟩ := box1 w #[.slice (some ⟨b, o, none⟩) 24 c] 25
  obtain ⟨v2, Bp, eA2, eB2, hb2, hk2⟩ := box1 v1 #[.slice none 0 0] 25
  have UB := Lib.hid (((up_bl w).next hb1).next hb2)
  have UA := Lib.hid ((up_va (Sl.below h (Nat.le_refl _) ((up_bl w).next hb1).now) hk1).next hb2)
  have UP := Lib.hid (up_vr hk2 : Up v2 (VR Bp #[.slice none 0 0] 25))
  have HP := Lib.hid (show w.heap.size ≤ Bp from by rw [← eB2]; exact ((up_bl w).next hb1).now.size)
  clear h hb1 hb2 hk1 hk2
  go_enter Tryd.func36, Tryd.ntmps36
  have hl0 := UA.out.now.cell
  go_wp2_with fail
  clear eA1 eB1 eA2 eB2
  clear hl0
  (with_reducible refine (rvalid_yes UA.out.now.1).mono ?_)
  rintro e w3 ⟨rfl, hb⟩
  replace UB := Lib.hid (UB.out.next hb)
  replace UA := Lib.hid (UA.out.next hb)
  replace UP := Lib.hid (UP.out.next hb)
  clear hb
  have dP := (row_cell UP.out.now 0).trans (show _ = some (.slice none 0 0) from rfl)
  have fP := frozen_of_row _ Bp 0 _ _ UP.out.now
  go_wp2
  exact bodyPost_ret (v := .tuple #[.agg #[.slice none 0 0], .int .i64 50]) (by simp [results, Tryd.results36, go_sem, dP]) rfl (no_out UB.out.now HP.out)
set_option maxRecDepth 100000 in
set_option maxHeartbeats 1000000 in
theorem rgrown_big (b o c : Nat) (f : Ar) (z : Int) (h1 : 24 < z) (w : World) (h : SA w (some ⟨b, o, none⟩) 24 f) :
    Calls Tryd.prog 36 #[.agg #[.slice (some ⟨b, o, none⟩) 24 c], .int .i64 z] w (OutA w none) := by
  obtain ⟨v1, Ba, eA1, eB1, hb1, hk1⟩ := box1 w #[.slice (some ⟨b, o, none⟩) 24 c] 25
  obtain ⟨v2, Bp, eA2, eB2, hb2, hk2⟩ := box1 v1 #[.slice none 0 0] 25
  have UB := Lib.hid (((up_bl w).next hb1).next hb2)
  have UA := Lib.hid ((up_va (Sl.below h (Nat.le_refl _) ((up_bl w).next hb1).now) hk1).next hb2)
  have UP := Lib.hid (up_vr hk2 : Up v2 (VR Bp #[.slice none 0 0] 25))
  have HP := Lib.hid (show w.heap.size ≤ Bp from by rw [← eB2]; exact ((up_bl w).next hb1).now.size)
  clear h hb1 hb2 hk1 hk2
  have h0 : ¬ (z < 0) := by omega
  go_enter Tryd.func36, Tryd.ntmps36
  have hl0 := UA.out.now.cell
  go_wp2_with fail
  clear eA1 eB1 eA2 eB2
  clear hl0
  (with_reducible refine (rvalid_yes UA.out.now.1).mono ?_)
  rintro e w3 ⟨rfl, hb⟩
  replace UB := Lib.hid (UB.out.next hb)
  replace UA := Lib.hid (UA.out.next hb)
  replace UP := Lib.hid (UP.out.next hb)
  clear hb
  have dP := (row_cell UP.out.now 0).trans (show _ = some (.slice none 0 0) from rfl)
  have fP := frozen_of_row _ Bp 0 _ _ UP.out.now
  go_wp2
  exact bodyPost_ret (v := .tuple #[.agg #[.slice none 0 0], .int .i64 50]) (by simp [results, Tryd.results36, go_sem, dP]) rfl (no_out UB.out.now HP.out)
set_option maxRecDepth 100000 in
set_option maxHeartbeats 1000000 in
theorem rgrown_no (al : Option Addr) (n c : Nat) (zs : List Int) (hO : Is zs none) (z : Int) (w : World) (h : Sl w al n zs) :
    Calls Tryd.prog 36 #[.agg #[.slice al n c], .int .i64 z] w (OutA w none) := by
  obtain ⟨v1, Ba, eA1, eB1, hb1, hk1⟩ := box1 w #[.slice al n c] 25
  obtain ⟨v2, Bp, eA2, eB2, hb2, hk2⟩ := box1 v1 #[.slice none 0 0] 25
  have UB := Lib.hid (((up_bl w).next hb1).next hb2)
  have UA := Lib.hid ((up_vg (Sl.below h (Nat.le_refl _) ((up_bl w).next hb1).now) hk1).next hb2)
  have UP := Lib.hid (up_vr hk2 : Up v2 (VR Bp #[.slice none 0 0] 25))
  have HP := Lib.hid (show w.heap.size ≤ Bp from by rw [← eB2]; exact ((up_bl w).next hb1).now.size)
  clear h hb1 hb2 hk1 hk2
  have HN := Lib.hid hO
  clear hO
  go_enter Tryd.func36, Tryd.ntmps36
  have hl0 := UA.out.now.cell
  go_wp2_with fail
  clear eA1 eB1 eA2 eB2
  clear hl0
  (with_reducible refine (rvalid_no HN.out UA.out.now.1).mono ?_)
  rintro e w3 ⟨rfl, hb⟩
  replace UB := Lib.hid (UB.out.next hb)
  replace UA := Lib.hid (UA.out.next hb)
  replace UP := Lib.hid (UP.out.next hb)
  clear hb
  have dP := (row_cell UP.out.now 0).trans (show _ = some (.slice none 0 0) from rfl)
  have fP := frozen_of_row _ Bp 0 _ _ UP.out.now
  go_wp2
  exact bodyPost_ret (v := .tuple #[.agg #[.slice none 0 0], .int .i64 50]) (by simp [results, Tryd.results36, go_sem, dP]) rfl (no_out UB.out.now HP.out)
set_option maxRecDepth 100000 in
set_option maxHeartbeats 8000000 in
theorem rgrown_yes (b o c : Nat) (f : Ar) (n : Nat) (hn : n ≤ 24) (w : World) (h : SA w (some ⟨b, o, none⟩) 24 f) :
    Calls Tryd.prog 36 #[.agg #[.slice (some ⟨b, o, none⟩) 24 c], .int .i64 (n : Int)] w (OutA w (some (grown f n))) := by
  obtain ⟨v1, Ba, eA1, eB1, hb1, hk1⟩ := box1 w #[.slice (some ⟨b, o, none⟩) 24 c] 25
  obtain ⟨v2, Bp, eA2, eB2, hb2, hk2⟩ := box1 v1 #[.slice none 0 0] 25
  have UB := Lib.hid (((up_bl w).next hb1).next hb2)
  have UA := Lib.hid ((up_va (Sl.below h (Nat.le_refl _) ((up_bl w).next hb1).now) hk1).next hb2)
  have UP := Lib.hid (up_vr hk2 : Up v2 (VR Bp #[.slice none 0 0] 25))
  have HP := Lib.hid (show w.heap.size ≤ Bp from by rw [← eB2]; exact ((up_bl w).next hb1).now.size)
  clear h hb1 hb2 hk1 hk2
  obtain ⟨l, el⟩ : ∃ l, cellsTo f 24 = l := ⟨_, rfl⟩
  obtain ⟨N, eN⟩ : ∃ N, l.length = N := ⟨_, rfl⟩
  have HL := Lib.hid (And.intro el eN)
  clear el eN
  have HN := Lib.hid hn
  have n0 : decide ((n : Int) < 0) = false := by simp
  have n1 : decide ((24 : Int) < (n : Int)) = false := by simp; omega
  go_enter Tryd.func36, Tryd.ntmps36
  have hl0 := UA.out.now.cell
  go_wp2_with fail
  clear eA1 eB1 eA2 eB2
  clear hl0
  (with_reducible refine (rvalid_yes UA.out.now.1).mono ?_)
  rintro e w3 ⟨rfl, hb⟩
  replace UB := Lib.hid (UB.out.next hb)
  replace UA := Lib.hid (UA.out.next hb)
  replace UP := Lib.hid (UP.out.next hb)
  clear hb
  go_wp2_with fail
  clear n0 n1
  (with_reducible refine (rempty_any _).mono ?_)
  rintro e w4 ⟨g, rfl, hge, hG, hb⟩
  obtain ⟨x4, B, e1, e2, hb2, hk⟩ := box1 w4 #[.slice (some ⟨g, 0, none⟩) 24 24] 25
  have HO := Lib.hid (ob_start (c := 24) hG.r hge hb e2 hb2 hk : Ob w3 g B 24 nul x4)
  have HB2 := Lib.hid UB.out.now
  have HP2 := Lib.hid (Array.getElem?_eq_some_iff.1 UP.out.now).1
  clear hge hG hb hb2 hk
  have UAx := Lib.hid (UA.out.next HO.out.2.1)
  have hl0 := UAx.out.now.cell
  go_wp2_with fail
  clear e1 e2
  clear hl0
  (with_reducible refine (rcells_as HL.out.1 HL.out.2 UAx.out.now.1).mono ?_)
  rintro e w20 ⟨rl, rc, rfl, hcs, hfr, hb⟩
  have HFR := Lib.hid (show ∀ x, rl = some x → x.block ≠ g from fun x hx => by have := hfr x hx; have := HO.out.1.lt; omega)
  have HCS := Lib.hid hcs
  replace HO := Lib.hid (HO.out.next hb)
  clear hcs hfr hb
  clear UAx UA
  go_wp2
  go_loopw [8] (fun iv wr => ∃ i : Nat, i ≤ N ∧ iv = .int .i64 i ∧ Ob w3 g B 24 (wideS l n i) wr ∧ Kp w20 g wr) (fun iv _ => N - (intOf iv).toNat)
  case atStart => exact ⟨0, Nat.zero_le _, rfl, HO.out.eqv (wideS_0 _ _), Kp.refl _ _⟩
  case round =>
    obtain ⟨i, hi, rfl, hO, hK⟩ := hrel
    clear HO
    have HO := Lib.hid hO
    have HK := Lib.hid hK
    clear hO
    have i0 : (0 : Int) ≤ i := by omega
    rename World => wi
    by_cases hlt : i < N
    · have i1 : (i : Int) < N := by omega
      have i2 : (i : Int) < 1152 := by have := HCS.out.2.1; omega
      have HM := Lib.hid (show i + 1 ≤ N ∧ N - (i + 1) < N - i by omega)
      obtain ⟨lb, px, py, hrl, hp, hc⟩ := cs_at2 (HCS.out.kp HFR.out hK) HFR.out hlt
      obtain ⟨hpx, hpy, _⟩ := cells_at HL.out.1 hp
      have HPY := Lib.hid (show py < 24 from hpy)
      have HP1 := Lib.hid hp
      have HC := Lib.hid hc
      obtain ⟨d, hd⟩ : ∃ d, (px : Int) - (n : Int) = d := ⟨_, rfl⟩
      obtain ⟨u, hu⟩ : ∃ u, (px : Int) + (n : Int) = u := ⟨_, rfl⟩
      have HD := Lib.hid (show (px : Int) - (n : Int) = d ∧ (px : Int) + (n : Int) = u ∧ -24 ≤ d ∧ u ≤ 71 ∧ d + 2 * (n : Int) = u from by omega)
      have wd : IntKind.i64.wrap ((px : Int) - (n : Int)) = d := by rw [IntKind.wrap_i64]; omega
      have wu : IntKind.i64.wrap ((px : Int) + (n : Int)) = u := by rw [IntKind.wrap_i64]; omega
      subst hrl
      clear hp hc hpx hpy hd hu hK hlt hi
      have c0 := (HC.out _ (Kp.refl _ _)).1
      go_wp2
      clear c0
      go_loopw [9] (fun xv wr => ∃ (s : Nat) (v : Int), s ≤ 2 * n + 1 ∧ xv = .int .i64 v ∧ v = d + (s : Int) ∧ Ob w3 g B 24 (wideI l n i px py s) wr ∧ Kp wi g wr) (fun xv _ => (u + 1 - intOf xv).toNat)
      case atStart => exact ⟨0, d, by omega, rfl, by omega, HO.out.eqv (wideI_0 _ _ _ _ _), Kp.refl _ _⟩
      case round =>
        obtain ⟨s, v, hs, rfl, hv, hO, hK⟩ := hrel
        clear HO
        have HO := Lib.hid hO
        have HK2 := Lib.hid hK
        clear hO
        have HV := Lib.hid (And.intro hs hv)
        have c0 := (HC.out _ hK).1
        by_cases hsl : s ≤ 2 * n
        · have hvu : v ≤ u := by have := HD.out; omega
          have hw : IntKind.i64.wrap (v + 1) = v + 1 := by have := HD.out; rw [IntKind.wrap_i64]; omega
          have HM2 := Lib.hid (show s + 1 ≤ 2 * n + 1 ∧ v + 1 = d + ((s + 1 : Nat) : Int) ∧ (u + 1 - (v + 1)).toNat < (u + 1 - v).toNat from by have := HD.out; omega)
          have HE := Lib.hid (wide_step (l := l) (i := i) (py := py) HN.out HD.out.1 hv)
          clear hs hv hsl hK
          go_wp2
          clear c0 wd wu hvu
          refine wp_region_held_drew (S := fun w' => w'.cell? ⟨B, 0, none⟩ = some (.slice (some ⟨g, 0, none⟩) 24 24) ∧ w'.cell? ⟨lb, i * 2 + 1, none⟩ = some (.int .i64 (py : Int))) (by kernel_rfl) ⟨HO.out.drew.cell, (HC.out _ (HK2.out.trans (Kp.drew _ _))).2⟩ (fun hHeld => ?_)
          refine wpAnyH_take (i := 0) (oi := _) (v := ?_) rfl (by kernel_rfl) (by kernel_rfl) (by kernel_rfl) (fun _ _ _ h => h) (Or.inl ⟨by rfl, ?_⟩) (by assumption) ?_
          rotate_left 1
          · (intro w hSw; (try dsimp only at hSw); go_simp; try with_reducible rfl)
          try simp only [List.getElem_toArray, List.getElem_cons_zero, List.getElem_cons_succ, Act.put, List.setIfInBounds_toArray, List.set_cons_zero, List.set_cons_succ]
          refine wpAnyH_take (i := 1) (oi := _) (v := ?_) rfl (by kernel_rfl) (by kernel_rfl) (by kernel_rfl) (fun _ _ _ h => h) (Or.inl ⟨by rfl, ?_⟩) (by assumption) ?_
          rotate_left 1
          · (intro w hSw; (try dsimp only at hSw); go_simp; try with_reducible rfl)
          try simp only [List.getElem_toArray, List.getElem_cons_zero, List.getElem_cons_succ, Act.put, List.setIfInBounds_toArray, List.set_cons_zero, List.set_cons_succ]
          refine wpAnyH_take (i := 2) (oi := _) (v := ?_) rfl (by kernel_rfl) (by kernel_rfl) (by kernel_rfl) (fun _ _ _ h => h) (Or.inl ⟨by rfl, ?_⟩) (by assumption) ?_
          rotate_left 1
          · (intro w hSw; (try dsimp only at hSw); go_simp; try with_reducible rfl)
          try simp only [List.getElem_toArray, List.getElem_cons_zero, List.getElem_cons_succ, Act.put, List.setIfInBounds_toArray, List.set_cons_zero, List.set_cons_succ]
          refine wpAnyH_take (i := 3) (oi := _) (v := ?_) rfl (by kernel_rfl) (by kernel_rfl) (by kernel_rfl) (fun _ _ _ h => h) (Or.inl ⟨by rfl, ?_⟩) (by assumption) ?_
          rotate_left 1
          · (intro w hSw; (try dsimp only at hSw); go_simp; try with_reducible rfl)
          try simp only [List.getElem_toArray, List.getElem_cons_zero, List.getElem_cons_succ, Act.put, List.setIfInBounds_toArray, List.set_cons_zero, List.set_cons_succ]
          refine wpAnyH_take (i := 4) (oi := _) (v := ?_) rfl (by kernel_rfl) (by kernel_rfl) (by kernel_rfl) (fun _ _ _ h => h) (Or.inl ⟨by rfl, ?_⟩) (by assumption) ?_
          rotate_left 1
          · (intro w hSw; (try dsimp only at hSw); go_simp; try with_reducible rfl)
          try simp only [List.getElem_toArray, List.getElem_cons_zero, List.getElem_cons_succ, Act.put, List.setIfInBounds_toArray, List.set_cons_zero, List.set_cons_succ]
          refine wpAnyH_take (i := 5) (oi := _) (v := ?_) rfl (by kernel_rfl) (by kernel_rfl) (by kernel_rfl) (fun _ _ _ h => h) (Or.inl ⟨by rfl, ?_⟩) (by assumption) ?_
          rotate_left 1
          · (intro w hSw; (try dsimp only at hSw); go_simp; try with_reducible rfl)
          try simp only [List.getElem_toArray, List.getElem_cons_zero, List.getElem_cons_succ, Act.put, List.setIfInBounds_toArray, List.set_cons_zero, List.set_cons_succ]
          refine wpAnyH_take (i := 6) (oi := _) (v := ?_) rfl (by kernel_rfl) (by kernel_rfl) (by kernel_rfl) (fun _ _ _ h => h) (Or.inl ⟨by rfl, ?_⟩) (by assumption) ?_
          rotate_left 1
          · (intro w hSw; (try dsimp only at hSw); go_simp; try with_reducible rfl)
          try simp only [List.getElem_toArray, List.getElem_cons_zero, List.getElem_cons_succ, Act.put, List.setIfInBounds_toArray, List.set_cons_zero, List.set_cons_succ]
          refine wpAnyH_ready (rs := [7]) (by kernel_rfl) (by simp) ?_
          refine AllReadyH.cons (o := _) rfl (fun K hK => ?_) AllReadyH.nil
          rw [if_pos (by kernel_rfl)]
          simp only [List.getElem_toArray, List.getElem_cons_zero, List.getElem_cons_succ]
          go_simp
          (with_reducible refine (put_okp HO.out.drew v py HPY.out HE.out).mono ?_)
          rintro e w9 ⟨rfl, hO2, hK2⟩
          have HO2 := Lib.hid hO2
          have HK3 := Lib.hid (HK2.out.trans ((Kp.drew _ _).trans hK2))
          clear hO2 hK2 hHeld
          refine hK.out _ _ ⟨HO2.out.cell, (HC.out _ HK3.out).2⟩ (fun hHeld => ?_)
          clear hK K
          try simp only [List.getElem_toArray, List.getElem_cons_zero, List.getElem_cons_succ, Act.put, List.setIfInBounds_toArray, List.set_cons_zero, List.set_cons_succ]
          refine wpAnyH_done (by kernel_rfl) ?_ _
          clear hHeld HC HE HO HK2
          go_wp2
          refine ⟨⟨s + 1, v + 1, HM2.out.1, rfl, HM2.out.2.1, HO2.out, HK3.out⟩, ?_⟩
          have hm := HM2.out.2.2; clear HM2; simp only [intOf]; exact hm
        · have hvu : ¬ (v ≤ u) := by have := HD.out; omega
          have HO2 := Lib.hid (HO.out.eqv (wide_i HP1.out (show s = 2 * n + 1 by omega)))
          have HK3 := Lib.hid (HK.out.trans hK)
          clear hs hv hsl hK HO HC HV
          go_wp2
          refine ⟨⟨i + 1, HM.out.1, by go_num, HO2.out, HK3.out⟩, ?_⟩
          have hm := HM.out.2; clear HM; simp only [intOf, Int.toNat_natCast]; first | exact hm | (simp; omega)
    · have i1 : ¬ ((i : Int) < N) := by omega
      have HWF := Lib.hid (wide_all HL.out.1 HL.out.2 (show i = N by omega) HN.out)
      have HB3 := Lib.hid HO.out
      have UW := Lib.hid (up_va (HasR.sa HO.out.1) HO.out.2.2.1)
      have UBx := Lib.hid (UB.out.next HO.out.2.1)
      have UPx := Lib.hid (UP.out.next HO.out.2.1)
      generalize hF : wideS l n i = F at HWF UW
      clear hF UB UP HO HK hK HCS HFR HL hi hlt HB2 HP2 HB3
      go_wp2_with fail
      clear i1
      (with_reducible refine (rempty_any _).mono ?_)
      rintro e w5 ⟨g2, rfl, hge, hG, hb⟩
      obtain ⟨x5, B2, e1, e2, hb2, hk⟩ := box1 w5 #[.slice (some ⟨g2, 0, none⟩) 24 24] 25
      have HO := Lib.hid (ob_start (c := 24) hG.r hge hb e2 hb2 hk : Ob wi g2 B2 24 nul x5)
      have HB2x := Lib.hid UBx.out.now
      have HP2x := Lib.hid (Array.getElem?_eq_some_iff.1 UPx.out.now).1
      clear hge hG hb hb2 hk
      go_wp2
      clear e1 e2
      go_loopw [11] (fun yv wr => ∃ y : Nat, y ≤ 24 ∧ yv = .int .i64 y ∧ Ob wi g2 B2 24 (tallTo F n y 0) wr) (fun yv _ => 24 - (intOf yv).toNat)
      case atStart => exact ⟨0, Nat.zero_le _, rfl, HO.out.eqv (tall_0 _ _)⟩
      case round =>
        obtain ⟨y, hy, rfl, hO⟩ := hrel
        clear HO
        have HO := Lib.hid hO
        clear hO
        have y0 : (0 : Int) ≤ y := by omega
        rename World => wy
        by_cases hlt : y < 24
        · have y1 : (y : Int) < 24 := by omega
          rcases Nat.lt_trichotomy y n with hc | hc | hc
          · obtain ⟨e, he⟩ : ∃ e, (y : Int) - (n : Int) = e := ⟨_, rfl⟩
            have w1 : IntKind.i64.wrap ((y : Int) - (n : Int)) = e := by rw [IntKind.wrap_i64]; omega
            have w2 : e < 0 := by omega
            have HO1 := Lib.hid (show Ob wi g2 B2 24 (tallTo F n y 0) wy from HO.out)
            clear he
            go_wp2
            clear w1
            go_loopw [12] (fun zv wr => ∃ z : Nat, y - n ≤ z ∧ z ≤ 24 ∧ zv = .int .i64 z ∧ Ob wi g2 B2 24 (tallTo F n y z) wr) (fun zv _ => 24 - (intOf zv).toNat)
            case atStart => exact ⟨0, by omega, by omega, rfl, HO1.out⟩
            case round =>
              obtain ⟨z, hzl, hzh, rfl, hO⟩ := hrel
              clear HO HO1
              have HO := Lib.hid hO
              clear hO
              have z0 : (0 : Int) ≤ z := by omega
              have z1 : (z : Int) ≤ 24 := by omega
              obtain ⟨u, hu⟩ : ∃ u, y + n = u := ⟨_, rfl⟩
              have wu : IntKind.i64.wrap ((y : Int) + (n : Int)) = (u : Int) := by rw [IntKind.wrap_i64]; omega
              by_cases hin : z ≤ 23 ∧ z ≤ u
              · rcases Nat.lt_trichotomy u 23 with hc3 | hc3 | hc3
                · have g0 : (u : Int) < 23 := by omega
                  clear hc3
                  have g1 : (z : Int) ≤ u := by omega
                  have g3 : (z : Int) < 24 := by omega
                  have HD := Lib.hid (show dy z y ≤ n from tall_dy hzl (by omega))
                  have HM := Lib.hid (show y - n ≤ z + 1 ∧ z + 1 ≤ 24 ∧ 24 - (z + 1) < 24 - z from by omega)
                  have HY := Lib.hid hlt
                  have UWx := Lib.hid (UW.out.next HO.out.2.1)
                  have ca := HO.out.1.cell hlt
                  have fa := HO.out.1.frozen y
                  have cb := UWx.out.now.row (show z < 24 by omega)
                  rw [Nat.zero_add] at cb
                  obtain ⟨ra, ha⟩ : ∃ r, rowOf (tallTo F n y z) y = r := ⟨_, rfl⟩
                  obtain ⟨rb, hb⟩ : ∃ r, rowOf F z = r := ⟨_, rfl⟩
                  rw [ha] at ca
                  rw [hb] at cb
                  have HA := Lib.hid ha
                  have HBB := Lib.hid hb
                  have cO := HO.out.cell
                  have cW := UWx.out.now.cell
                  clear ha hb hin hzl hzh hlt hu
                  go_wp2
                  clear wu g1
                  have HO2 := Lib.hid (Ob.row2 HO.out HY.out HD.out HA.out HBB.out).drew
                  clear HO HA HBB HD UWx
                  go_still_tail 15, (by kernel_rfl)
                  clear cb cO cW
                  go_wp2
                  refine ⟨⟨z + 1, HM.out.1, HM.out.2.1, by go_num, HO2.out⟩, ?_⟩
                  have hm := HM.out.2.2; clear HM; simp only [intOf, Int.toNat_natCast]; first | exact hm | (simp; omega)
                · subst hc3
                  have g1 : (z : Int) ≤ 23 := by omega
                  have g3 : (z : Int) < 24 := by omega
                  have HD := Lib.hid (show dy z y ≤ n from tall_dy hzl (by omega))
                  have HM := Lib.hid (show y - n ≤ z + 1 ∧ z + 1 ≤ 24 ∧ 24 - (z + 1) < 24 - z from by omega)
                  have HY := Lib.hid hlt
                  have UWx := Lib.hid (UW.out.next HO.out.2.1)
                  have ca := HO.out.1.cell hlt
                  have fa := HO.out.1.frozen y
                  have cb := UWx.out.now.row (show z < 24 by omega)
                  rw [Nat.zero_add] at cb
                  obtain ⟨ra, ha⟩ : ∃ r, rowOf (tallTo F n y z) y = r := ⟨_, rfl⟩
                  obtain ⟨rb, hb⟩ : ∃ r, rowOf F z = r := ⟨_, rfl⟩
                  rw [ha] at ca
                  rw [hb] at cb
                  have HA := Lib.hid ha
                  have HBB := Lib.hid hb
                  have cO := HO.out.cell
                  have cW := UWx.out.now.cell
                  clear ha hb hin hzl hzh hlt hu
                  go_wp2
                  clear wu g1
                  have HO2 := Lib.hid (Ob.row2 HO.out HY.out HD.out HA.out HBB.out).drew
                  clear HO HA HBB HD UWx
                  go_still_tail 15, (by kernel_rfl)
                  clear cb cO cW
                  go_wp2
                  refine ⟨⟨z + 1, HM.out.1, HM.out.2.1, by go_num, HO2.out⟩, ?_⟩
                  have hm := HM.out.2.2; clear HM; simp only [intOf, Int.toNat_natCast]; first | exact hm | (simp; omega)
                · have g0 : (23 : Int) < u := by omega
                  clear hc3
                  have g1 : (z : Int) ≤ 23 := by omega
                  have g3 : (z : Int) < 24 := by omega
                  have HD := Lib.hid (show dy z y ≤ n from tall_dy hzl (by omega))
                  have HM := Lib.hid (show y - n ≤ z + 1 ∧ z + 1 ≤ 24 ∧ 24 - (z + 1) < 24 - z from by omega)
                  have HY := Lib.hid hlt
                  have UWx := Lib.hid (UW.out.next HO.out.2.1)
                  have ca := HO.out.1.cell hlt
                  have fa := HO.out.1.frozen y
                  have cb := UWx.out.now.row (show z < 24 by omega)
                  rw [Nat.zero_add] at cb
                  obtain ⟨ra, ha⟩ : ∃ r, rowOf (tallTo F n y z) y = r := ⟨_, rfl⟩
                  obtain ⟨rb, hb⟩ : ∃ r, rowOf F z = r := ⟨_, rfl⟩
                  rw [ha] at ca
                  rw [hb] at cb
                  have HA := Lib.hid ha
                  have HBB := Lib.hid hb
                  have cO := HO.out.cell
                  have cW := UWx.out.now.cell
                  clear ha hb hin hzl hzh hlt hu
                  go_wp2
                  clear wu g1
                  have HO2 := Lib.hid (Ob.row2 HO.out HY.out HD.out HA.out HBB.out).drew
                  clear HO HA HBB HD UWx
                  go_still_tail 15, (by kernel_rfl)
                  clear cb cO cW
                  go_wp2
                  refine ⟨⟨z + 1, HM.out.1, HM.out.2.1, by go_num, HO2.out⟩, ?_⟩
                  have hm := HM.out.2.2; clear HM; simp only [intOf, Int.toNat_natCast]; first | exact hm | (simp; omega)
              · rcases Nat.lt_trichotomy u 23 with hc3 | hc3 | hc3
                · have g0 : (u : Int) < 23 := by omega
                  clear hc3
                  have g1 : ¬ ((z : Int) ≤ u) := by omega
                  have HO2 := Lib.hid (HO.out.eqv (tall_last hzh (show ¬ (z ≤ 23 ∧ z ≤ y + n) by omega)))
                  have HM := Lib.hid (show y + 1 ≤ 24 ∧ 24 - (y + 1) < 24 - y from by omega)
                  clear HO hin hzl hzh hlt hu
                  go_wp2
                  refine ⟨⟨y + 1, HM.out.1, by go_num, HO2.out⟩, ?_⟩
                  have hm := HM.out.2; clear HM; simp only [intOf, Int.toNat_natCast]; first | exact hm | (simp; omega)
                · subst hc3
                  have g1 : ¬ ((z : Int) ≤ 23) := by omega
                  have HO2 := Lib.hid (HO.out.eqv (tall_last hzh (show ¬ (z ≤ 23 ∧ z ≤ y + n) by omega)))
                  have HM := Lib.hid (show y + 1 ≤ 24 ∧ 24 - (y + 1) < 24 - y from by omega)
                  clear HO hin hzl hzh hlt hu
                  go_wp2
                  refine ⟨⟨y + 1, HM.out.1, by go_num, HO2.out⟩, ?_⟩
                  have hm := HM.out.2; clear HM; simp only [intOf, Int.toNat_natCast]; first | exact hm | (simp; omega)
                · have g0 : (23 : Int) < u := by omega
                  clear hc3
                  have g1 : ¬ ((z : Int) ≤ 23) := by omega
                  have HO2 := Lib.hid (HO.out.eqv (tall_last hzh (show ¬ (z ≤ 23 ∧ z ≤ y + n) by omega)))
                  have HM := Lib.hid (show y + 1 ≤ 24 ∧ 24 - (y + 1) < 24 - y from by omega)
                  clear HO hin hzl hzh hlt hu
                  go_wp2
                  refine ⟨⟨y + 1, HM.out.1, by go_num, HO2.out⟩, ?_⟩
                  have hm := HM.out.2; clear HM; simp only [intOf, Int.toNat_natCast]; first | exact hm | (simp; omega)
          · have w1 : IntKind.i64.wrap ((y : Int) - (n : Int)) = 0 := by rw [IntKind.wrap_i64]; omega
            have w2 : y ≤ n := by omega
            clear hc
            have HO1 := Lib.hid (show Ob wi g2 B2 24 (tallTo F n y 0) wy from HO.out)
            go_wp2
            clear w1
            go_loopw [12] (fun zv wr => ∃ z : Nat, y - n ≤ z ∧ z ≤ 24 ∧ zv = .int .i64 z ∧ Ob wi g2 B2 24 (tallTo F n y z) wr) (fun zv _ => 24 - (intOf zv).toNat)
            case atStart => exact ⟨0, by omega, by omega, rfl, HO1.out⟩
            case round =>
              obtain ⟨z, hzl, hzh, rfl, hO⟩ := hrel
              clear HO HO1
              have HO := Lib.hid hO
              clear hO
              have z0 : (0 : Int) ≤ z := by omega
              have z1 : (z : Int) ≤ 24 := by omega
              obtain ⟨u, hu⟩ : ∃ u, y + n = u := ⟨_, rfl⟩
              have wu : IntKind.i64.wrap ((y : Int) + (n : Int)) = (u : Int) := by rw [IntKind.wrap_i64]; omega
              by_cases hin : z ≤ 23 ∧ z ≤ u
              · rcases Nat.lt_trichotomy u 23 with hc3 | hc3 | hc3
                · have g0 : (u : Int) < 23 := by omega
                  clear hc3
                  have g1 : (z : Int) ≤ u := by omega
                  have g3 : (z : Int) < 24 := by omega
                  have HD := Lib.hid (show dy z y ≤ n from tall_dy hzl (by omega))
                  have HM := Lib.hid (show y - n ≤ z + 1 ∧ z + 1 ≤ 24 ∧ 24 - (z + 1) < 24 - z from by omega)
                  have HY := Lib.hid hlt
                  have UWx := Lib.hid (UW.out.next HO.out.2.1)
                  have ca := HO.out.1.cell hlt
                  have fa := HO.out.1.frozen y
                  have cb := UWx.out.now.row (show z < 24 by omega)
                  rw [Nat.zero_add] at cb
                  obtain ⟨ra, ha⟩ : ∃ r, rowOf (tallTo F n y z) y = r := ⟨_, rfl⟩
                  obtain ⟨rb, hb⟩ : ∃ r, rowOf F z = r := ⟨_, rfl⟩
                  rw [ha] at ca
                  rw [hb] at cb
                  have HA := Lib.hid ha
                  have HBB := Lib.hid hb
                  have cO := HO.out.cell
                  have cW := UWx.out.now.cell
                  clear ha hb hin hzl hzh hlt hu
                  go_wp2
                  clear wu g1
                  have HO2 := Lib.hid (Ob.row2 HO.out HY.out HD.out HA.out HBB.out).drew
                  clear HO HA HBB HD UWx
                  go_still_tail 15, (by kernel_rfl)
                  clear cb cO cW
                  go_wp2
                  refine ⟨⟨z + 1, HM.out.1, HM.out.2.1, by go_num, HO2.out⟩, ?_⟩
                  have hm := HM.out.2.2; clear HM; simp only [intOf, Int.toNat_natCast]; first | exact hm | (simp; omega)
                · subst hc3
                  have g1 : (z : Int) ≤ 23 := by omega
                  have g3 : (z : Int) < 24 := by omega
                  have HD := Lib.hid (show dy z y ≤ n from tall_dy hzl (by omega))
                  have HM := Lib.hid (show y - n ≤ z + 1 ∧ z + 1 ≤ 24 ∧ 24 - (z + 1) < 24 - z from by omega)
                  have HY := Lib.hid hlt
                  have UWx := Lib.hid (UW.out.next HO.out.2.1)
                  have ca := HO.out.1.cell hlt
                  have fa := HO.out.1.frozen y
                  have cb := UWx.out.now.row (show z < 24 by omega)
                  rw [Nat.zero_add] at cb
                  obtain ⟨ra, ha⟩ : ∃ r, rowOf (tallTo F n y z) y = r := ⟨_, rfl⟩
                  obtain ⟨rb, hb⟩ : ∃ r, rowOf F z = r := ⟨_, rfl⟩
                  rw [ha] at ca
                  rw [hb] at cb
                  have HA := Lib.hid ha
                  have HBB := Lib.hid hb
                  have cO := HO.out.cell
                  have cW := UWx.out.now.cell
                  clear ha hb hin hzl hzh hlt hu
                  go_wp2
                  clear wu g1
                  have HO2 := Lib.hid (Ob.row2 HO.out HY.out HD.out HA.out HBB.out).drew
                  clear HO HA HBB HD UWx
                  go_still_tail 15, (by kernel_rfl)
                  clear cb cO cW
                  go_wp2
                  refine ⟨⟨z + 1, HM.out.1, HM.out.2.1, by go_num, HO2.out⟩, ?_⟩
                  have hm := HM.out.2.2; clear HM; simp only [intOf, Int.toNat_natCast]; first | exact hm | (simp; omega)
                · have g0 : (23 : Int) < u := by omega
                  clear hc3
                  have g1 : (z : Int) ≤ 23 := by omega
                  have g3 : (z : Int) < 24 := by omega
                  have HD := Lib.hid (show dy z y ≤ n from tall_dy hzl (by omega))
                  have HM := Lib.hid (show y - n ≤ z + 1 ∧ z + 1 ≤ 24 ∧ 24 - (z + 1) < 24 - z from by omega)
                  have HY := Lib.hid hlt
                  have UWx := Lib.hid (UW.out.next HO.out.2.1)
                  have ca := HO.out.1.cell hlt
                  have fa := HO.out.1.frozen y
                  have cb := UWx.out.now.row (show z < 24 by omega)
                  rw [Nat.zero_add] at cb
                  obtain ⟨ra, ha⟩ : ∃ r, rowOf (tallTo F n y z) y = r := ⟨_, rfl⟩
                  obtain ⟨rb, hb⟩ : ∃ r, rowOf F z = r := ⟨_, rfl⟩
                  rw [ha] at ca
                  rw [hb] at cb
                  have HA := Lib.hid ha
                  have HBB := Lib.hid hb
                  have cO := HO.out.cell
                  have cW := UWx.out.now.cell
                  clear ha hb hin hzl hzh hlt hu
                  go_wp2
                  clear wu g1
                  have HO2 := Lib.hid (Ob.row2 HO.out HY.out HD.out HA.out HBB.out).drew
                  clear HO HA HBB HD UWx
                  go_still_tail 15, (by kernel_rfl)
                  clear cb cO cW
                  go_wp2
                  refine ⟨⟨z + 1, HM.out.1, HM.out.2.1, by go_num, HO2.out⟩, ?_⟩
                  have hm := HM.out.2.2; clear HM; simp only [intOf, Int.toNat_natCast]; first | exact hm | (simp; omega)
              · rcases Nat.lt_trichotomy u 23 with hc3 | hc3 | hc3
                · have g0 : (u : Int) < 23 := by omega
                  clear hc3
                  have g1 : ¬ ((z : Int) ≤ u) := by omega
                  have HO2 := Lib.hid (HO.out.eqv (tall_last hzh (show ¬ (z ≤ 23 ∧ z ≤ y + n) by omega)))
                  have HM := Lib.hid (show y + 1 ≤ 24 ∧ 24 - (y + 1) < 24 - y from by omega)
                  clear HO hin hzl hzh hlt hu
                  go_wp2
                  refine ⟨⟨y + 1, HM.out.1, by go_num, HO2.out⟩, ?_⟩
                  have hm := HM.out.2; clear HM; simp only [intOf, Int.toNat_natCast]; first | exact hm | (simp; omega)
                · subst hc3
                  have g1 : ¬ ((z : Int) ≤ 23) := by omega
                  have HO2 := Lib.hid (HO.out.eqv (tall_last hzh (show ¬ (z ≤ 23 ∧ z ≤ y + n) by omega)))
                  have HM := Lib.hid (show y + 1 ≤ 24 ∧ 24 - (y + 1) < 24 - y from by omega)
                  clear HO hin hzl hzh hlt hu
                  go_wp2
                  refine ⟨⟨y + 1, HM.out.1, by go_num, HO2.out⟩, ?_⟩
                  have hm := HM.out.2; clear HM; simp only [intOf, Int.toNat_natCast]; first | exact hm | (simp; omega)
                · have g0 : (23 : Int) < u := by omega
                  clear hc3
                  have g1 : ¬ ((z : Int) ≤ 23) := by omega
                  have HO2 := Lib.hid (HO.out.eqv (tall_last hzh (show ¬ (z ≤ 23 ∧ z ≤ y + n) by omega)))
                  have HM := Lib.hid (show y + 1 ≤ 24 ∧ 24 - (y + 1) < 24 - y from by omega)
                  clear HO hin hzl hzh hlt hu
                  go_wp2
                  refine ⟨⟨y + 1, HM.out.1, by go_num, HO2.out⟩, ?_⟩
                  have hm := HM.out.2; clear HM; simp only [intOf, Int.toNat_natCast]; first | exact hm | (simp; omega)
          · obtain ⟨z0, hz0⟩ : ∃ z0, y - n = z0 := ⟨_, rfl⟩
            have w1 : IntKind.i64.wrap ((y : Int) - (n : Int)) = (z0 : Int) := by rw [IntKind.wrap_i64]; omega
            have w2 : (0 : Int) < z0 := by omega
            have HO1 := Lib.hid (show Ob wi g2 B2 24 (tallTo F n y z0) wy from hz0 ▸ HO.out.eqv tall_start)
            go_wp2
            clear w1
            go_loopw [12] (fun zv wr => ∃ z : Nat, y - n ≤ z ∧ z ≤ 24 ∧ zv = .int .i64 z ∧ Ob wi g2 B2 24 (tallTo F n y z) wr) (fun zv _ => 24 - (intOf zv).toNat)
            case atStart => exact ⟨z0, by omega, by omega, rfl, HO1.out⟩
            case round =>
              obtain ⟨z, hzl, hzh, rfl, hO⟩ := hrel
              clear HO HO1
              have HO := Lib.hid hO
              clear hO
              have z0 : (0 : Int) ≤ z := by omega
              have z1 : (z : Int) ≤ 24 := by omega
              obtain ⟨u, hu⟩ : ∃ u, y + n = u := ⟨_, rfl⟩
              have wu : IntKind.i64.wrap ((y : Int) + (n : Int)) = (u : Int) := by rw [IntKind.wrap_i64]; omega
              by_cases hin : z ≤ 23 ∧ z ≤ u
              · rcases Nat.lt_trichotomy u 23 with hc3 | hc3 | hc3
                · have g0 : (u : Int) < 23 := by omega
                  clear hc3
                  have g1 : (z : Int) ≤ u := by omega
                  have g3 : (z : Int) < 24 := by omega
                  have HD := Lib.hid (show dy z y ≤ n from tall_dy hzl (by omega))
                  have HM := Lib.hid (show y - n ≤ z + 1 ∧ z + 1 ≤ 24 ∧ 24 - (z + 1) < 24 - z from by omega)
                  have HY := Lib.hid hlt
                  have UWx := Lib.hid (UW.out.next HO.out.2.1)
                  have ca := HO.out.1.cell hlt
                  have fa := HO.out.1.frozen y
                  have cb := UWx.out.now.row (show z < 24 by omega)
                  rw [Nat.zero_add] at cb
                  obtain ⟨ra, ha⟩ : ∃ r, rowOf (tallTo F n y z) y = r := ⟨_, rfl⟩
                  obtain ⟨rb, hb⟩ : ∃ r, rowOf F z = r := ⟨_, rfl⟩
                  rw [ha] at ca
                  rw [hb] at cb
                  have HA := Lib.hid ha
                  have HBB := Lib.hid hb
                  have cO := HO.out.cell
                  have cW := UWx.out.now.cell
                  clear ha hb hin hzl hzh hlt hu
                  go_wp2
                  clear wu g1
                  have HO2 := Lib.hid (Ob.row2 HO.out HY.out HD.out HA.out HBB.out).drew
                  clear HO HA HBB HD UWx
                  go_still_tail 15, (by kernel_rfl)
                  clear cb cO cW
                  go_wp2
                  refine ⟨⟨z + 1, HM.out.1, HM.out.2.1, by go_num, HO2.out⟩, ?_⟩
                  have hm := HM.out.2.2; clear HM; simp only [intOf, Int.toNat_natCast]; first | exact hm | (simp; omega)
                · subst hc3
                  have g1 : (z : Int) ≤ 23 := by omega
                  have g3 : (z : Int) < 24 := by omega
                  have HD := Lib.hid (show dy z y ≤ n from tall_dy hzl (by omega))
                  have HM := Lib.hid (show y - n ≤ z + 1 ∧ z + 1 ≤ 24 ∧ 24 - (z + 1) < 24 - z from by omega)
                  have HY := Lib.hid hlt
                  have UWx := Lib.hid (UW.out.next HO.out.2.1)
                  have ca := HO.out.1.cell hlt
                  have fa := HO.out.1.frozen y
                  have cb := UWx.out.now.row (show z < 24 by omega)
                  rw [Nat.zero_add] at cb
                  obtain ⟨ra, ha⟩ : ∃ r, rowOf (tallTo F n y z) y = r := ⟨_, rfl⟩
                  obtain ⟨rb, hb⟩ : ∃ r, rowOf F z = r := ⟨_, rfl⟩
                  rw [ha] at ca
                  rw [hb] at cb
                  have HA := Lib.hid ha
                  have HBB := Lib.hid hb
                  have cO := HO.out.cell
                  have cW := UWx.out.now.cell
                  clear ha hb hin hzl hzh hlt hu
                  go_wp2
                  clear wu g1
                  have HO2 := Lib.hid (Ob.row2 HO.out HY.out HD.out HA.out HBB.out).drew
                  clear HO HA HBB HD UWx
                  go_still_tail 15, (by kernel_rfl)
                  clear cb cO cW
                  go_wp2
                  refine ⟨⟨z + 1, HM.out.1, HM.out.2.1, by go_num, HO2.out⟩, ?_⟩
                  have hm := HM.out.2.2; clear HM; simp only [intOf, Int.toNat_natCast]; first | exact hm | (simp; omega)
                · have g0 : (23 : Int) < u := by omega
                  clear hc3
                  have g1 : (z : Int) ≤ 23 := by omega
                  have g3 : (z : Int) < 24 := by omega
                  have HD := Lib.hid (show dy z y ≤ n from tall_dy hzl (by omega))
                  have HM := Lib.hid (show y - n ≤ z + 1 ∧ z + 1 ≤ 24 ∧ 24 - (z + 1) < 24 - z from by omega)
                  have HY := Lib.hid hlt
                  have UWx := Lib.hid (UW.out.next HO.out.2.1)
                  have ca := HO.out.1.cell hlt
                  have fa := HO.out.1.frozen y
                  have cb := UWx.out.now.row (show z < 24 by omega)
                  rw [Nat.zero_add] at cb
                  obtain ⟨ra, ha⟩ : ∃ r, rowOf (tallTo F n y z) y = r := ⟨_, rfl⟩
                  obtain ⟨rb, hb⟩ : ∃ r, rowOf F z = r := ⟨_, rfl⟩
                  rw [ha] at ca
                  rw [hb] at cb
                  have HA := Lib.hid ha
                  have HBB := Lib.hid hb
                  have cO := HO.out.cell
                  have cW := UWx.out.now.cell
                  clear ha hb hin hzl hzh hlt hu
                  go_wp2
                  clear wu g1
                  have HO2 := Lib.hid (Ob.row2 HO.out HY.out HD.out HA.out HBB.out).drew
                  clear HO HA HBB HD UWx
                  go_still_tail 15, (by kernel_rfl)
                  clear cb cO cW
                  go_wp2
                  refine ⟨⟨z + 1, HM.out.1, HM.out.2.1, by go_num, HO2.out⟩, ?_⟩
                  have hm := HM.out.2.2; clear HM; simp only [intOf, Int.toNat_natCast]; first | exact hm | (simp; omega)
              · rcases Nat.lt_trichotomy u 23 with hc3 | hc3 | hc3
                · have g0 : (u : Int) < 23 := by omega
                  clear hc3
                  have g1 : ¬ ((z : Int) ≤ u) := by omega
                  have HO2 := Lib.hid (HO.out.eqv (tall_last hzh (show ¬ (z ≤ 23 ∧ z ≤ y + n) by omega)))
                  have HM := Lib.hid (show y + 1 ≤ 24 ∧ 24 - (y + 1) < 24 - y from by omega)
                  clear HO hin hzl hzh hlt hu
                  go_wp2
                  refine ⟨⟨y + 1, HM.out.1, by go_num, HO2.out⟩, ?_⟩
                  have hm := HM.out.2; clear HM; simp only [intOf, Int.toNat_natCast]; first | exact hm | (simp; omega)
                · subst hc3
                  have g1 : ¬ ((z : Int) ≤ 23) := by omega
                  have HO2 := Lib.hid (HO.out.eqv (tall_last hzh (show ¬ (z ≤ 23 ∧ z ≤ y + n) by omega)))
                  have HM := Lib.hid (show y + 1 ≤ 24 ∧ 24 - (y + 1) < 24 - y from by omega)
                  clear HO hin hzl hzh hlt hu
                  go_wp2
                  refine ⟨⟨y + 1, HM.out.1, by go_num, HO2.out⟩, ?_⟩
                  have hm := HM.out.2; clear HM; simp only [intOf, Int.toNat_natCast]; first | exact hm | (simp; omega)
                · have g0 : (23 : Int) < u := by omega
                  clear hc3
                  have g1 : ¬ ((z : Int) ≤ 23) := by omega
                  have HO2 := Lib.hid (HO.out.eqv (tall_last hzh (show ¬ (z ≤ 23 ∧ z ≤ y + n) by omega)))
                  have HM := Lib.hid (show y + 1 ≤ 24 ∧ 24 - (y + 1) < 24 - y from by omega)
                  clear HO hin hzl hzh hlt hu
                  go_wp2
                  refine ⟨⟨y + 1, HM.out.1, by go_num, HO2.out⟩, ?_⟩
                  have hm := HM.out.2; clear HM; simp only [intOf, Int.toNat_natCast]; first | exact hm | (simp; omega)
        · obtain rfl : y = 24 := by omega
          have HO2 := Lib.hid (HO.out.eqv (tall_all HWF.out))
          have UPy := Lib.hid (UPx.out.next HO2.out.2.1)
          clear HO UPx UBx UW HWF
          have dP := (row_cell UPy.out.now 0).trans (show _ = some (.slice none 0 0) from rfl)
          have fP := frozen_of_row _ Bp 0 _ _ UPy.out.now
          have cO := HO2.out.cell
          go_wp2
          exact bodyPost_ret (v := .tuple #[.agg #[.slice (some ⟨g2, 0, none⟩) 24 24], .int .i64 0]) (by simp [results, Tryd.results36, go_sem, dP]) rfl (ob_out HO2.out HB2x.out HP.out HP2x.out)
theorem rGrown_any (al : Option Addr) (n c : Nat) (zs : List Int) (oa : Option Ar) (hO : Is zs oa) (z : Int) (w : World) (h : Sl w al n zs) :
    Calls Tryd.prog 36 #[.agg #[.slice al n c], .int .i64 z] w (OutA w (grownO oa z)) := by
  cases oa with
  | none =>
    rw [show grownO none z = none from by unfold grownO; split <;> rfl]
    exact rgrown_no al n c zs hO z w h
  | some f =>
    obtain rfl : zs = rz f := hO
    obtain ⟨rfl, b, o, rfl, hb, hc⟩ := SA.parts h
    by_cases hz : 0 ≤ z ∧ z ≤ 24
    · obtain ⟨k, rfl⟩ := Int.eq_ofNat_of_zero_le hz.1
      rw [show grownO (some f) (k : Int) = some (grown f k) from by unfold grownO; rw [if_pos hz]; rfl]
      exact rgrown_yes b o c f k (by omega) w h
    · rw [show grownO (some f) z = none from by unfold grownO; rw [if_neg hz]]
      by_cases h1 : z < 0
      · exact rgrown_neg b o c f z h1 w h
      · exact rgrown_big b o c f z (by omega) w h
end Go.Proofs.YtipfafglbkbafaaDoor
