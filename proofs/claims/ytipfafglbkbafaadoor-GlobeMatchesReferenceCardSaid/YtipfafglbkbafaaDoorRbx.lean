/- The reference's Box. -/
import Derived.Test.YtipfafglbkbafaaDoorRj
namespace Go.Proofs.YtipfafglbkbafaaDoor
open Go.RowKit Go.Shelf
set_option linter.unusedVariables false
set_option linter.unusedSimpArgs false
set_option maxRecDepth 100000 in
set_option maxHeartbeats 1000000 in
theorem rbox_off (x y wd hi : Int) (hg : onG x y = false) (w : World) :
    Calls Tryd.prog 20 #[CV x y, .int .i64 wd, .int .i64 hi] w (OutA w none) := by
  obtain ⟨v1, Bc, eA1, eB1, hb1, hk1⟩ := box1 w #[.int .i64 x, .int .i64 y] 27
  obtain ⟨v2, Bp, eA2, eB2, hb2, hk2⟩ := box1 v1 #[.slice none 0 0] 25
  have UB := Lib.hid (((up_bl w).next hb1).next hb2)
  have UC := Lib.hid ((up_vr hk1 : Up v1 (VR Bc #[.int .i64 x, .int .i64 y] 27)).next hb2)
  have UP := Lib.hid (up_vr hk2 : Up v2 (VR Bp #[.slice none 0 0] 25))
  have HP := Lib.hid (show w.heap.size ≤ Bp from by rw [← eB2]; exact ((up_bl w).next hb1).now.size)
  clear hb1 hb2 hk1 hk2
  have HG := Lib.hid hg
  clear hg
  go_enter Tryd.func20, Tryd.ntmps20
  have hl0 := ra_c0 UC.out.now
  have hl1 := ra_c1 UC.out.now
  go_wp2_with fail
  clear eA1 eB1 eA2 eB2
  clear hl0 hl1
  (with_reducible refine (rvc HG.out).mono ?_)
  rintro e w3 ⟨rfl, hb⟩
  replace UB := Lib.hid (UB.out.next hb)
  replace UC := Lib.hid (UC.out.next hb)
  replace UP := Lib.hid (UP.out.next hb)
  clear hb
  have dP := (row_cell UP.out.now 0).trans (show _ = some (.slice none 0 0) from rfl)
  have fP := frozen_of_row _ Bp 0 _ _ UP.out.now
  go_wp2
  exact bodyPost_ret (v := .tuple #[.agg #[.slice none 0 0], .int .i64 50]) (by simp [results, Tryd.results20, go_sem, dP]) rfl (no_out UB.out.now HP.out)
set_option maxRecDepth 100000 in
set_option maxHeartbeats 1000000 in
theorem rbox_w0 (x y wd hi : Int) (hg : onG x y = true) (h1 : wd < 1) (w : World) :
    Calls Tryd.prog 20 #[CV x y, .int .i64 wd, .int .i64 hi] w (OutA w none) := by
  obtain ⟨v1, Bc, eA1, eB1, hb1, hk1⟩ := box1 w #[.int .i64 x, .int .i64 y] 27
  obtain ⟨v2, Bp, eA2, eB2, hb2, hk2⟩ := box1 v1 #[.slice none 0 0] 25
  have UB := Lib.hid (((up_bl w).next hb1).next hb2)
  have UC := Lib.hid ((up_vr hk1 : Up v1 (VR Bc #[.int .i64 x, .int .i64 y] 27)).next hb2)
  have UP := Lib.hid (up_vr hk2 : Up v2 (VR Bp #[.slice none 0 0] 25))
  have HP := Lib.hid (show w.heap.size ≤ Bp from by rw [← eB2]; exact ((up_bl w).next hb1).now.size)
  clear hb1 hb2 hk1 hk2
  have HG := Lib.hid hg
  clear hg
  go_enter Tryd.func20, Tryd.ntmps20
  have hl0 := ra_c0 UC.out.now
  have hl1 := ra_c1 UC.out.now
  go_wp2_with fail
  clear eA1 eB1 eA2 eB2
  clear hl0 hl1
  (with_reducible refine (rvc HG.out).mono ?_)
  rintro e w3 ⟨rfl, hb⟩
  replace UB := Lib.hid (UB.out.next hb)
  replace UC := Lib.hid (UC.out.next hb)
  replace UP := Lib.hid (UP.out.next hb)
  clear hb
  have dP := (row_cell UP.out.now 0).trans (show _ = some (.slice none 0 0) from rfl)
  have fP := frozen_of_row _ Bp 0 _ _ UP.out.now
  go_wp2
  exact bodyPost_ret (v := .tuple #[.agg #[.slice none 0 0], .int .i64 50]) (by simp [results, Tryd.results20, go_sem, dP]) rfl (no_out UB.out.now HP.out)
set_option maxRecDepth 100000 in
set_option maxHeartbeats 1000000 in
theorem rbox_w49 (x y wd hi : Int) (hg : onG x y = true) (h1 : 48 < wd) (w : World) :
    Calls Tryd.prog 20 #[CV x y, .int .i64 wd, .int .i64 hi] w (OutA w none) := by
  obtain ⟨v1, Bc, eA1, eB1, hb1, hk1⟩ := box1 w #[.int .i64 x, .int .i64 y] 27
  obtain ⟨v2, Bp, eA2, eB2, hb2, hk2⟩ := box1 v1 #[.slice none 0 0] 25
  have UB := Lib.hid (((up_bl w).next hb1).next hb2)
  have UC := Lib.hid ((up_vr hk1 : Up v1 (VR Bc #[.int .i64 x, .int .i64 y] 27)).next hb2)
  have UP := Lib.hid (up_vr hk2 : Up v2 (VR Bp #[.slice none 0 0] 25))
  have HP := Lib.hid (show w.heap.size ≤ Bp from by rw [← eB2]; exact ((up_bl w).next hb1).now.size)
  clear hb1 hb2 hk1 hk2
  have HG := Lib.hid hg
  clear hg
  go_enter Tryd.func20, Tryd.ntmps20
  have hl0 := ra_c0 UC.out.now
  have hl1 := ra_c1 UC.out.now
  go_wp2_with fail
  clear eA1 eB1 eA2 eB2
  clear hl0 hl1
  (with_reducible refine (rvc HG.out).mono ?_)
  rintro e w3 ⟨rfl, hb⟩
  replace UB := Lib.hid (UB.out.next hb)
  replace UC := Lib.hid (UC.out.next hb)
  replace UP := Lib.hid (UP.out.next hb)
  clear hb
  have dP := (row_cell UP.out.now 0).trans (show _ = some (.slice none 0 0) from rfl)
  have fP := frozen_of_row _ Bp 0 _ _ UP.out.now
  go_wp2
  exact bodyPost_ret (v := .tuple #[.agg #[.slice none 0 0], .int .i64 50]) (by simp [results, Tryd.results20, go_sem, dP]) rfl (no_out UB.out.now HP.out)
set_option maxRecDepth 100000 in
set_option maxHeartbeats 1000000 in
theorem rbox_h0 (x y wd hi : Int) (hg : onG x y = true) (h1 : 1 ≤ wd) (h2 : wd ≤ 48) (h3 : hi < 1) (w : World) :
    Calls Tryd.prog 20 #[CV x y, .int .i64 wd, .int .i64 hi] w (OutA w none) := by
  obtain ⟨v1, Bc, eA1, eB1, hb1, hk1⟩ := box1 w #[.int .i64 x, .int .i64 y] 27
  obtain ⟨v2, Bp, eA2, eB2, hb2, hk2⟩ := box1 v1 #[.slice none 0 0] 25
  have UB := Lib.hid (((up_bl w).next hb1).next hb2)
  have UC := Lib.hid ((up_vr hk1 : Up v1 (VR Bc #[.int .i64 x, .int .i64 y] 27)).next hb2)
  have UP := Lib.hid (up_vr hk2 : Up v2 (VR Bp #[.slice none 0 0] 25))
  have HP := Lib.hid (show w.heap.size ≤ Bp from by rw [← eB2]; exact ((up_bl w).next hb1).now.size)
  clear hb1 hb2 hk1 hk2
  have HG := Lib.hid hg
  clear hg
  go_enter Tryd.func20, Tryd.ntmps20
  have hl0 := ra_c0 UC.out.now
  have hl1 := ra_c1 UC.out.now
  go_wp2_with fail
  clear eA1 eB1 eA2 eB2
  clear hl0 hl1
  (with_reducible refine (rvc HG.out).mono ?_)
  rintro e w3 ⟨rfl, hb⟩
  replace UB := Lib.hid (UB.out.next hb)
  replace UC := Lib.hid (UC.out.next hb)
  replace UP := Lib.hid (UP.out.next hb)
  clear hb
  have dP := (row_cell UP.out.now 0).trans (show _ = some (.slice none 0 0) from rfl)
  have fP := frozen_of_row _ Bp 0 _ _ UP.out.now
  go_wp2
  exact bodyPost_ret (v := .tuple #[.agg #[.slice none 0 0], .int .i64 50]) (by simp [results, Tryd.results20, go_sem, dP]) rfl (no_out UB.out.now HP.out)
set_option maxRecDepth 100000 in
set_option maxHeartbeats 1000000 in
theorem rbox_h25 (x y wd hi : Int) (hg : onG x y = true) (h1 : 1 ≤ wd) (h2 : wd ≤ 48) (h3 : 1 ≤ hi) (h4 : 24 - y < hi) (w : World) :
    Calls Tryd.prog 20 #[CV x y, .int .i64 wd, .int .i64 hi] w (OutA w none) := by
  obtain ⟨v1, Bc, eA1, eB1, hb1, hk1⟩ := box1 w #[.int .i64 x, .int .i64 y] 27
  obtain ⟨v2, Bp, eA2, eB2, hb2, hk2⟩ := box1 v1 #[.slice none 0 0] 25
  have UB := Lib.hid (((up_bl w).next hb1).next hb2)
  have UC := Lib.hid ((up_vr hk1 : Up v1 (VR Bc #[.int .i64 x, .int .i64 y] 27)).next hb2)
  have UP := Lib.hid (up_vr hk2 : Up v2 (VR Bp #[.slice none 0 0] 25))
  have HP := Lib.hid (show w.heap.size ≤ Bp from by rw [← eB2]; exact ((up_bl w).next hb1).now.size)
  clear hb1 hb2 hk1 hk2
  have hy := onG_iff.1 hg
  have y0 : 0 ≤ y := hy.2.2.1
  have y1 : y < 24 := hy.2.2.2
  clear hy
  have HG := Lib.hid hg
  clear hg
  go_enter Tryd.func20, Tryd.ntmps20
  have hl0 := ra_c0 UC.out.now
  have hl1 := ra_c1 UC.out.now
  go_wp2_with fail
  clear eA1 eB1 eA2 eB2
  clear hl0 hl1
  (with_reducible refine (rvc HG.out).mono ?_)
  rintro e w3 ⟨rfl, hb⟩
  replace UB := Lib.hid (UB.out.next hb)
  replace UC := Lib.hid (UC.out.next hb)
  replace UP := Lib.hid (UP.out.next hb)
  clear hb
  have q1 := ra_c1 UC.out.now
  have dP := (row_cell UP.out.now 0).trans (show _ = some (.slice none 0 0) from rfl)
  have fP := frozen_of_row _ Bp 0 _ _ UP.out.now
  go_wp2
  exact bodyPost_ret (v := .tuple #[.agg #[.slice none 0 0], .int .i64 50]) (by simp [results, Tryd.results20, go_sem, dP]) rfl (no_out UB.out.now HP.out)
theorem box_step {cx cy w h x s q : Nat} (hc : cx < 48) (hx : x < w) (hw : w ≤ 48) (hs : cx + x = s) (hq : cy + h = q) : Eqv (putA (boxTo cx cy w h x) (k48 (s : Int)) q) (boxTo cx cy w h (x + 1)) := by
  rw [k48_nat, ← hs, ← hq]
  exact boxTo_put hc (by omega)
set_option maxRecDepth 100000 in
set_option maxHeartbeats 1000000 in
theorem rbox_yes (cx cy wd hi : Nat) (hc : cx < 48) (hw1 : 1 ≤ wd) (hw2 : wd ≤ 48) (hh1 : 1 ≤ hi) (hh2 : hi + cy ≤ 24) (w : World) :
    Calls Tryd.prog 20 #[CV cx cy, .int .i64 (wd : Int), .int .i64 (hi : Int)] w (OutA w (some (box cx cy wd hi))) := by
  obtain ⟨v1, Bc, eA1, eB1, hb1, hk1⟩ := box1 w #[.int .i64 (cx : Int), .int .i64 (cy : Int)] 27
  obtain ⟨v2, Bp, eA2, eB2, hb2, hk2⟩ := box1 v1 #[.slice none 0 0] 25
  have UB := Lib.hid (((up_bl w).next hb1).next hb2)
  have UC := Lib.hid ((up_vr hk1 : Up v1 (VR Bc #[.int .i64 (cx : Int), .int .i64 (cy : Int)] 27)).next hb2)
  have UP := Lib.hid (up_vr hk2 : Up v2 (VR Bp #[.slice none 0 0] 25))
  have HP := Lib.hid (show w.heap.size ≤ Bp from by rw [← eB2]; exact ((up_bl w).next hb1).now.size)
  clear hb1 hb2 hk1 hk2
  have HG := Lib.hid (show onG cx cy = true from onG_iff.2 ⟨by omega, by omega, by omega, by omega⟩)
  have g1 : ¬ ((wd : Int) < 1) := by omega
  have g2 : ¬ ((48 : Int) < wd) := by omega
  have g3 : ¬ ((hi : Int) < 1) := by omega
  have g4 : ¬ ((24 : Int) - cy < hi) := by omega
  have g5 : IntKind.i64.wrap ((24 : Int) - cy) = (24 : Int) - cy := by rw [IntKind.wrap_i64]; omega
  go_enter Tryd.func20, Tryd.ntmps20
  have hl0 := ra_c0 UC.out.now
  have hl1 := ra_c1 UC.out.now
  go_wp2_with fail
  clear eA1 eB1 eA2 eB2
  clear hl0 hl1
  (with_reducible refine (rvc HG.out).mono ?_)
  rintro e w3 ⟨rfl, hb⟩
  replace UB := Lib.hid (UB.out.next hb)
  replace UC := Lib.hid (UC.out.next hb)
  replace UP := Lib.hid (UP.out.next hb)
  clear hb
  have hl0 := ra_c1 UC.out.now
  go_wp2_with fail
  clear hl0
  clear g1 g2 g3 g4 g5
  (with_reducible refine (rempty_any _).mono ?_)
  rintro e w4 ⟨g, rfl, hge, hG, hb⟩
  obtain ⟨x4, B, e1, e2, hb2, hk⟩ := box1 w4 #[.slice (some ⟨g, 0, none⟩) 24 24] 25
  have HO := Lib.hid (ob_start (c := 24) hG.r hge hb e2 hb2 hk : Ob w3 g B 24 nul x4)
  have HB2 := Lib.hid UB.out.now
  have HP2 := Lib.hid (Array.getElem?_eq_some_iff.1 UP.out.now).1
  clear hge hG hb hb2 hk
  go_wp2
  clear e1 e2
  go_loopw [9] (fun yv wr => ∃ y : Nat, y ≤ hi ∧ yv = .int .i64 y ∧ Ob w3 g B 24 (boxTo cx cy wd y 0) wr) (fun yv _ => hi - (intOf yv).toNat)
  case atStart => exact ⟨0, Nat.zero_le _, rfl, HO.out.eqv (boxTo_0 _ _ _)⟩
  case round =>
    obtain ⟨y, hy, rfl, hO⟩ := hrel
    clear HO
    have HO := Lib.hid hO
    clear hO
    have y0 : (0 : Int) ≤ y := by omega
    by_cases hlt : y < hi
    · have y1 : (y : Int) < hi := by omega
      go_wp2
      go_loopw [10] (fun xv wr => ∃ x : Nat, x ≤ wd ∧ xv = .int .i64 x ∧ Ob w3 g B 24 (boxTo cx cy wd y x) wr) (fun xv _ => wd - (intOf xv).toNat)
      case atStart => exact ⟨0, Nat.zero_le _, rfl, HO.out⟩
      case round =>
        obtain ⟨x, hx, rfl, hO⟩ := hrel
        clear HO
        have HO := Lib.hid hO
        clear hO
        have x0 : (0 : Int) ≤ x := by omega
        by_cases hxl : x < wd
        · have x1 : (x : Int) < wd := by omega
          obtain ⟨s, hs⟩ : ∃ s, cx + x = s := ⟨_, rfl⟩
          obtain ⟨q, hq⟩ : ∃ q, cy + y = q := ⟨_, rfl⟩
          have hq24 : q < 24 := by omega
          have HE := Lib.hid (box_step (cy := cy) (w := wd) (h := y) hc hxl hw2 hs hq)
          have HQ := Lib.hid hq24
          have hw1 : IntKind.i64.wrap ((cx : Int) + (x : Int)) = (s : Int) := by rw [IntKind.wrap_i64]; omega
          have hw3 : IntKind.i64.wrap ((cy : Int) + (y : Int)) = (q : Int) := by rw [IntKind.wrap_i64]; omega
          clear hs hq hq24
          have UBx := Lib.hid (UB.out.next HO.out.2.1)
          have UCx := Lib.hid (UC.out.next HO.out.2.1)
          have UPx := Lib.hid (UP.out.next HO.out.2.1)
          have hl0 := HO.out.cell
          have hl1 := ra_c0 UCx.out.now
          have hl2 := ra_c1 UCx.out.now
          go_wp2_with fail
          clear hl0 hl1 hl2
          clear hw1 hw3
          (with_reducible refine (put_ob HO.out (s : Int) q HQ.out HE.out).mono ?_)
          rintro e w9 ⟨rfl, hO2⟩
          have HO2 := Lib.hid hO2
          clear hO2 HE HQ UBx UCx UPx HO
          go_wp2
          refine ⟨⟨x + 1, by omega, by go_num, HO2.out⟩, ?_⟩
          simp only [intOf, Int.toNat_natCast]; first | omega | (simp; omega)
        · obtain rfl : x = wd := by omega
          have HO2 := Lib.hid (HO.out.eqv (boxTo_row _ _ _ y))
          go_wp2
          refine ⟨⟨y + 1, by omega, by go_num, HO2.out⟩, ?_⟩
          simp only [intOf, Int.toNat_natCast]; first | omega | (simp; omega)
    · obtain rfl : y = hi := by omega
      have HO2 := Lib.hid (HO.out.eqv (boxTo_all _ _ _ _))
      have UPx := Lib.hid (UP.out.next HO2.out.2.1)
      clear HO UP UB UC HG
      have dP := (row_cell UPx.out.now 0).trans (show _ = some (.slice none 0 0) from rfl)
      have fP := frozen_of_row _ Bp 0 _ _ UPx.out.now
      have cO := HO2.out.cell
      go_wp2
      exact bodyPost_ret (v := .tuple #[.agg #[.slice (some ⟨g, 0, none⟩) 24 24], .int .i64 0]) (by simp [results, Tryd.results20, go_sem, dP]) rfl (ob_out HO2.out HB2.out HP.out HP2.out)
theorem rBox_any (x y wd hi : Int) (w : World) : Calls Tryd.prog 20 #[CV x y, .int .i64 wd, .int .i64 hi] w (OutA w (boxO x y wd hi)) := by
  unfold boxO boxB
  cases hg : onG x y with
  | false => exact rbox_off x y wd hi hg w
  | true =>
    have hxy := onG_iff.1 hg
    by_cases h : 1 ≤ wd ∧ wd ≤ 48 ∧ 1 ≤ hi ∧ hi ≤ 24 - y
    · rw [decide_eq_true h, if_pos (by rfl)]
      obtain ⟨x', rfl⟩ := Int.eq_ofNat_of_zero_le hxy.1
      obtain ⟨y', rfl⟩ := Int.eq_ofNat_of_zero_le hxy.2.2.1
      obtain ⟨wd', rfl⟩ := Int.eq_ofNat_of_zero_le (show 0 ≤ wd by omega)
      obtain ⟨hi', rfl⟩ := Int.eq_ofNat_of_zero_le (show 0 ≤ hi by omega)
      exact rbox_yes x' y' wd' hi' (by omega) (by omega) (by omega) (by omega) (by omega) w
    · rw [decide_eq_false h, if_neg (by decide)]
      by_cases h1 : wd < 1
      · exact rbox_w0 x y wd hi hg h1 w
      · by_cases h2 : 48 < wd
        · exact rbox_w49 x y wd hi hg h2 w
        · by_cases h3 : hi < 1
          · exact rbox_h0 x y wd hi hg (by omega) (by omega) h3 w
          · exact rbox_h25 x y wd hi hg (by omega) (by omega) (by omega) (by omega) w
end Go.Proofs.YtipfafglbkbafaaDoor
