/- The reference's joined. -/
import Derived.Test.YtipfafglbkbafaaDoorRp
namespace Go.Proofs.YtipfafglbkbafaaDoor
open Go.RowKit Go.Shelf
set_option linter.unusedVariables false
set_option linter.unusedSimpArgs false
/-- What a table of four says of two bits. -/
def tb (t0 t1 t2 t3 : Bool) : Bool → Bool → Bool
  | false, false => t0
  | false, true => t1
  | true, false => t2
  | true, true => t3
def jn (t0 t1 t2 t3 : Bool) (f g : Ar) : Ar := fun x y => tb t0 t1 t2 t3 (f x y) (g x y)
theorem jn_as {t0 t1 t2 t3 : Bool} {f g : Ar} {x y : Nat} {r s t : Bool} (h1 : f x y = r) (h2 : g x y = s) (h : tb t0 t1 t2 t3 r s = t) : jn t0 t1 t2 t3 f g x y = t := by unfold jn; rw [h1, h2, h]
theorem put_obN {w2 W : World} {g B c : Nat} {f f' : Ar} (h : Ob w2 g B c f W) (x y : Nat) (hx : x < 48) (hy : y < 24) (e : Eqv (putA f x y) f') :
    Calls Tryd.prog 49 #[.agg #[.slice (some ⟨g, 0, none⟩) 24 c], .int .i64 (x : Int), .int .i64 (y : Int)] W (OutO w2 g B c f') :=
  put_ob h (x : Int) y hy (by rw [k48_nat, Nat.mod_eq_of_lt hx]; exact e)
set_option maxRecDepth 100000 in
set_option maxHeartbeats 1000000 in
theorem joined_no1 (al : Option Addr) (n c : Nat) (zs : List Int) (hO : Is zs none) (bl : Option Addr) (m d : Nat) (t0 t1 t2 t3 : Bool) (w : World) (h : Sl w al n zs) :
    Calls Tryd.prog 65 #[.agg #[.slice al n c], .agg #[.slice bl m d], .agg #[.bool t0, .bool t1, .bool t2, .bool t3]] w (OutA w none) := by
  obtain ⟨v1, Ba, eA1, eB1, hb1, hk1⟩ := box1 w #[.slice al n c] 25
  obtain ⟨v2, Bb, eA2, eB2, hb2, hk2⟩ := box1 v1 #[.slice bl m d] 25
  obtain ⟨v3, Bt, eA3, eB3, hb3, hk3⟩ := box1 v2 #[.bool t0, .bool t1, .bool t2, .bool t3] 76
  obtain ⟨v4, Bp, eA4, eB4, hb4, hk4⟩ := box1 v3 #[.slice none 0 0] 25
  have UB := Lib.hid (((((up_bl w).next hb1).next hb2).next hb3).next hb4)
  have UA := Lib.hid ((((up_vg (Sl.below h (Nat.le_refl _) ((up_bl w).next hb1).now) hk1).next hb2).next hb3).next hb4)
  have UBB := Lib.hid (((up_vr hk2 : Up v2 (VR Bb #[.slice bl m d] 25)).next hb3).next hb4)
  have UT := Lib.hid ((up_vr hk3 : Up v3 (VR Bt #[.bool t0, .bool t1, .bool t2, .bool t3] 76)).next hb4)
  have UP := Lib.hid (up_vr hk4 : Up v4 (VR Bp #[.slice none 0 0] 25))
  have HP := Lib.hid (show w.heap.size ≤ Bp from by rw [← eB4]; exact ((((up_bl w).next hb1).next hb2).next hb3).now.size)
  clear h hb1 hb2 hb3 hb4 hk1 hk2 hk3 hk4
  have HN := Lib.hid hO
  clear hO
  go_enter Tryd.func65, Tryd.ntmps65
  have hl0 := UA.out.now.cell
  go_wp2_with fail
  clear eA1 eB1 eA2 eB2 eA3 eB3 eA4 eB4
  clear hl0
  (with_reducible refine (rvalid_no HN.out UA.out.now.1).mono ?_)
  rintro e w5 ⟨rfl, hb⟩
  replace UB := Lib.hid (UB.out.next hb)
  replace UA := Lib.hid (UA.out.next hb)
  replace UBB := Lib.hid (UBB.out.next hb)
  replace UT := Lib.hid (UT.out.next hb)
  replace UP := Lib.hid (UP.out.next hb)
  clear hb
  have dP := (row_cell UP.out.now 0).trans (show _ = some (.slice none 0 0) from rfl)
  have fP := frozen_of_row _ Bp 0 _ _ UP.out.now
  go_wp2
  exact bodyPost_ret (v := .tuple #[.agg #[.slice none 0 0], .int .i64 50]) (by simp [results, Tryd.results65, go_sem, dP]) rfl (no_out UB.out.now HP.out)
set_option maxRecDepth 100000 in
set_option maxHeartbeats 1000000 in
theorem joined_no2 (b o c : Nat) (f : Ar) (bl : Option Addr) (m d : Nat) (ys : List Int) (hO : Is ys none) (t0 t1 t2 t3 : Bool) (w : World) (h : SA w (some ⟨b, o, none⟩) 24 f) (h' : Sl w bl m ys) :
    Calls Tryd.prog 65 #[.agg #[.slice (some ⟨b, o, none⟩) 24 c], .agg #[.slice bl m d], .agg #[.bool t0, .bool t1, .bool t2, .bool t3]] w (OutA w none) := by
  obtain ⟨v1, Ba, eA1, eB1, hb1, hk1⟩ := box1 w #[.slice (some ⟨b, o, none⟩) 24 c] 25
  obtain ⟨v2, Bb, eA2, eB2, hb2, hk2⟩ := box1 v1 #[.slice bl m d] 25
  obtain ⟨v3, Bt, eA3, eB3, hb3, hk3⟩ := box1 v2 #[.bool t0, .bool t1, .bool t2, .bool t3] 76
  obtain ⟨v4, Bp, eA4, eB4, hb4, hk4⟩ := box1 v3 #[.slice none 0 0] 25
  have UB := Lib.hid (((((up_bl w).next hb1).next hb2).next hb3).next hb4)
  have UA := Lib.hid ((((up_va (Sl.below h (Nat.le_refl _) ((up_bl w).next hb1).now) hk1).next hb2).next hb3).next hb4)
  have UBB := Lib.hid (((up_vg (Sl.below h' (Nat.le_refl _) (((up_bl w).next hb1).next hb2).now) hk2).next hb3).next hb4)
  have UT := Lib.hid ((up_vr hk3 : Up v3 (VR Bt #[.bool t0, .bool t1, .bool t2, .bool t3] 76)).next hb4)
  have UP := Lib.hid (up_vr hk4 : Up v4 (VR Bp #[.slice none 0 0] 25))
  have HP := Lib.hid (show w.heap.size ≤ Bp from by rw [← eB4]; exact ((((up_bl w).next hb1).next hb2).next hb3).now.size)
  clear h h' hb1 hb2 hb3 hb4 hk1 hk2 hk3 hk4
  have HN := Lib.hid hO
  clear hO
  go_enter Tryd.func65, Tryd.ntmps65
  have hl0 := UA.out.now.cell
  go_wp2_with fail
  clear eA1 eB1 eA2 eB2 eA3 eB3 eA4 eB4
  clear hl0
  (with_reducible refine (rvalid_yes UA.out.now.1).mono ?_)
  rintro e w5 ⟨rfl, hb⟩
  replace UB := Lib.hid (UB.out.next hb)
  replace UA := Lib.hid (UA.out.next hb)
  replace UBB := Lib.hid (UBB.out.next hb)
  replace UT := Lib.hid (UT.out.next hb)
  replace UP := Lib.hid (UP.out.next hb)
  clear hb
  have hl0 := (row_cell UBB.out.now.2 0).trans (show _ = some (.slice bl m d) from rfl)
  go_wp2_with fail
  clear hl0
  (with_reducible refine (rvalid_no HN.out UBB.out.now.1).mono ?_)
  rintro e w6 ⟨rfl, hb⟩
  replace UB := Lib.hid (UB.out.next hb)
  replace UA := Lib.hid (UA.out.next hb)
  replace UBB := Lib.hid (UBB.out.next hb)
  replace UT := Lib.hid (UT.out.next hb)
  replace UP := Lib.hid (UP.out.next hb)
  clear hb
  have dP := (row_cell UP.out.now 0).trans (show _ = some (.slice none 0 0) from rfl)
  have fP := frozen_of_row _ Bp 0 _ _ UP.out.now
  go_wp2
  exact bodyPost_ret (v := .tuple #[.agg #[.slice none 0 0], .int .i64 50]) (by simp [results, Tryd.results65, go_sem, dP]) rfl (no_out UB.out.now HP.out)
set_option maxRecDepth 100000 in
set_option maxHeartbeats 1000000 in
theorem joined_yes (b o c : Nat) (f : Ar) (b' o' c' : Nat) (f' : Ar) (t0 t1 t2 t3 : Bool) (w : World) (h : SA w (some ⟨b, o, none⟩) 24 f) (h' : SA w (some ⟨b', o', none⟩) 24 f') :
    Calls Tryd.prog 65 #[.agg #[.slice (some ⟨b, o, none⟩) 24 c], .agg #[.slice (some ⟨b', o', none⟩) 24 c'], .agg #[.bool t0, .bool t1, .bool t2, .bool t3]] w (OutA w (some (jn t0 t1 t2 t3 f f'))) := by
  obtain ⟨v1, Ba, eA1, eB1, hb1, hk1⟩ := box1 w #[.slice (some ⟨b, o, none⟩) 24 c] 25
  obtain ⟨v2, Bb, eA2, eB2, hb2, hk2⟩ := box1 v1 #[.slice (some ⟨b', o', none⟩) 24 c'] 25
  obtain ⟨v3, Bt, eA3, eB3, hb3, hk3⟩ := box1 v2 #[.bool t0, .bool t1, .bool t2, .bool t3] 76
  obtain ⟨v4, Bp, eA4, eB4, hb4, hk4⟩ := box1 v3 #[.slice none 0 0] 25
  have UB := Lib.hid (((((up_bl w).next hb1).next hb2).next hb3).next hb4)
  have UA := Lib.hid ((((up_va (Sl.below h (Nat.le_refl _) ((up_bl w).next hb1).now) hk1).next hb2).next hb3).next hb4)
  have UBB := Lib.hid (((up_va (Sl.below h' (Nat.le_refl _) (((up_bl w).next hb1).next hb2).now) hk2).next hb3).next hb4)
  have UT := Lib.hid ((up_vr hk3 : Up v3 (VR Bt #[.bool t0, .bool t1, .bool t2, .bool t3] 76)).next hb4)
  have UP := Lib.hid (up_vr hk4 : Up v4 (VR Bp #[.slice none 0 0] 25))
  have HP := Lib.hid (show w.heap.size ≤ Bp from by rw [← eB4]; exact ((((up_bl w).next hb1).next hb2).next hb3).now.size)
  clear h h' hb1 hb2 hb3 hb4 hk1 hk2 hk3 hk4
  go_enter Tryd.func65, Tryd.ntmps65
  have hl0 := UA.out.now.cell
  go_wp2_with fail
  clear eA1 eB1 eA2 eB2 eA3 eB3 eA4 eB4
  clear hl0
  (with_reducible refine (rvalid_yes UA.out.now.1).mono ?_)
  rintro e w5 ⟨rfl, hb⟩
  replace UB := Lib.hid (UB.out.next hb)
  replace UA := Lib.hid (UA.out.next hb)
  replace UBB := Lib.hid (UBB.out.next hb)
  replace UT := Lib.hid (UT.out.next hb)
  replace UP := Lib.hid (UP.out.next hb)
  clear hb
  have hl0 := UBB.out.now.cell
  go_wp2_with fail
  clear hl0
  (with_reducible refine (rvalid_yes UBB.out.now.1).mono ?_)
  rintro e w6 ⟨rfl, hb⟩
  replace UB := Lib.hid (UB.out.next hb)
  replace UA := Lib.hid (UA.out.next hb)
  replace UBB := Lib.hid (UBB.out.next hb)
  replace UT := Lib.hid (UT.out.next hb)
  replace UP := Lib.hid (UP.out.next hb)
  clear hb
  go_wp2_with fail
  (with_reducible refine (rempty_any _).mono ?_)
  rintro e w7 ⟨g, rfl, hge, hG, hb⟩
  obtain ⟨x7, B, e1, e2, hb2, hk⟩ := box1 w7 #[.slice (some ⟨g, 0, none⟩) 24 24] 25
  have HO := Lib.hid (ob_start (c := 24) hG.r hge hb e2 hb2 hk : Ob w6 g B 24 nul x7)
  have HB2 := Lib.hid UB.out.now
  have HP2 := Lib.hid (Array.getElem?_eq_some_iff.1 UP.out.now).1
  clear hge hG hb hb2 hk
  go_wp2
  clear e1 e2
  go_loopw [9] (fun yv wr => ∃ y : Nat, y ≤ 24 ∧ yv = .int .i64 y ∧ Ob w6 g B 24 (upTo (jn t0 t1 t2 t3 f f') y 0) wr) (fun yv _ => 24 - (intOf yv).toNat)
  case atStart => exact ⟨0, Nat.zero_le _, rfl, HO.out.eqv (upTo_0 _)⟩
  case round =>
    obtain ⟨y, hy, rfl, hO⟩ := hrel
    clear HO
    have HO := Lib.hid hO
    clear hO
    have y0 : (0 : Int) ≤ y := by omega
    by_cases hlt : y < 24
    · have y1 : (y : Int) < 24 := by omega
      go_wp2
      go_loopw [10] (fun xv wr => ∃ x : Nat, x ≤ 48 ∧ xv = .int .i64 x ∧ Ob w6 g B 24 (upTo (jn t0 t1 t2 t3 f f') y x) wr) (fun xv _ => 48 - (intOf xv).toNat)
      case atStart => exact ⟨0, Nat.zero_le _, rfl, HO.out⟩
      case round =>
        obtain ⟨x, hx, rfl, hO⟩ := hrel
        clear HO
        have HO := Lib.hid hO
        clear hO
        have x0 : (0 : Int) ≤ x := by omega
        by_cases hxl : x < 48
        · have x1 : (x : Int) < 48 := by omega
          obtain ⟨r, hr⟩ : ∃ r, f x y = r := ⟨_, rfl⟩
          obtain ⟨s, hs⟩ : ∃ s, f' x y = s := ⟨_, rfl⟩
          have HF := Lib.hid hr
          have HG := Lib.hid hs
          clear hr hs
          have UBx := Lib.hid (UB.out.next HO.out.2.1)
          have UAx := Lib.hid (UA.out.next HO.out.2.1)
          have UBBx := Lib.hid (UBB.out.next HO.out.2.1)
          have UTx := Lib.hid (UT.out.next HO.out.2.1)
          have UPx := Lib.hid (UP.out.next HO.out.2.1)
          rcases r with _ | _ <;> rcases s with _ | _
          · obtain ⟨tt, htt⟩ : ∃ t, t0 = t := ⟨_, rfl⟩
            have HJ := Lib.hid (jn_as (t0 := t0) (t1 := t1) (t2 := t2) (t3 := t3) HF.out HG.out (show _ = tt from htt))
            subst htt
            have hl0 := UAx.out.now.cell
            go_wp2_with fail
            clear hl0
            (with_reducible refine ((rhas_any b o c f x y hxl hlt _ UAx.out.now.1).mono (OutV.as (congrArg Value.bool HF.out))).mono ?_)
            rintro e w8 ⟨rfl, hb⟩
            replace UBx := Lib.hid (UBx.out.next hb)
            replace UAx := Lib.hid (UAx.out.next hb)
            replace UBBx := Lib.hid (UBBx.out.next hb)
            replace UTx := Lib.hid (UTx.out.next hb)
            replace UPx := Lib.hid (UPx.out.next hb)
            replace HO := Lib.hid (HO.out.next hb)
            clear hb
            have hl0 := UBBx.out.now.cell
            go_wp2_with fail
            clear hl0
            (with_reducible refine ((rhas_any b' o' c' f' x y hxl hlt _ UBBx.out.now.1).mono (OutV.as (congrArg Value.bool HG.out))).mono ?_)
            rintro e w9 ⟨rfl, hb⟩
            replace UBx := Lib.hid (UBx.out.next hb)
            replace UAx := Lib.hid (UAx.out.next hb)
            replace UBBx := Lib.hid (UBBx.out.next hb)
            replace UTx := Lib.hid (UTx.out.next hb)
            replace UPx := Lib.hid (UPx.out.next hb)
            replace HO := Lib.hid (HO.out.next hb)
            clear hb
            have ht := (row_cell UTx.out.now 0).trans (show _ = some (.bool t0) from rfl)
            rcases t0 with _ | _
            · have HO2 := Lib.hid (HO.out.eqv (upTo_no HJ.out))
              clear UBx UAx UBBx UTx UPx HO HF HG HJ
              go_wp2
              refine ⟨⟨x + 1, by omega, by go_num, HO2.out⟩, ?_⟩
              simp only [intOf, Int.toNat_natCast]; first | omega | (simp; omega)
            · have hl0 := HO.out.cell
              go_wp2_with fail
              clear hl0
              clear ht
              (with_reducible refine (put_obN HO.out x y hxl hlt (upTo_yes HJ.out)).mono ?_)
              rintro e w9 ⟨rfl, hO2⟩
              have HO2 := Lib.hid hO2
              clear hO2 UBx UAx UBBx UTx UPx HO HF HG HJ
              go_wp2
              refine ⟨⟨x + 1, by omega, by go_num, HO2.out⟩, ?_⟩
              simp only [intOf, Int.toNat_natCast]; first | omega | (simp; omega)
          · obtain ⟨tt, htt⟩ : ∃ t, t1 = t := ⟨_, rfl⟩
            have HJ := Lib.hid (jn_as (t0 := t0) (t1 := t1) (t2 := t2) (t3 := t3) HF.out HG.out (show _ = tt from htt))
            subst htt
            have hl0 := UAx.out.now.cell
            go_wp2_with fail
            clear hl0
            (with_reducible refine ((rhas_any b o c f x y hxl hlt _ UAx.out.now.1).mono (OutV.as (congrArg Value.bool HF.out))).mono ?_)
            rintro e w8 ⟨rfl, hb⟩
            replace UBx := Lib.hid (UBx.out.next hb)
            replace UAx := Lib.hid (UAx.out.next hb)
            replace UBBx := Lib.hid (UBBx.out.next hb)
            replace UTx := Lib.hid (UTx.out.next hb)
            replace UPx := Lib.hid (UPx.out.next hb)
            replace HO := Lib.hid (HO.out.next hb)
            clear hb
            have hl0 := UBBx.out.now.cell
            go_wp2_with fail
            clear hl0
            (with_reducible refine ((rhas_any b' o' c' f' x y hxl hlt _ UBBx.out.now.1).mono (OutV.as (congrArg Value.bool HG.out))).mono ?_)
            rintro e w9 ⟨rfl, hb⟩
            replace UBx := Lib.hid (UBx.out.next hb)
            replace UAx := Lib.hid (UAx.out.next hb)
            replace UBBx := Lib.hid (UBBx.out.next hb)
            replace UTx := Lib.hid (UTx.out.next hb)
            replace UPx := Lib.hid (UPx.out.next hb)
            replace HO := Lib.hid (HO.out.next hb)
            clear hb
            have ht := (row_cell UTx.out.now 1).trans (show _ = some (.bool t1) from rfl)
            rcases t1 with _ | _
            · have HO2 := Lib.hid (HO.out.eqv (upTo_no HJ.out))
              clear UBx UAx UBBx UTx UPx HO HF HG HJ
              go_wp2
              refine ⟨⟨x + 1, by omega, by go_num, HO2.out⟩, ?_⟩
              simp only [intOf, Int.toNat_natCast]; first | omega | (simp; omega)
            · have hl0 := HO.out.cell
              go_wp2_with fail
              clear hl0
              clear ht
              (with_reducible refine (put_obN HO.out x y hxl hlt (upTo_yes HJ.out)).mono ?_)
              rintro e w9 ⟨rfl, hO2⟩
              have HO2 := Lib.hid hO2
              clear hO2 UBx UAx UBBx UTx UPx HO HF HG HJ
              go_wp2
              refine ⟨⟨x + 1, by omega, by go_num, HO2.out⟩, ?_⟩
              simp only [intOf, Int.toNat_natCast]; first | omega | (simp; omega)
          · obtain ⟨tt, htt⟩ : ∃ t, t2 = t := ⟨_, rfl⟩
            have HJ := Lib.hid (jn_as (t0 := t0) (t1 := t1) (t2 := t2) (t3 := t3) HF.out HG.out (show _ = tt from htt))
            subst htt
            have hl0 := UAx.out.now.cell
            go_wp2_with fail
            clear hl0
            (with_reducible refine ((rhas_any b o c f x y hxl hlt _ UAx.out.now.1).mono (OutV.as (congrArg Value.bool HF.out))).mono ?_)
            rintro e w8 ⟨rfl, hb⟩
            replace UBx := Lib.hid (UBx.out.next hb)
            replace UAx := Lib.hid (UAx.out.next hb)
            replace UBBx := Lib.hid (UBBx.out.next hb)
            replace UTx := Lib.hid (UTx.out.next hb)
            replace UPx := Lib.hid (UPx.out.next hb)
            replace HO := Lib.hid (HO.out.next hb)
            clear hb
            have hl0 := UBBx.out.now.cell
            go_wp2_with fail
            clear hl0
            (with_reducible refine ((rhas_any b' o' c' f' x y hxl hlt _ UBBx.out.now.1).mono (OutV.as (congrArg Value.bool HG.out))).mono ?_)
            rintro e w9 ⟨rfl, hb⟩
            replace UBx := Lib.hid (UBx.out.next hb)
            replace UAx := Lib.hid (UAx.out.next hb)
            replace UBBx := Lib.hid (UBBx.out.next hb)
            replace UTx := Lib.hid (UTx.out.next hb)
            replace UPx := Lib.hid (UPx.out.next hb)
            replace HO := Lib.hid (HO.out.next hb)
            clear hb
            have ht := (row_cell UTx.out.now 2).trans (show _ = some (.bool t2) from rfl)
            rcases t2 with _ | _
            · have HO2 := Lib.hid (HO.out.eqv (upTo_no HJ.out))
              clear UBx UAx UBBx UTx UPx HO HF HG HJ
              go_wp2
              refine ⟨⟨x + 1, by omega, by go_num, HO2.out⟩, ?_⟩
              simp only [intOf, Int.toNat_natCast]; first | omega | (simp; omega)
            · have hl0 := HO.out.cell
              go_wp2_with fail
              clear hl0
              clear ht
              (with_reducible refine (put_obN HO.out x y hxl hlt (upTo_yes HJ.out)).mono ?_)
              rintro e w9 ⟨rfl, hO2⟩
              have HO2 := Lib.hid hO2
              clear hO2 UBx UAx UBBx UTx UPx HO HF HG HJ
              go_wp2
              refine ⟨⟨x + 1, by omega, by go_num, HO2.out⟩, ?_⟩
              simp only [intOf, Int.toNat_natCast]; first | omega | (simp; omega)
          · obtain ⟨tt, htt⟩ : ∃ t, t3 = t := ⟨_, rfl⟩
            have HJ := Lib.hid (jn_as (t0 := t0) (t1 := t1) (t2 := t2) (t3 := t3) HF.out HG.out (show _ = tt from htt))
            subst htt
            have hl0 := UAx.out.now.cell
            go_wp2_with fail
            clear hl0
            (with_reducible refine ((rhas_any b o c f x y hxl hlt _ UAx.out.now.1).mono (OutV.as (congrArg Value.bool HF.out))).mono ?_)
            rintro e w8 ⟨rfl, hb⟩
            replace UBx := Lib.hid (UBx.out.next hb)
            replace UAx := Lib.hid (UAx.out.next hb)
            replace UBBx := Lib.hid (UBBx.out.next hb)
            replace UTx := Lib.hid (UTx.out.next hb)
            replace UPx := Lib.hid (UPx.out.next hb)
            replace HO := Lib.hid (HO.out.next hb)
            clear hb
            have hl0 := UBBx.out.now.cell
            go_wp2_with fail
            clear hl0
            (with_reducible refine ((rhas_any b' o' c' f' x y hxl hlt _ UBBx.out.now.1).mono (OutV.as (congrArg Value.bool HG.out))).mono ?_)
            rintro e w9 ⟨rfl, hb⟩
            replace UBx := Lib.hid (UBx.out.next hb)
            replace UAx := Lib.hid (UAx.out.next hb)
            replace UBBx := Lib.hid (UBBx.out.next hb)
            replace UTx := Lib.hid (UTx.out.next hb)
            replace UPx := Lib.hid (UPx.out.next hb)
            replace HO := Lib.hid (HO.out.next hb)
            clear hb
            have ht := (row_cell UTx.out.now 3).trans (show _ = some (.bool t3) from rfl)
            rcases t3 with _ | _
            · have HO2 := Lib.hid (HO.out.eqv (upTo_no HJ.out))
              clear UBx UAx UBBx UTx UPx HO HF HG HJ
              go_wp2
              refine ⟨⟨x + 1, by omega, by go_num, HO2.out⟩, ?_⟩
              simp only [intOf, Int.toNat_natCast]; first | omega | (simp; omega)
            · have hl0 := HO.out.cell
              go_wp2_with fail
              clear hl0
              clear ht
              (with_reducible refine (put_obN HO.out x y hxl hlt (upTo_yes HJ.out)).mono ?_)
              rintro e w9 ⟨rfl, hO2⟩
              have HO2 := Lib.hid hO2
              clear hO2 UBx UAx UBBx UTx UPx HO HF HG HJ
              go_wp2
              refine ⟨⟨x + 1, by omega, by go_num, HO2.out⟩, ?_⟩
              simp only [intOf, Int.toNat_natCast]; first | omega | (simp; omega)
        · obtain rfl : x = 48 := by omega
          have HO2 := Lib.hid (HO.out.eqv (upTo_row _ y))
          go_wp2
          refine ⟨⟨y + 1, by omega, by go_num, HO2.out⟩, ?_⟩
          simp only [intOf, Int.toNat_natCast]; first | omega | (simp; omega)
    · obtain rfl : y = 24 := by omega
      have HO2 := Lib.hid (HO.out.eqv (upTo_all _))
      have UBx := Lib.hid (UB.out.next HO.out.2.1)
      have UAx := Lib.hid (UA.out.next HO.out.2.1)
      have UBBx := Lib.hid (UBB.out.next HO.out.2.1)
      have UTx := Lib.hid (UT.out.next HO.out.2.1)
      have UPx := Lib.hid (UP.out.next HO.out.2.1)
      have dP := (row_cell UPx.out.now 0).trans (show _ = some (.slice none 0 0) from rfl)
      have fP := frozen_of_row _ Bp 0 _ _ UPx.out.now
      have cO := HO2.out.cell
      go_wp2
      exact bodyPost_ret (v := .tuple #[.agg #[.slice (some ⟨g, 0, none⟩) 24 24], .int .i64 0]) (by simp [results, Tryd.results65, go_sem, dP]) rfl (ob_out HO2.out HB2.out HP.out HP2.out)
end Go.Proofs.YtipfafglbkbafaaDoor
