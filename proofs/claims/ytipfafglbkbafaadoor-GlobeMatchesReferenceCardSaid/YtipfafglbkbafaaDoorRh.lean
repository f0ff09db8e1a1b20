/- The reference's Has, Same, Near. -/
import Derived.Test.YtipfafglbkbafaaDoorRa
namespace Go.Proofs.YtipfafglbkbafaaDoor
open Go.RowKit Go.Shelf
set_option linter.unusedVariables false
set_option linter.unusedSimpArgs false
theorem rvalid_no {al : Option Addr} {n c : Nat} {zs : List Int} (hO : Is zs none) {w : World} (h : Sl w al n zs) : Calls Tryd.prog 23 #[.agg #[.slice al n c]] w (OutV w (.bool false)) := rvalid_any al n c zs none hO w h
theorem rvalid_yes {b o c : Nat} {f : Ar} {w : World} (h : SA w (some ⟨b, o, none⟩) 24 f) : Calls Tryd.prog 23 #[.agg #[.slice (some ⟨b, o, none⟩) 24 c]] w (OutV w (.bool true)) := rvalid_any _ _ c _ (some f) rfl w h
theorem rvc {x y : Int} {r : Bool} (hg : onG x y = r) {w : World} : Calls Tryd.prog 16 #[CV x y] w (OutV w (.bool r)) := (rvalidCell_any x y w).mono (OutV.as (by rw [hg]))
theorem near_ref (a b c d : Nat) (ha : a < 48) (hb : b < 24) (hc : c < 48) (hd : d < 24) : ((near a b c d : Nat) : Int) = max (min (max ((a : Int) - c) (c - a)) (48 - max ((a : Int) - c) (c - a))) (max ((b : Int) - d) (d - b)) := by
  unfold near dx dy
  omega
set_option maxRecDepth 100000 in
set_option maxHeartbeats 1000000 in
theorem rhas_none (al : Option Addr) (n c : Nat) (zs : List Int) (hO : Is zs none) (x y : Int) (w : World) (h : Sl w al n zs) :
    Calls Tryd.prog 32 #[.agg #[.slice al n c], CV x y] w (OutV w (.bool false)) := by
  obtain ⟨v1, Ba, eA1, eB1, hb1, hk1⟩ := box1 w #[.slice al n c] 25
  obtain ⟨v2, Bc, eA2, eB2, hb2, hk2⟩ := box1 v1 #[.int .i64 x, .int .i64 y] 27
  have UB := Lib.hid (((up_bl w).next hb1).next hb2)
  have UA := Lib.hid ((up_vg (Sl.below h (Nat.le_refl _) hb1) hk1).next hb2)
  clear h hb1 hb2 hk1 hk2
  have HO := Lib.hid hO
  clear hO
  go_enter Tryd.func32, Tryd.ntmps32
  have hl0 := UA.out.now.cell
  go_wp2_with fail
  clear eA1 eB1 eA2 eB2
  clear hl0
  (with_reducible refine (rvalid_no HO.out UA.out.now.1).mono ?_)
  rintro e w3 ⟨rfl, hb⟩
  replace UB := Lib.hid (UB.out.next hb)
  replace UA := Lib.hid (UA.out.next hb)
  clear hb
  go_wp2
  go_ret
  exact ⟨rfl, UB.out.now⟩
set_option maxRecDepth 100000 in
set_option maxHeartbeats 1000000 in
theorem rhas_off (b o c : Nat) (f : Ar) (x y : Int) (hg : onG x y = false) (w : World) (h : SA w (some ⟨b, o, none⟩) 24 f) :
    Calls Tryd.prog 32 #[.agg #[.slice (some ⟨b, o, none⟩) 24 c], CV x y] w (OutV w (.bool false)) := by
  obtain ⟨v1, Ba, eA1, eB1, hb1, hk1⟩ := box1 w #[.slice (some ⟨b, o, none⟩) 24 c] 25
  obtain ⟨v2, Bc, eA2, eB2, hb2, hk2⟩ := box1 v1 #[.int .i64 x, .int .i64 y] 27
  have UB := Lib.hid (((up_bl w).next hb1).next hb2)
  have UA := Lib.hid ((up_va (Sl.below h (Nat.le_refl _) hb1) hk1).next hb2)
  have UC := Lib.hid (up_vr hk2 : Up v2 (VR Bc #[.int .i64 x, .int .i64 y] 27))
  clear h hb1 hb2 hk1 hk2
  have HG := Lib.hid hg
  clear hg
  go_enter Tryd.func32, Tryd.ntmps32
  have hl0 := UA.out.now.cell
  go_wp2_with fail
  clear eA1 eB1 eA2 eB2
  clear hl0
  (with_reducible refine (rvalid_yes UA.out.now.1).mono ?_)
  rintro e w3 ⟨rfl, hb⟩
  replace UB := Lib.hid (UB.out.next hb)
  replace UA := Lib.hid (UA.out.next hb)
  replace UC := Lib.hid (UC.out.next hb)
  clear hb
  have hl0 := ra_c0 UC.out.now
  have hl1 := ra_c1 UC.out.now
  go_wp2_with fail
  clear hl0 hl1
  (with_reducible refine (rvc HG.out).mono ?_)
  rintro e w4 ⟨rfl, hb⟩
  replace UB := Lib.hid (UB.out.next hb)
  replace UA := Lib.hid (UA.out.next hb)
  replace UC := Lib.hid (UC.out.next hb)
  clear hb
  go_wp2
  go_ret
  exact ⟨rfl, UB.out.now⟩
set_option maxRecDepth 100000 in
set_option maxHeartbeats 1000000 in
theorem rhas_on (b o c : Nat) (f : Ar) (x y : Nat) (hx : x < 48) (hy : y < 24) (hg : onG x y = true) (w : World) (h : SA w (some ⟨b, o, none⟩) 24 f) :
    Calls Tryd.prog 32 #[.agg #[.slice (some ⟨b, o, none⟩) 24 c], CV x y] w (OutV w (.bool (f x y))) := by
  obtain ⟨v1, Ba, eA1, eB1, hb1, hk1⟩ := box1 w #[.slice (some ⟨b, o, none⟩) 24 c] 25
  obtain ⟨v2, Bc, eA2, eB2, hb2, hk2⟩ := box1 v1 #[.int .i64 (x : Int), .int .i64 (y : Int)] 27
  have UB := Lib.hid (((up_bl w).next hb1).next hb2)
  have UA := Lib.hid ((up_va (Sl.below h (Nat.le_refl _) hb1) hk1).next hb2)
  have UC := Lib.hid (up_vr hk2 : Up v2 (VR Bc #[.int .i64 (x : Int), .int .i64 (y : Int)] 27))
  clear h hb1 hb2 hk1 hk2
  have HG := Lib.hid hg
  have HX := Lib.hid (show _ ∧ _ from ⟨hx, hy⟩)
  clear hg hx hy
  go_enter Tryd.func32, Tryd.ntmps32
  have hl0 := UA.out.now.cell
  go_wp2_with fail
  clear eA1 eB1 eA2 eB2
  clear hl0
  (with_reducible refine (rvalid_yes UA.out.now.1).mono ?_)
  rintro e w3 ⟨rfl, hb⟩
  replace UB := Lib.hid (UB.out.next hb)
  replace UA := Lib.hid (UA.out.next hb)
  replace UC := Lib.hid (UC.out.next hb)
  clear hb
  have hl0 := ra_c0 UC.out.now
  have hl1 := ra_c1 UC.out.now
  go_wp2_with fail
  clear hl0 hl1
  (with_reducible refine (rvc HG.out).mono ?_)
  rintro e w4 ⟨rfl, hb⟩
  replace UB := Lib.hid (UB.out.next hb)
  replace UA := Lib.hid (UA.out.next hb)
  replace UC := Lib.hid (UC.out.next hb)
  clear hb
  have hl0 := UA.out.now.cell
  have hl1 := ra_c0 UC.out.now
  have hl2 := ra_c1 UC.out.now
  go_wp2_with fail
  clear hl0 hl1 hl2
  (with_reducible refine (rhas_any b o c f x y HX.out.1 HX.out.2 _ UA.out.now.1).mono ?_)
  rintro e w5 ⟨rfl, hb⟩
  replace UB := Lib.hid (UB.out.next hb)
  replace UA := Lib.hid (UA.out.next hb)
  replace UC := Lib.hid (UC.out.next hb)
  clear hb
  go_wp2
  go_ret
  exact ⟨rfl, UB.out.now⟩
theorem rHas_any (al : Option Addr) (n c : Nat) (zs : List Int) (o : Option Ar) (hO : Is zs o) (x y : Int) (w : World) (h : Sl w al n zs) :
    Calls Tryd.prog 32 #[.agg #[.slice al n c], CV x y] w (OutV w (.bool (hasO o x y))) := by
  cases o with
  | none => exact rhas_none al n c zs hO x y w h
  | some f =>
    obtain rfl : zs = rz f := hO
    obtain ⟨rfl, b, o, rfl, hb, hc⟩ := SA.parts h
    cases hg : onG x y with
    | false =>
      have e : hasO (some f) x y = false := by simp [hasO, hg]
      rw [e]
      exact rhas_off b o c f x y hg w h
    | true =>
      have hxy := onG_iff.1 hg
      obtain ⟨x', rfl⟩ := Int.eq_ofNat_of_zero_le hxy.1
      obtain ⟨y', rfl⟩ := Int.eq_ofNat_of_zero_le hxy.2.2.1
      have e : hasO (some f) (x' : Int) (y' : Int) = f x' y' := by unfold hasO; rw [hg]; rfl
      rw [e]
      exact rhas_on b o c f x' y' (by omega) (by omega) hg w h
set_option maxRecDepth 100000 in
set_option maxHeartbeats 1000000 in
theorem rsame_len (al : Option Addr) (n c : Nat) (bl : Option Addr) (m d : Nat) (w : World) (h1 : n ≤ 140737488355328) (h2 : m ≤ 140737488355328) (hne : n ≠ m) :
    Calls Tryd.prog 21 #[.agg #[.slice al n c], .agg #[.slice bl m d]] w (OutV w (.bool false)) := by
  obtain ⟨v1, Ba, eA1, eB1, hb1, hk1⟩ := box1 w #[.slice al n c] 25
  obtain ⟨v2, Bb, eA2, eB2, hb2, hk2⟩ := box1 v1 #[.slice bl m d] 25
  have UB := Lib.hid (((up_bl w).next hb1).next hb2)
  have h1 := (row_cell hk1 0).trans (show _ = some (.slice al n c) from rfl)
  have k1 := (hb2.cell (p := ⟨Ba, 0, none⟩) (Array.getElem?_eq_some_iff.1 hk1).1).trans h1
  have k2 := (row_cell hk2 0).trans (show _ = some (.slice bl m d) from rfl)
  have hd : ((n : Int) == (m : Int)) = false := by rw [beq_eq_false_iff_ne]; omega
  clear hb1 hb2 hk1 hk2 h1
  go_enter Tryd.func21, Tryd.ntmps21
  go_wp2
  clear eA1 eB1 eA2 eB2
  go_ret
  exact ⟨rfl, UB.out.now⟩
set_option maxRecDepth 100000 in
set_option maxHeartbeats 1000000 in
theorem rsame_diff (al : Option Addr) (n c : Nat) (bl : Option Addr) (d : Nat) (zs ys : List Int) (w : World) (h : Sl w al n zs) (h' : Sl w bl n ys) (j : Nat) (hj : j < n) (hne : zs.getD j 0 ≠ ys.getD j 0) (hok : ∀ i, i < j → zs.getD i 0 = ys.getD i 0) :
    Calls Tryd.prog 21 #[.agg #[.slice al n c], .agg #[.slice bl n d]] w (OutV w (.bool false)) := by
  have hn := h.2.1
  obtain ⟨W, hW, hb, hz, h0, h1⟩ := box_ab w al n c bl n d
  have HB := Lib.hid hb
  obtain ⟨b, o, rfl, hba, hc⟩ := (h.below (Nat.le_refl _) hb).at (by omega)
  obtain ⟨b', o', rfl, hbb, hc'⟩ := (h'.below (Nat.le_refl _) hb).at (by omega)
  have H := Lib.hid (And.intro hc hc')
  have HN := Lib.hid hne
  have HO := Lib.hid hok
  clear h h' hb hz hc hc' hba hbb hne hok
  go_enter Tryd.func21, Tryd.ntmps21
  go_wp2
  clear hW
  go_loopw [5] (fun iv wr => ∃ i k : Nat, i ≤ j ∧ iv = .int .i64 i ∧ wr = W.drewN k) (fun iv _ => n - (intOf iv).toNat)
  case atStart => exact ⟨0, 0, by omega, rfl, rfl⟩
  case round =>
    obtain ⟨i, k, hi, rfl, rfl⟩ := hrel
    have i0 : (0 : Int) ≤ i := by omega
    have i1 : (i : Int) < n := by omega
    have hd : decide ((i : Int) < n) = true := by simp; omega
    have c0 := H.out.1 i (by omega)
    have c1 := H.out.2 i (by omega)
    by_cases hlt : i < j
    · rw [← HO.out i hlt] at c1
      generalize zs.getD i 0 = z at c0 c1
      go_wp2
      go_quiet (fail)
      go_wp2
      exact ⟨⟨i + 1, k + nq, by omega, by go_num, rfl⟩, by simp [intOf]; omega⟩
    · obtain rfl : i = j := by omega
      have hz : ((zs.getD i 0) == (ys.getD i 0)) = false := by rw [beq_eq_false_iff_ne]; exact HN.out
      clear HN HO
      generalize zs.getD i 0 = z at c0 hz
      generalize ys.getD i 0 = z' at c1 hz
      go_wp2
      go_quiet (fail)
      go_wp2
      go_ret
      exact ⟨rfl, below_dn (below_dn HB.out)⟩
theorem rSame_any (al : Option Addr) (n c : Nat) (zs : List Int) (bl : Option Addr) (m d : Nat) (ys : List Int) (w : World) (h : Sl w al n zs) (h' : Sl w bl m ys) :
    Calls Tryd.prog 21 #[.agg #[.slice al n c], .agg #[.slice bl m d]] w (OutV w (.bool (decide (zs = ys)))) := by
  by_cases hl : n = m
  · subst hl
    by_cases e : zs = ys
    · subst e
      rw [decide_eq_true rfl]
      exact rsame_yes al n c bl d zs w h h'
    · rw [decide_eq_false e]
      obtain ⟨j, j1, j2, j3⟩ := first_diff zs ys (h.1.symm.trans h'.1) e
      exact rsame_diff al n c bl d zs ys w h h' j (by rw [h.1]; exact j1) j2 j3
  · rw [decide_eq_false (fun e => hl (by rw [h.1, h'.1, e]))]
    exact rsame_len al n c bl m d w h.2.1 h'.2.1 hl
set_option maxRecDepth 100000 in
set_option maxHeartbeats 1000000 in
theorem rnear_1 (a b c d : Int) (hg : onG a b = false) (w : World) :
    Calls Tryd.prog 18 #[CV a b, CV c d] w (OutV w (.int .i64 (-1))) := by
  obtain ⟨v1, Ba, eA1, eB1, hb1, hk1⟩ := box1 w #[.int .i64 a, .int .i64 b] 27
  obtain ⟨v2, Bc, eA2, eB2, hb2, hk2⟩ := box1 v1 #[.int .i64 c, .int .i64 d] 27
  have UB := Lib.hid (((up_bl w).next hb1).next hb2)
  have UA := Lib.hid ((up_vr hk1 : Up v1 (VR Ba #[.int .i64 a, .int .i64 b] 27)).next hb2)
  have UC := Lib.hid (up_vr hk2 : Up v2 (VR Bc #[.int .i64 c, .int .i64 d] 27))
  clear hb1 hb2 hk1 hk2
  have HG := Lib.hid hg
  clear hg
  go_enter Tryd.func18, Tryd.ntmps18
  have hl0 := ra_c0 UA.out.now
  have hl1 := ra_c1 UA.out.now
  go_wp2_with fail
  clear eA1 eB1 eA2 eB2
  clear hl0 hl1
  (with_reducible refine (rvc HG.out).mono ?_)
  rintro e w3 ⟨rfl, hb⟩
  replace UB := Lib.hid (UB.out.next hb)
  replace UA := Lib.hid (UA.out.next hb)
  replace UC := Lib.hid (UC.out.next hb)
  clear hb
  go_wp2
  go_ret
  exact ⟨rfl, UB.out.now⟩
set_option maxRecDepth 100000 in
set_option maxHeartbeats 1000000 in
theorem rnear_2 (a b c d : Int) (hg : onG a b = true) (hh : onG c d = false) (w : World) :
    Calls Tryd.prog 18 #[CV a b, CV c d] w (OutV w (.int .i64 (-1))) := by
  obtain ⟨v1, Ba, eA1, eB1, hb1, hk1⟩ := box1 w #[.int .i64 a, .int .i64 b] 27
  obtain ⟨v2, Bc, eA2, eB2, hb2, hk2⟩ := box1 v1 #[.int .i64 c, .int .i64 d] 27
  have UB := Lib.hid (((up_bl w).next hb1).next hb2)
  have UA := Lib.hid ((up_vr hk1 : Up v1 (VR Ba #[.int .i64 a, .int .i64 b] 27)).next hb2)
  have UC := Lib.hid (up_vr hk2 : Up v2 (VR Bc #[.int .i64 c, .int .i64 d] 27))
  clear hb1 hb2 hk1 hk2
  have HG := Lib.hid hg
  have HH := Lib.hid hh
  clear hg hh
  go_enter Tryd.func18, Tryd.ntmps18
  have hl0 := ra_c0 UA.out.now
  have hl1 := ra_c1 UA.out.now
  go_wp2_with fail
  clear eA1 eB1 eA2 eB2
  clear hl0 hl1
  (with_reducible refine (rvc HG.out).mono ?_)
  rintro e w3 ⟨rfl, hb⟩
  replace UB := Lib.hid (UB.out.next hb)
  replace UA := Lib.hid (UA.out.next hb)
  replace UC := Lib.hid (UC.out.next hb)
  clear hb
  have hl0 := ra_c0 UC.out.now
  have hl1 := ra_c1 UC.out.now
  go_wp2_with fail
  clear hl0 hl1
  (with_reducible refine (rvc HH.out).mono ?_)
  rintro e w4 ⟨rfl, hb⟩
  replace UB := Lib.hid (UB.out.next hb)
  replace UA := Lib.hid (UA.out.next hb)
  replace UC := Lib.hid (UC.out.next hb)
  clear hb
  go_wp2
  go_ret
  exact ⟨rfl, UB.out.now⟩
set_option maxRecDepth 100000 in
set_option maxHeartbeats 1000000 in
theorem rnear_3 (a b c d : Nat) (ha : a < 48) (hb : b < 24) (hc : c < 48) (hd : d < 24) (w : World) :
    Calls Tryd.prog 18 #[CV a b, CV c d] w (OutV w (.int .i64 (near a b c d : Nat))) := by
  obtain ⟨v1, Ba, eA1, eB1, hb1, hk1⟩ := box1 w #[.int .i64 (a : Int), .int .i64 (b : Int)] 27
  obtain ⟨v2, Bc, eA2, eB2, hb2, hk2⟩ := box1 v1 #[.int .i64 (c : Int), .int .i64 (d : Int)] 27
  have UB := Lib.hid (((up_bl w).next hb1).next hb2)
  have UA := Lib.hid ((up_vr hk1 : Up v1 (VR Ba #[.int .i64 (a : Int), .int .i64 (b : Int)] 27)).next hb2)
  have UC := Lib.hid (up_vr hk2 : Up v2 (VR Bc #[.int .i64 (c : Int), .int .i64 (d : Int)] 27))
  clear hb1 hb2 hk1 hk2
  have HG := Lib.hid (show onG a b = true from onG_iff.2 ⟨by omega, by omega, by omega, by omega⟩)
  have HH := Lib.hid (show onG c d = true from onG_iff.2 ⟨by omega, by omega, by omega, by omega⟩)
  have HN := Lib.hid (near_ref a b c d ha hb hc hd)
  go_enter Tryd.func18, Tryd.ntmps18
  have hl0 := ra_c0 UA.out.now
  have hl1 := ra_c1 UA.out.now
  go_wp2_with fail
  clear eA1 eB1 eA2 eB2
  clear hl0 hl1
  (with_reducible refine (rvc HG.out).mono ?_)
  rintro e w3 ⟨rfl, hb⟩
  replace UB := Lib.hid (UB.out.next hb)
  replace UA := Lib.hid (UA.out.next hb)
  replace UC := Lib.hid (UC.out.next hb)
  clear hb
  have hl0 := ra_c0 UC.out.now
  have hl1 := ra_c1 UC.out.now
  go_wp2_with fail
  clear hl0 hl1
  (with_reducible refine (rvc HH.out).mono ?_)
  rintro e w4 ⟨rfl, hb⟩
  replace UB := Lib.hid (UB.out.next hb)
  replace UA := Lib.hid (UA.out.next hb)
  replace UC := Lib.hid (UC.out.next hb)
  clear hb
  have hl0 := ra_c0 UA.out.now
  have hl1 := ra_c1 UA.out.now
  have hl2 := ra_c0 UC.out.now
  have hl3 := ra_c1 UC.out.now
  clear UA UC
  go_wp2
  all_goals
    go_ret
    exact ⟨ret_int' (by have := HN.out; omega), UB.out.now⟩
/-- What Near answers. -/
def nearZ (a b c d : Int) : Int := if onG a b = true ∧ onG c d = true then (near a.toNat b.toNat c.toNat d.toNat : Int) else -1
theorem near_Z {P : Nat} (w : World) (a b c d : Int) (h1 : ∀ w, (onG a b = false ∨ onG c d = false) → Calls Tryd.prog P #[CV a b, CV c d] w (OutV w (.int .i64 (-1))))
    (h2 : ∀ (a' b' c' d' : Nat) w, a = a' → b = b' → c = c' → d = d' → a' < 48 → b' < 24 → c' < 48 → d' < 24 → Calls Tryd.prog P #[CV a' b', CV c' d'] w (OutV w (.int .i64 (near a' b' c' d' : Nat)))) :
    Calls Tryd.prog P #[CV a b, CV c d] w (OutV w (.int .i64 (nearZ a b c d))) := by
  unfold nearZ
  cases hg : onG a b with
  | false => rw [if_neg (by simp)]; exact h1 w (.inl hg)
  | true =>
    cases hh : onG c d with
    | false => rw [if_neg (by simp)]; exact h1 w (.inr hh)
    | true =>
      rw [if_pos ⟨rfl, rfl⟩]
      have h3 := onG_iff.1 hg
      have h4 := onG_iff.1 hh
      obtain ⟨a', rfl⟩ := Int.eq_ofNat_of_zero_le h3.1
      obtain ⟨b', rfl⟩ := Int.eq_ofNat_of_zero_le h3.2.2.1
      obtain ⟨c', rfl⟩ := Int.eq_ofNat_of_zero_le h4.1
      obtain ⟨d', rfl⟩ := Int.eq_ofNat_of_zero_le h4.2.2.1
      exact h2 a' b' c' d' w rfl rfl rfl rfl (by omega) (by omega) (by omega) (by omega)
theorem near_any (a b c d : Int) (w : World) : Calls Tryd.prog 17 #[CV a b, CV c d] w (OutV w (.int .i64 (nearZ a b c d))) :=
  near_Z w a b c d (fun w h => near_no a b c d h w) (fun a' b' c' d' w _ _ _ _ ha hb hc hd => near_yes a' b' c' d' ha hb hc hd w)
theorem rNear_any (a b c d : Int) (w : World) : Calls Tryd.prog 18 #[CV a b, CV c d] w (OutV w (.int .i64 (nearZ a b c d))) :=
  near_Z w a b c d (fun w h => by
    cases hg : onG a b with
    | false => exact rnear_1 a b c d hg w
    | true =>
      rcases h with h | h
      · rw [hg] at h; cases h
      · exact rnear_2 a b c d hg h w) (fun a' b' c' d' w _ _ _ _ ha hb hc hd => rnear_3 a' b' c' d' ha hb hc hd w)
end Go.Proofs.YtipfafglbkbafaaDoor
