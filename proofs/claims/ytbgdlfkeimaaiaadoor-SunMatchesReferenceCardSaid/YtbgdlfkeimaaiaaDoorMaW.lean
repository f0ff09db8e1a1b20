/- SunMatchesReference, walked. -/
import Derived.Deep.Cut
import Derived.Deep.CutBlock
import Derived.Deep.DeepCutAuto
import Derived.Test.YtbgdlfkeimaaiaaDoorMx
namespace Go.Proofs.YtbgdlfkeimaaiaaDoor
open Go.RowKit
set_option linter.unusedSimpArgs false
set_option linter.unusedVariables false
theorem lpQm (z : Int) (h0 : -9223372036854775808 ≤ z) (h1 : z ≤ 9223372036854775807) (n : Nat) (hn : 0 < n) (hn2 : n ≤ 2000000000) (N : Int) (hN : N = (n : Int)) :
    ∃ i : Nat, i < n ∧ ∀ w : World, Calls Tryd.prog 13 #[.int .i64 z, .int .i64 N] w fun e w' => e = .returned (iV i) ∧ w = w' :=
  ⟨pickZ z n, pickZ_lt z hn, fun w => lpick_any z h0 h1 n hn hn2 N hN w⟩
theorem laM {al : Option Addr} {n c : Nat} {w : World} (h : S2 w al n) : Calls Tryd.prog 26 #[.slice al n c] w fun e w' => ∃ g f, e = .returned (.agg #[.slice (some ⟨g, 0, none⟩) 24 24]) ∧ w.heap.size ≤ g ∧ HasF w' g 3 f ∧ f 0 12 = true ∧ Below w.heap.size w w' := area_any al n c w h
theorem lfM {al : Option Addr} {n c : Nat} {zs : List Int} {w : World} (h : Sw w al n c zs) : Calls Tryd.prog 27 #[.agg #[.slice al n c]] w (fun e w' => ∃ k, OutS w (zs.take k) e w') := few_any al n c zs w h
theorem upm_s2 {w : World} {al : Option Addr} {n : Nat} (h : S2 w al n) : Up w (fun W => S2 W al n) := fun _ hb => h.below hb
theorem upm_sw {w : World} {al : Option Addr} {n c : Nat} {zs : List Int} (h : Sw w al n c zs) : Up w (fun W => Sw W al n c zs) := fun _ hb => h.below hb
theorem upm_sl {w : World} {al : Option Addr} {n : Nat} {zs : List Int} (h : Sl w al n zs) : Up w (fun W => Sl W al n zs) := fun _ hb => Sl.below h (Nat.le_refl _) hb
theorem up_self (w : World) : Up w (fun W => Below w.heap.size w W) := fun _ h => h
theorem pick2 {P : Nat → Prop} {i : Nat} (h : i < 2) (h0 : P 0) (h1 : P 1) : P i := by
  rcases (show i = 0 ∨ i = 1 by omega) with rfl | rfl
  · exact h0
  · exact h1
set_option maxRecDepth 100000 in
set_option maxHeartbeats 16000000 in
theorem match_any (x y t : Int) (lit : Bool) (al : Option Addr) (n c : Nat) (bl : Option Addr) (m d : Nat) (zs : List Int) (f u : Int) (x0 : -9223372036854775808 ≤ x) (x1 : x ≤ 9223372036854775807) (y0 : -9223372036854775808 ≤ y) (y1 : y ≤ 9223372036854775807) (t0 : -9223372036854775808 ≤ t) (t1 : t ≤ 9223372036854775807) (f0 : -9223372036854775808 ≤ f) (f1 : f ≤ 9223372036854775807) (u0 : -9223372036854775808 ≤ u) (u1 : u ≤ 9223372036854775807) (w : World) (hT : Tab w) (hx : S2 w al n) (hs : Sw w bl m d zs) :
    Calls Tryd.prog 3 #[CV x y, .int .i64 t, .bool lit, .slice al n c, .agg #[.slice bl m d], .agg #[.int .i64 f, .int .i64 u]] w (OutV w (.bool true)) := by
  have HU := Lib.hid (up_vb (Below.refl w.heap.size w) hT : Up w (VB w))
  obtain ⟨w1, P, eA, eB, hb1, hk1⟩ := box1 w #[.int .i64 x, .int .i64 y] 23
  obtain ⟨w2, R, eC, eD, hb2, hk2⟩ := box1 w1 #[.slice bl m d] 27
  obtain ⟨w3, T, eE, eF, hb3, hk3⟩ := box1 w2 #[.int .i64 f, .int .i64 u] 29
  have hbb : Below w.heap.size w w3 := below_tr (below_tr hb1 hb2) hb3
  replace HU := Lib.hid (HU.out.next hbb)
  have UP := Lib.hid (((up_vr hk1 : Up w1 (VR P #[.int .i64 x, .int .i64 y] 23)).next hb2).next hb3)
  have UR := Lib.hid ((up_vr hk2 : Up w2 (VR R #[.slice bl m d] 27)).next hb3)
  have UT := Lib.hid (up_vr hk3 : Up w3 (VR T #[.int .i64 f, .int .i64 u] 29))
  have UZ := Lib.hid ((upm_s2 hx).next hbb)
  have US := Lib.hid ((upm_sw hs).next hbb)
  obtain ⟨p, q, hp, hq, CC⟩ := lcV x y x0 x1 y0 y1
  obtain ⟨a, ha, CP⟩ := lpQm t t0 t1 1000001 (by decide) (by decide) 1000001 rfl
  obtain ⟨k, hk, CK⟩ := lpQm u u0 u1 12 (by decide) (by decide) 12 rfl
  have HC := Lib.hid CC; have HP := Lib.hid CP; have HK := Lib.hid CK
  have HL := Lib.hid (show a < 1000001 ∧ k < 12 from ⟨ha, hk⟩)
  clear CC CP CK hp hq ha hk hb1 hb2 hb3 hbb hk1 hk2 hk3 hx hs hT x0 x1 y0 y1 t0 t1 f0 f1 u0 u1
  go_enter Tryd.func3, Tryd.ntmps3
  go_wp2_with fail
  clear eA eB eC eD eE eF
  (with_reducible refine (sane_any _ HU.out.now.2).mono ?_)
  rintro e v1 ⟨rfl, hb⟩
  replace HU := Lib.hid (HU.out.next hb)
  replace UP := Lib.hid (UP.out.next hb)
  replace UR := Lib.hid (UR.out.next hb)
  replace UT := Lib.hid (UT.out.next hb)
  replace UZ := Lib.hid (UZ.out.next hb)
  replace US := Lib.hid (US.out.next hb)
  clear hb
  have cP0 : v1.cell? ⟨P, 0, none⟩ = some (.int .i64 x) := row_cell UP.out.now 0
  have cP1 : v1.cell? ⟨P, 1, none⟩ = some (.int .i64 y) := row_cell UP.out.now 1
  go_wp2_with fail
  clear cP0 cP1
  (with_reducible refine (HC.out _).mono ?_)
  rintro e v2 ⟨rfl, hb⟩
  replace HU := Lib.hid (HU.out.next hb)
  replace UP := Lib.hid (UP.out.next hb)
  replace UR := Lib.hid (UR.out.next hb)
  replace UT := Lib.hid (UT.out.next hb)
  replace UZ := Lib.hid (UZ.out.next hb)
  replace US := Lib.hid (US.out.next hb)
  clear hb
  obtain ⟨x2, I, ex2, eb2, hb, hk⟩ := box1 v2 #[.int .i64 (p : Int), .int .i64 (q : Int)] 23
  replace HU := Lib.hid (HU.out.next hb)
  replace UP := Lib.hid (UP.out.next hb)
  replace UR := Lib.hid (UR.out.next hb)
  replace UT := Lib.hid (UT.out.next hb)
  replace UZ := Lib.hid (UZ.out.next hb)
  replace US := Lib.hid (US.out.next hb)
  have UI := Lib.hid (up_vr hk : Up x2 (VR I #[.int .i64 (p : Int), .int .i64 (q : Int)] 23))
  clear hb hk
  have HPU := Lib.hid (fun w => (HP.out w).mono (sameU _ _))
  go_wp2_with fail
  clear ex2 eb2
  (with_reducible refine (HPU.out _).mono ?_)
  rintro e v3 ⟨rfl, hb⟩
  replace HU := Lib.hid (HU.out.next hb)
  replace UP := Lib.hid (UP.out.next hb)
  replace UR := Lib.hid (UR.out.next hb)
  replace UT := Lib.hid (UT.out.next hb)
  replace UZ := Lib.hid (UZ.out.next hb)
  replace US := Lib.hid (US.out.next hb)
  replace UI := Lib.hid (UI.out.next hb)
  clear hb
  obtain ⟨xK, K, exK, ebK, hb, hk⟩ := box1 v3 #[.int .i64 t, iV a] 3
  replace HU := Lib.hid (HU.out.next hb)
  replace UP := Lib.hid (UP.out.next hb)
  replace UR := Lib.hid (UR.out.next hb)
  replace UT := Lib.hid (UT.out.next hb)
  replace UZ := Lib.hid (UZ.out.next hb)
  replace US := Lib.hid (US.out.next hb)
  replace UI := Lib.hid (UI.out.next hb)
  have UK := Lib.hid (up_vr hk : Up xK (VR K #[.int .i64 t, iV a] 3))
  clear hb hk
  go_wp2
  clear exK ebK
  have ULi := Lib.hid (up_self xK)
  go_loopw [51] (fun iv wr => ∃ i : Nat, i ≤ 2 ∧ iv = iV i ∧ Below xK.heap.size xK wr) (fun iv _ => 2 - (intOf iv).toNat)
  case atStart => exact ⟨0, by omega, rfl, Below.refl _ _⟩
  case round =>
    obtain ⟨i, hi, rfl, hB⟩ := hrel
    rename World => Wi
    have HBi := Lib.hid hB
    have hHU := HU.out.next hB
    have hUP := UP.out.next hB
    have hUR := UR.out.next hB
    have hUT := UT.out.next hB
    have hUZ := UZ.out.next hB
    have hUS := US.out.next hB
    have hUI := UI.out.next hB
    have hUK := UK.out.next hB
    have hULi := ULi.out.next hB
    have HU_i := HU
    replace HU := Lib.hid hHU
    clear hHU
    have UP_i := UP
    replace UP := Lib.hid hUP
    clear hUP
    have UR_i := UR
    replace UR := Lib.hid hUR
    clear hUR
    have UT_i := UT
    replace UT := Lib.hid hUT
    clear hUT
    have UZ_i := UZ
    replace UZ := Lib.hid hUZ
    clear hUZ
    have US_i := US
    replace US := Lib.hid hUS
    clear hUS
    have UI_i := UI
    replace UI := Lib.hid hUI
    clear hUI
    have UK_i := UK
    replace UK := Lib.hid hUK
    clear hUK
    have ULi_i := ULi
    replace ULi := Lib.hid hULi
    clear hULi
    clear hB
    have i0 : (0 : Int) ≤ i := by omega
    by_cases hi2 : i < 2
    · skip
      have i1 : ((i : Nat) : Int) < 2 := by omega
      obtain ⟨z, hz⟩ : ∃ z : Int, Wi.cell? ⟨K, i, none⟩ = some (.int .i64 z) := pick2 (P := fun i => ∃ z : Int, Wi.cell? ⟨K, i, none⟩ = some (.int .i64 z)) hi2 ⟨_, row_cell UK.out.now 0⟩ ⟨_, row_cell UK.out.now 1⟩
      go_wp2_with fail
      clear hz
      (with_reducible refine (noonS_any z _).mono ?_)
      rintro e v4 ⟨rfl, hb⟩
      replace HU := Lib.hid (HU.out.next hb)
      replace UP := Lib.hid (UP.out.next hb)
      replace UR := Lib.hid (UR.out.next hb)
      replace UT := Lib.hid (UT.out.next hb)
      replace UZ := Lib.hid (UZ.out.next hb)
      replace US := Lib.hid (US.out.next hb)
      replace UI := Lib.hid (UI.out.next hb)
      replace UK := Lib.hid (UK.out.next hb)
      replace ULi := Lib.hid (ULi.out.next hb)
      clear hb
      go_wp2_with fail
      (with_reducible refine (rnoon_any z _).mono ?_)
      rintro e v5 ⟨rfl, hb⟩
      replace HU := Lib.hid (HU.out.next hb)
      replace UP := Lib.hid (UP.out.next hb)
      replace UR := Lib.hid (UR.out.next hb)
      replace UT := Lib.hid (UT.out.next hb)
      replace UZ := Lib.hid (UZ.out.next hb)
      replace US := Lib.hid (US.out.next hb)
      replace UI := Lib.hid (UI.out.next hb)
      replace UK := Lib.hid (UK.out.next hb)
      replace ULi := Lib.hid (ULi.out.next hb)
      clear hb
      go_wp2_with fail
      (with_reducible refine (seasS_any z _).mono ?_)
      rintro e v6 ⟨rfl, hb⟩
      replace HU := Lib.hid (HU.out.next hb)
      replace UP := Lib.hid (UP.out.next hb)
      replace UR := Lib.hid (UR.out.next hb)
      replace UT := Lib.hid (UT.out.next hb)
      replace UZ := Lib.hid (UZ.out.next hb)
      replace US := Lib.hid (US.out.next hb)
      replace UI := Lib.hid (UI.out.next hb)
      replace UK := Lib.hid (UK.out.next hb)
      replace ULi := Lib.hid (ULi.out.next hb)
      clear hb
      go_wp2_with fail
      (with_reducible refine (rseas_any z _).mono ?_)
      rintro e v7 ⟨rfl, hb⟩
      replace HU := Lib.hid (HU.out.next hb)
      replace UP := Lib.hid (UP.out.next hb)
      replace UR := Lib.hid (UR.out.next hb)
      replace UT := Lib.hid (UT.out.next hb)
      replace UZ := Lib.hid (UZ.out.next hb)
      replace US := Lib.hid (US.out.next hb)
      replace UI := Lib.hid (UI.out.next hb)
      replace UK := Lib.hid (UK.out.next hb)
      replace ULi := Lib.hid (ULi.out.next hb)
      clear hb
      have cP0 : v7.cell? ⟨P, 0, none⟩ = some (.int .i64 x) := row_cell UP.out.now 0
      have cP1 : v7.cell? ⟨P, 1, none⟩ = some (.int .i64 y) := row_cell UP.out.now 1
      have cI0 : v7.cell? ⟨I, 0, none⟩ = some (.int .i64 (p : Int)) := row_cell UI.out.now 0
      have cI1 : v7.cell? ⟨I, 1, none⟩ = some (.int .i64 (q : Int)) := row_cell UI.out.now 1
      obtain ⟨xJ, J, exJ, ebJ, hb, hk⟩ := box1 v7 #[.int .i64 x, .int .i64 y, .int .i64 (p : Int), .int .i64 (q : Int)] 23
      replace HU := Lib.hid (HU.out.next hb)
      replace UP := Lib.hid (UP.out.next hb)
      replace UR := Lib.hid (UR.out.next hb)
      replace UT := Lib.hid (UT.out.next hb)
      replace UZ := Lib.hid (UZ.out.next hb)
      replace US := Lib.hid (US.out.next hb)
      replace UI := Lib.hid (UI.out.next hb)
      replace UK := Lib.hid (UK.out.next hb)
      replace ULi := Lib.hid (ULi.out.next hb)
      have UJ := Lib.hid (up_vr hk : Up xJ (VR J #[.int .i64 x, .int .i64 y, .int .i64 (p : Int), .int .i64 (q : Int)] 23))
      clear hb hk
      go_wp2
      clear exJ ebJ cP0 cP1 cI0 cI1
      have ULj := Lib.hid (up_self xJ)
      go_loopw [97] (fun iv wr => ∃ j : Nat, j ≤ 2 ∧ iv = iV j ∧ Below xJ.heap.size xJ wr) (fun iv _ => 2 - (intOf iv).toNat)
      case atStart => exact ⟨0, by omega, rfl, Below.refl _ _⟩
      case round =>
        obtain ⟨j, hj, rfl, hB⟩ := hrel
        rename World => Wj
        have HBj := Lib.hid hB
        have hHU := HU.out.next hB
        have hUP := UP.out.next hB
        have hUR := UR.out.next hB
        have hUT := UT.out.next hB
        have hUZ := UZ.out.next hB
        have hUS := US.out.next hB
        have hUI := UI.out.next hB
        have hUK := UK.out.next hB
        have hULi := ULi.out.next hB
        have hUJ := UJ.out.next hB
        have hULj := ULj.out.next hB
        have HU_j := HU
        replace HU := Lib.hid hHU
        clear hHU
        have UP_j := UP
        replace UP := Lib.hid hUP
        clear hUP
        have UR_j := UR
        replace UR := Lib.hid hUR
        clear hUR
        have UT_j := UT
        replace UT := Lib.hid hUT
        clear hUT
        have UZ_j := UZ
        replace UZ := Lib.hid hUZ
        clear hUZ
        have US_j := US
        replace US := Lib.hid hUS
        clear hUS
        have UI_j := UI
        replace UI := Lib.hid hUI
        clear hUI
        have UK_j := UK
        replace UK := Lib.hid hUK
        clear hUK
        have ULi_j := ULi
        replace ULi := Lib.hid hULi
        clear hULi
        have UJ_j := UJ
        replace UJ := Lib.hid hUJ
        clear hUJ
        have ULj_j := ULj
        replace ULj := Lib.hid hULj
        clear hULj
        clear hB
        have j0 : (0 : Int) ≤ j := by omega
        by_cases hj2 : j < 2
        · skip
          have j1 : ((j : Nat) : Int) < 2 := by omega
          obtain ⟨cx, cy, hz0, hz1⟩ : ∃ cx cy : Int, Wj.cell? ⟨J, j * 2, none⟩ = some (.int .i64 cx) ∧ Wj.cell? ⟨J, j * 2 + 1, none⟩ = some (.int .i64 cy) := pick2 (P := fun j => ∃ cx cy : Int, Wj.cell? ⟨J, j * 2, none⟩ = some (.int .i64 cx) ∧ Wj.cell? ⟨J, j * 2 + 1, none⟩ = some (.int .i64 cy)) hj2 ⟨_, _, row_cell UJ.out.now 0, row_cell UJ.out.now 1⟩ ⟨_, _, row_cell UJ.out.now 2, row_cell UJ.out.now 3⟩
          obtain ⟨xD, D, exD, ebD, hb, hk⟩ := box1 Wj #[.int .i64 cx, .int .i64 cy] 23
          replace HU := Lib.hid (HU.out.next hb)
          replace UP := Lib.hid (UP.out.next hb)
          replace UR := Lib.hid (UR.out.next hb)
          replace UT := Lib.hid (UT.out.next hb)
          replace UZ := Lib.hid (UZ.out.next hb)
          replace US := Lib.hid (US.out.next hb)
          replace UI := Lib.hid (UI.out.next hb)
          replace UK := Lib.hid (UK.out.next hb)
          replace ULi := Lib.hid (ULi.out.next hb)
          replace UJ := Lib.hid (UJ.out.next hb)
          replace ULj := Lib.hid (ULj.out.next hb)
          have UD := Lib.hid (up_vr hk : Up xD (VR D #[.int .i64 cx, .int .i64 cy] 23))
          clear hb hk
          have cD0 : xD.cell? ⟨D, 0, none⟩ = some (.int .i64 cx) := row_cell UD.out.now 0
          have cD1 : xD.cell? ⟨D, 1, none⟩ = some (.int .i64 cy) := row_cell UD.out.now 1
          go_wp2_with fail
          clear hz0 hz1 exD ebD cD0 cD1
          (with_reducible refine (heightS_any cx cy z _).mono ?_)
          rintro e v8 ⟨rfl, hb⟩
          replace HU := Lib.hid (HU.out.next hb)
          replace UP := Lib.hid (UP.out.next hb)
          replace UR := Lib.hid (UR.out.next hb)
          replace UT := Lib.hid (UT.out.next hb)
          replace UZ := Lib.hid (UZ.out.next hb)
          replace US := Lib.hid (US.out.next hb)
          replace UI := Lib.hid (UI.out.next hb)
          replace UK := Lib.hid (UK.out.next hb)
          replace ULi := Lib.hid (ULi.out.next hb)
          replace UJ := Lib.hid (UJ.out.next hb)
          replace ULj := Lib.hid (ULj.out.next hb)
          replace UD := Lib.hid (UD.out.next hb)
          clear hb
          have cD0 : v8.cell? ⟨D, 0, none⟩ = some (.int .i64 cx) := row_cell UD.out.now 0
          have cD1 : v8.cell? ⟨D, 1, none⟩ = some (.int .i64 cy) := row_cell UD.out.now 1
          go_wp2_with fail
          clear cD0 cD1
          (with_reducible refine (rheight_any cx cy z _).mono ?_)
          rintro e v9 ⟨rfl, hb⟩
          replace HU := Lib.hid (HU.out.next hb)
          replace UP := Lib.hid (UP.out.next hb)
          replace UR := Lib.hid (UR.out.next hb)
          replace UT := Lib.hid (UT.out.next hb)
          replace UZ := Lib.hid (UZ.out.next hb)
          replace US := Lib.hid (US.out.next hb)
          replace UI := Lib.hid (UI.out.next hb)
          replace UK := Lib.hid (UK.out.next hb)
          replace ULi := Lib.hid (ULi.out.next hb)
          replace UJ := Lib.hid (UJ.out.next hb)
          replace ULj := Lib.hid (ULj.out.next hb)
          replace UD := Lib.hid (UD.out.next hb)
          clear hb
          have cD0 : v9.cell? ⟨D, 0, none⟩ = some (.int .i64 cx) := row_cell UD.out.now 0
          have cD1 : v9.cell? ⟨D, 1, none⟩ = some (.int .i64 cy) := row_cell UD.out.now 1
          go_wp2_with fail
          clear cD0 cD1
          (with_reducible refine (nextS_any cx cy z lit _ HU.out.now.2).mono ?_)
          rintro e v10 ⟨rfl, hb⟩
          replace HU := Lib.hid (HU.out.next hb)
          replace UP := Lib.hid (UP.out.next hb)
          replace UR := Lib.hid (UR.out.next hb)
          replace UT := Lib.hid (UT.out.next hb)
          replace UZ := Lib.hid (UZ.out.next hb)
          replace US := Lib.hid (US.out.next hb)
          replace UI := Lib.hid (UI.out.next hb)
          replace UK := Lib.hid (UK.out.next hb)
          replace ULi := Lib.hid (ULi.out.next hb)
          replace UJ := Lib.hid (UJ.out.next hb)
          replace ULj := Lib.hid (ULj.out.next hb)
          replace UD := Lib.hid (UD.out.next hb)
          clear hb
          have cD0 : v10.cell? ⟨D, 0, none⟩ = some (.int .i64 cx) := row_cell UD.out.now 0
          have cD1 : v10.cell? ⟨D, 1, none⟩ = some (.int .i64 cy) := row_cell UD.out.now 1
          go_wp2_with fail
          clear cD0 cD1
          (with_reducible refine (rnext_any cx cy z lit _).mono ?_)
          rintro e v11 ⟨rfl, hb⟩
          replace HU := Lib.hid (HU.out.next hb)
          replace UP := Lib.hid (UP.out.next hb)
          replace UR := Lib.hid (UR.out.next hb)
          replace UT := Lib.hid (UT.out.next hb)
          replace UZ := Lib.hid (UZ.out.next hb)
          replace US := Lib.hid (US.out.next hb)
          replace UI := Lib.hid (UI.out.next hb)
          replace UK := Lib.hid (UK.out.next hb)
          replace ULi := Lib.hid (ULi.out.next hb)
          replace UJ := Lib.hid (UJ.out.next hb)
          replace ULj := Lib.hid (ULj.out.next hb)
          replace UD := Lib.hid (UD.out.next hb)
          clear hb
          have cD0 : v11.cell? ⟨D, 0, none⟩ = some (.int .i64 cx) := row_cell UD.out.now 0
          have cD1 : v11.cell? ⟨D, 1, none⟩ = some (.int .i64 cy) := row_cell UD.out.now 1
          go_wp2_with fail
          have KD := Lib.hid (fun w' (h : Below v11.heap.size v11 w') => show w'.cell? ⟨D, 0, none⟩ = some (.int .i64 cx) ∧ w'.cell? ⟨D, 1, none⟩ = some (.int .i64 cy) from ⟨row_cell (UD.out _ h) 0, row_cell (UD.out _ h) 1⟩)
          have hB : Below v11.heap.size v11 v11.drew := (Below.refl _ _).drew
          have CL := Lib.hid (fun w' (h : Below v11.heap.size v11 w') => litS_any cx cy z w' (HU.out _ h).2)
          have CD := Lib.hid (fun w' (h : Below v11.heap.size v11 w') => darkS_any cx cy z w' (HU.out _ h).2)
          clear cD0 cD1
          go_region_held3 (fun w' => w'.cell? ⟨D, 0, none⟩ = some (.int .i64 cx) ∧ w'.cell? ⟨D, 1, none⟩ = some (.int .i64 cy))
            (first
              | exact KD.out _ hB
              | go_keep)
            (first
              | (go_at_call 22; (with_reducible refine (CL.out _ hB).mono ?_); rintro e9 wi ⟨rfl, hb⟩; replace hB := below_tr hB hb)
              | (go_at_call 23; (with_reducible refine (rlit_any cx cy z _).mono ?_); rintro e9 wi ⟨rfl, hb⟩; replace hB := below_tr hB hb)
              | (go_at_call 24; (with_reducible refine (CD.out _ hB).mono ?_); rintro e9 wi ⟨rfl, hb⟩; replace hB := below_tr hB hb)
              | (go_at_call 25; (with_reducible refine (rdark_any cx cy z _).mono ?_); rintro e9 wi ⟨rfl, hb⟩; replace hB := below_tr hB hb))
          all_goals
            have HF := Lib.hid (ULj.out _ hB)
            clear hB
            go_wp2
            exact ⟨⟨j + 1, by omega, ret_i (by omega), HF.out⟩, by simp only [intOf]; omega⟩
        · skip
          obtain rfl : j = 2 := by omega
          have HF := Lib.hid ULi.out.now
          go_wp2
          exact ⟨⟨i + 1, by omega, ret_i (by omega), HF.out⟩, by simp only [intOf]; omega⟩
    · skip
      obtain rfl : i = 2 := by omega
      go_wp2_with fail
      have KR := Lib.hid (fun w' (h : Below Wi.heap.size Wi w') => show w'.cell? ⟨R, 0, none⟩ = some (.slice bl m d) from row_cell (UR.out _ h) 0)
      have hB : Below Wi.heap.size Wi Wi.drew := (Below.refl _ _).drew
      have CA := Lib.hid (fun w' (h : Below Wi.heap.size Wi w') => laM (c := c) (UZ.out _ h))
      have CF := Lib.hid (fun w' (h : Below Wi.heap.size Wi w') => lfM (US.out _ h))
      go_region_held3 (fun w' => w'.cell? ⟨R, 0, none⟩ = some (.slice bl m d))
        (first
          | exact KR.out _ hB
          | go_keep)
        (first
          | (go_at_call 26; (with_reducible refine (CA.out _ hB).mono ?_); rintro e9 wi ⟨gA, fA, rfl, hgA, hFA, hf0, hb⟩; replace hB := below_tr hB hb)
          | (go_at_call 27; (with_reducible refine (CF.out _ hB).mono ?_); rintro e9 wj ⟨kk, aB, nB, cB, rfl, hSB, hb⟩; replace hB := below_tr hB hb; replace hFA := hFA.below hb hFA.lt))
      all_goals
        have HBX := Lib.hid hB
        have HFA := Lib.hid hFA
        have HSB := Lib.hid hSB
        clear hB hFA hSB hgA hf0 hb KR CA CF
        have hHU := HU.out.next HBX.out
        have hUP := UP.out.next HBX.out
        have hUR := UR.out.next HBX.out
        have hUT := UT.out.next HBX.out
        have hUZ := UZ.out.next HBX.out
        have hUS := US.out.next HBX.out
        have hUI := UI.out.next HBX.out
        have hUK := UK.out.next HBX.out
        have hULi := ULi.out.next HBX.out
        replace HU := Lib.hid hHU
        clear hHU
        replace UP := Lib.hid hUP
        clear hUP
        replace UR := Lib.hid hUR
        clear hUR
        replace UT := Lib.hid hUT
        clear hUT
        replace UZ := Lib.hid hUZ
        clear hUZ
        replace US := Lib.hid hUS
        clear hUS
        replace UI := Lib.hid hUI
        clear hUI
        replace UK := Lib.hid hUK
        clear hUK
        replace ULi := Lib.hid hULi
        clear hULi
        have UFA := Lib.hid (upm_sl (HFA.out.sa : SA wj (some ⟨gA, 0, none⟩) 24 fA))
        have USB := Lib.hid (upm_sl HSB.out)
        obtain ⟨xA, A, exA, ebA, hb, hk⟩ := box1 wj #[.slice (some ⟨gA, 0, none⟩) 24 24, .slice aB nB cB] 27
        replace HU := Lib.hid (HU.out.next hb)
        replace UP := Lib.hid (UP.out.next hb)
        replace UR := Lib.hid (UR.out.next hb)
        replace UT := Lib.hid (UT.out.next hb)
        replace UZ := Lib.hid (UZ.out.next hb)
        replace US := Lib.hid (US.out.next hb)
        replace UI := Lib.hid (UI.out.next hb)
        replace UK := Lib.hid (UK.out.next hb)
        replace ULi := Lib.hid (ULi.out.next hb)
        replace UFA := Lib.hid (UFA.out.next hb)
        replace USB := Lib.hid (USB.out.next hb)
        have UA := Lib.hid (up_vr hk : Up xA (VR A #[.slice (some ⟨gA, 0, none⟩) 24 24, .slice aB nB cB] 27))
        clear hb hk
        clear HBX HFA HSB
        rw [exA, ebA]
        go_wp2
        clear exA ebA
        have ULh := Lib.hid (up_self xA)
        go_loopw [171] (fun iv wr => ∃ h : Nat, h ≤ 2 ∧ iv = iV h ∧ Below xA.heap.size xA wr) (fun iv _ => 2 - (intOf iv).toNat)
        case atStart => exact ⟨0, by omega, rfl, Below.refl _ _⟩
        case round =>
          obtain ⟨h, hh, rfl, hB⟩ := hrel
          rename World => Wh
          have HBh := Lib.hid hB
          have hHU := HU.out.next hB
          have hUP := UP.out.next hB
          have hUR := UR.out.next hB
          have hUT := UT.out.next hB
          have hUZ := UZ.out.next hB
          have hUS := US.out.next hB
          have hUI := UI.out.next hB
          have hUK := UK.out.next hB
          have hULi := ULi.out.next hB
          have hUFA := UFA.out.next hB
          have hUSB := USB.out.next hB
          have hUA := UA.out.next hB
          have hULh := ULh.out.next hB
          have HU_h := HU
          replace HU := Lib.hid hHU
          clear hHU
          have UP_h := UP
          replace UP := Lib.hid hUP
          clear hUP
          have UR_h := UR
          replace UR := Lib.hid hUR
          clear hUR
          have UT_h := UT
          replace UT := Lib.hid hUT
          clear hUT
          have UZ_h := UZ
          replace UZ := Lib.hid hUZ
          clear hUZ
          have US_h := US
          replace US := Lib.hid hUS
          clear hUS
          have UI_h := UI
          replace UI := Lib.hid hUI
          clear hUI
          have UK_h := UK
          replace UK := Lib.hid hUK
          clear hUK
          have ULi_h := ULi
          replace ULi := Lib.hid hULi
          clear hULi
          have UFA_h := UFA
          replace UFA := Lib.hid hUFA
          clear hUFA
          have USB_h := USB
          replace USB := Lib.hid hUSB
          clear hUSB
          have UA_h := UA
          replace UA := Lib.hid hUA
          clear hUA
          have ULh_h := ULh
          replace ULh := Lib.hid hULh
          clear hULh
          clear hB
          have h0 : (0 : Int) ≤ h := by omega
          by_cases hh2 : h < 2
          · skip
            have h1 : ((h : Nat) : Int) < 2 := by omega
            obtain ⟨al2, n2, c2, zs2, o2, hz, hO, hS⟩ : ∃ (al2 : Option Addr) (n2 c2 : Nat) (zs2 : List Int) (o2 : Option Ar), Wh.cell? ⟨A, h, none⟩ = some (.slice al2 n2 c2) ∧ Is zs2 o2 ∧ Up Wh (fun W => Sl W al2 n2 zs2) :=
              pick2 (P := fun h => ∃ (al2 : Option Addr) (n2 c2 : Nat) (zs2 : List Int) (o2 : Option Ar), Wh.cell? ⟨A, h, none⟩ = some (.slice al2 n2 c2) ∧ Is zs2 o2 ∧ Up Wh (fun W => Sl W al2 n2 zs2)) hh2 ⟨_, _, _, rz fA, some fA, row_cell UA.out.now 0, rfl, UFA.out⟩ (by obtain ⟨o, ho⟩ := is_ex (zs.take kk); exact ⟨_, _, _, _, o, row_cell UA.out.now 1, ho, USB.out⟩)
            have HO := Lib.hid hO
            have USS := Lib.hid hS
            clear hO hS
            obtain ⟨xE, E, exE, ebE, hb, hk⟩ := box1 Wh #[.slice al2 n2 c2] 27
            replace HU := Lib.hid (HU.out.next hb)
            replace UP := Lib.hid (UP.out.next hb)
            replace UR := Lib.hid (UR.out.next hb)
            replace UT := Lib.hid (UT.out.next hb)
            replace UZ := Lib.hid (UZ.out.next hb)
            replace US := Lib.hid (US.out.next hb)
            replace UI := Lib.hid (UI.out.next hb)
            replace UK := Lib.hid (UK.out.next hb)
            replace ULi := Lib.hid (ULi.out.next hb)
            replace UFA := Lib.hid (UFA.out.next hb)
            replace USB := Lib.hid (USB.out.next hb)
            replace UA := Lib.hid (UA.out.next hb)
            replace ULh := Lib.hid (ULh.out.next hb)
            replace USS := Lib.hid (USS.out.next hb)
            have UE := Lib.hid (up_vr hk : Up xE (VR E #[.slice al2 n2 c2] 27))
            clear hb hk
            go_upto_region 28 with fail
            clear hz exE ebE
            have cT0 : xE.cell? ⟨T, 0, none⟩ = some (.int .i64 f) := row_cell UT.out.now 0
            have cT1 : xE.cell? ⟨T, 1, none⟩ = some (.int .i64 u) := row_cell UT.out.now 1
            have KT := Lib.hid (fun w' (h : Below xE.heap.size xE w') => show w'.cell? ⟨T, 0, none⟩ = some (.int .i64 f) ∧ w'.cell? ⟨T, 1, none⟩ = some (.int .i64 u) from ⟨row_cell (UT.out _ h) 0, row_cell (UT.out _ h) 1⟩)
            have HV := Lib.hid (show IntKind.i64.wrap (IntKind.i64.wrap ((a : Int) + 1) + (k : Int)) = (a : Int) + 1 + k from by have := HL.out; rw [IntKind.wrap_i64, IntKind.wrap_i64]; omega)
            have hB1 : Below xE.heap.size xE xE.drew := (Below.refl _ _).drew
            clear cT0 cT1
            go_region_held3 (fun w' => w'.cell? ⟨T, 0, none⟩ = some (.int .i64 f) ∧ w'.cell? ⟨T, 1, none⟩ = some (.int .i64 u))
              (first
                | exact KT.out _ hB1
                | exact KT.out _ ((Below.refl _ _).alloc (Nat.le_refl _) _).drew
                | go_keep)
              (first
                | (go_at_call 13; (with_reducible refine (HK.out _).mono ?_); rintro e9 wi ⟨rfl, rfl⟩))
            rw [HV.out]
            clear HV KT hB1
            obtain ⟨xQ, Q, exQ, ebQ, hb, hk⟩ := box1 xE #[.int .i64 f, .int .i64 u, .int .i64 (a : Int), .int .i64 ((a : Int) + 1 + k)] 29
            replace HU := Lib.hid (HU.out.next hb)
            replace UP := Lib.hid (UP.out.next hb)
            replace UR := Lib.hid (UR.out.next hb)
            replace UT := Lib.hid (UT.out.next hb)
            replace UZ := Lib.hid (UZ.out.next hb)
            replace US := Lib.hid (US.out.next hb)
            replace UI := Lib.hid (UI.out.next hb)
            replace UK := Lib.hid (UK.out.next hb)
            replace ULi := Lib.hid (ULi.out.next hb)
            replace UFA := Lib.hid (UFA.out.next hb)
            replace USB := Lib.hid (USB.out.next hb)
            replace UA := Lib.hid (UA.out.next hb)
            replace ULh := Lib.hid (ULh.out.next hb)
            replace USS := Lib.hid (USS.out.next hb)
            replace UE := Lib.hid (UE.out.next hb)
            have UQ := Lib.hid (up_vr hk : Up xQ (VR Q #[.int .i64 f, .int .i64 u, .int .i64 (a : Int), .int .i64 ((a : Int) + 1 + k)] 29))
            clear hb hk
            obtain ⟨Y, hY⟩ : ∃ Y, xQ.drew = Y := ⟨_, rfl⟩
            have hb : Below xQ.heap.size xQ Y := by rw [← hY]; exact (Below.refl _ _).drew
            replace HU := Lib.hid (HU.out.next hb)
            replace UP := Lib.hid (UP.out.next hb)
            replace UR := Lib.hid (UR.out.next hb)
            replace UT := Lib.hid (UT.out.next hb)
            replace UZ := Lib.hid (UZ.out.next hb)
            replace US := Lib.hid (US.out.next hb)
            replace UI := Lib.hid (UI.out.next hb)
            replace UK := Lib.hid (UK.out.next hb)
            replace ULi := Lib.hid (ULi.out.next hb)
            replace UFA := Lib.hid (UFA.out.next hb)
            replace USB := Lib.hid (USB.out.next hb)
            replace UA := Lib.hid (UA.out.next hb)
            replace ULh := Lib.hid (ULh.out.next hb)
            replace USS := Lib.hid (USS.out.next hb)
            replace UE := Lib.hid (UE.out.next hb)
            replace UQ := Lib.hid (UQ.out.next hb)
            clear hb
            rw [exQ, ebQ]
            simp only [hY]
            go_wp2
            clear hY exQ ebQ
            have ULl := Lib.hid (up_self Y)
            go_loopw [186] (fun iv wr => ∃ l : Nat, l ≤ 2 ∧ iv = iV l ∧ Below Y.heap.size Y wr) (fun iv _ => 2 - (intOf iv).toNat)
            case atStart => exact ⟨0, by omega, rfl, Below.refl _ _⟩
            case round =>
              obtain ⟨l, hl, rfl, hB⟩ := hrel
              rename World => Wl
              have HBl := Lib.hid hB
              have hHU := HU.out.next hB
              have hUP := UP.out.next hB
              have hUR := UR.out.next hB
              have hUT := UT.out.next hB
              have hUZ := UZ.out.next hB
              have hUS := US.out.next hB
              have hUI := UI.out.next hB
              have hUK := UK.out.next hB
              have hULi := ULi.out.next hB
              have hUFA := UFA.out.next hB
              have hUSB := USB.out.next hB
              have hUA := UA.out.next hB
              have hULh := ULh.out.next hB
              have hUSS := USS.out.next hB
              have hUE := UE.out.next hB
              have hUQ := UQ.out.next hB
              have hULl := ULl.out.next hB
              have HU_l := HU
              replace HU := Lib.hid hHU
              clear hHU
              have UP_l := UP
              replace UP := Lib.hid hUP
              clear hUP
              have UR_l := UR
              replace UR := Lib.hid hUR
              clear hUR
              have UT_l := UT
              replace UT := Lib.hid hUT
              clear hUT
              have UZ_l := UZ
              replace UZ := Lib.hid hUZ
              clear hUZ
              have US_l := US
              replace US := Lib.hid hUS
              clear hUS
              have UI_l := UI
              replace UI := Lib.hid hUI
              clear hUI
              have UK_l := UK
              replace UK := Lib.hid hUK
              clear hUK
              have ULi_l := ULi
              replace ULi := Lib.hid hULi
              clear hULi
              have UFA_l := UFA
              replace UFA := Lib.hid hUFA
              clear hUFA
              have USB_l := USB
              replace USB := Lib.hid hUSB
              clear hUSB
              have UA_l := UA
              replace UA := Lib.hid hUA
              clear hUA
              have ULh_l := ULh
              replace ULh := Lib.hid hULh
              clear hULh
              have USS_l := USS
              replace USS := Lib.hid hUSS
              clear hUSS
              have UE_l := UE
              replace UE := Lib.hid hUE
              clear hUE
              have UQ_l := UQ
              replace UQ := Lib.hid hUQ
              clear hUQ
              have ULl_l := ULl
              replace ULl := Lib.hid hULl
              clear hULl
              clear hB
              have l0 : (0 : Int) ≤ l := by omega
              by_cases hl2 : l < 2
              · skip
                have l1 : ((l : Nat) : Int) < 2 := by omega
                obtain ⟨ff, uu, hz0, hz1⟩ : ∃ ff uu : Int, Wl.cell? ⟨Q, l * 2, none⟩ = some (.int .i64 ff) ∧ Wl.cell? ⟨Q, l * 2 + 1, none⟩ = some (.int .i64 uu) := pick2 (P := fun l => ∃ ff uu : Int, Wl.cell? ⟨Q, l * 2, none⟩ = some (.int .i64 ff) ∧ Wl.cell? ⟨Q, l * 2 + 1, none⟩ = some (.int .i64 uu)) hl2 ⟨_, _, row_cell UQ.out.now 0, row_cell UQ.out.now 1⟩ ⟨_, _, row_cell UQ.out.now 2, row_cell UQ.out.now 3⟩
                obtain ⟨xV, V, exV, ebV, hb, hk⟩ := box1 Wl #[.int .i64 ff, .int .i64 uu] 29
                replace HU := Lib.hid (HU.out.next hb)
                replace UP := Lib.hid (UP.out.next hb)
                replace UR := Lib.hid (UR.out.next hb)
                replace UT := Lib.hid (UT.out.next hb)
                replace UZ := Lib.hid (UZ.out.next hb)
                replace US := Lib.hid (US.out.next hb)
                replace UI := Lib.hid (UI.out.next hb)
                replace UK := Lib.hid (UK.out.next hb)
                replace ULi := Lib.hid (ULi.out.next hb)
                replace UFA := Lib.hid (UFA.out.next hb)
                replace USB := Lib.hid (USB.out.next hb)
                replace UA := Lib.hid (UA.out.next hb)
                replace ULh := Lib.hid (ULh.out.next hb)
                replace USS := Lib.hid (USS.out.next hb)
                replace UE := Lib.hid (UE.out.next hb)
                replace UQ := Lib.hid (UQ.out.next hb)
                replace ULl := Lib.hid (ULl.out.next hb)
                have UV := Lib.hid (up_vr hk : Up xV (VR V #[.int .i64 ff, .int .i64 uu] 29))
                clear hb hk
                have cE0 : xV.cell? ⟨E, 0, none⟩ = some (.slice al2 n2 c2) := row_cell UE.out.now 0
                have cV0 : xV.cell? ⟨V, 0, none⟩ = some (.int .i64 ff) := row_cell UV.out.now 0
                have cV1 : xV.cell? ⟨V, 1, none⟩ = some (.int .i64 uu) := row_cell UV.out.now 1
                go_wp2_with fail
                clear hz0 hz1 exV ebV cE0 cV0 cV1
                (with_reducible refine (range_any al2 n2 c2 zs2 o2 HO.out ff uu _ USS.out.now HU.out.now.2).mono ?_)
                rintro e v12 ⟨rfl, hb⟩
                replace HU := Lib.hid (HU.out.next hb)
                replace UP := Lib.hid (UP.out.next hb)
                replace UR := Lib.hid (UR.out.next hb)
                replace UT := Lib.hid (UT.out.next hb)
                replace UZ := Lib.hid (UZ.out.next hb)
                replace US := Lib.hid (US.out.next hb)
                replace UI := Lib.hid (UI.out.next hb)
                replace UK := Lib.hid (UK.out.next hb)
                replace ULi := Lib.hid (ULi.out.next hb)
                replace UFA := Lib.hid (UFA.out.next hb)
                replace USB := Lib.hid (USB.out.next hb)
                replace UA := Lib.hid (UA.out.next hb)
                replace ULh := Lib.hid (ULh.out.next hb)
                replace USS := Lib.hid (USS.out.next hb)
                replace UE := Lib.hid (UE.out.next hb)
                replace UQ := Lib.hid (UQ.out.next hb)
                replace ULl := Lib.hid (ULl.out.next hb)
                replace UV := Lib.hid (UV.out.next hb)
                clear hb
                have cE0 : v12.cell? ⟨E, 0, none⟩ = some (.slice al2 n2 c2) := row_cell UE.out.now 0
                have cV0 : v12.cell? ⟨V, 0, none⟩ = some (.int .i64 ff) := row_cell UV.out.now 0
                have cV1 : v12.cell? ⟨V, 1, none⟩ = some (.int .i64 uu) := row_cell UV.out.now 1
                go_wp2_with fail
                clear cE0 cV0 cV1
                (with_reducible refine (rrange_any al2 n2 c2 zs2 o2 HO.out ff uu _ USS.out.now).mono ?_)
                rintro e v13 ⟨rfl, hb⟩
                replace HU := Lib.hid (HU.out.next hb)
                replace UP := Lib.hid (UP.out.next hb)
                replace UR := Lib.hid (UR.out.next hb)
                replace UT := Lib.hid (UT.out.next hb)
                replace UZ := Lib.hid (UZ.out.next hb)
                replace US := Lib.hid (US.out.next hb)
                replace UI := Lib.hid (UI.out.next hb)
                replace UK := Lib.hid (UK.out.next hb)
                replace ULi := Lib.hid (ULi.out.next hb)
                replace UFA := Lib.hid (UFA.out.next hb)
                replace USB := Lib.hid (USB.out.next hb)
                replace UA := Lib.hid (UA.out.next hb)
                replace ULh := Lib.hid (ULh.out.next hb)
                replace USS := Lib.hid (USS.out.next hb)
                replace UE := Lib.hid (UE.out.next hb)
                replace UQ := Lib.hid (UQ.out.next hb)
                replace ULl := Lib.hid (ULl.out.next hb)
                replace UV := Lib.hid (UV.out.next hb)
                clear hb
                have HF := Lib.hid ULl.out.now
                go_wp2
                exact ⟨⟨l + 1, by omega, ret_i (by omega), HF.out⟩, by simp only [intOf]; omega⟩
              · skip
                obtain rfl : l = 2 := by omega
                have HF := Lib.hid ULh.out.now
                go_wp2
                exact ⟨⟨h + 1, by omega, ret_i (by omega), HF.out⟩, by simp only [intOf]; omega⟩
          · skip
            obtain rfl : h = 2 := by omega
            go_wp2
            go_ret
            exact ⟨rfl, HU.out.now.1⟩
end Go.Proofs.YtbgdlfkeimaaiaaDoor
