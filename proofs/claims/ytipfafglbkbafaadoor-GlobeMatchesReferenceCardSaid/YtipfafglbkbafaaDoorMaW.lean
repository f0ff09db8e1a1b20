/- GlobeMatchesReference: walked. -/
import Derived.Deep.RegionHeld3
import Derived.Test.YtipfafglbkbafaaDoorM1
import Derived.Test.YtipfafglbkbafaaDoorM2
import Derived.Test.YtipfafglbkbafaaDoorM3
import Derived.Test.YtipfafglbkbafaaDoorM4
import Derived.Test.YtipfafglbkbafaaDoorM5
namespace Go.Proofs.YtipfafglbkbafaaDoor
open Go.RowKit Go.Shelf
set_option linter.unusedVariables false
set_option linter.unusedSimpArgs false
open List (getElem_toArray getElem_cons_zero getElem_cons_succ setIfInBounds_toArray set_cons_zero set_cons_succ)
set_option maxRecDepth 100000 in
set_option maxHeartbeats 40000000 in
theorem match_any (al0 : Option Addr) (n0 c0 : Nat) (al1 : Option Addr) (n1 c1 : Nat) (al2 : Option Addr) (n2 c2 : Nat) (zs2 : List Int) (row ax ay bx yb z0 z1 z2 z3 : Int) (krow0 : -9223372036854775808 ≤ row) (krow1 : row ≤ 9223372036854775807) (kax0 : -9223372036854775808 ≤ ax) (kax1 : ax ≤ 9223372036854775807) (kay0 : -9223372036854775808 ≤ ay) (kay1 : ay ≤ 9223372036854775807) (kbx0 : -9223372036854775808 ≤ bx) (kbx1 : bx ≤ 9223372036854775807) (kyb0 : -9223372036854775808 ≤ yb) (kyb1 : yb ≤ 9223372036854775807) (kz00 : -9223372036854775808 ≤ z0) (kz01 : z0 ≤ 9223372036854775807) (kz10 : -9223372036854775808 ≤ z1) (kz11 : z1 ≤ 9223372036854775807) (kz20 : -9223372036854775808 ≤ z2) (kz21 : z2 ≤ 9223372036854775807) (kz30 : -9223372036854775808 ≤ z3) (kz31 : z3 ≤ 9223372036854775807) (w : World) (hT : Tab w) (hx : S4 w al0 n0) (hy : S4 w al1 n1) (hr : Sw w al2 n2 c2 zs2) :
    Calls Tryd.prog 3 #[.slice al0 n0 c0, .slice al1 n1 c1, .agg #[.slice al2 n2 c2], .int .i64 row, CV ax ay, CV bx yb, .agg #[.int .i64 z0, .int .i64 z1, .int .i64 z2, .int .i64 z3]] w (OutV w (.bool true)) := by
  obtain ⟨v1, Br, eA, eB, hb1, hk1⟩ := box1 w #[.slice al2 n2 c2] 25
  obtain ⟨v2, Ba, eC, eD, hb2, hk2⟩ := box1 v1 #[.int .i64 ax, .int .i64 ay] 27
  obtain ⟨v3, Bb, eE, eF, hb3, hk3⟩ := box1 v2 #[.int .i64 bx, .int .i64 yb] 27
  obtain ⟨v4, Bn, eG, eH, hb4, hk4⟩ := box1 v3 #[.int .i64 z0, .int .i64 z1, .int .i64 z2, .int .i64 z3] 28
  have UB := Lib.hid (((((up_vb (Below.refl w.heap.size w) hT : Up w (VB w)).next hb1).next hb2).next hb3).next hb4)
  have UX := Lib.hid (((((up_s4 hx).next hb1).next hb2).next hb3).next hb4)
  have UY := Lib.hid (((((up_s4 hy).next hb1).next hb2).next hb3).next hb4)
  have US := Lib.hid (((((up_sw hr).next hb1).next hb2).next hb3).next hb4)
  have UR := Lib.hid ((((up_vr hk1 : Up v1 (VR Br #[.slice al2 n2 c2] 25)).next hb2).next hb3).next hb4)
  have UA := Lib.hid (((up_vr hk2 : Up v2 (VR Ba #[.int .i64 ax, .int .i64 ay] 27)).next hb3).next hb4)
  have UC := Lib.hid ((up_vr hk3 : Up v3 (VR Bb #[.int .i64 bx, .int .i64 yb] 27)).next hb4)
  have UN := Lib.hid (up_vr hk4 : Up v4 (VR Bn #[.int .i64 z0, .int .i64 z1, .int .i64 z2, .int .i64 z3] 28))
  obtain ⟨pp, hpp, ep, PP⟩ := pickV z0 kz00 kz01 24 (by decide) (by decide) 24 rfl
  have HP := Lib.hid hpp
  replace PP := Lib.hid PP
  clear ep
  obtain ⟨ps, hps, ep, PS⟩ := pickV z2 kz20 kz21 48 (by decide) (by decide) 48 rfl
  have HS := Lib.hid hps
  replace PS := Lib.hid PS
  clear ep
  obtain ⟨pt, hpt, ep, PT⟩ := pickV z3 kz30 kz31 24 (by decide) (by decide) 24 rfl
  have HT := Lib.hid hpt
  replace PT := Lib.hid PT
  clear ep
  obtain ⟨pu, hpu, ep, PU⟩ := pickV z0 kz00 kz01 100 (by decide) (by decide) 100 rfl
  have HU := Lib.hid hpu
  replace PU := Lib.hid PU
  clear ep
  obtain ⟨pv, hpv, ep, PV⟩ := pickV z1 kz10 kz11 25 (by decide) (by decide) 25 rfl
  have HV := Lib.hid hpv
  replace PV := Lib.hid PV
  clear ep
  obtain ⟨u0, v0, j1, j2, PC1⟩ := cellV ax ay kax0 kax1 kay0 kay1
  obtain ⟨u1, v1', j3, j4, PC2⟩ := cellV bx yb kbx0 kbx1 kyb0 kyb1
  replace PC1 := Lib.hid PC1
  replace PC2 := Lib.hid PC2
  have HROW := Lib.hid (And.intro krow0 krow1)
  clear j1 j2 j3 j4 hT hx hy hr hb1 hb2 hb3 hb4 hk1 hk2 hk3 hk4 hpp hps hpt hpu hpv krow0 krow1 kax0 kax1 kay0 kay1 kbx0 kbx1 kyb0 kyb1 kz00 kz01 kz10 kz11 kz20 kz21 kz30 kz31
  go_enter Tryd.func3, Tryd.ntmps3
  go_wp2_with fail
  clear eA eB eC eD eE eF eG eH
  (with_reducible refine (sane_any _ UB.out.now.2).mono ?_)
  rintro e w104 ⟨rfl, hb⟩
  replace UB := Lib.hid (UB.out.next hb)
  replace UX := Lib.hid (UX.out.next hb)
  replace UY := Lib.hid (UY.out.next hb)
  replace US := Lib.hid (US.out.next hb)
  replace UR := Lib.hid (UR.out.next hb)
  replace UA := Lib.hid (UA.out.next hb)
  replace UC := Lib.hid (UC.out.next hb)
  replace UN := Lib.hid (UN.out.next hb)
  clear hb
  go_wp2_with fail
  (with_reducible refine (made_any al0 n0 c0 _ UX.out.now).mono ?_)
  rintro e w11 ⟨g, f, rfl, hge, hF, hb⟩
  obtain ⟨x11, B2, e1, e2, hb2, hk⟩ := box1 w11 #[.slice (some ⟨g, 0, none⟩) 24 24] 25
  have HB12 := Lib.hid (hb.trans (hb2.mono hb.size))
  have UF := Lib.hid ((up_hf hF).next hb2)
  have UK := Lib.hid (up_vr hk : Up x11 (VR B2 #[.slice (some ⟨g, 0, none⟩) 24 24] 25))
  have HGE := Lib.hid hge
  have HGB := Lib.hid (show B2 ≠ g from by have := hF.lt; omega)
  have HGN := Lib.hid (show Bn ≠ g from by have := (Array.getElem?_eq_some_iff.1 UN.out.now).1; omega)
  have UNx := Lib.hid (UN.out.next HB12.out)
  have UBL := Lib.hid ((up_bl w104).next HB12.out)
  clear hge hF hb hb2 hk
  go_wp2
  clear e1 e2
  have hd : Below x11.heap.size x11 x11.drew := (Below.refl _ _).drew
  replace UF := Lib.hid (UF.out.next hd)
  replace UK := Lib.hid (UK.out.next hd)
  replace UNx := Lib.hid (UNx.out.next hd)
  replace UBL := Lib.hid (UBL.out.next hd)
  clear hd
  have p0 : (0 : Int) ≤ pp := by omega
  have p1 : (pp : Int) < 24 := by have := HP.out; omega
  refine wp_region_held_drew (S := fun w' => w'.cell? ⟨B2, 0, none⟩ = some (.slice (some ⟨g, 0, none⟩) 24 24) ∧ w'.cell? ⟨Bn, 0, none⟩ = some (.int .i64 z0)) (by kernel_rfl) ⟨vr1 UK.out.now, vr4_0 UNx.out.now⟩ (fun hHeld => ?_)
  refine tk 0 (v := ?_) rfl (by kernel_rfl) (fun _ _ _ h => h) (Or.inl ⟨by rfl, ?_⟩) (by assumption) ?_
  rotate_left 1
  focus (intro w h; (try dsimp only at h); go_simp; try with_reducible rfl)
  try simp only [getElem_toArray, getElem_cons_zero, getElem_cons_succ, Act.put, setIfInBounds_toArray, set_cons_zero, set_cons_succ]
  refine tk 1 (v := ?_) rfl (by kernel_rfl) (fun _ _ _ h => h) (Or.inl ⟨by rfl, ?_⟩) (by assumption) ?_
  rotate_left 1
  focus (intro w h; (try dsimp only at h); go_simp; try with_reducible rfl)
  try simp only [getElem_toArray, getElem_cons_zero, getElem_cons_succ, Act.put, setIfInBounds_toArray, set_cons_zero, set_cons_succ]
  refine tk 2 (v := ?_) rfl (by kernel_rfl) (fun _ _ _ h => h) (Or.inl ⟨by rfl, ?_⟩) (by assumption) ?_
  rotate_left 1
  focus (intro w h; (try dsimp only at h); go_simp; try with_reducible rfl)
  try simp only [getElem_toArray, getElem_cons_zero, getElem_cons_succ, Act.put, setIfInBounds_toArray, set_cons_zero, set_cons_succ]
  refine tk 3 (v := ?_) rfl (by kernel_rfl) (fun _ _ _ h => h) (Or.inl ⟨by rfl, ?_⟩) (by assumption) ?_
  rotate_left 1
  focus (intro w h; (try dsimp only at h); go_simp; try with_reducible rfl)
  try simp only [getElem_toArray, getElem_cons_zero, getElem_cons_succ, Act.put, setIfInBounds_toArray, set_cons_zero, set_cons_succ]
  refine tk 5 (v := ?_) rfl (by kernel_rfl) (fun _ _ _ h => h) (Or.inl ⟨by rfl, ?_⟩) (by assumption) ?_
  rotate_left 1
  focus (intro w h; (try dsimp only at h); go_simp; try with_reducible rfl)
  try simp only [getElem_toArray, getElem_cons_zero, getElem_cons_succ, Act.put, setIfInBounds_toArray, set_cons_zero, set_cons_succ]
  refine wpAnyH_ready (rs := [4]) (by kernel_rfl) (by simp) ?_
  refine AllReadyH.cons (o := _) rfl (fun K hK => ?_) AllReadyH.nil
  rw [if_pos (by kernel_rfl)]
  simp only [getElem_toArray, getElem_cons_zero, getElem_cons_succ]
  go_simp
  (with_reducible refine (PP.out _).mono ?_)
  rintro e w105 ⟨rfl, hb⟩
  replace UF := Lib.hid (UF.out.next hb)
  replace UK := Lib.hid (UK.out.next hb)
  replace UNx := Lib.hid (UNx.out.next hb)
  replace UBL := Lib.hid (UBL.out.next hb)
  clear hb
  clear hHeld
  refine hK.out _ _ ⟨vr1 UK.out.now, vr4_0 UNx.out.now⟩ (fun hHeld => ?_)
  clear hK K
  try simp only [getElem_toArray, getElem_cons_zero, getElem_cons_succ, Act.put, setIfInBounds_toArray, set_cons_zero, set_cons_succ]
  refine tk 6 (v := ?_) rfl (by kernel_rfl) (fun _ _ _ h => h) (Or.inl ⟨by rfl, ?_⟩) (by assumption) ?_
  rotate_left 1
  focus (intro w h; (try dsimp only at h); go_simp; try with_reducible rfl)
  try simp only [getElem_toArray, getElem_cons_zero, getElem_cons_succ, Act.put, setIfInBounds_toArray, set_cons_zero, set_cons_succ]
  have hc0 := UF.out.now.cell HP.out
  have hf0 := UF.out.now.frozen pp
  refine wpAnyH_ready (rs := [7]) (by kernel_rfl) (by simp) ?_
  refine AllReadyH.cons (o := _) rfl (fun K hK => ?_) AllReadyH.nil
  rw [if_pos (by kernel_rfl)]
  simp only [List.getElem_toArray, List.getElem_cons_zero, List.getElem_cons_succ]
  go_simp
  clear hc0 hf0 hHeld p0 p1
  obtain ⟨w12, h12⟩ : ∃ X, w105.setCell ⟨g, pp, none⟩ (.int .i64 row) = X := ⟨_, rfl⟩
  have HS := Lib.hid (show Sl w12 (some ⟨g, 0, none⟩) 24 ((rz f).set pp row) from by rw [← h12]; exact bent_sl UF.out.now HP.out HROW.out.1 HROW.out.2)
  have HK := Lib.hid (show VR B2 #[.slice (some ⟨g, 0, none⟩) 24 24] 25 w12 from by rw [← h12]; exact (heap_setCell_other _ _ _ _ HGB.out).trans UK.out.now)
  have HN := Lib.hid (show VR Bn #[.int .i64 z0, .int .i64 z1, .int .i64 z2, .int .i64 z3] 28 w12 from by rw [← h12]; exact (heap_setCell_other _ _ _ _ HGN.out).trans UNx.out.now)
  have hbb : Below w104.heap.size w104 w12 := by rw [← h12]; exact UBL.out.now.setCell HGE.out _
  rw [h12]
  clear h12
  refine hK.out _ _ ⟨vr1 HK.out, vr4_0 HN.out⟩ (fun hHeld => ?_)
  clear hK K
  try simp only [getElem_toArray, getElem_cons_zero, getElem_cons_succ, Act.put, setIfInBounds_toArray, set_cons_zero, set_cons_succ]
  refine wpAnyH_done (by kernel_rfl) ?_ _
  clear hHeld
  replace UB := Lib.hid (UB.out.next hbb)
  replace UX := Lib.hid (UX.out.next hbb)
  replace UY := Lib.hid (UY.out.next hbb)
  replace US := Lib.hid (US.out.next hbb)
  replace UR := Lib.hid (UR.out.next hbb)
  replace UA := Lib.hid (UA.out.next hbb)
  replace UC := Lib.hid (UC.out.next hbb)
  replace UN := Lib.hid (UN.out.next hbb)
  have UV := Lib.hid (up_vg HS.out HK.out)
  clear hbb HS HK HN UF UK UNx UBL HGE HGB HGN HB12 PP HP HROW
  go_wp2
  have hd : Below w12.heap.size w12 w12.drew := (Below.refl _ _).drew
  replace UB := Lib.hid (UB.out.next hd)
  replace UX := Lib.hid (UX.out.next hd)
  replace UY := Lib.hid (UY.out.next hd)
  replace US := Lib.hid (US.out.next hd)
  replace UR := Lib.hid (UR.out.next hd)
  replace UA := Lib.hid (UA.out.next hd)
  replace UC := Lib.hid (UC.out.next hd)
  replace UN := Lib.hid (UN.out.next hd)
  replace UV := Lib.hid (UV.out.next hd)
  clear hd
  refine wp_region_held_drew (S := fun w' => w'.cell? ⟨B2, 0, none⟩ = some (.slice (some ⟨g, 0, none⟩) 24 24) ∧ w'.cell? ⟨Br, 0, none⟩ = some (.slice al2 n2 c2)) (by kernel_rfl) ⟨UV.out.now.cell, vr1 UR.out.now⟩ (fun hHeld => ?_)
  refine tk 0 (v := ?_) rfl (by kernel_rfl) (fun _ _ _ h => h) (Or.inl ⟨by rfl, ?_⟩) (by assumption) ?_
  rotate_left 1
  focus (intro w h; (try dsimp only at h); go_simp; try with_reducible rfl)
  try simp only [getElem_toArray, getElem_cons_zero, getElem_cons_succ, Act.put, setIfInBounds_toArray, set_cons_zero, set_cons_succ]
  refine tk 2 (v := ?_) rfl (by kernel_rfl) (fun _ _ _ h => h) (Or.inl ⟨by rfl, ?_⟩) (by assumption) ?_
  rotate_left 1
  focus (intro w h; (try dsimp only at h); go_simp; try with_reducible rfl)
  try simp only [getElem_toArray, getElem_cons_zero, getElem_cons_succ, Act.put, setIfInBounds_toArray, set_cons_zero, set_cons_succ]
  refine tk 4 (v := ?_) rfl (by kernel_rfl) (fun _ _ _ h => h) (Or.inl ⟨by rfl, ?_⟩) (by assumption) ?_
  rotate_left 1
  focus (intro w h; (try dsimp only at h); go_simp; try with_reducible rfl)
  try simp only [getElem_toArray, getElem_cons_zero, getElem_cons_succ, Act.put, setIfInBounds_toArray, set_cons_zero, set_cons_succ]
  refine tk 5 (v := ?_) rfl (by kernel_rfl) (fun _ _ _ h => h) (Or.inl ⟨by rfl, ?_⟩) (by assumption) ?_
  rotate_left 1
  focus (intro w h; (try dsimp only at h); go_simp; try with_reducible rfl)
  try simp only [getElem_toArray, getElem_cons_zero, getElem_cons_succ, Act.put, setIfInBounds_toArray, set_cons_zero, set_cons_succ]
  refine wpAnyH_ready (rs := [1]) (by kernel_rfl) (by simp) ?_
  refine AllReadyH.cons (o := _) rfl (fun K hK => ?_) AllReadyH.nil
  rw [if_pos (by kernel_rfl)]
  simp only [getElem_toArray, getElem_cons_zero, getElem_cons_succ]
  go_simp
  (with_reducible refine (madeV UX.out.now).mono ?_)
  rintro e w106 ⟨f1, b1, o1, c1', rfl, hs, hb⟩
  have U1 := Lib.hid (up_sl hs)
  replace UB := Lib.hid (UB.out.next hb)
  replace UX := Lib.hid (UX.out.next hb)
  replace UY := Lib.hid (UY.out.next hb)
  replace US := Lib.hid (US.out.next hb)
  replace UR := Lib.hid (UR.out.next hb)
  replace UA := Lib.hid (UA.out.next hb)
  replace UC := Lib.hid (UC.out.next hb)
  replace UN := Lib.hid (UN.out.next hb)
  replace UV := Lib.hid (UV.out.next hb)
  clear hb hs
  clear hHeld
  refine hK.out _ _ ⟨UV.out.now.cell, vr1 UR.out.now⟩ (fun hHeld => ?_)
  clear hK K
  try simp only [getElem_toArray, getElem_cons_zero, getElem_cons_succ, Act.put, setIfInBounds_toArray, set_cons_zero, set_cons_succ]
  refine wpAnyH_ready (rs := [3]) (by kernel_rfl) (by simp) ?_
  refine AllReadyH.cons (o := _) rfl (fun K hK => ?_) AllReadyH.nil
  rw [if_pos (by kernel_rfl)]
  simp only [getElem_toArray, getElem_cons_zero, getElem_cons_succ]
  go_simp
  (with_reducible refine (madeV UY.out.now).mono ?_)
  rintro e w107 ⟨f2, b2, o2, c2', rfl, hs, hb⟩
  have U2 := Lib.hid (up_sl hs)
  replace UB := Lib.hid (UB.out.next hb)
  replace UX := Lib.hid (UX.out.next hb)
  replace UY := Lib.hid (UY.out.next hb)
  replace US := Lib.hid (US.out.next hb)
  replace UR := Lib.hid (UR.out.next hb)
  replace UA := Lib.hid (UA.out.next hb)
  replace UC := Lib.hid (UC.out.next hb)
  replace UN := Lib.hid (UN.out.next hb)
  replace UV := Lib.hid (UV.out.next hb)
  replace U1 := Lib.hid (U1.out.next hb)
  clear hb hs
  clear hHeld
  refine hK.out _ _ ⟨UV.out.now.cell, vr1 UR.out.now⟩ (fun hHeld => ?_)
  clear hK K
  try simp only [getElem_toArray, getElem_cons_zero, getElem_cons_succ, Act.put, setIfInBounds_toArray, set_cons_zero, set_cons_succ]
  refine wpAnyH_ready (rs := [6]) (by kernel_rfl) (by simp) ?_
  refine AllReadyH.cons (o := _) rfl (fun K hK => ?_) AllReadyH.nil
  rw [if_pos (by kernel_rfl)]
  simp only [getElem_toArray, getElem_cons_zero, getElem_cons_succ]
  go_simp
  (with_reducible refine (few_any al2 n2 c2 zs2 _ US.out.now).mono ?_)
  rintro e w108 ⟨k3, l3, m3, c3, rfl, hs, hb⟩
  have U3 := Lib.hid (up_sl hs)
  replace UB := Lib.hid (UB.out.next hb)
  replace UX := Lib.hid (UX.out.next hb)
  replace UY := Lib.hid (UY.out.next hb)
  replace US := Lib.hid (US.out.next hb)
  replace UR := Lib.hid (UR.out.next hb)
  replace UA := Lib.hid (UA.out.next hb)
  replace UC := Lib.hid (UC.out.next hb)
  replace UN := Lib.hid (UN.out.next hb)
  replace UV := Lib.hid (UV.out.next hb)
  replace U1 := Lib.hid (U1.out.next hb)
  replace U2 := Lib.hid (U2.out.next hb)
  clear hb hs
  clear hHeld
  refine hK.out _ _ ⟨UV.out.now.cell, vr1 UR.out.now⟩ (fun hHeld => ?_)
  clear hK K
  try simp only [getElem_toArray, getElem_cons_zero, getElem_cons_succ, Act.put, setIfInBounds_toArray, set_cons_zero, set_cons_succ]
  refine wpAnyH_ready (rs := [7]) (by kernel_rfl) (by simp) ?_
  refine AllReadyH.cons (o := _) rfl (fun K hK => ?_) AllReadyH.nil
  rw [if_pos (by kernel_rfl)]
  simp only [getElem_toArray, getElem_cons_zero, getElem_cons_succ]
  obtain ⟨x109, L, e1, e2, hb2, hk⟩ := box1 w108 #[.slice (some ⟨b1, o1, none⟩) 24 c1', .slice (some ⟨b2, o2, none⟩) 24 c2', .slice (some ⟨g, 0, none⟩) 24 24, .slice l3 m3 c3] 25
  go_simp
  have UE := Lib.hid (up_vr hk : Up x109 (VR L #[.slice (some ⟨b1, o1, none⟩) 24 c1', .slice (some ⟨b2, o2, none⟩) 24 c2', .slice (some ⟨g, 0, none⟩) 24 24, .slice l3 m3 c3] 25))
  replace UB := Lib.hid (UB.out.next hb2)
  replace UX := Lib.hid (UX.out.next hb2)
  replace UY := Lib.hid (UY.out.next hb2)
  replace US := Lib.hid (US.out.next hb2)
  replace UR := Lib.hid (UR.out.next hb2)
  replace UA := Lib.hid (UA.out.next hb2)
  replace UC := Lib.hid (UC.out.next hb2)
  replace UN := Lib.hid (UN.out.next hb2)
  replace UV := Lib.hid (UV.out.next hb2)
  replace U1 := Lib.hid (U1.out.next hb2)
  replace U2 := Lib.hid (U2.out.next hb2)
  replace U3 := Lib.hid (U3.out.next hb2)
  clear e1 e2 hb2 hk
  clear hHeld
  refine hK.out _ _ ⟨UV.out.now.cell, vr1 UR.out.now⟩ (fun hHeld => ?_)
  clear hK K
  try simp only [getElem_toArray, getElem_cons_zero, getElem_cons_succ, Act.put, setIfInBounds_toArray, set_cons_zero, set_cons_succ]
  refine tk 8 (v := ?_) rfl (by kernel_rfl) (fun _ _ _ h => h) (Or.inl ⟨by rfl, ?_⟩) (by assumption) ?_
  rotate_left 1
  focus (intro w h; (try dsimp only at h); go_simp; try with_reducible rfl)
  try simp only [getElem_toArray, getElem_cons_zero, getElem_cons_succ, Act.put, setIfInBounds_toArray, set_cons_zero, set_cons_succ]
  refine wpAnyH_done (by kernel_rfl) ?_ _
  clear hHeld
  have HAR := Lib.hid (areas_of UE.out.now U1.out.now U2.out.now UV.out.now.1 U3.out.now)
  have ULA := Lib.hid (up_bl x109)
  clear U1 U2 U3 UE UV UX UY US UR
  go_wp2
  have hd : Below x109.heap.size x109 x109.drew := (Below.refl _ _).drew
  replace UB := Lib.hid (UB.out.next hd)
  replace UA := Lib.hid (UA.out.next hd)
  replace UC := Lib.hid (UC.out.next hd)
  replace UN := Lib.hid (UN.out.next hd)
  replace ULA := Lib.hid (ULA.out.next hd)
  clear hd
  refine wp_region_held_drew (S := fun w' => w'.cell? ⟨Ba, 0, none⟩ = some (.int .i64 ax) ∧ w'.cell? ⟨Ba, 1, none⟩ = some (.int .i64 ay) ∧ w'.cell? ⟨Bb, 0, none⟩ = some (.int .i64 bx) ∧ w'.cell? ⟨Bb, 1, none⟩ = some (.int .i64 yb)) (by kernel_rfl) ⟨ra_c0 UA.out.now, ra_c1 UA.out.now, ra_c0 UC.out.now, ra_c1 UC.out.now⟩ (fun hHeld => ?_)
  refine tk 0 (v := ?_) rfl (by kernel_rfl) (fun _ _ _ h => h) (Or.inl ⟨by rfl, ?_⟩) (by assumption) ?_
  rotate_left 1
  focus (intro w h; (try dsimp only at h); go_simp; try with_reducible rfl)
  try simp only [getElem_toArray, getElem_cons_zero, getElem_cons_succ, Act.put, setIfInBounds_toArray, set_cons_zero, set_cons_succ]
  refine tk 1 (v := ?_) rfl (by kernel_rfl) (fun _ _ _ h => h) (Or.inl ⟨by rfl, ?_⟩) (by assumption) ?_
  rotate_left 1
  focus (intro w h; (try dsimp only at h); go_simp; try with_reducible rfl)
  try simp only [getElem_toArray, getElem_cons_zero, getElem_cons_succ, Act.put, setIfInBounds_toArray, set_cons_zero, set_cons_succ]
  refine tk 2 (v := ?_) rfl (by kernel_rfl) (fun _ _ _ h => h) (Or.inl ⟨by rfl, ?_⟩) (by assumption) ?_
  rotate_left 1
  focus (intro w h; (try dsimp only at h); go_simp; try with_reducible rfl)
  try simp only [getElem_toArray, getElem_cons_zero, getElem_cons_succ, Act.put, setIfInBounds_toArray, set_cons_zero, set_cons_succ]
  refine tk 3 (v := ?_) rfl (by kernel_rfl) (fun _ _ _ h => h) (Or.inl ⟨by rfl, ?_⟩) (by assumption) ?_
  rotate_left 1
  focus (intro w h; (try dsimp only at h); go_simp; try with_reducible rfl)
  try simp only [getElem_toArray, getElem_cons_zero, getElem_cons_succ, Act.put, setIfInBounds_toArray, set_cons_zero, set_cons_succ]
  refine tk 4 (v := ?_) rfl (by kernel_rfl) (fun _ _ _ h => h) (Or.inl ⟨by rfl, ?_⟩) (by assumption) ?_
  rotate_left 1
  focus (intro w h; (try dsimp only at h); go_simp; try with_reducible rfl)
  try simp only [getElem_toArray, getElem_cons_zero, getElem_cons_succ, Act.put, setIfInBounds_toArray, set_cons_zero, set_cons_succ]
  refine tk 5 (v := ?_) rfl (by kernel_rfl) (fun _ _ _ h => h) (Or.inl ⟨by rfl, ?_⟩) (by assumption) ?_
  rotate_left 1
  focus (intro w h; (try dsimp only at h); go_simp; try with_reducible rfl)
  try simp only [getElem_toArray, getElem_cons_zero, getElem_cons_succ, Act.put, setIfInBounds_toArray, set_cons_zero, set_cons_succ]
  refine tk 6 (v := ?_) rfl (by kernel_rfl) (fun _ _ _ h => h) (Or.inl ⟨by rfl, ?_⟩) (by assumption) ?_
  rotate_left 1
  focus (intro w h; (try dsimp only at h); go_simp; try with_reducible rfl)
  try simp only [getElem_toArray, getElem_cons_zero, getElem_cons_succ, Act.put, setIfInBounds_toArray, set_cons_zero, set_cons_succ]
  refine tk 8 (v := ?_) rfl (by kernel_rfl) (fun _ _ _ h => h) (Or.inl ⟨by rfl, ?_⟩) (by assumption) ?_
  rotate_left 1
  focus (intro w h; (try dsimp only at h); go_simp; try with_reducible rfl)
  try simp only [getElem_toArray, getElem_cons_zero, getElem_cons_succ, Act.put, setIfInBounds_toArray, set_cons_zero, set_cons_succ]
  refine tk 9 (v := ?_) rfl (by kernel_rfl) (fun _ _ _ h => h) (Or.inl ⟨by rfl, ?_⟩) (by assumption) ?_
  rotate_left 1
  focus (intro w h; (try dsimp only at h); go_simp; try with_reducible rfl)
  try simp only [getElem_toArray, getElem_cons_zero, getElem_cons_succ, Act.put, setIfInBounds_toArray, set_cons_zero, set_cons_succ]
  refine tk 10 (v := ?_) rfl (by kernel_rfl) (fun _ _ _ h => h) (Or.inl ⟨by rfl, ?_⟩) (by assumption) ?_
  rotate_left 1
  focus (intro w h; (try dsimp only at h); go_simp; try with_reducible rfl)
  try simp only [getElem_toArray, getElem_cons_zero, getElem_cons_succ, Act.put, setIfInBounds_toArray, set_cons_zero, set_cons_succ]
  refine tk 11 (v := ?_) rfl (by kernel_rfl) (fun _ _ _ h => h) (Or.inl ⟨by rfl, ?_⟩) (by assumption) ?_
  rotate_left 1
  focus (intro w h; (try dsimp only at h); go_simp; try with_reducible rfl)
  try simp only [getElem_toArray, getElem_cons_zero, getElem_cons_succ, Act.put, setIfInBounds_toArray, set_cons_zero, set_cons_succ]
  refine tk 12 (v := ?_) rfl (by kernel_rfl) (fun _ _ _ h => h) (Or.inl ⟨by rfl, ?_⟩) (by assumption) ?_
  rotate_left 1
  focus (intro w h; (try dsimp only at h); go_simp; try with_reducible rfl)
  try simp only [getElem_toArray, getElem_cons_zero, getElem_cons_succ, Act.put, setIfInBounds_toArray, set_cons_zero, set_cons_succ]
  refine wpAnyH_ready (rs := [7]) (by kernel_rfl) (by simp) ?_
  refine AllReadyH.cons (o := _) rfl (fun K hK => ?_) AllReadyH.nil
  rw [if_pos (by kernel_rfl)]
  simp only [getElem_toArray, getElem_cons_zero, getElem_cons_succ]
  go_simp
  (with_reducible refine (PC1.out _).mono ?_)
  rintro e w110 ⟨rfl, hb⟩
  replace UB := Lib.hid (UB.out.next hb)
  replace UA := Lib.hid (UA.out.next hb)
  replace UC := Lib.hid (UC.out.next hb)
  replace UN := Lib.hid (UN.out.next hb)
  replace ULA := Lib.hid (ULA.out.next hb)
  clear hb
  clear hHeld
  refine hK.out _ _ ⟨ra_c0 UA.out.now, ra_c1 UA.out.now, ra_c0 UC.out.now, ra_c1 UC.out.now⟩ (fun hHeld => ?_)
  clear hK K
  try simp only [getElem_toArray, getElem_cons_zero, getElem_cons_succ, Act.put, setIfInBounds_toArray, set_cons_zero, set_cons_succ]
  refine wpAnyH_ready (rs := [13]) (by kernel_rfl) (by simp) ?_
  refine AllReadyH.cons (o := _) rfl (fun K hK => ?_) AllReadyH.nil
  rw [if_pos (by kernel_rfl)]
  simp only [getElem_toArray, getElem_cons_zero, getElem_cons_succ]
  go_simp
  (with_reducible refine (PC2.out _).mono ?_)
  rintro e w111 ⟨rfl, hb⟩
  replace UB := Lib.hid (UB.out.next hb)
  replace UA := Lib.hid (UA.out.next hb)
  replace UC := Lib.hid (UC.out.next hb)
  replace UN := Lib.hid (UN.out.next hb)
  replace ULA := Lib.hid (ULA.out.next hb)
  clear hb
  clear hHeld
  refine hK.out _ _ ⟨ra_c0 UA.out.now, ra_c1 UA.out.now, ra_c0 UC.out.now, ra_c1 UC.out.now⟩ (fun hHeld => ?_)
  clear hK K
  try simp only [getElem_toArray, getElem_cons_zero, getElem_cons_succ, Act.put, setIfInBounds_toArray, set_cons_zero, set_cons_succ]
  refine wpAnyH_ready (rs := [14]) (by kernel_rfl) (by simp) ?_
  refine AllReadyH.cons (o := _) rfl (fun K hK => ?_) AllReadyH.nil
  rw [if_pos (by kernel_rfl)]
  simp only [getElem_toArray, getElem_cons_zero, getElem_cons_succ]
  obtain ⟨x112, C, e1, e2, hb2, hk⟩ := box1 w111 #[.int .i64 ax, .int .i64 ay, .int .i64 bx, .int .i64 yb, .int .i64 (u0 : Int), .int .i64 (v0 : Int), .int .i64 (u1 : Int), .int .i64 (v1' : Int)] 27
  go_simp
  have UE := Lib.hid (up_vr hk : Up x112 (VR C #[.int .i64 ax, .int .i64 ay, .int .i64 bx, .int .i64 yb, .int .i64 (u0 : Int), .int .i64 (v0 : Int), .int .i64 (u1 : Int), .int .i64 (v1' : Int)] 27))
  replace UB := Lib.hid (UB.out.next hb2)
  replace UA := Lib.hid (UA.out.next hb2)
  replace UC := Lib.hid (UC.out.next hb2)
  replace UN := Lib.hid (UN.out.next hb2)
  replace ULA := Lib.hid (ULA.out.next hb2)
  clear e1 e2 hb2 hk
  clear hHeld
  refine hK.out _ _ ⟨ra_c0 UA.out.now, ra_c1 UA.out.now, ra_c0 UC.out.now, ra_c1 UC.out.now⟩ (fun hHeld => ?_)
  clear hK K
  try simp only [getElem_toArray, getElem_cons_zero, getElem_cons_succ, Act.put, setIfInBounds_toArray, set_cons_zero, set_cons_succ]
  refine tk 15 (v := ?_) rfl (by kernel_rfl) (fun _ _ _ h => h) (Or.inl ⟨by rfl, ?_⟩) (by assumption) ?_
  rotate_left 1
  focus (intro w h; (try dsimp only at h); go_simp; try with_reducible rfl)
  try simp only [getElem_toArray, getElem_cons_zero, getElem_cons_succ, Act.put, setIfInBounds_toArray, set_cons_zero, set_cons_succ]
  refine wpAnyH_done (by kernel_rfl) ?_ _
  clear hHeld
  have HCL := Lib.hid (cells4_of UE.out.now)
  have ULC := Lib.hid (up_bl x112)
  clear UE UA UC PC1 PC2
  go_wp2
  refine wp_loop_fr (fun i => (i == 14) || (decide (19 ≤ i) && decide (i ≤ 20)) || (decide (22 ≤ i) && decide (i ≤ 26)) || (decide (91 ≤ i) && decide (i ≤ 186))) 19 (fun v wr => ∃ i : Nat, i ≤ 4 ∧ v = .int .i64 i ∧ Below x112.heap.size x112 wr) (fun v => 4 - (intOf v).toNat) (by kernel_rfl) ⟨0, Nat.zero_le _, (by kernel_rfl), Below.refl _ _⟩ ?_
  intro Ei fri w113 hE hs hrel
  have HEi := Lib.hid hE
  clear hE
  obtain ⟨i, hi, hfr, hB⟩ := hrel
  rw [hfr]
  have f13 : fri 13 = .pointer (some ⟨Bn, 0, none⟩) := (hs 13 (by decide) rfl).trans (by kernel_rfl)
  have f15 : fri 15 = .bool true := (hs 15 (by decide) rfl).trans (by kernel_rfl)
  have f17 : fri 17 = .slice (some ⟨L, 0, none⟩) 4 4 := (hs 17 (by decide) rfl).trans (by kernel_rfl)
  have f18 : fri 18 = .slice (some ⟨C, 0, none⟩) 4 4 := (hs 18 (by decide) rfl).trans (by kernel_rfl)
  clear hs
  have Si := Lib.hid (same_refl (fun i => (i == 14) || (decide (19 ≤ i) && decide (i ≤ 20)) || (decide (22 ≤ i) && decide (i ≤ 26)) || (decide (91 ≤ i) && decide (i ≤ 186))) fri)
  refine fr_openw (l := ?lx114) ?hx114 ?ho114
  case hx114 => unfold fr528; rw [f13, f15, f17, f18, hfr]
  intro HGx
  have HG := Lib.hid HGx
  clear HGx f13 f15 f17 f18 hfr
  have ULi := Lib.hid (up_bl x112)
  replace UB := Lib.hid (UB.out.next hB)
  replace UN := Lib.hid (UN.out.next hB)
  replace ULA := Lib.hid (ULA.out.next hB)
  replace ULC := Lib.hid (ULC.out.next hB)
  replace ULi := Lib.hid (ULi.out.next hB)
  clear hB
  have i0 : (0 : Int) ≤ i := by omega
  by_cases hil : i < 4
  rotate_left
  · as_aux_lemma =>
    clear Si
    have i1 : ¬ ((i : Int) < 4) := by omega
    clear hi hil HEi
    clear ULi
    go_wp2
    clear i1
    refine wp_loop_fr (fun i => (i == 14) || (decide (27 ≤ i) && decide (i ≤ 32)) || (decide (34 ≤ i) && decide (i ≤ 55)) || (decide (187 ≤ i) && decide (i ≤ 521))) 27 (fun v wr => ∃ ia : Nat, ia ≤ 4 ∧ v = .int .i64 ia ∧ Below w113.heap.size w113 wr) (fun v => 4 - (intOf v).toNat) (by kernel_rfl) ⟨0, Nat.zero_le _, (by kernel_rfl), Below.refl _ _⟩ ?_
    intro Eia fria w115 hE hs hrel
    have HEia := Lib.hid hE
    clear hE
    obtain ⟨ia, hia, hfr, hB⟩ := hrel
    rw [hfr]
    have f13 : fria 13 = .pointer (some ⟨Bn, 0, none⟩) := (hs 13 (by decide) rfl).trans (by kernel_rfl)
    have f15 : fria 15 = .bool true := (hs 15 (by decide) rfl).trans (by kernel_rfl)
    have f17 : fria 17 = .slice (some ⟨L, 0, none⟩) 4 4 := (hs 17 (by decide) rfl).trans (by kernel_rfl)
    have f18 : fria 18 = .slice (some ⟨C, 0, none⟩) 4 4 := (hs 18 (by decide) rfl).trans (by kernel_rfl)
    have f19 : fria 19 = .int .i64 i := (hs 19 (by decide) rfl).trans (by kernel_rfl)
    clear hs HG
    have Sia := Lib.hid (same_refl (fun i => (i == 14) || (decide (27 ≤ i) && decide (i ≤ 32)) || (decide (34 ≤ i) && decide (i ≤ 55)) || (decide (187 ≤ i) && decide (i ≤ 521))) fria)
    refine fr_openw (l := ?lx116) ?hx116 ?ho116
    case hx116 => unfold fr528; rw [f13, f15, f17, f18, f19, hfr]
    intro HGx
    have HG := Lib.hid HGx
    clear HGx f13 f15 f17 f18 f19 hfr
    have ULia := Lib.hid (up_bl w113)
    replace UB := Lib.hid (UB.out.next hB)
    replace UN := Lib.hid (UN.out.next hB)
    replace ULA := Lib.hid (ULA.out.next hB)
    replace ULC := Lib.hid (ULC.out.next hB)
    replace ULia := Lib.hid (ULia.out.next hB)
    clear hB
    have ia0 : (0 : Int) ≤ ia := by omega
    by_cases hial : ia < 4
    rotate_left
    · as_aux_lemma =>
      clear Sia
      have ia1 : ¬ ((ia : Int) < 4) := by omega
      clear hia hial HEia
      clear HAR HCL ULia ULA ULC UN
      go_wp2_with fail
      clear ia1
      (with_reducible refine (emptyV _).mono ?_)
      rintro e w90 ⟨b8, o8, c8, rfl, hs, hb⟩
      have UE := Lib.hid (up_sa hs)
      replace UB := Lib.hid (UB.out.next hb)
      clear hs hb
      go_wp2_with fail
      (with_reducible refine (rempty_any _).mono ?_)
      rintro e w91 ⟨g9, rfl, hge, hG, hb⟩
      have UG := Lib.hid (up_sa hG.sa)
      replace UB := Lib.hid (UB.out.next hb)
      replace UE := Lib.hid (UE.out.next hb)
      clear hge hG hb
      go_wp2_with fail
      (with_reducible refine (rsameV (eqv_rfl nul) UE.out.now UG.out.now).mono ?_)
      rintro e w117 ⟨rfl, hb⟩
      replace UB := Lib.hid (UB.out.next hb)
      replace UE := Lib.hid (UE.out.next hb)
      replace UG := Lib.hid (UG.out.next hb)
      clear hb
      go_wp2
      go_ret
      exact ⟨rfl, UB.out.now.1⟩
    as_aux_lemma =>
    have ia1 : (ia : Int) < 4 := by omega
    have HMia := Lib.hid (show ia + 1 ≤ 4 ∧ 4 - (ia + 1) < 4 - ia from by omega)
    obtain ⟨alA, nlA, clA, zlA, olA, hoA, hc⟩ := areas_at HAR.out (show ia < 4 by omega)
    have UAA := Lib.hid (hc.next ULA.out.now)
    have HOA := Lib.hid hoA
    clear hc hoA
    obtain ⟨rv, V1, V2⟩ := pair_valid (al := alA) (n := nlA) (c := clA) HOA.out
    replace V1 := Lib.hid V1
    replace V2 := Lib.hid V2
    obtain ⟨kv, W1, W2⟩ := pair_count (al := alA) (n := nlA) (c := clA) HOA.out
    replace W1 := Lib.hid W1
    replace W2 := Lib.hid W2
    obtain ⟨NN, ll, X1, X2⟩ := pair_cells (al := alA) (n := nlA) (c := clA) HOA.out
    replace X1 := Lib.hid X1
    replace X2 := Lib.hid X2
    go_wp2
    refine rg_29 (by kernel_rfl) (fun _ _ d _ _ h => by cases d <;> exact h) (by kernel_rfl) (by kernel_rfl) (by kernel_rfl) ia0 ia1 V1.out V2.out W1.out W2.out X1.out X2.out UAA.out (fun W hb => (UB.out W hb).2) ?_
    intro g118 w118 hs h1 hb
    have f13 : g118 13 = .pointer (some ⟨Bn, 0, none⟩) := (hs 13 (by decide) rfl).trans (by kernel_rfl)
    have f15 : g118 15 = .bool true := (hs 15 (by decide) rfl).trans (by kernel_rfl)
    have f17 : g118 17 = .slice (some ⟨L, 0, none⟩) 4 4 := (hs 17 (by decide) rfl).trans (by kernel_rfl)
    have f18 : g118 18 = .slice (some ⟨C, 0, none⟩) 4 4 := (hs 18 (by decide) rfl).trans (by kernel_rfl)
    have f19 : g118 19 = .int .i64 i := (hs 19 (by decide) rfl).trans (by kernel_rfl)
    have f27 : g118 27 = .int .i64 ia := (hs 27 (by decide) rfl).trans (by kernel_rfl)
    have SiaN := Lib.hid (same_step Sia.out HG.out hs (by kernel_rfl) (by kernel_rfl))
    clear Sia
    clear hs HG
    refine fr_openq (l := ?lx119) ?hx119 ?ho119
    case hx119 => unfold fr528; rw [f13, f15, f17, f18, f19, f27, h1]
    intro HGx
    have HG := Lib.hid HGx
    clear HGx f13 f15 f17 f18 f19 f27 h1
    replace UB := Lib.hid (UB.out.next hb)
    replace UN := Lib.hid (UN.out.next hb)
    replace ULA := Lib.hid (ULA.out.next hb)
    replace ULC := Lib.hid (ULC.out.next hb)
    replace ULia := Lib.hid (ULia.out.next hb)
    replace UAA := Lib.hid (UAA.out.next hb)
    clear hb
    clear V1 V2 W1 W2 X1 X2
    go_wp2
    refine wp_loop_fr (fun i => (i == 14) || (decide (28 ≤ i) && decide (i ≤ 32)) || (decide (231 ≤ i) && decide (i ≤ 290))) 28 (fun v wr => ∃ kc : Nat, kc ≤ 4 ∧ v = .int .i64 kc ∧ Below w118.heap.size w118 wr) (fun v => 4 - (intOf v).toNat) (by kernel_rfl) ⟨0, Nat.zero_le _, (by kernel_rfl), Below.refl _ _⟩ ?_
    intro Ekc frkc w120 hE hs hrel
    have HEkc := Lib.hid hE
    clear hE
    obtain ⟨kc, hkc, hfr, hB⟩ := hrel
    rw [hfr]
    have f13 : frkc 13 = .pointer (some ⟨Bn, 0, none⟩) := (hs 13 (by decide) rfl).trans (by kernel_rfl)
    have f15 : frkc 15 = .bool true := (hs 15 (by decide) rfl).trans (by kernel_rfl)
    have f17 : frkc 17 = .slice (some ⟨L, 0, none⟩) 4 4 := (hs 17 (by decide) rfl).trans (by kernel_rfl)
    have f18 : frkc 18 = .slice (some ⟨C, 0, none⟩) 4 4 := (hs 18 (by decide) rfl).trans (by kernel_rfl)
    have f19 : frkc 19 = .int .i64 i := (hs 19 (by decide) rfl).trans (by kernel_rfl)
    have f27 : frkc 27 = .int .i64 ia := (hs 27 (by decide) rfl).trans (by kernel_rfl)
    have SiaNN := Lib.hid (same_step SiaN.out HG.out hs (by kernel_rfl) (by kernel_rfl))
    clear SiaN
    clear hs HG
    have Skc := Lib.hid (same_refl (fun i => (i == 14) || (decide (28 ≤ i) && decide (i ≤ 32)) || (decide (231 ≤ i) && decide (i ≤ 290))) frkc)
    refine fr_openw (l := ?lx121) ?hx121 ?ho121
    case hx121 => unfold fr528; rw [f13, f15, f17, f18, f19, f27, hfr]
    intro HGx
    have HG := Lib.hid HGx
    clear HGx f13 f15 f17 f18 f19 f27 hfr
    have ULkc := Lib.hid (up_bl w118)
    replace UB := Lib.hid (UB.out.next hB)
    replace UN := Lib.hid (UN.out.next hB)
    replace ULA := Lib.hid (ULA.out.next hB)
    replace ULC := Lib.hid (ULC.out.next hB)
    replace ULia := Lib.hid (ULia.out.next hB)
    replace UAA := Lib.hid (UAA.out.next hB)
    replace ULkc := Lib.hid (ULkc.out.next hB)
    clear hB
    have kc0 : (0 : Int) ≤ kc := by omega
    by_cases hkcl : kc < 4
    rotate_left
    · as_aux_lemma =>
      clear Skc
      have kc1 : ¬ ((kc : Int) < 4) := by omega
      clear hkc hkcl HEkc
      clear ULkc
      go_wp2
      clear kc1
      go_wp2
      refine rg_38 (by kernel_rfl) (fun _ _ d _ _ h => by cases d <;> exact h) (by kernel_rfl) (by kernel_rfl) HU.out PU.out PV.out UN.out ?_
      intro g122 w122 Z hs h1 h2 h3 hv hb
      have f13 : g122 13 = .pointer (some ⟨Bn, 0, none⟩) := (hs 13 (by decide) rfl).trans (by kernel_rfl)
      have f15 : g122 15 = .bool true := (hs 15 (by decide) rfl).trans (by kernel_rfl)
      have f17 : g122 17 = .slice (some ⟨L, 0, none⟩) 4 4 := (hs 17 (by decide) rfl).trans (by kernel_rfl)
      have f18 : g122 18 = .slice (some ⟨C, 0, none⟩) 4 4 := (hs 18 (by decide) rfl).trans (by kernel_rfl)
      have f19 : g122 19 = .int .i64 i := (hs 19 (by decide) rfl).trans (by kernel_rfl)
      have f27 : g122 27 = .int .i64 ia := (hs 27 (by decide) rfl).trans (by kernel_rfl)
      have f28 : g122 28 = .int .i64 kc := (hs 28 (by decide) rfl).trans (by kernel_rfl)
      have SiaNNN := Lib.hid (same_step SiaNN.out HG.out hs (by kernel_rfl) (by kernel_rfl))
      clear SiaNN
      clear hs HG
      refine fr_openq (l := ?lx123) ?hx123 ?ho123
      case hx123 => unfold fr528; rw [f13, f15, f17, f18, f19, f27, f28, h1, h2, h3]
      intro HGx
      have HG := Lib.hid HGx
      clear HGx f13 f15 f17 f18 f19 f27 f28 h1 h2 h3
      replace UB := Lib.hid (UB.out.next hb)
      replace UN := Lib.hid (UN.out.next hb)
      replace ULA := Lib.hid (ULA.out.next hb)
      replace ULC := Lib.hid (ULC.out.next hb)
      replace ULia := Lib.hid (ULia.out.next hb)
      replace UAA := Lib.hid (UAA.out.next hb)
      have UZ := Lib.hid (up_vr hv)
      clear hv hb
      go_wp2
      refine wp_loop_fr (fun i => (i == 14) || (decide (34 ≤ i) && decide (i ≤ 42)) || (decide (306 ≤ i) && decide (i ≤ 370))) 306 (fun v wr => ∃ jz : Nat, jz ≤ 2 ∧ v = .int .i64 jz ∧ Below w122.heap.size w122 wr) (fun v => 2 - (intOf v).toNat) (by kernel_rfl) ⟨0, Nat.zero_le _, (by kernel_rfl), Below.refl _ _⟩ ?_
      intro Ejz frjz w124 hE hs hrel
      have HEjz := Lib.hid hE
      clear hE
      obtain ⟨jz, hjz, hfr, hB⟩ := hrel
      rw [hfr]
      have f13 : frjz 13 = .pointer (some ⟨Bn, 0, none⟩) := (hs 13 (by decide) rfl).trans (by kernel_rfl)
      have f15 : frjz 15 = .bool true := (hs 15 (by decide) rfl).trans (by kernel_rfl)
      have f17 : frjz 17 = .slice (some ⟨L, 0, none⟩) 4 4 := (hs 17 (by decide) rfl).trans (by kernel_rfl)
      have f18 : frjz 18 = .slice (some ⟨C, 0, none⟩) 4 4 := (hs 18 (by decide) rfl).trans (by kernel_rfl)
      have f19 : frjz 19 = .int .i64 i := (hs 19 (by decide) rfl).trans (by kernel_rfl)
      have f27 : frjz 27 = .int .i64 ia := (hs 27 (by decide) rfl).trans (by kernel_rfl)
      have f28 : frjz 28 = .int .i64 kc := (hs 28 (by decide) rfl).trans (by kernel_rfl)
      have f304 : frjz 304 = .slice (some ⟨Z, 0, none⟩) 2 2 := (hs 304 (by decide) rfl).trans (by kernel_rfl)
      have f305 : frjz 305 = .int .i64 2 := (hs 305 (by decide) rfl).trans (by kernel_rfl)
      have SiaNNNN := Lib.hid (same_step SiaNNN.out HG.out hs (by kernel_rfl) (by kernel_rfl))
      clear SiaNNN
      clear hs HG
      have Sjz := Lib.hid (same_refl (fun i => (i == 14) || (decide (34 ≤ i) && decide (i ≤ 42)) || (decide (306 ≤ i) && decide (i ≤ 370))) frjz)
      refine fr_openw (l := ?lx125) ?hx125 ?ho125
      case hx125 => unfold fr528; rw [f13, f15, f17, f18, f19, f27, f28, f304, f305, hfr]
      intro HGx
      have HG := Lib.hid HGx
      clear HGx f13 f15 f17 f18 f19 f27 f28 f304 f305 hfr
      have ULjz := Lib.hid (up_bl w122)
      replace UB := Lib.hid (UB.out.next hB)
      replace UN := Lib.hid (UN.out.next hB)
      replace ULA := Lib.hid (ULA.out.next hB)
      replace ULC := Lib.hid (ULC.out.next hB)
      replace ULia := Lib.hid (ULia.out.next hB)
      replace UAA := Lib.hid (UAA.out.next hB)
      replace UZ := Lib.hid (UZ.out.next hB)
      replace ULjz := Lib.hid (ULjz.out.next hB)
      clear hB
      have jz0 : (0 : Int) ≤ jz := by omega
      by_cases hjzl : jz < 2
      rotate_left
      · as_aux_lemma =>
        clear Sjz
        have jz1 : ¬ ((jz : Int) < 2) := by omega
        clear hjz hjzl HEjz
        clear ULjz UZ
        go_wp2
        clear jz1
        refine wp_loop_fr (fun i => (i == 14) || (decide (43 ≤ i) && decide (i ≤ 55)) || (decide (371 ≤ i) && decide (i ≤ 521))) 43 (fun v wr => ∃ ka : Nat, ka ≤ 4 ∧ v = .int .i64 ka ∧ Below w124.heap.size w124 wr) (fun v => 4 - (intOf v).toNat) (by kernel_rfl) ⟨0, Nat.zero_le _, (by kernel_rfl), Below.refl _ _⟩ ?_
        intro Eka frka w126 hE hs hrel
        have HEka := Lib.hid hE
        clear hE
        obtain ⟨ka, hka, hfr, hB⟩ := hrel
        rw [hfr]
        have f13 : frka 13 = .pointer (some ⟨Bn, 0, none⟩) := (hs 13 (by decide) rfl).trans (by kernel_rfl)
        have f15 : frka 15 = .bool true := (hs 15 (by decide) rfl).trans (by kernel_rfl)
        have f17 : frka 17 = .slice (some ⟨L, 0, none⟩) 4 4 := (hs 17 (by decide) rfl).trans (by kernel_rfl)
        have f18 : frka 18 = .slice (some ⟨C, 0, none⟩) 4 4 := (hs 18 (by decide) rfl).trans (by kernel_rfl)
        have f19 : frka 19 = .int .i64 i := (hs 19 (by decide) rfl).trans (by kernel_rfl)
        have f27 : frka 27 = .int .i64 ia := (hs 27 (by decide) rfl).trans (by kernel_rfl)
        have f28 : frka 28 = .int .i64 kc := (hs 28 (by decide) rfl).trans (by kernel_rfl)
        have f304 : frka 304 = .slice (some ⟨Z, 0, none⟩) 2 2 := (hs 304 (by decide) rfl).trans (by kernel_rfl)
        have f305 : frka 305 = .int .i64 2 := (hs 305 (by decide) rfl).trans (by kernel_rfl)
        have f306 : frka 306 = .int .i64 jz := (hs 306 (by decide) rfl).trans (by kernel_rfl)
        have SiaNNNNN := Lib.hid (same_step SiaNNNN.out HG.out hs (by kernel_rfl) (by kernel_rfl))
        clear SiaNNNN
        clear hs HG
        have Ska := Lib.hid (same_refl (fun i => (i == 14) || (decide (43 ≤ i) && decide (i ≤ 55)) || (decide (371 ≤ i) && decide (i ≤ 521))) frka)
        refine fr_openw (l := ?lx127) ?hx127 ?ho127
        case hx127 => unfold fr528; rw [f13, f15, f17, f18, f19, f27, f28, f304, f305, f306, hfr]
        intro HGx
        have HG := Lib.hid HGx
        clear HGx f13 f15 f17 f18 f19 f27 f28 f304 f305 f306 hfr
        have ULka := Lib.hid (up_bl w124)
        replace UB := Lib.hid (UB.out.next hB)
        replace UN := Lib.hid (UN.out.next hB)
        replace ULA := Lib.hid (ULA.out.next hB)
        replace ULC := Lib.hid (ULC.out.next hB)
        replace ULia := Lib.hid (ULia.out.next hB)
        replace UAA := Lib.hid (UAA.out.next hB)
        replace ULka := Lib.hid (ULka.out.next hB)
        clear hB
        have ka0 : (0 : Int) ≤ ka := by omega
        by_cases hkal : ka < 4
        rotate_left
        · as_aux_lemma =>
          clear Ska
          have ka1 : ¬ ((ka : Int) < 4) := by omega
          clear hka hkal HEka
          clear UAA
          go_wp2
          refine HEia.out _ _ _ (by kernel_rfl) (same_end SiaNNNNN.out HG.out (by kernel_rfl)) ⟨ia + 1, HMia.out.1, Eq.trans (b := Value.int .i64 ((ia : Int) + 1)) (by kernel_rfl) (by go_num), ULia.out.now⟩ ?_
          show 4 - (intOf (Value.int .i64 ((ia : Int) + 1))).toNat < 4 - (intOf (Value.int .i64 (ia : Int))).toNat
          have hm := HMia.out.2
          simp only [intOf, Int.toNat_natCast]
          first | exact hm | (simp; omega)
        as_aux_lemma =>
        clear SiaNNNNN
        have ka1 : (ka : Int) < 4 := by omega
        have HMka := Lib.hid (show ka + 1 ≤ 4 ∧ 4 - (ka + 1) < 4 - ka from by omega)
        obtain ⟨alK, nlK, clK, zlK, olK, hoK, hc⟩ := areas_at HAR.out (show ka < 4 by omega)
        have UAK := Lib.hid (hc.next ULA.out.now)
        have HOK := Lib.hid hoK
        clear hc hoK
        obtain ⟨eu, ru, V1, V2⟩ := pair_union (al := alA) (n := nlA) (c := clA) (bl := alK) (m := nlK) (d := clK) HOA.out HOK.out
        replace V1 := Lib.hid V1
        replace V2 := Lib.hid V2
        obtain ⟨em, rm, W1, W2⟩ := pair_meet (al := alA) (n := nlA) (c := clA) (bl := alK) (m := nlK) (d := clK) HOA.out HOK.out
        replace W1 := Lib.hid W1
        replace W2 := Lib.hid W2
        obtain ⟨el, rls, X1, X2⟩ := pair_less (al := alA) (n := nlA) (c := clA) (bl := alK) (m := nlK) (d := clK) HOA.out HOK.out
        replace X1 := Lib.hid X1
        replace X2 := Lib.hid X2
        obtain ⟨rct, Y1, Y2⟩ := pair_contains (al := alA) (n := nlA) (c := clA) (bl := alK) (m := nlK) (d := clK) HOA.out HOK.out
        replace Y1 := Lib.hid Y1
        replace Y2 := Lib.hid Y2
        obtain ⟨rsm, Z1, Z2⟩ := pair_same (al := alA) (n := nlA) (c := clA) (bl := alK) (m := nlK) (d := clK) (zs := zlA) (ys := zlK)
        replace Z1 := Lib.hid Z1
        replace Z2 := Lib.hid Z2
        go_wp2
        refine rg_51 (by kernel_rfl) (fun _ _ d _ _ h => by cases d <;> exact h) (by kernel_rfl) (by kernel_rfl) (by kernel_rfl) (by kernel_rfl) ia0 ia1 ka0 ka1 V1.out UAA.out UAK.out ?_
        intro g128 w128 PM alM nM cM hs h1 h2 hv hb
        have f13 : g128 13 = .pointer (some ⟨Bn, 0, none⟩) := (hs 13 (by decide) rfl).trans (by kernel_rfl)
        have f15 : g128 15 = .bool true := (hs 15 (by decide) rfl).trans (by kernel_rfl)
        have f17 : g128 17 = .slice (some ⟨L, 0, none⟩) 4 4 := (hs 17 (by decide) rfl).trans (by kernel_rfl)
        have f18 : g128 18 = .slice (some ⟨C, 0, none⟩) 4 4 := (hs 18 (by decide) rfl).trans (by kernel_rfl)
        have f19 : g128 19 = .int .i64 i := (hs 19 (by decide) rfl).trans (by kernel_rfl)
        have f27 : g128 27 = .int .i64 ia := (hs 27 (by decide) rfl).trans (by kernel_rfl)
        have f28 : g128 28 = .int .i64 kc := (hs 28 (by decide) rfl).trans (by kernel_rfl)
        have f43 : g128 43 = .int .i64 ka := (hs 43 (by decide) rfl).trans (by kernel_rfl)
        have f304 : g128 304 = .slice (some ⟨Z, 0, none⟩) 2 2 := (hs 304 (by decide) rfl).trans (by kernel_rfl)
        have f305 : g128 305 = .int .i64 2 := (hs 305 (by decide) rfl).trans (by kernel_rfl)
        have f306 : g128 306 = .int .i64 jz := (hs 306 (by decide) rfl).trans (by kernel_rfl)
        have SkaN := Lib.hid (same_step Ska.out HG.out hs (by kernel_rfl) (by kernel_rfl))
        clear Ska
        clear hs HG
        refine fr_openq (l := ?lx129) ?hx129 ?ho129
        case hx129 => unfold fr528; rw [f13, f15, f17, f18, f19, f27, f28, f43, f304, f305, f306, h1, h2]
        intro HGx
        have HG := Lib.hid HGx
        clear HGx f13 f15 f17 f18 f19 f27 f28 f43 f304 f305 f306 h1 h2
        replace UB := Lib.hid (UB.out.next hb)
        replace UN := Lib.hid (UN.out.next hb)
        replace ULA := Lib.hid (ULA.out.next hb)
        replace ULC := Lib.hid (ULC.out.next hb)
        replace ULia := Lib.hid (ULia.out.next hb)
        replace UAA := Lib.hid (UAA.out.next hb)
        replace ULka := Lib.hid (ULka.out.next hb)
        replace UAK := Lib.hid (UAK.out.next hb)
        have UM := Lib.hid (up_vg hv.1 hv.2)
        clear hv hb
        go_wp2
        refine rg_52 (by kernel_rfl) (fun _ _ d _ _ h => by cases d <;> exact h) (by kernel_rfl) (by kernel_rfl) (by kernel_rfl) (by kernel_rfl) ia0 ia1 ka0 ka1 V2.out UAA.out UAK.out ?_
        intro g130 w130 PP alP nP cP hs h1 h2 hv hb
        have f13 : g130 13 = .pointer (some ⟨Bn, 0, none⟩) := (hs 13 (by decide) rfl).trans (by kernel_rfl)
        have f15 : g130 15 = .bool true := (hs 15 (by decide) rfl).trans (by kernel_rfl)
        have f17 : g130 17 = .slice (some ⟨L, 0, none⟩) 4 4 := (hs 17 (by decide) rfl).trans (by kernel_rfl)
        have f18 : g130 18 = .slice (some ⟨C, 0, none⟩) 4 4 := (hs 18 (by decide) rfl).trans (by kernel_rfl)
        have f19 : g130 19 = .int .i64 i := (hs 19 (by decide) rfl).trans (by kernel_rfl)
        have f27 : g130 27 = .int .i64 ia := (hs 27 (by decide) rfl).trans (by kernel_rfl)
        have f28 : g130 28 = .int .i64 kc := (hs 28 (by decide) rfl).trans (by kernel_rfl)
        have f43 : g130 43 = .int .i64 ka := (hs 43 (by decide) rfl).trans (by kernel_rfl)
        have f44 : g130 44 = .pointer (some ⟨PM, 0, none⟩) := (hs 44 (by decide) rfl).trans (by kernel_rfl)
        have f45 : g130 45 = .int .i64 eu := (hs 45 (by decide) rfl).trans (by kernel_rfl)
        have f304 : g130 304 = .slice (some ⟨Z, 0, none⟩) 2 2 := (hs 304 (by decide) rfl).trans (by kernel_rfl)
        have f305 : g130 305 = .int .i64 2 := (hs 305 (by decide) rfl).trans (by kernel_rfl)
        have f306 : g130 306 = .int .i64 jz := (hs 306 (by decide) rfl).trans (by kernel_rfl)
        have SkaNN := Lib.hid (same_step SkaN.out HG.out hs (by kernel_rfl) (by kernel_rfl))
        clear SkaN
        clear hs HG
        refine fr_openq (l := ?lx131) ?hx131 ?ho131
        case hx131 => unfold fr528; rw [f13, f15, f17, f18, f19, f27, f28, f43, f44, f45, f304, f305, f306, h1, h2]
        intro HGx
        have HG := Lib.hid HGx
        clear HGx f13 f15 f17 f18 f19 f27 f28 f43 f44 f45 f304 f305 f306 h1 h2
        replace UB := Lib.hid (UB.out.next hb)
        replace UN := Lib.hid (UN.out.next hb)
        replace ULA := Lib.hid (ULA.out.next hb)
        replace ULC := Lib.hid (ULC.out.next hb)
        replace ULia := Lib.hid (ULia.out.next hb)
        replace UAA := Lib.hid (UAA.out.next hb)
        replace ULka := Lib.hid (ULka.out.next hb)
        replace UAK := Lib.hid (UAK.out.next hb)
        replace UM := Lib.hid (UM.out.next hb)
        have UP := Lib.hid (up_vg hv.1 hv.2)
        clear hv hb
        go_wp2
        refine rg_53 (by kernel_rfl) (fun _ _ d _ _ h => by cases d <;> exact h) (by kernel_rfl) (by kernel_rfl) (by kernel_rfl) (by kernel_rfl) ia0 ia1 ka0 ka1 W1.out UAA.out UAK.out ?_
        intro g132 w132 PQ alQ nQ cQ hs h1 h2 hv hb
        have f13 : g132 13 = .pointer (some ⟨Bn, 0, none⟩) := (hs 13 (by decide) rfl).trans (by kernel_rfl)
        have f15 : g132 15 = .bool true := (hs 15 (by decide) rfl).trans (by kernel_rfl)
        have f17 : g132 17 = .slice (some ⟨L, 0, none⟩) 4 4 := (hs 17 (by decide) rfl).trans (by kernel_rfl)
        have f18 : g132 18 = .slice (some ⟨C, 0, none⟩) 4 4 := (hs 18 (by decide) rfl).trans (by kernel_rfl)
        have f19 : g132 19 = .int .i64 i := (hs 19 (by decide) rfl).trans (by kernel_rfl)
        have f27 : g132 27 = .int .i64 ia := (hs 27 (by decide) rfl).trans (by kernel_rfl)
        have f28 : g132 28 = .int .i64 kc := (hs 28 (by decide) rfl).trans (by kernel_rfl)
        have f43 : g132 43 = .int .i64 ka := (hs 43 (by decide) rfl).trans (by kernel_rfl)
        have f44 : g132 44 = .pointer (some ⟨PM, 0, none⟩) := (hs 44 (by decide) rfl).trans (by kernel_rfl)
        have f45 : g132 45 = .int .i64 eu := (hs 45 (by decide) rfl).trans (by kernel_rfl)
        have f46 : g132 46 = .pointer (some ⟨PP, 0, none⟩) := (hs 46 (by decide) rfl).trans (by kernel_rfl)
        have f47 : g132 47 = .int .i64 eu := (hs 47 (by decide) rfl).trans (by kernel_rfl)
        have f304 : g132 304 = .slice (some ⟨Z, 0, none⟩) 2 2 := (hs 304 (by decide) rfl).trans (by kernel_rfl)
        have f305 : g132 305 = .int .i64 2 := (hs 305 (by decide) rfl).trans (by kernel_rfl)
        have f306 : g132 306 = .int .i64 jz := (hs 306 (by decide) rfl).trans (by kernel_rfl)
        have SkaNNN := Lib.hid (same_step SkaNN.out HG.out hs (by kernel_rfl) (by kernel_rfl))
        clear SkaNN
        clear hs HG
        refine fr_openq (l := ?lx133) ?hx133 ?ho133
        case hx133 => unfold fr528; rw [f13, f15, f17, f18, f19, f27, f28, f43, f44, f45, f46, f47, f304, f305, f306, h1, h2]
        intro HGx
        have HG := Lib.hid HGx
        clear HGx f13 f15 f17 f18 f19 f27 f28 f43 f44 f45 f46 f47 f304 f305 f306 h1 h2
        replace UB := Lib.hid (UB.out.next hb)
        replace UN := Lib.hid (UN.out.next hb)
        replace ULA := Lib.hid (ULA.out.next hb)
        replace ULC := Lib.hid (ULC.out.next hb)
        replace ULia := Lib.hid (ULia.out.next hb)
        replace UAA := Lib.hid (UAA.out.next hb)
        replace ULka := Lib.hid (ULka.out.next hb)
        replace UAK := Lib.hid (UAK.out.next hb)
        replace UM := Lib.hid (UM.out.next hb)
        replace UP := Lib.hid (UP.out.next hb)
        have UQ := Lib.hid (up_vg hv.1 hv.2)
        clear hv hb
        go_wp2
        refine rg_54 (by kernel_rfl) (fun _ _ d _ _ h => by cases d <;> exact h) (by kernel_rfl) (by kernel_rfl) (by kernel_rfl) (by kernel_rfl) ia0 ia1 ka0 ka1 W2.out UAA.out UAK.out ?_
        intro g134 w134 PR alR nR cR hs h1 h2 hv hb
        have f13 : g134 13 = .pointer (some ⟨Bn, 0, none⟩) := (hs 13 (by decide) rfl).trans (by kernel_rfl)
        have f15 : g134 15 = .bool true := (hs 15 (by decide) rfl).trans (by kernel_rfl)
        have f17 : g134 17 = .slice (some ⟨L, 0, none⟩) 4 4 := (hs 17 (by decide) rfl).trans (by kernel_rfl)
        have f18 : g134 18 = .slice (some ⟨C, 0, none⟩) 4 4 := (hs 18 (by decide) rfl).trans (by kernel_rfl)
        have f19 : g134 19 = .int .i64 i := (hs 19 (by decide) rfl).trans (by kernel_rfl)
        have f27 : g134 27 = .int .i64 ia := (hs 27 (by decide) rfl).trans (by kernel_rfl)
        have f28 : g134 28 = .int .i64 kc := (hs 28 (by decide) rfl).trans (by kernel_rfl)
        have f43 : g134 43 = .int .i64 ka := (hs 43 (by decide) rfl).trans (by kernel_rfl)
        have f44 : g134 44 = .pointer (some ⟨PM, 0, none⟩) := (hs 44 (by decide) rfl).trans (by kernel_rfl)
        have f45 : g134 45 = .int .i64 eu := (hs 45 (by decide) rfl).trans (by kernel_rfl)
        have f46 : g134 46 = .pointer (some ⟨PP, 0, none⟩) := (hs 46 (by decide) rfl).trans (by kernel_rfl)
        have f47 : g134 47 = .int .i64 eu := (hs 47 (by decide) rfl).trans (by kernel_rfl)
        have f48 : g134 48 = .pointer (some ⟨PQ, 0, none⟩) := (hs 48 (by decide) rfl).trans (by kernel_rfl)
        have f49 : g134 49 = .int .i64 em := (hs 49 (by decide) rfl).trans (by kernel_rfl)
        have f304 : g134 304 = .slice (some ⟨Z, 0, none⟩) 2 2 := (hs 304 (by decide) rfl).trans (by kernel_rfl)
        have f305 : g134 305 = .int .i64 2 := (hs 305 (by decide) rfl).trans (by kernel_rfl)
        have f306 : g134 306 = .int .i64 jz := (hs 306 (by decide) rfl).trans (by kernel_rfl)
        have SkaNNNN := Lib.hid (same_step SkaNNN.out HG.out hs (by kernel_rfl) (by kernel_rfl))
        clear SkaNNN
        clear hs HG
        refine fr_openq (l := ?lx135) ?hx135 ?ho135
        case hx135 => unfold fr528; rw [f13, f15, f17, f18, f19, f27, f28, f43, f44, f45, f46, f47, f48, f49, f304, f305, f306, h1, h2]
        intro HGx
        have HG := Lib.hid HGx
        clear HGx f13 f15 f17 f18 f19 f27 f28 f43 f44 f45 f46 f47 f48 f49 f304 f305 f306 h1 h2
        replace UB := Lib.hid (UB.out.next hb)
        replace UN := Lib.hid (UN.out.next hb)
        replace ULA := Lib.hid (ULA.out.next hb)
        replace ULC := Lib.hid (ULC.out.next hb)
        replace ULia := Lib.hid (ULia.out.next hb)
        replace UAA := Lib.hid (UAA.out.next hb)
        replace ULka := Lib.hid (ULka.out.next hb)
        replace UAK := Lib.hid (UAK.out.next hb)
        replace UM := Lib.hid (UM.out.next hb)
        replace UP := Lib.hid (UP.out.next hb)
        replace UQ := Lib.hid (UQ.out.next hb)
        have UR := Lib.hid (up_vg hv.1 hv.2)
        clear hv hb
        go_wp2
        refine rg_55 (by kernel_rfl) (fun _ _ d _ _ h => by cases d <;> exact h) (by kernel_rfl) (by kernel_rfl) (by kernel_rfl) (by kernel_rfl) ia0 ia1 ka0 ka1 X1.out UAA.out UAK.out ?_
        intro g136 w136 PS alS nS cS hs h1 h2 hv hb
        have f13 : g136 13 = .pointer (some ⟨Bn, 0, none⟩) := (hs 13 (by decide) rfl).trans (by kernel_rfl)
        have f15 : g136 15 = .bool true := (hs 15 (by decide) rfl).trans (by kernel_rfl)
        have f17 : g136 17 = .slice (some ⟨L, 0, none⟩) 4 4 := (hs 17 (by decide) rfl).trans (by kernel_rfl)
        have f18 : g136 18 = .slice (some ⟨C, 0, none⟩) 4 4 := (hs 18 (by decide) rfl).trans (by kernel_rfl)
        have f19 : g136 19 = .int .i64 i := (hs 19 (by decide) rfl).trans (by kernel_rfl)
        have f27 : g136 27 = .int .i64 ia := (hs 27 (by decide) rfl).trans (by kernel_rfl)
        have f28 : g136 28 = .int .i64 kc := (hs 28 (by decide) rfl).trans (by kernel_rfl)
        have f43 : g136 43 = .int .i64 ka := (hs 43 (by decide) rfl).trans (by kernel_rfl)
        have f44 : g136 44 = .pointer (some ⟨PM, 0, none⟩) := (hs 44 (by decide) rfl).trans (by kernel_rfl)
        have f45 : g136 45 = .int .i64 eu := (hs 45 (by decide) rfl).trans (by kernel_rfl)
        have f46 : g136 46 = .pointer (some ⟨PP, 0, none⟩) := (hs 46 (by decide) rfl).trans (by kernel_rfl)
        have f47 : g136 47 = .int .i64 eu := (hs 47 (by decide) rfl).trans (by kernel_rfl)
        have f48 : g136 48 = .pointer (some ⟨PQ, 0, none⟩) := (hs 48 (by decide) rfl).trans (by kernel_rfl)
        have f49 : g136 49 = .int .i64 em := (hs 49 (by decide) rfl).trans (by kernel_rfl)
        have f50 : g136 50 = .pointer (some ⟨PR, 0, none⟩) := (hs 50 (by decide) rfl).trans (by kernel_rfl)
        have f51 : g136 51 = .int .i64 em := (hs 51 (by decide) rfl).trans (by kernel_rfl)
        have f304 : g136 304 = .slice (some ⟨Z, 0, none⟩) 2 2 := (hs 304 (by decide) rfl).trans (by kernel_rfl)
        have f305 : g136 305 = .int .i64 2 := (hs 305 (by decide) rfl).trans (by kernel_rfl)
        have f306 : g136 306 = .int .i64 jz := (hs 306 (by decide) rfl).trans (by kernel_rfl)
        have SkaNNNNN := Lib.hid (same_step SkaNNNN.out HG.out hs (by kernel_rfl) (by kernel_rfl))
        clear SkaNNNN
        clear hs HG
        refine fr_openq (l := ?lx137) ?hx137 ?ho137
        case hx137 => unfold fr528; rw [f13, f15, f17, f18, f19, f27, f28, f43, f44, f45, f46, f47, f48, f49, f50, f51, f304, f305, f306, h1, h2]
        intro HGx
        have HG := Lib.hid HGx
        clear HGx f13 f15 f17 f18 f19 f27 f28 f43 f44 f45 f46 f47 f48 f49 f50 f51 f304 f305 f306 h1 h2
        replace UB := Lib.hid (UB.out.next hb)
        replace UN := Lib.hid (UN.out.next hb)
        replace ULA := Lib.hid (ULA.out.next hb)
        replace ULC := Lib.hid (ULC.out.next hb)
        replace ULia := Lib.hid (ULia.out.next hb)
        replace UAA := Lib.hid (UAA.out.next hb)
        replace ULka := Lib.hid (ULka.out.next hb)
        replace UAK := Lib.hid (UAK.out.next hb)
        replace UM := Lib.hid (UM.out.next hb)
        replace UP := Lib.hid (UP.out.next hb)
        replace UQ := Lib.hid (UQ.out.next hb)
        replace UR := Lib.hid (UR.out.next hb)
        have US := Lib.hid (up_vg hv.1 hv.2)
        clear hv hb
        go_wp2
        refine rg_56 (by kernel_rfl) (fun _ _ d _ _ h => by cases d <;> exact h) (by kernel_rfl) (by kernel_rfl) (by kernel_rfl) (by kernel_rfl) ia0 ia1 ka0 ka1 X2.out UAA.out UAK.out ?_
        intro g138 w138 PT alT nT cT hs h1 h2 hv hb
        have f13 : g138 13 = .pointer (some ⟨Bn, 0, none⟩) := (hs 13 (by decide) rfl).trans (by kernel_rfl)
        have f15 : g138 15 = .bool true := (hs 15 (by decide) rfl).trans (by kernel_rfl)
        have f17 : g138 17 = .slice (some ⟨L, 0, none⟩) 4 4 := (hs 17 (by decide) rfl).trans (by kernel_rfl)
        have f18 : g138 18 = .slice (some ⟨C, 0, none⟩) 4 4 := (hs 18 (by decide) rfl).trans (by kernel_rfl)
        have f19 : g138 19 = .int .i64 i := (hs 19 (by decide) rfl).trans (by kernel_rfl)
        have f27 : g138 27 = .int .i64 ia := (hs 27 (by decide) rfl).trans (by kernel_rfl)
        have f28 : g138 28 = .int .i64 kc := (hs 28 (by decide) rfl).trans (by kernel_rfl)
        have f43 : g138 43 = .int .i64 ka := (hs 43 (by decide) rfl).trans (by kernel_rfl)
        have f44 : g138 44 = .pointer (some ⟨PM, 0, none⟩) := (hs 44 (by decide) rfl).trans (by kernel_rfl)
        have f45 : g138 45 = .int .i64 eu := (hs 45 (by decide) rfl).trans (by kernel_rfl)
        have f46 : g138 46 = .pointer (some ⟨PP, 0, none⟩) := (hs 46 (by decide) rfl).trans (by kernel_rfl)
        have f47 : g138 47 = .int .i64 eu := (hs 47 (by decide) rfl).trans (by kernel_rfl)
        have f48 : g138 48 = .pointer (some ⟨PQ, 0, none⟩) := (hs 48 (by decide) rfl).trans (by kernel_rfl)
        have f49 : g138 49 = .int .i64 em := (hs 49 (by decide) rfl).trans (by kernel_rfl)
        have f50 : g138 50 = .pointer (some ⟨PR, 0, none⟩) := (hs 50 (by decide) rfl).trans (by kernel_rfl)
        have f51 : g138 51 = .int .i64 em := (hs 51 (by decide) rfl).trans (by kernel_rfl)
        have f52 : g138 52 = .pointer (some ⟨PS, 0, none⟩) := (hs 52 (by decide) rfl).trans (by kernel_rfl)
        have f53 : g138 53 = .int .i64 el := (hs 53 (by decide) rfl).trans (by kernel_rfl)
        have f304 : g138 304 = .slice (some ⟨Z, 0, none⟩) 2 2 := (hs 304 (by decide) rfl).trans (by kernel_rfl)
        have f305 : g138 305 = .int .i64 2 := (hs 305 (by decide) rfl).trans (by kernel_rfl)
        have f306 : g138 306 = .int .i64 jz := (hs 306 (by decide) rfl).trans (by kernel_rfl)
        have SkaNNNNNN := Lib.hid (same_step SkaNNNNN.out HG.out hs (by kernel_rfl) (by kernel_rfl))
        clear SkaNNNNN
        clear hs HG
        refine fr_openq (l := ?lx139) ?hx139 ?ho139
        case hx139 => unfold fr528; rw [f13, f15, f17, f18, f19, f27, f28, f43, f44, f45, f46, f47, f48, f49, f50, f51, f52, f53, f304, f305, f306, h1, h2]
        intro HGx
        have HG := Lib.hid HGx
        clear HGx f13 f15 f17 f18 f19 f27 f28 f43 f44 f45 f46 f47 f48 f49 f50 f51 f52 f53 f304 f305 f306 h1 h2
        replace UB := Lib.hid (UB.out.next hb)
        replace UN := Lib.hid (UN.out.next hb)
        replace ULA := Lib.hid (ULA.out.next hb)
        replace ULC := Lib.hid (ULC.out.next hb)
        replace ULia := Lib.hid (ULia.out.next hb)
        replace UAA := Lib.hid (UAA.out.next hb)
        replace ULka := Lib.hid (ULka.out.next hb)
        replace UAK := Lib.hid (UAK.out.next hb)
        replace UM := Lib.hid (UM.out.next hb)
        replace UP := Lib.hid (UP.out.next hb)
        replace UQ := Lib.hid (UQ.out.next hb)
        replace UR := Lib.hid (UR.out.next hb)
        replace US := Lib.hid (US.out.next hb)
        have UT := Lib.hid (up_vg hv.1 hv.2)
        clear hv hb
        clear V1 V2 W1 W2 X1 X2
        go_wp2
        refine rg_57 (eu := eu) (em := em) (el := el) (by kernel_rfl) (fun _ _ d _ _ h => by cases d <;> exact h) (by kernel_rfl) (by kernel_rfl) (by kernel_rfl) (by kernel_rfl) (by kernel_rfl) (by kernel_rfl) (by kernel_rfl) (by kernel_rfl) (by kernel_rfl) (by kernel_rfl) (by kernel_rfl) (by kernel_rfl) (by kernel_rfl) (by kernel_rfl) (by kernel_rfl) (by kernel_rfl) ia0 ia1 ka0 ka1 Y1.out Y2.out Z1.out Z2.out UAA.out UAK.out UM.out UP.out UQ.out UR.out US.out UT.out ?_
        intro g140 w140 hs h1 hb
        have f13 : g140 13 = .pointer (some ⟨Bn, 0, none⟩) := (hs 13 (by decide) rfl).trans (by kernel_rfl)
        have f15 : g140 15 = .bool true := (hs 15 (by decide) rfl).trans (by kernel_rfl)
        have f17 : g140 17 = .slice (some ⟨L, 0, none⟩) 4 4 := (hs 17 (by decide) rfl).trans (by kernel_rfl)
        have f18 : g140 18 = .slice (some ⟨C, 0, none⟩) 4 4 := (hs 18 (by decide) rfl).trans (by kernel_rfl)
        have f19 : g140 19 = .int .i64 i := (hs 19 (by decide) rfl).trans (by kernel_rfl)
        have f27 : g140 27 = .int .i64 ia := (hs 27 (by decide) rfl).trans (by kernel_rfl)
        have f28 : g140 28 = .int .i64 kc := (hs 28 (by decide) rfl).trans (by kernel_rfl)
        have f43 : g140 43 = .int .i64 ka := (hs 43 (by decide) rfl).trans (by kernel_rfl)
        have f44 : g140 44 = .pointer (some ⟨PM, 0, none⟩) := (hs 44 (by decide) rfl).trans (by kernel_rfl)
        have f45 : g140 45 = .int .i64 eu := (hs 45 (by decide) rfl).trans (by kernel_rfl)
        have f46 : g140 46 = .pointer (some ⟨PP, 0, none⟩) := (hs 46 (by decide) rfl).trans (by kernel_rfl)
        have f47 : g140 47 = .int .i64 eu := (hs 47 (by decide) rfl).trans (by kernel_rfl)
        have f48 : g140 48 = .pointer (some ⟨PQ, 0, none⟩) := (hs 48 (by decide) rfl).trans (by kernel_rfl)
        have f49 : g140 49 = .int .i64 em := (hs 49 (by decide) rfl).trans (by kernel_rfl)
        have f50 : g140 50 = .pointer (some ⟨PR, 0, none⟩) := (hs 50 (by decide) rfl).trans (by kernel_rfl)
        have f51 : g140 51 = .int .i64 em := (hs 51 (by decide) rfl).trans (by kernel_rfl)
        have f52 : g140 52 = .pointer (some ⟨PS, 0, none⟩) := (hs 52 (by decide) rfl).trans (by kernel_rfl)
        have f53 : g140 53 = .int .i64 el := (hs 53 (by decide) rfl).trans (by kernel_rfl)
        have f54 : g140 54 = .pointer (some ⟨PT, 0, none⟩) := (hs 54 (by decide) rfl).trans (by kernel_rfl)
        have f55 : g140 55 = .int .i64 el := (hs 55 (by decide) rfl).trans (by kernel_rfl)
        have f304 : g140 304 = .slice (some ⟨Z, 0, none⟩) 2 2 := (hs 304 (by decide) rfl).trans (by kernel_rfl)
        have f305 : g140 305 = .int .i64 2 := (hs 305 (by decide) rfl).trans (by kernel_rfl)
        have f306 : g140 306 = .int .i64 jz := (hs 306 (by decide) rfl).trans (by kernel_rfl)
        have SkaNNNNNNN := Lib.hid (same_step SkaNNNNNN.out HG.out hs (by kernel_rfl) (by kernel_rfl))
        clear SkaNNNNNN
        clear hs HG
        refine fr_openq (l := ?lx141) ?hx141 ?ho141
        case hx141 => unfold fr528; rw [f13, f15, f17, f18, f19, f27, f28, f43, f44, f45, f46, f47, f48, f49, f50, f51, f52, f53, f54, f55, f304, f305, f306, h1]
        intro HGx
        have HG := Lib.hid HGx
        clear HGx f13 f15 f17 f18 f19 f27 f28 f43 f44 f45 f46 f47 f48 f49 f50 f51 f52 f53 f54 f55 f304 f305 f306 h1
        replace UB := Lib.hid (UB.out.next hb)
        replace UN := Lib.hid (UN.out.next hb)
        replace ULA := Lib.hid (ULA.out.next hb)
        replace ULC := Lib.hid (ULC.out.next hb)
        replace ULia := Lib.hid (ULia.out.next hb)
        replace UAA := Lib.hid (UAA.out.next hb)
        replace ULka := Lib.hid (ULka.out.next hb)
        replace UAK := Lib.hid (UAK.out.next hb)
        replace UM := Lib.hid (UM.out.next hb)
        replace UP := Lib.hid (UP.out.next hb)
        replace UQ := Lib.hid (UQ.out.next hb)
        replace UR := Lib.hid (UR.out.next hb)
        replace US := Lib.hid (US.out.next hb)
        replace UT := Lib.hid (UT.out.next hb)
        clear hb
        clear Y1 Y2 Z1 Z2
        clear UM UP UQ UR US UT UAK UAA
        go_wp2
        refine HEka.out _ _ _ (by kernel_rfl) (same_end SkaNNNNNNN.out HG.out (by kernel_rfl)) ⟨ka + 1, HMka.out.1, Eq.trans (b := Value.int .i64 ((ka : Int) + 1)) (by kernel_rfl) (by go_num), ULka.out.now⟩ ?_
        show 4 - (intOf (Value.int .i64 ((ka : Int) + 1))).toNat < 4 - (intOf (Value.int .i64 (ka : Int))).toNat
        have hm := HMka.out.2
        simp only [intOf, Int.toNat_natCast]
        first | exact hm | (simp; omega)
      as_aux_lemma =>
      clear SiaNNNN
      have jz1 : (jz : Int) < 2 := by omega
      have HMjz := Lib.hid (show jz + 1 ≤ 2 ∧ 2 - (jz + 1) < 2 - jz from by omega)
      obtain ⟨pz, qz, hc⟩ := pairs_at UZ.out.now (show jz < 2 by omega)
      have UPQ := Lib.hid hc
      clear hc
      have hl0 := UPQ.out.now.1
      have hl1 := UPQ.out.now.2
      obtain ⟨xt, T, e1, e2, hb2, hk⟩ := box1 w124 #[.int .i64 pz, .int .i64 qz] 35
      have UT := Lib.hid (up_vr hk : Up xt (VR T #[.int .i64 pz, .int .i64 qz] 35))
      replace UB := Lib.hid (UB.out.next hb2)
      replace UN := Lib.hid (UN.out.next hb2)
      replace ULA := Lib.hid (ULA.out.next hb2)
      replace ULC := Lib.hid (ULC.out.next hb2)
      replace ULia := Lib.hid (ULia.out.next hb2)
      replace UAA := Lib.hid (UAA.out.next hb2)
      replace UZ := Lib.hid (UZ.out.next hb2)
      replace ULjz := Lib.hid (ULjz.out.next hb2)
      clear hb2 hk UPQ
      go_wp2
      clear e1 e2 hl0 hl1
      obtain ⟨ew, rw_, V1, V2⟩ := pair_shifted (al := alA) (n := nlA) (c := clA) HOA.out pz
      replace V1 := Lib.hid V1
      replace V2 := Lib.hid V2
      obtain ⟨eg, rg_, W1, W2⟩ := pair_grown (al := alA) (n := nlA) (c := clA) HOA.out qz
      replace W1 := Lib.hid W1
      replace W2 := Lib.hid W2
      go_wp2
      refine rg_41 (by kernel_rfl) (fun _ _ d _ _ h => by cases d <;> exact h) (by kernel_rfl) (by kernel_rfl) (by kernel_rfl) (by kernel_rfl) ia0 ia1 V1.out UAA.out UT.out ?_
      intro g142 w142 PM alM nM cM hs h1 h2 hv hb
      have f13 : g142 13 = .pointer (some ⟨Bn, 0, none⟩) := (hs 13 (by decide) rfl).trans (by kernel_rfl)
      have f15 : g142 15 = .bool true := (hs 15 (by decide) rfl).trans (by kernel_rfl)
      have f17 : g142 17 = .slice (some ⟨L, 0, none⟩) 4 4 := (hs 17 (by decide) rfl).trans (by kernel_rfl)
      have f18 : g142 18 = .slice (some ⟨C, 0, none⟩) 4 4 := (hs 18 (by decide) rfl).trans (by kernel_rfl)
      have f19 : g142 19 = .int .i64 i := (hs 19 (by decide) rfl).trans (by kernel_rfl)
      have f27 : g142 27 = .int .i64 ia := (hs 27 (by decide) rfl).trans (by kernel_rfl)
      have f28 : g142 28 = .int .i64 kc := (hs 28 (by decide) rfl).trans (by kernel_rfl)
      have f34 : g142 34 = .pointer (some ⟨T, 0, none⟩) := (hs 34 (by decide) rfl).trans (by kernel_rfl)
      have f304 : g142 304 = .slice (some ⟨Z, 0, none⟩) 2 2 := (hs 304 (by decide) rfl).trans (by kernel_rfl)
      have f305 : g142 305 = .int .i64 2 := (hs 305 (by decide) rfl).trans (by kernel_rfl)
      have f306 : g142 306 = .int .i64 jz := (hs 306 (by decide) rfl).trans (by kernel_rfl)
      have SjzN := Lib.hid (same_step Sjz.out HG.out hs (by kernel_rfl) (by kernel_rfl))
      clear Sjz
      clear hs HG
      refine fr_openq (l := ?lx143) ?hx143 ?ho143
      case hx143 => unfold fr528; rw [f13, f15, f17, f18, f19, f27, f28, f34, f304, f305, f306, h1, h2]
      intro HGx
      have HG := Lib.hid HGx
      clear HGx f13 f15 f17 f18 f19 f27 f28 f34 f304 f305 f306 h1 h2
      replace UB := Lib.hid (UB.out.next hb)
      replace UN := Lib.hid (UN.out.next hb)
      replace ULA := Lib.hid (ULA.out.next hb)
      replace ULC := Lib.hid (ULC.out.next hb)
      replace ULia := Lib.hid (ULia.out.next hb)
      replace UAA := Lib.hid (UAA.out.next hb)
      replace UZ := Lib.hid (UZ.out.next hb)
      replace ULjz := Lib.hid (ULjz.out.next hb)
      replace UT := Lib.hid (UT.out.next hb)
      have UM := Lib.hid (up_vg hv.1 hv.2)
      clear hv hb
      go_wp2
      refine rg_42 (by kernel_rfl) (fun _ _ d _ _ h => by cases d <;> exact h) (by kernel_rfl) (by kernel_rfl) (by kernel_rfl) (by kernel_rfl) ia0 ia1 V2.out UAA.out UT.out ?_
      intro g144 w144 PP alP nP cP hs h1 h2 hv hb
      have f13 : g144 13 = .pointer (some ⟨Bn, 0, none⟩) := (hs 13 (by decide) rfl).trans (by kernel_rfl)
      have f15 : g144 15 = .bool true := (hs 15 (by decide) rfl).trans (by kernel_rfl)
      have f17 : g144 17 = .slice (some ⟨L, 0, none⟩) 4 4 := (hs 17 (by decide) rfl).trans (by kernel_rfl)
      have f18 : g144 18 = .slice (some ⟨C, 0, none⟩) 4 4 := (hs 18 (by decide) rfl).trans (by kernel_rfl)
      have f19 : g144 19 = .int .i64 i := (hs 19 (by decide) rfl).trans (by kernel_rfl)
      have f27 : g144 27 = .int .i64 ia := (hs 27 (by decide) rfl).trans (by kernel_rfl)
      have f28 : g144 28 = .int .i64 kc := (hs 28 (by decide) rfl).trans (by kernel_rfl)
      have f34 : g144 34 = .pointer (some ⟨T, 0, none⟩) := (hs 34 (by decide) rfl).trans (by kernel_rfl)
      have f35 : g144 35 = .pointer (some ⟨PM, 0, none⟩) := (hs 35 (by decide) rfl).trans (by kernel_rfl)
      have f36 : g144 36 = .int .i64 ew := (hs 36 (by decide) rfl).trans (by kernel_rfl)
      have f304 : g144 304 = .slice (some ⟨Z, 0, none⟩) 2 2 := (hs 304 (by decide) rfl).trans (by kernel_rfl)
      have f305 : g144 305 = .int .i64 2 := (hs 305 (by decide) rfl).trans (by kernel_rfl)
      have f306 : g144 306 = .int .i64 jz := (hs 306 (by decide) rfl).trans (by kernel_rfl)
      have SjzNN := Lib.hid (same_step SjzN.out HG.out hs (by kernel_rfl) (by kernel_rfl))
      clear SjzN
      clear hs HG
      refine fr_openq (l := ?lx145) ?hx145 ?ho145
      case hx145 => unfold fr528; rw [f13, f15, f17, f18, f19, f27, f28, f34, f35, f36, f304, f305, f306, h1, h2]
      intro HGx
      have HG := Lib.hid HGx
      clear HGx f13 f15 f17 f18 f19 f27 f28 f34 f35 f36 f304 f305 f306 h1 h2
      replace UB := Lib.hid (UB.out.next hb)
      replace UN := Lib.hid (UN.out.next hb)
      replace ULA := Lib.hid (ULA.out.next hb)
      replace ULC := Lib.hid (ULC.out.next hb)
      replace ULia := Lib.hid (ULia.out.next hb)
      replace UAA := Lib.hid (UAA.out.next hb)
      replace UZ := Lib.hid (UZ.out.next hb)
      replace ULjz := Lib.hid (ULjz.out.next hb)
      replace UT := Lib.hid (UT.out.next hb)
      replace UM := Lib.hid (UM.out.next hb)
      have UP := Lib.hid (up_vg hv.1 hv.2)
      clear hv hb
      clear V1 V2
      go_wp2
      refine rg_43 (by kernel_rfl) (fun _ _ d _ _ h => by cases d <;> exact h) (by kernel_rfl) (by kernel_rfl) (by kernel_rfl) (by kernel_rfl) ia0 ia1 W1.out UAA.out UT.out ?_
      intro g146 w146 PQ alQ nQ cQ hs h1 h2 hv hb
      have f13 : g146 13 = .pointer (some ⟨Bn, 0, none⟩) := (hs 13 (by decide) rfl).trans (by kernel_rfl)
      have f15 : g146 15 = .bool true := (hs 15 (by decide) rfl).trans (by kernel_rfl)
      have f17 : g146 17 = .slice (some ⟨L, 0, none⟩) 4 4 := (hs 17 (by decide) rfl).trans (by kernel_rfl)
      have f18 : g146 18 = .slice (some ⟨C, 0, none⟩) 4 4 := (hs 18 (by decide) rfl).trans (by kernel_rfl)
      have f19 : g146 19 = .int .i64 i := (hs 19 (by decide) rfl).trans (by kernel_rfl)
      have f27 : g146 27 = .int .i64 ia := (hs 27 (by decide) rfl).trans (by kernel_rfl)
      have f28 : g146 28 = .int .i64 kc := (hs 28 (by decide) rfl).trans (by kernel_rfl)
      have f34 : g146 34 = .pointer (some ⟨T, 0, none⟩) := (hs 34 (by decide) rfl).trans (by kernel_rfl)
      have f35 : g146 35 = .pointer (some ⟨PM, 0, none⟩) := (hs 35 (by decide) rfl).trans (by kernel_rfl)
      have f36 : g146 36 = .int .i64 ew := (hs 36 (by decide) rfl).trans (by kernel_rfl)
      have f37 : g146 37 = .pointer (some ⟨PP, 0, none⟩) := (hs 37 (by decide) rfl).trans (by kernel_rfl)
      have f38 : g146 38 = .int .i64 ew := (hs 38 (by decide) rfl).trans (by kernel_rfl)
      have f304 : g146 304 = .slice (some ⟨Z, 0, none⟩) 2 2 := (hs 304 (by decide) rfl).trans (by kernel_rfl)
      have f305 : g146 305 = .int .i64 2 := (hs 305 (by decide) rfl).trans (by kernel_rfl)
      have f306 : g146 306 = .int .i64 jz := (hs 306 (by decide) rfl).trans (by kernel_rfl)
      have SjzNNN := Lib.hid (same_step SjzNN.out HG.out hs (by kernel_rfl) (by kernel_rfl))
      clear SjzNN
      clear hs HG
      refine fr_openq (l := ?lx147) ?hx147 ?ho147
      case hx147 => unfold fr528; rw [f13, f15, f17, f18, f19, f27, f28, f34, f35, f36, f37, f38, f304, f305, f306, h1, h2]
      intro HGx
      have HG := Lib.hid HGx
      clear HGx f13 f15 f17 f18 f19 f27 f28 f34 f35 f36 f37 f38 f304 f305 f306 h1 h2
      replace UB := Lib.hid (UB.out.next hb)
      replace UN := Lib.hid (UN.out.next hb)
      replace ULA := Lib.hid (ULA.out.next hb)
      replace ULC := Lib.hid (ULC.out.next hb)
      replace ULia := Lib.hid (ULia.out.next hb)
      replace UAA := Lib.hid (UAA.out.next hb)
      replace UZ := Lib.hid (UZ.out.next hb)
      replace ULjz := Lib.hid (ULjz.out.next hb)
      replace UT := Lib.hid (UT.out.next hb)
      replace UM := Lib.hid (UM.out.next hb)
      replace UP := Lib.hid (UP.out.next hb)
      have UQ := Lib.hid (up_vg hv.1 hv.2)
      clear hv hb
      go_wp2
      refine rg_44 (by kernel_rfl) (fun _ _ d _ _ h => by cases d <;> exact h) (by kernel_rfl) (by kernel_rfl) (by kernel_rfl) (by kernel_rfl) ia0 ia1 W2.out UAA.out UT.out ?_
      intro g148 w148 PR alR nR cR hs h1 h2 hv hb
      have f13 : g148 13 = .pointer (some ⟨Bn, 0, none⟩) := (hs 13 (by decide) rfl).trans (by kernel_rfl)
      have f15 : g148 15 = .bool true := (hs 15 (by decide) rfl).trans (by kernel_rfl)
      have f17 : g148 17 = .slice (some ⟨L, 0, none⟩) 4 4 := (hs 17 (by decide) rfl).trans (by kernel_rfl)
      have f18 : g148 18 = .slice (some ⟨C, 0, none⟩) 4 4 := (hs 18 (by decide) rfl).trans (by kernel_rfl)
      have f19 : g148 19 = .int .i64 i := (hs 19 (by decide) rfl).trans (by kernel_rfl)
      have f27 : g148 27 = .int .i64 ia := (hs 27 (by decide) rfl).trans (by kernel_rfl)
      have f28 : g148 28 = .int .i64 kc := (hs 28 (by decide) rfl).trans (by kernel_rfl)
      have f34 : g148 34 = .pointer (some ⟨T, 0, none⟩) := (hs 34 (by decide) rfl).trans (by kernel_rfl)
      have f35 : g148 35 = .pointer (some ⟨PM, 0, none⟩) := (hs 35 (by decide) rfl).trans (by kernel_rfl)
      have f36 : g148 36 = .int .i64 ew := (hs 36 (by decide) rfl).trans (by kernel_rfl)
      have f37 : g148 37 = .pointer (some ⟨PP, 0, none⟩) := (hs 37 (by decide) rfl).trans (by kernel_rfl)
      have f38 : g148 38 = .int .i64 ew := (hs 38 (by decide) rfl).trans (by kernel_rfl)
      have f39 : g148 39 = .pointer (some ⟨PQ, 0, none⟩) := (hs 39 (by decide) rfl).trans (by kernel_rfl)
      have f40 : g148 40 = .int .i64 eg := (hs 40 (by decide) rfl).trans (by kernel_rfl)
      have f304 : g148 304 = .slice (some ⟨Z, 0, none⟩) 2 2 := (hs 304 (by decide) rfl).trans (by kernel_rfl)
      have f305 : g148 305 = .int .i64 2 := (hs 305 (by decide) rfl).trans (by kernel_rfl)
      have f306 : g148 306 = .int .i64 jz := (hs 306 (by decide) rfl).trans (by kernel_rfl)
      have SjzNNNN := Lib.hid (same_step SjzNNN.out HG.out hs (by kernel_rfl) (by kernel_rfl))
      clear SjzNNN
      clear hs HG
      refine fr_openq (l := ?lx149) ?hx149 ?ho149
      case hx149 => unfold fr528; rw [f13, f15, f17, f18, f19, f27, f28, f34, f35, f36, f37, f38, f39, f40, f304, f305, f306, h1, h2]
      intro HGx
      have HG := Lib.hid HGx
      clear HGx f13 f15 f17 f18 f19 f27 f28 f34 f35 f36 f37 f38 f39 f40 f304 f305 f306 h1 h2
      replace UB := Lib.hid (UB.out.next hb)
      replace UN := Lib.hid (UN.out.next hb)
      replace ULA := Lib.hid (ULA.out.next hb)
      replace ULC := Lib.hid (ULC.out.next hb)
      replace ULia := Lib.hid (ULia.out.next hb)
      replace UAA := Lib.hid (UAA.out.next hb)
      replace UZ := Lib.hid (UZ.out.next hb)
      replace ULjz := Lib.hid (ULjz.out.next hb)
      replace UT := Lib.hid (UT.out.next hb)
      replace UM := Lib.hid (UM.out.next hb)
      replace UP := Lib.hid (UP.out.next hb)
      replace UQ := Lib.hid (UQ.out.next hb)
      have UR := Lib.hid (up_vg hv.1 hv.2)
      clear hv hb
      clear W1 W2
      clear UAA UT
      have hl0 := UM.out.now.cell
      have hl1 := UP.out.now.cell
      go_wp2_with fail
      clear hl0 hl1
      (with_reducible refine (rsame_eq UM.out.now.1 UP.out.now.1).mono ?_)
      rintro e w150 ⟨rfl, hb⟩
      replace UB := Lib.hid (UB.out.next hb)
      replace UN := Lib.hid (UN.out.next hb)
      replace ULA := Lib.hid (ULA.out.next hb)
      replace ULC := Lib.hid (ULC.out.next hb)
      replace ULia := Lib.hid (ULia.out.next hb)
      replace UZ := Lib.hid (UZ.out.next hb)
      replace ULjz := Lib.hid (ULjz.out.next hb)
      replace UM := Lib.hid (UM.out.next hb)
      replace UP := Lib.hid (UP.out.next hb)
      replace UQ := Lib.hid (UQ.out.next hb)
      replace UR := Lib.hid (UR.out.next hb)
      clear hb
      have hl0 := UQ.out.now.cell
      have hl1 := UR.out.now.cell
      go_wp2_with fail
      clear hl0 hl1
      (with_reducible refine (rsame_eq UQ.out.now.1 UR.out.now.1).mono ?_)
      rintro e w151 ⟨rfl, hb⟩
      replace UB := Lib.hid (UB.out.next hb)
      replace UN := Lib.hid (UN.out.next hb)
      replace ULA := Lib.hid (ULA.out.next hb)
      replace ULC := Lib.hid (ULC.out.next hb)
      replace ULia := Lib.hid (ULia.out.next hb)
      replace UZ := Lib.hid (UZ.out.next hb)
      replace ULjz := Lib.hid (ULjz.out.next hb)
      replace UM := Lib.hid (UM.out.next hb)
      replace UP := Lib.hid (UP.out.next hb)
      replace UQ := Lib.hid (UQ.out.next hb)
      replace UR := Lib.hid (UR.out.next hb)
      clear hb
      clear UM UP UQ UR
      go_wp2
      refine HEjz.out _ _ _ (by kernel_rfl) (same_end SjzNNNN.out HG.out (by kernel_rfl)) ⟨jz + 1, HMjz.out.1, Eq.trans (b := Value.int .i64 ((jz : Int) + 1)) (by kernel_rfl) (by go_num), ULjz.out.now⟩ ?_
      show 2 - (intOf (Value.int .i64 ((jz : Int) + 1))).toNat < 2 - (intOf (Value.int .i64 (jz : Int))).toNat
      have hm := HMjz.out.2
      simp only [intOf, Int.toNat_natCast]
      first | exact hm | (simp; omega)
    as_aux_lemma =>
    clear SiaNN
    have kc1 : (kc : Int) < 4 := by omega
    have HMkc := Lib.hid (show kc + 1 ≤ 4 ∧ 4 - (kc + 1) < 4 - kc from by omega)
    obtain ⟨xk, yk, hc⟩ := cells4_at HCL.out (show kc < 4 by omega)
    have UCk := Lib.hid (hc.next ULC.out.now)
    clear hc
    obtain ⟨ew, rw_, V1, V2⟩ := pair_with (al := alA) (n := nlA) (c := clA) HOA.out xk yk
    replace V1 := Lib.hid V1
    replace V2 := Lib.hid V2
    obtain ⟨rh, W1, W2⟩ := pair_has (al := alA) (n := nlA) (c := clA) HOA.out xk yk
    replace W1 := Lib.hid W1
    replace W2 := Lib.hid W2
    go_wp2
    refine rg_34 (by kernel_rfl) (fun _ _ d _ _ h => by cases d <;> exact h) (by kernel_rfl) (by kernel_rfl) (by kernel_rfl) (by kernel_rfl) (by kernel_rfl) ia0 ia1 kc0 kc1 V1.out UAA.out UCk.out ?_
    intro g152 w152 PM alM nM cM hs h1 h2 hv hb
    have f13 : g152 13 = .pointer (some ⟨Bn, 0, none⟩) := (hs 13 (by decide) rfl).trans (by kernel_rfl)
    have f15 : g152 15 = .bool true := (hs 15 (by decide) rfl).trans (by kernel_rfl)
    have f17 : g152 17 = .slice (some ⟨L, 0, none⟩) 4 4 := (hs 17 (by decide) rfl).trans (by kernel_rfl)
    have f18 : g152 18 = .slice (some ⟨C, 0, none⟩) 4 4 := (hs 18 (by decide) rfl).trans (by kernel_rfl)
    have f19 : g152 19 = .int .i64 i := (hs 19 (by decide) rfl).trans (by kernel_rfl)
    have f27 : g152 27 = .int .i64 ia := (hs 27 (by decide) rfl).trans (by kernel_rfl)
    have f28 : g152 28 = .int .i64 kc := (hs 28 (by decide) rfl).trans (by kernel_rfl)
    have SkcN := Lib.hid (same_step Skc.out HG.out hs (by kernel_rfl) (by kernel_rfl))
    clear Skc
    clear hs HG
    refine fr_openq (l := ?lx153) ?hx153 ?ho153
    case hx153 => unfold fr528; rw [f13, f15, f17, f18, f19, f27, f28, h1, h2]
    intro HGx
    have HG := Lib.hid HGx
    clear HGx f13 f15 f17 f18 f19 f27 f28 h1 h2
    replace UB := Lib.hid (UB.out.next hb)
    replace UN := Lib.hid (UN.out.next hb)
    replace ULA := Lib.hid (ULA.out.next hb)
    replace ULC := Lib.hid (ULC.out.next hb)
    replace ULia := Lib.hid (ULia.out.next hb)
    replace UAA := Lib.hid (UAA.out.next hb)
    replace ULkc := Lib.hid (ULkc.out.next hb)
    replace UCk := Lib.hid (UCk.out.next hb)
    have UM := Lib.hid (up_vg hv.1 hv.2)
    clear hv hb
    go_wp2
    refine rg_35 (by kernel_rfl) (fun _ _ d _ _ h => by cases d <;> exact h) (by kernel_rfl) (by kernel_rfl) (by kernel_rfl) (by kernel_rfl) (by kernel_rfl) ia0 ia1 kc0 kc1 V2.out UAA.out UCk.out ?_
    intro g154 w154 PW alW nW cW hs h1 h2 hv hb
    have f13 : g154 13 = .pointer (some ⟨Bn, 0, none⟩) := (hs 13 (by decide) rfl).trans (by kernel_rfl)
    have f15 : g154 15 = .bool true := (hs 15 (by decide) rfl).trans (by kernel_rfl)
    have f17 : g154 17 = .slice (some ⟨L, 0, none⟩) 4 4 := (hs 17 (by decide) rfl).trans (by kernel_rfl)
    have f18 : g154 18 = .slice (some ⟨C, 0, none⟩) 4 4 := (hs 18 (by decide) rfl).trans (by kernel_rfl)
    have f19 : g154 19 = .int .i64 i := (hs 19 (by decide) rfl).trans (by kernel_rfl)
    have f27 : g154 27 = .int .i64 ia := (hs 27 (by decide) rfl).trans (by kernel_rfl)
    have f28 : g154 28 = .int .i64 kc := (hs 28 (by decide) rfl).trans (by kernel_rfl)
    have f29 : g154 29 = .pointer (some ⟨PM, 0, none⟩) := (hs 29 (by decide) rfl).trans (by kernel_rfl)
    have f30 : g154 30 = .int .i64 ew := (hs 30 (by decide) rfl).trans (by kernel_rfl)
    have SkcNN := Lib.hid (same_step SkcN.out HG.out hs (by kernel_rfl) (by kernel_rfl))
    clear SkcN
    clear hs HG
    refine fr_openq (l := ?lx155) ?hx155 ?ho155
    case hx155 => unfold fr528; rw [f13, f15, f17, f18, f19, f27, f28, f29, f30, h1, h2]
    intro HGx
    have HG := Lib.hid HGx
    clear HGx f13 f15 f17 f18 f19 f27 f28 f29 f30 h1 h2
    replace UB := Lib.hid (UB.out.next hb)
    replace UN := Lib.hid (UN.out.next hb)
    replace ULA := Lib.hid (ULA.out.next hb)
    replace ULC := Lib.hid (ULC.out.next hb)
    replace ULia := Lib.hid (ULia.out.next hb)
    replace UAA := Lib.hid (UAA.out.next hb)
    replace ULkc := Lib.hid (ULkc.out.next hb)
    replace UCk := Lib.hid (UCk.out.next hb)
    replace UM := Lib.hid (UM.out.next hb)
    have UW := Lib.hid (up_vg hv.1 hv.2)
    clear hv hb
    go_wp2
    refine rg_36 (ew := ew) (by kernel_rfl) (fun _ _ d _ _ h => by cases d <;> exact h) (by kernel_rfl) (by kernel_rfl) (by kernel_rfl) (by kernel_rfl) (by kernel_rfl) (by kernel_rfl) (by kernel_rfl) (by kernel_rfl) (by kernel_rfl) ia0 ia1 kc0 kc1 W1.out W2.out UAA.out UCk.out UM.out UW.out ?_
    intro g156 w156 hs h1 hb
    have f13 : g156 13 = .pointer (some ⟨Bn, 0, none⟩) := (hs 13 (by decide) rfl).trans (by kernel_rfl)
    have f15 : g156 15 = .bool true := (hs 15 (by decide) rfl).trans (by kernel_rfl)
    have f17 : g156 17 = .slice (some ⟨L, 0, none⟩) 4 4 := (hs 17 (by decide) rfl).trans (by kernel_rfl)
    have f18 : g156 18 = .slice (some ⟨C, 0, none⟩) 4 4 := (hs 18 (by decide) rfl).trans (by kernel_rfl)
    have f19 : g156 19 = .int .i64 i := (hs 19 (by decide) rfl).trans (by kernel_rfl)
    have f27 : g156 27 = .int .i64 ia := (hs 27 (by decide) rfl).trans (by kernel_rfl)
    have f28 : g156 28 = .int .i64 kc := (hs 28 (by decide) rfl).trans (by kernel_rfl)
    have f29 : g156 29 = .pointer (some ⟨PM, 0, none⟩) := (hs 29 (by decide) rfl).trans (by kernel_rfl)
    have f30 : g156 30 = .int .i64 ew := (hs 30 (by decide) rfl).trans (by kernel_rfl)
    have f31 : g156 31 = .pointer (some ⟨PW, 0, none⟩) := (hs 31 (by decide) rfl).trans (by kernel_rfl)
    have f32 : g156 32 = .int .i64 ew := (hs 32 (by decide) rfl).trans (by kernel_rfl)
    have SkcNNN := Lib.hid (same_step SkcNN.out HG.out hs (by kernel_rfl) (by kernel_rfl))
    clear SkcNN
    clear hs HG
    refine fr_openq (l := ?lx157) ?hx157 ?ho157
    case hx157 => unfold fr528; rw [f13, f15, f17, f18, f19, f27, f28, f29, f30, f31, f32, h1]
    intro HGx
    have HG := Lib.hid HGx
    clear HGx f13 f15 f17 f18 f19 f27 f28 f29 f30 f31 f32 h1
    replace UB := Lib.hid (UB.out.next hb)
    replace UN := Lib.hid (UN.out.next hb)
    replace ULA := Lib.hid (ULA.out.next hb)
    replace ULC := Lib.hid (ULC.out.next hb)
    replace ULia := Lib.hid (ULia.out.next hb)
    replace UAA := Lib.hid (UAA.out.next hb)
    replace ULkc := Lib.hid (ULkc.out.next hb)
    replace UCk := Lib.hid (UCk.out.next hb)
    replace UM := Lib.hid (UM.out.next hb)
    replace UW := Lib.hid (UW.out.next hb)
    clear hb
    clear V1 V2 W1 W2
    clear UM UW UCk UAA
    go_wp2
    refine HEkc.out _ _ _ (by kernel_rfl) (same_end SkcNNN.out HG.out (by kernel_rfl)) ⟨kc + 1, HMkc.out.1, Eq.trans (b := Value.int .i64 ((kc : Int) + 1)) (by kernel_rfl) (by go_num), ULkc.out.now⟩ ?_
    show 4 - (intOf (Value.int .i64 ((kc : Int) + 1))).toNat < 4 - (intOf (Value.int .i64 (kc : Int))).toNat
    have hm := HMkc.out.2
    simp only [intOf, Int.toNat_natCast]
    first | exact hm | (simp; omega)
  as_aux_lemma =>
  have i1 : (i : Int) < 4 := by omega
  have HMi := Lib.hid (show i + 1 ≤ 4 ∧ 4 - (i + 1) < 4 - i from by omega)
  obtain ⟨xi, yi, hc⟩ := cells4_at HCL.out (show i < 4 by omega)
  have UCi := Lib.hid (hc.next ULC.out.now)
  clear hc
  obtain ⟨r, V1, V2⟩ := pair_vc xi yi
  replace V1 := Lib.hid V1
  replace V2 := Lib.hid V2
  go_wp2
  refine rg_11 (by kernel_rfl) (fun _ _ d _ _ h => by cases d <;> exact h) (by kernel_rfl) (by kernel_rfl) (by kernel_rfl) i0 i1 V1.out V2.out UCi.out ?_
  intro g158 w158 hs h1 hb
  have f13 : g158 13 = .pointer (some ⟨Bn, 0, none⟩) := (hs 13 (by decide) rfl).trans (by kernel_rfl)
  have f15 : g158 15 = .bool true := (hs 15 (by decide) rfl).trans (by kernel_rfl)
  have f17 : g158 17 = .slice (some ⟨L, 0, none⟩) 4 4 := (hs 17 (by decide) rfl).trans (by kernel_rfl)
  have f18 : g158 18 = .slice (some ⟨C, 0, none⟩) 4 4 := (hs 18 (by decide) rfl).trans (by kernel_rfl)
  have f19 : g158 19 = .int .i64 i := (hs 19 (by decide) rfl).trans (by kernel_rfl)
  have SiN := Lib.hid (same_step Si.out HG.out hs (by kernel_rfl) (by kernel_rfl))
  clear Si
  clear hs HG
  refine fr_openq (l := ?lx159) ?hx159 ?ho159
  case hx159 => unfold fr528; rw [f13, f15, f17, f18, f19, h1]
  intro HGx
  have HG := Lib.hid HGx
  clear HGx f13 f15 f17 f18 f19 h1
  replace UB := Lib.hid (UB.out.next hb)
  replace UN := Lib.hid (UN.out.next hb)
  replace ULA := Lib.hid (ULA.out.next hb)
  replace ULC := Lib.hid (ULC.out.next hb)
  replace ULi := Lib.hid (ULi.out.next hb)
  replace UCi := Lib.hid (UCi.out.next hb)
  clear hb
  clear V1 V2
  go_wp2
  refine wp_loop_fr (fun i => (i == 14) || (i == 20) || (decide (108 ≤ i) && decide (i ≤ 132))) 20 (fun v wr => ∃ k : Nat, k ≤ 4 ∧ v = .int .i64 k ∧ Below w158.heap.size w158 wr) (fun v => 4 - (intOf v).toNat) (by kernel_rfl) ⟨0, Nat.zero_le _, (by kernel_rfl), Below.refl _ _⟩ ?_
  intro Ek frk w160 hE hs hrel
  have HEk := Lib.hid hE
  clear hE
  obtain ⟨k, hk, hfr, hB⟩ := hrel
  rw [hfr]
  have f13 : frk 13 = .pointer (some ⟨Bn, 0, none⟩) := (hs 13 (by decide) rfl).trans (by kernel_rfl)
  have f15 : frk 15 = .bool true := (hs 15 (by decide) rfl).trans (by kernel_rfl)
  have f17 : frk 17 = .slice (some ⟨L, 0, none⟩) 4 4 := (hs 17 (by decide) rfl).trans (by kernel_rfl)
  have f18 : frk 18 = .slice (some ⟨C, 0, none⟩) 4 4 := (hs 18 (by decide) rfl).trans (by kernel_rfl)
  have f19 : frk 19 = .int .i64 i := (hs 19 (by decide) rfl).trans (by kernel_rfl)
  have SiNN := Lib.hid (same_step SiN.out HG.out hs (by kernel_rfl) (by kernel_rfl))
  clear SiN
  clear hs HG
  have Sk := Lib.hid (same_refl (fun i => (i == 14) || (i == 20) || (decide (108 ≤ i) && decide (i ≤ 132))) frk)
  refine fr_openw (l := ?lx161) ?hx161 ?ho161
  case hx161 => unfold fr528; rw [f13, f15, f17, f18, f19, hfr]
  intro HGx
  have HG := Lib.hid HGx
  clear HGx f13 f15 f17 f18 f19 hfr
  have ULk := Lib.hid (up_bl w158)
  replace UB := Lib.hid (UB.out.next hB)
  replace UN := Lib.hid (UN.out.next hB)
  replace ULA := Lib.hid (ULA.out.next hB)
  replace ULC := Lib.hid (ULC.out.next hB)
  replace ULi := Lib.hid (ULi.out.next hB)
  replace UCi := Lib.hid (UCi.out.next hB)
  replace ULk := Lib.hid (ULk.out.next hB)
  clear hB
  have k0 : (0 : Int) ≤ k := by omega
  by_cases hkl : k < 4
  rotate_left
  · as_aux_lemma =>
    clear Sk
    have k1 : ¬ ((k : Int) < 4) := by omega
    clear hk hkl HEk
    go_wp2
    clear k1
    go_wp2
    refine rg_18 (by kernel_rfl) (fun _ _ d _ _ h => by cases d <;> exact h) (by kernel_rfl) (by kernel_rfl) HS.out HT.out PS.out PT.out UN.out ?_
    intro g162 w162 Z hs h1 h2 h3 hv hb
    have f13 : g162 13 = .pointer (some ⟨Bn, 0, none⟩) := (hs 13 (by decide) rfl).trans (by kernel_rfl)
    have f15 : g162 15 = .bool true := (hs 15 (by decide) rfl).trans (by kernel_rfl)
    have f17 : g162 17 = .slice (some ⟨L, 0, none⟩) 4 4 := (hs 17 (by decide) rfl).trans (by kernel_rfl)
    have f18 : g162 18 = .slice (some ⟨C, 0, none⟩) 4 4 := (hs 18 (by decide) rfl).trans (by kernel_rfl)
    have f19 : g162 19 = .int .i64 i := (hs 19 (by decide) rfl).trans (by kernel_rfl)
    have f20 : g162 20 = .int .i64 k := (hs 20 (by decide) rfl).trans (by kernel_rfl)
    have SiNNN := Lib.hid (same_step SiNN.out HG.out hs (by kernel_rfl) (by kernel_rfl))
    clear SiNN
    clear hs HG
    refine fr_openq (l := ?lx163) ?hx163 ?ho163
    case hx163 => unfold fr528; rw [f13, f15, f17, f18, f19, f20, h1, h2, h3]
    intro HGx
    have HG := Lib.hid HGx
    clear HGx f13 f15 f17 f18 f19 f20 h1 h2 h3
    replace UB := Lib.hid (UB.out.next hb)
    replace UN := Lib.hid (UN.out.next hb)
    replace ULA := Lib.hid (ULA.out.next hb)
    replace ULC := Lib.hid (ULC.out.next hb)
    replace ULi := Lib.hid (ULi.out.next hb)
    replace UCi := Lib.hid (UCi.out.next hb)
    replace ULk := Lib.hid (ULk.out.next hb)
    have UZ := Lib.hid (up_vr hv)
    clear hv hb
    go_wp2
    refine wp_loop_fr (fun i => (i == 14) || (decide (22 ≤ i) && decide (i ≤ 26)) || (decide (149 ≤ i) && decide (i ≤ 186))) 149 (fun v wr => ∃ j : Nat, j ≤ 2 ∧ v = .int .i64 j ∧ Below w162.heap.size w162 wr) (fun v => 2 - (intOf v).toNat) (by kernel_rfl) ⟨0, Nat.zero_le _, (by kernel_rfl), Below.refl _ _⟩ ?_
    intro Ej frj w164 hE hs hrel
    have HEj := Lib.hid hE
    clear hE
    obtain ⟨j, hj, hfr, hB⟩ := hrel
    rw [hfr]
    have f13 : frj 13 = .pointer (some ⟨Bn, 0, none⟩) := (hs 13 (by decide) rfl).trans (by kernel_rfl)
    have f15 : frj 15 = .bool true := (hs 15 (by decide) rfl).trans (by kernel_rfl)
    have f17 : frj 17 = .slice (some ⟨L, 0, none⟩) 4 4 := (hs 17 (by decide) rfl).trans (by kernel_rfl)
    have f18 : frj 18 = .slice (some ⟨C, 0, none⟩) 4 4 := (hs 18 (by decide) rfl).trans (by kernel_rfl)
    have f19 : frj 19 = .int .i64 i := (hs 19 (by decide) rfl).trans (by kernel_rfl)
    have f20 : frj 20 = .int .i64 k := (hs 20 (by decide) rfl).trans (by kernel_rfl)
    have f147 : frj 147 = .slice (some ⟨Z, 0, none⟩) 2 2 := (hs 147 (by decide) rfl).trans (by kernel_rfl)
    have f148 : frj 148 = .int .i64 2 := (hs 148 (by decide) rfl).trans (by kernel_rfl)
    have SiNNNN := Lib.hid (same_step SiNNN.out HG.out hs (by kernel_rfl) (by kernel_rfl))
    clear SiNNN
    clear hs HG
    have Sj := Lib.hid (same_refl (fun i => (i == 14) || (decide (22 ≤ i) && decide (i ≤ 26)) || (decide (149 ≤ i) && decide (i ≤ 186))) frj)
    refine fr_openw (l := ?lx165) ?hx165 ?ho165
    case hx165 => unfold fr528; rw [f13, f15, f17, f18, f19, f20, f147, f148, hfr]
    intro HGx
    have HG := Lib.hid HGx
    clear HGx f13 f15 f17 f18 f19 f20 f147 f148 hfr
    have ULj := Lib.hid (up_bl w162)
    replace UB := Lib.hid (UB.out.next hB)
    replace UN := Lib.hid (UN.out.next hB)
    replace ULA := Lib.hid (ULA.out.next hB)
    replace ULC := Lib.hid (ULC.out.next hB)
    replace ULi := Lib.hid (ULi.out.next hB)
    replace UCi := Lib.hid (UCi.out.next hB)
    replace ULk := Lib.hid (ULk.out.next hB)
    replace UZ := Lib.hid (UZ.out.next hB)
    replace ULj := Lib.hid (ULj.out.next hB)
    clear hB
    have j0 : (0 : Int) ≤ j := by omega
    by_cases hjl : j < 2
    rotate_left
    · as_aux_lemma =>
      clear Sj
      have j1 : ¬ ((j : Int) < 2) := by omega
      clear hj hjl HEj
      clear UZ UCi
      go_wp2
      refine HEi.out _ _ _ (by kernel_rfl) (same_end SiNNNN.out HG.out (by kernel_rfl)) ⟨i + 1, HMi.out.1, Eq.trans (b := Value.int .i64 ((i : Int) + 1)) (by kernel_rfl) (by go_num), ULi.out.now⟩ ?_
      show 4 - (intOf (Value.int .i64 ((i : Int) + 1))).toNat < 4 - (intOf (Value.int .i64 (i : Int))).toNat
      have hm := HMi.out.2
      simp only [intOf, Int.toNat_natCast]
      first | exact hm | (simp; omega)
    as_aux_lemma =>
    clear SiNNNN
    have j1 : (j : Int) < 2 := by omega
    have HMj := Lib.hid (show j + 1 ≤ 2 ∧ 2 - (j + 1) < 2 - j from by omega)
    obtain ⟨pz, qz, hc⟩ := pairs_at UZ.out.now (show j < 2 by omega)
    have UPQ := Lib.hid hc
    clear hc
    have hl0 := UPQ.out.now.1
    have hl1 := UPQ.out.now.2
    obtain ⟨xt, T, e1, e2, hb2, hk⟩ := box1 w164 #[.int .i64 pz, .int .i64 qz] 35
    have UT := Lib.hid (up_vr hk : Up xt (VR T #[.int .i64 pz, .int .i64 qz] 35))
    replace UB := Lib.hid (UB.out.next hb2)
    replace UN := Lib.hid (UN.out.next hb2)
    replace ULA := Lib.hid (ULA.out.next hb2)
    replace ULC := Lib.hid (ULC.out.next hb2)
    replace ULi := Lib.hid (ULi.out.next hb2)
    replace UCi := Lib.hid (UCi.out.next hb2)
    replace ULk := Lib.hid (ULk.out.next hb2)
    replace UZ := Lib.hid (UZ.out.next hb2)
    replace ULj := Lib.hid (ULj.out.next hb2)
    clear hb2 hk UPQ
    go_wp2
    clear e1 e2 hl0 hl1
    obtain ⟨ee, rr, V1, V2⟩ := pair_box xi yi pz qz
    replace V1 := Lib.hid V1
    replace V2 := Lib.hid V2
    go_wp2
    refine rg_21 (by kernel_rfl) (fun _ _ d _ _ h => by cases d <;> exact h) (by kernel_rfl) (by kernel_rfl) (by kernel_rfl) (by kernel_rfl) i0 i1 V1.out UCi.out UT.out ?_
    intro g166 w166 PM alM nM cM hs h1 h2 hv hb
    have f13 : g166 13 = .pointer (some ⟨Bn, 0, none⟩) := (hs 13 (by decide) rfl).trans (by kernel_rfl)
    have f15 : g166 15 = .bool true := (hs 15 (by decide) rfl).trans (by kernel_rfl)
    have f17 : g166 17 = .slice (some ⟨L, 0, none⟩) 4 4 := (hs 17 (by decide) rfl).trans (by kernel_rfl)
    have f18 : g166 18 = .slice (some ⟨C, 0, none⟩) 4 4 := (hs 18 (by decide) rfl).trans (by kernel_rfl)
    have f19 : g166 19 = .int .i64 i := (hs 19 (by decide) rfl).trans (by kernel_rfl)
    have f20 : g166 20 = .int .i64 k := (hs 20 (by decide) rfl).trans (by kernel_rfl)
    have f22 : g166 22 = .pointer (some ⟨T, 0, none⟩) := (hs 22 (by decide) rfl).trans (by kernel_rfl)
    have f147 : g166 147 = .slice (some ⟨Z, 0, none⟩) 2 2 := (hs 147 (by decide) rfl).trans (by kernel_rfl)
    have f148 : g166 148 = .int .i64 2 := (hs 148 (by decide) rfl).trans (by kernel_rfl)
    have f149 : g166 149 = .int .i64 j := (hs 149 (by decide) rfl).trans (by kernel_rfl)
    have SjN := Lib.hid (same_step Sj.out HG.out hs (by kernel_rfl) (by kernel_rfl))
    clear Sj
    clear hs HG
    refine fr_openq (l := ?lx167) ?hx167 ?ho167
    case hx167 => unfold fr528; rw [f13, f15, f17, f18, f19, f20, f22, f147, f148, f149, h1, h2]
    intro HGx
    have HG := Lib.hid HGx
    clear HGx f13 f15 f17 f18 f19 f20 f22 f147 f148 f149 h1 h2
    replace UB := Lib.hid (UB.out.next hb)
    replace UN := Lib.hid (UN.out.next hb)
    replace ULA := Lib.hid (ULA.out.next hb)
    replace ULC := Lib.hid (ULC.out.next hb)
    replace ULi := Lib.hid (ULi.out.next hb)
    replace UCi := Lib.hid (UCi.out.next hb)
    replace ULk := Lib.hid (ULk.out.next hb)
    replace UZ := Lib.hid (UZ.out.next hb)
    replace ULj := Lib.hid (ULj.out.next hb)
    replace UT := Lib.hid (UT.out.next hb)
    have UM := Lib.hid (up_vg hv.1 hv.2)
    clear hv hb
    go_wp2
    refine rg_22 (by kernel_rfl) (fun _ _ d _ _ h => by cases d <;> exact h) (by kernel_rfl) (by kernel_rfl) (by kernel_rfl) (by kernel_rfl) i0 i1 V2.out UCi.out UT.out ?_
    intro g168 w168 PW alW nW cW hs h1 h2 hv hb
    have f13 : g168 13 = .pointer (some ⟨Bn, 0, none⟩) := (hs 13 (by decide) rfl).trans (by kernel_rfl)
    have f15 : g168 15 = .bool true := (hs 15 (by decide) rfl).trans (by kernel_rfl)
    have f17 : g168 17 = .slice (some ⟨L, 0, none⟩) 4 4 := (hs 17 (by decide) rfl).trans (by kernel_rfl)
    have f18 : g168 18 = .slice (some ⟨C, 0, none⟩) 4 4 := (hs 18 (by decide) rfl).trans (by kernel_rfl)
    have f19 : g168 19 = .int .i64 i := (hs 19 (by decide) rfl).trans (by kernel_rfl)
    have f20 : g168 20 = .int .i64 k := (hs 20 (by decide) rfl).trans (by kernel_rfl)
    have f22 : g168 22 = .pointer (some ⟨T, 0, none⟩) := (hs 22 (by decide) rfl).trans (by kernel_rfl)
    have f23 : g168 23 = .pointer (some ⟨PM, 0, none⟩) := (hs 23 (by decide) rfl).trans (by kernel_rfl)
    have f24 : g168 24 = .int .i64 ee := (hs 24 (by decide) rfl).trans (by kernel_rfl)
    have f147 : g168 147 = .slice (some ⟨Z, 0, none⟩) 2 2 := (hs 147 (by decide) rfl).trans (by kernel_rfl)
    have f148 : g168 148 = .int .i64 2 := (hs 148 (by decide) rfl).trans (by kernel_rfl)
    have f149 : g168 149 = .int .i64 j := (hs 149 (by decide) rfl).trans (by kernel_rfl)
    have SjNN := Lib.hid (same_step SjN.out HG.out hs (by kernel_rfl) (by kernel_rfl))
    clear SjN
    clear hs HG
    refine fr_openq (l := ?lx169) ?hx169 ?ho169
    case hx169 => unfold fr528; rw [f13, f15, f17, f18, f19, f20, f22, f23, f24, f147, f148, f149, h1, h2]
    intro HGx
    have HG := Lib.hid HGx
    clear HGx f13 f15 f17 f18 f19 f20 f22 f23 f24 f147 f148 f149 h1 h2
    replace UB := Lib.hid (UB.out.next hb)
    replace UN := Lib.hid (UN.out.next hb)
    replace ULA := Lib.hid (ULA.out.next hb)
    replace ULC := Lib.hid (ULC.out.next hb)
    replace ULi := Lib.hid (ULi.out.next hb)
    replace UCi := Lib.hid (UCi.out.next hb)
    replace ULk := Lib.hid (ULk.out.next hb)
    replace UZ := Lib.hid (UZ.out.next hb)
    replace ULj := Lib.hid (ULj.out.next hb)
    replace UT := Lib.hid (UT.out.next hb)
    replace UM := Lib.hid (UM.out.next hb)
    have UW := Lib.hid (up_vg hv.1 hv.2)
    clear hv hb
    have hl0 := UM.out.now.cell
    have hl1 := UW.out.now.cell
    go_wp2_with fail
    clear hl0 hl1
    (with_reducible refine (rsame_eq UM.out.now.1 UW.out.now.1).mono ?_)
    rintro e w170 ⟨rfl, hb⟩
    replace UB := Lib.hid (UB.out.next hb)
    replace UN := Lib.hid (UN.out.next hb)
    replace ULA := Lib.hid (ULA.out.next hb)
    replace ULC := Lib.hid (ULC.out.next hb)
    replace ULi := Lib.hid (ULi.out.next hb)
    replace UCi := Lib.hid (UCi.out.next hb)
    replace ULk := Lib.hid (ULk.out.next hb)
    replace UZ := Lib.hid (UZ.out.next hb)
    replace ULj := Lib.hid (ULj.out.next hb)
    replace UT := Lib.hid (UT.out.next hb)
    replace UM := Lib.hid (UM.out.next hb)
    replace UW := Lib.hid (UW.out.next hb)
    clear hb
    clear V1 V2
    clear UM UW UT UCi
    go_wp2
    refine HEj.out _ _ _ (by kernel_rfl) (same_end SjNN.out HG.out (by kernel_rfl)) ⟨j + 1, HMj.out.1, Eq.trans (b := Value.int .i64 ((j : Int) + 1)) (by kernel_rfl) (by go_num), ULj.out.now⟩ ?_
    show 2 - (intOf (Value.int .i64 ((j : Int) + 1))).toNat < 2 - (intOf (Value.int .i64 (j : Int))).toNat
    have hm := HMj.out.2
    simp only [intOf, Int.toNat_natCast]
    first | exact hm | (simp; omega)
  as_aux_lemma =>
  clear SiNN
  have k1 : (k : Int) < 4 := by omega
  have HMk := Lib.hid (show k + 1 ≤ 4 ∧ 4 - (k + 1) < 4 - k from by omega)
  obtain ⟨xk, yk, hc⟩ := cells4_at HCL.out (show k < 4 by omega)
  have UCk := Lib.hid (hc.next ULC.out.now)
  clear hc
  obtain ⟨r, V1, V2⟩ := pair_near xi yi xk yk
  replace V1 := Lib.hid V1
  replace V2 := Lib.hid V2
  go_wp2
  refine rg_16 (by kernel_rfl) (fun _ _ d _ _ h => by cases d <;> exact h) (by kernel_rfl) (by kernel_rfl) (by kernel_rfl) (by kernel_rfl) i0 i1 k0 k1 V1.out V2.out UCi.out UCk.out ?_
  intro g171 w171 hs h1 hb
  have f13 : g171 13 = .pointer (some ⟨Bn, 0, none⟩) := (hs 13 (by decide) rfl).trans (by kernel_rfl)
  have f15 : g171 15 = .bool true := (hs 15 (by decide) rfl).trans (by kernel_rfl)
  have f17 : g171 17 = .slice (some ⟨L, 0, none⟩) 4 4 := (hs 17 (by decide) rfl).trans (by kernel_rfl)
  have f18 : g171 18 = .slice (some ⟨C, 0, none⟩) 4 4 := (hs 18 (by decide) rfl).trans (by kernel_rfl)
  have f19 : g171 19 = .int .i64 i := (hs 19 (by decide) rfl).trans (by kernel_rfl)
  have f20 : g171 20 = .int .i64 k := (hs 20 (by decide) rfl).trans (by kernel_rfl)
  have SkN := Lib.hid (same_step Sk.out HG.out hs (by kernel_rfl) (by kernel_rfl))
  clear Sk
  clear hs HG
  refine fr_openq (l := ?lx172) ?hx172 ?ho172
  case hx172 => unfold fr528; rw [f13, f15, f17, f18, f19, f20, h1]
  intro HGx
  have HG := Lib.hid HGx
  clear HGx f13 f15 f17 f18 f19 f20 h1
  replace UB := Lib.hid (UB.out.next hb)
  replace UN := Lib.hid (UN.out.next hb)
  replace ULA := Lib.hid (ULA.out.next hb)
  replace ULC := Lib.hid (ULC.out.next hb)
  replace ULi := Lib.hid (ULi.out.next hb)
  replace UCi := Lib.hid (UCi.out.next hb)
  replace ULk := Lib.hid (ULk.out.next hb)
  replace UCk := Lib.hid (UCk.out.next hb)
  clear hb
  clear V1 V2
  clear UCi UCk
  go_wp2
  refine HEk.out _ _ _ (by kernel_rfl) (same_end SkN.out HG.out (by kernel_rfl)) ⟨k + 1, HMk.out.1, Eq.trans (b := Value.int .i64 ((k : Int) + 1)) (by kernel_rfl) (by go_num), ULk.out.now⟩ ?_
  show 4 - (intOf (Value.int .i64 ((k : Int) + 1))).toNat < 4 - (intOf (Value.int .i64 (k : Int))).toNat
  have hm := HMk.out.2
  simp only [intOf, Int.toNat_natCast]
  first | exact hm | (simp; omega)
end Go.Proofs.YtipfafglbkbafaaDoor
