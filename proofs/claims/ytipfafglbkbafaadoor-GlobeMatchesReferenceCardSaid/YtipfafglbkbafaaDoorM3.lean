/- GlobeMatchesReference: the regions 38, 41, 42, 43, 44, each by itself. -/
import Derived.Deep.RegionHeld3
import Derived.Test.YtipfafglbkbafaaDoorMk
namespace Go.Proofs.YtipfafglbkbafaaDoor
open Go.RowKit Go.Shelf
set_option linter.unusedVariables false
set_option linter.unusedSimpArgs false
open List (getElem_toArray getElem_cons_zero getElem_cons_succ setIfInBounds_toArray set_cons_zero set_cons_succ)
set_option maxRecDepth 100000 in
set_option maxHeartbeats 4000000 in
theorem rg_38 {c : Code} {L : List Value} {Q : Exit → Act → World → Prop} {w : World} {Bn : Nat} {z0 z1 z2 z3 : Int} {pu pv : Nat} (hc : c = rg 38) (hpan : ∀ c a d v w, Q (.panic c) (a.put d v) w → Q (.panic c) a w) (hL : L.length = 528) (e13 : L.getD 13 undef = .pointer (some ⟨Bn, 0, none⟩))
    (HU : pu < 100)
    (PU : ∀ w, Calls Tryd.prog 12 #[.int .i64 z0, .int .i64 100] w (OutV w (.int .i64 (pu : Nat))))
    (PV : ∀ w, Calls Tryd.prog 12 #[.int .i64 z1, .int .i64 25] w (OutV w (.int .i64 (pv : Nat))))
    (UN : Up w (VR Bn #[.int .i64 z0, .int .i64 z1, .int .i64 z2, .int .i64 z3] 28))
    (hQ : ∀ (g : Nat → Value) (W : World) (Z : Nat), Same (fun i => (decide (291 ≤ i) && decide (i ≤ 306))) (fun n => L.getD n undef) g → g 304 = .slice (some ⟨Z, 0, none⟩) 2 2 → g 305 = .int .i64 2 → g 306 = .int .i64 0 → VR Z #[.int .i64 z0, .int .i64 z1, .int .i64 ((pu : Int) - 50), .int .i64 (pv : Int)] 35 W → Below w.heap.size w W → Q .normal ⟨(fr528 g).toArray, []⟩ W) : c.wp Tryd.prog Q ⟨L.toArray, []⟩ w := by
  have key : ∀ (L' : List Value) (W : World) (Z : Nat), L' = msk (fun i => (decide (291 ≤ i) && decide (i ≤ 306))) (fun n => L'.getD n undef) 0 L → (fun n => L'.getD n undef) 304 = .slice (some ⟨Z, 0, none⟩) 2 2 → (fun n => L'.getD n undef) 305 = .int .i64 2 → (fun n => L'.getD n undef) 306 = .int .i64 0 → VR Z #[.int .i64 z0, .int .i64 z1, .int .i64 ((pu : Int) - 50), .int .i64 (pv : Int)] 35 W → Below w.heap.size w W → Q .normal ⟨L'.toArray, []⟩ W := fun L' W Z h1 a0 a1 a2 a3 a4 => by
    have h3 := hQ (fun n => L'.getD n undef) W Z (same_msk hL h1).2 a0 a1 a2 a3 a4
    rw [← fr_self (same_msk hL h1).1] at h3
    exact h3
  clear hQ
  replace hL := fr_self hL
  generalize hf : (fun n => L.getD n undef) = fr at hL
  have f13 : fr 13 = .pointer (some ⟨Bn, 0, none⟩) := by rw [← hf]; exact e13
  clear hf e13
  subst hc hL
  unfold fr528 at key ⊢
  simp only [f13] at key ⊢
  clear f13
  have KEY := Lib.hid key
  clear key
  replace HU := Lib.hid HU
  replace PU := Lib.hid PU
  replace PV := Lib.hid PV
  replace UN := Lib.hid UN
  conv => arg 2; whnf
  try (conv => arg 2; arg 2; simp only [List.append])
  have UBL := Lib.hid (up_bl w)
  have wa : IntKind.i64.wrap ((pu : Int) - 50) = (pu : Int) - 50 := by have := HU.out; rw [IntKind.wrap_i64]; omega
  have hd : Below w.heap.size w w.drew := (Below.refl _ _).drew
  replace UN := Lib.hid (UN.out.next hd)
  replace UBL := Lib.hid (UBL.out.next hd)
  clear hd
  refine wp_region_held_drew (S := fun w' => w'.cell? ⟨Bn, 0, none⟩ = some (.int .i64 z0) ∧ w'.cell? ⟨Bn, 1, none⟩ = some (.int .i64 z1)) (by kernel_rfl) ⟨vr4_0 UN.out.now, vr4_1 UN.out.now⟩ (fun hHeld => ?_)
  refine tk 0 (v := ?_) rfl (by kernel_rfl) (fun _ _ _ h => hpan _ _ _ _ _ h) (Or.inl ⟨by rfl, ?_⟩) (by assumption) ?_
  rotate_left 1
  focus (intro w h; (try dsimp only at h); go_simp; try with_reducible rfl)
  try simp only [getElem_toArray, getElem_cons_zero, getElem_cons_succ, Act.put, setIfInBounds_toArray, set_cons_zero, set_cons_succ]
  refine tk 1 (v := ?_) rfl (by kernel_rfl) (fun _ _ _ h => hpan _ _ _ _ _ h) (Or.inl ⟨by rfl, ?_⟩) (by assumption) ?_
  rotate_left 1
  focus (intro w h; (try dsimp only at h); go_simp; try with_reducible rfl)
  try simp only [getElem_toArray, getElem_cons_zero, getElem_cons_succ, Act.put, setIfInBounds_toArray, set_cons_zero, set_cons_succ]
  refine tk 2 (v := ?_) rfl (by kernel_rfl) (fun _ _ _ h => hpan _ _ _ _ _ h) (Or.inl ⟨by rfl, ?_⟩) (by assumption) ?_
  rotate_left 1
  focus (intro w h; (try dsimp only at h); go_simp; try with_reducible rfl)
  try simp only [getElem_toArray, getElem_cons_zero, getElem_cons_succ, Act.put, setIfInBounds_toArray, set_cons_zero, set_cons_succ]
  refine tk 3 (v := ?_) rfl (by kernel_rfl) (fun _ _ _ h => hpan _ _ _ _ _ h) (Or.inl ⟨by rfl, ?_⟩) (by assumption) ?_
  rotate_left 1
  focus (intro w h; (try dsimp only at h); go_simp; try with_reducible rfl)
  try simp only [getElem_toArray, getElem_cons_zero, getElem_cons_succ, Act.put, setIfInBounds_toArray, set_cons_zero, set_cons_succ]
  refine tk 4 (v := ?_) rfl (by kernel_rfl) (fun _ _ _ h => hpan _ _ _ _ _ h) (Or.inl ⟨by rfl, ?_⟩) (by assumption) ?_
  rotate_left 1
  focus (intro w h; (try dsimp only at h); go_simp; try with_reducible rfl)
  try simp only [getElem_toArray, getElem_cons_zero, getElem_cons_succ, Act.put, setIfInBounds_toArray, set_cons_zero, set_cons_succ]
  refine tk 5 (v := ?_) rfl (by kernel_rfl) (fun _ _ _ h => hpan _ _ _ _ _ h) (Or.inl ⟨by rfl, ?_⟩) (by assumption) ?_
  rotate_left 1
  focus (intro w h; (try dsimp only at h); go_simp; try with_reducible rfl)
  try simp only [getElem_toArray, getElem_cons_zero, getElem_cons_succ, Act.put, setIfInBounds_toArray, set_cons_zero, set_cons_succ]
  refine tk 6 (v := ?_) rfl (by kernel_rfl) (fun _ _ _ h => hpan _ _ _ _ _ h) (Or.inl ⟨by rfl, ?_⟩) (by assumption) ?_
  rotate_left 1
  focus (intro w h; (try dsimp only at h); go_simp; try with_reducible rfl)
  try simp only [getElem_toArray, getElem_cons_zero, getElem_cons_succ, Act.put, setIfInBounds_toArray, set_cons_zero, set_cons_succ]
  refine tk 9 (v := ?_) rfl (by kernel_rfl) (fun _ _ _ h => hpan _ _ _ _ _ h) (Or.inl ⟨by rfl, ?_⟩) (by assumption) ?_
  rotate_left 1
  focus (intro w h; (try dsimp only at h); go_simp; try with_reducible rfl)
  try simp only [getElem_toArray, getElem_cons_zero, getElem_cons_succ, Act.put, setIfInBounds_toArray, set_cons_zero, set_cons_succ]
  refine tk 10 (v := ?_) rfl (by kernel_rfl) (fun _ _ _ h => hpan _ _ _ _ _ h) (Or.inl ⟨by rfl, ?_⟩) (by assumption) ?_
  rotate_left 1
  focus (intro w h; (try dsimp only at h); go_simp; try with_reducible rfl)
  try simp only [getElem_toArray, getElem_cons_zero, getElem_cons_succ, Act.put, setIfInBounds_toArray, set_cons_zero, set_cons_succ]
  refine tk 15 (v := ?_) rfl (by kernel_rfl) (fun _ _ _ h => hpan _ _ _ _ _ h) (Or.inl ⟨by rfl, ?_⟩) (by assumption) ?_
  rotate_left 1
  focus (intro w h; (try dsimp only at h); go_simp; try with_reducible rfl)
  try simp only [getElem_toArray, getElem_cons_zero, getElem_cons_succ, Act.put, setIfInBounds_toArray, set_cons_zero, set_cons_succ]
  refine wpAnyH_ready (rs := [7]) (by kernel_rfl) (by simp) ?_
  refine AllReadyH.cons (o := _) rfl (fun K hK => ?_) AllReadyH.nil
  rw [if_pos (by kernel_rfl)]
  simp only [getElem_toArray, getElem_cons_zero, getElem_cons_succ]
  go_simp
  (with_reducible refine (PU.out _).mono ?_)
  rintro e w28 ⟨rfl, hb⟩
  replace UN := Lib.hid (UN.out.next hb)
  replace UBL := Lib.hid (UBL.out.next hb)
  clear hb
  clear hHeld
  refine hK.out _ _ ⟨vr4_0 UN.out.now, vr4_1 UN.out.now⟩ (fun hHeld => ?_)
  clear hK K
  try simp only [getElem_toArray, getElem_cons_zero, getElem_cons_succ, Act.put, setIfInBounds_toArray, set_cons_zero, set_cons_succ]
  refine tk 8 (v := ?_) rfl (by kernel_rfl) (fun _ _ _ h => hpan _ _ _ _ _ h) (Or.inl ⟨by rfl, ?_⟩) (by assumption) ?_
  rotate_left 1
  focus (intro w h; (try dsimp only at h); go_simp; try with_reducible rfl)
  try simp only [getElem_toArray, getElem_cons_zero, getElem_cons_succ, Act.put, setIfInBounds_toArray, set_cons_zero, set_cons_succ]
  refine wpAnyH_ready (rs := [11]) (by kernel_rfl) (by simp) ?_
  refine AllReadyH.cons (o := _) rfl (fun K hK => ?_) AllReadyH.nil
  rw [if_pos (by kernel_rfl)]
  simp only [getElem_toArray, getElem_cons_zero, getElem_cons_succ]
  go_simp
  (with_reducible refine (PV.out _).mono ?_)
  rintro e w29 ⟨rfl, hb⟩
  replace UN := Lib.hid (UN.out.next hb)
  replace UBL := Lib.hid (UBL.out.next hb)
  clear hb
  clear hHeld
  refine hK.out _ _ ⟨vr4_0 UN.out.now, vr4_1 UN.out.now⟩ (fun hHeld => ?_)
  clear hK K
  try simp only [getElem_toArray, getElem_cons_zero, getElem_cons_succ, Act.put, setIfInBounds_toArray, set_cons_zero, set_cons_succ]
  refine tk 12 (v := ?_) rfl (by kernel_rfl) (fun _ _ _ h => hpan _ _ _ _ _ h) (Or.inl ⟨by rfl, ?_⟩) (by assumption) ?_
  rotate_left 1
  focus (intro w h; (try dsimp only at h); go_simp; try with_reducible rfl)
  try simp only [getElem_toArray, getElem_cons_zero, getElem_cons_succ, Act.put, setIfInBounds_toArray, set_cons_zero, set_cons_succ]
  refine wpAnyH_ready (rs := [13]) (by kernel_rfl) (by simp) ?_
  refine AllReadyH.cons (o := _) rfl (fun K hK => ?_) AllReadyH.nil
  rw [if_pos (by kernel_rfl)]
  simp only [getElem_toArray, getElem_cons_zero, getElem_cons_succ]
  obtain ⟨x30, Z, e1, e2, hb2, hk⟩ := box1 w29 #[.int .i64 z0, .int .i64 z1, .int .i64 ((pu : Int) - 50), .int .i64 (pv : Int)] 35
  go_simp
  have UZ := Lib.hid (up_vr hk : Up x30 (VR Z #[.int .i64 z0, .int .i64 z1, .int .i64 ((pu : Int) - 50), .int .i64 (pv : Int)] 35))
  replace UN := Lib.hid (UN.out.next hb2)
  replace UBL := Lib.hid (UBL.out.next hb2)
  clear e1 e2 hb2 hk
  clear hHeld
  refine hK.out _ _ ⟨vr4_0 UN.out.now, vr4_1 UN.out.now⟩ (fun hHeld => ?_)
  clear hK K
  try simp only [getElem_toArray, getElem_cons_zero, getElem_cons_succ, Act.put, setIfInBounds_toArray, set_cons_zero, set_cons_succ]
  refine tk 14 (v := ?_) rfl (by kernel_rfl) (fun _ _ _ h => hpan _ _ _ _ _ h) (Or.inl ⟨by rfl, ?_⟩) (by assumption) ?_
  rotate_left 1
  focus (intro w h; (try dsimp only at h); go_simp; try with_reducible rfl)
  try simp only [getElem_toArray, getElem_cons_zero, getElem_cons_succ, Act.put, setIfInBounds_toArray, set_cons_zero, set_cons_succ]
  refine wpAnyH_done (by kernel_rfl) ?_ _
  clear hHeld
  clear wa
  exact KEY.out _ _ Z (by kernel_rfl) (by first | kernel_rfl | simp) (by first | kernel_rfl | simp) (by first | kernel_rfl | simp) UZ.out.now UBL.out.now

set_option maxRecDepth 100000 in
set_option maxHeartbeats 4000000 in
theorem rg_41 {c : Code} {L : List Value} {Q : Exit → Act → World → Prop} {w : World} {L0 T ia : Nat} {alA : Option Addr} {nlA clA : Nat} {zlA : List Int} {pz qz ew : Int} {rw_ : List Int} (hc : c = rg 41) (hpan : ∀ c a d v w, Q (.panic c) (a.put d v) w → Q (.panic c) a w) (hL : L.length = 528) (e17 : L.getD 17 undef = .slice (some ⟨L0, 0, none⟩) 4 4) (e27 : L.getD 27 undef = .int .i64 ia) (e34 : L.getD 34 undef = .pointer (some ⟨T, 0, none⟩))
    (ia0 : (0 : Int) ≤ ia)
    (ia1 : (ia : Int) < 4)
    (V1 : ∀ w, Sl w alA nlA zlA → Calls Tryd.prog 33 #[.agg #[.slice alA nlA clA], .int .i64 pz] w (OutP w ew rw_))
    (UAA : Up w (fun W => W.cell? ⟨L0, ia, none⟩ = some (.slice alA nlA clA) ∧ Sl W alA nlA zlA))
    (UT : Up w (VR T #[.int .i64 pz, .int .i64 qz] 35))
    (hQ : ∀ (g : Nat → Value) (W : World) (P : Nat) (al : Option Addr) (n c : Nat), Same (fun i => (decide (35 ≤ i) && decide (i ≤ 36)) || (decide (310 ≤ i) && decide (i ≤ 319))) (fun n => L.getD n undef) g → g 35 = .pointer (some ⟨P, 0, none⟩) → g 36 = .int .i64 ew → VG P al n c rw_ W → Below w.heap.size w W → Q .normal ⟨(fr528 g).toArray, []⟩ W) : c.wp Tryd.prog Q ⟨L.toArray, []⟩ w := by
  have key : ∀ (L' : List Value) (W : World) (P : Nat) (al : Option Addr) (n c : Nat), L' = msk (fun i => (decide (35 ≤ i) && decide (i ≤ 36)) || (decide (310 ≤ i) && decide (i ≤ 319))) (fun n => L'.getD n undef) 0 L → (fun n => L'.getD n undef) 35 = .pointer (some ⟨P, 0, none⟩) → (fun n => L'.getD n undef) 36 = .int .i64 ew → VG P al n c rw_ W → Below w.heap.size w W → Q .normal ⟨L'.toArray, []⟩ W := fun L' W P al n c h1 a0 a1 a2 a3 => by
    have h3 := hQ (fun n => L'.getD n undef) W P al n c (same_msk hL h1).2 a0 a1 a2 a3
    rw [← fr_self (same_msk hL h1).1] at h3
    exact h3
  clear hQ
  replace hL := fr_self hL
  generalize hf : (fun n => L.getD n undef) = fr at hL
  have f17 : fr 17 = .slice (some ⟨L0, 0, none⟩) 4 4 := by rw [← hf]; exact e17
  have f27 : fr 27 = .int .i64 ia := by rw [← hf]; exact e27
  have f34 : fr 34 = .pointer (some ⟨T, 0, none⟩) := by rw [← hf]; exact e34
  clear hf e17 e27 e34
  subst hc hL
  unfold fr528 at key ⊢
  simp only [f17, f27, f34] at key ⊢
  clear f17 f27 f34
  have KEY := Lib.hid key
  clear key
  replace ia0 := Lib.hid ia0
  replace ia1 := Lib.hid ia1
  replace V1 := Lib.hid V1
  replace UAA := Lib.hid UAA
  replace UT := Lib.hid UT
  conv => arg 2; whnf
  try (conv => arg 2; arg 2; simp only [List.append])
  replace ia0 := ia0.out
  replace ia1 := ia1.out
  have UAA0 := UAA
  have UT0 := UT
  have UBL := Lib.hid (up_bl w)
  have hd : Below w.heap.size w w.drew := (Below.refl _ _).drew
  replace UAA := Lib.hid (UAA.out.next hd)
  replace UT := Lib.hid (UT.out.next hd)
  replace UBL := Lib.hid (UBL.out.next hd)
  clear hd
  refine wp_region_held_drew (S := fun w' => w'.cell? ⟨L0, ia, none⟩ = some (.slice alA nlA clA) ∧ w'.cell? ⟨T, 0, none⟩ = some (.int .i64 pz)) (by kernel_rfl) ⟨UAA.out.now.1, ra_c0 UT.out.now⟩ (fun hHeld => ?_)
  refine tk 0 (v := ?_) rfl (by kernel_rfl) (fun _ _ _ h => hpan _ _ _ _ _ h) (Or.inl ⟨by rfl, ?_⟩) (by assumption) ?_
  rotate_left 1
  focus (intro w h; (try dsimp only at h); go_simp; try with_reducible rfl)
  try simp only [getElem_toArray, getElem_cons_zero, getElem_cons_succ, Act.put, setIfInBounds_toArray, set_cons_zero, set_cons_succ]
  refine tk 1 (v := ?_) rfl (by kernel_rfl) (fun _ _ _ h => hpan _ _ _ _ _ h) (Or.inl ⟨by rfl, ?_⟩) (by assumption) ?_
  rotate_left 1
  focus (intro w h; (try dsimp only at h); go_simp; try with_reducible rfl)
  try simp only [getElem_toArray, getElem_cons_zero, getElem_cons_succ, Act.put, setIfInBounds_toArray, set_cons_zero, set_cons_succ]
  refine tk 2 (v := ?_) rfl (by kernel_rfl) (fun _ _ _ h => hpan _ _ _ _ _ h) (Or.inl ⟨by rfl, ?_⟩) (by assumption) ?_
  rotate_left 1
  focus (intro w h; (try dsimp only at h); go_simp; try with_reducible rfl)
  try simp only [getElem_toArray, getElem_cons_zero, getElem_cons_succ, Act.put, setIfInBounds_toArray, set_cons_zero, set_cons_succ]
  refine tk 3 (v := ?_) rfl (by kernel_rfl) (fun _ _ _ h => hpan _ _ _ _ _ h) (Or.inl ⟨by rfl, ?_⟩) (by assumption) ?_
  rotate_left 1
  focus (intro w h; (try dsimp only at h); go_simp; try with_reducible rfl)
  try simp only [getElem_toArray, getElem_cons_zero, getElem_cons_succ, Act.put, setIfInBounds_toArray, set_cons_zero, set_cons_succ]
  refine tk 4 (v := ?_) rfl (by kernel_rfl) (fun _ _ _ h => hpan _ _ _ _ _ h) (Or.inl ⟨by rfl, ?_⟩) (by assumption) ?_
  rotate_left 1
  focus (intro w h; (try dsimp only at h); go_simp; try with_reducible rfl)
  try simp only [getElem_toArray, getElem_cons_zero, getElem_cons_succ, Act.put, setIfInBounds_toArray, set_cons_zero, set_cons_succ]
  refine tk 5 (v := ?_) rfl (by kernel_rfl) (fun _ _ _ h => hpan _ _ _ _ _ h) (Or.inl ⟨by rfl, ?_⟩) (by assumption) ?_
  rotate_left 1
  focus (intro w h; (try dsimp only at h); go_simp; try with_reducible rfl)
  try simp only [getElem_toArray, getElem_cons_zero, getElem_cons_succ, Act.put, setIfInBounds_toArray, set_cons_zero, set_cons_succ]
  refine wpAnyH_ready (rs := [6, 10]) (by kernel_rfl) (by simp) ?_
  refine AllReadyH.cons (o := _) rfl (fun K hK => ?_) ?_
  · rw [if_pos (by kernel_rfl)]
    simp only [getElem_toArray, getElem_cons_zero, getElem_cons_succ]
    go_simp
    (with_reducible refine (V1.out _ UAA.out.now.2).mono ?_)
    rintro e w47 ⟨al, n, c, rfl, hs, hfr, hb⟩
    have UNN := Lib.hid (up_sl hs)
    replace UAA := Lib.hid (UAA.out.next hb)
    replace UT := Lib.hid (UT.out.next hb)
    replace UBL := Lib.hid (UBL.out.next hb)
    clear hb hs hfr
    clear hHeld
    refine hK.out _ _ ⟨UAA.out.now.1, ra_c0 UT.out.now⟩ (fun hHeld => ?_)
    clear hK K
    try simp only [getElem_toArray, getElem_cons_zero, getElem_cons_succ, Act.put, setIfInBounds_toArray, set_cons_zero, set_cons_succ]
    refine tk 7 (v := ?_) rfl (by kernel_rfl) (fun _ _ _ h => hpan _ _ _ _ _ h) (Or.inl ⟨by rfl, ?_⟩) (by assumption) ?_
    rotate_left 1
    focus (intro w h; (try dsimp only at h); go_simp; try with_reducible rfl)
    try simp only [getElem_toArray, getElem_cons_zero, getElem_cons_succ, Act.put, setIfInBounds_toArray, set_cons_zero, set_cons_succ]
    refine tk 8 (v := ?_) rfl (by kernel_rfl) (fun _ _ _ h => hpan _ _ _ _ _ h) (Or.inl ⟨by rfl, ?_⟩) (by assumption) ?_
    rotate_left 1
    focus (intro w h; (try dsimp only at h); go_simp; try with_reducible rfl)
    try simp only [getElem_toArray, getElem_cons_zero, getElem_cons_succ, Act.put, setIfInBounds_toArray, set_cons_zero, set_cons_succ]
    refine tk 9 (v := ?_) rfl (by kernel_rfl) (fun _ _ _ h => hpan _ _ _ _ _ h) (Or.inl ⟨by rfl, ?_⟩) (by assumption) ?_
    rotate_left 1
    focus (intro w h; (try dsimp only at h); go_simp; try with_reducible rfl)
    try simp only [getElem_toArray, getElem_cons_zero, getElem_cons_succ, Act.put, setIfInBounds_toArray, set_cons_zero, set_cons_succ]
    refine wpAnyH_ready (rs := [10]) (by kernel_rfl) (by simp) ?_
    refine AllReadyH.cons (o := _) rfl (fun K hK => ?_) AllReadyH.nil
    rw [if_pos (by kernel_rfl)]
    simp only [getElem_toArray, getElem_cons_zero, getElem_cons_succ]
    obtain ⟨x48, P, e1, e2, hb2, hk⟩ := box1 w47 #[.slice none 0 0] 25
    go_simp
    have UK := Lib.hid (up_vr hk : Up x48 (VR P #[.slice none 0 0] 25))
    have HF := Lib.hid (Nat.le_trans UBL.out.now.size (Nat.le_of_eq e2))
    have HN := Lib.hid (pd_ne1 UNN.out.now e2)
    replace UAA := Lib.hid (UAA.out.next hb2)
    replace UT := Lib.hid (UT.out.next hb2)
    replace UBL := Lib.hid (UBL.out.next hb2)
    replace UNN := Lib.hid (UNN.out.next hb2)
    clear e1 e2 hb2 hk
    clear hHeld
    refine hK.out _ _ ⟨UAA.out.now.1, ra_c0 UT.out.now⟩ (fun hHeld => ?_)
    clear hK K
    try simp only [getElem_toArray, getElem_cons_zero, getElem_cons_succ, Act.put, setIfInBounds_toArray, set_cons_zero, set_cons_succ]
    have hX := Lib.hid (pd_done (c := c) UNN.out.now UK.out.now HN.out HF.out UBL.out.now)
    have hc0 := (row_cell UK.out.now 0).trans (show _ = some (.slice none 0 0) from rfl)
    have hf0 := frozen_of_row _ P 0 _ _ UK.out.now
    refine wpAnyH_ready (rs := [11]) (by kernel_rfl) (by simp) ?_
    refine AllReadyH.cons (o := _) rfl (fun K hK => ?_) AllReadyH.nil
    rw [if_pos (by kernel_rfl)]
    simp only [getElem_toArray, getElem_cons_zero, getElem_cons_succ]
    go_simp
    clear hc0 hf0 hHeld
    refine hK.out _ _ ⟨(UAA0.out _ hX.out.2).1, ra_c0 (UT0.out _ hX.out.2)⟩ (fun hHeld => ?_)
    clear hK K
    try simp only [getElem_toArray, getElem_cons_zero, getElem_cons_succ, Act.put, setIfInBounds_toArray, set_cons_zero, set_cons_succ]
    refine tk 12 (v := ?_) rfl (by kernel_rfl) (fun _ _ _ h => hpan _ _ _ _ _ h) (Or.inl ⟨by rfl, ?_⟩) (by assumption) ?_
    rotate_left 1
    focus (intro w h; (try dsimp only at h); go_simp; try with_reducible rfl)
    try simp only [getElem_toArray, getElem_cons_zero, getElem_cons_succ, Act.put, setIfInBounds_toArray, set_cons_zero, set_cons_succ]
    clear hHeld
    refine wpAnyH_done (by kernel_rfl) ?_ _
    exact KEY.out _ _ P al n c (by kernel_rfl) (by first | kernel_rfl | simp) (by first | kernel_rfl | simp) hX.out.1 hX.out.2
  refine AllReadyH.cons (o := _) rfl (fun K hK => ?_) AllReadyH.nil
  rw [if_pos (by kernel_rfl)]
  simp only [getElem_toArray, getElem_cons_zero, getElem_cons_succ]
  obtain ⟨x49, P, e1, e2, hb2, hk⟩ := box1 w.drew #[.slice none 0 0] 25
  go_simp
  have UK := Lib.hid (up_vr hk : Up x49 (VR P #[.slice none 0 0] 25))
  have HF := Lib.hid (Nat.le_trans UBL.out.now.size (Nat.le_of_eq e2))
  replace UAA := Lib.hid (UAA.out.next hb2)
  replace UT := Lib.hid (UT.out.next hb2)
  replace UBL := Lib.hid (UBL.out.next hb2)
  clear e1 e2 hb2 hk
  clear hHeld
  refine hK.out _ _ ⟨UAA.out.now.1, ra_c0 UT.out.now⟩ (fun hHeld => ?_)
  clear hK K
  try simp only [getElem_toArray, getElem_cons_zero, getElem_cons_succ, Act.put, setIfInBounds_toArray, set_cons_zero, set_cons_succ]
  refine wpAnyH_ready (rs := [6]) (by kernel_rfl) (by simp) ?_
  refine AllReadyH.cons (o := _) rfl (fun K hK => ?_) AllReadyH.nil
  rw [if_pos (by kernel_rfl)]
  simp only [getElem_toArray, getElem_cons_zero, getElem_cons_succ]
  go_simp
  (with_reducible refine (V1.out _ UAA.out.now.2).mono ?_)
  rintro e w50 ⟨al, n, c, rfl, hs, hfr, hb⟩
  have UNN := Lib.hid (up_sl hs)
  have HN := Lib.hid (pd_ne2 (n := n) UK.out.now hfr)
  replace UAA := Lib.hid (UAA.out.next hb)
  replace UT := Lib.hid (UT.out.next hb)
  replace UBL := Lib.hid (UBL.out.next hb)
  replace UK := Lib.hid (UK.out.next hb)
  clear hb hs hfr
  clear hHeld
  refine hK.out _ _ ⟨UAA.out.now.1, ra_c0 UT.out.now⟩ (fun hHeld => ?_)
  clear hK K
  try simp only [getElem_toArray, getElem_cons_zero, getElem_cons_succ, Act.put, setIfInBounds_toArray, set_cons_zero, set_cons_succ]
  refine tk 7 (v := ?_) rfl (by kernel_rfl) (fun _ _ _ h => hpan _ _ _ _ _ h) (Or.inl ⟨by rfl, ?_⟩) (by assumption) ?_
  rotate_left 1
  focus (intro w h; (try dsimp only at h); go_simp; try with_reducible rfl)
  try simp only [getElem_toArray, getElem_cons_zero, getElem_cons_succ, Act.put, setIfInBounds_toArray, set_cons_zero, set_cons_succ]
  refine tk 8 (v := ?_) rfl (by kernel_rfl) (fun _ _ _ h => hpan _ _ _ _ _ h) (Or.inl ⟨by rfl, ?_⟩) (by assumption) ?_
  rotate_left 1
  focus (intro w h; (try dsimp only at h); go_simp; try with_reducible rfl)
  try simp only [getElem_toArray, getElem_cons_zero, getElem_cons_succ, Act.put, setIfInBounds_toArray, set_cons_zero, set_cons_succ]
  refine tk 9 (v := ?_) rfl (by kernel_rfl) (fun _ _ _ h => hpan _ _ _ _ _ h) (Or.inl ⟨by rfl, ?_⟩) (by assumption) ?_
  rotate_left 1
  focus (intro w h; (try dsimp only at h); go_simp; try with_reducible rfl)
  try simp only [getElem_toArray, getElem_cons_zero, getElem_cons_succ, Act.put, setIfInBounds_toArray, set_cons_zero, set_cons_succ]
  have hX := Lib.hid (pd_done (c := c) UNN.out.now UK.out.now HN.out HF.out UBL.out.now)
  have hc0 := (row_cell UK.out.now 0).trans (show _ = some (.slice none 0 0) from rfl)
  have hf0 := frozen_of_row _ P 0 _ _ UK.out.now
  refine wpAnyH_ready (rs := [11]) (by kernel_rfl) (by simp) ?_
  refine AllReadyH.cons (o := _) rfl (fun K hK => ?_) AllReadyH.nil
  rw [if_pos (by kernel_rfl)]
  simp only [getElem_toArray, getElem_cons_zero, getElem_cons_succ]
  go_simp
  clear hc0 hf0 hHeld
  refine hK.out _ _ ⟨(UAA0.out _ hX.out.2).1, ra_c0 (UT0.out _ hX.out.2)⟩ (fun hHeld => ?_)
  clear hK K
  try simp only [getElem_toArray, getElem_cons_zero, getElem_cons_succ, Act.put, setIfInBounds_toArray, set_cons_zero, set_cons_succ]
  refine tk 12 (v := ?_) rfl (by kernel_rfl) (fun _ _ _ h => hpan _ _ _ _ _ h) (Or.inl ⟨by rfl, ?_⟩) (by assumption) ?_
  rotate_left 1
  focus (intro w h; (try dsimp only at h); go_simp; try with_reducible rfl)
  try simp only [getElem_toArray, getElem_cons_zero, getElem_cons_succ, Act.put, setIfInBounds_toArray, set_cons_zero, set_cons_succ]
  clear hHeld
  refine wpAnyH_done (by kernel_rfl) ?_ _
  exact KEY.out _ _ P al n c (by kernel_rfl) (by first | kernel_rfl | simp) (by first | kernel_rfl | simp) hX.out.1 hX.out.2

set_option maxRecDepth 100000 in
set_option maxHeartbeats 4000000 in
theorem rg_42 {c : Code} {L : List Value} {Q : Exit → Act → World → Prop} {w : World} {L0 T ia : Nat} {alA : Option Addr} {nlA clA : Nat} {zlA : List Int} {pz qz ew : Int} {rw_ : List Int} (hc : c = rg 42) (hpan : ∀ c a d v w, Q (.panic c) (a.put d v) w → Q (.panic c) a w) (hL : L.length = 528) (e17 : L.getD 17 undef = .slice (some ⟨L0, 0, none⟩) 4 4) (e27 : L.getD 27 undef = .int .i64 ia) (e34 : L.getD 34 undef = .pointer (some ⟨T, 0, none⟩))
    (ia0 : (0 : Int) ≤ ia)
    (ia1 : (ia : Int) < 4)
    (V1 : ∀ w, Sl w alA nlA zlA → Calls Tryd.prog 34 #[.agg #[.slice alA nlA clA], .int .i64 pz] w (OutP w ew rw_))
    (UAA : Up w (fun W => W.cell? ⟨L0, ia, none⟩ = some (.slice alA nlA clA) ∧ Sl W alA nlA zlA))
    (UT : Up w (VR T #[.int .i64 pz, .int .i64 qz] 35))
    (hQ : ∀ (g : Nat → Value) (W : World) (P : Nat) (al : Option Addr) (n c : Nat), Same (fun i => (decide (37 ≤ i) && decide (i ≤ 38)) || (decide (320 ≤ i) && decide (i ≤ 329))) (fun n => L.getD n undef) g → g 37 = .pointer (some ⟨P, 0, none⟩) → g 38 = .int .i64 ew → VG P al n c rw_ W → Below w.heap.size w W → Q .normal ⟨(fr528 g).toArray, []⟩ W) : c.wp Tryd.prog Q ⟨L.toArray, []⟩ w := by
  have key : ∀ (L' : List Value) (W : World) (P : Nat) (al : Option Addr) (n c : Nat), L' = msk (fun i => (decide (37 ≤ i) && decide (i ≤ 38)) || (decide (320 ≤ i) && decide (i ≤ 329))) (fun n => L'.getD n undef) 0 L → (fun n => L'.getD n undef) 37 = .pointer (some ⟨P, 0, none⟩) → (fun n => L'.getD n undef) 38 = .int .i64 ew → VG P al n c rw_ W → Below w.heap.size w W → Q .normal ⟨L'.toArray, []⟩ W := fun L' W P al n c h1 a0 a1 a2 a3 => by
    have h3 := hQ (fun n => L'.getD n undef) W P al n c (same_msk hL h1).2 a0 a1 a2 a3
    rw [← fr_self (same_msk hL h1).1] at h3
    exact h3
  clear hQ
  replace hL := fr_self hL
  generalize hf : (fun n => L.getD n undef) = fr at hL
  have f17 : fr 17 = .slice (some ⟨L0, 0, none⟩) 4 4 := by rw [← hf]; exact e17
  have f27 : fr 27 = .int .i64 ia := by rw [← hf]; exact e27
  have f34 : fr 34 = .pointer (some ⟨T, 0, none⟩) := by rw [← hf]; exact e34
  clear hf e17 e27 e34
  subst hc hL
  unfold fr528 at key ⊢
  simp only [f17, f27, f34] at key ⊢
  clear f17 f27 f34
  have KEY := Lib.hid key
  clear key
  replace ia0 := Lib.hid ia0
  replace ia1 := Lib.hid ia1
  replace V1 := Lib.hid V1
  replace UAA := Lib.hid UAA
  replace UT := Lib.hid UT
  conv => arg 2; whnf
  try (conv => arg 2; arg 2; simp only [List.append])
  replace ia0 := ia0.out
  replace ia1 := ia1.out
  have UAA0 := UAA
  have UT0 := UT
  have UBL := Lib.hid (up_bl w)
  have hd : Below w.heap.size w w.drew := (Below.refl _ _).drew
  replace UAA := Lib.hid (UAA.out.next hd)
  replace UT := Lib.hid (UT.out.next hd)
  replace UBL := Lib.hid (UBL.out.next hd)
  clear hd
  refine wp_region_held_drew (S := fun w' => w'.cell? ⟨L0, ia, none⟩ = some (.slice alA nlA clA) ∧ w'.cell? ⟨T, 0, none⟩ = some (.int .i64 pz)) (by kernel_rfl) ⟨UAA.out.now.1, ra_c0 UT.out.now⟩ (fun hHeld => ?_)
  refine tk 0 (v := ?_) rfl (by kernel_rfl) (fun _ _ _ h => hpan _ _ _ _ _ h) (Or.inl ⟨by rfl, ?_⟩) (by assumption) ?_
  rotate_left 1
  focus (intro w h; (try dsimp only at h); go_simp; try with_reducible rfl)
  try simp only [getElem_toArray, getElem_cons_zero, getElem_cons_succ, Act.put, setIfInBounds_toArray, set_cons_zero, set_cons_succ]
  refine tk 1 (v := ?_) rfl (by kernel_rfl) (fun _ _ _ h => hpan _ _ _ _ _ h) (Or.inl ⟨by rfl, ?_⟩) (by assumption) ?_
  rotate_left 1
  focus (intro w h; (try dsimp only at h); go_simp; try with_reducible rfl)
  try simp only [getElem_toArray, getElem_cons_zero, getElem_cons_succ, Act.put, setIfInBounds_toArray, set_cons_zero, set_cons_succ]
  refine tk 2 (v := ?_) rfl (by kernel_rfl) (fun _ _ _ h => hpan _ _ _ _ _ h) (Or.inl ⟨by rfl, ?_⟩) (by assumption) ?_
  rotate_left 1
  focus (intro w h; (try dsimp only at h); go_simp; try with_reducible rfl)
  try simp only [getElem_toArray, getElem_cons_zero, getElem_cons_succ, Act.put, setIfInBounds_toArray, set_cons_zero, set_cons_succ]
  refine tk 3 (v := ?_) rfl (by kernel_rfl) (fun _ _ _ h => hpan _ _ _ _ _ h) (Or.inl ⟨by rfl, ?_⟩) (by assumption) ?_
  rotate_left 1
  focus (intro w h; (try dsimp only at h); go_simp; try with_reducible rfl)
  try simp only [getElem_toArray, getElem_cons_zero, getElem_cons_succ, Act.put, setIfInBounds_toArray, set_cons_zero, set_cons_succ]
  refine tk 4 (v := ?_) rfl (by kernel_rfl) (fun _ _ _ h => hpan _ _ _ _ _ h) (Or.inl ⟨by rfl, ?_⟩) (by assumption) ?_
  rotate_left 1
  focus (intro w h; (try dsimp only at h); go_simp; try with_reducible rfl)
  try simp only [getElem_toArray, getElem_cons_zero, getElem_cons_succ, Act.put, setIfInBounds_toArray, set_cons_zero, set_cons_succ]
  refine tk 5 (v := ?_) rfl (by kernel_rfl) (fun _ _ _ h => hpan _ _ _ _ _ h) (Or.inl ⟨by rfl, ?_⟩) (by assumption) ?_
  rotate_left 1
  focus (intro w h; (try dsimp only at h); go_simp; try with_reducible rfl)
  try simp only [getElem_toArray, getElem_cons_zero, getElem_cons_succ, Act.put, setIfInBounds_toArray, set_cons_zero, set_cons_succ]
  refine wpAnyH_ready (rs := [6, 10]) (by kernel_rfl) (by simp) ?_
  refine AllReadyH.cons (o := _) rfl (fun K hK => ?_) ?_
  · rw [if_pos (by kernel_rfl)]
    simp only [getElem_toArray, getElem_cons_zero, getElem_cons_succ]
    go_simp
    (with_reducible refine (V1.out _ UAA.out.now.2).mono ?_)
    rintro e w51 ⟨al, n, c, rfl, hs, hfr, hb⟩
    have UNN := Lib.hid (up_sl hs)
    replace UAA := Lib.hid (UAA.out.next hb)
    replace UT := Lib.hid (UT.out.next hb)
    replace UBL := Lib.hid (UBL.out.next hb)
    clear hb hs hfr
    clear hHeld
    refine hK.out _ _ ⟨UAA.out.now.1, ra_c0 UT.out.now⟩ (fun hHeld => ?_)
    clear hK K
    try simp only [getElem_toArray, getElem_cons_zero, getElem_cons_succ, Act.put, setIfInBounds_toArray, set_cons_zero, set_cons_succ]
    refine tk 7 (v := ?_) rfl (by kernel_rfl) (fun _ _ _ h => hpan _ _ _ _ _ h) (Or.inl ⟨by rfl, ?_⟩) (by assumption) ?_
    rotate_left 1
    focus (intro w h; (try dsimp only at h); go_simp; try with_reducible rfl)
    try simp only [getElem_toArray, getElem_cons_zero, getElem_cons_succ, Act.put, setIfInBounds_toArray, set_cons_zero, set_cons_succ]
    refine tk 8 (v := ?_) rfl (by kernel_rfl) (fun _ _ _ h => hpan _ _ _ _ _ h) (Or.inl ⟨by rfl, ?_⟩) (by assumption) ?_
    rotate_left 1
    focus (intro w h; (try dsimp only at h); go_simp; try with_reducible rfl)
    try simp only [getElem_toArray, getElem_cons_zero, getElem_cons_succ, Act.put, setIfInBounds_toArray, set_cons_zero, set_cons_succ]
    refine tk 9 (v := ?_) rfl (by kernel_rfl) (fun _ _ _ h => hpan _ _ _ _ _ h) (Or.inl ⟨by rfl, ?_⟩) (by assumption) ?_
    rotate_left 1
    focus (intro w h; (try dsimp only at h); go_simp; try with_reducible rfl)
    try simp only [getElem_toArray, getElem_cons_zero, getElem_cons_succ, Act.put, setIfInBounds_toArray, set_cons_zero, set_cons_succ]
    refine wpAnyH_ready (rs := [10]) (by kernel_rfl) (by simp) ?_
    refine AllReadyH.cons (o := _) rfl (fun K hK => ?_) AllReadyH.nil
    rw [if_pos (by kernel_rfl)]
    simp only [getElem_toArray, getElem_cons_zero, getElem_cons_succ]
    obtain ⟨x52, P, e1, e2, hb2, hk⟩ := box1 w51 #[.slice none 0 0] 25
    go_simp
    have UK := Lib.hid (up_vr hk : Up x52 (VR P #[.slice none 0 0] 25))
    have HF := Lib.hid (Nat.le_trans UBL.out.now.size (Nat.le_of_eq e2))
    have HN := Lib.hid (pd_ne1 UNN.out.now e2)
    replace UAA := Lib.hid (UAA.out.next hb2)
    replace UT := Lib.hid (UT.out.next hb2)
    replace UBL := Lib.hid (UBL.out.next hb2)
    replace UNN := Lib.hid (UNN.out.next hb2)
    clear e1 e2 hb2 hk
    clear hHeld
    refine hK.out _ _ ⟨UAA.out.now.1, ra_c0 UT.out.now⟩ (fun hHeld => ?_)
    clear hK K
    try simp only [getElem_toArray, getElem_cons_zero, getElem_cons_succ, Act.put, setIfInBounds_toArray, set_cons_zero, set_cons_succ]
    have hX := Lib.hid (pd_done (c := c) UNN.out.now UK.out.now HN.out HF.out UBL.out.now)
    have hc0 := (row_cell UK.out.now 0).trans (show _ = some (.slice none 0 0) from rfl)
    have hf0 := frozen_of_row _ P 0 _ _ UK.out.now
    refine wpAnyH_ready (rs := [11]) (by kernel_rfl) (by simp) ?_
    refine AllReadyH.cons (o := _) rfl (fun K hK => ?_) AllReadyH.nil
    rw [if_pos (by kernel_rfl)]
    simp only [getElem_toArray, getElem_cons_zero, getElem_cons_succ]
    go_simp
    clear hc0 hf0 hHeld
    refine hK.out _ _ ⟨(UAA0.out _ hX.out.2).1, ra_c0 (UT0.out _ hX.out.2)⟩ (fun hHeld => ?_)
    clear hK K
    try simp only [getElem_toArray, getElem_cons_zero, getElem_cons_succ, Act.put, setIfInBounds_toArray, set_cons_zero, set_cons_succ]
    refine tk 12 (v := ?_) rfl (by kernel_rfl) (fun _ _ _ h => hpan _ _ _ _ _ h) (Or.inl ⟨by rfl, ?_⟩) (by assumption) ?_
    rotate_left 1
    focus (intro w h; (try dsimp only at h); go_simp; try with_reducible rfl)
    try simp only [getElem_toArray, getElem_cons_zero, getElem_cons_succ, Act.put, setIfInBounds_toArray, set_cons_zero, set_cons_succ]
    clear hHeld
    refine wpAnyH_done (by kernel_rfl) ?_ _
    exact KEY.out _ _ P al n c (by kernel_rfl) (by first | kernel_rfl | simp) (by first | kernel_rfl | simp) hX.out.1 hX.out.2
  refine AllReadyH.cons (o := _) rfl (fun K hK => ?_) AllReadyH.nil
  rw [if_pos (by kernel_rfl)]
  simp only [getElem_toArray, getElem_cons_zero, getElem_cons_succ]
  obtain ⟨x53, P, e1, e2, hb2, hk⟩ := box1 w.drew #[.slice none 0 0] 25
  go_simp
  have UK := Lib.hid (up_vr hk : Up x53 (VR P #[.slice none 0 0] 25))
  have HF := Lib.hid (Nat.le_trans UBL.out.now.size (Nat.le_of_eq e2))
  replace UAA := Lib.hid (UAA.out.next hb2)
  replace UT := Lib.hid (UT.out.next hb2)
  replace UBL := Lib.hid (UBL.out.next hb2)
  clear e1 e2 hb2 hk
  clear hHeld
  refine hK.out _ _ ⟨UAA.out.now.1, ra_c0 UT.out.now⟩ (fun hHeld => ?_)
  clear hK K
  try simp only [getElem_toArray, getElem_cons_zero, getElem_cons_succ, Act.put, setIfInBounds_toArray, set_cons_zero, set_cons_succ]
  refine wpAnyH_ready (rs := [6]) (by kernel_rfl) (by simp) ?_
  refine AllReadyH.cons (o := _) rfl (fun K hK => ?_) AllReadyH.nil
  rw [if_pos (by kernel_rfl)]
  simp only [getElem_toArray, getElem_cons_zero, getElem_cons_succ]
  go_simp
  (with_reducible refine (V1.out _ UAA.out.now.2).mono ?_)
  rintro e w54 ⟨al, n, c, rfl, hs, hfr, hb⟩
  have UNN := Lib.hid (up_sl hs)
  have HN := Lib.hid (pd_ne2 (n := n) UK.out.now hfr)
  replace UAA := Lib.hid (UAA.out.next hb)
  replace UT := Lib.hid (UT.out.next hb)
  replace UBL := Lib.hid (UBL.out.next hb)
  replace UK := Lib.hid (UK.out.next hb)
  clear hb hs hfr
  clear hHeld
  refine hK.out _ _ ⟨UAA.out.now.1, ra_c0 UT.out.now⟩ (fun hHeld => ?_)
  clear hK K
  try simp only [getElem_toArray, getElem_cons_zero, getElem_cons_succ, Act.put, setIfInBounds_toArray, set_cons_zero, set_cons_succ]
  refine tk 7 (v := ?_) rfl (by kernel_rfl) (fun _ _ _ h => hpan _ _ _ _ _ h) (Or.inl ⟨by rfl, ?_⟩) (by assumption) ?_
  rotate_left 1
  focus (intro w h; (try dsimp only at h); go_simp; try with_reducible rfl)
  try simp only [getElem_toArray, getElem_cons_zero, getElem_cons_succ, Act.put, setIfInBounds_toArray, set_cons_zero, set_cons_succ]
  refine tk 8 (v := ?_) rfl (by kernel_rfl) (fun _ _ _ h => hpan _ _ _ _ _ h) (Or.inl ⟨by rfl, ?_⟩) (by assumption) ?_
  rotate_left 1
  focus (intro w h; (try dsimp only at h); go_simp; try with_reducible rfl)
  try simp only [getElem_toArray, getElem_cons_zero, getElem_cons_succ, Act.put, setIfInBounds_toArray, set_cons_zero, set_cons_succ]
  refine tk 9 (v := ?_) rfl (by kernel_rfl) (fun _ _ _ h => hpan _ _ _ _ _ h) (Or.inl ⟨by rfl, ?_⟩) (by assumption) ?_
  rotate_left 1
  focus (intro w h; (try dsimp only at h); go_simp; try with_reducible rfl)
  try simp only [getElem_toArray, getElem_cons_zero, getElem_cons_succ, Act.put, setIfInBounds_toArray, set_cons_zero, set_cons_succ]
  have hX := Lib.hid (pd_done (c := c) UNN.out.now UK.out.now HN.out HF.out UBL.out.now)
  have hc0 := (row_cell UK.out.now 0).trans (show _ = some (.slice none 0 0) from rfl)
  have hf0 := frozen_of_row _ P 0 _ _ UK.out.now
  refine wpAnyH_ready (rs := [11]) (by kernel_rfl) (by simp) ?_
  refine AllReadyH.cons (o := _) rfl (fun K hK => ?_) AllReadyH.nil
  rw [if_pos (by kernel_rfl)]
  simp only [getElem_toArray, getElem_cons_zero, getElem_cons_succ]
  go_simp
  clear hc0 hf0 hHeld
  refine hK.out _ _ ⟨(UAA0.out _ hX.out.2).1, ra_c0 (UT0.out _ hX.out.2)⟩ (fun hHeld => ?_)
  clear hK K
  try simp only [getElem_toArray, getElem_cons_zero, getElem_cons_succ, Act.put, setIfInBounds_toArray, set_cons_zero, set_cons_succ]
  refine tk 12 (v := ?_) rfl (by kernel_rfl) (fun _ _ _ h => hpan _ _ _ _ _ h) (Or.inl ⟨by rfl, ?_⟩) (by assumption) ?_
  rotate_left 1
  focus (intro w h; (try dsimp only at h); go_simp; try with_reducible rfl)
  try simp only [getElem_toArray, getElem_cons_zero, getElem_cons_succ, Act.put, setIfInBounds_toArray, set_cons_zero, set_cons_succ]
  clear hHeld
  refine wpAnyH_done (by kernel_rfl) ?_ _
  exact KEY.out _ _ P al n c (by kernel_rfl) (by first | kernel_rfl | simp) (by first | kernel_rfl | simp) hX.out.1 hX.out.2

set_option maxRecDepth 100000 in
set_option maxHeartbeats 4000000 in
theorem rg_43 {c : Code} {L : List Value} {Q : Exit → Act → World → Prop} {w : World} {L0 T ia : Nat} {alA : Option Addr} {nlA clA : Nat} {zlA : List Int} {pz qz ew : Int} {rw_ : List Int} (hc : c = rg 43) (hpan : ∀ c a d v w, Q (.panic c) (a.put d v) w → Q (.panic c) a w) (hL : L.length = 528) (e17 : L.getD 17 undef = .slice (some ⟨L0, 0, none⟩) 4 4) (e27 : L.getD 27 undef = .int .i64 ia) (e34 : L.getD 34 undef = .pointer (some ⟨T, 0, none⟩))
    (ia0 : (0 : Int) ≤ ia)
    (ia1 : (ia : Int) < 4)
    (V1 : ∀ w, Sl w alA nlA zlA → Calls Tryd.prog 35 #[.agg #[.slice alA nlA clA], .int .i64 qz] w (OutP w ew rw_))
    (UAA : Up w (fun W => W.cell? ⟨L0, ia, none⟩ = some (.slice alA nlA clA) ∧ Sl W alA nlA zlA))
    (UT : Up w (VR T #[.int .i64 pz, .int .i64 qz] 35))
    (hQ : ∀ (g : Nat → Value) (W : World) (P : Nat) (al : Option Addr) (n c : Nat), Same (fun i => (decide (39 ≤ i) && decide (i ≤ 40)) || (decide (330 ≤ i) && decide (i ≤ 339))) (fun n => L.getD n undef) g → g 39 = .pointer (some ⟨P, 0, none⟩) → g 40 = .int .i64 ew → VG P al n c rw_ W → Below w.heap.size w W → Q .normal ⟨(fr528 g).toArray, []⟩ W) : c.wp Tryd.prog Q ⟨L.toArray, []⟩ w := by
  have key : ∀ (L' : List Value) (W : World) (P : Nat) (al : Option Addr) (n c : Nat), L' = msk (fun i => (decide (39 ≤ i) && decide (i ≤ 40)) || (decide (330 ≤ i) && decide (i ≤ 339))) (fun n => L'.getD n undef) 0 L → (fun n => L'.getD n undef) 39 = .pointer (some ⟨P, 0, none⟩) → (fun n => L'.getD n undef) 40 = .int .i64 ew → VG P al n c rw_ W → Below w.heap.size w W → Q .normal ⟨L'.toArray, []⟩ W := fun L' W P al n c h1 a0 a1 a2 a3 => by
    have h3 := hQ (fun n => L'.getD n undef) W P al n c (same_msk hL h1).2 a0 a1 a2 a3
    rw [← fr_self (same_msk hL h1).1] at h3
    exact h3
  clear hQ
  replace hL := fr_self hL
  generalize hf : (fun n => L.getD n undef) = fr at hL
  have f17 : fr 17 = .slice (some ⟨L0, 0, none⟩) 4 4 := by rw [← hf]; exact e17
  have f27 : fr 27 = .int .i64 ia := by rw [← hf]; exact e27
  have f34 : fr 34 = .pointer (some ⟨T, 0, none⟩) := by rw [← hf]; exact e34
  clear hf e17 e27 e34
  subst hc hL
  unfold fr528 at key ⊢
  simp only [f17, f27, f34] at key ⊢
  clear f17 f27 f34
  have KEY := Lib.hid key
  clear key
  replace ia0 := Lib.hid ia0
  replace ia1 := Lib.hid ia1
  replace V1 := Lib.hid V1
  replace UAA := Lib.hid UAA
  replace UT := Lib.hid UT
  conv => arg 2; whnf
  try (conv => arg 2; arg 2; simp only [List.append])
  replace ia0 := ia0.out
  replace ia1 := ia1.out
  have UAA0 := UAA
  have UT0 := UT
  have UBL := Lib.hid (up_bl w)
  have hd : Below w.heap.size w w.drew := (Below.refl _ _).drew
  replace UAA := Lib.hid (UAA.out.next hd)
  replace UT := Lib.hid (UT.out.next hd)
  replace UBL := Lib.hid (UBL.out.next hd)
  clear hd
  refine wp_region_held_drew (S := fun w' => w'.cell? ⟨L0, ia, none⟩ = some (.slice alA nlA clA) ∧ w'.cell? ⟨T, 1, none⟩ = some (.int .i64 qz)) (by kernel_rfl) ⟨UAA.out.now.1, ra_c1 UT.out.now⟩ (fun hHeld => ?_)
  refine tk 0 (v := ?_) rfl (by kernel_rfl) (fun _ _ _ h => hpan _ _ _ _ _ h) (Or.inl ⟨by rfl, ?_⟩) (by assumption) ?_
  rotate_left 1
  focus (intro w h; (try dsimp only at h); go_simp; try with_reducible rfl)
  try simp only [getElem_toArray, getElem_cons_zero, getElem_cons_succ, Act.put, setIfInBounds_toArray, set_cons_zero, set_cons_succ]
  refine tk 1 (v := ?_) rfl (by kernel_rfl) (fun _ _ _ h => hpan _ _ _ _ _ h) (Or.inl ⟨by rfl, ?_⟩) (by assumption) ?_
  rotate_left 1
  focus (intro w h; (try dsimp only at h); go_simp; try with_reducible rfl)
  try simp only [getElem_toArray, getElem_cons_zero, getElem_cons_succ, Act.put, setIfInBounds_toArray, set_cons_zero, set_cons_succ]
  refine tk 2 (v := ?_) rfl (by kernel_rfl) (fun _ _ _ h => hpan _ _ _ _ _ h) (Or.inl ⟨by rfl, ?_⟩) (by assumption) ?_
  rotate_left 1
  focus (intro w h; (try dsimp only at h); go_simp; try with_reducible rfl)
  try simp only [getElem_toArray, getElem_cons_zero, getElem_cons_succ, Act.put, setIfInBounds_toArray, set_cons_zero, set_cons_succ]
  refine tk 3 (v := ?_) rfl (by kernel_rfl) (fun _ _ _ h => hpan _ _ _ _ _ h) (Or.inl ⟨by rfl, ?_⟩) (by assumption) ?_
  rotate_left 1
  focus (intro w h; (try dsimp only at h); go_simp; try with_reducible rfl)
  try simp only [getElem_toArray, getElem_cons_zero, getElem_cons_succ, Act.put, setIfInBounds_toArray, set_cons_zero, set_cons_succ]
  refine tk 4 (v := ?_) rfl (by kernel_rfl) (fun _ _ _ h => hpan _ _ _ _ _ h) (Or.inl ⟨by rfl, ?_⟩) (by assumption) ?_
  rotate_left 1
  focus (intro w h; (try dsimp only at h); go_simp; try with_reducible rfl)
  try simp only [getElem_toArray, getElem_cons_zero, getElem_cons_succ, Act.put, setIfInBounds_toArray, set_cons_zero, set_cons_succ]
  refine tk 5 (v := ?_) rfl (by kernel_rfl) (fun _ _ _ h => hpan _ _ _ _ _ h) (Or.inl ⟨by rfl, ?_⟩) (by assumption) ?_
  rotate_left 1
  focus (intro w h; (try dsimp only at h); go_simp; try with_reducible rfl)
  try simp only [getElem_toArray, getElem_cons_zero, getElem_cons_succ, Act.put, setIfInBounds_toArray, set_cons_zero, set_cons_succ]
  refine wpAnyH_ready (rs := [6, 10]) (by kernel_rfl) (by simp) ?_
  refine AllReadyH.cons (o := _) rfl (fun K hK => ?_) ?_
  · rw [if_pos (by kernel_rfl)]
    simp only [getElem_toArray, getElem_cons_zero, getElem_cons_succ]
    go_simp
    (with_reducible refine (V1.out _ UAA.out.now.2).mono ?_)
    rintro e w55 ⟨al, n, c, rfl, hs, hfr, hb⟩
    have UNN := Lib.hid (up_sl hs)
    replace UAA := Lib.hid (UAA.out.next hb)
    replace UT := Lib.hid (UT.out.next hb)
    replace UBL := Lib.hid (UBL.out.next hb)
    clear hb hs hfr
    clear hHeld
    refine hK.out _ _ ⟨UAA.out.now.1, ra_c1 UT.out.now⟩ (fun hHeld => ?_)
    clear hK K
    try simp only [getElem_toArray, getElem_cons_zero, getElem_cons_succ, Act.put, setIfInBounds_toArray, set_cons_zero, set_cons_succ]
    refine tk 7 (v := ?_) rfl (by kernel_rfl) (fun _ _ _ h => hpan _ _ _ _ _ h) (Or.inl ⟨by rfl, ?_⟩) (by assumption) ?_
    rotate_left 1
    focus (intro w h; (try dsimp only at h); go_simp; try with_reducible rfl)
    try simp only [getElem_toArray, getElem_cons_zero, getElem_cons_succ, Act.put, setIfInBounds_toArray, set_cons_zero, set_cons_succ]
    refine tk 8 (v := ?_) rfl (by kernel_rfl) (fun _ _ _ h => hpan _ _ _ _ _ h) (Or.inl ⟨by rfl, ?_⟩) (by assumption) ?_
    rotate_left 1
    focus (intro w h; (try dsimp only at h); go_simp; try with_reducible rfl)
    try simp only [getElem_toArray, getElem_cons_zero, getElem_cons_succ, Act.put, setIfInBounds_toArray, set_cons_zero, set_cons_succ]
    refine tk 9 (v := ?_) rfl (by kernel_rfl) (fun _ _ _ h => hpan _ _ _ _ _ h) (Or.inl ⟨by rfl, ?_⟩) (by assumption) ?_
    rotate_left 1
    focus (intro w h; (try dsimp only at h); go_simp; try with_reducible rfl)
    try simp only [getElem_toArray, getElem_cons_zero, getElem_cons_succ, Act.put, setIfInBounds_toArray, set_cons_zero, set_cons_succ]
    refine wpAnyH_ready (rs := [10]) (by kernel_rfl) (by simp) ?_
    refine AllReadyH.cons (o := _) rfl (fun K hK => ?_) AllReadyH.nil
    rw [if_pos (by kernel_rfl)]
    simp only [getElem_toArray, getElem_cons_zero, getElem_cons_succ]
    obtain ⟨x56, P, e1, e2, hb2, hk⟩ := box1 w55 #[.slice none 0 0] 25
    go_simp
    have UK := Lib.hid (up_vr hk : Up x56 (VR P #[.slice none 0 0] 25))
    have HF := Lib.hid (Nat.le_trans UBL.out.now.size (Nat.le_of_eq e2))
    have HN := Lib.hid (pd_ne1 UNN.out.now e2)
    replace UAA := Lib.hid (UAA.out.next hb2)
    replace UT := Lib.hid (UT.out.next hb2)
    replace UBL := Lib.hid (UBL.out.next hb2)
    replace UNN := Lib.hid (UNN.out.next hb2)
    clear e1 e2 hb2 hk
    clear hHeld
    refine hK.out _ _ ⟨UAA.out.now.1, ra_c1 UT.out.now⟩ (fun hHeld => ?_)
    clear hK K
    try simp only [getElem_toArray, getElem_cons_zero, getElem_cons_succ, Act.put, setIfInBounds_toArray, set_cons_zero, set_cons_succ]
    have hX := Lib.hid (pd_done (c := c) UNN.out.now UK.out.now HN.out HF.out UBL.out.now)
    have hc0 := (row_cell UK.out.now 0).trans (show _ = some (.slice none 0 0) from rfl)
    have hf0 := frozen_of_row _ P 0 _ _ UK.out.now
    refine wpAnyH_ready (rs := [11]) (by kernel_rfl) (by simp) ?_
    refine AllReadyH.cons (o := _) rfl (fun K hK => ?_) AllReadyH.nil
    rw [if_pos (by kernel_rfl)]
    simp only [getElem_toArray, getElem_cons_zero, getElem_cons_succ]
    go_simp
    clear hc0 hf0 hHeld
    refine hK.out _ _ ⟨(UAA0.out _ hX.out.2).1, ra_c1 (UT0.out _ hX.out.2)⟩ (fun hHeld => ?_)
    clear hK K
    try simp only [getElem_toArray, getElem_cons_zero, getElem_cons_succ, Act.put, setIfInBounds_toArray, set_cons_zero, set_cons_succ]
    refine tk 12 (v := ?_) rfl (by kernel_rfl) (fun _ _ _ h => hpan _ _ _ _ _ h) (Or.inl ⟨by rfl, ?_⟩) (by assumption) ?_
    rotate_left 1
    focus (intro w h; (try dsimp only at h); go_simp; try with_reducible rfl)
    try simp only [getElem_toArray, getElem_cons_zero, getElem_cons_succ, Act.put, setIfInBounds_toArray, set_cons_zero, set_cons_succ]
    clear hHeld
    refine wpAnyH_done (by kernel_rfl) ?_ _
    exact KEY.out _ _ P al n c (by kernel_rfl) (by first | kernel_rfl | simp) (by first | kernel_rfl | simp) hX.out.1 hX.out.2
  refine AllReadyH.cons (o := _) rfl (fun K hK => ?_) AllReadyH.nil
  rw [if_pos (by kernel_rfl)]
  simp only [getElem_toArray, getElem_cons_zero, getElem_cons_succ]
  obtain ⟨x57, P, e1, e2, hb2, hk⟩ := box1 w.drew #[.slice none 0 0] 25
  go_simp
  have UK := Lib.hid (up_vr hk : Up x57 (VR P #[.slice none 0 0] 25))
  have HF := Lib.hid (Nat.le_trans UBL.out.now.size (Nat.le_of_eq e2))
  replace UAA := Lib.hid (UAA.out.next hb2)
  replace UT := Lib.hid (UT.out.next hb2)
  replace UBL := Lib.hid (UBL.out.next hb2)
  clear e1 e2 hb2 hk
  clear hHeld
  refine hK.out _ _ ⟨UAA.out.now.1, ra_c1 UT.out.now⟩ (fun hHeld => ?_)
  clear hK K
  try simp only [getElem_toArray, getElem_cons_zero, getElem_cons_succ, Act.put, setIfInBounds_toArray, set_cons_zero, set_cons_succ]
  refine wpAnyH_ready (rs := [6]) (by kernel_rfl) (by simp) ?_
  refine AllReadyH.cons (o := _) rfl (fun K hK => ?_) AllReadyH.nil
  rw [if_pos (by kernel_rfl)]
  simp only [getElem_toArray, getElem_cons_zero, getElem_cons_succ]
  go_simp
  (with_reducible refine (V1.out _ UAA.out.now.2).mono ?_)
  rintro e w58 ⟨al, n, c, rfl, hs, hfr, hb⟩
  have UNN := Lib.hid (up_sl hs)
  have HN := Lib.hid (pd_ne2 (n := n) UK.out.now hfr)
  replace UAA := Lib.hid (UAA.out.next hb)
  replace UT := Lib.hid (UT.out.next hb)
  replace UBL := Lib.hid (UBL.out.next hb)
  replace UK := Lib.hid (UK.out.next hb)
  clear hb hs hfr
  clear hHeld
  refine hK.out _ _ ⟨UAA.out.now.1, ra_c1 UT.out.now⟩ (fun hHeld => ?_)
  clear hK K
  try simp only [getElem_toArray, getElem_cons_zero, getElem_cons_succ, Act.put, setIfInBounds_toArray, set_cons_zero, set_cons_succ]
  refine tk 7 (v := ?_) rfl (by kernel_rfl) (fun _ _ _ h => hpan _ _ _ _ _ h) (Or.inl ⟨by rfl, ?_⟩) (by assumption) ?_
  rotate_left 1
  focus (intro w h; (try dsimp only at h); go_simp; try with_reducible rfl)
  try simp only [getElem_toArray, getElem_cons_zero, getElem_cons_succ, Act.put, setIfInBounds_toArray, set_cons_zero, set_cons_succ]
  refine tk 8 (v := ?_) rfl (by kernel_rfl) (fun _ _ _ h => hpan _ _ _ _ _ h) (Or.inl ⟨by rfl, ?_⟩) (by assumption) ?_
  rotate_left 1
  focus (intro w h; (try dsimp only at h); go_simp; try with_reducible rfl)
  try simp only [getElem_toArray, getElem_cons_zero, getElem_cons_succ, Act.put, setIfInBounds_toArray, set_cons_zero, set_cons_succ]
  refine tk 9 (v := ?_) rfl (by kernel_rfl) (fun _ _ _ h => hpan _ _ _ _ _ h) (Or.inl ⟨by rfl, ?_⟩) (by assumption) ?_
  rotate_left 1
  focus (intro w h; (try dsimp only at h); go_simp; try with_reducible rfl)
  try simp only [getElem_toArray, getElem_cons_zero, getElem_cons_succ, Act.put, setIfInBounds_toArray, set_cons_zero, set_cons_succ]
  have hX := Lib.hid (pd_done (c := c) UNN.out.now UK.out.now HN.out HF.out UBL.out.now)
  have hc0 := (row_cell UK.out.now 0).trans (show _ = some (.slice none 0 0) from rfl)
  have hf0 := frozen_of_row _ P 0 _ _ UK.out.now
  refine wpAnyH_ready (rs := [11]) (by kernel_rfl) (by simp) ?_
  refine AllReadyH.cons (o := _) rfl (fun K hK => ?_) AllReadyH.nil
  rw [if_pos (by kernel_rfl)]
  simp only [getElem_toArray, getElem_cons_zero, getElem_cons_succ]
  go_simp
  clear hc0 hf0 hHeld
  refine hK.out _ _ ⟨(UAA0.out _ hX.out.2).1, ra_c1 (UT0.out _ hX.out.2)⟩ (fun hHeld => ?_)
  clear hK K
  try simp only [getElem_toArray, getElem_cons_zero, getElem_cons_succ, Act.put, setIfInBounds_toArray, set_cons_zero, set_cons_succ]
  refine tk 12 (v := ?_) rfl (by kernel_rfl) (fun _ _ _ h => hpan _ _ _ _ _ h) (Or.inl ⟨by rfl, ?_⟩) (by assumption) ?_
  rotate_left 1
  focus (intro w h; (try dsimp only at h); go_simp; try with_reducible rfl)
  try simp only [getElem_toArray, getElem_cons_zero, getElem_cons_succ, Act.put, setIfInBounds_toArray, set_cons_zero, set_cons_succ]
  clear hHeld
  refine wpAnyH_done (by kernel_rfl) ?_ _
  exact KEY.out _ _ P al n c (by kernel_rfl) (by first | kernel_rfl | simp) (by first | kernel_rfl | simp) hX.out.1 hX.out.2

set_option maxRecDepth 100000 in
set_option maxHeartbeats 4000000 in
theorem rg_44 {c : Code} {L : List Value} {Q : Exit → Act → World → Prop} {w : World} {L0 T ia : Nat} {alA : Option Addr} {nlA clA : Nat} {zlA : List Int} {pz qz ew : Int} {rw_ : List Int} (hc : c = rg 44) (hpan : ∀ c a d v w, Q (.panic c) (a.put d v) w → Q (.panic c) a w) (hL : L.length = 528) (e17 : L.getD 17 undef = .slice (some ⟨L0, 0, none⟩) 4 4) (e27 : L.getD 27 undef = .int .i64 ia) (e34 : L.getD 34 undef = .pointer (some ⟨T, 0, none⟩))
    (ia0 : (0 : Int) ≤ ia)
    (ia1 : (ia : Int) < 4)
    (V1 : ∀ w, Sl w alA nlA zlA → Calls Tryd.prog 36 #[.agg #[.slice alA nlA clA], .int .i64 qz] w (OutP w ew rw_))
    (UAA : Up w (fun W => W.cell? ⟨L0, ia, none⟩ = some (.slice alA nlA clA) ∧ Sl W alA nlA zlA))
    (UT : Up w (VR T #[.int .i64 pz, .int .i64 qz] 35))
    (hQ : ∀ (g : Nat → Value) (W : World) (P : Nat) (al : Option Addr) (n c : Nat), Same (fun i => (decide (41 ≤ i) && decide (i ≤ 42)) || (decide (340 ≤ i) && decide (i ≤ 349))) (fun n => L.getD n undef) g → g 41 = .pointer (some ⟨P, 0, none⟩) → g 42 = .int .i64 ew → VG P al n c rw_ W → Below w.heap.size w W → Q .normal ⟨(fr528 g).toArray, []⟩ W) : c.wp Tryd.prog Q ⟨L.toArray, []⟩ w := by
  have key : ∀ (L' : List Value) (W : World) (P : Nat) (al : Option Addr) (n c : Nat), L' = msk (fun i => (decide (41 ≤ i) && decide (i ≤ 42)) || (decide (340 ≤ i) && decide (i ≤ 349))) (fun n => L'.getD n undef) 0 L → (fun n => L'.getD n undef) 41 = .pointer (some ⟨P, 0, none⟩) → (fun n => L'.getD n undef) 42 = .int .i64 ew → VG P al n c rw_ W → Below w.heap.size w W → Q .normal ⟨L'.toArray, []⟩ W := fun L' W P al n c h1 a0 a1 a2 a3 => by
    have h3 := hQ (fun n => L'.getD n undef) W P al n c (same_msk hL h1).2 a0 a1 a2 a3
    rw [← fr_self (same_msk hL h1).1] at h3
    exact h3
  clear hQ
  replace hL := fr_self hL
  generalize hf : (fun n => L.getD n undef) = fr at hL
  have f17 : fr 17 = .slice (some ⟨L0, 0, none⟩) 4 4 := by rw [← hf]; exact e17
  have f27 : fr 27 = .int .i64 ia := by rw [← hf]; exact e27
  have f34 : fr 34 = .pointer (some ⟨T, 0, none⟩) := by rw [← hf]; exact e34
  clear hf e17 e27 e34
  subst hc hL
  unfold fr528 at key ⊢
  simp only [f17, f27, f34] at key ⊢
  clear f17 f27 f34
  have KEY := Lib.hid key
  clear key
  replace ia0 := Lib.hid ia0
  replace ia1 := Lib.hid ia1
  replace V1 := Lib.hid V1
  replace UAA := Lib.hid UAA
  replace UT := Lib.hid UT
  conv => arg 2; whnf
  try (conv => arg 2; arg 2; simp only [List.append])
  replace ia0 := ia0.out
  replace ia1 := ia1.out
  have UAA0 := UAA
  have UT0 := UT
  have UBL := Lib.hid (up_bl w)
  have hd : Below w.heap.size w w.drew := (Below.refl _ _).drew
  replace UAA := Lib.hid (UAA.out.next hd)
  replace UT := Lib.hid (UT.out.next hd)
  replace UBL := Lib.hid (UBL.out.next hd)
  clear hd
  refine wp_region_held_drew (S := fun w' => w'.cell? ⟨L0, ia, none⟩ = some (.slice alA nlA clA) ∧ w'.cell? ⟨T, 1, none⟩ = some (.int .i64 qz)) (by kernel_rfl) ⟨UAA.out.now.1, ra_c1 UT.out.now⟩ (fun hHeld => ?_)
  refine tk 0 (v := ?_) rfl (by kernel_rfl) (fun _ _ _ h => hpan _ _ _ _ _ h) (Or.inl ⟨by rfl, ?_⟩) (by assumption) ?_
  rotate_left 1
  focus (intro w h; (try dsimp only at h); go_simp; try with_reducible rfl)
  try simp only [getElem_toArray, getElem_cons_zero, getElem_cons_succ, Act.put, setIfInBounds_toArray, set_cons_zero, set_cons_succ]
  refine tk 1 (v := ?_) rfl (by kernel_rfl) (fun _ _ _ h => hpan _ _ _ _ _ h) (Or.inl ⟨by rfl, ?_⟩) (by assumption) ?_
  rotate_left 1
  focus (intro w h; (try dsimp only at h); go_simp; try with_reducible rfl)
  try simp only [getElem_toArray, getElem_cons_zero, getElem_cons_succ, Act.put, setIfInBounds_toArray, set_cons_zero, set_cons_succ]
  refine tk 2 (v := ?_) rfl (by kernel_rfl) (fun _ _ _ h => hpan _ _ _ _ _ h) (Or.inl ⟨by rfl, ?_⟩) (by assumption) ?_
  rotate_left 1
  focus (intro w h; (try dsimp only at h); go_simp; try with_reducible rfl)
  try simp only [getElem_toArray, getElem_cons_zero, getElem_cons_succ, Act.put, setIfInBounds_toArray, set_cons_zero, set_cons_succ]
  refine tk 3 (v := ?_) rfl (by kernel_rfl) (fun _ _ _ h => hpan _ _ _ _ _ h) (Or.inl ⟨by rfl, ?_⟩) (by assumption) ?_
  rotate_left 1
  focus (intro w h; (try dsimp only at h); go_simp; try with_reducible rfl)
  try simp only [getElem_toArray, getElem_cons_zero, getElem_cons_succ, Act.put, setIfInBounds_toArray, set_cons_zero, set_cons_succ]
  refine tk 4 (v := ?_) rfl (by kernel_rfl) (fun _ _ _ h => hpan _ _ _ _ _ h) (Or.inl ⟨by rfl, ?_⟩) (by assumption) ?_
  rotate_left 1
  focus (intro w h; (try dsimp only at h); go_simp; try with_reducible rfl)
  try simp only [getElem_toArray, getElem_cons_zero, getElem_cons_succ, Act.put, setIfInBounds_toArray, set_cons_zero, set_cons_succ]
  refine tk 5 (v := ?_) rfl (by kernel_rfl) (fun _ _ _ h => hpan _ _ _ _ _ h) (Or.inl ⟨by rfl, ?_⟩) (by assumption) ?_
  rotate_left 1
  focus (intro w h; (try dsimp only at h); go_simp; try with_reducible rfl)
  try simp only [getElem_toArray, getElem_cons_zero, getElem_cons_succ, Act.put, setIfInBounds_toArray, set_cons_zero, set_cons_succ]
  refine wpAnyH_ready (rs := [6, 10]) (by kernel_rfl) (by simp) ?_
  refine AllReadyH.cons (o := _) rfl (fun K hK => ?_) ?_
  · rw [if_pos (by kernel_rfl)]
    simp only [getElem_toArray, getElem_cons_zero, getElem_cons_succ]
    go_simp
    (with_reducible refine (V1.out _ UAA.out.now.2).mono ?_)
    rintro e w59 ⟨al, n, c, rfl, hs, hfr, hb⟩
    have UNN := Lib.hid (up_sl hs)
    replace UAA := Lib.hid (UAA.out.next hb)
    replace UT := Lib.hid (UT.out.next hb)
    replace UBL := Lib.hid (UBL.out.next hb)
    clear hb hs hfr
    clear hHeld
    refine hK.out _ _ ⟨UAA.out.now.1, ra_c1 UT.out.now⟩ (fun hHeld => ?_)
    clear hK K
    try simp only [getElem_toArray, getElem_cons_zero, getElem_cons_succ, Act.put, setIfInBounds_toArray, set_cons_zero, set_cons_succ]
    refine tk 7 (v := ?_) rfl (by kernel_rfl) (fun _ _ _ h => hpan _ _ _ _ _ h) (Or.inl ⟨by rfl, ?_⟩) (by assumption) ?_
    rotate_left 1
    focus (intro w h; (try dsimp only at h); go_simp; try with_reducible rfl)
    try simp only [getElem_toArray, getElem_cons_zero, getElem_cons_succ, Act.put, setIfInBounds_toArray, set_cons_zero, set_cons_succ]
    refine tk 8 (v := ?_) rfl (by kernel_rfl) (fun _ _ _ h => hpan _ _ _ _ _ h) (Or.inl ⟨by rfl, ?_⟩) (by assumption) ?_
    rotate_left 1
    focus (intro w h; (try dsimp only at h); go_simp; try with_reducible rfl)
    try simp only [getElem_toArray, getElem_cons_zero, getElem_cons_succ, Act.put, setIfInBounds_toArray, set_cons_zero, set_cons_succ]
    refine tk 9 (v := ?_) rfl (by kernel_rfl) (fun _ _ _ h => hpan _ _ _ _ _ h) (Or.inl ⟨by rfl, ?_⟩) (by assumption) ?_
    rotate_left 1
    focus (intro w h; (try dsimp only at h); go_simp; try with_reducible rfl)
    try simp only [getElem_toArray, getElem_cons_zero, getElem_cons_succ, Act.put, setIfInBounds_toArray, set_cons_zero, set_cons_succ]
    refine wpAnyH_ready (rs := [10]) (by kernel_rfl) (by simp) ?_
    refine AllReadyH.cons (o := _) rfl (fun K hK => ?_) AllReadyH.nil
    rw [if_pos (by kernel_rfl)]
    simp only [getElem_toArray, getElem_cons_zero, getElem_cons_succ]
    obtain ⟨x60, P, e1, e2, hb2, hk⟩ := box1 w59 #[.slice none 0 0] 25
    go_simp
    have UK := Lib.hid (up_vr hk : Up x60 (VR P #[.slice none 0 0] 25))
    have HF := Lib.hid (Nat.le_trans UBL.out.now.size (Nat.le_of_eq e2))
    have HN := Lib.hid (pd_ne1 UNN.out.now e2)
    replace UAA := Lib.hid (UAA.out.next hb2)
    replace UT := Lib.hid (UT.out.next hb2)
    replace UBL := Lib.hid (UBL.out.next hb2)
    replace UNN := Lib.hid (UNN.out.next hb2)
    clear e1 e2 hb2 hk
    clear hHeld
    refine hK.out _ _ ⟨UAA.out.now.1, ra_c1 UT.out.now⟩ (fun hHeld => ?_)
    clear hK K
    try simp only [getElem_toArray, getElem_cons_zero, getElem_cons_succ, Act.put, setIfInBounds_toArray, set_cons_zero, set_cons_succ]
    have hX := Lib.hid (pd_done (c := c) UNN.out.now UK.out.now HN.out HF.out UBL.out.now)
    have hc0 := (row_cell UK.out.now 0).trans (show _ = some (.slice none 0 0) from rfl)
    have hf0 := frozen_of_row _ P 0 _ _ UK.out.now
    refine wpAnyH_ready (rs := [11]) (by kernel_rfl) (by simp) ?_
    refine AllReadyH.cons (o := _) rfl (fun K hK => ?_) AllReadyH.nil
    rw [if_pos (by kernel_rfl)]
    simp only [getElem_toArray, getElem_cons_zero, getElem_cons_succ]
    go_simp
    clear hc0 hf0 hHeld
    refine hK.out _ _ ⟨(UAA0.out _ hX.out.2).1, ra_c1 (UT0.out _ hX.out.2)⟩ (fun hHeld => ?_)
    clear hK K
    try simp only [getElem_toArray, getElem_cons_zero, getElem_cons_succ, Act.put, setIfInBounds_toArray, set_cons_zero, set_cons_succ]
    refine tk 12 (v := ?_) rfl (by kernel_rfl) (fun _ _ _ h => hpan _ _ _ _ _ h) (Or.inl ⟨by rfl, ?_⟩) (by assumption) ?_
    rotate_left 1
    focus (intro w h; (try dsimp only at h); go_simp; try with_reducible rfl)
    try simp only [getElem_toArray, getElem_cons_zero, getElem_cons_succ, Act.put, setIfInBounds_toArray, set_cons_zero, set_cons_succ]
    clear hHeld
    refine wpAnyH_done (by kernel_rfl) ?_ _
    exact KEY.out _ _ P al n c (by kernel_rfl) (by first | kernel_rfl | simp) (by first | kernel_rfl | simp) hX.out.1 hX.out.2
  refine AllReadyH.cons (o := _) rfl (fun K hK => ?_) AllReadyH.nil
  rw [if_pos (by kernel_rfl)]
  simp only [getElem_toArray, getElem_cons_zero, getElem_cons_succ]
  obtain ⟨x61, P, e1, e2, hb2, hk⟩ := box1 w.drew #[.slice none 0 0] 25
  go_simp
  have UK := Lib.hid (up_vr hk : Up x61 (VR P #[.slice none 0 0] 25))
  have HF := Lib.hid (Nat.le_trans UBL.out.now.size (Nat.le_of_eq e2))
  replace UAA := Lib.hid (UAA.out.next hb2)
  replace UT := Lib.hid (UT.out.next hb2)
  replace UBL := Lib.hid (UBL.out.next hb2)
  clear e1 e2 hb2 hk
  clear hHeld
  refine hK.out _ _ ⟨UAA.out.now.1, ra_c1 UT.out.now⟩ (fun hHeld => ?_)
  clear hK K
  try simp only [getElem_toArray, getElem_cons_zero, getElem_cons_succ, Act.put, setIfInBounds_toArray, set_cons_zero, set_cons_succ]
  refine wpAnyH_ready (rs := [6]) (by kernel_rfl) (by simp) ?_
  refine AllReadyH.cons (o := _) rfl (fun K hK => ?_) AllReadyH.nil
  rw [if_pos (by kernel_rfl)]
  simp only [getElem_toArray, getElem_cons_zero, getElem_cons_succ]
  go_simp
  (with_reducible refine (V1.out _ UAA.out.now.2).mono ?_)
  rintro e w62 ⟨al, n, c, rfl, hs, hfr, hb⟩
  have UNN := Lib.hid (up_sl hs)
  have HN := Lib.hid (pd_ne2 (n := n) UK.out.now hfr)
  replace UAA := Lib.hid (UAA.out.next hb)
  replace UT := Lib.hid (UT.out.next hb)
  replace UBL := Lib.hid (UBL.out.next hb)
  replace UK := Lib.hid (UK.out.next hb)
  clear hb hs hfr
  clear hHeld
  refine hK.out _ _ ⟨UAA.out.now.1, ra_c1 UT.out.now⟩ (fun hHeld => ?_)
  clear hK K
  try simp only [getElem_toArray, getElem_cons_zero, getElem_cons_succ, Act.put, setIfInBounds_toArray, set_cons_zero, set_cons_succ]
  refine tk 7 (v := ?_) rfl (by kernel_rfl) (fun _ _ _ h => hpan _ _ _ _ _ h) (Or.inl ⟨by rfl, ?_⟩) (by assumption) ?_
  rotate_left 1
  focus (intro w h; (try dsimp only at h); go_simp; try with_reducible rfl)
  try simp only [getElem_toArray, getElem_cons_zero, getElem_cons_succ, Act.put, setIfInBounds_toArray, set_cons_zero, set_cons_succ]
  refine tk 8 (v := ?_) rfl (by kernel_rfl) (fun _ _ _ h => hpan _ _ _ _ _ h) (Or.inl ⟨by rfl, ?_⟩) (by assumption) ?_
  rotate_left 1
  focus (intro w h; (try dsimp only at h); go_simp; try with_reducible rfl)
  try simp only [getElem_toArray, getElem_cons_zero, getElem_cons_succ, Act.put, setIfInBounds_toArray, set_cons_zero, set_cons_succ]
  refine tk 9 (v := ?_) rfl (by kernel_rfl) (fun _ _ _ h => hpan _ _ _ _ _ h) (Or.inl ⟨by rfl, ?_⟩) (by assumption) ?_
  rotate_left 1
  focus (intro w h; (try dsimp only at h); go_simp; try with_reducible rfl)
  try simp only [getElem_toArray, getElem_cons_zero, getElem_cons_succ, Act.put, setIfInBounds_toArray, set_cons_zero, set_cons_succ]
  have hX := Lib.hid (pd_done (c := c) UNN.out.now UK.out.now HN.out HF.out UBL.out.now)
  have hc0 := (row_cell UK.out.now 0).trans (show _ = some (.slice none 0 0) from rfl)
  have hf0 := frozen_of_row _ P 0 _ _ UK.out.now
  refine wpAnyH_ready (rs := [11]) (by kernel_rfl) (by simp) ?_
  refine AllReadyH.cons (o := _) rfl (fun K hK => ?_) AllReadyH.nil
  rw [if_pos (by kernel_rfl)]
  simp only [getElem_toArray, getElem_cons_zero, getElem_cons_succ]
  go_simp
  clear hc0 hf0 hHeld
  refine hK.out _ _ ⟨(UAA0.out _ hX.out.2).1, ra_c1 (UT0.out _ hX.out.2)⟩ (fun hHeld => ?_)
  clear hK K
  try simp only [getElem_toArray, getElem_cons_zero, getElem_cons_succ, Act.put, setIfInBounds_toArray, set_cons_zero, set_cons_succ]
  refine tk 12 (v := ?_) rfl (by kernel_rfl) (fun _ _ _ h => hpan _ _ _ _ _ h) (Or.inl ⟨by rfl, ?_⟩) (by assumption) ?_
  rotate_left 1
  focus (intro w h; (try dsimp only at h); go_simp; try with_reducible rfl)
  try simp only [getElem_toArray, getElem_cons_zero, getElem_cons_succ, Act.put, setIfInBounds_toArray, set_cons_zero, set_cons_succ]
  clear hHeld
  refine wpAnyH_done (by kernel_rfl) ?_ _
  exact KEY.out _ _ P al n c (by kernel_rfl) (by first | kernel_rfl | simp) (by first | kernel_rfl | simp) hX.out.1 hX.out.2
end Go.Proofs.YtipfafglbkbafaaDoor
