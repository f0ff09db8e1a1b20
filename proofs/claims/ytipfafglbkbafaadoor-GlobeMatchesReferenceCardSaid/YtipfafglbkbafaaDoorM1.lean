/- GlobeMatchesReference: the regions 11, 16, 18, 21, 22, each by itself. -/
import Derived.Deep.RegionHeld3
import Derived.Test.YtipfafglbkbafaaDoorMk
namespace Go.Proofs.YtipfafglbkbafaaDoor
open Go.RowKit Go.Shelf
set_option linter.unusedVariables false
set_option linter.unusedSimpArgs false
open List (getElem_toArray getElem_cons_zero getElem_cons_succ setIfInBounds_toArray set_cons_zero set_cons_succ)
set_option maxRecDepth 100000 in
set_option maxHeartbeats 4000000 in
theorem rg_11 {c : Code} {L : List Value} {Q : Exit → Act → World → Prop} {w : World} {C i : Nat} {xi yi : Int} {r : Bool} (hc : c = rg 11) (hpan : ∀ c a d v w, Q (.panic c) (a.put d v) w → Q (.panic c) a w) (hL : L.length = 528) (e18 : L.getD 18 undef = .slice (some ⟨C, 0, none⟩) 4 4) (e19 : L.getD 19 undef = .int .i64 i)
    (i0 : (0 : Int) ≤ i)
    (i1 : (i : Int) < 4)
    (V1 : ∀ w, Calls Tryd.prog 15 #[CV xi yi] w (OutV w (.bool r)))
    (V2 : ∀ w, Calls Tryd.prog 16 #[CV xi yi] w (OutV w (.bool r)))
    (UCi : Up w (fun W => W.cell? ⟨C, i * 2, none⟩ = some (.int .i64 xi) ∧ W.cell? ⟨C, i * 2 + 1, none⟩ = some (.int .i64 yi)))
    (hQ : ∀ (g : Nat → Value) (W : World), Same (fun i => (decide (97 ≤ i) && decide (i ≤ 107))) (fun n => L.getD n undef) g → g 107 = .bool false → Below w.heap.size w W → Q .normal ⟨(fr528 g).toArray, []⟩ W) : c.wp Tryd.prog Q ⟨L.toArray, []⟩ w := by
  have key : ∀ (L' : List Value) (W : World), L' = msk (fun i => (decide (97 ≤ i) && decide (i ≤ 107))) (fun n => L'.getD n undef) 0 L → (fun n => L'.getD n undef) 107 = .bool false → Below w.heap.size w W → Q .normal ⟨L'.toArray, []⟩ W := fun L' W  h1 a0 a1 => by
    have h3 := hQ (fun n => L'.getD n undef) W  (same_msk hL h1).2 a0 a1
    rw [← fr_self (same_msk hL h1).1] at h3
    exact h3
  clear hQ
  replace hL := fr_self hL
  generalize hf : (fun n => L.getD n undef) = fr at hL
  have f18 : fr 18 = .slice (some ⟨C, 0, none⟩) 4 4 := by rw [← hf]; exact e18
  have f19 : fr 19 = .int .i64 i := by rw [← hf]; exact e19
  clear hf e18 e19
  subst hc hL
  unfold fr528 at key ⊢
  simp only [f18, f19] at key ⊢
  clear f18 f19
  have KEY := Lib.hid key
  clear key
  replace i0 := Lib.hid i0
  replace i1 := Lib.hid i1
  replace V1 := Lib.hid V1
  replace V2 := Lib.hid V2
  replace UCi := Lib.hid UCi
  conv => arg 2; whnf
  try (conv => arg 2; arg 2; simp only [List.append])
  replace i0 := i0.out
  replace i1 := i1.out
  have UBL := Lib.hid (up_bl w)
  have hBB : Below w.heap.size w w.drew := (Below.refl _ _).drew
  go_region_held3 (fun w' => w'.cell? ⟨C, i * 2, none⟩ = some (.int .i64 xi) ∧ w'.cell? ⟨C, i * 2 + 1, none⟩ = some (.int .i64 yi)) (exact ⟨(UCi.out.at hBB).1, (UCi.out.at hBB).2⟩) (first | (go_at_call 15; (with_reducible refine (V1.out _).mono ?_); rintro e w21 ⟨rfl, hb⟩; replace hBB := hBB.trans (hb.mono hBB.size); clear hb) | (go_at_call 16; (with_reducible refine (V2.out _).mono ?_); rintro e w22 ⟨rfl, hb⟩; replace hBB := hBB.trans (hb.mono hBB.size); clear hb))
  replace UCi := Lib.hid (UCi.out.next hBB)
  replace UBL := Lib.hid (UBL.out.next hBB)
  clear hBB
  exact KEY.out _ _ (by kernel_rfl) (by first | kernel_rfl | simp) UBL.out.now

set_option maxRecDepth 100000 in
set_option maxHeartbeats 4000000 in
theorem rg_16 {c : Code} {L : List Value} {Q : Exit → Act → World → Prop} {w : World} {C i k : Nat} {xi yi xk yk : Int} {r : Int} (hc : c = rg 16) (hpan : ∀ c a d v w, Q (.panic c) (a.put d v) w → Q (.panic c) a w) (hL : L.length = 528) (e18 : L.getD 18 undef = .slice (some ⟨C, 0, none⟩) 4 4) (e19 : L.getD 19 undef = .int .i64 i) (e20 : L.getD 20 undef = .int .i64 k)
    (i0 : (0 : Int) ≤ i)
    (i1 : (i : Int) < 4)
    (k0 : (0 : Int) ≤ k)
    (k1 : (k : Int) < 4)
    (V1 : ∀ w, Calls Tryd.prog 17 #[CV xi yi, CV xk yk] w (OutV w (.int .i64 r)))
    (V2 : ∀ w, Calls Tryd.prog 18 #[CV xi yi, CV xk yk] w (OutV w (.int .i64 r)))
    (UCi : Up w (fun W => W.cell? ⟨C, i * 2, none⟩ = some (.int .i64 xi) ∧ W.cell? ⟨C, i * 2 + 1, none⟩ = some (.int .i64 yi)))
    (UCk : Up w (fun W => W.cell? ⟨C, k * 2, none⟩ = some (.int .i64 xk) ∧ W.cell? ⟨C, k * 2 + 1, none⟩ = some (.int .i64 yk)))
    (hQ : ∀ (g : Nat → Value) (W : World), Same (fun i => (decide (114 ≤ i) && decide (i ≤ 132))) (fun n => L.getD n undef) g → g 132 = .bool false → Below w.heap.size w W → Q .normal ⟨(fr528 g).toArray, []⟩ W) : c.wp Tryd.prog Q ⟨L.toArray, []⟩ w := by
  have key : ∀ (L' : List Value) (W : World), L' = msk (fun i => (decide (114 ≤ i) && decide (i ≤ 132))) (fun n => L'.getD n undef) 0 L → (fun n => L'.getD n undef) 132 = .bool false → Below w.heap.size w W → Q .normal ⟨L'.toArray, []⟩ W := fun L' W  h1 a0 a1 => by
    have h3 := hQ (fun n => L'.getD n undef) W  (same_msk hL h1).2 a0 a1
    rw [← fr_self (same_msk hL h1).1] at h3
    exact h3
  clear hQ
  replace hL := fr_self hL
  generalize hf : (fun n => L.getD n undef) = fr at hL
  have f18 : fr 18 = .slice (some ⟨C, 0, none⟩) 4 4 := by rw [← hf]; exact e18
  have f19 : fr 19 = .int .i64 i := by rw [← hf]; exact e19
  have f20 : fr 20 = .int .i64 k := by rw [← hf]; exact e20
  clear hf e18 e19 e20
  subst hc hL
  unfold fr528 at key ⊢
  simp only [f18, f19, f20] at key ⊢
  clear f18 f19 f20
  have KEY := Lib.hid key
  clear key
  replace i0 := Lib.hid i0
  replace i1 := Lib.hid i1
  replace k0 := Lib.hid k0
  replace k1 := Lib.hid k1
  replace V1 := Lib.hid V1
  replace V2 := Lib.hid V2
  replace UCi := Lib.hid UCi
  replace UCk := Lib.hid UCk
  conv => arg 2; whnf
  try (conv => arg 2; arg 2; simp only [List.append])
  replace i0 := i0.out
  replace i1 := i1.out
  replace k0 := k0.out
  replace k1 := k1.out
  have UBL := Lib.hid (up_bl w)
  have hBB : Below w.heap.size w w.drew := (Below.refl _ _).drew
  go_region_held3 (fun w' => w'.cell? ⟨C, i * 2, none⟩ = some (.int .i64 xi) ∧ w'.cell? ⟨C, i * 2 + 1, none⟩ = some (.int .i64 yi) ∧ w'.cell? ⟨C, k * 2, none⟩ = some (.int .i64 xk) ∧ w'.cell? ⟨C, k * 2 + 1, none⟩ = some (.int .i64 yk)) (exact ⟨(UCi.out.at hBB).1, (UCi.out.at hBB).2, (UCk.out.at hBB).1, (UCk.out.at hBB).2⟩) (first | (go_at_call 17; (with_reducible refine (V1.out _).mono ?_); rintro e w23 ⟨rfl, hb⟩; replace hBB := hBB.trans (hb.mono hBB.size); clear hb) | (go_at_call 18; (with_reducible refine (V2.out _).mono ?_); rintro e w24 ⟨rfl, hb⟩; replace hBB := hBB.trans (hb.mono hBB.size); clear hb))
  replace UCi := Lib.hid (UCi.out.next hBB)
  replace UCk := Lib.hid (UCk.out.next hBB)
  replace UBL := Lib.hid (UBL.out.next hBB)
  clear hBB
  exact KEY.out _ _ (by kernel_rfl) (by first | kernel_rfl | simp) UBL.out.now

set_option maxRecDepth 100000 in
set_option maxHeartbeats 4000000 in
theorem rg_18 {c : Code} {L : List Value} {Q : Exit → Act → World → Prop} {w : World} {Bn : Nat} {z0 z1 z2 z3 : Int} {ps pt : Nat} (hc : c = rg 18) (hpan : ∀ c a d v w, Q (.panic c) (a.put d v) w → Q (.panic c) a w) (hL : L.length = 528) (e13 : L.getD 13 undef = .pointer (some ⟨Bn, 0, none⟩))
    (HS : ps < 48)
    (HT : pt < 24)
    (PS : ∀ w, Calls Tryd.prog 12 #[.int .i64 z2, .int .i64 48] w (OutV w (.int .i64 (ps : Nat))))
    (PT : ∀ w, Calls Tryd.prog 12 #[.int .i64 z3, .int .i64 24] w (OutV w (.int .i64 (pt : Nat))))
    (UN : Up w (VR Bn #[.int .i64 z0, .int .i64 z1, .int .i64 z2, .int .i64 z3] 28))
    (hQ : ∀ (g : Nat → Value) (W : World) (Z : Nat), Same (fun i => (decide (133 ≤ i) && decide (i ≤ 149))) (fun n => L.getD n undef) g → g 147 = .slice (some ⟨Z, 0, none⟩) 2 2 → g 148 = .int .i64 2 → g 149 = .int .i64 0 → VR Z #[.int .i64 z2, .int .i64 z3, .int .i64 (1 + (ps : Int)), .int .i64 (1 + (pt : Int))] 35 W → Below w.heap.size w W → Q .normal ⟨(fr528 g).toArray, []⟩ W) : c.wp Tryd.prog Q ⟨L.toArray, []⟩ w := by
  have key : ∀ (L' : List Value) (W : World) (Z : Nat), L' = msk (fun i => (decide (133 ≤ i) && decide (i ≤ 149))) (fun n => L'.getD n undef) 0 L → (fun n => L'.getD n undef) 147 = .slice (some ⟨Z, 0, none⟩) 2 2 → (fun n => L'.getD n undef) 148 = .int .i64 2 → (fun n => L'.getD n undef) 149 = .int .i64 0 → VR Z #[.int .i64 z2, .int .i64 z3, .int .i64 (1 + (ps : Int)), .int .i64 (1 + (pt : Int))] 35 W → Below w.heap.size w W → Q .normal ⟨L'.toArray, []⟩ W := fun L' W Z h1 a0 a1 a2 a3 a4 => by
    have h3 := hQ (fun n => L'.getD n undef) W Z (same_msk hL h1).2 a0 a1 a2 a3 a4
    rw [← fr_self (same_msk hL h1).1] at h3
    exact h3
  clear hQ
  replace hL := fr_self hL
  generalize hf : (fun n => L.getD n undef) = fr at hL
  have f13 : fr 13 = .pointer (some ⟨Bn, 0, none⟩) := by rw [← hf]; exact e13
  clear hf e13
  subst hc hL
  unfold fr528 at key ⊢
  simp only [f13] at key ⊢
  clear f13
  have KEY := Lib.hid key
  clear key
  replace HS := Lib.hid HS
  replace HT := Lib.hid HT
  replace PS := Lib.hid PS
  replace PT := Lib.hid PT
  replace UN := Lib.hid UN
  conv => arg 2; whnf
  try (conv => arg 2; arg 2; simp only [List.append])
  have UBL := Lib.hid (up_bl w)
  have wa : IntKind.i64.wrap (1 + (ps : Int)) = 1 + (ps : Int) := by have := HS.out; rw [IntKind.wrap_i64]; omega
  have wb : IntKind.i64.wrap (1 + (pt : Int)) = 1 + (pt : Int) := by have := HT.out; rw [IntKind.wrap_i64]; omega
  have hd : Below w.heap.size w w.drew := (Below.refl _ _).drew
  replace UN := Lib.hid (UN.out.next hd)
  replace UBL := Lib.hid (UBL.out.next hd)
  clear hd
  refine wp_region_held_drew (S := fun w' => w'.cell? ⟨Bn, 2, none⟩ = some (.int .i64 z2) ∧ w'.cell? ⟨Bn, 3, none⟩ = some (.int .i64 z3)) (by kernel_rfl) ⟨vr4_2 UN.out.now, vr4_3 UN.out.now⟩ (fun hHeld => ?_)
  refine tk 0 (v := ?_) rfl (by kernel_rfl) (fun _ _ _ h => hpan _ _ _ _ _ h) (Or.inl ⟨by rfl, ?_⟩) (by assumption) ?_
  rotate_left 1
  focus (intro w h; (try dsimp only at h); go_simp; try with_reducible rfl)
  try simp only [getElem_toArray, getElem_cons_zero, getElem_cons_succ, Act.put, setIfInBounds_toArray, set_cons_zero, set_cons_succ]
  refine tk 1 (v := ?_) rfl (by kernel_rfl) (fun _ _ _ h => hpan _ _ _ _ _ h) (Or.inl ⟨by rfl, ?_⟩) (by assumption) ?_
  rotate_left 1
  focus (intro w h; (try dsimp only at h); go_simp; try with_reducible rfl)
  try simp only [getElem_toArray, getElem_cons_zero, getElem_cons_succ, Act.put, setIfInBounds_toArray, set_cons_zero, set_cons_succ]
  refine tk 2 (v := ?_) rfl (by kernel_rfl) (fun _ _ _ h => hpan _ _ _ _ _ h) (Or.inl ⟨by rfl, ?_⟩) (by assumption) ?_
  rotate_left 1
  focus (intro w h; (try dsimp only at h); go_simp; try with_reducible rfl)
  try simp only [getElem_toArray, getElem_cons_zero, getElem_cons_succ, Act.put, setIfInBounds_toArray, set_cons_zero, set_cons_succ]
  refine tk 3 (v := ?_) rfl (by kernel_rfl) (fun _ _ _ h => hpan _ _ _ _ _ h) (Or.inl ⟨by rfl, ?_⟩) (by assumption) ?_
  rotate_left 1
  focus (intro w h; (try dsimp only at h); go_simp; try with_reducible rfl)
  try simp only [getElem_toArray, getElem_cons_zero, getElem_cons_succ, Act.put, setIfInBounds_toArray, set_cons_zero, set_cons_succ]
  refine tk 4 (v := ?_) rfl (by kernel_rfl) (fun _ _ _ h => hpan _ _ _ _ _ h) (Or.inl ⟨by rfl, ?_⟩) (by assumption) ?_
  rotate_left 1
  focus (intro w h; (try dsimp only at h); go_simp; try with_reducible rfl)
  try simp only [getElem_toArray, getElem_cons_zero, getElem_cons_succ, Act.put, setIfInBounds_toArray, set_cons_zero, set_cons_succ]
  refine tk 5 (v := ?_) rfl (by kernel_rfl) (fun _ _ _ h => hpan _ _ _ _ _ h) (Or.inl ⟨by rfl, ?_⟩) (by assumption) ?_
  rotate_left 1
  focus (intro w h; (try dsimp only at h); go_simp; try with_reducible rfl)
  try simp only [getElem_toArray, getElem_cons_zero, getElem_cons_succ, Act.put, setIfInBounds_toArray, set_cons_zero, set_cons_succ]
  refine tk 6 (v := ?_) rfl (by kernel_rfl) (fun _ _ _ h => hpan _ _ _ _ _ h) (Or.inl ⟨by rfl, ?_⟩) (by assumption) ?_
  rotate_left 1
  focus (intro w h; (try dsimp only at h); go_simp; try with_reducible rfl)
  try simp only [getElem_toArray, getElem_cons_zero, getElem_cons_succ, Act.put, setIfInBounds_toArray, set_cons_zero, set_cons_succ]
  refine tk 9 (v := ?_) rfl (by kernel_rfl) (fun _ _ _ h => hpan _ _ _ _ _ h) (Or.inl ⟨by rfl, ?_⟩) (by assumption) ?_
  rotate_left 1
  focus (intro w h; (try dsimp only at h); go_simp; try with_reducible rfl)
  try simp only [getElem_toArray, getElem_cons_zero, getElem_cons_succ, Act.put, setIfInBounds_toArray, set_cons_zero, set_cons_succ]
  refine tk 10 (v := ?_) rfl (by kernel_rfl) (fun _ _ _ h => hpan _ _ _ _ _ h) (Or.inl ⟨by rfl, ?_⟩) (by assumption) ?_
  rotate_left 1
  focus (intro w h; (try dsimp only at h); go_simp; try with_reducible rfl)
  try simp only [getElem_toArray, getElem_cons_zero, getElem_cons_succ, Act.put, setIfInBounds_toArray, set_cons_zero, set_cons_succ]
  refine tk 16 (v := ?_) rfl (by kernel_rfl) (fun _ _ _ h => hpan _ _ _ _ _ h) (Or.inl ⟨by rfl, ?_⟩) (by assumption) ?_
  rotate_left 1
  focus (intro w h; (try dsimp only at h); go_simp; try with_reducible rfl)
  try simp only [getElem_toArray, getElem_cons_zero, getElem_cons_succ, Act.put, setIfInBounds_toArray, set_cons_zero, set_cons_succ]
  refine wpAnyH_ready (rs := [7]) (by kernel_rfl) (by simp) ?_
  refine AllReadyH.cons (o := _) rfl (fun K hK => ?_) AllReadyH.nil
  rw [if_pos (by kernel_rfl)]
  simp only [getElem_toArray, getElem_cons_zero, getElem_cons_succ]
  go_simp
  (with_reducible refine (PS.out _).mono ?_)
  rintro e w25 ⟨rfl, hb⟩
  replace UN := Lib.hid (UN.out.next hb)
  replace UBL := Lib.hid (UBL.out.next hb)
  clear hb
  clear hHeld
  refine hK.out _ _ ⟨vr4_2 UN.out.now, vr4_3 UN.out.now⟩ (fun hHeld => ?_)
  clear hK K
  try simp only [getElem_toArray, getElem_cons_zero, getElem_cons_succ, Act.put, setIfInBounds_toArray, set_cons_zero, set_cons_succ]
  refine tk 8 (v := ?_) rfl (by kernel_rfl) (fun _ _ _ h => hpan _ _ _ _ _ h) (Or.inl ⟨by rfl, ?_⟩) (by assumption) ?_
  rotate_left 1
  focus (intro w h; (try dsimp only at h); go_simp; try with_reducible rfl)
  try simp only [getElem_toArray, getElem_cons_zero, getElem_cons_succ, Act.put, setIfInBounds_toArray, set_cons_zero, set_cons_succ]
  refine wpAnyH_ready (rs := [11]) (by kernel_rfl) (by simp) ?_
  refine AllReadyH.cons (o := _) rfl (fun K hK => ?_) AllReadyH.nil
  rw [if_pos (by kernel_rfl)]
  simp only [getElem_toArray, getElem_cons_zero, getElem_cons_succ]
  go_simp
  (with_reducible refine (PT.out _).mono ?_)
  rintro e w26 ⟨rfl, hb⟩
  replace UN := Lib.hid (UN.out.next hb)
  replace UBL := Lib.hid (UBL.out.next hb)
  clear hb
  clear hHeld
  refine hK.out _ _ ⟨vr4_2 UN.out.now, vr4_3 UN.out.now⟩ (fun hHeld => ?_)
  clear hK K
  try simp only [getElem_toArray, getElem_cons_zero, getElem_cons_succ, Act.put, setIfInBounds_toArray, set_cons_zero, set_cons_succ]
  refine tk 12 (v := ?_) rfl (by kernel_rfl) (fun _ _ _ h => hpan _ _ _ _ _ h) (Or.inl ⟨by rfl, ?_⟩) (by assumption) ?_
  rotate_left 1
  focus (intro w h; (try dsimp only at h); go_simp; try with_reducible rfl)
  try simp only [getElem_toArray, getElem_cons_zero, getElem_cons_succ, Act.put, setIfInBounds_toArray, set_cons_zero, set_cons_succ]
  refine tk 13 (v := ?_) rfl (by kernel_rfl) (fun _ _ _ h => hpan _ _ _ _ _ h) (Or.inl ⟨by rfl, ?_⟩) (by assumption) ?_
  rotate_left 1
  focus (intro w h; (try dsimp only at h); go_simp; try with_reducible rfl)
  try simp only [getElem_toArray, getElem_cons_zero, getElem_cons_succ, Act.put, setIfInBounds_toArray, set_cons_zero, set_cons_succ]
  refine wpAnyH_ready (rs := [14]) (by kernel_rfl) (by simp) ?_
  refine AllReadyH.cons (o := _) rfl (fun K hK => ?_) AllReadyH.nil
  rw [if_pos (by kernel_rfl)]
  simp only [getElem_toArray, getElem_cons_zero, getElem_cons_succ]
  obtain ⟨x27, Z, e1, e2, hb2, hk⟩ := box1 w26 #[.int .i64 z2, .int .i64 z3, .int .i64 (1 + (ps : Int)), .int .i64 (1 + (pt : Int))] 35
  go_simp
  have UZ := Lib.hid (up_vr hk : Up x27 (VR Z #[.int .i64 z2, .int .i64 z3, .int .i64 (1 + (ps : Int)), .int .i64 (1 + (pt : Int))] 35))
  replace UN := Lib.hid (UN.out.next hb2)
  replace UBL := Lib.hid (UBL.out.next hb2)
  clear e1 e2 hb2 hk
  clear hHeld
  refine hK.out _ _ ⟨vr4_2 UN.out.now, vr4_3 UN.out.now⟩ (fun hHeld => ?_)
  clear hK K
  try simp only [getElem_toArray, getElem_cons_zero, getElem_cons_succ, Act.put, setIfInBounds_toArray, set_cons_zero, set_cons_succ]
  refine tk 15 (v := ?_) rfl (by kernel_rfl) (fun _ _ _ h => hpan _ _ _ _ _ h) (Or.inl ⟨by rfl, ?_⟩) (by assumption) ?_
  rotate_left 1
  focus (intro w h; (try dsimp only at h); go_simp; try with_reducible rfl)
  try simp only [getElem_toArray, getElem_cons_zero, getElem_cons_succ, Act.put, setIfInBounds_toArray, set_cons_zero, set_cons_succ]
  refine wpAnyH_done (by kernel_rfl) ?_ _
  clear hHeld
  clear wa wb
  exact KEY.out _ _ Z (by kernel_rfl) (by first | kernel_rfl | simp) (by first | kernel_rfl | simp) (by first | kernel_rfl | simp) UZ.out.now UBL.out.now

set_option maxRecDepth 100000 in
set_option maxHeartbeats 4000000 in
theorem rg_21 {c : Code} {L : List Value} {Q : Exit → Act → World → Prop} {w : World} {C T i : Nat} {xi yi pz qz ee : Int} {rr : List Int} (hc : c = rg 21) (hpan : ∀ c a d v w, Q (.panic c) (a.put d v) w → Q (.panic c) a w) (hL : L.length = 528) (e18 : L.getD 18 undef = .slice (some ⟨C, 0, none⟩) 4 4) (e19 : L.getD 19 undef = .int .i64 i) (e22 : L.getD 22 undef = .pointer (some ⟨T, 0, none⟩))
    (i0 : (0 : Int) ≤ i)
    (i1 : (i : Int) < 4)
    (V1 : ∀ w, Calls Tryd.prog 19 #[CV xi yi, .int .i64 pz, .int .i64 qz] w (OutP w ee rr))
    (UCi : Up w (fun W => W.cell? ⟨C, i * 2, none⟩ = some (.int .i64 xi) ∧ W.cell? ⟨C, i * 2 + 1, none⟩ = some (.int .i64 yi)))
    (UT : Up w (VR T #[.int .i64 pz, .int .i64 qz] 35))
    (hQ : ∀ (g : Nat → Value) (W : World) (P : Nat) (al : Option Addr) (n c : Nat), Same (fun i => (decide (23 ≤ i) && decide (i ≤ 24)) || (decide (153 ≤ i) && decide (i ≤ 164))) (fun n => L.getD n undef) g → g 23 = .pointer (some ⟨P, 0, none⟩) → g 24 = .int .i64 ee → VG P al n c rr W → Below w.heap.size w W → Q .normal ⟨(fr528 g).toArray, []⟩ W) : c.wp Tryd.prog Q ⟨L.toArray, []⟩ w := by
  have key : ∀ (L' : List Value) (W : World) (P : Nat) (al : Option Addr) (n c : Nat), L' = msk (fun i => (decide (23 ≤ i) && decide (i ≤ 24)) || (decide (153 ≤ i) && decide (i ≤ 164))) (fun n => L'.getD n undef) 0 L → (fun n => L'.getD n undef) 23 = .pointer (some ⟨P, 0, none⟩) → (fun n => L'.getD n undef) 24 = .int .i64 ee → VG P al n c rr W → Below w.heap.size w W → Q .normal ⟨L'.toArray, []⟩ W := fun L' W P al n c h1 a0 a1 a2 a3 => by
    have h3 := hQ (fun n => L'.getD n undef) W P al n c (same_msk hL h1).2 a0 a1 a2 a3
    rw [← fr_self (same_msk hL h1).1] at h3
    exact h3
  clear hQ
  replace hL := fr_self hL
  generalize hf : (fun n => L.getD n undef) = fr at hL
  have f18 : fr 18 = .slice (some ⟨C, 0, none⟩) 4 4 := by rw [← hf]; exact e18
  have f19 : fr 19 = .int .i64 i := by rw [← hf]; exact e19
  have f22 : fr 22 = .pointer (some ⟨T, 0, none⟩) := by rw [← hf]; exact e22
  clear hf e18 e19 e22
  subst hc hL
  unfold fr528 at key ⊢
  simp only [f18, f19, f22] at key ⊢
  clear f18 f19 f22
  have KEY := Lib.hid key
  clear key
  replace i0 := Lib.hid i0
  replace i1 := Lib.hid i1
  replace V1 := Lib.hid V1
  replace UCi := Lib.hid UCi
  replace UT := Lib.hid UT
  conv => arg 2; whnf
  try (conv => arg 2; arg 2; simp only [List.append])
  replace i0 := i0.out
  replace i1 := i1.out
  have UCi0 := UCi
  have UT0 := UT
  have UBL := Lib.hid (up_bl w)
  have hd : Below w.heap.size w w.drew := (Below.refl _ _).drew
  replace UCi := Lib.hid (UCi.out.next hd)
  replace UT := Lib.hid (UT.out.next hd)
  replace UBL := Lib.hid (UBL.out.next hd)
  clear hd
  refine wp_region_held_drew (S := fun w' => w'.cell? ⟨C, i * 2, none⟩ = some (.int .i64 xi) ∧ w'.cell? ⟨C, i * 2 + 1, none⟩ = some (.int .i64 yi) ∧ w'.cell? ⟨T, 0, none⟩ = some (.int .i64 pz) ∧ w'.cell? ⟨T, 1, none⟩ = some (.int .i64 qz)) (by kernel_rfl) ⟨UCi.out.now.1, UCi.out.now.2, ra_c0 UT.out.now, ra_c1 UT.out.now⟩ (fun hHeld => ?_)
  refine tk 0 (v := ?_) rfl (by kernel_rfl) (fun _ _ _ h => hpan _ _ _ _ _ h) (Or.inl ⟨by rfl, ?_⟩) (by assumption) ?_
  rotate_left 1
  focus (intro w h; (try dsimp only at h); go_simp; try with_reducible rfl)
  try simp only [getElem_toArray, getElem_cons_zero, getElem_cons_succ, Act.put, setIfInBounds_toArray, set_cons_zero, set_cons_succ]
  refine tk 1 (v := ?_) rfl (by kernel_rfl) (fun _ _ _ h => hpan _ _ _ _ _ h) (Or.inl ⟨by rfl, ?_⟩) (by assumption) ?_
  rotate_left 1
  focus (intro w h; (try dsimp only at h); go_simp; try with_reducible rfl)
  try simp only [getElem_toArray, getElem_cons_zero, getElem_cons_succ, Act.put, setIfInBounds_toArray, set_cons_zero, set_cons_succ]
  refine tk 2 (v := ?_) rfl (by kernel_rfl) (fun _ _ _ h => hpan _ _ _ _ _ h) (Or.inl ⟨by rfl, ?_⟩) (by assumption) ?_
  rotate_left 1
  focus (intro w h; (try dsimp only at h); go_simp; try with_reducible rfl)
  try simp only [getElem_toArray, getElem_cons_zero, getElem_cons_succ, Act.put, setIfInBounds_toArray, set_cons_zero, set_cons_succ]
  refine tk 3 (v := ?_) rfl (by kernel_rfl) (fun _ _ _ h => hpan _ _ _ _ _ h) (Or.inl ⟨by rfl, ?_⟩) (by assumption) ?_
  rotate_left 1
  focus (intro w h; (try dsimp only at h); go_simp; try with_reducible rfl)
  try simp only [getElem_toArray, getElem_cons_zero, getElem_cons_succ, Act.put, setIfInBounds_toArray, set_cons_zero, set_cons_succ]
  refine tk 4 (v := ?_) rfl (by kernel_rfl) (fun _ _ _ h => hpan _ _ _ _ _ h) (Or.inl ⟨by rfl, ?_⟩) (by assumption) ?_
  rotate_left 1
  focus (intro w h; (try dsimp only at h); go_simp; try with_reducible rfl)
  try simp only [getElem_toArray, getElem_cons_zero, getElem_cons_succ, Act.put, setIfInBounds_toArray, set_cons_zero, set_cons_succ]
  refine tk 5 (v := ?_) rfl (by kernel_rfl) (fun _ _ _ h => hpan _ _ _ _ _ h) (Or.inl ⟨by rfl, ?_⟩) (by assumption) ?_
  rotate_left 1
  focus (intro w h; (try dsimp only at h); go_simp; try with_reducible rfl)
  try simp only [getElem_toArray, getElem_cons_zero, getElem_cons_succ, Act.put, setIfInBounds_toArray, set_cons_zero, set_cons_succ]
  refine tk 6 (v := ?_) rfl (by kernel_rfl) (fun _ _ _ h => hpan _ _ _ _ _ h) (Or.inl ⟨by rfl, ?_⟩) (by assumption) ?_
  rotate_left 1
  focus (intro w h; (try dsimp only at h); go_simp; try with_reducible rfl)
  try simp only [getElem_toArray, getElem_cons_zero, getElem_cons_succ, Act.put, setIfInBounds_toArray, set_cons_zero, set_cons_succ]
  refine tk 7 (v := ?_) rfl (by kernel_rfl) (fun _ _ _ h => hpan _ _ _ _ _ h) (Or.inl ⟨by rfl, ?_⟩) (by assumption) ?_
  rotate_left 1
  focus (intro w h; (try dsimp only at h); go_simp; try with_reducible rfl)
  try simp only [getElem_toArray, getElem_cons_zero, getElem_cons_succ, Act.put, setIfInBounds_toArray, set_cons_zero, set_cons_succ]
  refine wpAnyH_ready (rs := [8, 12]) (by kernel_rfl) (by simp) ?_
  refine AllReadyH.cons (o := _) rfl (fun K hK => ?_) ?_
  · rw [if_pos (by kernel_rfl)]
    simp only [getElem_toArray, getElem_cons_zero, getElem_cons_succ]
    go_simp
    (with_reducible refine (V1.out _).mono ?_)
    rintro e w31 ⟨al, n, c, rfl, hs, hfr, hb⟩
    have UNN := Lib.hid (up_sl hs)
    replace UCi := Lib.hid (UCi.out.next hb)
    replace UT := Lib.hid (UT.out.next hb)
    replace UBL := Lib.hid (UBL.out.next hb)
    clear hb hs hfr
    clear hHeld
    refine hK.out _ _ ⟨UCi.out.now.1, UCi.out.now.2, ra_c0 UT.out.now, ra_c1 UT.out.now⟩ (fun hHeld => ?_)
    clear hK K
    try simp only [getElem_toArray, getElem_cons_zero, getElem_cons_succ, Act.put, setIfInBounds_toArray, set_cons_zero, set_cons_succ]
    refine tk 9 (v := ?_) rfl (by kernel_rfl) (fun _ _ _ h => hpan _ _ _ _ _ h) (Or.inl ⟨by rfl, ?_⟩) (by assumption) ?_
    rotate_left 1
    focus (intro w h; (try dsimp only at h); go_simp; try with_reducible rfl)
    try simp only [getElem_toArray, getElem_cons_zero, getElem_cons_succ, Act.put, setIfInBounds_toArray, set_cons_zero, set_cons_succ]
    refine tk 10 (v := ?_) rfl (by kernel_rfl) (fun _ _ _ h => hpan _ _ _ _ _ h) (Or.inl ⟨by rfl, ?_⟩) (by assumption) ?_
    rotate_left 1
    focus (intro w h; (try dsimp only at h); go_simp; try with_reducible rfl)
    try simp only [getElem_toArray, getElem_cons_zero, getElem_cons_succ, Act.put, setIfInBounds_toArray, set_cons_zero, set_cons_succ]
    refine tk 11 (v := ?_) rfl (by kernel_rfl) (fun _ _ _ h => hpan _ _ _ _ _ h) (Or.inl ⟨by rfl, ?_⟩) (by assumption) ?_
    rotate_left 1
    focus (intro w h; (try dsimp only at h); go_simp; try with_reducible rfl)
    try simp only [getElem_toArray, getElem_cons_zero, getElem_cons_succ, Act.put, setIfInBounds_toArray, set_cons_zero, set_cons_succ]
    refine wpAnyH_ready (rs := [12]) (by kernel_rfl) (by simp) ?_
    refine AllReadyH.cons (o := _) rfl (fun K hK => ?_) AllReadyH.nil
    rw [if_pos (by kernel_rfl)]
    simp only [getElem_toArray, getElem_cons_zero, getElem_cons_succ]
    obtain ⟨x32, P, e1, e2, hb2, hk⟩ := box1 w31 #[.slice none 0 0] 25
    go_simp
    have UK := Lib.hid (up_vr hk : Up x32 (VR P #[.slice none 0 0] 25))
    have HF := Lib.hid (Nat.le_trans UBL.out.now.size (Nat.le_of_eq e2))
    have HN := Lib.hid (pd_ne1 UNN.out.now e2)
    replace UCi := Lib.hid (UCi.out.next hb2)
    replace UT := Lib.hid (UT.out.next hb2)
    replace UBL := Lib.hid (UBL.out.next hb2)
    replace UNN := Lib.hid (UNN.out.next hb2)
    clear e1 e2 hb2 hk
    clear hHeld
    refine hK.out _ _ ⟨UCi.out.now.1, UCi.out.now.2, ra_c0 UT.out.now, ra_c1 UT.out.now⟩ (fun hHeld => ?_)
    clear hK K
    try simp only [getElem_toArray, getElem_cons_zero, getElem_cons_succ, Act.put, setIfInBounds_toArray, set_cons_zero, set_cons_succ]
    have hX := Lib.hid (pd_done (c := c) UNN.out.now UK.out.now HN.out HF.out UBL.out.now)
    have hc0 := (row_cell UK.out.now 0).trans (show _ = some (.slice none 0 0) from rfl)
    have hf0 := frozen_of_row _ P 0 _ _ UK.out.now
    refine wpAnyH_ready (rs := [13]) (by kernel_rfl) (by simp) ?_
    refine AllReadyH.cons (o := _) rfl (fun K hK => ?_) AllReadyH.nil
    rw [if_pos (by kernel_rfl)]
    simp only [getElem_toArray, getElem_cons_zero, getElem_cons_succ]
    go_simp
    clear hc0 hf0 hHeld
    refine hK.out _ _ ⟨(UCi0.out _ hX.out.2).1, (UCi0.out _ hX.out.2).2, ra_c0 (UT0.out _ hX.out.2), ra_c1 (UT0.out _ hX.out.2)⟩ (fun hHeld => ?_)
    clear hK K
    try simp only [getElem_toArray, getElem_cons_zero, getElem_cons_succ, Act.put, setIfInBounds_toArray, set_cons_zero, set_cons_succ]
    refine tk 14 (v := ?_) rfl (by kernel_rfl) (fun _ _ _ h => hpan _ _ _ _ _ h) (Or.inl ⟨by rfl, ?_⟩) (by assumption) ?_
    rotate_left 1
    focus (intro w h; (try dsimp only at h); go_simp; try with_reducible rfl)
    try simp only [getElem_toArray, getElem_cons_zero, getElem_cons_succ, Act.put, setIfInBounds_toArray, set_cons_zero, set_cons_succ]
    clear hHeld
    refine wpAnyH_done (by kernel_rfl) ?_ _
    exact KEY.out _ _ P al n c (by kernel_rfl) (by first | kernel_rfl | simp) (by first | kernel_rfl | simp) hX.out.1 hX.out.2
  refine AllReadyH.cons (o := _) rfl (fun K hK => ?_) AllReadyH.nil
  rw [if_pos (by kernel_rfl)]
  simp only [getElem_toArray, getElem_cons_zero, getElem_cons_succ]
  obtain ⟨x33, P, e1, e2, hb2, hk⟩ := box1 w.drew #[.slice none 0 0] 25
  go_simp
  have UK := Lib.hid (up_vr hk : Up x33 (VR P #[.slice none 0 0] 25))
  have HF := Lib.hid (Nat.le_trans UBL.out.now.size (Nat.le_of_eq e2))
  replace UCi := Lib.hid (UCi.out.next hb2)
  replace UT := Lib.hid (UT.out.next hb2)
  replace UBL := Lib.hid (UBL.out.next hb2)
  clear e1 e2 hb2 hk
  clear hHeld
  refine hK.out _ _ ⟨UCi.out.now.1, UCi.out.now.2, ra_c0 UT.out.now, ra_c1 UT.out.now⟩ (fun hHeld => ?_)
  clear hK K
  try simp only [getElem_toArray, getElem_cons_zero, getElem_cons_succ, Act.put, setIfInBounds_toArray, set_cons_zero, set_cons_succ]
  refine wpAnyH_ready (rs := [8]) (by kernel_rfl) (by simp) ?_
  refine AllReadyH.cons (o := _) rfl (fun K hK => ?_) AllReadyH.nil
  rw [if_pos (by kernel_rfl)]
  simp only [getElem_toArray, getElem_cons_zero, getElem_cons_succ]
  go_simp
  (with_reducible refine (V1.out _).mono ?_)
  rintro e w34 ⟨al, n, c, rfl, hs, hfr, hb⟩
  have UNN := Lib.hid (up_sl hs)
  have HN := Lib.hid (pd_ne2 (n := n) UK.out.now hfr)
  replace UCi := Lib.hid (UCi.out.next hb)
  replace UT := Lib.hid (UT.out.next hb)
  replace UBL := Lib.hid (UBL.out.next hb)
  replace UK := Lib.hid (UK.out.next hb)
  clear hb hs hfr
  clear hHeld
  refine hK.out _ _ ⟨UCi.out.now.1, UCi.out.now.2, ra_c0 UT.out.now, ra_c1 UT.out.now⟩ (fun hHeld => ?_)
  clear hK K
  try simp only [getElem_toArray, getElem_cons_zero, getElem_cons_succ, Act.put, setIfInBounds_toArray, set_cons_zero, set_cons_succ]
  refine tk 9 (v := ?_) rfl (by kernel_rfl) (fun _ _ _ h => hpan _ _ _ _ _ h) (Or.inl ⟨by rfl, ?_⟩) (by assumption) ?_
  rotate_left 1
  focus (intro w h; (try dsimp only at h); go_simp; try with_reducible rfl)
  try simp only [getElem_toArray, getElem_cons_zero, getElem_cons_succ, Act.put, setIfInBounds_toArray, set_cons_zero, set_cons_succ]
  refine tk 10 (v := ?_) rfl (by kernel_rfl) (fun _ _ _ h => hpan _ _ _ _ _ h) (Or.inl ⟨by rfl, ?_⟩) (by assumption) ?_
  rotate_left 1
  focus (intro w h; (try dsimp only at h); go_simp; try with_reducible rfl)
  try simp only [getElem_toArray, getElem_cons_zero, getElem_cons_succ, Act.put, setIfInBounds_toArray, set_cons_zero, set_cons_succ]
  refine tk 11 (v := ?_) rfl (by kernel_rfl) (fun _ _ _ h => hpan _ _ _ _ _ h) (Or.inl ⟨by rfl, ?_⟩) (by assumption) ?_
  rotate_left 1
  focus (intro w h; (try dsimp only at h); go_simp; try with_reducible rfl)
  try simp only [getElem_toArray, getElem_cons_zero, getElem_cons_succ, Act.put, setIfInBounds_toArray, set_cons_zero, set_cons_succ]
  have hX := Lib.hid (pd_done (c := c) UNN.out.now UK.out.now HN.out HF.out UBL.out.now)
  have hc0 := (row_cell UK.out.now 0).trans (show _ = some (.slice none 0 0) from rfl)
  have hf0 := frozen_of_row _ P 0 _ _ UK.out.now
  refine wpAnyH_ready (rs := [13]) (by kernel_rfl) (by simp) ?_
  refine AllReadyH.cons (o := _) rfl (fun K hK => ?_) AllReadyH.nil
  rw [if_pos (by kernel_rfl)]
  simp only [getElem_toArray, getElem_cons_zero, getElem_cons_succ]
  go_simp
  clear hc0 hf0 hHeld
  refine hK.out _ _ ⟨(UCi0.out _ hX.out.2).1, (UCi0.out _ hX.out.2).2, ra_c0 (UT0.out _ hX.out.2), ra_c1 (UT0.out _ hX.out.2)⟩ (fun hHeld => ?_)
  clear hK K
  try simp only [getElem_toArray, getElem_cons_zero, getElem_cons_succ, Act.put, setIfInBounds_toArray, set_cons_zero, set_cons_succ]
  refine tk 14 (v := ?_) rfl (by kernel_rfl) (fun _ _ _ h => hpan _ _ _ _ _ h) (Or.inl ⟨by rfl, ?_⟩) (by assumption) ?_
  rotate_left 1
  focus (intro w h; (try dsimp only at h); go_simp; try with_reducible rfl)
  try simp only [getElem_toArray, getElem_cons_zero, getElem_cons_succ, Act.put, setIfInBounds_toArray, set_cons_zero, set_cons_succ]
  clear hHeld
  refine wpAnyH_done (by kernel_rfl) ?_ _
  exact KEY.out _ _ P al n c (by kernel_rfl) (by first | kernel_rfl | simp) (by first | kernel_rfl | simp) hX.out.1 hX.out.2

set_option maxRecDepth 100000 in
set_option maxHeartbeats 4000000 in
theorem rg_22 {c : Code} {L : List Value} {Q : Exit → Act → World → Prop} {w : World} {C T i : Nat} {xi yi pz qz ee : Int} {rr : List Int} (hc : c = rg 22) (hpan : ∀ c a d v w, Q (.panic c) (a.put d v) w → Q (.panic c) a w) (hL : L.length = 528) (e18 : L.getD 18 undef = .slice (some ⟨C, 0, none⟩) 4 4) (e19 : L.getD 19 undef = .int .i64 i) (e22 : L.getD 22 undef = .pointer (some ⟨T, 0, none⟩))
    (i0 : (0 : Int) ≤ i)
    (i1 : (i : Int) < 4)
    (V1 : ∀ w, Calls Tryd.prog 20 #[CV xi yi, .int .i64 pz, .int .i64 qz] w (OutP w ee rr))
    (UCi : Up w (fun W => W.cell? ⟨C, i * 2, none⟩ = some (.int .i64 xi) ∧ W.cell? ⟨C, i * 2 + 1, none⟩ = some (.int .i64 yi)))
    (UT : Up w (VR T #[.int .i64 pz, .int .i64 qz] 35))
    (hQ : ∀ (g : Nat → Value) (W : World) (P : Nat) (al : Option Addr) (n c : Nat), Same (fun i => (decide (25 ≤ i) && decide (i ≤ 26)) || (decide (165 ≤ i) && decide (i ≤ 176))) (fun n => L.getD n undef) g → g 25 = .pointer (some ⟨P, 0, none⟩) → g 26 = .int .i64 ee → VG P al n c rr W → Below w.heap.size w W → Q .normal ⟨(fr528 g).toArray, []⟩ W) : c.wp Tryd.prog Q ⟨L.toArray, []⟩ w := by
  have key : ∀ (L' : List Value) (W : World) (P : Nat) (al : Option Addr) (n c : Nat), L' = msk (fun i => (decide (25 ≤ i) && decide (i ≤ 26)) || (decide (165 ≤ i) && decide (i ≤ 176))) (fun n => L'.getD n undef) 0 L → (fun n => L'.getD n undef) 25 = .pointer (some ⟨P, 0, none⟩) → (fun n => L'.getD n undef) 26 = .int .i64 ee → VG P al n c rr W → Below w.heap.size w W → Q .normal ⟨L'.toArray, []⟩ W := fun L' W P al n c h1 a0 a1 a2 a3 => by
    have h3 := hQ (fun n => L'.getD n undef) W P al n c (same_msk hL h1).2 a0 a1 a2 a3
    rw [← fr_self (same_msk hL h1).1] at h3
    exact h3
  clear hQ
  replace hL := fr_self hL
  generalize hf : (fun n => L.getD n undef) = fr at hL
  have f18 : fr 18 = .slice (some ⟨C, 0, none⟩) 4 4 := by rw [← hf]; exact e18
  have f19 : fr 19 = .int .i64 i := by rw [← hf]; exact e19
  have f22 : fr 22 = .pointer (some ⟨T, 0, none⟩) := by rw [← hf]; exact e22
  clear hf e18 e19 e22
  subst hc hL
  unfold fr528 at key ⊢
  simp only [f18, f19, f22] at key ⊢
  clear f18 f19 f22
  have KEY := Lib.hid key
  clear key
  replace i0 := Lib.hid i0
  replace i1 := Lib.hid i1
  replace V1 := Lib.hid V1
  replace UCi := Lib.hid UCi
  replace UT := Lib.hid UT
  conv => arg 2; whnf
  try (conv => arg 2; arg 2; simp only [List.append])
  replace i0 := i0.out
  replace i1 := i1.out
  have UCi0 := UCi
  have UT0 := UT
  have UBL := Lib.hid (up_bl w)
  have hd : Below w.heap.size w w.drew := (Below.refl _ _).drew
  replace UCi := Lib.hid (UCi.out.next hd)
  replace UT := Lib.hid (UT.out.next hd)
  replace UBL := Lib.hid (UBL.out.next hd)
  clear hd
  refine wp_region_held_drew (S := fun w' => w'.cell? ⟨C, i * 2, none⟩ = some (.int .i64 xi) ∧ w'.cell? ⟨C, i * 2 + 1, none⟩ = some (.int .i64 yi) ∧ w'.cell? ⟨T, 0, none⟩ = some (.int .i64 pz) ∧ w'.cell? ⟨T, 1, none⟩ = some (.int .i64 qz)) (by kernel_rfl) ⟨UCi.out.now.1, UCi.out.now.2, ra_c0 UT.out.now, ra_c1 UT.out.now⟩ (fun hHeld => ?_)
  refine tk 0 (v := ?_) rfl (by kernel_rfl) (fun _ _ _ h => hpan _ _ _ _ _ h) (Or.inl ⟨by rfl, ?_⟩) (by assumption) ?_
  rotate_left 1
  focus (intro w h; (try dsimp only at h); go_simp; try with_reducible rfl)
  try simp only [getElem_toArray, getElem_cons_zero, getElem_cons_succ, Act.put, setIfInBounds_toArray, set_cons_zero, set_cons_succ]
  refine tk 1 (v := ?_) rfl (by kernel_rfl) (fun _ _ _ h => hpan _ _ _ _ _ h) (Or.inl ⟨by rfl, ?_⟩) (by assumption) ?_
  rotate_left 1
  focus (intro w h; (try dsimp only at h); go_simp; try with_reducible rfl)
  try simp only [getElem_toArray, getElem_cons_zero, getElem_cons_succ, Act.put, setIfInBounds_toArray, set_cons_zero, set_cons_succ]
  refine tk 2 (v := ?_) rfl (by kernel_rfl) (fun _ _ _ h => hpan _ _ _ _ _ h) (Or.inl ⟨by rfl, ?_⟩) (by assumption) ?_
  rotate_left 1
  focus (intro w h; (try dsimp only at h); go_simp; try with_reducible rfl)
  try simp only [getElem_toArray, getElem_cons_zero, getElem_cons_succ, Act.put, setIfInBounds_toArray, set_cons_zero, set_cons_succ]
  refine tk 3 (v := ?_) rfl (by kernel_rfl) (fun _ _ _ h => hpan _ _ _ _ _ h) (Or.inl ⟨by rfl, ?_⟩) (by assumption) ?_
  rotate_left 1
  focus (intro w h; (try dsimp only at h); go_simp; try with_reducible rfl)
  try simp only [getElem_toArray, getElem_cons_zero, getElem_cons_succ, Act.put, setIfInBounds_toArray, set_cons_zero, set_cons_succ]
  refine tk 4 (v := ?_) rfl (by kernel_rfl) (fun _ _ _ h => hpan _ _ _ _ _ h) (Or.inl ⟨by rfl, ?_⟩) (by assumption) ?_
  rotate_left 1
  focus (intro w h; (try dsimp only at h); go_simp; try with_reducible rfl)
  try simp only [getElem_toArray, getElem_cons_zero, getElem_cons_succ, Act.put, setIfInBounds_toArray, set_cons_zero, set_cons_succ]
  refine tk 5 (v := ?_) rfl (by kernel_rfl) (fun _ _ _ h => hpan _ _ _ _ _ h) (Or.inl ⟨by rfl, ?_⟩) (by assumption) ?_
  rotate_left 1
  focus (intro w h; (try dsimp only at h); go_simp; try with_reducible rfl)
  try simp only [getElem_toArray, getElem_cons_zero, getElem_cons_succ, Act.put, setIfInBounds_toArray, set_cons_zero, set_cons_succ]
  refine tk 6 (v := ?_) rfl (by kernel_rfl) (fun _ _ _ h => hpan _ _ _ _ _ h) (Or.inl ⟨by rfl, ?_⟩) (by assumption) ?_
  rotate_left 1
  focus (intro w h; (try dsimp only at h); go_simp; try with_reducible rfl)
  try simp only [getElem_toArray, getElem_cons_zero, getElem_cons_succ, Act.put, setIfInBounds_toArray, set_cons_zero, set_cons_succ]
  refine tk 7 (v := ?_) rfl (by kernel_rfl) (fun _ _ _ h => hpan _ _ _ _ _ h) (Or.inl ⟨by rfl, ?_⟩) (by assumption) ?_
  rotate_left 1
  focus (intro w h; (try dsimp only at h); go_simp; try with_reducible rfl)
  try simp only [getElem_toArray, getElem_cons_zero, getElem_cons_succ, Act.put, setIfInBounds_toArray, set_cons_zero, set_cons_succ]
  refine wpAnyH_ready (rs := [8, 12]) (by kernel_rfl) (by simp) ?_
  refine AllReadyH.cons (o := _) rfl (fun K hK => ?_) ?_
  · rw [if_pos (by kernel_rfl)]
    simp only [getElem_toArray, getElem_cons_zero, getElem_cons_succ]
    go_simp
    (with_reducible refine (V1.out _).mono ?_)
    rintro e w35 ⟨al, n, c, rfl, hs, hfr, hb⟩
    have UNN := Lib.hid (up_sl hs)
    replace UCi := Lib.hid (UCi.out.next hb)
    replace UT := Lib.hid (UT.out.next hb)
    replace UBL := Lib.hid (UBL.out.next hb)
    clear hb hs hfr
    clear hHeld
    refine hK.out _ _ ⟨UCi.out.now.1, UCi.out.now.2, ra_c0 UT.out.now, ra_c1 UT.out.now⟩ (fun hHeld => ?_)
    clear hK K
    try simp only [getElem_toArray, getElem_cons_zero, getElem_cons_succ, Act.put, setIfInBounds_toArray, set_cons_zero, set_cons_succ]
    refine tk 9 (v := ?_) rfl (by kernel_rfl) (fun _ _ _ h => hpan _ _ _ _ _ h) (Or.inl ⟨by rfl, ?_⟩) (by assumption) ?_
    rotate_left 1
    focus (intro w h; (try dsimp only at h); go_simp; try with_reducible rfl)
    try simp only [getElem_toArray, getElem_cons_zero, getElem_cons_succ, Act.put, setIfInBounds_toArray, set_cons_zero, set_cons_succ]
    refine tk 10 (v := ?_) rfl (by kernel_rfl) (fun _ _ _ h => hpan _ _ _ _ _ h) (Or.inl ⟨by rfl, ?_⟩) (by assumption) ?_
    rotate_left 1
    focus (intro w h; (try dsimp only at h); go_simp; try with_reducible rfl)
    try simp only [getElem_toArray, getElem_cons_zero, getElem_cons_succ, Act.put, setIfInBounds_toArray, set_cons_zero, set_cons_succ]
    refine tk 11 (v := ?_) rfl (by kernel_rfl) (fun _ _ _ h => hpan _ _ _ _ _ h) (Or.inl ⟨by rfl, ?_⟩) (by assumption) ?_
    rotate_left 1
    focus (intro w h; (try dsimp only at h); go_simp; try with_reducible rfl)
    try simp only [getElem_toArray, getElem_cons_zero, getElem_cons_succ, Act.put, setIfInBounds_toArray, set_cons_zero, set_cons_succ]
    refine wpAnyH_ready (rs := [12]) (by kernel_rfl) (by simp) ?_
    refine AllReadyH.cons (o := _) rfl (fun K hK => ?_) AllReadyH.nil
    rw [if_pos (by kernel_rfl)]
    simp only [getElem_toArray, getElem_cons_zero, getElem_cons_succ]
    obtain ⟨x36, P, e1, e2, hb2, hk⟩ := box1 w35 #[.slice none 0 0] 25
    go_simp
    have UK := Lib.hid (up_vr hk : Up x36 (VR P #[.slice none 0 0] 25))
    have HF := Lib.hid (Nat.le_trans UBL.out.now.size (Nat.le_of_eq e2))
    have HN := Lib.hid (pd_ne1 UNN.out.now e2)
    replace UCi := Lib.hid (UCi.out.next hb2)
    replace UT := Lib.hid (UT.out.next hb2)
    replace UBL := Lib.hid (UBL.out.next hb2)
    replace UNN := Lib.hid (UNN.out.next hb2)
    clear e1 e2 hb2 hk
    clear hHeld
    refine hK.out _ _ ⟨UCi.out.now.1, UCi.out.now.2, ra_c0 UT.out.now, ra_c1 UT.out.now⟩ (fun hHeld => ?_)
    clear hK K
    try simp only [getElem_toArray, getElem_cons_zero, getElem_cons_succ, Act.put, setIfInBounds_toArray, set_cons_zero, set_cons_succ]
    have hX := Lib.hid (pd_done (c := c) UNN.out.now UK.out.now HN.out HF.out UBL.out.now)
    have hc0 := (row_cell UK.out.now 0).trans (show _ = some (.slice none 0 0) from rfl)
    have hf0 := frozen_of_row _ P 0 _ _ UK.out.now
    refine wpAnyH_ready (rs := [13]) (by kernel_rfl) (by simp) ?_
    refine AllReadyH.cons (o := _) rfl (fun K hK => ?_) AllReadyH.nil
    rw [if_pos (by kernel_rfl)]
    simp only [getElem_toArray, getElem_cons_zero, getElem_cons_succ]
    go_simp
    clear hc0 hf0 hHeld
    refine hK.out _ _ ⟨(UCi0.out _ hX.out.2).1, (UCi0.out _ hX.out.2).2, ra_c0 (UT0.out _ hX.out.2), ra_c1 (UT0.out _ hX.out.2)⟩ (fun hHeld => ?_)
    clear hK K
    try simp only [getElem_toArray, getElem_cons_zero, getElem_cons_succ, Act.put, setIfInBounds_toArray, set_cons_zero, set_cons_succ]
    refine tk 14 (v := ?_) rfl (by kernel_rfl) (fun _ _ _ h => hpan _ _ _ _ _ h) (Or.inl ⟨by rfl, ?_⟩) (by assumption) ?_
    rotate_left 1
    focus (intro w h; (try dsimp only at h); go_simp; try with_reducible rfl)
    try simp only [getElem_toArray, getElem_cons_zero, getElem_cons_succ, Act.put, setIfInBounds_toArray, set_cons_zero, set_cons_succ]
    clear hHeld
    refine wpAnyH_done (by kernel_rfl) ?_ _
    exact KEY.out _ _ P al n c (by kernel_rfl) (by first | kernel_rfl | simp) (by first | kernel_rfl | simp) hX.out.1 hX.out.2
  refine AllReadyH.cons (o := _) rfl (fun K hK => ?_) AllReadyH.nil
  rw [if_pos (by kernel_rfl)]
  simp only [getElem_toArray, getElem_cons_zero, getElem_cons_succ]
  obtain ⟨x37, P, e1, e2, hb2, hk⟩ := box1 w.drew #[.slice none 0 0] 25
  go_simp
  have UK := Lib.hid (up_vr hk : Up x37 (VR P #[.slice none 0 0] 25))
  have HF := Lib.hid (Nat.le_trans UBL.out.now.size (Nat.le_of_eq e2))
  replace UCi := Lib.hid (UCi.out.next hb2)
  replace UT := Lib.hid (UT.out.next hb2)
  replace UBL := Lib.hid (UBL.out.next hb2)
  clear e1 e2 hb2 hk
  clear hHeld
  refine hK.out _ _ ⟨UCi.out.now.1, UCi.out.now.2, ra_c0 UT.out.now, ra_c1 UT.out.now⟩ (fun hHeld => ?_)
  clear hK K
  try simp only [getElem_toArray, getElem_cons_zero, getElem_cons_succ, Act.put, setIfInBounds_toArray, set_cons_zero, set_cons_succ]
  refine wpAnyH_ready (rs := [8]) (by kernel_rfl) (by simp) ?_
  refine AllReadyH.cons (o := _) rfl (fun K hK => ?_) AllReadyH.nil
  rw [if_pos (by kernel_rfl)]
  simp only [getElem_toArray, getElem_cons_zero, getElem_cons_succ]
  go_simp
  (with_reducible refine (V1.out _).mono ?_)
  rintro e w38 ⟨al, n, c, rfl, hs, hfr, hb⟩
  have UNN := Lib.hid (up_sl hs)
  have HN := Lib.hid (pd_ne2 (n := n) UK.out.now hfr)
  replace UCi := Lib.hid (UCi.out.next hb)
  replace UT := Lib.hid (UT.out.next hb)
  replace UBL := Lib.hid (UBL.out.next hb)
  replace UK := Lib.hid (UK.out.next hb)
  clear hb hs hfr
  clear hHeld
  refine hK.out _ _ ⟨UCi.out.now.1, UCi.out.now.2, ra_c0 UT.out.now, ra_c1 UT.out.now⟩ (fun hHeld => ?_)
  clear hK K
  try simp only [getElem_toArray, getElem_cons_zero, getElem_cons_succ, Act.put, setIfInBounds_toArray, set_cons_zero, set_cons_succ]
  refine tk 9 (v := ?_) rfl (by kernel_rfl) (fun _ _ _ h => hpan _ _ _ _ _ h) (Or.inl ⟨by rfl, ?_⟩) (by assumption) ?_
  rotate_left 1
  focus (intro w h; (try dsimp only at h); go_simp; try with_reducible rfl)
  try simp only [getElem_toArray, getElem_cons_zero, getElem_cons_succ, Act.put, setIfInBounds_toArray, set_cons_zero, set_cons_succ]
  refine tk 10 (v := ?_) rfl (by kernel_rfl) (fun _ _ _ h => hpan _ _ _ _ _ h) (Or.inl ⟨by rfl, ?_⟩) (by assumption) ?_
  rotate_left 1
  focus (intro w h; (try dsimp only at h); go_simp; try with_reducible rfl)
  try simp only [getElem_toArray, getElem_cons_zero, getElem_cons_succ, Act.put, setIfInBounds_toArray, set_cons_zero, set_cons_succ]
  refine tk 11 (v := ?_) rfl (by kernel_rfl) (fun _ _ _ h => hpan _ _ _ _ _ h) (Or.inl ⟨by rfl, ?_⟩) (by assumption) ?_
  rotate_left 1
  focus (intro w h; (try dsimp only at h); go_simp; try with_reducible rfl)
  try simp only [getElem_toArray, getElem_cons_zero, getElem_cons_succ, Act.put, setIfInBounds_toArray, set_cons_zero, set_cons_succ]
  have hX := Lib.hid (pd_done (c := c) UNN.out.now UK.out.now HN.out HF.out UBL.out.now)
  have hc0 := (row_cell UK.out.now 0).trans (show _ = some (.slice none 0 0) from rfl)
  have hf0 := frozen_of_row _ P 0 _ _ UK.out.now
  refine wpAnyH_ready (rs := [13]) (by kernel_rfl) (by simp) ?_
  refine AllReadyH.cons (o := _) rfl (fun K hK => ?_) AllReadyH.nil
  rw [if_pos (by kernel_rfl)]
  simp only [getElem_toArray, getElem_cons_zero, getElem_cons_succ]
  go_simp
  clear hc0 hf0 hHeld
  refine hK.out _ _ ⟨(UCi0.out _ hX.out.2).1, (UCi0.out _ hX.out.2).2, ra_c0 (UT0.out _ hX.out.2), ra_c1 (UT0.out _ hX.out.2)⟩ (fun hHeld => ?_)
  clear hK K
  try simp only [getElem_toArray, getElem_cons_zero, getElem_cons_succ, Act.put, setIfInBounds_toArray, set_cons_zero, set_cons_succ]
  refine tk 14 (v := ?_) rfl (by kernel_rfl) (fun _ _ _ h => hpan _ _ _ _ _ h) (Or.inl ⟨by rfl, ?_⟩) (by assumption) ?_
  rotate_left 1
  focus (intro w h; (try dsimp only at h); go_simp; try with_reducible rfl)
  try simp only [getElem_toArray, getElem_cons_zero, getElem_cons_succ, Act.put, setIfInBounds_toArray, set_cons_zero, set_cons_succ]
  clear hHeld
  refine wpAnyH_done (by kernel_rfl) ?_ _
  exact KEY.out _ _ P al n c (by kernel_rfl) (by first | kernel_rfl | simp) (by first | kernel_rfl | simp) hX.out.1 hX.out.2
end Go.Proofs.YtipfafglbkbafaaDoor
