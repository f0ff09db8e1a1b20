/- GlobeMatchesReference: the regions 51, 52, 53, 54, 55, 56, each by itself. -/
import Derived.Deep.RegionHeld3
import Derived.Test.YtipfafglbkbafaaDoorMk
namespace Go.Proofs.YtipfafglbkbafaaDoor
open Go.RowKit Go.Shelf
set_option linter.unusedVariables false
set_option linter.unusedSimpArgs false
open List (getElem_toArray getElem_cons_zero getElem_cons_succ setIfInBounds_toArray set_cons_zero set_cons_succ)
set_option maxRecDepth 100000 in
set_option maxHeartbeats 4000000 in
theorem rg_51 {c : Code} {L : List Value} {Q : Exit → Act → World → Prop} {w : World} {L0 ia ka : Nat} {alA : Option Addr} {nlA clA : Nat} {zlA : List Int} {alK : Option Addr} {nlK clK : Nat} {zlK : List Int} {ew : Int} {rw_ : List Int} (hc : c = rg 51) (hpan : ∀ c a d v w, Q (.panic c) (a.put d v) w → Q (.panic c) a w) (hL : L.length = 528) (e17 : L.getD 17 undef = .slice (some ⟨L0, 0, none⟩) 4 4) (e27 : L.getD 27 undef = .int .i64 ia) (e43 : L.getD 43 undef = .int .i64 ka)
    (ia0 : (0 : Int) ≤ ia)
    (ia1 : (ia : Int) < 4)
    (ka0 : (0 : Int) ≤ ka)
    (ka1 : (ka : Int) < 4)
    (V1 : ∀ w, Sl w alA nlA zlA → Sl w alK nlK zlK → Calls Tryd.prog 37 #[.agg #[.slice alA nlA clA], .agg #[.slice alK nlK clK]] w (OutP w ew rw_))
    (UAA : Up w (fun W => W.cell? ⟨L0, ia, none⟩ = some (.slice alA nlA clA) ∧ Sl W alA nlA zlA))
    (UAK : Up w (fun W => W.cell? ⟨L0, ka, none⟩ = some (.slice alK nlK clK) ∧ Sl W alK nlK zlK))
    (hQ : ∀ (g : Nat → Value) (W : World) (P : Nat) (al : Option Addr) (n c : Nat), Same (fun i => (decide (44 ≤ i) && decide (i ≤ 45)) || (decide (377 ≤ i) && decide (i ≤ 388))) (fun n => L.getD n undef) g → g 44 = .pointer (some ⟨P, 0, none⟩) → g 45 = .int .i64 ew → VG P al n c rw_ W → Below w.heap.size w W → Q .normal ⟨(fr528 g).toArray, []⟩ W) : c.wp Tryd.prog Q ⟨L.toArray, []⟩ w := by
  have key : ∀ (L' : List Value) (W : World) (P : Nat) (al : Option Addr) (n c : Nat), L' = msk (fun i => (decide (44 ≤ i) && decide (i ≤ 45)) || (decide (377 ≤ i) && decide (i ≤ 388))) (fun n => L'.getD n undef) 0 L → (fun n => L'.getD n undef) 44 = .pointer (some ⟨P, 0, none⟩) → (fun n => L'.getD n undef) 45 = .int .i64 ew → VG P al n c rw_ W → Below w.heap.size w W → Q .normal ⟨L'.toArray, []⟩ W := fun L' W P al n c h1 a0 a1 a2 a3 => by
    have h3 := hQ (fun n => L'.getD n undef) W P al n c (same_msk hL h1).2 a0 a1 a2 a3
    rw [← fr_self (same_msk hL h1).1] at h3
    exact h3
  clear hQ
  replace hL := fr_self hL
  generalize hf : (fun n => L.getD n undef) = fr at hL
  have f17 : fr 17 = .slice (some ⟨L0, 0, none⟩) 4 4 := by rw [← hf]; exact e17
  have f27 : fr 27 = .int .i64 ia := by rw [← hf]; exact e27
  have f43 : fr 43 = .int .i64 ka := by rw [← hf]; exact e43
  clear hf e17 e27 e43
  subst hc hL
  unfold fr528 at key ⊢
  simp only [f17, f27, f43] at key ⊢
  clear f17 f27 f43
  have KEY := Lib.hid key
  clear key
  replace ia0 := Lib.hid ia0
  replace ia1 := Lib.hid ia1
  replace ka0 := Lib.hid ka0
  replace ka1 := Lib.hid ka1
  replace V1 := Lib.hid V1
  replace UAA := Lib.hid UAA
  replace UAK := Lib.hid UAK
  conv => arg 2; whnf
  try (conv => arg 2; arg 2; simp only [List.append])
  replace ia0 := ia0.out
  replace ia1 := ia1.out
  replace ka0 := ka0.out
  replace ka1 := ka1.out
  have UAA0 := UAA
  have UAK0 := UAK
  have UBL := Lib.hid (up_bl w)
  have hd : Below w.heap.size w w.drew := (Below.refl _ _).drew
  replace UAA := Lib.hid (UAA.out.next hd)
  replace UAK := Lib.hid (UAK.out.next hd)
  replace UBL := Lib.hid (UBL.out.next hd)
  clear hd
  refine wp_region_held_drew (S := fun w' => w'.cell? ⟨L0, ia, none⟩ = some (.slice alA nlA clA) ∧ w'.cell? ⟨L0, ka, none⟩ = some (.slice alK nlK clK)) (by kernel_rfl) ⟨UAA.out.now.1, UAK.out.now.1⟩ (fun hHeld => ?_)
  refine tk 0 (v := ?_) rfl (by kernel_rfl) (fun _ _ _ h => hpan _ _ _ _ _ h) (Or.inl ⟨by rfl, ?_⟩) (by assumption) ?_
  rotate_left 1
  focus (intro w h; (try dsimp only at h); go_simp; try with_reducible rfl)
  try simp only [getElem_toArray, getElem_cons_zero, getElem_cons_succ, Act.put, setIfInBounds_toArray, set_cons_zero, set_cons_succ]
  refine tk 1 (v := ?_) rfl (by kernel_rfl) (fun _ _ _ h => hpan _ _ _ _ _ h) (Or.inl ⟨by rfl, ?_⟩) (by assumption) ?_
  rotate_left 1
  focus (intro w h; (try dsimp only at h); go_simp; try with_reducible rfl)
  try simp only [getElem_toArray, getElem_cons_zero, getElem_cons_succ, Act.put, setIfInBounds_toArray, set_cons_zero, set_cons_succ]
  refine tk 2 (v := ?_) rfl (by kernel_rfl) (fun _ _ _ h => hpan _ _ _ _ _ h) (Or.inl ⟨by rfl, ?_⟩) (by assumption) ?_
  rotate_left 1
  focus (intro w h; (try dsimp only at h); go_simp; try with_reducible rfl)
  try simp only [getElem_toArray, getElem_cons_zero, getElem_cons_succ, Act.put, setIfInBounds_toArray, set_cons_zero, set_cons_succ]
  refine tk 3 (v := ?_) rfl (by kernel_rfl) (fun _ _ _ h => hpan _ _ _ _ _ h) (Or.inl ⟨by rfl, ?_⟩) (by assumption) ?_
  rotate_left 1
  focus (intro w h; (try dsimp only at h); go_simp; try with_reducible rfl)
  try simp only [getElem_toArray, getElem_cons_zero, getElem_cons_succ, Act.put, setIfInBounds_toArray, set_cons_zero, set_cons_succ]
  refine tk 4 (v := ?_) rfl (by kernel_rfl) (fun _ _ _ h => hpan _ _ _ _ _ h) (Or.inl ⟨by rfl, ?_⟩) (by assumption) ?_
  rotate_left 1
  focus (intro w h; (try dsimp only at h); go_simp; try with_reducible rfl)
  try simp only [getElem_toArray, getElem_cons_zero, getElem_cons_succ, Act.put, setIfInBounds_toArray, set_cons_zero, set_cons_succ]
  refine tk 5 (v := ?_) rfl (by kernel_rfl) (fun _ _ _ h => hpan _ _ _ _ _ h) (Or.inl ⟨by rfl, ?_⟩) (by assumption) ?_
  rotate_left 1
  focus (intro w h; (try dsimp only at h); go_simp; try with_reducible rfl)
  try simp only [getElem_toArray, getElem_cons_zero, getElem_cons_succ, Act.put, setIfInBounds_toArray, set_cons_zero, set_cons_succ]
  refine tk 6 (v := ?_) rfl (by kernel_rfl) (fun _ _ _ h => hpan _ _ _ _ _ h) (Or.inl ⟨by rfl, ?_⟩) (by assumption) ?_
  rotate_left 1
  focus (intro w h; (try dsimp only at h); go_simp; try with_reducible rfl)
  try simp only [getElem_toArray, getElem_cons_zero, getElem_cons_succ, Act.put, setIfInBounds_toArray, set_cons_zero, set_cons_succ]
  refine tk 7 (v := ?_) rfl (by kernel_rfl) (fun _ _ _ h => hpan _ _ _ _ _ h) (Or.inl ⟨by rfl, ?_⟩) (by assumption) ?_
  rotate_left 1
  focus (intro w h; (try dsimp only at h); go_simp; try with_reducible rfl)
  try simp only [getElem_toArray, getElem_cons_zero, getElem_cons_succ, Act.put, setIfInBounds_toArray, set_cons_zero, set_cons_succ]
  refine wpAnyH_ready (rs := [8, 12]) (by kernel_rfl) (by simp) ?_
  refine AllReadyH.cons (o := _) rfl (fun K hK => ?_) ?_
  · rw [if_pos (by kernel_rfl)]
    simp only [getElem_toArray, getElem_cons_zero, getElem_cons_succ]
    go_simp
    (with_reducible refine (V1.out _ UAA.out.now.2 UAK.out.now.2).mono ?_)
    rintro e w63 ⟨al, n, c, rfl, hs, hfr, hb⟩
    have UNN := Lib.hid (up_sl hs)
    replace UAA := Lib.hid (UAA.out.next hb)
    replace UAK := Lib.hid (UAK.out.next hb)
    replace UBL := Lib.hid (UBL.out.next hb)
    clear hb hs hfr
    clear hHeld
    refine hK.out _ _ ⟨UAA.out.now.1, UAK.out.now.1⟩ (fun hHeld => ?_)
    clear hK K
    try simp only [getElem_toArray, getElem_cons_zero, getElem_cons_succ, Act.put, setIfInBounds_toArray, set_cons_zero, set_cons_succ]
    refine tk 9 (v := ?_) rfl (by kernel_rfl) (fun _ _ _ h => hpan _ _ _ _ _ h) (Or.inl ⟨by rfl, ?_⟩) (by assumption) ?_
    rotate_left 1
    focus (intro w h; (try dsimp only at h); go_simp; try with_reducible rfl)
    try simp only [getElem_toArray, getElem_cons_zero, getElem_cons_succ, Act.put, setIfInBounds_toArray, set_cons_zero, set_cons_succ]
    refine tk 10 (v := ?_) rfl (by kernel_rfl) (fun _ _ _ h => hpan _ _ _ _ _ h) (Or.inl ⟨by rfl, ?_⟩) (by assumption) ?_
    rotate_left 1
    focus (intro w h; (try dsimp only at h); go_simp; try with_reducible rfl)
    try simp only [getElem_toArray, getElem_cons_zero, getElem_cons_succ, Act.put, setIfInBounds_toArray, set_cons_zero, set_cons_succ]
    refine tk 11 (v := ?_) rfl (by kernel_rfl) (fun _ _ _ h => hpan _ _ _ _ _ h) (Or.inl ⟨by rfl, ?_⟩) (by assumption) ?_
    rotate_left 1
    focus (intro w h; (try dsimp only at h); go_simp; try with_reducible rfl)
    try simp only [getElem_toArray, getElem_cons_zero, getElem_cons_succ, Act.put, setIfInBounds_toArray, set_cons_zero, set_cons_succ]
    refine wpAnyH_ready (rs := [12]) (by kernel_rfl) (by simp) ?_
    refine AllReadyH.cons (o := _) rfl (fun K hK => ?_) AllReadyH.nil
    rw [if_pos (by kernel_rfl)]
    simp only [getElem_toArray, getElem_cons_zero, getElem_cons_succ]
    obtain ⟨x64, P, e1, e2, hb2, hk⟩ := box1 w63 #[.slice none 0 0] 25
    go_simp
    have UK := Lib.hid (up_vr hk : Up x64 (VR P #[.slice none 0 0] 25))
    have HF := Lib.hid (Nat.le_trans UBL.out.now.size (Nat.le_of_eq e2))
    have HN := Lib.hid (pd_ne1 UNN.out.now e2)
    replace UAA := Lib.hid (UAA.out.next hb2)
    replace UAK := Lib.hid (UAK.out.next hb2)
    replace UBL := Lib.hid (UBL.out.next hb2)
    replace UNN := Lib.hid (UNN.out.next hb2)
    clear e1 e2 hb2 hk
    clear hHeld
    refine hK.out _ _ ⟨UAA.out.now.1, UAK.out.now.1⟩ (fun hHeld => ?_)
    clear hK K
    try simp only [getElem_toArray, getElem_cons_zero, getElem_cons_succ, Act.put, setIfInBounds_toArray, set_cons_zero, set_cons_succ]
    have hX := Lib.hid (pd_done (c := c) UNN.out.now UK.out.now HN.out HF.out UBL.out.now)
    have hc0 := (row_cell UK.out.now 0).trans (show _ = some (.slice none 0 0) from rfl)
    have hf0 := frozen_of_row _ P 0 _ _ UK.out.now
    refine wpAnyH_ready (rs := [13]) (by kernel_rfl) (by simp) ?_
    refine AllReadyH.cons (o := _) rfl (fun K hK => ?_) AllReadyH.nil
    rw [if_pos (by kernel_rfl)]
    simp only [getElem_toArray, getElem_cons_zero, getElem_cons_succ]
    go_simp
    clear hc0 hf0 hHeld
    refine hK.out _ _ ⟨(UAA0.out _ hX.out.2).1, (UAK0.out _ hX.out.2).1⟩ (fun hHeld => ?_)
    clear hK K
    try simp only [getElem_toArray, getElem_cons_zero, getElem_cons_succ, Act.put, setIfInBounds_toArray, set_cons_zero, set_cons_succ]
    refine tk 14 (v := ?_) rfl (by kernel_rfl) (fun _ _ _ h => hpan _ _ _ _ _ h) (Or.inl ⟨by rfl, ?_⟩) (by assumption) ?_
    rotate_left 1
    focus (intro w h; (try dsimp only at h); go_simp; try with_reducible rfl)
    try simp only [getElem_toArray, getElem_cons_zero, getElem_cons_succ, Act.put, setIfInBounds_toArray, set_cons_zero, set_cons_succ]
    clear hHeld
    refine wpAnyH_done (by kernel_rfl) ?_ _
    exact KEY.out _ _ P al n c (by kernel_rfl) (by first | kernel_rfl | simp) (by first | kernel_rfl | simp) hX.out.1 hX.out.2
  refine AllReadyH.cons (o := _) rfl (fun K hK => ?_) AllReadyH.nil
  rw [if_pos (by kernel_rfl)]
  simp only [getElem_toArray, getElem_cons_zero, getElem_cons_succ]
  obtain ⟨x65, P, e1, e2, hb2, hk⟩ := box1 w.drew #[.slice none 0 0] 25
  go_simp
  have UK := Lib.hid (up_vr hk : Up x65 (VR P #[.slice none 0 0] 25))
  have HF := Lib.hid (Nat.le_trans UBL.out.now.size (Nat.le_of_eq e2))
  replace UAA := Lib.hid (UAA.out.next hb2)
  replace UAK := Lib.hid (UAK.out.next hb2)
  replace UBL := Lib.hid (UBL.out.next hb2)
  clear e1 e2 hb2 hk
  clear hHeld
  refine hK.out _ _ ⟨UAA.out.now.1, UAK.out.now.1⟩ (fun hHeld => ?_)
  clear hK K
  try simp only [getElem_toArray, getElem_cons_zero, getElem_cons_succ, Act.put, setIfInBounds_toArray, set_cons_zero, set_cons_succ]
  refine wpAnyH_ready (rs := [8]) (by kernel_rfl) (by simp) ?_
  refine AllReadyH.cons (o := _) rfl (fun K hK => ?_) AllReadyH.nil
  rw [if_pos (by kernel_rfl)]
  simp only [getElem_toArray, getElem_cons_zero, getElem_cons_succ]
  go_simp
  (with_reducible refine (V1.out _ UAA.out.now.2 UAK.out.now.2).mono ?_)
  rintro e w66 ⟨al, n, c, rfl, hs, hfr, hb⟩
  have UNN := Lib.hid (up_sl hs)
  have HN := Lib.hid (pd_ne2 (n := n) UK.out.now hfr)
  replace UAA := Lib.hid (UAA.out.next hb)
  replace UAK := Lib.hid (UAK.out.next hb)
  replace UBL := Lib.hid (UBL.out.next hb)
  replace UK := Lib.hid (UK.out.next hb)
  clear hb hs hfr
  clear hHeld
  refine hK.out _ _ ⟨UAA.out.now.1, UAK.out.now.1⟩ (fun hHeld => ?_)
  clear hK K
  try simp only [getElem_toArray, getElem_cons_zero, getElem_cons_succ, Act.put, setIfInBounds_toArray, set_cons_zero, set_cons_succ]
  refine tk 9 (v := ?_) rfl (by kernel_rfl) (fun _ _ _ h => hpan _ _ _ _ _ h) (Or.inl ⟨by rfl, ?_⟩) (by assumption) ?_
  rotate_left 1
  focus (intro w h; (try dsimp only at h); go_simp; try with_reducible rfl)
  try simp only [getElem_toArray, getElem_cons_zero, getElem_cons_succ, Act.put, setIfInBounds_toArray, set_cons_zero, set_cons_succ]
  refine tk 10 (v := ?_) rfl (by kernel_rfl) (fun _ _ _ h => hpan _ _ _ _ _ h) (Or.inl ⟨by rfl, ?_⟩) (by assumption) ?_
  rotate_left 1
  focus (intro w h; (try dsimp only at h); go_simp; try with_reducible rfl)
  try simp only [getElem_toArray, getElem_cons_zero, getElem_cons_succ, Act.put, setIfInBounds_toArray, set_cons_zero, set_cons_succ]
  refine tk 11 (v := ?_) rfl (by kernel_rfl) (fun _ _ _ h => hpan _ _ _ _ _ h) (Or.inl ⟨by rfl, ?_⟩) (by assumption) ?_
  rotate_left 1
  focus (intro w h; (try dsimp only at h); go_simp; try with_reducible rfl)
  try simp only [getElem_toArray, getElem_cons_zero, getElem_cons_succ, Act.put, setIfInBounds_toArray, set_cons_zero, set_cons_succ]
  have hX := Lib.hid (pd_done (c := c) UNN.out.now UK.out.now HN.out HF.out UBL.out.now)
  have hc0 := (row_cell UK.out.now 0).trans (show _ = some (.slice none 0 0) from rfl)
  have hf0 := frozen_of_row _ P 0 _ _ UK.out.now
  refine wpAnyH_ready (rs := [13]) (by kernel_rfl) (by simp) ?_
  refine AllReadyH.cons (o := _) rfl (fun K hK => ?_) AllReadyH.nil
  rw [if_pos (by kernel_rfl)]
  simp only [getElem_toArray, getElem_cons_zero, getElem_cons_succ]
  go_simp
  clear hc0 hf0 hHeld
  refine hK.out _ _ ⟨(UAA0.out _ hX.out.2).1, (UAK0.out _ hX.out.2).1⟩ (fun hHeld => ?_)
  clear hK K
  try simp only [getElem_toArray, getElem_cons_zero, getElem_cons_succ, Act.put, setIfInBounds_toArray, set_cons_zero, set_cons_succ]
  refine tk 14 (v := ?_) rfl (by kernel_rfl) (fun _ _ _ h => hpan _ _ _ _ _ h) (Or.inl ⟨by rfl, ?_⟩) (by assumption) ?_
  rotate_left 1
  focus (intro w h; (try dsimp only at h); go_simp; try with_reducible rfl)
  try simp only [getElem_toArray, getElem_cons_zero, getElem_cons_succ, Act.put, setIfInBounds_toArray, set_cons_zero, set_cons_succ]
  clear hHeld
  refine wpAnyH_done (by kernel_rfl) ?_ _
  exact KEY.out _ _ P al n c (by kernel_rfl) (by first | kernel_rfl | simp) (by first | kernel_rfl | simp) hX.out.1 hX.out.2

set_option maxRecDepth 100000 in
set_option maxHeartbeats 4000000 in
theorem rg_52 {c : Code} {L : List Value} {Q : Exit → Act → World → Prop} {w : World} {L0 ia ka : Nat} {alA : Option Addr} {nlA clA : Nat} {zlA : List Int} {alK : Option Addr} {nlK clK : Nat} {zlK : List Int} {ew : Int} {rw_ : List Int} (hc : c = rg 52) (hpan : ∀ c a d v w, Q (.panic c) (a.put d v) w → Q (.panic c) a w) (hL : L.length = 528) (e17 : L.getD 17 undef = .slice (some ⟨L0, 0, none⟩) 4 4) (e27 : L.getD 27 undef = .int .i64 ia) (e43 : L.getD 43 undef = .int .i64 ka)
    (ia0 : (0 : Int) ≤ ia)
    (ia1 : (ia : Int) < 4)
    (ka0 : (0 : Int) ≤ ka)
    (ka1 : (ka : Int) < 4)
    (V1 : ∀ w, Sl w alA nlA zlA → Sl w alK nlK zlK → Calls Tryd.prog 38 #[.agg #[.slice alA nlA clA], .agg #[.slice alK nlK clK]] w (OutP w ew rw_))
    (UAA : Up w (fun W => W.cell? ⟨L0, ia, none⟩ = some (.slice alA nlA clA) ∧ Sl W alA nlA zlA))
    (UAK : Up w (fun W => W.cell? ⟨L0, ka, none⟩ = some (.slice alK nlK clK) ∧ Sl W alK nlK zlK))
    (hQ : ∀ (g : Nat → Value) (W : World) (P : Nat) (al : Option Addr) (n c : Nat), Same (fun i => (decide (46 ≤ i) && decide (i ≤ 47)) || (decide (389 ≤ i) && decide (i ≤ 400))) (fun n => L.getD n undef) g → g 46 = .pointer (some ⟨P, 0, none⟩) → g 47 = .int .i64 ew → VG P al n c rw_ W → Below w.heap.size w W → Q .normal ⟨(fr528 g).toArray, []⟩ W) : c.wp Tryd.prog Q ⟨L.toArray, []⟩ w := by
  have key : ∀ (L' : List Value) (W : World) (P : Nat) (al : Option Addr) (n c : Nat), L' = msk (fun i => (decide (46 ≤ i) && decide (i ≤ 47)) || (decide (389 ≤ i) && decide (i ≤ 400))) (fun n => L'.getD n undef) 0 L → (fun n => L'.getD n undef) 46 = .pointer (some ⟨P, 0, none⟩) → (fun n => L'.getD n undef) 47 = .int .i64 ew → VG P al n c rw_ W → Below w.heap.size w W → Q .normal ⟨L'.toArray, []⟩ W := fun L' W P al n c h1 a0 a1 a2 a3 => by
    have h3 := hQ (fun n => L'.getD n undef) W P al n c (same_msk hL h1).2 a0 a1 a2 a3
    rw [← fr_self (same_msk hL h1).1] at h3
    exact h3
  clear hQ
  replace hL := fr_self hL
  generalize hf : (fun n => L.getD n undef) = fr at hL
  have f17 : fr 17 = .slice (some ⟨L0, 0, none⟩) 4 4 := by rw [← hf]; exact e17
  have f27 : fr 27 = .int .i64 ia := by rw [← hf]; exact e27
  have f43 : fr 43 = .int .i64 ka := by rw [← hf]; exact e43
  clear hf e17 e27 e43
  subst hc hL
  unfold fr528 at key ⊢
  simp only [f17, f27, f43] at key ⊢
  clear f17 f27 f43
  have KEY := Lib.hid key
  clear key
  replace ia0 := Lib.hid ia0
  replace ia1 := Lib.hid ia1
  replace ka0 := Lib.hid ka0
  replace ka1 := Lib.hid ka1
  replace V1 := Lib.hid V1
  replace UAA := Lib.hid UAA
  replace UAK := Lib.hid UAK
  conv => arg 2; whnf
  try (conv => arg 2; arg 2; simp only [List.append])
  replace ia0 := ia0.out
  replace ia1 := ia1.out
  replace ka0 := ka0.out
  replace ka1 := ka1.out
  have UAA0 := UAA
  have UAK0 := UAK
  have UBL := Lib.hid (up_bl w)
  have hd : Below w.heap.size w w.drew := (Below.refl _ _).drew
  replace UAA := Lib.hid (UAA.out.next hd)
  replace UAK := Lib.hid (UAK.out.next hd)
  replace UBL := Lib.hid (UBL.out.next hd)
  clear hd
  refine wp_region_held_drew (S := fun w' => w'.cell? ⟨L0, ia, none⟩ = some (.slice alA nlA clA) ∧ w'.cell? ⟨L0, ka, none⟩ = some (.slice alK nlK clK)) (by kernel_rfl) ⟨UAA.out.now.1, UAK.out.now.1⟩ (fun hHeld => ?_)
  refine tk 0 (v := ?_) rfl (by kernel_rfl) (fun _ _ _ h => hpan _ _ _ _ _ h) (Or.inl ⟨by rfl, ?_⟩) (by assumption) ?_
  rotate_left 1
  focus (intro w h; (try dsimp only at h); go_simp; try with_reducible rfl)
  try simp only [getElem_toArray, getElem_cons_zero, getElem_cons_succ, Act.put, setIfInBounds_toArray, set_cons_zero, set_cons_succ]
  refine tk 1 (v := ?_) rfl (by kernel_rfl) (fun _ _ _ h => hpan _ _ _ _ _ h) (Or.inl ⟨by rfl, ?_⟩) (by assumption) ?_
  rotate_left 1
  focus (intro w h; (try dsimp only at h); go_simp; try with_reducible rfl)
  try simp only [getElem_toArray, getElem_cons_zero, getElem_cons_succ, Act.put, setIfInBounds_toArray, set_cons_zero, set_cons_succ]
  refine tk 2 (v := ?_) rfl (by kernel_rfl) (fun _ _ _ h => hpan _ _ _ _ _ h) (Or.inl ⟨by rfl, ?_⟩) (by assumption) ?_
  rotate_left 1
  focus (intro w h; (try dsimp only at h); go_simp; try with_reducible rfl)
  try simp only [getElem_toArray, getElem_cons_zero, getElem_cons_succ, Act.put, setIfInBounds_toArray, set_cons_zero, set_cons_succ]
  refine tk 3 (v := ?_) rfl (by kernel_rfl) (fun _ _ _ h => hpan _ _ _ _ _ h) (Or.inl ⟨by rfl, ?_⟩) (by assumption) ?_
  rotate_left 1
  focus (intro w h; (try dsimp only at h); go_simp; try with_reducible rfl)
  try simp only [getElem_toArray, getElem_cons_zero, getElem_cons_succ, Act.put, setIfInBounds_toArray, set_cons_zero, set_cons_succ]
  refine tk 4 (v := ?_) rfl (by kernel_rfl) (fun _ _ _ h => hpan _ _ _ _ _ h) (Or.inl ⟨by rfl, ?_⟩) (by assumption) ?_
  rotate_left 1
  focus (intro w h; (try dsimp only at h); go_simp; try with_reducible rfl)
  try simp only [getElem_toArray, getElem_cons_zero, getElem_cons_succ, Act.put, setIfInBounds_toArray, set_cons_zero, set_cons_succ]
  refine tk 5 (v := ?_) rfl (by kernel_rfl) (fun _ _ _ h => hpan _ _ _ _ _ h) (Or.inl ⟨by rfl, ?_⟩) (by assumption) ?_
  rotate_left 1
  focus (intro w h; (try dsimp only at h); go_simp; try with_reducible rfl)
  try simp only [getElem_toArray, getElem_cons_zero, getElem_cons_succ, Act.put, setIfInBounds_toArray, set_cons_zero, set_cons_succ]
  refine tk 6 (v := ?_) rfl (by kernel_rfl) (fun _ _ _ h => hpan _ _ _ _ _ h) (Or.inl ⟨by rfl, ?_⟩) (by assumption) ?_
  rotate_left 1
  focus (intro w h; (try dsimp only at h); go_simp; try with_reducible rfl)
  try simp only [getElem_toArray, getElem_cons_zero, getElem_cons_succ, Act.put, setIfInBounds_toArray, set_cons_zero, set_cons_succ]
  refine tk 7 (v := ?_) rfl (by kernel_rfl) (fun _ _ _ h => hpan _ _ _ _ _ h) (Or.inl ⟨by rfl, ?_⟩) (by assumption) ?_
  rotate_left 1
  focus (intro w h; (try dsimp only at h); go_simp; try with_reducible rfl)
  try simp only [getElem_toArray, getElem_cons_zero, getElem_cons_succ, Act.put, setIfInBounds_toArray, set_cons_zero, set_cons_succ]
  refine wpAnyH_ready (rs := [8, 12]) (by kernel_rfl) (by simp) ?_
  refine AllReadyH.cons (o := _) rfl (fun K hK => ?_) ?_
  · rw [if_pos (by kernel_rfl)]
    simp only [getElem_toArray, getElem_cons_zero, getElem_cons_succ]
    go_simp
    (with_reducible refine (V1.out _ UAA.out.now.2 UAK.out.now.2).mono ?_)
    rintro e w67 ⟨al, n, c, rfl, hs, hfr, hb⟩
    have UNN := Lib.hid (up_sl hs)
    replace UAA := Lib.hid (UAA.out.next hb)
    replace UAK := Lib.hid (UAK.out.next hb)
    replace UBL := Lib.hid (UBL.out.next hb)
    clear hb hs hfr
    clear hHeld
    refine hK.out _ _ ⟨UAA.out.now.1, UAK.out.now.1⟩ (fun hHeld => ?_)
    clear hK K
    try simp only [getElem_toArray, getElem_cons_zero, getElem_cons_succ, Act.put, setIfInBounds_toArray, set_cons_zero, set_cons_succ]
    refine tk 9 (v := ?_) rfl (by kernel_rfl) (fun _ _ _ h => hpan _ _ _ _ _ h) (Or.inl ⟨by rfl, ?_⟩) (by assumption) ?_
    rotate_left 1
    focus (intro w h; (try dsimp only at h); go_simp; try with_reducible rfl)
    try simp only [getElem_toArray, getElem_cons_zero, getElem_cons_succ, Act.put, setIfInBounds_toArray, set_cons_zero, set_cons_succ]
    refine tk 10 (v := ?_) rfl (by kernel_rfl) (fun _ _ _ h => hpan _ _ _ _ _ h) (Or.inl ⟨by rfl, ?_⟩) (by assumption) ?_
    rotate_left 1
    focus (intro w h; (try dsimp only at h); go_simp; try with_reducible rfl)
    try simp only [getElem_toArray, getElem_cons_zero, getElem_cons_succ, Act.put, setIfInBounds_toArray, set_cons_zero, set_cons_succ]
    refine tk 11 (v := ?_) rfl (by kernel_rfl) (fun _ _ _ h => hpan _ _ _ _ _ h) (Or.inl ⟨by rfl, ?_⟩) (by assumption) ?_
    rotate_left 1
    focus (intro w h; (try dsimp only at h); go_simp; try with_reducible rfl)
    try simp only [getElem_toArray, getElem_cons_zero, getElem_cons_succ, Act.put, setIfInBounds_toArray, set_cons_zero, set_cons_succ]
    refine wpAnyH_ready (rs := [12]) (by kernel_rfl) (by simp) ?_
    refine AllReadyH.cons (o := _) rfl (fun K hK => ?_) AllReadyH.nil
    rw [if_pos (by kernel_rfl)]
    simp only [getElem_toArray, getElem_cons_zero, getElem_cons_succ]
    obtain ⟨x68, P, e1, e2, hb2, hk⟩ := box1 w67 #[.slice none 0 0] 25
    go_simp
    have UK := Lib.hid (up_vr hk : Up x68 (VR P #[.slice none 0 0] 25))
    have HF := Lib.hid (Nat.le_trans UBL.out.now.size (Nat.le_of_eq e2))
    have HN := Lib.hid (pd_ne1 UNN.out.now e2)
    replace UAA := Lib.hid (UAA.out.next hb2)
    replace UAK := Lib.hid (UAK.out.next hb2)
    replace UBL := Lib.hid (UBL.out.next hb2)
    replace UNN := Lib.hid (UNN.out.next hb2)
    clear e1 e2 hb2 hk
    clear hHeld
    refine hK.out _ _ ⟨UAA.out.now.1, UAK.out.now.1⟩ (fun hHeld => ?_)
    clear hK K
    try simp only [getElem_toArray, getElem_cons_zero, getElem_cons_succ, Act.put, setIfInBounds_toArray, set_cons_zero, set_cons_succ]
    have hX := Lib.hid (pd_done (c := c) UNN.out.now UK.out.now HN.out HF.out UBL.out.now)
    have hc0 := (row_cell UK.out.now 0).trans (show _ = some (.slice none 0 0) from rfl)
    have hf0 := frozen_of_row _ P 0 _ _ UK.out.now
    refine wpAnyH_ready (rs := [13]) (by kernel_rfl) (by simp) ?_
    refine AllReadyH.cons (o := _) rfl (fun K hK => ?_) AllReadyH.nil
    rw [if_pos (by kernel_rfl)]
    simp only [getElem_toArray, getElem_cons_zero, getElem_cons_succ]
    go_simp
    clear hc0 hf0 hHeld
    refine hK.out _ _ ⟨(UAA0.out _ hX.out.2).1, (UAK0.out _ hX.out.2).1⟩ (fun hHeld => ?_)
    clear hK K
    try simp only [getElem_toArray, getElem_cons_zero, getElem_cons_succ, Act.put, setIfInBounds_toArray, set_cons_zero, set_cons_succ]
    refine tk 14 (v := ?_) rfl (by kernel_rfl) (fun _ _ _ h => hpan _ _ _ _ _ h) (Or.inl ⟨by rfl, ?_⟩) (by assumption) ?_
    rotate_left 1
    focus (intro w h; (try dsimp only at h); go_simp; try with_reducible rfl)
    try simp only [getElem_toArray, getElem_cons_zero, getElem_cons_succ, Act.put, setIfInBounds_toArray, set_cons_zero, set_cons_succ]
    clear hHeld
    refine wpAnyH_done (by kernel_rfl) ?_ _
    exact KEY.out _ _ P al n c (by kernel_rfl) (by first | kernel_rfl | simp) (by first | kernel_rfl | simp) hX.out.1 hX.out.2
  refine AllReadyH.cons (o := _) rfl (fun K hK => ?_) AllReadyH.nil
  rw [if_pos (by kernel_rfl)]
  simp only [getElem_toArray, getElem_cons_zero, getElem_cons_succ]
  obtain ⟨x69, P, e1, e2, hb2, hk⟩ := box1 w.drew #[.slice none 0 0] 25
  go_simp
  have UK := Lib.hid (up_vr hk : Up x69 (VR P #[.slice none 0 0] 25))
  have HF := Lib.hid (Nat.le_trans UBL.out.now.size (Nat.le_of_eq e2))
  replace UAA := Lib.hid (UAA.out.next hb2)
  replace UAK := Lib.hid (UAK.out.next hb2)
  replace UBL := Lib.hid (UBL.out.next hb2)
  clear e1 e2 hb2 hk
  clear hHeld
  refine hK.out _ _ ⟨UAA.out.now.1, UAK.out.now.1⟩ (fun hHeld => ?_)
  clear hK K
  try simp only [getElem_toArray, getElem_cons_zero, getElem_cons_succ, Act.put, setIfInBounds_toArray, set_cons_zero, set_cons_succ]
  refine wpAnyH_ready (rs := [8]) (by kernel_rfl) (by simp) ?_
  refine AllReadyH.cons (o := _) rfl (fun K hK => ?_) AllReadyH.nil
  rw [if_pos (by kernel_rfl)]
  simp only [getElem_toArray, getElem_cons_zero, getElem_cons_succ]
  go_simp
  (with_reducible refine (V1.out _ UAA.out.now.2 UAK.out.now.2).mono ?_)
  rintro e w70 ⟨al, n, c, rfl, hs, hfr, hb⟩
  have UNN := Lib.hid (up_sl hs)
  have HN := Lib.hid (pd_ne2 (n := n) UK.out.now hfr)
  replace UAA := Lib.hid (UAA.out.next hb)
  replace UAK := Lib.hid (UAK.out.next hb)
  replace UBL := Lib.hid (UBL.out.next hb)
  replace UK := Lib.hid (UK.out.next hb)
  clear hb hs hfr
  clear hHeld
  refine hK.out _ _ ⟨UAA.out.now.1, UAK.out.now.1⟩ (fun hHeld => ?_)
  clear hK K
  try simp only [getElem_toArray, getElem_cons_zero, getElem_cons_succ, Act.put, setIfInBounds_toArray, set_cons_zero, set_cons_succ]
  refine tk 9 (v := ?_) rfl (by kernel_rfl) (fun _ _ _ h => hpan _ _ _ _ _ h) (Or.inl ⟨by rfl, ?_⟩) (by assumption) ?_
  rotate_left 1
  focus (intro w h; (try dsimp only at h); go_simp; try with_reducible rfl)
  try simp only [getElem_toArray, getElem_cons_zero, getElem_cons_succ, Act.put, setIfInBounds_toArray, set_cons_zero, set_cons_succ]
  refine tk 10 (v := ?_) rfl (by kernel_rfl) (fun _ _ _ h => hpan _ _ _ _ _ h) (Or.inl ⟨by rfl, ?_⟩) (by assumption) ?_
  rotate_left 1
  focus (intro w h; (try dsimp only at h); go_simp; try with_reducible rfl)
  try simp only [getElem_toArray, getElem_cons_zero, getElem_cons_succ, Act.put, setIfInBounds_toArray, set_cons_zero, set_cons_succ]
  refine tk 11 (v := ?_) rfl (by kernel_rfl) (fun _ _ _ h => hpan _ _ _ _ _ h) (Or.inl ⟨by rfl, ?_⟩) (by assumption) ?_
  rotate_left 1
  focus (intro w h; (try dsimp only at h); go_simp; try with_reducible rfl)
  try simp only [getElem_toArray, getElem_cons_zero, getElem_cons_succ, Act.put, setIfInBounds_toArray, set_cons_zero, set_cons_succ]
  have hX := Lib.hid (pd_done (c := c) UNN.out.now UK.out.now HN.out HF.out UBL.out.now)
  have hc0 := (row_cell UK.out.now 0).trans (show _ = some (.slice none 0 0) from rfl)
  have hf0 := frozen_of_row _ P 0 _ _ UK.out.now
  refine wpAnyH_ready (rs := [13]) (by kernel_rfl) (by simp) ?_
  refine AllReadyH.cons (o := _) rfl (fun K hK => ?_) AllReadyH.nil
  rw [if_pos (by kernel_rfl)]
  simp only [getElem_toArray, getElem_cons_zero, getElem_cons_succ]
  go_simp
  clear hc0 hf0 hHeld
  refine hK.out _ _ ⟨(UAA0.out _ hX.out.2).1, (UAK0.out _ hX.out.2).1⟩ (fun hHeld => ?_)
  clear hK K
  try simp only [getElem_toArray, getElem_cons_zero, getElem_cons_succ, Act.put, setIfInBounds_toArray, set_cons_zero, set_cons_succ]
  refine tk 14 (v := ?_) rfl (by kernel_rfl) (fun _ _ _ h => hpan _ _ _ _ _ h) (Or.inl ⟨by rfl, ?_⟩) (by assumption) ?_
  rotate_left 1
  focus (intro w h; (try dsimp only at h); go_simp; try with_reducible rfl)
  try simp only [getElem_toArray, getElem_cons_zero, getElem_cons_succ, Act.put, setIfInBounds_toArray, set_cons_zero, set_cons_succ]
  clear hHeld
  refine wpAnyH_done (by kernel_rfl) ?_ _
  exact KEY.out _ _ P al n c (by kernel_rfl) (by first | kernel_rfl | simp) (by first | kernel_rfl | simp) hX.out.1 hX.out.2

set_option maxRecDepth 100000 in
set_option maxHeartbeats 4000000 in
theorem rg_53 {c : Code} {L : List Value} {Q : Exit → Act → World → Prop} {w : World} {L0 ia ka : Nat} {alA : Option Addr} {nlA clA : Nat} {zlA : List Int} {alK : Option Addr} {nlK clK : Nat} {zlK : List Int} {ew : Int} {rw_ : List Int} (hc : c = rg 53) (hpan : ∀ c a d v w, Q (.panic c) (a.put d v) w → Q (.panic c) a w) (hL : L.length = 528) (e17 : L.getD 17 undef = .slice (some ⟨L0, 0, none⟩) 4 4) (e27 : L.getD 27 undef = .int .i64 ia) (e43 : L.getD 43 undef = .int .i64 ka)
    (ia0 : (0 : Int) ≤ ia)
    (ia1 : (ia : Int) < 4)
    (ka0 : (0 : Int) ≤ ka)
    (ka1 : (ka : Int) < 4)
    (V1 : ∀ w, Sl w alA nlA zlA → Sl w alK nlK zlK → Calls Tryd.prog 39 #[.agg #[.slice alA nlA clA], .agg #[.slice alK nlK clK]] w (OutP w ew rw_))
    (UAA : Up w (fun W => W.cell? ⟨L0, ia, none⟩ = some (.slice alA nlA clA) ∧ Sl W alA nlA zlA))
    (UAK : Up w (fun W => W.cell? ⟨L0, ka, none⟩ = some (.slice alK nlK clK) ∧ Sl W alK nlK zlK))
    (hQ : ∀ (g : Nat → Value) (W : World) (P : Nat) (al : Option Addr) (n c : Nat), Same (fun i => (decide (48 ≤ i) && decide (i ≤ 49)) || (decide (401 ≤ i) && decide (i ≤ 412))) (fun n => L.getD n undef) g → g 48 = .pointer (some ⟨P, 0, none⟩) → g 49 = .int .i64 ew → VG P al n c rw_ W → Below w.heap.size w W → Q .normal ⟨(fr528 g).toArray, []⟩ W) : c.wp Tryd.prog Q ⟨L.toArray, []⟩ w := by
  have key : ∀ (L' : List Value) (W : World) (P : Nat) (al : Option Addr) (n c : Nat), L' = msk (fun i => (decide (48 ≤ i) && decide (i ≤ 49)) || (decide (401 ≤ i) && decide (i ≤ 412))) (fun n => L'.getD n undef) 0 L → (fun n => L'.getD n undef) 48 = .pointer (some ⟨P, 0, none⟩) → (fun n => L'.getD n undef) 49 = .int .i64 ew → VG P al n c rw_ W → Below w.heap.size w W → Q .normal ⟨L'.toArray, []⟩ W := fun L' W P al n c h1 a0 a1 a2 a3 => by
    have h3 := hQ (fun n => L'.getD n undef) W P al n c (same_msk hL h1).2 a0 a1 a2 a3
    rw [← fr_self (same_msk hL h1).1] at h3
    exact h3
  clear hQ
  replace hL := fr_self hL
  generalize hf : (fun n => L.getD n undef) = fr at hL
  have f17 : fr 17 = .slice (some ⟨L0, 0, none⟩) 4 4 := by rw [← hf]; exact e17
  have f27 : fr 27 = .int .i64 ia := by rw [← hf]; exact e27
  have f43 : fr 43 = .int .i64 ka := by rw [← hf]; exact e43
  clear hf e17 e27 e43
  subst hc hL
  unfold fr528 at key ⊢
  simp only [f17, f27, f43] at key ⊢
  clear f17 f27 f43
  have KEY := Lib.hid key
  clear key
  replace ia0 := Lib.hid ia0
  replace ia1 := Lib.hid ia1
  replace ka0 := Lib.hid ka0
  replace ka1 := Lib.hid ka1
  replace V1 := Lib.hid V1
  replace UAA := Lib.hid UAA
  replace UAK := Lib.hid UAK
  conv => arg 2; whnf
  try (conv => arg 2; arg 2; simp only [List.append])
  replace ia0 := ia0.out
  replace ia1 := ia1.out
  replace ka0 := ka0.out
  replace ka1 := ka1.out
  have UAA0 := UAA
  have UAK0 := UAK
  have UBL := Lib.hid (up_bl w)
  have hd : Below w.heap.size w w.drew := (Below.refl _ _).drew
  replace UAA := Lib.hid (UAA.out.next hd)
  replace UAK := Lib.hid (UAK.out.next hd)
  replace UBL := Lib.hid (UBL.out.next hd)
  clear hd
  refine wp_region_held_drew (S := fun w' => w'.cell? ⟨L0, ia, none⟩ = some (.slice alA nlA clA) ∧ w'.cell? ⟨L0, ka, none⟩ = some (.slice alK nlK clK)) (by kernel_rfl) ⟨UAA.out.now.1, UAK.out.now.1⟩ (fun hHeld => ?_)
  refine tk 0 (v := ?_) rfl (by kernel_rfl) (fun _ _ _ h => hpan _ _ _ _ _ h) (Or.inl ⟨by rfl, ?_⟩) (by assumption) ?_
  rotate_left 1
  focus (intro w h; (try dsimp only at h); go_simp; try with_reducible rfl)
  try simp only [getElem_toArray, getElem_cons_zero, getElem_cons_succ, Act.put, setIfInBounds_toArray, set_cons_zero, set_cons_succ]
  refine tk 1 (v := ?_) rfl (by kernel_rfl) (fun _ _ _ h => hpan _ _ _ _ _ h) (Or.inl ⟨by rfl, ?_⟩) (by assumption) ?_
  rotate_left 1
  focus (intro w h; (try dsimp only at h); go_simp; try with_reducible rfl)
  try simp only [getElem_toArray, getElem_cons_zero, getElem_cons_succ, Act.put, setIfInBounds_toArray, set_cons_zero, set_cons_succ]
  refine tk 2 (v := ?_) rfl (by kernel_rfl) (fun _ _ _ h => hpan _ _ _ _ _ h) (Or.inl ⟨by rfl, ?_⟩) (by assumption) ?_
  rotate_left 1
  focus (intro w h; (try dsimp only at h); go_simp; try with_reducible rfl)
  try simp only [getElem_toArray, getElem_cons_zero, getElem_cons_succ, Act.put, setIfInBounds_toArray, set_cons_zero, set_cons_succ]
  refine tk 3 (v := ?_) rfl (by kernel_rfl) (fun _ _ _ h => hpan _ _ _ _ _ h) (Or.inl ⟨by rfl, ?_⟩) (by assumption) ?_
  rotate_left 1
  focus (intro w h; (try dsimp only at h); go_simp; try with_reducible rfl)
  try simp only [getElem_toArray, getElem_cons_zero, getElem_cons_succ, Act.put, setIfInBounds_toArray, set_cons_zero, set_cons_succ]
  refine tk 4 (v := ?_) rfl (by kernel_rfl) (fun _ _ _ h => hpan _ _ _ _ _ h) (Or.inl ⟨by rfl, ?_⟩) (by assumption) ?_
  rotate_left 1
  focus (intro w h; (try dsimp only at h); go_simp; try with_reducible rfl)
  try simp only [getElem_toArray, getElem_cons_zero, getElem_cons_succ, Act.put, setIfInBounds_toArray, set_cons_zero, set_cons_succ]
  refine tk 5 (v := ?_) rfl (by kernel_rfl) (fun _ _ _ h => hpan _ _ _ _ _ h) (Or.inl ⟨by rfl, ?_⟩) (by assumption) ?_
  rotate_left 1
  focus (intro w h; (try dsimp only at h); go_simp; try with_reducible rfl)
  try simp only [getElem_toArray, getElem_cons_zero, getElem_cons_succ, Act.put, setIfInBounds_toArray, set_cons_zero, set_cons_succ]
  refine tk 6 (v := ?_) rfl (by kernel_rfl) (fun _ _ _ h => hpan _ _ _ _ _ h) (Or.inl ⟨by rfl, ?_⟩) (by assumption) ?_
  rotate_left 1
  focus (intro w h; (try dsimp only at h); go_simp; try with_reducible rfl)
  try simp only [getElem_toArray, getElem_cons_zero, getElem_cons_succ, Act.put, setIfInBounds_toArray, set_cons_zero, set_cons_succ]
  refine tk 7 (v := ?_) rfl (by kernel_rfl) (fun _ _ _ h => hpan _ _ _ _ _ h) (Or.inl ⟨by rfl, ?_⟩) (by assumption) ?_
  rotate_left 1
  focus (intro w h; (try dsimp only at h); go_simp; try with_reducible rfl)
  try simp only [getElem_toArray, getElem_cons_zero, getElem_cons_succ, Act.put, setIfInBounds_toArray, set_cons_zero, set_cons_succ]
  refine wpAnyH_ready (rs := [8, 12]) (by kernel_rfl) (by simp) ?_
  refine AllReadyH.cons (o := _) rfl (fun K hK => ?_) ?_
  · rw [if_pos (by kernel_rfl)]
    simp only [getElem_toArray, getElem_cons_zero, getElem_cons_succ]
    go_simp
    (with_reducible refine (V1.out _ UAA.out.now.2 UAK.out.now.2).mono ?_)
    rintro e w71 ⟨al, n, c, rfl, hs, hfr, hb⟩
    have UNN := Lib.hid (up_sl hs)
    replace UAA := Lib.hid (UAA.out.next hb)
    replace UAK := Lib.hid (UAK.out.next hb)
    replace UBL := Lib.hid (UBL.out.next hb)
    clear hb hs hfr
    clear hHeld
    refine hK.out _ _ ⟨UAA.out.now.1, UAK.out.now.1⟩ (fun hHeld => ?_)
    clear hK K
    try simp only [getElem_toArray, getElem_cons_zero, getElem_cons_succ, Act.put, setIfInBounds_toArray, set_cons_zero, set_cons_succ]
    refine tk 9 (v := ?_) rfl (by kernel_rfl) (fun _ _ _ h => hpan _ _ _ _ _ h) (Or.inl ⟨by rfl, ?_⟩) (by assumption) ?_
    rotate_left 1
    focus (intro w h; (try dsimp only at h); go_simp; try with_reducible rfl)
    try simp only [getElem_toArray, getElem_cons_zero, getElem_cons_succ, Act.put, setIfInBounds_toArray, set_cons_zero, set_cons_succ]
    refine tk 10 (v := ?_) rfl (by kernel_rfl) (fun _ _ _ h => hpan _ _ _ _ _ h) (Or.inl ⟨by rfl, ?_⟩) (by assumption) ?_
    rotate_left 1
    focus (intro w h; (try dsimp only at h); go_simp; try with_reducible rfl)
    try simp only [getElem_toArray, getElem_cons_zero, getElem_cons_succ, Act.put, setIfInBounds_toArray, set_cons_zero, set_cons_succ]
    refine tk 11 (v := ?_) rfl (by kernel_rfl) (fun _ _ _ h => hpan _ _ _ _ _ h) (Or.inl ⟨by rfl, ?_⟩) (by assumption) ?_
    rotate_left 1
    focus (intro w h; (try dsimp only at h); go_simp; try with_reducible rfl)
    try simp only [getElem_toArray, getElem_cons_zero, getElem_cons_succ, Act.put, setIfInBounds_toArray, set_cons_zero, set_cons_succ]
    refine wpAnyH_ready (rs := [12]) (by kernel_rfl) (by simp) ?_
    refine AllReadyH.cons (o := _) rfl (fun K hK => ?_) AllReadyH.nil
    rw [if_pos (by kernel_rfl)]
    simp only [getElem_toArray, getElem_cons_zero, getElem_cons_succ]
    obtain ⟨x72, P, e1, e2, hb2, hk⟩ := box1 w71 #[.slice none 0 0] 25
    go_simp
    have UK := Lib.hid (up_vr hk : Up x72 (VR P #[.slice none 0 0] 25))
    have HF := Lib.hid (Nat.le_trans UBL.out.now.size (Nat.le_of_eq e2))
    have HN := Lib.hid (pd_ne1 UNN.out.now e2)
    replace UAA := Lib.hid (UAA.out.next hb2)
    replace UAK := Lib.hid (UAK.out.next hb2)
    replace UBL := Lib.hid (UBL.out.next hb2)
    replace UNN := Lib.hid (UNN.out.next hb2)
    clear e1 e2 hb2 hk
    clear hHeld
    refine hK.out _ _ ⟨UAA.out.now.1, UAK.out.now.1⟩ (fun hHeld => ?_)
    clear hK K
    try simp only [getElem_toArray, getElem_cons_zero, getElem_cons_succ, Act.put, setIfInBounds_toArray, set_cons_zero, set_cons_succ]
    have hX := Lib.hid (pd_done (c := c) UNN.out.now UK.out.now HN.out HF.out UBL.out.now)
    have hc0 := (row_cell UK.out.now 0).trans (show _ = some (.slice none 0 0) from rfl)
    have hf0 := frozen_of_row _ P 0 _ _ UK.out.now
    refine wpAnyH_ready (rs := [13]) (by kernel_rfl) (by simp) ?_
    refine AllReadyH.cons (o := _) rfl (fun K hK => ?_) AllReadyH.nil
    rw [if_pos (by kernel_rfl)]
    simp only [getElem_toArray, getElem_cons_zero, getElem_cons_succ]
    go_simp
    clear hc0 hf0 hHeld
    refine hK.out _ _ ⟨(UAA0.out _ hX.out.2).1, (UAK0.out _ hX.out.2).1⟩ (fun hHeld => ?_)
    clear hK K
    try simp only [getElem_toArray, getElem_cons_zero, getElem_cons_succ, Act.put, setIfInBounds_toArray, set_cons_zero, set_cons_succ]
    refine tk 14 (v := ?_) rfl (by kernel_rfl) (fun _ _ _ h => hpan _ _ _ _ _ h) (Or.inl ⟨by rfl, ?_⟩) (by assumption) ?_
    rotate_left 1
    focus (intro w h; (try dsimp only at h); go_simp; try with_reducible rfl)
    try simp only [getElem_toArray, getElem_cons_zero, getElem_cons_succ, Act.put, setIfInBounds_toArray, set_cons_zero, set_cons_succ]
    clear hHeld
    refine wpAnyH_done (by kernel_rfl) ?_ _
    exact KEY.out _ _ P al n c (by kernel_rfl) (by first | kernel_rfl | simp) (by first | kernel_rfl | simp) hX.out.1 hX.out.2
  refine AllReadyH.cons (o := _) rfl (fun K hK => ?_) AllReadyH.nil
  rw [if_pos (by kernel_rfl)]
  simp only [getElem_toArray, getElem_cons_zero, getElem_cons_succ]
  obtain ⟨x73, P, e1, e2, hb2, hk⟩ := box1 w.drew #[.slice none 0 0] 25
  go_simp
  have UK := Lib.hid (up_vr hk : Up x73 (VR P #[.slice none 0 0] 25))
  have HF := Lib.hid (Nat.le_trans UBL.out.now.size (Nat.le_of_eq e2))
  replace UAA := Lib.hid (UAA.out.next hb2)
  replace UAK := Lib.hid (UAK.out.next hb2)
  replace UBL := Lib.hid (UBL.out.next hb2)
  clear e1 e2 hb2 hk
  clear hHeld
  refine hK.out _ _ ⟨UAA.out.now.1, UAK.out.now.1⟩ (fun hHeld => ?_)
  clear hK K
  try simp only [getElem_toArray, getElem_cons_zero, getElem_cons_succ, Act.put, setIfInBounds_toArray, set_cons_zero, set_cons_succ]
  refine wpAnyH_ready (rs := [8]) (by kernel_rfl) (by simp) ?_
  refine AllReadyH.cons (o := _) rfl (fun K hK => ?_) AllReadyH.nil
  rw [if_pos (by kernel_rfl)]
  simp only [getElem_toArray, getElem_cons_zero, getElem_cons_succ]
  go_simp
  (with_reducible refine (V1.out _ UAA.out.now.2 UAK.out.now.2).mono ?_)
  rintro e w74 ⟨al, n, c, rfl, hs, hfr, hb⟩
  have UNN := Lib.hid (up_sl hs)
  have HN := Lib.hid (pd_ne2 (n := n) UK.out.now hfr)
  replace UAA := Lib.hid (UAA.out.next hb)
  replace UAK := Lib.hid (UAK.out.next hb)
  replace UBL := Lib.hid (UBL.out.next hb)
  replace UK := Lib.hid (UK.out.next hb)
  clear hb hs hfr
  clear hHeld
  refine hK.out _ _ ⟨UAA.out.now.1, UAK.out.now.1⟩ (fun hHeld => ?_)
  clear hK K
  try simp only [getElem_toArray, getElem_cons_zero, getElem_cons_succ, Act.put, setIfInBounds_toArray, set_cons_zero, set_cons_succ]
  refine tk 9 (v := ?_) rfl (by kernel_rfl) (fun _ _ _ h => hpan _ _ _ _ _ h) (Or.inl ⟨by rfl, ?_⟩) (by assumption) ?_
  rotate_left 1
  focus (intro w h; (try dsimp only at h); go_simp; try with_reducible rfl)
  try simp only [getElem_toArray, getElem_cons_zero, getElem_cons_succ, Act.put, setIfInBounds_toArray, set_cons_zero, set_cons_succ]
  refine tk 10 (v := ?_) rfl (by kernel_rfl) (fun _ _ _ h => hpan _ _ _ _ _ h) (Or.inl ⟨by rfl, ?_⟩) (by assumption) ?_
  rotate_left 1
  focus (intro w h; (try dsimp only at h); go_simp; try with_reducible rfl)
  try simp only [getElem_toArray, getElem_cons_zero, getElem_cons_succ, Act.put, setIfInBounds_toArray, set_cons_zero, set_cons_succ]
  refine tk 11 (v := ?_) rfl (by kernel_rfl) (fun _ _ _ h => hpan _ _ _ _ _ h) (Or.inl ⟨by rfl, ?_⟩) (by assumption) ?_
  rotate_left 1
  focus (intro w h; (try dsimp only at h); go_simp; try with_reducible rfl)
  try simp only [getElem_toArray, getElem_cons_zero, getElem_cons_succ, Act.put, setIfInBounds_toArray, set_cons_zero, set_cons_succ]
  have hX := Lib.hid (pd_done (c := c) UNN.out.now UK.out.now HN.out HF.out UBL.out.now)
  have hc0 := (row_cell UK.out.now 0).trans (show _ = some (.slice none 0 0) from rfl)
  have hf0 := frozen_of_row _ P 0 _ _ UK.out.now
  refine wpAnyH_ready (rs := [13]) (by kernel_rfl) (by simp) ?_
  refine AllReadyH.cons (o := _) rfl (fun K hK => ?_) AllReadyH.nil
  rw [if_pos (by kernel_rfl)]
  simp only [getElem_toArray, getElem_cons_zero, getElem_cons_succ]
  go_simp
  clear hc0 hf0 hHeld
  refine hK.out _ _ ⟨(UAA0.out _ hX.out.2).1, (UAK0.out _ hX.out.2).1⟩ (fun hHeld => ?_)
  clear hK K
  try simp only [getElem_toArray, getElem_cons_zero, getElem_cons_succ, Act.put, setIfInBounds_toArray, set_cons_zero, set_cons_succ]
  refine tk 14 (v := ?_) rfl (by kernel_rfl) (fun _ _ _ h => hpan _ _ _ _ _ h) (Or.inl ⟨by rfl, ?_⟩) (by assumption) ?_
  rotate_left 1
  focus (intro w h; (try dsimp only at h); go_simp; try with_reducible rfl)
  try simp only [getElem_toArray, getElem_cons_zero, getElem_cons_succ, Act.put, setIfInBounds_toArray, set_cons_zero, set_cons_succ]
  clear hHeld
  refine wpAnyH_done (by kernel_rfl) ?_ _
  exact KEY.out _ _ P al n c (by kernel_rfl) (by first | kernel_rfl | simp) (by first | kernel_rfl | simp) hX.out.1 hX.out.2

set_option maxRecDepth 100000 in
set_option maxHeartbeats 4000000 in
theorem rg_54 {c : Code} {L : List Value} {Q : Exit → Act → World → Prop} {w : World} {L0 ia ka : Nat} {alA : Option Addr} {nlA clA : Nat} {zlA : List Int} {alK : Option Addr} {nlK clK : Nat} {zlK : List Int} {ew : Int} {rw_ : List Int} (hc : c = rg 54) (hpan : ∀ c a d v w, Q (.panic c) (a.put d v) w → Q (.panic c) a w) (hL : L.length = 528) (e17 : L.getD 17 undef = .slice (some ⟨L0, 0, none⟩) 4 4) (e27 : L.getD 27 undef = .int .i64 ia) (e43 : L.getD 43 undef = .int .i64 ka)
    (ia0 : (0 : Int) ≤ ia)
    (ia1 : (ia : Int) < 4)
    (ka0 : (0 : Int) ≤ ka)
    (ka1 : (ka : Int) < 4)
    (V1 : ∀ w, Sl w alA nlA zlA → Sl w alK nlK zlK → Calls Tryd.prog 40 #[.agg #[.slice alA nlA clA], .agg #[.slice alK nlK clK]] w (OutP w ew rw_))
    (UAA : Up w (fun W => W.cell? ⟨L0, ia, none⟩ = some (.slice alA nlA clA) ∧ Sl W alA nlA zlA))
    (UAK : Up w (fun W => W.cell? ⟨L0, ka, none⟩ = some (.slice alK nlK clK) ∧ Sl W alK nlK zlK))
    (hQ : ∀ (g : Nat → Value) (W : World) (P : Nat) (al : Option Addr) (n c : Nat), Same (fun i => (decide (50 ≤ i) && decide (i ≤ 51)) || (decide (413 ≤ i) && decide (i ≤ 424))) (fun n => L.getD n undef) g → g 50 = .pointer (some ⟨P, 0, none⟩) → g 51 = .int .i64 ew → VG P al n c rw_ W → Below w.heap.size w W → Q .normal ⟨(fr528 g).toArray, []⟩ W) : c.wp Tryd.prog Q ⟨L.toArray, []⟩ w := by
  have key : ∀ (L' : List Value) (W : World) (P : Nat) (al : Option Addr) (n c : Nat), L' = msk (fun i => (decide (50 ≤ i) && decide (i ≤ 51)) || (decide (413 ≤ i) && decide (i ≤ 424))) (fun n => L'.getD n undef) 0 L → (fun n => L'.getD n undef) 50 = .pointer (some ⟨P, 0, none⟩) → (fun n => L'.getD n undef) 51 = .int .i64 ew → VG P al n c rw_ W → Below w.heap.size w W → Q .normal ⟨L'.toArray, []⟩ W := fun L' W P al n c h1 a0 a1 a2 a3 => by
    have h3 := hQ (fun n => L'.getD n undef) W P al n c (same_msk hL h1).2 a0 a1 a2 a3
    rw [← fr_self (same_msk hL h1).1] at h3
    exact h3
  clear hQ
  replace hL := fr_self hL
  generalize hf : (fun n => L.getD n undef) = fr at hL
  have f17 : fr 17 = .slice (some ⟨L0, 0, none⟩) 4 4 := by rw [← hf]; exact e17
  have f27 : fr 27 = .int .i64 ia := by rw [← hf]; exact e27
  have f43 : fr 43 = .int .i64 ka := by rw [← hf]; exact e43
  clear hf e17 e27 e43
  subst hc hL
  unfold fr528 at key ⊢
  simp only [f17, f27, f43] at key ⊢
  clear f17 f27 f43
  have KEY := Lib.hid key
  clear key
  replace ia0 := Lib.hid ia0
  replace ia1 := Lib.hid ia1
  replace ka0 := Lib.hid ka0
  replace ka1 := Lib.hid ka1
  replace V1 := Lib.hid V1
  replace UAA := Lib.hid UAA
  replace UAK := Lib.hid UAK
  conv => arg 2; whnf
  try (conv => arg 2; arg 2; simp only [List.append])
  replace ia0 := ia0.out
  replace ia1 := ia1.out
  replace ka0 := ka0.out
  replace ka1 := ka1.out
  have UAA0 := UAA
  have UAK0 := UAK
  have UBL := Lib.hid (up_bl w)
  have hd : Below w.heap.size w w.drew := (Below.refl _ _).drew
  replace UAA := Lib.hid (UAA.out.next hd)
  replace UAK := Lib.hid (UAK.out.next hd)
  replace UBL := Lib.hid (UBL.out.next hd)
  clear hd
  refine wp_region_held_drew (S := fun w' => w'.cell? ⟨L0, ia, none⟩ = some (.slice alA nlA clA) ∧ w'.cell? ⟨L0, ka, none⟩ = some (.slice alK nlK clK)) (by kernel_rfl) ⟨UAA.out.now.1, UAK.out.now.1⟩ (fun hHeld => ?_)
  refine tk 0 (v := ?_) rfl (by kernel_rfl) (fun _ _ _ h => hpan _ _ _ _ _ h) (Or.inl ⟨by rfl, ?_⟩) (by assumption) ?_
  rotate_left 1
  focus (intro w h; (try dsimp only at h); go_simp; try with_reducible rfl)
  try simp only [getElem_toArray, getElem_cons_zero, getElem_cons_succ, Act.put, setIfInBounds_toArray, set_cons_zero, set_cons_succ]
  refine tk 1 (v := ?_) rfl (by kernel_rfl) (fun _ _ _ h => hpan _ _ _ _ _ h) (Or.inl ⟨by rfl, ?_⟩) (by assumption) ?_
  rotate_left 1
  focus (intro w h; (try dsimp only at h); go_simp; try with_reducible rfl)
  try simp only [getElem_toArray, getElem_cons_zero, getElem_cons_succ, Act.put, setIfInBounds_toArray, set_cons_zero, set_cons_succ]
  refine tk 2 (v := ?_) rfl (by kernel_rfl) (fun _ _ _ h => hpan _ _ _ _ _ h) (Or.inl ⟨by rfl, ?_⟩) (by assumption) ?_
  rotate_left 1
  focus (intro w h; (try dsimp only at h); go_simp; try with_reducible rfl)
  try simp only [getElem_toArray, getElem_cons_zero, getElem_cons_succ, Act.put, setIfInBounds_toArray, set_cons_zero, set_cons_succ]
  refine tk 3 (v := ?_) rfl (by kernel_rfl) (fun _ _ _ h => hpan _ _ _ _ _ h) (Or.inl ⟨by rfl, ?_⟩) (by assumption) ?_
  rotate_left 1
  focus (intro w h; (try dsimp only at h); go_simp; try with_reducible rfl)
  try simp only [getElem_toArray, getElem_cons_zero, getElem_cons_succ, Act.put, setIfInBounds_toArray, set_cons_zero, set_cons_succ]
  refine tk 4 (v := ?_) rfl (by kernel_rfl) (fun _ _ _ h => hpan _ _ _ _ _ h) (Or.inl ⟨by rfl, ?_⟩) (by assumption) ?_
  rotate_left 1
  focus (intro w h; (try dsimp only at h); go_simp; try with_reducible rfl)
  try simp only [getElem_toArray, getElem_cons_zero, getElem_cons_succ, Act.put, setIfInBounds_toArray, set_cons_zero, set_cons_succ]
  refine tk 5 (v := ?_) rfl (by kernel_rfl) (fun _ _ _ h => hpan _ _ _ _ _ h) (Or.inl ⟨by rfl, ?_⟩) (by assumption) ?_
  rotate_left 1
  focus (intro w h; (try dsimp only at h); go_simp; try with_reducible rfl)
  try simp only [getElem_toArray, getElem_cons_zero, getElem_cons_succ, Act.put, setIfInBounds_toArray, set_cons_zero, set_cons_succ]
  refine tk 6 (v := ?_) rfl (by kernel_rfl) (fun _ _ _ h => hpan _ _ _ _ _ h) (Or.inl ⟨by rfl, ?_⟩) (by assumption) ?_
  rotate_left 1
  focus (intro w h; (try dsimp only at h); go_simp; try with_reducible rfl)
  try simp only [getElem_toArray, getElem_cons_zero, getElem_cons_succ, Act.put, setIfInBounds_toArray, set_cons_zero, set_cons_succ]
  refine tk 7 (v := ?_) rfl (by kernel_rfl) (fun _ _ _ h => hpan _ _ _ _ _ h) (Or.inl ⟨by rfl, ?_⟩) (by assumption) ?_
  rotate_left 1
  focus (intro w h; (try dsimp only at h); go_simp; try with_reducible rfl)
  try simp only [getElem_toArray, getElem_cons_zero, getElem_cons_succ, Act.put, setIfInBounds_toArray, set_cons_zero, set_cons_succ]
  refine wpAnyH_ready (rs := [8, 12]) (by kernel_rfl) (by simp) ?_
  refine AllReadyH.cons (o := _) rfl (fun K hK => ?_) ?_
  · rw [if_pos (by kernel_rfl)]
    simp only [getElem_toArray, getElem_cons_zero, getElem_cons_succ]
    go_simp
    (with_reducible refine (V1.out _ UAA.out.now.2 UAK.out.now.2).mono ?_)
    rintro e w75 ⟨al, n, c, rfl, hs, hfr, hb⟩
    have UNN := Lib.hid (up_sl hs)
    replace UAA := Lib.hid (UAA.out.next hb)
    replace UAK := Lib.hid (UAK.out.next hb)
    replace UBL := Lib.hid (UBL.out.next hb)
    clear hb hs hfr
    clear hHeld
    refine hK.out _ _ ⟨UAA.out.now.1, UAK.out.now.1⟩ (fun hHeld => ?_)
    clear hK K
    try simp only [getElem_toArray, getElem_cons_zero, getElem_cons_succ, Act.put, setIfInBounds_toArray, set_cons_zero, set_cons_succ]
    refine tk 9 (v := ?_) rfl (by kernel_rfl) (fun _ _ _ h => hpan _ _ _ _ _ h) (Or.inl ⟨by rfl, ?_⟩) (by assumption) ?_
    rotate_left 1
    focus (intro w h; (try dsimp only at h); go_simp; try with_reducible rfl)
    try simp only [getElem_toArray, getElem_cons_zero, getElem_cons_succ, Act.put, setIfInBounds_toArray, set_cons_zero, set_cons_succ]
    refine tk 10 (v := ?_) rfl (by kernel_rfl) (fun _ _ _ h => hpan _ _ _ _ _ h) (Or.inl ⟨by rfl, ?_⟩) (by assumption) ?_
    rotate_left 1
    focus (intro w h; (try dsimp only at h); go_simp; try with_reducible rfl)
    try simp only [getElem_toArray, getElem_cons_zero, getElem_cons_succ, Act.put, setIfInBounds_toArray, set_cons_zero, set_cons_succ]
    refine tk 11 (v := ?_) rfl (by kernel_rfl) (fun _ _ _ h => hpan _ _ _ _ _ h) (Or.inl ⟨by rfl, ?_⟩) (by assumption) ?_
    rotate_left 1
    focus (intro w h; (try dsimp only at h); go_simp; try with_reducible rfl)
    try simp only [getElem_toArray, getElem_cons_zero, getElem_cons_succ, Act.put, setIfInBounds_toArray, set_cons_zero, set_cons_succ]
    refine wpAnyH_ready (rs := [12]) (by kernel_rfl) (by simp) ?_
    refine AllReadyH.cons (o := _) rfl (fun K hK => ?_) AllReadyH.nil
    rw [if_pos (by kernel_rfl)]
    simp only [getElem_toArray, getElem_cons_zero, getElem_cons_succ]
    obtain ⟨x76, P, e1, e2, hb2, hk⟩ := box1 w75 #[.slice none 0 0] 25
    go_simp
    have UK := Lib.hid (up_vr hk : Up x76 (VR P #[.slice none 0 0] 25))
    have HF := Lib.hid (Nat.le_trans UBL.out.now.size (Nat.le_of_eq e2))
    have HN := Lib.hid (pd_ne1 UNN.out.now e2)
    replace UAA := Lib.hid (UAA.out.next hb2)
    replace UAK := Lib.hid (UAK.out.next hb2)
    replace UBL := Lib.hid (UBL.out.next hb2)
    replace UNN := Lib.hid (UNN.out.next hb2)
    clear e1 e2 hb2 hk
    clear hHeld
    refine hK.out _ _ ⟨UAA.out.now.1, UAK.out.now.1⟩ (fun hHeld => ?_)
    clear hK K
    try simp only [getElem_toArray, getElem_cons_zero, getElem_cons_succ, Act.put, setIfInBounds_toArray, set_cons_zero, set_cons_succ]
    have hX := Lib.hid (pd_done (c := c) UNN.out.now UK.out.now HN.out HF.out UBL.out.now)
    have hc0 := (row_cell UK.out.now 0).trans (show _ = some (.slice none 0 0) from rfl)
    have hf0 := frozen_of_row _ P 0 _ _ UK.out.now
    refine wpAnyH_ready (rs := [13]) (by kernel_rfl) (by simp) ?_
    refine AllReadyH.cons (o := _) rfl (fun K hK => ?_) AllReadyH.nil
    rw [if_pos (by kernel_rfl)]
    simp only [getElem_toArray, getElem_cons_zero, getElem_cons_succ]
    go_simp
    clear hc0 hf0 hHeld
    refine hK.out _ _ ⟨(UAA0.out _ hX.out.2).1, (UAK0.out _ hX.out.2).1⟩ (fun hHeld => ?_)
    clear hK K
    try simp only [getElem_toArray, getElem_cons_zero, getElem_cons_succ, Act.put, setIfInBounds_toArray, set_cons_zero, set_cons_succ]
    refine tk 14 (v := ?_) rfl (by kernel_rfl) (fun _ _ _ h => hpan _ _ _ _ _ h) (Or.inl ⟨by rfl, ?_⟩) (by assumption) ?_
    rotate_left 1
    focus (intro w h; (try dsimp only at h); go_simp; try with_reducible rfl)
    try simp only [getElem_toArray, getElem_cons_zero, getElem_cons_succ, Act.put, setIfInBounds_toArray, set_cons_zero, set_cons_succ]
    clear hHeld
    refine wpAnyH_done (by kernel_rfl) ?_ _
    exact KEY.out _ _ P al n c (by kernel_rfl) (by first | kernel_rfl | simp) (by first | kernel_rfl | simp) hX.out.1 hX.out.2
  refine AllReadyH.cons (o := _) rfl (fun K hK => ?_) AllReadyH.nil
  rw [if_pos (by kernel_rfl)]
  simp only [getElem_toArray, getElem_cons_zero, getElem_cons_succ]
  obtain ⟨x77, P, e1, e2, hb2, hk⟩ := box1 w.drew #[.slice none 0 0] 25
  go_simp
  have UK := Lib.hid (up_vr hk : Up x77 (VR P #[.slice none 0 0] 25))
  have HF := Lib.hid (Nat.le_trans UBL.out.now.size (Nat.le_of_eq e2))
  replace UAA := Lib.hid (UAA.out.next hb2)
  replace UAK := Lib.hid (UAK.out.next hb2)
  replace UBL := Lib.hid (UBL.out.next hb2)
  clear e1 e2 hb2 hk
  clear hHeld
  refine hK.out _ _ ⟨UAA.out.now.1, UAK.out.now.1⟩ (fun hHeld => ?_)
  clear hK K
  try simp only [getElem_toArray, getElem_cons_zero, getElem_cons_succ, Act.put, setIfInBounds_toArray, set_cons_zero, set_cons_succ]
  refine wpAnyH_ready (rs := [8]) (by kernel_rfl) (by simp) ?_
  refine AllReadyH.cons (o := _) rfl (fun K hK => ?_) AllReadyH.nil
  rw [if_pos (by kernel_rfl)]
  simp only [getElem_toArray, getElem_cons_zero, getElem_cons_succ]
  go_simp
  (with_reducible refine (V1.out _ UAA.out.now.2 UAK.out.now.2).mono ?_)
  rintro e w78 ⟨al, n, c, rfl, hs, hfr, hb⟩
  have UNN := Lib.hid (up_sl hs)
  have HN := Lib.hid (pd_ne2 (n := n) UK.out.now hfr)
  replace UAA := Lib.hid (UAA.out.next hb)
  replace UAK := Lib.hid (UAK.out.next hb)
  replace UBL := Lib.hid (UBL.out.next hb)
  replace UK := Lib.hid (UK.out.next hb)
  clear hb hs hfr
  clear hHeld
  refine hK.out _ _ ⟨UAA.out.now.1, UAK.out.now.1⟩ (fun hHeld => ?_)
  clear hK K
  try simp only [getElem_toArray, getElem_cons_zero, getElem_cons_succ, Act.put, setIfInBounds_toArray, set_cons_zero, set_cons_succ]
  refine tk 9 (v := ?_) rfl (by kernel_rfl) (fun _ _ _ h => hpan _ _ _ _ _ h) (Or.inl ⟨by rfl, ?_⟩) (by assumption) ?_
  rotate_left 1
  focus (intro w h; (try dsimp only at h); go_simp; try with_reducible rfl)
  try simp only [getElem_toArray, getElem_cons_zero, getElem_cons_succ, Act.put, setIfInBounds_toArray, set_cons_zero, set_cons_succ]
  refine tk 10 (v := ?_) rfl (by kernel_rfl) (fun _ _ _ h => hpan _ _ _ _ _ h) (Or.inl ⟨by rfl, ?_⟩) (by assumption) ?_
  rotate_left 1
  focus (intro w h; (try dsimp only at h); go_simp; try with_reducible rfl)
  try simp only [getElem_toArray, getElem_cons_zero, getElem_cons_succ, Act.put, setIfInBounds_toArray, set_cons_zero, set_cons_succ]
  refine tk 11 (v := ?_) rfl (by kernel_rfl) (fun _ _ _ h => hpan _ _ _ _ _ h) (Or.inl ⟨by rfl, ?_⟩) (by assumption) ?_
  rotate_left 1
  focus (intro w h; (try dsimp only at h); go_simp; try with_reducible rfl)
  try simp only [getElem_toArray, getElem_cons_zero, getElem_cons_succ, Act.put, setIfInBounds_toArray, set_cons_zero, set_cons_succ]
  have hX := Lib.hid (pd_done (c := c) UNN.out.now UK.out.now HN.out HF.out UBL.out.now)
  have hc0 := (row_cell UK.out.now 0).trans (show _ = some (.slice none 0 0) from rfl)
  have hf0 := frozen_of_row _ P 0 _ _ UK.out.now
  refine wpAnyH_ready (rs := [13]) (by kernel_rfl) (by simp) ?_
  refine AllReadyH.cons (o := _) rfl (fun K hK => ?_) AllReadyH.nil
  rw [if_pos (by kernel_rfl)]
  simp only [getElem_toArray, getElem_cons_zero, getElem_cons_succ]
  go_simp
  clear hc0 hf0 hHeld
  refine hK.out _ _ ⟨(UAA0.out _ hX.out.2).1, (UAK0.out _ hX.out.2).1⟩ (fun hHeld => ?_)
  clear hK K
  try simp only [getElem_toArray, getElem_cons_zero, getElem_cons_succ, Act.put, setIfInBounds_toArray, set_cons_zero, set_cons_succ]
  refine tk 14 (v := ?_) rfl (by kernel_rfl) (fun _ _ _ h => hpan _ _ _ _ _ h) (Or.inl ⟨by rfl, ?_⟩) (by assumption) ?_
  rotate_left 1
  focus (intro w h; (try dsimp only at h); go_simp; try with_reducible rfl)
  try simp only [getElem_toArray, getElem_cons_zero, getElem_cons_succ, Act.put, setIfInBounds_toArray, set_cons_zero, set_cons_succ]
  clear hHeld
  refine wpAnyH_done (by kernel_rfl) ?_ _
  exact KEY.out _ _ P al n c (by kernel_rfl) (by first | kernel_rfl | simp) (by first | kernel_rfl | simp) hX.out.1 hX.out.2

set_option maxRecDepth 100000 in
set_option maxHeartbeats 4000000 in
theorem rg_55 {c : Code} {L : List Value} {Q : Exit → Act → World → Prop} {w : World} {L0 ia ka : Nat} {alA : Option Addr} {nlA clA : Nat} {zlA : List Int} {alK : Option Addr} {nlK clK : Nat} {zlK : List Int} {ew : Int} {rw_ : List Int} (hc : c = rg 55) (hpan : ∀ c a d v w, Q (.panic c) (a.put d v) w → Q (.panic c) a w) (hL : L.length = 528) (e17 : L.getD 17 undef = .slice (some ⟨L0, 0, none⟩) 4 4) (e27 : L.getD 27 undef = .int .i64 ia) (e43 : L.getD 43 undef = .int .i64 ka)
    (ia0 : (0 : Int) ≤ ia)
    (ia1 : (ia : Int) < 4)
    (ka0 : (0 : Int) ≤ ka)
    (ka1 : (ka : Int) < 4)
    (V1 : ∀ w, Sl w alA nlA zlA → Sl w alK nlK zlK → Calls Tryd.prog 41 #[.agg #[.slice alA nlA clA], .agg #[.slice alK nlK clK]] w (OutP w ew rw_))
    (UAA : Up w (fun W => W.cell? ⟨L0, ia, none⟩ = some (.slice alA nlA clA) ∧ Sl W alA nlA zlA))
    (UAK : Up w (fun W => W.cell? ⟨L0, ka, none⟩ = some (.slice alK nlK clK) ∧ Sl W alK nlK zlK))
    (hQ : ∀ (g : Nat → Value) (W : World) (P : Nat) (al : Option Addr) (n c : Nat), Same (fun i => (decide (52 ≤ i) && decide (i ≤ 53)) || (decide (425 ≤ i) && decide (i ≤ 436))) (fun n => L.getD n undef) g → g 52 = .pointer (some ⟨P, 0, none⟩) → g 53 = .int .i64 ew → VG P al n c rw_ W → Below w.heap.size w W → Q .normal ⟨(fr528 g).toArray, []⟩ W) : c.wp Tryd.prog Q ⟨L.toArray, []⟩ w := by
  have key : ∀ (L' : List Value) (W : World) (P : Nat) (al : Option Addr) (n c : Nat), L' = msk (fun i => (decide (52 ≤ i) && decide (i ≤ 53)) || (decide (425 ≤ i) && decide (i ≤ 436))) (fun n => L'.getD n undef) 0 L → (fun n => L'.getD n undef) 52 = .pointer (some ⟨P, 0, none⟩) → (fun n => L'.getD n undef) 53 = .int .i64 ew → VG P al n c rw_ W → Below w.heap.size w W → Q .normal ⟨L'.toArray, []⟩ W := fun L' W P al n c h1 a0 a1 a2 a3 => by
    have h3 := hQ (fun n => L'.getD n undef) W P al n c (same_msk hL h1).2 a0 a1 a2 a3
    rw [← fr_self (same_msk hL h1).1] at h3
    exact h3
  clear hQ
  replace hL := fr_self hL
  generalize hf : (fun n => L.getD n undef) = fr at hL
  have f17 : fr 17 = .slice (some ⟨L0, 0, none⟩) 4 4 := by rw [← hf]; exact e17
  have f27 : fr 27 = .int .i64 ia := by rw [← hf]; exact e27
  have f43 : fr 43 = .int .i64 ka := by rw [← hf]; exact e43
  clear hf e17 e27 e43
  subst hc hL
  unfold fr528 at key ⊢
  simp only [f17, f27, f43] at key ⊢
  clear f17 f27 f43
  have KEY := Lib.hid key
  clear key
  replace ia0 := Lib.hid ia0
  replace ia1 := Lib.hid ia1
  replace ka0 := Lib.hid ka0
  replace ka1 := Lib.hid ka1
  replace V1 := Lib.hid V1
  replace UAA := Lib.hid UAA
  replace UAK := Lib.hid UAK
  conv => arg 2; whnf
  try (conv => arg 2; arg 2; simp only [List.append])
  replace ia0 := ia0.out
  replace ia1 := ia1.out
  replace ka0 := ka0.out
  replace ka1 := ka1.out
  have UAA0 := UAA
  have UAK0 := UAK
  have UBL := Lib.hid (up_bl w)
  have hd : Below w.heap.size w w.drew := (Below.refl _ _).drew
  replace UAA := Lib.hid (UAA.out.next hd)
  replace UAK := Lib.hid (UAK.out.next hd)
  replace UBL := Lib.hid (UBL.out.next hd)
  clear hd
  refine wp_region_held_drew (S := fun w' => w'.cell? ⟨L0, ia, none⟩ = some (.slice alA nlA clA) ∧ w'.cell? ⟨L0, ka, none⟩ = some (.slice alK nlK clK)) (by kernel_rfl) ⟨UAA.out.now.1, UAK.out.now.1⟩ (fun hHeld => ?_)
  refine tk 0 (v := ?_) rfl (by kernel_rfl) (fun _ _ _ h => hpan _ _ _ _ _ h) (Or.inl ⟨by rfl, ?_⟩) (by assumption) ?_
  rotate_left 1
  focus (intro w h; (try dsimp only at h); go_simp; try with_reducible rfl)
  try simp only [getElem_toArray, getElem_cons_zero, getElem_cons_succ, Act.put, setIfInBounds_toArray, set_cons_zero, set_cons_succ]
  refine tk 1 (v := ?_) rfl (by kernel_rfl) (fun _ _ _ h => hpan _ _ _ _ _ h) (Or.inl ⟨by rfl, ?_⟩) (by assumption) ?_
  rotate_left 1
  focus (intro w h; (try dsimp only at h); go_simp; try with_reducible rfl)
  try simp only [getElem_toArray, getElem_cons_zero, getElem_cons_succ, Act.put, setIfInBounds_toArray, set_cons_zero, set_cons_succ]
  refine tk 2 (v := ?_) rfl (by kernel_rfl) (fun _ _ _ h => hpan _ _ _ _ _ h) (Or.inl ⟨by rfl, ?_⟩) (by assumption) ?_
  rotate_left 1
  focus (intro w h; (try dsimp only at h); go_simp; try with_reducible rfl)
  try simp only [getElem_toArray, getElem_cons_zero, getElem_cons_succ, Act.put, setIfInBounds_toArray, set_cons_zero, set_cons_succ]
  refine tk 3 (v := ?_) rfl (by kernel_rfl) (fun _ _ _ h => hpan _ _ _ _ _ h) (Or.inl ⟨by rfl, ?_⟩) (by assumption) ?_
  rotate_left 1
  focus (intro w h; (try dsimp only at h); go_simp; try with_reducible rfl)
  try simp only [getElem_toArray, getElem_cons_zero, getElem_cons_succ, Act.put, setIfInBounds_toArray, set_cons_zero, set_cons_succ]
  refine tk 4 (v := ?_) rfl (by kernel_rfl) (fun _ _ _ h => hpan _ _ _ _ _ h) (Or.inl ⟨by rfl, ?_⟩) (by assumption) ?_
  rotate_left 1
  focus (intro w h; (try dsimp only at h); go_simp; try with_reducible rfl)
  try simp only [getElem_toArray, getElem_cons_zero, getElem_cons_succ, Act.put, setIfInBounds_toArray, set_cons_zero, set_cons_succ]
  refine tk 5 (v := ?_) rfl (by kernel_rfl) (fun _ _ _ h => hpan _ _ _ _ _ h) (Or.inl ⟨by rfl, ?_⟩) (by assumption) ?_
  rotate_left 1
  focus (intro w h; (try dsimp only at h); go_simp; try with_reducible rfl)
  try simp only [getElem_toArray, getElem_cons_zero, getElem_cons_succ, Act.put, setIfInBounds_toArray, set_cons_zero, set_cons_succ]
  refine tk 6 (v := ?_) rfl (by kernel_rfl) (fun _ _ _ h => hpan _ _ _ _ _ h) (Or.inl ⟨by rfl, ?_⟩) (by assumption) ?_
  rotate_left 1
  focus (intro w h; (try dsimp only at h); go_simp; try with_reducible rfl)
  try simp only [getElem_toArray, getElem_cons_zero, getElem_cons_succ, Act.put, setIfInBounds_toArray, set_cons_zero, set_cons_succ]
  refine tk 7 (v := ?_) rfl (by kernel_rfl) (fun _ _ _ h => hpan _ _ _ _ _ h) (Or.inl ⟨by rfl, ?_⟩) (by assumption) ?_
  rotate_left 1
  focus (intro w h; (try dsimp only at h); go_simp; try with_reducible rfl)
  try simp only [getElem_toArray, getElem_cons_zero, getElem_cons_succ, Act.put, setIfInBounds_toArray, set_cons_zero, set_cons_succ]
  refine wpAnyH_ready (rs := [8, 12]) (by kernel_rfl) (by simp) ?_
  refine AllReadyH.cons (o := _) rfl (fun K hK => ?_) ?_
  · rw [if_pos (by kernel_rfl)]
    simp only [getElem_toArray, getElem_cons_zero, getElem_cons_succ]
    go_simp
    (with_reducible refine (V1.out _ UAA.out.now.2 UAK.out.now.2).mono ?_)
    rintro e w79 ⟨al, n, c, rfl, hs, hfr, hb⟩
    have UNN := Lib.hid (up_sl hs)
    replace UAA := Lib.hid (UAA.out.next hb)
    replace UAK := Lib.hid (UAK.out.next hb)
    replace UBL := Lib.hid (UBL.out.next hb)
    clear hb hs hfr
    clear hHeld
    refine hK.out _ _ ⟨UAA.out.now.1, UAK.out.now.1⟩ (fun hHeld => ?_)
    clear hK K
    try simp only [getElem_toArray, getElem_cons_zero, getElem_cons_succ, Act.put, setIfInBounds_toArray, set_cons_zero, set_cons_succ]
    refine tk 9 (v := ?_) rfl (by kernel_rfl) (fun _ _ _ h => hpan _ _ _ _ _ h) (Or.inl ⟨by rfl, ?_⟩) (by assumption) ?_
    rotate_left 1
    focus (intro w h; (try dsimp only at h); go_simp; try with_reducible rfl)
    try simp only [getElem_toArray, getElem_cons_zero, getElem_cons_succ, Act.put, setIfInBounds_toArray, set_cons_zero, set_cons_succ]
    refine tk 10 (v := ?_) rfl (by kernel_rfl) (fun _ _ _ h => hpan _ _ _ _ _ h) (Or.inl ⟨by rfl, ?_⟩) (by assumption) ?_
    rotate_left 1
    focus (intro w h; (try dsimp only at h); go_simp; try with_reducible rfl)
    try simp only [getElem_toArray, getElem_cons_zero, getElem_cons_succ, Act.put, setIfInBounds_toArray, set_cons_zero, set_cons_succ]
    refine tk 11 (v := ?_) rfl (by kernel_rfl) (fun _ _ _ h => hpan _ _ _ _ _ h) (Or.inl ⟨by rfl, ?_⟩) (by assumption) ?_
    rotate_left 1
    focus (intro w h; (try dsimp only at h); go_simp; try with_reducible rfl)
    try simp only [getElem_toArray, getElem_cons_zero, getElem_cons_succ, Act.put, setIfInBounds_toArray, set_cons_zero, set_cons_succ]
    refine wpAnyH_ready (rs := [12]) (by kernel_rfl) (by simp) ?_
    refine AllReadyH.cons (o := _) rfl (fun K hK => ?_) AllReadyH.nil
    rw [if_pos (by kernel_rfl)]
    simp only [getElem_toArray, getElem_cons_zero, getElem_cons_succ]
    obtain ⟨x80, P, e1, e2, hb2, hk⟩ := box1 w79 #[.slice none 0 0] 25
    go_simp
    have UK := Lib.hid (up_vr hk : Up x80 (VR P #[.slice none 0 0] 25))
    have HF := Lib.hid (Nat.le_trans UBL.out.now.size (Nat.le_of_eq e2))
    have HN := Lib.hid (pd_ne1 UNN.out.now e2)
    replace UAA := Lib.hid (UAA.out.next hb2)
    replace UAK := Lib.hid (UAK.out.next hb2)
    replace UBL := Lib.hid (UBL.out.next hb2)
    replace UNN := Lib.hid (UNN.out.next hb2)
    clear e1 e2 hb2 hk
    clear hHeld
    refine hK.out _ _ ⟨UAA.out.now.1, UAK.out.now.1⟩ (fun hHeld => ?_)
    clear hK K
    try simp only [getElem_toArray, getElem_cons_zero, getElem_cons_succ, Act.put, setIfInBounds_toArray, set_cons_zero, set_cons_succ]
    have hX := Lib.hid (pd_done (c := c) UNN.out.now UK.out.now HN.out HF.out UBL.out.now)
    have hc0 := (row_cell UK.out.now 0).trans (show _ = some (.slice none 0 0) from rfl)
    have hf0 := frozen_of_row _ P 0 _ _ UK.out.now
    refine wpAnyH_ready (rs := [13]) (by kernel_rfl) (by simp) ?_
    refine AllReadyH.cons (o := _) rfl (fun K hK => ?_) AllReadyH.nil
    rw [if_pos (by kernel_rfl)]
    simp only [getElem_toArray, getElem_cons_zero, getElem_cons_succ]
    go_simp
    clear hc0 hf0 hHeld
    refine hK.out _ _ ⟨(UAA0.out _ hX.out.2).1, (UAK0.out _ hX.out.2).1⟩ (fun hHeld => ?_)
    clear hK K
    try simp only [getElem_toArray, getElem_cons_zero, getElem_cons_succ, Act.put, setIfInBounds_toArray, set_cons_zero, set_cons_succ]
    refine tk 14 (v := ?_) rfl (by kernel_rfl) (fun _ _ _ h => hpan _ _ _ _ _ h) (Or.inl ⟨by rfl, ?_⟩) (by assumption) ?_
    rotate_left 1
    focus (intro w h; (try dsimp only at h); go_simp; try with_reducible rfl)
    try simp only [getElem_toArray, getElem_cons_zero, getElem_cons_succ, Act.put, setIfInBounds_toArray, set_cons_zero, set_cons_succ]
    clear hHeld
    refine wpAnyH_done (by kernel_rfl) ?_ _
    exact KEY.out _ _ P al n c (by kernel_rfl) (by first | kernel_rfl | simp) (by first | kernel_rfl | simp) hX.out.1 hX.out.2
  refine AllReadyH.cons (o := _) rfl (fun K hK => ?_) AllReadyH.nil
  rw [if_pos (by kernel_rfl)]
  simp only [getElem_toArray, getElem_cons_zero, getElem_cons_succ]
  obtain ⟨x81, P, e1, e2, hb2, hk⟩ := box1 w.drew #[.slice none 0 0] 25
  go_simp
  have UK := Lib.hid (up_vr hk : Up x81 (VR P #[.slice none 0 0] 25))
  have HF := Lib.hid (Nat.le_trans UBL.out.now.size (Nat.le_of_eq e2))
  replace UAA := Lib.hid (UAA.out.next hb2)
  replace UAK := Lib.hid (UAK.out.next hb2)
  replace UBL := Lib.hid (UBL.out.next hb2)
  clear e1 e2 hb2 hk
  clear hHeld
  refine hK.out _ _ ⟨UAA.out.now.1, UAK.out.now.1⟩ (fun hHeld => ?_)
  clear hK K
  try simp only [getElem_toArray, getElem_cons_zero, getElem_cons_succ, Act.put, setIfInBounds_toArray, set_cons_zero, set_cons_succ]
  refine wpAnyH_ready (rs := [8]) (by kernel_rfl) (by simp) ?_
  refine AllReadyH.cons (o := _) rfl (fun K hK => ?_) AllReadyH.nil
  rw [if_pos (by kernel_rfl)]
  simp only [getElem_toArray, getElem_cons_zero, getElem_cons_succ]
  go_simp
  (with_reducible refine (V1.out _ UAA.out.now.2 UAK.out.now.2).mono ?_)
  rintro e w82 ⟨al, n, c, rfl, hs, hfr, hb⟩
  have UNN := Lib.hid (up_sl hs)
  have HN := Lib.hid (pd_ne2 (n := n) UK.out.now hfr)
  replace UAA := Lib.hid (UAA.out.next hb)
  replace UAK := Lib.hid (UAK.out.next hb)
  replace UBL := Lib.hid (UBL.out.next hb)
  replace UK := Lib.hid (UK.out.next hb)
  clear hb hs hfr
  clear hHeld
  refine hK.out _ _ ⟨UAA.out.now.1, UAK.out.now.1⟩ (fun hHeld => ?_)
  clear hK K
  try simp only [getElem_toArray, getElem_cons_zero, getElem_cons_succ, Act.put, setIfInBounds_toArray, set_cons_zero, set_cons_succ]
  refine tk 9 (v := ?_) rfl (by kernel_rfl) (fun _ _ _ h => hpan _ _ _ _ _ h) (Or.inl ⟨by rfl, ?_⟩) (by assumption) ?_
  rotate_left 1
  focus (intro w h; (try dsimp only at h); go_simp; try with_reducible rfl)
  try simp only [getElem_toArray, getElem_cons_zero, getElem_cons_succ, Act.put, setIfInBounds_toArray, set_cons_zero, set_cons_succ]
  refine tk 10 (v := ?_) rfl (by kernel_rfl) (fun _ _ _ h => hpan _ _ _ _ _ h) (Or.inl ⟨by rfl, ?_⟩) (by assumption) ?_
  rotate_left 1
  focus (intro w h; (try dsimp only at h); go_simp; try with_reducible rfl)
  try simp only [getElem_toArray, getElem_cons_zero, getElem_cons_succ, Act.put, setIfInBounds_toArray, set_cons_zero, set_cons_succ]
  refine tk 11 (v := ?_) rfl (by kernel_rfl) (fun _ _ _ h => hpan _ _ _ _ _ h) (Or.inl ⟨by rfl, ?_⟩) (by assumption) ?_
  rotate_left 1
  focus (intro w h; (try dsimp only at h); go_simp; try with_reducible rfl)
  try simp only [getElem_toArray, getElem_cons_zero, getElem_cons_succ, Act.put, setIfInBounds_toArray, set_cons_zero, set_cons_succ]
  have hX := Lib.hid (pd_done (c := c) UNN.out.now UK.out.now HN.out HF.out UBL.out.now)
  have hc0 := (row_cell UK.out.now 0).trans (show _ = some (.slice none 0 0) from rfl)
  have hf0 := frozen_of_row _ P 0 _ _ UK.out.now
  refine wpAnyH_ready (rs := [13]) (by kernel_rfl) (by simp) ?_
  refine AllReadyH.cons (o := _) rfl (fun K hK => ?_) AllReadyH.nil
  rw [if_pos (by kernel_rfl)]
  simp only [getElem_toArray, getElem_cons_zero, getElem_cons_succ]
  go_simp
  clear hc0 hf0 hHeld
  refine hK.out _ _ ⟨(UAA0.out _ hX.out.2).1, (UAK0.out _ hX.out.2).1⟩ (fun hHeld => ?_)
  clear hK K
  try simp only [getElem_toArray, getElem_cons_zero, getElem_cons_succ, Act.put, setIfInBounds_toArray, set_cons_zero, set_cons_succ]
  refine tk 14 (v := ?_) rfl (by kernel_rfl) (fun _ _ _ h => hpan _ _ _ _ _ h) (Or.inl ⟨by rfl, ?_⟩) (by assumption) ?_
  rotate_left 1
  focus (intro w h; (try dsimp only at h); go_simp; try with_reducible rfl)
  try simp only [getElem_toArray, getElem_cons_zero, getElem_cons_succ, Act.put, setIfInBounds_toArray, set_cons_zero, set_cons_succ]
  clear hHeld
  refine wpAnyH_done (by kernel_rfl) ?_ _
  exact KEY.out _ _ P al n c (by kernel_rfl) (by first | kernel_rfl | simp) (by first | kernel_rfl | simp) hX.out.1 hX.out.2

set_option maxRecDepth 100000 in
set_option maxHeartbeats 4000000 in
theorem rg_56 {c : Code} {L : List Value} {Q : Exit → Act → World → Prop} {w : World} {L0 ia ka : Nat} {alA : Option Addr} {nlA clA : Nat} {zlA : List Int} {alK : Option Addr} {nlK clK : Nat} {zlK : List Int} {ew : Int} {rw_ : List Int} (hc : c = rg 56) (hpan : ∀ c a d v w, Q (.panic c) (a.put d v) w → Q (.panic c) a w) (hL : L.length = 528) (e17 : L.getD 17 undef = .slice (some ⟨L0, 0, none⟩) 4 4) (e27 : L.getD 27 undef = .int .i64 ia) (e43 : L.getD 43 undef = .int .i64 ka)
    (ia0 : (0 : Int) ≤ ia)
    (ia1 : (ia : Int) < 4)
    (ka0 : (0 : Int) ≤ ka)
    (ka1 : (ka : Int) < 4)
    (V1 : ∀ w, Sl w alA nlA zlA → Sl w alK nlK zlK → Calls Tryd.prog 42 #[.agg #[.slice alA nlA clA], .agg #[.slice alK nlK clK]] w (OutP w ew rw_))
    (UAA : Up w (fun W => W.cell? ⟨L0, ia, none⟩ = some (.slice alA nlA clA) ∧ Sl W alA nlA zlA))
    (UAK : Up w (fun W => W.cell? ⟨L0, ka, none⟩ = some (.slice alK nlK clK) ∧ Sl W alK nlK zlK))
    (hQ : ∀ (g : Nat → Value) (W : World) (P : Nat) (al : Option Addr) (n c : Nat), Same (fun i => (decide (54 ≤ i) && decide (i ≤ 55)) || (decide (437 ≤ i) && decide (i ≤ 448))) (fun n => L.getD n undef) g → g 54 = .pointer (some ⟨P, 0, none⟩) → g 55 = .int .i64 ew → VG P al n c rw_ W → Below w.heap.size w W → Q .normal ⟨(fr528 g).toArray, []⟩ W) : c.wp Tryd.prog Q ⟨L.toArray, []⟩ w := by
  have key : ∀ (L' : List Value) (W : World) (P : Nat) (al : Option Addr) (n c : Nat), L' = msk (fun i => (decide (54 ≤ i) && decide (i ≤ 55)) || (decide (437 ≤ i) && decide (i ≤ 448))) (fun n => L'.getD n undef) 0 L → (fun n => L'.getD n undef) 54 = .pointer (some ⟨P, 0, none⟩) → (fun n => L'.getD n undef) 55 = .int .i64 ew → VG P al n c rw_ W → Below w.heap.size w W → Q .normal ⟨L'.toArray, []⟩ W := fun L' W P al n c h1 a0 a1 a2 a3 => by
    have h3 := hQ (fun n => L'.getD n undef) W P al n c (same_msk hL h1).2 a0 a1 a2 a3
    rw [← fr_self (same_msk hL h1).1] at h3
    exact h3
  clear hQ
  replace hL := fr_self hL
  generalize hf : (fun n => L.getD n undef) = fr at hL
  have f17 : fr 17 = .slice (some ⟨L0, 0, none⟩) 4 4 := by rw [← hf]; exact e17
  have f27 : fr 27 = .int .i64 ia := by rw [← hf]; exact e27
  have f43 : fr 43 = .int .i64 ka := by rw [← hf]; exact e43
  clear hf e17 e27 e43
  subst hc hL
  unfold fr528 at key ⊢
  simp only [f17, f27, f43] at key ⊢
  clear f17 f27 f43
  have KEY := Lib.hid key
  clear key
  replace ia0 := Lib.hid ia0
  replace ia1 := Lib.hid ia1
  replace ka0 := Lib.hid ka0
  replace ka1 := Lib.hid ka1
  replace V1 := Lib.hid V1
  replace UAA := Lib.hid UAA
  replace UAK := Lib.hid UAK
  conv => arg 2; whnf
  try (conv => arg 2; arg 2; simp only [List.append])
  replace ia0 := ia0.out
  replace ia1 := ia1.out
  replace ka0 := ka0.out
  replace ka1 := ka1.out
  have UAA0 := UAA
  have UAK0 := UAK
  have UBL := Lib.hid (up_bl w)
  have hd : Below w.heap.size w w.drew := (Below.refl _ _).drew
  replace UAA := Lib.hid (UAA.out.next hd)
  replace UAK := Lib.hid (UAK.out.next hd)
  replace UBL := Lib.hid (UBL.out.next hd)
  clear hd
  refine wp_region_held_drew (S := fun w' => w'.cell? ⟨L0, ia, none⟩ = some (.slice alA nlA clA) ∧ w'.cell? ⟨L0, ka, none⟩ = some (.slice alK nlK clK)) (by kernel_rfl) ⟨UAA.out.now.1, UAK.out.now.1⟩ (fun hHeld => ?_)
  refine tk 0 (v := ?_) rfl (by kernel_rfl) (fun _ _ _ h => hpan _ _ _ _ _ h) (Or.inl ⟨by rfl, ?_⟩) (by assumption) ?_
  rotate_left 1
  focus (intro w h; (try dsimp only at h); go_simp; try with_reducible rfl)
  try simp only [getElem_toArray, getElem_cons_zero, getElem_cons_succ, Act.put, setIfInBounds_toArray, set_cons_zero, set_cons_succ]
  refine tk 1 (v := ?_) rfl (by kernel_rfl) (fun _ _ _ h => hpan _ _ _ _ _ h) (Or.inl ⟨by rfl, ?_⟩) (by assumption) ?_
  rotate_left 1
  focus (intro w h; (try dsimp only at h); go_simp; try with_reducible rfl)
  try simp only [getElem_toArray, getElem_cons_zero, getElem_cons_succ, Act.put, setIfInBounds_toArray, set_cons_zero, set_cons_succ]
  refine tk 2 (v := ?_) rfl (by kernel_rfl) (fun _ _ _ h => hpan _ _ _ _ _ h) (Or.inl ⟨by rfl, ?_⟩) (by assumption) ?_
  rotate_left 1
  focus (intro w h; (try dsimp only at h); go_simp; try with_reducible rfl)
  try simp only [getElem_toArray, getElem_cons_zero, getElem_cons_succ, Act.put, setIfInBounds_toArray, set_cons_zero, set_cons_succ]
  refine tk 3 (v := ?_) rfl (by kernel_rfl) (fun _ _ _ h => hpan _ _ _ _ _ h) (Or.inl ⟨by rfl, ?_⟩) (by assumption) ?_
  rotate_left 1
  focus (intro w h; (try dsimp only at h); go_simp; try with_reducible rfl)
  try simp only [getElem_toArray, getElem_cons_zero, getElem_cons_succ, Act.put, setIfInBounds_toArray, set_cons_zero, set_cons_succ]
  refine tk 4 (v := ?_) rfl (by kernel_rfl) (fun _ _ _ h => hpan _ _ _ _ _ h) (Or.inl ⟨by rfl, ?_⟩) (by assumption) ?_
  rotate_left 1
  focus (intro w h; (try dsimp only at h); go_simp; try with_reducible rfl)
  try simp only [getElem_toArray, getElem_cons_zero, getElem_cons_succ, Act.put, setIfInBounds_toArray, set_cons_zero, set_cons_succ]
  refine tk 5 (v := ?_) rfl (by kernel_rfl) (fun _ _ _ h => hpan _ _ _ _ _ h) (Or.inl ⟨by rfl, ?_⟩) (by assumption) ?_
  rotate_left 1
  focus (intro w h; (try dsimp only at h); go_simp; try with_reducible rfl)
  try simp only [getElem_toArray, getElem_cons_zero, getElem_cons_succ, Act.put, setIfInBounds_toArray, set_cons_zero, set_cons_succ]
  refine tk 6 (v := ?_) rfl (by kernel_rfl) (fun _ _ _ h => hpan _ _ _ _ _ h) (Or.inl ⟨by rfl, ?_⟩) (by assumption) ?_
  rotate_left 1
  focus (intro w h; (try dsimp only at h); go_simp; try with_reducible rfl)
  try simp only [getElem_toArray, getElem_cons_zero, getElem_cons_succ, Act.put, setIfInBounds_toArray, set_cons_zero, set_cons_succ]
  refine tk 7 (v := ?_) rfl (by kernel_rfl) (fun _ _ _ h => hpan _ _ _ _ _ h) (Or.inl ⟨by rfl, ?_⟩) (by assumption) ?_
  rotate_left 1
  focus (intro w h; (try dsimp only at h); go_simp; try with_reducible rfl)
  try simp only [getElem_toArray, getElem_cons_zero, getElem_cons_succ, Act.put, setIfInBounds_toArray, set_cons_zero, set_cons_succ]
  refine wpAnyH_ready (rs := [8, 12]) (by kernel_rfl) (by simp) ?_
  refine AllReadyH.cons (o := _) rfl (fun K hK => ?_) ?_
  · rw [if_pos (by kernel_rfl)]
    simp only [getElem_toArray, getElem_cons_zero, getElem_cons_succ]
    go_simp
    (with_reducible refine (V1.out _ UAA.out.now.2 UAK.out.now.2).mono ?_)
    rintro e w83 ⟨al, n, c, rfl, hs, hfr, hb⟩
    have UNN := Lib.hid (up_sl hs)
    replace UAA := Lib.hid (UAA.out.next hb)
    replace UAK := Lib.hid (UAK.out.next hb)
    replace UBL := Lib.hid (UBL.out.next hb)
    clear hb hs hfr
    clear hHeld
    refine hK.out _ _ ⟨UAA.out.now.1, UAK.out.now.1⟩ (fun hHeld => ?_)
    clear hK K
    try simp only [getElem_toArray, getElem_cons_zero, getElem_cons_succ, Act.put, setIfInBounds_toArray, set_cons_zero, set_cons_succ]
    refine tk 9 (v := ?_) rfl (by kernel_rfl) (fun _ _ _ h => hpan _ _ _ _ _ h) (Or.inl ⟨by rfl, ?_⟩) (by assumption) ?_
    rotate_left 1
    focus (intro w h; (try dsimp only at h); go_simp; try with_reducible rfl)
    try simp only [getElem_toArray, getElem_cons_zero, getElem_cons_succ, Act.put, setIfInBounds_toArray, set_cons_zero, set_cons_succ]
    refine tk 10 (v := ?_) rfl (by kernel_rfl) (fun _ _ _ h => hpan _ _ _ _ _ h) (Or.inl ⟨by rfl, ?_⟩) (by assumption) ?_
    rotate_left 1
    focus (intro w h; (try dsimp only at h); go_simp; try with_reducible rfl)
    try simp only [getElem_toArray, getElem_cons_zero, getElem_cons_succ, Act.put, setIfInBounds_toArray, set_cons_zero, set_cons_succ]
    refine tk 11 (v := ?_) rfl (by kernel_rfl) (fun _ _ _ h => hpan _ _ _ _ _ h) (Or.inl ⟨by rfl, ?_⟩) (by assumption) ?_
    rotate_left 1
    focus (intro w h; (try dsimp only at h); go_simp; try with_reducible rfl)
    try simp only [getElem_toArray, getElem_cons_zero, getElem_cons_succ, Act.put, setIfInBounds_toArray, set_cons_zero, set_cons_succ]
    refine wpAnyH_ready (rs := [12]) (by kernel_rfl) (by simp) ?_
    refine AllReadyH.cons (o := _) rfl (fun K hK => ?_) AllReadyH.nil
    rw [if_pos (by kernel_rfl)]
    simp only [getElem_toArray, getElem_cons_zero, getElem_cons_succ]
    obtain ⟨x84, P, e1, e2, hb2, hk⟩ := box1 w83 #[.slice none 0 0] 25
    go_simp
    have UK := Lib.hid (up_vr hk : Up x84 (VR P #[.slice none 0 0] 25))
    have HF := Lib.hid (Nat.le_trans UBL.out.now.size (Nat.le_of_eq e2))
    have HN := Lib.hid (pd_ne1 UNN.out.now e2)
    replace UAA := Lib.hid (UAA.out.next hb2)
    replace UAK := Lib.hid (UAK.out.next hb2)
    replace UBL := Lib.hid (UBL.out.next hb2)
    replace UNN := Lib.hid (UNN.out.next hb2)
    clear e1 e2 hb2 hk
    clear hHeld
    refine hK.out _ _ ⟨UAA.out.now.1, UAK.out.now.1⟩ (fun hHeld => ?_)
    clear hK K
    try simp only [getElem_toArray, getElem_cons_zero, getElem_cons_succ, Act.put, setIfInBounds_toArray, set_cons_zero, set_cons_succ]
    have hX := Lib.hid (pd_done (c := c) UNN.out.now UK.out.now HN.out HF.out UBL.out.now)
    have hc0 := (row_cell UK.out.now 0).trans (show _ = some (.slice none 0 0) from rfl)
    have hf0 := frozen_of_row _ P 0 _ _ UK.out.now
    refine wpAnyH_ready (rs := [13]) (by kernel_rfl) (by simp) ?_
    refine AllReadyH.cons (o := _) rfl (fun K hK => ?_) AllReadyH.nil
    rw [if_pos (by kernel_rfl)]
    simp only [getElem_toArray, getElem_cons_zero, getElem_cons_succ]
    go_simp
    clear hc0 hf0 hHeld
    refine hK.out _ _ ⟨(UAA0.out _ hX.out.2).1, (UAK0.out _ hX.out.2).1⟩ (fun hHeld => ?_)
    clear hK K
    try simp only [getElem_toArray, getElem_cons_zero, getElem_cons_succ, Act.put, setIfInBounds_toArray, set_cons_zero, set_cons_succ]
    refine tk 14 (v := ?_) rfl (by kernel_rfl) (fun _ _ _ h => hpan _ _ _ _ _ h) (Or.inl ⟨by rfl, ?_⟩) (by assumption) ?_
    rotate_left 1
    focus (intro w h; (try dsimp only at h); go_simp; try with_reducible rfl)
    try simp only [getElem_toArray, getElem_cons_zero, getElem_cons_succ, Act.put, setIfInBounds_toArray, set_cons_zero, set_cons_succ]
    clear hHeld
    refine wpAnyH_done (by kernel_rfl) ?_ _
    exact KEY.out _ _ P al n c (by kernel_rfl) (by first | kernel_rfl | simp) (by first | kernel_rfl | simp) hX.out.1 hX.out.2
  refine AllReadyH.cons (o := _) rfl (fun K hK => ?_) AllReadyH.nil
  rw [if_pos (by kernel_rfl)]
  simp only [getElem_toArray, getElem_cons_zero, getElem_cons_succ]
  obtain ⟨x85, P, e1, e2, hb2, hk⟩ := box1 w.drew #[.slice none 0 0] 25
  go_simp
  have UK := Lib.hid (up_vr hk : Up x85 (VR P #[.slice none 0 0] 25))
  have HF := Lib.hid (Nat.le_trans UBL.out.now.size (Nat.le_of_eq e2))
  replace UAA := Lib.hid (UAA.out.next hb2)
  replace UAK := Lib.hid (UAK.out.next hb2)
  replace UBL := Lib.hid (UBL.out.next hb2)
  clear e1 e2 hb2 hk
  clear hHeld
  refine hK.out _ _ ⟨UAA.out.now.1, UAK.out.now.1⟩ (fun hHeld => ?_)
  clear hK K
  try simp only [getElem_toArray, getElem_cons_zero, getElem_cons_succ, Act.put, setIfInBounds_toArray, set_cons_zero, set_cons_succ]
  refine wpAnyH_ready (rs := [8]) (by kernel_rfl) (by simp) ?_
  refine AllReadyH.cons (o := _) rfl (fun K hK => ?_) AllReadyH.nil
  rw [if_pos (by kernel_rfl)]
  simp only [getElem_toArray, getElem_cons_zero, getElem_cons_succ]
  go_simp
  (with_reducible refine (V1.out _ UAA.out.now.2 UAK.out.now.2).mono ?_)
  rintro e w86 ⟨al, n, c, rfl, hs, hfr, hb⟩
  have UNN := Lib.hid (up_sl hs)
  have HN := Lib.hid (pd_ne2 (n := n) UK.out.now hfr)
  replace UAA := Lib.hid (UAA.out.next hb)
  replace UAK := Lib.hid (UAK.out.next hb)
  replace UBL := Lib.hid (UBL.out.next hb)
  replace UK := Lib.hid (UK.out.next hb)
  clear hb hs hfr
  clear hHeld
  refine hK.out _ _ ⟨UAA.out.now.1, UAK.out.now.1⟩ (fun hHeld => ?_)
  clear hK K
  try simp only [getElem_toArray, getElem_cons_zero, getElem_cons_succ, Act.put, setIfInBounds_toArray, set_cons_zero, set_cons_succ]
  refine tk 9 (v := ?_) rfl (by kernel_rfl) (fun _ _ _ h => hpan _ _ _ _ _ h) (Or.inl ⟨by rfl, ?_⟩) (by assumption) ?_
  rotate_left 1
  focus (intro w h; (try dsimp only at h); go_simp; try with_reducible rfl)
  try simp only [getElem_toArray, getElem_cons_zero, getElem_cons_succ, Act.put, setIfInBounds_toArray, set_cons_zero, set_cons_succ]
  refine tk 10 (v := ?_) rfl (by kernel_rfl) (fun _ _ _ h => hpan _ _ _ _ _ h) (Or.inl ⟨by rfl, ?_⟩) (by assumption) ?_
  rotate_left 1
  focus (intro w h; (try dsimp only at h); go_simp; try with_reducible rfl)
  try simp only [getElem_toArray, getElem_cons_zero, getElem_cons_succ, Act.put, setIfInBounds_toArray, set_cons_zero, set_cons_succ]
  refine tk 11 (v := ?_) rfl (by kernel_rfl) (fun _ _ _ h => hpan _ _ _ _ _ h) (Or.inl ⟨by rfl, ?_⟩) (by assumption) ?_
  rotate_left 1
  focus (intro w h; (try dsimp only at h); go_simp; try with_reducible rfl)
  try simp only [getElem_toArray, getElem_cons_zero, getElem_cons_succ, Act.put, setIfInBounds_toArray, set_cons_zero, set_cons_succ]
  have hX := Lib.hid (pd_done (c := c) UNN.out.now UK.out.now HN.out HF.out UBL.out.now)
  have hc0 := (row_cell UK.out.now 0).trans (show _ = some (.slice none 0 0) from rfl)
  have hf0 := frozen_of_row _ P 0 _ _ UK.out.now
  refine wpAnyH_ready (rs := [13]) (by kernel_rfl) (by simp) ?_
  refine AllReadyH.cons (o := _) rfl (fun K hK => ?_) AllReadyH.nil
  rw [if_pos (by kernel_rfl)]
  simp only [getElem_toArray, getElem_cons_zero, getElem_cons_succ]
  go_simp
  clear hc0 hf0 hHeld
  refine hK.out _ _ ⟨(UAA0.out _ hX.out.2).1, (UAK0.out _ hX.out.2).1⟩ (fun hHeld => ?_)
  clear hK K
  try simp only [getElem_toArray, getElem_cons_zero, getElem_cons_succ, Act.put, setIfInBounds_toArray, set_cons_zero, set_cons_succ]
  refine tk 14 (v := ?_) rfl (by kernel_rfl) (fun _ _ _ h => hpan _ _ _ _ _ h) (Or.inl ⟨by rfl, ?_⟩) (by assumption) ?_
  rotate_left 1
  focus (intro w h; (try dsimp only at h); go_simp; try with_reducible rfl)
  try simp only [getElem_toArray, getElem_cons_zero, getElem_cons_succ, Act.put, setIfInBounds_toArray, set_cons_zero, set_cons_succ]
  clear hHeld
  refine wpAnyH_done (by kernel_rfl) ?_ _
  exact KEY.out _ _ P al n c (by kernel_rfl) (by first | kernel_rfl | simp) (by first | kernel_rfl | simp) hX.out.1 hX.out.2
end Go.Proofs.YtipfafglbkbafaaDoor
