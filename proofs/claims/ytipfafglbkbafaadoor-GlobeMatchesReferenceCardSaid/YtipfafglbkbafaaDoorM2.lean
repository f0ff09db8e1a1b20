/- GlobeMatchesReference: the regions 29, 34, 35, 36, each by itself. -/
import Derived.Deep.RegionHeld3
import Derived.Test.YtipfafglbkbafaaDoorMk
namespace Go.Proofs.YtipfafglbkbafaaDoor
open Go.RowKit Go.Shelf
set_option linter.unusedVariables false
set_option linter.unusedSimpArgs false
open List (getElem_toArray getElem_cons_zero getElem_cons_succ setIfInBounds_toArray set_cons_zero set_cons_succ)
set_option maxRecDepth 100000 in
set_option maxHeartbeats 4000000 in
theorem rg_29 {c : Code} {L : List Value} {Q : Exit → Act → World → Prop} {w : World} {L0 ia N : Nat} {alA : Option Addr} {nlA clA : Nat} {zlA : List Int} {rv : Bool} {kv : Int} {ll : List (Nat × Nat)} (hc : c = rg 29) (hpan : ∀ c a d v w, Q (.panic c) (a.put d v) w → Q (.panic c) a w) (hL : L.length = 528) (e17 : L.getD 17 undef = .slice (some ⟨L0, 0, none⟩) 4 4) (e27 : L.getD 27 undef = .int .i64 ia)
    (ia0 : (0 : Int) ≤ ia)
    (ia1 : (ia : Int) < 4)
    (V1 : ∀ w, Sl w alA nlA zlA → Calls Tryd.prog 22 #[.agg #[.slice alA nlA clA]] w (OutV w (.bool rv)))
    (V2 : ∀ w, Sl w alA nlA zlA → Calls Tryd.prog 23 #[.agg #[.slice alA nlA clA]] w (OutV w (.bool rv)))
    (W1 : ∀ w, Sl w alA nlA zlA → Calls Tryd.prog 24 #[.agg #[.slice alA nlA clA]] w (OutV w (.int .i64 kv)))
    (W2 : ∀ w, Sl w alA nlA zlA → Calls Tryd.prog 25 #[.agg #[.slice alA nlA clA]] w (OutV w (.int .i64 kv)))
    (X1 : ∀ w, Sl w alA nlA zlA → Tab w → Calls Tryd.prog 27 #[.agg #[.slice alA nlA clA]] w (OutL w N ll))
    (X2 : ∀ w, Sl w alA nlA zlA → Calls Tryd.prog 28 #[.agg #[.slice alA nlA clA]] w (OutL w N ll))
    (UAA : Up w (fun W => W.cell? ⟨L0, ia, none⟩ = some (.slice alA nlA clA) ∧ Sl W alA nlA zlA))
    (UTb : Up w Tab)
    (hQ : ∀ (g : Nat → Value) (W : World), Same (fun i => (decide (193 ≤ i) && decide (i ≤ 230))) (fun n => L.getD n undef) g → g 230 = .bool false → Below w.heap.size w W → Q .normal ⟨(fr528 g).toArray, []⟩ W) : c.wp Tryd.prog Q ⟨L.toArray, []⟩ w := by
  have key : ∀ (L' : List Value) (W : World), L' = msk (fun i => (decide (193 ≤ i) && decide (i ≤ 230))) (fun n => L'.getD n undef) 0 L → (fun n => L'.getD n undef) 230 = .bool false → Below w.heap.size w W → Q .normal ⟨L'.toArray, []⟩ W := fun L' W  h1 a0 a1 => by
    have h3 := hQ (fun n => L'.getD n undef) W  (same_msk hL h1).2 a0 a1
    rw [← fr_self (same_msk hL h1).1] at h3
    exact h3
  clear hQ
  replace hL := fr_self hL
  generalize hf : (fun n => L.getD n undef) = fr at hL
  have f17 : fr 17 = .slice (some ⟨L0, 0, none⟩) 4 4 := by rw [← hf]; exact e17
  have f27 : fr 27 = .int .i64 ia := by rw [← hf]; exact e27
  clear hf e17 e27
  subst hc hL
  unfold fr528 at key ⊢
  simp only [f17, f27] at key ⊢
  clear f17 f27
  have KEY := Lib.hid key
  clear key
  replace ia0 := Lib.hid ia0
  replace ia1 := Lib.hid ia1
  replace V1 := Lib.hid V1
  replace V2 := Lib.hid V2
  replace W1 := Lib.hid W1
  replace W2 := Lib.hid W2
  replace X1 := Lib.hid X1
  replace X2 := Lib.hid X2
  replace UAA := Lib.hid UAA
  replace UTb := Lib.hid UTb
  conv => arg 2; whnf
  try (conv => arg 2; arg 2; simp only [List.append])
  replace ia0 := ia0.out
  replace ia1 := ia1.out
  have UBL := Lib.hid (up_bl w)
  have hBB : Below w.heap.size w w.drew := (Below.refl _ _).drew
  go_region_held3 (fun w' => w'.cell? ⟨L0, ia, none⟩ = some (.slice alA nlA clA)) (exact ((UAA.out.at hBB).1)) (first | (go_at_call 22; (with_reducible refine (V1.out _ (UAA.out.at hBB).2).mono ?_); rintro e w87 ⟨rfl, hb⟩; replace hBB := hBB.trans (hb.mono hBB.size); clear hb) | (go_at_call 23; (with_reducible refine (V2.out _ (UAA.out.at hBB).2).mono ?_); rintro e w88 ⟨rfl, hb⟩; replace hBB := hBB.trans (hb.mono hBB.size); clear hb) | (go_at_call 24; (with_reducible refine (W1.out _ (UAA.out.at hBB).2).mono ?_); rintro e w89 ⟨rfl, hb⟩; replace hBB := hBB.trans (hb.mono hBB.size); clear hb) | (go_at_call 25; (with_reducible refine (W2.out _ (UAA.out.at hBB).2).mono ?_); rintro e w90 ⟨rfl, hb⟩; replace hBB := hBB.trans (hb.mono hBB.size); clear hb) | (go_at_call 27; (with_reducible refine (X1.out _ (UAA.out.at hBB).2 (UTb.out.at hBB)).mono ?_); rintro e w91 ⟨rl1, rc1, rfl, hcs, hb⟩; have UC1 := Lib.hid (up_cs hcs); clear hcs; replace hBB := hBB.trans (hb.mono hBB.size); clear hb) | (go_at_call 28; (with_reducible refine (X2.out _ (UAA.out.at hBB).2).mono ?_); rintro e w92 ⟨rl2, rc2, rfl, hcs, hb⟩; have UC2 := Lib.hid (up_cs hcs); clear hcs; replace UC1 := Lib.hid (UC1.out.next hb); replace hBB := hBB.trans (hb.mono hBB.size); clear hb) | (go_at_call 26; (with_reducible refine (rsc_eq UC1.out.now UC2.out.now).mono ?_); rintro e w93 ⟨rfl, hb⟩; replace hBB := hBB.trans (hb.mono hBB.size); clear hb))
  replace UAA := Lib.hid (UAA.out.next hBB)
  replace UTb := Lib.hid (UTb.out.next hBB)
  replace UBL := Lib.hid (UBL.out.next hBB)
  clear hBB
  exact KEY.out _ _ (by kernel_rfl) (by first | kernel_rfl | simp) UBL.out.now

set_option maxRecDepth 100000 in
set_option maxHeartbeats 4000000 in
theorem rg_34 {c : Code} {L : List Value} {Q : Exit → Act → World → Prop} {w : World} {L0 C ia kc : Nat} {alA : Option Addr} {nlA clA : Nat} {zlA : List Int} {xk yk ew : Int} {rw_ : List Int} (hc : c = rg 34) (hpan : ∀ c a d v w, Q (.panic c) (a.put d v) w → Q (.panic c) a w) (hL : L.length = 528) (e17 : L.getD 17 undef = .slice (some ⟨L0, 0, none⟩) 4 4) (e18 : L.getD 18 undef = .slice (some ⟨C, 0, none⟩) 4 4) (e27 : L.getD 27 undef = .int .i64 ia) (e28 : L.getD 28 undef = .int .i64 kc)
    (ia0 : (0 : Int) ≤ ia)
    (ia1 : (ia : Int) < 4)
    (kc0 : (0 : Int) ≤ kc)
    (kc1 : (kc : Int) < 4)
    (V1 : ∀ w, Sl w alA nlA zlA → Calls Tryd.prog 29 #[.agg #[.slice alA nlA clA], CV xk yk] w (OutP w ew rw_))
    (UAA : Up w (fun W => W.cell? ⟨L0, ia, none⟩ = some (.slice alA nlA clA) ∧ Sl W alA nlA zlA))
    (UCk : Up w (fun W => W.cell? ⟨C, kc * 2, none⟩ = some (.int .i64 xk) ∧ W.cell? ⟨C, kc * 2 + 1, none⟩ = some (.int .i64 yk)))
    (hQ : ∀ (g : Nat → Value) (W : World) (P : Nat) (al : Option Addr) (n c : Nat), Same (fun i => (decide (29 ≤ i) && decide (i ≤ 30)) || (decide (237 ≤ i) && decide (i ≤ 248))) (fun n => L.getD n undef) g → g 29 = .pointer (some ⟨P, 0, none⟩) → g 30 = .int .i64 ew → VG P al n c rw_ W → Below w.heap.size w W → Q .normal ⟨(fr528 g).toArray, []⟩ W) : c.wp Tryd.prog Q ⟨L.toArray, []⟩ w := by
  have key : ∀ (L' : List Value) (W : World) (P : Nat) (al : Option Addr) (n c : Nat), L' = msk (fun i => (decide (29 ≤ i) && decide (i ≤ 30)) || (decide (237 ≤ i) && decide (i ≤ 248))) (fun n => L'.getD n undef) 0 L → (fun n => L'.getD n undef) 29 = .pointer (some ⟨P, 0, none⟩) → (fun n => L'.getD n undef) 30 = .int .i64 ew → VG P al n c rw_ W → Below w.heap.size w W → Q .normal ⟨L'.toArray, []⟩ W := fun L' W P al n c h1 a0 a1 a2 a3 => by
    have h3 := hQ (fun n => L'.getD n undef) W P al n c (same_msk hL h1).2 a0 a1 a2 a3
    rw [← fr_self (same_msk hL h1).1] at h3
    exact h3
  clear hQ
  replace hL := fr_self hL
  generalize hf : (fun n => L.getD n undef) = fr at hL
  have f17 : fr 17 = .slice (some ⟨L0, 0, none⟩) 4 4 := by rw [← hf]; exact e17
  have f18 : fr 18 = .slice (some ⟨C, 0, none⟩) 4 4 := by rw [← hf]; exact e18
  have f27 : fr 27 = .int .i64 ia := by rw [← hf]; exact e27
  have f28 : fr 28 = .int .i64 kc := by rw [← hf]; exact e28
  clear hf e17 e18 e27 e28
  subst hc hL
  unfold fr528 at key ⊢
  simp only [f17, f18, f27, f28] at key ⊢
  clear f17 f18 f27 f28
  have KEY := Lib.hid key
  clear key
  replace ia0 := Lib.hid ia0
  replace ia1 := Lib.hid ia1
  replace kc0 := Lib.hid kc0
  replace kc1 := Lib.hid kc1
  replace V1 := Lib.hid V1
  replace UAA := Lib.hid UAA
  replace UCk := Lib.hid UCk
  conv => arg 2; whnf
  try (conv => arg 2; arg 2; simp only [List.append])
  replace ia0 := ia0.out
  replace ia1 := ia1.out
  replace kc0 := kc0.out
  replace kc1 := kc1.out
  have UAA0 := UAA
  have UCk0 := UCk
  have UBL := Lib.hid (up_bl w)
  have hd : Below w.heap.size w w.drew := (Below.refl _ _).drew
  replace UAA := Lib.hid (UAA.out.next hd)
  replace UCk := Lib.hid (UCk.out.next hd)
  replace UBL := Lib.hid (UBL.out.next hd)
  clear hd
  refine wp_region_held_drew (S := fun w' => w'.cell? ⟨L0, ia, none⟩ = some (.slice alA nlA clA) ∧ w'.cell? ⟨C, kc * 2, none⟩ = some (.int .i64 xk) ∧ w'.cell? ⟨C, kc * 2 + 1, none⟩ = some (.int .i64 yk)) (by kernel_rfl) ⟨UAA.out.now.1, UCk.out.now.1, UCk.out.now.2⟩ (fun hHeld => ?_)
  refine tk 0 (v := ?_) rfl (by kernel_rfl) (fun _ _ _ h => hpan _ _ _ _ _ h) (Or.inl ⟨by rfl, ?_⟩) (by assumption) ?_
  rotate_left 1
  focus (intro w h; (try dsimp only at h); go_simp; try with_reducible rfl)
  try simp only [getElem_toArray, getElem_cons_zero, getElem_cons_succ, Act.put, setIfInBounds_toArray, set_cons_zero, set_cons_succ]
  refine tk 1 (v := ?_) rfl (by kernel_rfl) (fun _ _ _ h => hpan _ _ _ _ _ h) (Or.inl ⟨by rfl, ?_⟩) (by assumption) ?_
  rotate_left 1
  focus (intro w h; (try dsimp only at h); go_simp; try with_reducible rfl)
  try simp only [getElem_toArray, getElem_cons_zero, getElem_cons_succ, Act.put, setIfInBounds_toArray, set_cons_zero, set_cons_succ]
  refine tk 2 (v := ?_) rfl (by kernel_rfl) (fun _ _ _ h => hpan _ _ _ _ _ h) (Or.inl ⟨by rfl, ?_⟩) (by assumption) ?_
  rotate_left 1
  focus (intro w h; (try dsimp only at h); go_simp; try with_reducible rfl)
  try simp only [getElem_toArray, getElem_cons_zero, getElem_cons_succ, Act.put, setIfInBounds_toArray, set_cons_zero, set_cons_succ]
  refine tk 3 (v := ?_) rfl (by kernel_rfl) (fun _ _ _ h => hpan _ _ _ _ _ h) (Or.inl ⟨by rfl, ?_⟩) (by assumption) ?_
  rotate_left 1
  focus (intro w h; (try dsimp only at h); go_simp; try with_reducible rfl)
  try simp only [getElem_toArray, getElem_cons_zero, getElem_cons_succ, Act.put, setIfInBounds_toArray, set_cons_zero, set_cons_succ]
  refine tk 4 (v := ?_) rfl (by kernel_rfl) (fun _ _ _ h => hpan _ _ _ _ _ h) (Or.inl ⟨by rfl, ?_⟩) (by assumption) ?_
  rotate_left 1
  focus (intro w h; (try dsimp only at h); go_simp; try with_reducible rfl)
  try simp only [getElem_toArray, getElem_cons_zero, getElem_cons_succ, Act.put, setIfInBounds_toArray, set_cons_zero, set_cons_succ]
  refine tk 5 (v := ?_) rfl (by kernel_rfl) (fun _ _ _ h => hpan _ _ _ _ _ h) (Or.inl ⟨by rfl, ?_⟩) (by assumption) ?_
  rotate_left 1
  focus (intro w h; (try dsimp only at h); go_simp; try with_reducible rfl)
  try simp only [getElem_toArray, getElem_cons_zero, getElem_cons_succ, Act.put, setIfInBounds_toArray, set_cons_zero, set_cons_succ]
  refine tk 6 (v := ?_) rfl (by kernel_rfl) (fun _ _ _ h => hpan _ _ _ _ _ h) (Or.inl ⟨by rfl, ?_⟩) (by assumption) ?_
  rotate_left 1
  focus (intro w h; (try dsimp only at h); go_simp; try with_reducible rfl)
  try simp only [getElem_toArray, getElem_cons_zero, getElem_cons_succ, Act.put, setIfInBounds_toArray, set_cons_zero, set_cons_succ]
  refine tk 7 (v := ?_) rfl (by kernel_rfl) (fun _ _ _ h => hpan _ _ _ _ _ h) (Or.inl ⟨by rfl, ?_⟩) (by assumption) ?_
  rotate_left 1
  focus (intro w h; (try dsimp only at h); go_simp; try with_reducible rfl)
  try simp only [getElem_toArray, getElem_cons_zero, getElem_cons_succ, Act.put, setIfInBounds_toArray, set_cons_zero, set_cons_succ]
  refine wpAnyH_ready (rs := [8, 12]) (by kernel_rfl) (by simp) ?_
  refine AllReadyH.cons (o := _) rfl (fun K hK => ?_) ?_
  · rw [if_pos (by kernel_rfl)]
    simp only [getElem_toArray, getElem_cons_zero, getElem_cons_succ]
    go_simp
    (with_reducible refine (V1.out _ UAA.out.now.2).mono ?_)
    rintro e w39 ⟨al, n, c, rfl, hs, hfr, hb⟩
    have UNN := Lib.hid (up_sl hs)
    replace UAA := Lib.hid (UAA.out.next hb)
    replace UCk := Lib.hid (UCk.out.next hb)
    replace UBL := Lib.hid (UBL.out.next hb)
    clear hb hs hfr
    clear hHeld
    refine hK.out _ _ ⟨UAA.out.now.1, UCk.out.now.1, UCk.out.now.2⟩ (fun hHeld => ?_)
    clear hK K
    try simp only [getElem_toArray, getElem_cons_zero, getElem_cons_succ, Act.put, setIfInBounds_toArray, set_cons_zero, set_cons_succ]
    refine tk 9 (v := ?_) rfl (by kernel_rfl) (fun _ _ _ h => hpan _ _ _ _ _ h) (Or.inl ⟨by rfl, ?_⟩) (by assumption) ?_
    rotate_left 1
    focus (intro w h; (try dsimp only at h); go_simp; try with_reducible rfl)
    try simp only [getElem_toArray, getElem_cons_zero, getElem_cons_succ, Act.put, setIfInBounds_toArray, set_cons_zero, set_cons_succ]
    refine tk 10 (v := ?_) rfl (by kernel_rfl) (fun _ _ _ h => hpan _ _ _ _ _ h) (Or.inl ⟨by rfl, ?_⟩) (by assumption) ?_
    rotate_left 1
    focus (intro w h; (try dsimp only at h); go_simp; try with_reducible rfl)
    try simp only [getElem_toArray, getElem_cons_zero, getElem_cons_succ, Act.put, setIfInBounds_toArray, set_cons_zero, set_cons_succ]
    refine tk 11 (v := ?_) rfl (by kernel_rfl) (fun _ _ _ h => hpan _ _ _ _ _ h) (Or.inl ⟨by rfl, ?_⟩) (by assumption) ?_
    rotate_left 1
    focus (intro w h; (try dsimp only at h); go_simp; try with_reducible rfl)
    try simp only [getElem_toArray, getElem_cons_zero, getElem_cons_succ, Act.put, setIfInBounds_toArray, set_cons_zero, set_cons_succ]
    refine wpAnyH_ready (rs := [12]) (by kernel_rfl) (by simp) ?_
    refine AllReadyH.cons (o := _) rfl (fun K hK => ?_) AllReadyH.nil
    rw [if_pos (by kernel_rfl)]
    simp only [getElem_toArray, getElem_cons_zero, getElem_cons_succ]
    obtain ⟨x40, P, e1, e2, hb2, hk⟩ := box1 w39 #[.slice none 0 0] 25
    go_simp
    have UK := Lib.hid (up_vr hk : Up x40 (VR P #[.slice none 0 0] 25))
    have HF := Lib.hid (Nat.le_trans UBL.out.now.size (Nat.le_of_eq e2))
    have HN := Lib.hid (pd_ne1 UNN.out.now e2)
    replace UAA := Lib.hid (UAA.out.next hb2)
    replace UCk := Lib.hid (UCk.out.next hb2)
    replace UBL := Lib.hid (UBL.out.next hb2)
    replace UNN := Lib.hid (UNN.out.next hb2)
    clear e1 e2 hb2 hk
    clear hHeld
    refine hK.out _ _ ⟨UAA.out.now.1, UCk.out.now.1, UCk.out.now.2⟩ (fun hHeld => ?_)
    clear hK K
    try simp only [getElem_toArray, getElem_cons_zero, getElem_cons_succ, Act.put, setIfInBounds_toArray, set_cons_zero, set_cons_succ]
    have hX := Lib.hid (pd_done (c := c) UNN.out.now UK.out.now HN.out HF.out UBL.out.now)
    have hc0 := (row_cell UK.out.now 0).trans (show _ = some (.slice none 0 0) from rfl)
    have hf0 := frozen_of_row _ P 0 _ _ UK.out.now
    refine wpAnyH_ready (rs := [13]) (by kernel_rfl) (by simp) ?_
    refine AllReadyH.cons (o := _) rfl (fun K hK => ?_) AllReadyH.nil
    rw [if_pos (by kernel_rfl)]
    simp only [getElem_toArray, getElem_cons_zero, getElem_cons_succ]
    go_simp
    clear hc0 hf0 hHeld
    refine hK.out _ _ ⟨(UAA0.out _ hX.out.2).1, (UCk0.out _ hX.out.2).1, (UCk0.out _ hX.out.2).2⟩ (fun hHeld => ?_)
    clear hK K
    try simp only [getElem_toArray, getElem_cons_zero, getElem_cons_succ, Act.put, setIfInBounds_toArray, set_cons_zero, set_cons_succ]
    refine tk 14 (v := ?_) rfl (by kernel_rfl) (fun _ _ _ h => hpan _ _ _ _ _ h) (Or.inl ⟨by rfl, ?_⟩) (by assumption) ?_
    rotate_left 1
    focus (intro w h; (try dsimp only at h); go_simp; try with_reducible rfl)
    try simp only [getElem_toArray, getElem_cons_zero, getElem_cons_succ, Act.put, setIfInBounds_toArray, set_cons_zero, set_cons_succ]
    clear hHeld
    refine wpAnyH_done (by kernel_rfl) ?_ _
    exact KEY.out _ _ P al n c (by kernel_rfl) (by first | kernel_rfl | simp) (by first | kernel_rfl | simp) hX.out.1 hX.out.2
  refine AllReadyH.cons (o := _) rfl (fun K hK => ?_) AllReadyH.nil
  rw [if_pos (by kernel_rfl)]
  simp only [getElem_toArray, getElem_cons_zero, getElem_cons_succ]
  obtain ⟨x41, P, e1, e2, hb2, hk⟩ := box1 w.drew #[.slice none 0 0] 25
  go_simp
  have UK := Lib.hid (up_vr hk : Up x41 (VR P #[.slice none 0 0] 25))
  have HF := Lib.hid (Nat.le_trans UBL.out.now.size (Nat.le_of_eq e2))
  replace UAA := Lib.hid (UAA.out.next hb2)
  replace UCk := Lib.hid (UCk.out.next hb2)
  replace UBL := Lib.hid (UBL.out.next hb2)
  clear e1 e2 hb2 hk
  clear hHeld
  refine hK.out _ _ ⟨UAA.out.now.1, UCk.out.now.1, UCk.out.now.2⟩ (fun hHeld => ?_)
  clear hK K
  try simp only [getElem_toArray, getElem_cons_zero, getElem_cons_succ, Act.put, setIfInBounds_toArray, set_cons_zero, set_cons_succ]
  refine wpAnyH_ready (rs := [8]) (by kernel_rfl) (by simp) ?_
  refine AllReadyH.cons (o := _) rfl (fun K hK => ?_) AllReadyH.nil
  rw [if_pos (by kernel_rfl)]
  simp only [getElem_toArray, getElem_cons_zero, getElem_cons_succ]
  go_simp
  (with_reducible refine (V1.out _ UAA.out.now.2).mono ?_)
  rintro e w42 ⟨al, n, c, rfl, hs, hfr, hb⟩
  have UNN := Lib.hid (up_sl hs)
  have HN := Lib.hid (pd_ne2 (n := n) UK.out.now hfr)
  replace UAA := Lib.hid (UAA.out.next hb)
  replace UCk := Lib.hid (UCk.out.next hb)
  replace UBL := Lib.hid (UBL.out.next hb)
  replace UK := Lib.hid (UK.out.next hb)
  clear hb hs hfr
  clear hHeld
  refine hK.out _ _ ⟨UAA.out.now.1, UCk.out.now.1, UCk.out.now.2⟩ (fun hHeld => ?_)
  clear hK K
  try simp only [getElem_toArray, getElem_cons_zero, getElem_cons_succ, Act.put, setIfInBounds_toArray, set_cons_zero, set_cons_succ]
  refine tk 9 (v := ?_) rfl (by kernel_rfl) (fun _ _ _ h => hpan _ _ _ _ _ h) (Or.inl ⟨by rfl, ?_⟩) (by assumption) ?_
  rotate_left 1
  focus (intro w h; (try dsimp only at h); go_simp; try with_reducible rfl)
  try simp only [getElem_toArray, getElem_cons_zero, getElem_cons_succ, Act.put, setIfInBounds_toArray, set_cons_zero, set_cons_succ]
  refine tk 10 (v := ?_) rfl (by kernel_rfl) (fun _ _ _ h => hpan _ _ _ _ _ h) (Or.inl ⟨by rfl, ?_⟩) (by assumption) ?_
  rotate_left 1
  focus (intro w h; (try dsimp only at h); go_simp; try with_reducible rfl)
  try simp only [getElem_toArray, getElem_cons_zero, getElem_cons_succ, Act.put, setIfInBounds_toArray, set_cons_zero, set_cons_succ]
  refine tk 11 (v := ?_) rfl (by kernel_rfl) (fun _ _ _ h => hpan _ _ _ _ _ h) (Or.inl ⟨by rfl, ?_⟩) (by assumption) ?_
  rotate_left 1
  focus (intro w h; (try dsimp only at h); go_simp; try with_reducible rfl)
  try simp only [getElem_toArray, getElem_cons_zero, getElem_cons_succ, Act.put, setIfInBounds_toArray, set_cons_zero, set_cons_succ]
  have hX := Lib.hid (pd_done (c := c) UNN.out.now UK.out.now HN.out HF.out UBL.out.now)
  have hc0 := (row_cell UK.out.now 0).trans (show _ = some (.slice none 0 0) from rfl)
  have hf0 := frozen_of_row _ P 0 _ _ UK.out.now
  refine wpAnyH_ready (rs := [13]) (by kernel_rfl) (by simp) ?_
  refine AllReadyH.cons (o := _) rfl (fun K hK => ?_) AllReadyH.nil
  rw [if_pos (by kernel_rfl)]
  simp only [getElem_toArray, getElem_cons_zero, getElem_cons_succ]
  go_simp
  clear hc0 hf0 hHeld
  refine hK.out _ _ ⟨(UAA0.out _ hX.out.2).1, (UCk0.out _ hX.out.2).1, (UCk0.out _ hX.out.2).2⟩ (fun hHeld => ?_)
  clear hK K
  try simp only [getElem_toArray, getElem_cons_zero, getElem_cons_succ, Act.put, setIfInBounds_toArray, set_cons_zero, set_cons_succ]
  refine tk 14 (v := ?_) rfl (by kernel_rfl) (fun _ _ _ h => hpan _ _ _ _ _ h) (Or.inl ⟨by rfl, ?_⟩) (by assumption) ?_
  rotate_left 1
  focus (intro w h; (try dsimp only at h); go_simp; try with_reducible rfl)
  try simp only [getElem_toArray, getElem_cons_zero, getElem_cons_succ, Act.put, setIfInBounds_toArray, set_cons_zero, set_cons_succ]
  clear hHeld
  refine wpAnyH_done (by kernel_rfl) ?_ _
  exact KEY.out _ _ P al n c (by kernel_rfl) (by first | kernel_rfl | simp) (by first | kernel_rfl | simp) hX.out.1 hX.out.2

set_option maxRecDepth 100000 in
set_option maxHeartbeats 4000000 in
theorem rg_35 {c : Code} {L : List Value} {Q : Exit → Act → World → Prop} {w : World} {L0 C ia kc : Nat} {alA : Option Addr} {nlA clA : Nat} {zlA : List Int} {xk yk ew : Int} {rw_ : List Int} (hc : c = rg 35) (hpan : ∀ c a d v w, Q (.panic c) (a.put d v) w → Q (.panic c) a w) (hL : L.length = 528) (e17 : L.getD 17 undef = .slice (some ⟨L0, 0, none⟩) 4 4) (e18 : L.getD 18 undef = .slice (some ⟨C, 0, none⟩) 4 4) (e27 : L.getD 27 undef = .int .i64 ia) (e28 : L.getD 28 undef = .int .i64 kc)
    (ia0 : (0 : Int) ≤ ia)
    (ia1 : (ia : Int) < 4)
    (kc0 : (0 : Int) ≤ kc)
    (kc1 : (kc : Int) < 4)
    (V1 : ∀ w, Sl w alA nlA zlA → Calls Tryd.prog 30 #[.agg #[.slice alA nlA clA], CV xk yk] w (OutP w ew rw_))
    (UAA : Up w (fun W => W.cell? ⟨L0, ia, none⟩ = some (.slice alA nlA clA) ∧ Sl W alA nlA zlA))
    (UCk : Up w (fun W => W.cell? ⟨C, kc * 2, none⟩ = some (.int .i64 xk) ∧ W.cell? ⟨C, kc * 2 + 1, none⟩ = some (.int .i64 yk)))
    (hQ : ∀ (g : Nat → Value) (W : World) (P : Nat) (al : Option Addr) (n c : Nat), Same (fun i => (decide (31 ≤ i) && decide (i ≤ 32)) || (decide (249 ≤ i) && decide (i ≤ 260))) (fun n => L.getD n undef) g → g 31 = .pointer (some ⟨P, 0, none⟩) → g 32 = .int .i64 ew → VG P al n c rw_ W → Below w.heap.size w W → Q .normal ⟨(fr528 g).toArray, []⟩ W) : c.wp Tryd.prog Q ⟨L.toArray, []⟩ w := by
  have key : ∀ (L' : List Value) (W : World) (P : Nat) (al : Option Addr) (n c : Nat), L' = msk (fun i => (decide (31 ≤ i) && decide (i ≤ 32)) || (decide (249 ≤ i) && decide (i ≤ 260))) (fun n => L'.getD n undef) 0 L → (fun n => L'.getD n undef) 31 = .pointer (some ⟨P, 0, none⟩) → (fun n => L'.getD n undef) 32 = .int .i64 ew → VG P al n c rw_ W → Below w.heap.size w W → Q .normal ⟨L'.toArray, []⟩ W := fun L' W P al n c h1 a0 a1 a2 a3 => by
    have h3 := hQ (fun n => L'.getD n undef) W P al n c (same_msk hL h1).2 a0 a1 a2 a3
    rw [← fr_self (same_msk hL h1).1] at h3
    exact h3
  clear hQ
  replace hL := fr_self hL
  generalize hf : (fun n => L.getD n undef) = fr at hL
  have f17 : fr 17 = .slice (some ⟨L0, 0, none⟩) 4 4 := by rw [← hf]; exact e17
  have f18 : fr 18 = .slice (some ⟨C, 0, none⟩) 4 4 := by rw [← hf]; exact e18
  have f27 : fr 27 = .int .i64 ia := by rw [← hf]; exact e27
  have f28 : fr 28 = .int .i64 kc := by rw [← hf]; exact e28
  clear hf e17 e18 e27 e28
  subst hc hL
  unfold fr528 at key ⊢
  simp only [f17, f18, f27, f28] at key ⊢
  clear f17 f18 f27 f28
  have KEY := Lib.hid key
  clear key
  replace ia0 := Lib.hid ia0
  replace ia1 := Lib.hid ia1
  replace kc0 := Lib.hid kc0
  replace kc1 := Lib.hid kc1
  replace V1 := Lib.hid V1
  replace UAA := Lib.hid UAA
  replace UCk := Lib.hid UCk
  conv => arg 2; whnf
  try (conv => arg 2; arg 2; simp only [List.append])
  replace ia0 := ia0.out
  replace ia1 := ia1.out
  replace kc0 := kc0.out
  replace kc1 := kc1.out
  have UAA0 := UAA
  have UCk0 := UCk
  have UBL := Lib.hid (up_bl w)
  have hd : Below w.heap.size w w.drew := (Below.refl _ _).drew
  replace UAA := Lib.hid (UAA.out.next hd)
  replace UCk := Lib.hid (UCk.out.next hd)
  replace UBL := Lib.hid (UBL.out.next hd)
  clear hd
  refine wp_region_held_drew (S := fun w' => w'.cell? ⟨L0, ia, none⟩ = some (.slice alA nlA clA) ∧ w'.cell? ⟨C, kc * 2, none⟩ = some (.int .i64 xk) ∧ w'.cell? ⟨C, kc * 2 + 1, none⟩ = some (.int .i64 yk)) (by kernel_rfl) ⟨UAA.out.now.1, UCk.out.now.1, UCk.out.now.2⟩ (fun hHeld => ?_)
  refine tk 0 (v := ?_) rfl (by kernel_rfl) (fun _ _ _ h => hpan _ _ _ _ _ h) (Or.inl ⟨by rfl, ?_⟩) (by assumption) ?_
  rotate_left 1
  focus (intro w h; (try dsimp only at h); go_simp; try with_reducible rfl)
  try simp only [getElem_toArray, getElem_cons_zero, getElem_cons_succ, Act.put, setIfInBounds_toArray, set_cons_zero, set_cons_succ]
  refine tk 1 (v := ?_) rfl (by kernel_rfl) (fun _ _ _ h => hpan _ _ _ _ _ h) (Or.inl ⟨by rfl, ?_⟩) (by assumption) ?_
  rotate_left 1
  focus (intro w h; (try dsimp only at h); go_simp; try with_reducible rfl)
  try simp only [getElem_toArray, getElem_cons_zero, getElem_cons_succ, Act.put, setIfInBounds_toArray, set_cons_zero, set_cons_succ]
  refine tk 2 (v := ?_) rfl (by kernel_rfl) (fun _ _ _ h => hpan _ _ _ _ _ h) (Or.inl ⟨by rfl, ?_⟩) (by assumption) ?_
  rotate_left 1
  focus (intro w h; (try dsimp only at h); go_simp; try with_reducible rfl)
  try simp only [getElem_toArray, getElem_cons_zero, getElem_cons_succ, Act.put, setIfInBounds_toArray, set_cons_zero, set_cons_succ]
  refine tk 3 (v := ?_) rfl (by kernel_rfl) (fun _ _ _ h => hpan _ _ _ _ _ h) (Or.inl ⟨by rfl, ?_⟩) (by assumption) ?_
  rotate_left 1
  focus (intro w h; (try dsimp only at h); go_simp; try with_reducible rfl)
  try simp only [getElem_toArray, getElem_cons_zero, getElem_cons_succ, Act.put, setIfInBounds_toArray, set_cons_zero, set_cons_succ]
  refine tk 4 (v := ?_) rfl (by kernel_rfl) (fun _ _ _ h => hpan _ _ _ _ _ h) (Or.inl ⟨by rfl, ?_⟩) (by assumption) ?_
  rotate_left 1
  focus (intro w h; (try dsimp only at h); go_simp; try with_reducible rfl)
  try simp only [getElem_toArray, getElem_cons_zero, getElem_cons_succ, Act.put, setIfInBounds_toArray, set_cons_zero, set_cons_succ]
  refine tk 5 (v := ?_) rfl (by kernel_rfl) (fun _ _ _ h => hpan _ _ _ _ _ h) (Or.inl ⟨by rfl, ?_⟩) (by assumption) ?_
  rotate_left 1
  focus (intro w h; (try dsimp only at h); go_simp; try with_reducible rfl)
  try simp only [getElem_toArray, getElem_cons_zero, getElem_cons_succ, Act.put, setIfInBounds_toArray, set_cons_zero, set_cons_succ]
  refine tk 6 (v := ?_) rfl (by kernel_rfl) (fun _ _ _ h => hpan _ _ _ _ _ h) (Or.inl ⟨by rfl, ?_⟩) (by assumption) ?_
  rotate_left 1
  focus (intro w h; (try dsimp only at h); go_simp; try with_reducible rfl)
  try simp only [getElem_toArray, getElem_cons_zero, getElem_cons_succ, Act.put, setIfInBounds_toArray, set_cons_zero, set_cons_succ]
  refine tk 7 (v := ?_) rfl (by kernel_rfl) (fun _ _ _ h => hpan _ _ _ _ _ h) (Or.inl ⟨by rfl, ?_⟩) (by assumption) ?_
  rotate_left 1
  focus (intro w h; (try dsimp only at h); go_simp; try with_reducible rfl)
  try simp only [getElem_toArray, getElem_cons_zero, getElem_cons_succ, Act.put, setIfInBounds_toArray, set_cons_zero, set_cons_succ]
  refine wpAnyH_ready (rs := [8, 12]) (by kernel_rfl) (by simp) ?_
  refine AllReadyH.cons (o := _) rfl (fun K hK => ?_) ?_
  · rw [if_pos (by kernel_rfl)]
    simp only [getElem_toArray, getElem_cons_zero, getElem_cons_succ]
    go_simp
    (with_reducible refine (V1.out _ UAA.out.now.2).mono ?_)
    rintro e w43 ⟨al, n, c, rfl, hs, hfr, hb⟩
    have UNN := Lib.hid (up_sl hs)
    replace UAA := Lib.hid (UAA.out.next hb)
    replace UCk := Lib.hid (UCk.out.next hb)
    replace UBL := Lib.hid (UBL.out.next hb)
    clear hb hs hfr
    clear hHeld
    refine hK.out _ _ ⟨UAA.out.now.1, UCk.out.now.1, UCk.out.now.2⟩ (fun hHeld => ?_)
    clear hK K
    try simp only [getElem_toArray, getElem_cons_zero, getElem_cons_succ, Act.put, setIfInBounds_toArray, set_cons_zero, set_cons_succ]
    refine tk 9 (v := ?_) rfl (by kernel_rfl) (fun _ _ _ h => hpan _ _ _ _ _ h) (Or.inl ⟨by rfl, ?_⟩) (by assumption) ?_
    rotate_left 1
    focus (intro w h; (try dsimp only at h); go_simp; try with_reducible rfl)
    try simp only [getElem_toArray, getElem_cons_zero, getElem_cons_succ, Act.put, setIfInBounds_toArray, set_cons_zero, set_cons_succ]
    refine tk 10 (v := ?_) rfl (by kernel_rfl) (fun _ _ _ h => hpan _ _ _ _ _ h) (Or.inl ⟨by rfl, ?_⟩) (by assumption) ?_
    rotate_left 1
    focus (intro w h; (try dsimp only at h); go_simp; try with_reducible rfl)
    try simp only [getElem_toArray, getElem_cons_zero, getElem_cons_succ, Act.put, setIfInBounds_toArray, set_cons_zero, set_cons_succ]
    refine tk 11 (v := ?_) rfl (by kernel_rfl) (fun _ _ _ h => hpan _ _ _ _ _ h) (Or.inl ⟨by rfl, ?_⟩) (by assumption) ?_
    rotate_left 1
    focus (intro w h; (try dsimp only at h); go_simp; try with_reducible rfl)
    try simp only [getElem_toArray, getElem_cons_zero, getElem_cons_succ, Act.put, setIfInBounds_toArray, set_cons_zero, set_cons_succ]
    refine wpAnyH_ready (rs := [12]) (by kernel_rfl) (by simp) ?_
    refine AllReadyH.cons (o := _) rfl (fun K hK => ?_) AllReadyH.nil
    rw [if_pos (by kernel_rfl)]
    simp only [getElem_toArray, getElem_cons_zero, getElem_cons_succ]
    obtain ⟨x44, P, e1, e2, hb2, hk⟩ := box1 w43 #[.slice none 0 0] 25
    go_simp
    have UK := Lib.hid (up_vr hk : Up x44 (VR P #[.slice none 0 0] 25))
    have HF := Lib.hid (Nat.le_trans UBL.out.now.size (Nat.le_of_eq e2))
    have HN := Lib.hid (pd_ne1 UNN.out.now e2)
    replace UAA := Lib.hid (UAA.out.next hb2)
    replace UCk := Lib.hid (UCk.out.next hb2)
    replace UBL := Lib.hid (UBL.out.next hb2)
    replace UNN := Lib.hid (UNN.out.next hb2)
    clear e1 e2 hb2 hk
    clear hHeld
    refine hK.out _ _ ⟨UAA.out.now.1, UCk.out.now.1, UCk.out.now.2⟩ (fun hHeld => ?_)
    clear hK K
    try simp only [getElem_toArray, getElem_cons_zero, getElem_cons_succ, Act.put, setIfInBounds_toArray, set_cons_zero, set_cons_succ]
    have hX := Lib.hid (pd_done (c := c) UNN.out.now UK.out.now HN.out HF.out UBL.out.now)
    have hc0 := (row_cell UK.out.now 0).trans (show _ = some (.slice none 0 0) from rfl)
    have hf0 := frozen_of_row _ P 0 _ _ UK.out.now
    refine wpAnyH_ready (rs := [13]) (by kernel_rfl) (by simp) ?_
    refine AllReadyH.cons (o := _) rfl (fun K hK => ?_) AllReadyH.nil
    rw [if_pos (by kernel_rfl)]
    simp only [getElem_toArray, getElem_cons_zero, getElem_cons_succ]
    go_simp
    clear hc0 hf0 hHeld
    refine hK.out _ _ ⟨(UAA0.out _ hX.out.2).1, (UCk0.out _ hX.out.2).1, (UCk0.out _ hX.out.2).2⟩ (fun hHeld => ?_)
    clear hK K
    try simp only [getElem_toArray, getElem_cons_zero, getElem_cons_succ, Act.put, setIfInBounds_toArray, set_cons_zero, set_cons_succ]
    refine tk 14 (v := ?_) rfl (by kernel_rfl) (fun _ _ _ h => hpan _ _ _ _ _ h) (Or.inl ⟨by rfl, ?_⟩) (by assumption) ?_
    rotate_left 1
    focus (intro w h; (try dsimp only at h); go_simp; try with_reducible rfl)
    try simp only [getElem_toArray, getElem_cons_zero, getElem_cons_succ, Act.put, setIfInBounds_toArray, set_cons_zero, set_cons_succ]
    clear hHeld
    refine wpAnyH_done (by kernel_rfl) ?_ _
    exact KEY.out _ _ P al n c (by kernel_rfl) (by first | kernel_rfl | simp) (by first | kernel_rfl | simp) hX.out.1 hX.out.2
  refine AllReadyH.cons (o := _) rfl (fun K hK => ?_) AllReadyH.nil
  rw [if_pos (by kernel_rfl)]
  simp only [getElem_toArray, getElem_cons_zero, getElem_cons_succ]
  obtain ⟨x45, P, e1, e2, hb2, hk⟩ := box1 w.drew #[.slice none 0 0] 25
  go_simp
  have UK := Lib.hid (up_vr hk : Up x45 (VR P #[.slice none 0 0] 25))
  have HF := Lib.hid (Nat.le_trans UBL.out.now.size (Nat.le_of_eq e2))
  replace UAA := Lib.hid (UAA.out.next hb2)
  replace UCk := Lib.hid (UCk.out.next hb2)
  replace UBL := Lib.hid (UBL.out.next hb2)
  clear e1 e2 hb2 hk
  clear hHeld
  refine hK.out _ _ ⟨UAA.out.now.1, UCk.out.now.1, UCk.out.now.2⟩ (fun hHeld => ?_)
  clear hK K
  try simp only [getElem_toArray, getElem_cons_zero, getElem_cons_succ, Act.put, setIfInBounds_toArray, set_cons_zero, set_cons_succ]
  refine wpAnyH_ready (rs := [8]) (by kernel_rfl) (by simp) ?_
  refine AllReadyH.cons (o := _) rfl (fun K hK => ?_) AllReadyH.nil
  rw [if_pos (by kernel_rfl)]
  simp only [getElem_toArray, getElem_cons_zero, getElem_cons_succ]
  go_simp
  (with_reducible refine (V1.out _ UAA.out.now.2).mono ?_)
  rintro e w46 ⟨al, n, c, rfl, hs, hfr, hb⟩
  have UNN := Lib.hid (up_sl hs)
  have HN := Lib.hid (pd_ne2 (n := n) UK.out.now hfr)
  replace UAA := Lib.hid (UAA.out.next hb)
  replace UCk := Lib.hid (UCk.out.next hb)
  replace UBL := Lib.hid (UBL.out.next hb)
  replace UK := Lib.hid (UK.out.next hb)
  clear hb hs hfr
  clear hHeld
  refine hK.out _ _ ⟨UAA.out.now.1, UCk.out.now.1, UCk.out.now.2⟩ (fun hHeld => ?_)
  clear hK K
  try simp only [getElem_toArray, getElem_cons_zero, getElem_cons_succ, Act.put, setIfInBounds_toArray, set_cons_zero, set_cons_succ]
  refine tk 9 (v := ?_) rfl (by kernel_rfl) (fun _ _ _ h => hpan _ _ _ _ _ h) (Or.inl ⟨by rfl, ?_⟩) (by assumption) ?_
  rotate_left 1
  focus (intro w h; (try dsimp only at h); go_simp; try with_reducible rfl)
  try simp only [getElem_toArray, getElem_cons_zero, getElem_cons_succ, Act.put, setIfInBounds_toArray, set_cons_zero, set_cons_succ]
  refine tk 10 (v := ?_) rfl (by kernel_rfl) (fun _ _ _ h => hpan _ _ _ _ _ h) (Or.inl ⟨by rfl, ?_⟩) (by assumption) ?_
  rotate_left 1
  focus (intro w h; (try dsimp only at h); go_simp; try with_reducible rfl)
  try simp only [getElem_toArray, getElem_cons_zero, getElem_cons_succ, Act.put, setIfInBounds_toArray, set_cons_zero, set_cons_succ]
  refine tk 11 (v := ?_) rfl (by kernel_rfl) (fun _ _ _ h => hpan _ _ _ _ _ h) (Or.inl ⟨by rfl, ?_⟩) (by assumption) ?_
  rotate_left 1
  focus (intro w h; (try dsimp only at h); go_simp; try with_reducible rfl)
  try simp only [getElem_toArray, getElem_cons_zero, getElem_cons_succ, Act.put, setIfInBounds_toArray, set_cons_zero, set_cons_succ]
  have hX := Lib.hid (pd_done (c := c) UNN.out.now UK.out.now HN.out HF.out UBL.out.now)
  have hc0 := (row_cell UK.out.now 0).trans (show _ = some (.slice none 0 0) from rfl)
  have hf0 := frozen_of_row _ P 0 _ _ UK.out.now
  refine wpAnyH_ready (rs := [13]) (by kernel_rfl) (by simp) ?_
  refine AllReadyH.cons (o := _) rfl (fun K hK => ?_) AllReadyH.nil
  rw [if_pos (by kernel_rfl)]
  simp only [getElem_toArray, getElem_cons_zero, getElem_cons_succ]
  go_simp
  clear hc0 hf0 hHeld
  refine hK.out _ _ ⟨(UAA0.out _ hX.out.2).1, (UCk0.out _ hX.out.2).1, (UCk0.out _ hX.out.2).2⟩ (fun hHeld => ?_)
  clear hK K
  try simp only [getElem_toArray, getElem_cons_zero, getElem_cons_succ, Act.put, setIfInBounds_toArray, set_cons_zero, set_cons_succ]
  refine tk 14 (v := ?_) rfl (by kernel_rfl) (fun _ _ _ h => hpan _ _ _ _ _ h) (Or.inl ⟨by rfl, ?_⟩) (by assumption) ?_
  rotate_left 1
  focus (intro w h; (try dsimp only at h); go_simp; try with_reducible rfl)
  try simp only [getElem_toArray, getElem_cons_zero, getElem_cons_succ, Act.put, setIfInBounds_toArray, set_cons_zero, set_cons_succ]
  clear hHeld
  refine wpAnyH_done (by kernel_rfl) ?_ _
  exact KEY.out _ _ P al n c (by kernel_rfl) (by first | kernel_rfl | simp) (by first | kernel_rfl | simp) hX.out.1 hX.out.2

set_option maxRecDepth 100000 in
set_option maxHeartbeats 4000000 in
theorem rg_36 {c : Code} {L : List Value} {Q : Exit → Act → World → Prop} {w : World} {L0 C ia kc : Nat} {alA : Option Addr} {nlA clA : Nat} {zlA : List Int} {xk yk ew : Int} {rw_ : List Int} {rh : Bool} {PM : Nat} {alM : Option Addr} {nM cM : Nat} {PW : Nat} {alW : Option Addr} {nW cW : Nat} (hc : c = rg 36) (hpan : ∀ c a d v w, Q (.panic c) (a.put d v) w → Q (.panic c) a w) (hL : L.length = 528) (e17 : L.getD 17 undef = .slice (some ⟨L0, 0, none⟩) 4 4) (e18 : L.getD 18 undef = .slice (some ⟨C, 0, none⟩) 4 4) (e27 : L.getD 27 undef = .int .i64 ia) (e28 : L.getD 28 undef = .int .i64 kc) (e29 : L.getD 29 undef = .pointer (some ⟨PM, 0, none⟩)) (e30 : L.getD 30 undef = .int .i64 ew) (e31 : L.getD 31 undef = .pointer (some ⟨PW, 0, none⟩)) (e32 : L.getD 32 undef = .int .i64 ew)
    (ia0 : (0 : Int) ≤ ia)
    (ia1 : (ia : Int) < 4)
    (kc0 : (0 : Int) ≤ kc)
    (kc1 : (kc : Int) < 4)
    (W1 : ∀ w, Sl w alA nlA zlA → Calls Tryd.prog 31 #[.agg #[.slice alA nlA clA], CV xk yk] w (OutV w (.bool rh)))
    (W2 : ∀ w, Sl w alA nlA zlA → Calls Tryd.prog 32 #[.agg #[.slice alA nlA clA], CV xk yk] w (OutV w (.bool rh)))
    (UAA : Up w (fun W => W.cell? ⟨L0, ia, none⟩ = some (.slice alA nlA clA) ∧ Sl W alA nlA zlA))
    (UCk : Up w (fun W => W.cell? ⟨C, kc * 2, none⟩ = some (.int .i64 xk) ∧ W.cell? ⟨C, kc * 2 + 1, none⟩ = some (.int .i64 yk)))
    (UM : Up w (VG PM alM nM cM rw_))
    (UW : Up w (VG PW alW nW cW rw_))
    (hQ : ∀ (g : Nat → Value) (W : World), Same (fun i => (decide (261 ≤ i) && decide (i ≤ 290))) (fun n => L.getD n undef) g → g 290 = .bool false → Below w.heap.size w W → Q .normal ⟨(fr528 g).toArray, []⟩ W) : c.wp Tryd.prog Q ⟨L.toArray, []⟩ w := by
  have key : ∀ (L' : List Value) (W : World), L' = msk (fun i => (decide (261 ≤ i) && decide (i ≤ 290))) (fun n => L'.getD n undef) 0 L → (fun n => L'.getD n undef) 290 = .bool false → Below w.heap.size w W → Q .normal ⟨L'.toArray, []⟩ W := fun L' W  h1 a0 a1 => by
    have h3 := hQ (fun n => L'.getD n undef) W  (same_msk hL h1).2 a0 a1
    rw [← fr_self (same_msk hL h1).1] at h3
    exact h3
  clear hQ
  replace hL := fr_self hL
  generalize hf : (fun n => L.getD n undef) = fr at hL
  have f17 : fr 17 = .slice (some ⟨L0, 0, none⟩) 4 4 := by rw [← hf]; exact e17
  have f18 : fr 18 = .slice (some ⟨C, 0, none⟩) 4 4 := by rw [← hf]; exact e18
  have f27 : fr 27 = .int .i64 ia := by rw [← hf]; exact e27
  have f28 : fr 28 = .int .i64 kc := by rw [← hf]; exact e28
  have f29 : fr 29 = .pointer (some ⟨PM, 0, none⟩) := by rw [← hf]; exact e29
  have f30 : fr 30 = .int .i64 ew := by rw [← hf]; exact e30
  have f31 : fr 31 = .pointer (some ⟨PW, 0, none⟩) := by rw [← hf]; exact e31
  have f32 : fr 32 = .int .i64 ew := by rw [← hf]; exact e32
  clear hf e17 e18 e27 e28 e29 e30 e31 e32
  subst hc hL
  unfold fr528 at key ⊢
  simp only [f17, f18, f27, f28, f29, f30, f31, f32] at key ⊢
  clear f17 f18 f27 f28 f29 f30 f31 f32
  have KEY := Lib.hid key
  clear key
  replace ia0 := Lib.hid ia0
  replace ia1 := Lib.hid ia1
  replace kc0 := Lib.hid kc0
  replace kc1 := Lib.hid kc1
  replace W1 := Lib.hid W1
  replace W2 := Lib.hid W2
  replace UAA := Lib.hid UAA
  replace UCk := Lib.hid UCk
  replace UM := Lib.hid UM
  replace UW := Lib.hid UW
  conv => arg 2; whnf
  try (conv => arg 2; arg 2; simp only [List.append])
  replace ia0 := ia0.out
  replace ia1 := ia1.out
  replace kc0 := kc0.out
  replace kc1 := kc1.out
  have UBL := Lib.hid (up_bl w)
  have hBB : Below w.heap.size w w.drew := (Below.refl _ _).drew
  go_region_held3 (fun w' => w'.cell? ⟨L0, ia, none⟩ = some (.slice alA nlA clA) ∧ w'.cell? ⟨C, kc * 2, none⟩ = some (.int .i64 xk) ∧ w'.cell? ⟨C, kc * 2 + 1, none⟩ = some (.int .i64 yk) ∧ w'.cell? ⟨PM, 0, none⟩ = some (.slice alM nM cM) ∧ w'.cell? ⟨PW, 0, none⟩ = some (.slice alW nW cW)) (exact ⟨(UAA.out.at hBB).1, (UCk.out.at hBB).1, (UCk.out.at hBB).2, (UM.out.at hBB).cell, (UW.out.at hBB).cell⟩) (first | (go_at_call 21; (with_reducible refine (rsame_eq (UM.out.at hBB).1 (UW.out.at hBB).1).mono ?_); rintro e w94 ⟨rfl, hb⟩; replace hBB := hBB.trans (hb.mono hBB.size); clear hb) | (go_at_call 31; (with_reducible refine (W1.out _ (UAA.out.at hBB).2).mono ?_); rintro e w95 ⟨rfl, hb⟩; replace hBB := hBB.trans (hb.mono hBB.size); clear hb) | (go_at_call 32; (with_reducible refine (W2.out _ (UAA.out.at hBB).2).mono ?_); rintro e w96 ⟨rfl, hb⟩; replace hBB := hBB.trans (hb.mono hBB.size); clear hb))
  replace UAA := Lib.hid (UAA.out.next hBB)
  replace UCk := Lib.hid (UCk.out.next hBB)
  replace UM := Lib.hid (UM.out.next hBB)
  replace UW := Lib.hid (UW.out.next hBB)
  replace UBL := Lib.hid (UBL.out.next hBB)
  clear hBB
  exact KEY.out _ _ (by kernel_rfl) (by first | kernel_rfl | simp) UBL.out.now
end Go.Proofs.YtipfafglbkbafaaDoor
