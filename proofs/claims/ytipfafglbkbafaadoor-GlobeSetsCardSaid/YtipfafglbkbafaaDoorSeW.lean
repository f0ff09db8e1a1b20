/- SeW: walked. -/
import Derived.Test.YtipfafglbkbafaaDoorSa
namespace Go.Proofs.YtipfafglbkbafaaDoor
open Go.RowKit Go.Shelf
set_option linter.unusedVariables false
set_option linter.unusedSimpArgs false
theorem se_has1 {f g : Ar} {x y : Nat} {r s : Bool} (h1 : f x y = r) (h2 : g x y = s) {t : Bool} (h : (r || s) = t) : orA f g x y = t := by unfold orA; rw [h1, h2, h]
theorem se_has2 {f g : Ar} {x y : Nat} {r s : Bool} (h1 : f x y = r) (h2 : g x y = s) {t : Bool} (h : (r && s) = t) : andA f g x y = t := by unfold andA; rw [h1, h2, h]
theorem se_has3 {f g : Ar} {x y : Nat} {r s : Bool} (h1 : f x y = r) (h2 : g x y = s) {t : Bool} (h : (r && !s) = t) : lessA f g x y = t := by unfold lessA; rw [h1, h2, h]
theorem count_le (f : Ar) : count f ≤ 1152 := sum_le _ 48 (fun y => cnt_le _ 48) 24
theorem se_contains (f g : Ar) : (rowsOf (andA f g) == rowsOf g) = ((count (andA f g) : Int) == (count g : Int)) := by
  have h := count_less g f
  have h2 : count (fun x y => g x y && f x y) = count (andA f g) := count_eqv fun x y _ _ => by unfold andA; exact Bool.and_comm _ _
  rw [h2] at h
  rw [Bool.eq_iff_iff, beq_iff_eq, beq_iff_eq, rows_eqv]
  have hz := count_zero (f := fun x y => g x y && !f x y)
  constructor
  · intro e
    have := count_eqv e
    omega
  · intro e x y hx hy
    have h0 := hz.1 (by omega) x y hx hy
    show (f x y && g x y) = g x y
    have h0' : (g x y && !f x y) = false := h0
    cases hg : g x y <;> cases hf : f x y <;> simp_all
theorem se_ub (f g : Ar) : Eqv (andA (orA f g) g) g := fun x y _ _ => by
  show ((f x y || g x y) && g x y) = g x y
  cases f x y <;> cases g x y <;> rfl
theorem se_bm (f g : Ar) : Eqv (andA g (andA f g)) (andA f g) := fun x y _ _ => by
  show (g x y && (f x y && g x y)) = (f x y && g x y)
  cases f x y <;> cases g x y <;> rfl
theorem se_counts (f g : Ar) : ∃ (ca cb cu cm cl : Nat) (sab : Int), count f = ca ∧ count g = cb ∧ count (orA f g) = cu ∧ count (andA f g) = cm ∧ count (lessA f g) = cl ∧
    IntKind.i64.wrap ((ca : Int) + (cb : Int)) = sab ∧ IntKind.i64.wrap (sab - (cm : Int)) = (cu : Int) ∧ IntKind.i64.wrap ((ca : Int) - (cm : Int)) = (cl : Int) ∧ (rowsOf (andA f g) == rowsOf g) = ((cm : Int) == (cb : Int)) := by
  have h1 : count (orA f g) + count (andA f g) = count f + count g := count_or f g
  have h2 : count (lessA f g) + count (andA f g) = count f := count_less f g
  have b1 := count_le f
  have b2 := count_le g
  refine ⟨_, _, _, _, _, (count f : Int) + (count g : Int), rfl, rfl, rfl, rfl, rfl, ?_, ?_, ?_, se_contains f g⟩
  · rw [IntKind.wrap_i64]; omega
  · rw [IntKind.wrap_i64]; omega
  · rw [IntKind.wrap_i64]; omega
set_option maxRecDepth 100000 in
set_option maxHeartbeats 8000000 in
theorem sets_any (al : Option Addr) (n c : Nat) (bl : Option Addr) (m d : Nat) (z0 z1 : Int) (k00 : -9223372036854775808 ≤ z0) (k01 : z0 ≤ 9223372036854775807) (k10 : -9223372036854775808 ≤ z1) (k11 : z1 ≤ 9223372036854775807) (w : World) (hT : Tab w) (hx : S4 w al n) (hy : S4 w bl m) :
    Calls Tryd.prog 4 #[.slice al n c, .slice bl m d, .agg #[.int .i64 z0, .int .i64 z1]] w (OutV w (.bool true)) := by
  obtain ⟨w0, P, eA, eB, hbP, hkP⟩ := box1 w #[.int .i64 z0, .int .i64 z1] 35
  have UC := Lib.hid (up_vr hkP : Up w0 (VR P #[.int .i64 z0, .int .i64 z1] 35))
  have HU := Lib.hid ((up_vb (Below.refl w.heap.size w) hT : Up w (VB w)).next hbP)
  have UX := Lib.hid ((up_s4 hx).next hbP)
  have UY := Lib.hid ((up_s4 hy).next hbP)
  obtain ⟨x, y, hx48, hy24, PC⟩ := cellV z0 z1 k00 k01 k10 k11
  have hxy := Lib.hid (show x < 48 ∧ y < 24 from ⟨hx48, hy24⟩)
  replace PC := Lib.hid PC
  clear hT hx hy hx48 hy24 k00 k01 k10 k11 hbP hkP
  go_enter Tryd.func4, Tryd.ntmps4
  go_wp2_with fail
  clear eA eB
  (with_reducible refine (sane_any _ HU.out.now.2).mono ?_)
  rintro e w1 ⟨rfl, hb⟩
  replace HU := Lib.hid (HU.out.next hb)
  replace UX := Lib.hid (UX.out.next hb)
  replace UY := Lib.hid (UY.out.next hb)
  replace UC := Lib.hid (UC.out.next hb)
  clear hb
  go_wp2_with fail
  (with_reducible refine (madeV UX.out.now).mono ?_)
  rintro e w2 ⟨a, b2, o2, c2, rfl, hs, hb⟩
  replace HU := Lib.hid (HU.out.next hb)
  replace UX := Lib.hid (UX.out.next hb)
  replace UY := Lib.hid (UY.out.next hb)
  replace UC := Lib.hid (UC.out.next hb)
  obtain ⟨x2, B2, e1, e2, hb2, hk⟩ := box1 w2 #[.slice (some ⟨b2, o2, none⟩) 24 c2] 25
  have U2 := Lib.hid (up_va (Sl.below hs (Nat.le_refl _) hb2) hk : Up x2 (VA B2 b2 o2 c2 (a)))
  replace HU := Lib.hid (HU.out.next hb2)
  replace UX := Lib.hid (UX.out.next hb2)
  replace UY := Lib.hid (UY.out.next hb2)
  replace UC := Lib.hid (UC.out.next hb2)
  clear hs hb hb2 hk
  go_wp2_with fail
  clear e1 e2
  (with_reducible refine (madeV UY.out.now).mono ?_)
  rintro e w3 ⟨b, b3, o3, c3, rfl, hs, hb⟩
  replace HU := Lib.hid (HU.out.next hb)
  replace UX := Lib.hid (UX.out.next hb)
  replace UY := Lib.hid (UY.out.next hb)
  replace UC := Lib.hid (UC.out.next hb)
  replace U2 := Lib.hid (U2.out.next hb)
  obtain ⟨x3, B3, e1, e2, hb2, hk⟩ := box1 w3 #[.slice (some ⟨b3, o3, none⟩) 24 c3] 25
  have U3 := Lib.hid (up_va (Sl.below hs (Nat.le_refl _) hb2) hk : Up x3 (VA B3 b3 o3 c3 (b)))
  replace HU := Lib.hid (HU.out.next hb2)
  replace UX := Lib.hid (UX.out.next hb2)
  replace UY := Lib.hid (UY.out.next hb2)
  replace UC := Lib.hid (UC.out.next hb2)
  replace U2 := Lib.hid (U2.out.next hb2)
  clear hs hb hb2 hk
  have hl0 := U2.out.now.cell
  have hl1 := U3.out.now.cell
  go_wp2_with fail
  clear e1 e2
  clear hl0 hl1
  (with_reducible refine (unionV U2.out.now.1 U3.out.now.1).mono ?_)
  rintro e w4 ⟨b4, o4, c4, rfl, hs, hb⟩
  replace HU := Lib.hid (HU.out.next hb)
  replace UX := Lib.hid (UX.out.next hb)
  replace UY := Lib.hid (UY.out.next hb)
  replace UC := Lib.hid (UC.out.next hb)
  replace U2 := Lib.hid (U2.out.next hb)
  replace U3 := Lib.hid (U3.out.next hb)
  obtain ⟨x4, B4, e1, e2, hb2, hk⟩ := box1 w4 #[.slice (some ⟨b4, o4, none⟩) 24 c4] 25
  have U4 := Lib.hid (up_va (Sl.below hs (Nat.le_refl _) hb2) hk : Up x4 (VA B4 b4 o4 c4 (orA a b)))
  replace HU := Lib.hid (HU.out.next hb2)
  replace UX := Lib.hid (UX.out.next hb2)
  replace UY := Lib.hid (UY.out.next hb2)
  replace UC := Lib.hid (UC.out.next hb2)
  replace U2 := Lib.hid (U2.out.next hb2)
  replace U3 := Lib.hid (U3.out.next hb2)
  clear hs hb hb2 hk
  have hl0 := U2.out.now.cell
  have hl1 := U3.out.now.cell
  go_wp2_with fail
  clear e1 e2
  clear hl0 hl1
  (with_reducible refine (meetV U2.out.now.1 U3.out.now.1).mono ?_)
  rintro e w5 ⟨b5, o5, c5, rfl, hs, hb⟩
  replace HU := Lib.hid (HU.out.next hb)
  replace UX := Lib.hid (UX.out.next hb)
  replace UY := Lib.hid (UY.out.next hb)
  replace UC := Lib.hid (UC.out.next hb)
  replace U2 := Lib.hid (U2.out.next hb)
  replace U3 := Lib.hid (U3.out.next hb)
  replace U4 := Lib.hid (U4.out.next hb)
  obtain ⟨x5, B5, e1, e2, hb2, hk⟩ := box1 w5 #[.slice (some ⟨b5, o5, none⟩) 24 c5] 25
  have U5 := Lib.hid (up_va (Sl.below hs (Nat.le_refl _) hb2) hk : Up x5 (VA B5 b5 o5 c5 (andA a b)))
  replace HU := Lib.hid (HU.out.next hb2)
  replace UX := Lib.hid (UX.out.next hb2)
  replace UY := Lib.hid (UY.out.next hb2)
  replace UC := Lib.hid (UC.out.next hb2)
  replace U2 := Lib.hid (U2.out.next hb2)
  replace U3 := Lib.hid (U3.out.next hb2)
  replace U4 := Lib.hid (U4.out.next hb2)
  clear hs hb hb2 hk
  have hl0 := U2.out.now.cell
  have hl1 := U3.out.now.cell
  go_wp2_with fail
  clear e1 e2
  clear hl0 hl1
  (with_reducible refine (lessV U2.out.now.1 U3.out.now.1).mono ?_)
  rintro e w6 ⟨b6, o6, c6, rfl, hs, hb⟩
  replace HU := Lib.hid (HU.out.next hb)
  replace UX := Lib.hid (UX.out.next hb)
  replace UY := Lib.hid (UY.out.next hb)
  replace UC := Lib.hid (UC.out.next hb)
  replace U2 := Lib.hid (U2.out.next hb)
  replace U3 := Lib.hid (U3.out.next hb)
  replace U4 := Lib.hid (U4.out.next hb)
  replace U5 := Lib.hid (U5.out.next hb)
  obtain ⟨x6, B6, e1, e2, hb2, hk⟩ := box1 w6 #[.slice (some ⟨b6, o6, none⟩) 24 c6] 25
  have U6 := Lib.hid (up_va (Sl.below hs (Nat.le_refl _) hb2) hk : Up x6 (VA B6 b6 o6 c6 (lessA a b)))
  replace HU := Lib.hid (HU.out.next hb2)
  replace UX := Lib.hid (UX.out.next hb2)
  replace UY := Lib.hid (UY.out.next hb2)
  replace UC := Lib.hid (UC.out.next hb2)
  replace U2 := Lib.hid (U2.out.next hb2)
  replace U3 := Lib.hid (U3.out.next hb2)
  replace U4 := Lib.hid (U4.out.next hb2)
  replace U5 := Lib.hid (U5.out.next hb2)
  clear hs hb hb2 hk
  have hl0 := (row_cell UC.out.now 0).trans (show _ = some (.int .i64 z0) from rfl)
  have hl1 := (row_cell UC.out.now 1).trans (show _ = some (.int .i64 z1) from rfl)
  go_wp2_with fail
  clear e1 e2
  clear hl0 hl1
  (with_reducible refine (PC.out _).mono ?_)
  rintro e w7 ⟨rfl, hb⟩
  replace HU := Lib.hid (HU.out.next hb)
  replace UX := Lib.hid (UX.out.next hb)
  replace UY := Lib.hid (UY.out.next hb)
  replace UC := Lib.hid (UC.out.next hb)
  replace U2 := Lib.hid (U2.out.next hb)
  replace U3 := Lib.hid (U3.out.next hb)
  replace U4 := Lib.hid (U4.out.next hb)
  replace U5 := Lib.hid (U5.out.next hb)
  replace U6 := Lib.hid (U6.out.next hb)
  obtain ⟨x7, B7, e1, e2, hb2, hk⟩ := box1 w7 #[.int .i64 (x : Int), .int .i64 (y : Int)] 27
  have U7 := Lib.hid (up_vr hk : Up x7 (VR B7 #[.int .i64 (x : Int), .int .i64 (y : Int)] 27))
  replace HU := Lib.hid (HU.out.next hb2)
  replace UX := Lib.hid (UX.out.next hb2)
  replace UY := Lib.hid (UY.out.next hb2)
  replace UC := Lib.hid (UC.out.next hb2)
  replace U2 := Lib.hid (U2.out.next hb2)
  replace U3 := Lib.hid (U3.out.next hb2)
  replace U4 := Lib.hid (U4.out.next hb2)
  replace U5 := Lib.hid (U5.out.next hb2)
  replace U6 := Lib.hid (U6.out.next hb2)
  clear hb hb2 hk
  obtain ⟨r, hr⟩ : ∃ r, a x y = r := ⟨_, rfl⟩
  obtain ⟨s, hs⟩ : ∃ s, b x y = s := ⟨_, rfl⟩
  replace hr := Lib.hid hr
  replace hs := Lib.hid hs
  rcases r with _ | _ <;> rcases s with _ | _
  · have hl0 := U2.out.now.cell
    have hl1 := (row_cell U7.out.now 0).trans (show _ = some (.int .i64 (x : Int)) from rfl)
    have hl2 := (row_cell U7.out.now 1).trans (show _ = some (.int .i64 (y : Int)) from rfl)
    go_wp2_with fail
    clear e1 e2
    clear hl0 hl1 hl2
    (with_reducible refine ((hasV x y hxy.out.1 hxy.out.2 U2.out.now.1).mono (OutV.as (congrArg Value.bool (show _ = false from hr.out)))).mono ?_)
    rintro e w8 ⟨rfl, hb⟩
    replace HU := Lib.hid (HU.out.next hb)
    replace UX := Lib.hid (UX.out.next hb)
    replace UY := Lib.hid (UY.out.next hb)
    replace UC := Lib.hid (UC.out.next hb)
    replace U2 := Lib.hid (U2.out.next hb)
    replace U3 := Lib.hid (U3.out.next hb)
    replace U4 := Lib.hid (U4.out.next hb)
    replace U5 := Lib.hid (U5.out.next hb)
    replace U6 := Lib.hid (U6.out.next hb)
    replace U7 := Lib.hid (U7.out.next hb)
    clear hb
    have hl0 := U3.out.now.cell
    have hl1 := (row_cell U7.out.now 0).trans (show _ = some (.int .i64 (x : Int)) from rfl)
    have hl2 := (row_cell U7.out.now 1).trans (show _ = some (.int .i64 (y : Int)) from rfl)
    go_wp2_with fail
    clear hl0 hl1 hl2
    (with_reducible refine ((hasV x y hxy.out.1 hxy.out.2 U3.out.now.1).mono (OutV.as (congrArg Value.bool (show _ = false from hs.out)))).mono ?_)
    rintro e w9 ⟨rfl, hb⟩
    replace HU := Lib.hid (HU.out.next hb)
    replace UX := Lib.hid (UX.out.next hb)
    replace UY := Lib.hid (UY.out.next hb)
    replace UC := Lib.hid (UC.out.next hb)
    replace U2 := Lib.hid (U2.out.next hb)
    replace U3 := Lib.hid (U3.out.next hb)
    replace U4 := Lib.hid (U4.out.next hb)
    replace U5 := Lib.hid (U5.out.next hb)
    replace U6 := Lib.hid (U6.out.next hb)
    replace U7 := Lib.hid (U7.out.next hb)
    clear hb
    have hl0 := U4.out.now.cell
    have hl1 := (row_cell U7.out.now 0).trans (show _ = some (.int .i64 (x : Int)) from rfl)
    have hl2 := (row_cell U7.out.now 1).trans (show _ = some (.int .i64 (y : Int)) from rfl)
    go_wp2_with fail
    clear hl0 hl1 hl2
    (with_reducible refine ((hasV x y hxy.out.1 hxy.out.2 U4.out.now.1).mono (OutV.as (congrArg Value.bool (show _ = false from se_has1 hr.out hs.out (by decide))))).mono ?_)
    rintro e w10 ⟨rfl, hb⟩
    replace HU := Lib.hid (HU.out.next hb)
    replace UX := Lib.hid (UX.out.next hb)
    replace UY := Lib.hid (UY.out.next hb)
    replace UC := Lib.hid (UC.out.next hb)
    replace U2 := Lib.hid (U2.out.next hb)
    replace U3 := Lib.hid (U3.out.next hb)
    replace U4 := Lib.hid (U4.out.next hb)
    replace U5 := Lib.hid (U5.out.next hb)
    replace U6 := Lib.hid (U6.out.next hb)
    replace U7 := Lib.hid (U7.out.next hb)
    clear hb
    have hl0 := U5.out.now.cell
    have hl1 := (row_cell U7.out.now 0).trans (show _ = some (.int .i64 (x : Int)) from rfl)
    have hl2 := (row_cell U7.out.now 1).trans (show _ = some (.int .i64 (y : Int)) from rfl)
    go_wp2_with fail
    clear hl0 hl1 hl2
    (with_reducible refine ((hasV x y hxy.out.1 hxy.out.2 U5.out.now.1).mono (OutV.as (congrArg Value.bool (show _ = false from se_has2 hr.out hs.out (by decide))))).mono ?_)
    rintro e w11 ⟨rfl, hb⟩
    replace HU := Lib.hid (HU.out.next hb)
    replace UX := Lib.hid (UX.out.next hb)
    replace UY := Lib.hid (UY.out.next hb)
    replace UC := Lib.hid (UC.out.next hb)
    replace U2 := Lib.hid (U2.out.next hb)
    replace U3 := Lib.hid (U3.out.next hb)
    replace U4 := Lib.hid (U4.out.next hb)
    replace U5 := Lib.hid (U5.out.next hb)
    replace U6 := Lib.hid (U6.out.next hb)
    replace U7 := Lib.hid (U7.out.next hb)
    clear hb
    have hl0 := U6.out.now.cell
    have hl1 := (row_cell U7.out.now 0).trans (show _ = some (.int .i64 (x : Int)) from rfl)
    have hl2 := (row_cell U7.out.now 1).trans (show _ = some (.int .i64 (y : Int)) from rfl)
    go_wp2_with fail
    clear hl0 hl1 hl2
    (with_reducible refine ((hasV x y hxy.out.1 hxy.out.2 U6.out.now.1).mono (OutV.as (congrArg Value.bool (show _ = false from se_has3 hr.out hs.out (by decide))))).mono ?_)
    rintro e w12 ⟨rfl, hb⟩
    replace HU := Lib.hid (HU.out.next hb)
    replace UX := Lib.hid (UX.out.next hb)
    replace UY := Lib.hid (UY.out.next hb)
    replace UC := Lib.hid (UC.out.next hb)
    replace U2 := Lib.hid (U2.out.next hb)
    replace U3 := Lib.hid (U3.out.next hb)
    replace U4 := Lib.hid (U4.out.next hb)
    replace U5 := Lib.hid (U5.out.next hb)
    replace U6 := Lib.hid (U6.out.next hb)
    replace U7 := Lib.hid (U7.out.next hb)
    clear hb
    go_wp2
    obtain ⟨ca, cb, cu, cm, cl, sab, eca, ecb, ecu, ecm, ecl, e1, e2, e3, e4⟩ := se_counts a b
    have EC := Lib.hid (show _ ∧ _ ∧ _ ∧ _ ∧ _ from ⟨eca, ecb, ecu, ecm, ecl⟩)
    clear eca ecb ecu ecm ecl
    obtain ⟨q, hq, hq2⟩ : ∃ q, (rowsOf (andA a b) == rowsOf b) = q ∧ ((cm : Int) == (cb : Int)) = q := ⟨_, e4, rfl⟩
    have HQ := Lib.hid hq
    clear hq e4
    have hd : Below w12.heap.size w12 w12.drew := (Below.refl _ _).drew
    replace HU := Lib.hid (HU.out.next hd)
    replace UX := Lib.hid (UX.out.next hd)
    replace UY := Lib.hid (UY.out.next hd)
    replace UC := Lib.hid (UC.out.next hd)
    replace U2 := Lib.hid (U2.out.next hd)
    replace U3 := Lib.hid (U3.out.next hd)
    replace U4 := Lib.hid (U4.out.next hd)
    replace U5 := Lib.hid (U5.out.next hd)
    replace U6 := Lib.hid (U6.out.next hd)
    replace U7 := Lib.hid (U7.out.next hd)
    clear hd
    refine wp_region_held_drew (S := fun w' => w'.cell? ⟨B2, 0, none⟩ = some (.slice (some ⟨b2, o2, none⟩) 24 c2) ∧ w'.cell? ⟨B3, 0, none⟩ = some (.slice (some ⟨b3, o3, none⟩) 24 c3) ∧ w'.cell? ⟨B4, 0, none⟩ = some (.slice (some ⟨b4, o4, none⟩) 24 c4) ∧ w'.cell? ⟨B5, 0, none⟩ = some (.slice (some ⟨b5, o5, none⟩) 24 c5) ∧ w'.cell? ⟨B6, 0, none⟩ = some (.slice (some ⟨b6, o6, none⟩) 24 c6)) (by kernel_rfl) ⟨U2.out.now.cell, U3.out.now.cell, U4.out.now.cell, U5.out.now.cell, U6.out.now.cell⟩ (fun hHeld => ?_)
    refine wpAnyH_take (i := 0) (oi := _) (v := ?_) rfl (by kernel_rfl) (by kernel_rfl) (by kernel_rfl) (fun _ _ _ h => h) (Or.inl ⟨by rfl, ?_⟩) (by assumption) ?_
    rotate_left 1
    · (intro w hSw; (try dsimp only at hSw); go_simp; try with_reducible rfl)
    try simp only [List.getElem_toArray, List.getElem_cons_zero, List.getElem_cons_succ, Act.put, List.setIfInBounds_toArray, List.set_cons_zero, List.set_cons_succ]
    refine wpAnyH_take (i := 1) (oi := _) (v := ?_) rfl (by kernel_rfl) (by kernel_rfl) (by kernel_rfl) (fun _ _ _ h => h) (Or.inl ⟨by rfl, ?_⟩) (by assumption) ?_
    rotate_left 1
    · (intro w hSw; (try dsimp only at hSw); go_simp; try with_reducible rfl)
    try simp only [List.getElem_toArray, List.getElem_cons_zero, List.getElem_cons_succ, Act.put, List.setIfInBounds_toArray, List.set_cons_zero, List.set_cons_succ]
    refine wpAnyH_take (i := 2) (oi := _) (v := ?_) rfl (by kernel_rfl) (by kernel_rfl) (by kernel_rfl) (fun _ _ _ h => h) (Or.inl ⟨by rfl, ?_⟩) (by assumption) ?_
    rotate_left 1
    · (intro w hSw; (try dsimp only at hSw); go_simp; try with_reducible rfl)
    try simp only [List.getElem_toArray, List.getElem_cons_zero, List.getElem_cons_succ, Act.put, List.setIfInBounds_toArray, List.set_cons_zero, List.set_cons_succ]
    refine wpAnyH_take (i := 4) (oi := _) (v := ?_) rfl (by kernel_rfl) (by kernel_rfl) (by kernel_rfl) (fun _ _ _ h => h) (Or.inl ⟨by rfl, ?_⟩) (by assumption) ?_
    rotate_left 1
    · (intro w hSw; (try dsimp only at hSw); go_simp; try with_reducible rfl)
    try simp only [List.getElem_toArray, List.getElem_cons_zero, List.getElem_cons_succ, Act.put, List.setIfInBounds_toArray, List.set_cons_zero, List.set_cons_succ]
    refine wpAnyH_take (i := 6) (oi := _) (v := ?_) rfl (by kernel_rfl) (by kernel_rfl) (by kernel_rfl) (fun _ _ _ h => h) (Or.inl ⟨by rfl, ?_⟩) (by assumption) ?_
    rotate_left 1
    · (intro w hSw; (try dsimp only at hSw); go_simp; try with_reducible rfl)
    try simp only [List.getElem_toArray, List.getElem_cons_zero, List.getElem_cons_succ, Act.put, List.setIfInBounds_toArray, List.set_cons_zero, List.set_cons_succ]
    refine wpAnyH_take (i := 9) (oi := _) (v := ?_) rfl (by kernel_rfl) (by kernel_rfl) (by kernel_rfl) (fun _ _ _ h => h) (Or.inl ⟨by rfl, ?_⟩) (by assumption) ?_
    rotate_left 1
    · (intro w hSw; (try dsimp only at hSw); go_simp; try with_reducible rfl)
    try simp only [List.getElem_toArray, List.getElem_cons_zero, List.getElem_cons_succ, Act.put, List.setIfInBounds_toArray, List.set_cons_zero, List.set_cons_succ]
    refine wpAnyH_ready (rs := [3]) (by kernel_rfl) (by simp) ?_
    refine AllReadyH.cons (o := _) rfl (fun K hK => ?_) AllReadyH.nil
    rw [if_pos (by kernel_rfl)]
    simp only [List.getElem_toArray, List.getElem_cons_zero, List.getElem_cons_succ]
    go_simp
    (with_reducible refine (s_count (n := cu) U4.out.now.1 (cu : Int) rfl EC.out.2.2.1).mono ?_)
    rintro e w13 ⟨rfl, hb⟩
    replace HU := Lib.hid (HU.out.next hb)
    replace UX := Lib.hid (UX.out.next hb)
    replace UY := Lib.hid (UY.out.next hb)
    replace UC := Lib.hid (UC.out.next hb)
    replace U2 := Lib.hid (U2.out.next hb)
    replace U3 := Lib.hid (U3.out.next hb)
    replace U4 := Lib.hid (U4.out.next hb)
    replace U5 := Lib.hid (U5.out.next hb)
    replace U6 := Lib.hid (U6.out.next hb)
    replace U7 := Lib.hid (U7.out.next hb)
    clear hb hHeld
    refine hK.out _ _ ⟨U2.out.now.cell, U3.out.now.cell, U4.out.now.cell, U5.out.now.cell, U6.out.now.cell⟩ (fun hHeld => ?_)
    clear hK K
    try simp only [List.getElem_toArray, List.getElem_cons_zero, List.getElem_cons_succ, Act.put, List.setIfInBounds_toArray, List.set_cons_zero, List.set_cons_succ]
    refine wpAnyH_ready (rs := [5]) (by kernel_rfl) (by simp) ?_
    refine AllReadyH.cons (o := _) rfl (fun K hK => ?_) AllReadyH.nil
    rw [if_pos (by kernel_rfl)]
    simp only [List.getElem_toArray, List.getElem_cons_zero, List.getElem_cons_succ]
    go_simp
    (with_reducible refine (s_count (n := ca) U2.out.now.1 (ca : Int) rfl EC.out.1).mono ?_)
    rintro e w14 ⟨rfl, hb⟩
    replace HU := Lib.hid (HU.out.next hb)
    replace UX := Lib.hid (UX.out.next hb)
    replace UY := Lib.hid (UY.out.next hb)
    replace UC := Lib.hid (UC.out.next hb)
    replace U2 := Lib.hid (U2.out.next hb)
    replace U3 := Lib.hid (U3.out.next hb)
    replace U4 := Lib.hid (U4.out.next hb)
    replace U5 := Lib.hid (U5.out.next hb)
    replace U6 := Lib.hid (U6.out.next hb)
    replace U7 := Lib.hid (U7.out.next hb)
    clear hb hHeld
    refine hK.out _ _ ⟨U2.out.now.cell, U3.out.now.cell, U4.out.now.cell, U5.out.now.cell, U6.out.now.cell⟩ (fun hHeld => ?_)
    clear hK K
    try simp only [List.getElem_toArray, List.getElem_cons_zero, List.getElem_cons_succ, Act.put, List.setIfInBounds_toArray, List.set_cons_zero, List.set_cons_succ]
    refine wpAnyH_ready (rs := [7]) (by kernel_rfl) (by simp) ?_
    refine AllReadyH.cons (o := _) rfl (fun K hK => ?_) AllReadyH.nil
    rw [if_pos (by kernel_rfl)]
    simp only [List.getElem_toArray, List.getElem_cons_zero, List.getElem_cons_succ]
    go_simp
    (with_reducible refine (s_count (n := cb) U3.out.now.1 (cb : Int) rfl EC.out.2.1).mono ?_)
    rintro e w15 ⟨rfl, hb⟩
    replace HU := Lib.hid (HU.out.next hb)
    replace UX := Lib.hid (UX.out.next hb)
    replace UY := Lib.hid (UY.out.next hb)
    replace UC := Lib.hid (UC.out.next hb)
    replace U2 := Lib.hid (U2.out.next hb)
    replace U3 := Lib.hid (U3.out.next hb)
    replace U4 := Lib.hid (U4.out.next hb)
    replace U5 := Lib.hid (U5.out.next hb)
    replace U6 := Lib.hid (U6.out.next hb)
    replace U7 := Lib.hid (U7.out.next hb)
    clear hb hHeld
    refine hK.out _ _ ⟨U2.out.now.cell, U3.out.now.cell, U4.out.now.cell, U5.out.now.cell, U6.out.now.cell⟩ (fun hHeld => ?_)
    clear hK K
    try simp only [List.getElem_toArray, List.getElem_cons_zero, List.getElem_cons_succ, Act.put, List.setIfInBounds_toArray, List.set_cons_zero, List.set_cons_succ]
    refine wpAnyH_take (i := 8) (oi := _) (v := ?_) rfl (by kernel_rfl) (by kernel_rfl) (by kernel_rfl) (fun _ _ _ h => h) (Or.inl ⟨by rfl, ?_⟩) (by assumption) ?_
    rotate_left 1
    · (intro w hSw; (try dsimp only at hSw); go_simp; try with_reducible rfl)
    try simp only [List.getElem_toArray, List.getElem_cons_zero, List.getElem_cons_succ, Act.put, List.setIfInBounds_toArray, List.set_cons_zero, List.set_cons_succ]
    refine wpAnyH_ready (rs := [10]) (by kernel_rfl) (by simp) ?_
    refine AllReadyH.cons (o := _) rfl (fun K hK => ?_) AllReadyH.nil
    rw [if_pos (by kernel_rfl)]
    simp only [List.getElem_toArray, List.getElem_cons_zero, List.getElem_cons_succ]
    go_simp
    (with_reducible refine (s_count (n := cm) U5.out.now.1 (cm : Int) rfl EC.out.2.2.2.1).mono ?_)
    rintro e w16 ⟨rfl, hb⟩
    replace HU := Lib.hid (HU.out.next hb)
    replace UX := Lib.hid (UX.out.next hb)
    replace UY := Lib.hid (UY.out.next hb)
    replace UC := Lib.hid (UC.out.next hb)
    replace U2 := Lib.hid (U2.out.next hb)
    replace U3 := Lib.hid (U3.out.next hb)
    replace U4 := Lib.hid (U4.out.next hb)
    replace U5 := Lib.hid (U5.out.next hb)
    replace U6 := Lib.hid (U6.out.next hb)
    replace U7 := Lib.hid (U7.out.next hb)
    clear hb hHeld
    refine hK.out _ _ ⟨U2.out.now.cell, U3.out.now.cell, U4.out.now.cell, U5.out.now.cell, U6.out.now.cell⟩ (fun hHeld => ?_)
    clear hK K
    try simp only [List.getElem_toArray, List.getElem_cons_zero, List.getElem_cons_succ, Act.put, List.setIfInBounds_toArray, List.set_cons_zero, List.set_cons_succ]
    refine wpAnyH_take (i := 11) (oi := _) (v := ?_) rfl (by kernel_rfl) (by kernel_rfl) (by kernel_rfl) (fun _ _ _ h => h) (Or.inl ⟨by rfl, ?_⟩) (by assumption) ?_
    rotate_left 1
    · (intro w hSw; (try dsimp only at hSw); go_simp; try with_reducible rfl)
    try simp only [List.getElem_toArray, List.getElem_cons_zero, List.getElem_cons_succ, Act.put, List.setIfInBounds_toArray, List.set_cons_zero, List.set_cons_succ]
    refine wpAnyH_take (i := 12) (oi := _) (v := ?_) rfl (by kernel_rfl) (by kernel_rfl) (by kernel_rfl) (fun _ _ _ h => h) (Or.inl ⟨by rfl, ?_⟩) (by assumption) ?_
    rotate_left 1
    · (intro w hSw; (try dsimp only at hSw); go_simp; try with_reducible rfl)
    try simp only [List.getElem_toArray, List.getElem_cons_zero, List.getElem_cons_succ, Act.put, List.setIfInBounds_toArray, List.set_cons_zero, List.set_cons_succ]
    refine wpAnyH_take (i := 13) (oi := _) (v := ?_) rfl (by kernel_rfl) (by kernel_rfl) (by kernel_rfl) (fun _ _ _ h => h) (Or.inl ⟨by rfl, ?_⟩) (by assumption) ?_
    rotate_left 1
    · (intro w hSw; (try dsimp only at hSw); go_simp; try with_reducible rfl)
    try simp only [List.getElem_toArray, List.getElem_cons_zero, List.getElem_cons_succ, Act.put, List.setIfInBounds_toArray, List.set_cons_zero, List.set_cons_succ]
    refine wpAnyH_take (i := 14) (oi := _) (v := ?_) rfl (by kernel_rfl) (by kernel_rfl) (by kernel_rfl) (fun _ _ _ h => h) (Or.inl ⟨by rfl, ?_⟩) (by assumption) ?_
    rotate_left 1
    · (intro w hSw; (try dsimp only at hSw); go_simp; try with_reducible rfl)
    try simp only [List.getElem_toArray, List.getElem_cons_zero, List.getElem_cons_succ, Act.put, List.setIfInBounds_toArray, List.set_cons_zero, List.set_cons_succ]
    refine wpAnyH_take (i := 15) (oi := _) (v := ?_) rfl (by kernel_rfl) (by kernel_rfl) (by kernel_rfl) (fun _ _ _ h => h) (Or.inl ⟨by rfl, ?_⟩) (by assumption) ?_
    rotate_left 1
    · (intro w hSw; (try dsimp only at hSw); go_simp; try with_reducible rfl)
    try simp only [List.getElem_toArray, List.getElem_cons_zero, List.getElem_cons_succ, Act.put, List.setIfInBounds_toArray, List.set_cons_zero, List.set_cons_succ]
    refine wpAnyH_take (i := 17) (oi := _) (v := ?_) rfl (by kernel_rfl) (by kernel_rfl) (by kernel_rfl) (fun _ _ _ h => h) (Or.inl ⟨by rfl, ?_⟩) (by assumption) ?_
    rotate_left 1
    · (intro w hSw; (try dsimp only at hSw); go_simp; try with_reducible rfl)
    try simp only [List.getElem_toArray, List.getElem_cons_zero, List.getElem_cons_succ, Act.put, List.setIfInBounds_toArray, List.set_cons_zero, List.set_cons_succ]
    refine wpAnyH_take (i := 19) (oi := _) (v := ?_) rfl (by kernel_rfl) (by kernel_rfl) (by kernel_rfl) (fun _ _ _ h => h) (Or.inl ⟨by rfl, ?_⟩) (by assumption) ?_
    rotate_left 1
    · (intro w hSw; (try dsimp only at hSw); go_simp; try with_reducible rfl)
    try simp only [List.getElem_toArray, List.getElem_cons_zero, List.getElem_cons_succ, Act.put, List.setIfInBounds_toArray, List.set_cons_zero, List.set_cons_succ]
    refine wpAnyH_ready (rs := [16]) (by kernel_rfl) (by simp) ?_
    refine AllReadyH.cons (o := _) rfl (fun K hK => ?_) AllReadyH.nil
    rw [if_pos (by kernel_rfl)]
    simp only [List.getElem_toArray, List.getElem_cons_zero, List.getElem_cons_succ]
    go_simp
    (with_reducible refine (s_count (n := cl) U6.out.now.1 (cl : Int) rfl EC.out.2.2.2.2).mono ?_)
    rintro e w17 ⟨rfl, hb⟩
    replace HU := Lib.hid (HU.out.next hb)
    replace UX := Lib.hid (UX.out.next hb)
    replace UY := Lib.hid (UY.out.next hb)
    replace UC := Lib.hid (UC.out.next hb)
    replace U2 := Lib.hid (U2.out.next hb)
    replace U3 := Lib.hid (U3.out.next hb)
    replace U4 := Lib.hid (U4.out.next hb)
    replace U5 := Lib.hid (U5.out.next hb)
    replace U6 := Lib.hid (U6.out.next hb)
    replace U7 := Lib.hid (U7.out.next hb)
    clear hb hHeld
    refine hK.out _ _ ⟨U2.out.now.cell, U3.out.now.cell, U4.out.now.cell, U5.out.now.cell, U6.out.now.cell⟩ (fun hHeld => ?_)
    clear hK K
    try simp only [List.getElem_toArray, List.getElem_cons_zero, List.getElem_cons_succ, Act.put, List.setIfInBounds_toArray, List.set_cons_zero, List.set_cons_succ]
    refine wpAnyH_ready (rs := [18]) (by kernel_rfl) (by simp) ?_
    refine AllReadyH.cons (o := _) rfl (fun K hK => ?_) AllReadyH.nil
    rw [if_pos (by kernel_rfl)]
    simp only [List.getElem_toArray, List.getElem_cons_zero, List.getElem_cons_succ]
    go_simp
    (with_reducible refine (s_count (n := ca) U2.out.now.1 (ca : Int) rfl EC.out.1).mono ?_)
    rintro e w18 ⟨rfl, hb⟩
    replace HU := Lib.hid (HU.out.next hb)
    replace UX := Lib.hid (UX.out.next hb)
    replace UY := Lib.hid (UY.out.next hb)
    replace UC := Lib.hid (UC.out.next hb)
    replace U2 := Lib.hid (U2.out.next hb)
    replace U3 := Lib.hid (U3.out.next hb)
    replace U4 := Lib.hid (U4.out.next hb)
    replace U5 := Lib.hid (U5.out.next hb)
    replace U6 := Lib.hid (U6.out.next hb)
    replace U7 := Lib.hid (U7.out.next hb)
    clear hb hHeld
    refine hK.out _ _ ⟨U2.out.now.cell, U3.out.now.cell, U4.out.now.cell, U5.out.now.cell, U6.out.now.cell⟩ (fun hHeld => ?_)
    clear hK K
    try simp only [List.getElem_toArray, List.getElem_cons_zero, List.getElem_cons_succ, Act.put, List.setIfInBounds_toArray, List.set_cons_zero, List.set_cons_succ]
    refine wpAnyH_ready (rs := [20]) (by kernel_rfl) (by simp) ?_
    refine AllReadyH.cons (o := _) rfl (fun K hK => ?_) AllReadyH.nil
    rw [if_pos (by kernel_rfl)]
    simp only [List.getElem_toArray, List.getElem_cons_zero, List.getElem_cons_succ]
    go_simp
    (with_reducible refine (s_count (n := cm) U5.out.now.1 (cm : Int) rfl EC.out.2.2.2.1).mono ?_)
    rintro e w19 ⟨rfl, hb⟩
    replace HU := Lib.hid (HU.out.next hb)
    replace UX := Lib.hid (UX.out.next hb)
    replace UY := Lib.hid (UY.out.next hb)
    replace UC := Lib.hid (UC.out.next hb)
    replace U2 := Lib.hid (U2.out.next hb)
    replace U3 := Lib.hid (U3.out.next hb)
    replace U4 := Lib.hid (U4.out.next hb)
    replace U5 := Lib.hid (U5.out.next hb)
    replace U6 := Lib.hid (U6.out.next hb)
    replace U7 := Lib.hid (U7.out.next hb)
    clear hb hHeld
    refine hK.out _ _ ⟨U2.out.now.cell, U3.out.now.cell, U4.out.now.cell, U5.out.now.cell, U6.out.now.cell⟩ (fun hHeld => ?_)
    clear hK K
    try simp only [List.getElem_toArray, List.getElem_cons_zero, List.getElem_cons_succ, Act.put, List.setIfInBounds_toArray, List.set_cons_zero, List.set_cons_succ]
    refine wpAnyH_take (i := 21) (oi := _) (v := ?_) rfl (by kernel_rfl) (by kernel_rfl) (by kernel_rfl) (fun _ _ _ h => h) (Or.inl ⟨by rfl, ?_⟩) (by assumption) ?_
    rotate_left 1
    · (intro w hSw; (try dsimp only at hSw); go_simp; try with_reducible rfl)
    try simp only [List.getElem_toArray, List.getElem_cons_zero, List.getElem_cons_succ, Act.put, List.setIfInBounds_toArray, List.set_cons_zero, List.set_cons_succ]
    refine wpAnyH_take (i := 22) (oi := _) (v := ?_) rfl (by kernel_rfl) (by kernel_rfl) (by kernel_rfl) (fun _ _ _ h => h) (Or.inl ⟨by rfl, ?_⟩) (by assumption) ?_
    rotate_left 1
    · (intro w hSw; (try dsimp only at hSw); go_simp; try with_reducible rfl)
    try simp only [List.getElem_toArray, List.getElem_cons_zero, List.getElem_cons_succ, Act.put, List.setIfInBounds_toArray, List.set_cons_zero, List.set_cons_succ]
    refine wpAnyH_take (i := 23) (oi := _) (v := ?_) rfl (by kernel_rfl) (by kernel_rfl) (by kernel_rfl) (fun _ _ _ h => h) (Or.inl ⟨by rfl, ?_⟩) (by assumption) ?_
    rotate_left 1
    · (intro w hSw; (try dsimp only at hSw); go_simp; try with_reducible rfl)
    try simp only [List.getElem_toArray, List.getElem_cons_zero, List.getElem_cons_succ, Act.put, List.setIfInBounds_toArray, List.set_cons_zero, List.set_cons_succ]
    refine wpAnyH_take (i := 24) (oi := _) (v := ?_) rfl (by kernel_rfl) (by kernel_rfl) (by kernel_rfl) (fun _ _ _ h => h) (Or.inl ⟨by rfl, ?_⟩) (by assumption) ?_
    rotate_left 1
    · (intro w hSw; (try dsimp only at hSw); go_simp; try with_reducible rfl)
    try simp only [List.getElem_toArray, List.getElem_cons_zero, List.getElem_cons_succ, Act.put, List.setIfInBounds_toArray, List.set_cons_zero, List.set_cons_succ]
    refine wpAnyH_take (i := 25) (oi := _) (v := ?_) rfl (by kernel_rfl) (by kernel_rfl) (by kernel_rfl) (fun _ _ _ h => h) (Or.inl ⟨by rfl, ?_⟩) (by assumption) ?_
    rotate_left 1
    · (intro w hSw; (try dsimp only at hSw); go_simp; try with_reducible rfl)
    try simp only [List.getElem_toArray, List.getElem_cons_zero, List.getElem_cons_succ, Act.put, List.setIfInBounds_toArray, List.set_cons_zero, List.set_cons_succ]
    refine wpAnyH_take (i := 26) (oi := _) (v := ?_) rfl (by kernel_rfl) (by kernel_rfl) (by kernel_rfl) (fun _ _ _ h => h) (Or.inl ⟨by rfl, ?_⟩) (by assumption) ?_
    rotate_left 1
    · (intro w hSw; (try dsimp only at hSw); go_simp; try with_reducible rfl)
    try simp only [List.getElem_toArray, List.getElem_cons_zero, List.getElem_cons_succ, Act.put, List.setIfInBounds_toArray, List.set_cons_zero, List.set_cons_succ]
    refine wpAnyH_take (i := 28) (oi := _) (v := ?_) rfl (by kernel_rfl) (by kernel_rfl) (by kernel_rfl) (fun _ _ _ h => h) (Or.inl ⟨by rfl, ?_⟩) (by assumption) ?_
    rotate_left 1
    · (intro w hSw; (try dsimp only at hSw); go_simp; try with_reducible rfl)
    try simp only [List.getElem_toArray, List.getElem_cons_zero, List.getElem_cons_succ, Act.put, List.setIfInBounds_toArray, List.set_cons_zero, List.set_cons_succ]
    refine wpAnyH_take (i := 30) (oi := _) (v := ?_) rfl (by kernel_rfl) (by kernel_rfl) (by kernel_rfl) (fun _ _ _ h => h) (Or.inl ⟨by rfl, ?_⟩) (by assumption) ?_
    rotate_left 1
    · (intro w hSw; (try dsimp only at hSw); go_simp; try with_reducible rfl)
    try simp only [List.getElem_toArray, List.getElem_cons_zero, List.getElem_cons_succ, Act.put, List.setIfInBounds_toArray, List.set_cons_zero, List.set_cons_succ]
    refine wpAnyH_ready (rs := [27]) (by kernel_rfl) (by simp) ?_
    refine AllReadyH.cons (o := _) rfl (fun K hK => ?_) AllReadyH.nil
    rw [if_pos (by kernel_rfl)]
    simp only [List.getElem_toArray, List.getElem_cons_zero, List.getElem_cons_succ]
    go_simp
    (with_reducible refine ((containsV U2.out.now.1 U3.out.now.1).mono (OutV.as (congrArg Value.bool HQ.out))).mono ?_)
    rintro e w20 ⟨rfl, hb⟩
    replace HU := Lib.hid (HU.out.next hb)
    replace UX := Lib.hid (UX.out.next hb)
    replace UY := Lib.hid (UY.out.next hb)
    replace UC := Lib.hid (UC.out.next hb)
    replace U2 := Lib.hid (U2.out.next hb)
    replace U3 := Lib.hid (U3.out.next hb)
    replace U4 := Lib.hid (U4.out.next hb)
    replace U5 := Lib.hid (U5.out.next hb)
    replace U6 := Lib.hid (U6.out.next hb)
    replace U7 := Lib.hid (U7.out.next hb)
    clear hb hHeld
    refine hK.out _ _ ⟨U2.out.now.cell, U3.out.now.cell, U4.out.now.cell, U5.out.now.cell, U6.out.now.cell⟩ (fun hHeld => ?_)
    clear hK K
    try simp only [List.getElem_toArray, List.getElem_cons_zero, List.getElem_cons_succ, Act.put, List.setIfInBounds_toArray, List.set_cons_zero, List.set_cons_succ]
    refine wpAnyH_ready (rs := [29]) (by kernel_rfl) (by simp) ?_
    refine AllReadyH.cons (o := _) rfl (fun K hK => ?_) AllReadyH.nil
    rw [if_pos (by kernel_rfl)]
    simp only [List.getElem_toArray, List.getElem_cons_zero, List.getElem_cons_succ]
    go_simp
    (with_reducible refine (s_count (n := cm) U5.out.now.1 (cm : Int) rfl EC.out.2.2.2.1).mono ?_)
    rintro e w21 ⟨rfl, hb⟩
    replace HU := Lib.hid (HU.out.next hb)
    replace UX := Lib.hid (UX.out.next hb)
    replace UY := Lib.hid (UY.out.next hb)
    replace UC := Lib.hid (UC.out.next hb)
    replace U2 := Lib.hid (U2.out.next hb)
    replace U3 := Lib.hid (U3.out.next hb)
    replace U4 := Lib.hid (U4.out.next hb)
    replace U5 := Lib.hid (U5.out.next hb)
    replace U6 := Lib.hid (U6.out.next hb)
    replace U7 := Lib.hid (U7.out.next hb)
    clear hb hHeld
    refine hK.out _ _ ⟨U2.out.now.cell, U3.out.now.cell, U4.out.now.cell, U5.out.now.cell, U6.out.now.cell⟩ (fun hHeld => ?_)
    clear hK K
    try simp only [List.getElem_toArray, List.getElem_cons_zero, List.getElem_cons_succ, Act.put, List.setIfInBounds_toArray, List.set_cons_zero, List.set_cons_succ]
    refine wpAnyH_ready (rs := [31]) (by kernel_rfl) (by simp) ?_
    refine AllReadyH.cons (o := _) rfl (fun K hK => ?_) AllReadyH.nil
    rw [if_pos (by kernel_rfl)]
    simp only [List.getElem_toArray, List.getElem_cons_zero, List.getElem_cons_succ]
    go_simp
    (with_reducible refine (s_count (n := cb) U3.out.now.1 (cb : Int) rfl EC.out.2.1).mono ?_)
    rintro e w22 ⟨rfl, hb⟩
    replace HU := Lib.hid (HU.out.next hb)
    replace UX := Lib.hid (UX.out.next hb)
    replace UY := Lib.hid (UY.out.next hb)
    replace UC := Lib.hid (UC.out.next hb)
    replace U2 := Lib.hid (U2.out.next hb)
    replace U3 := Lib.hid (U3.out.next hb)
    replace U4 := Lib.hid (U4.out.next hb)
    replace U5 := Lib.hid (U5.out.next hb)
    replace U6 := Lib.hid (U6.out.next hb)
    replace U7 := Lib.hid (U7.out.next hb)
    clear hb hHeld
    refine hK.out _ _ ⟨U2.out.now.cell, U3.out.now.cell, U4.out.now.cell, U5.out.now.cell, U6.out.now.cell⟩ (fun hHeld => ?_)
    clear hK K
    try simp only [List.getElem_toArray, List.getElem_cons_zero, List.getElem_cons_succ, Act.put, List.setIfInBounds_toArray, List.set_cons_zero, List.set_cons_succ]
    refine wpAnyH_take (i := 32) (oi := _) (v := ?_) rfl (by kernel_rfl) (by kernel_rfl) (by kernel_rfl) (fun _ _ _ h => h) (Or.inl ⟨by rfl, ?_⟩) (by assumption) ?_
    rotate_left 1
    · (intro w hSw; (try dsimp only at hSw); go_simp; try with_reducible rfl)
    try simp only [List.getElem_toArray, List.getElem_cons_zero, List.getElem_cons_succ, Act.put, List.setIfInBounds_toArray, List.set_cons_zero, List.set_cons_succ]
    refine wpAnyH_take (i := 33) (oi := _) (v := ?_) rfl (by kernel_rfl) (by kernel_rfl) (by kernel_rfl) (fun _ _ _ h => h) (Or.inl ⟨by rfl, ?_⟩) (by assumption) ?_
    rotate_left 1
    · (intro w hSw; (try dsimp only at hSw); go_simp; try with_reducible rfl)
    try simp only [List.getElem_toArray, List.getElem_cons_zero, List.getElem_cons_succ, Act.put, List.setIfInBounds_toArray, List.set_cons_zero, List.set_cons_succ]
    refine wpAnyH_take (i := 34) (oi := _) (v := ?_) rfl (by kernel_rfl) (by kernel_rfl) (by kernel_rfl) (fun _ _ _ h => h) (Or.inl ⟨by rfl, ?_⟩) (by assumption) ?_
    rotate_left 1
    · (intro w hSw; (try dsimp only at hSw); go_simp; try with_reducible rfl)
    try simp only [List.getElem_toArray, List.getElem_cons_zero, List.getElem_cons_succ, Act.put, List.setIfInBounds_toArray, List.set_cons_zero, List.set_cons_succ]
    refine wpAnyH_take (i := 35) (oi := _) (v := ?_) rfl (by kernel_rfl) (by kernel_rfl) (by kernel_rfl) (fun _ _ _ h => h) (Or.inl ⟨by rfl, ?_⟩) (by assumption) ?_
    rotate_left 1
    · (intro w hSw; (try dsimp only at hSw); go_simp; try with_reducible rfl)
    try simp only [List.getElem_toArray, List.getElem_cons_zero, List.getElem_cons_succ, Act.put, List.setIfInBounds_toArray, List.set_cons_zero, List.set_cons_succ]
    refine wpAnyH_take (i := 36) (oi := _) (v := ?_) rfl (by kernel_rfl) (by kernel_rfl) (by kernel_rfl) (fun _ _ _ h => h) (Or.inl ⟨by rfl, ?_⟩) (by assumption) ?_
    rotate_left 1
    · (intro w hSw; (try dsimp only at hSw); go_simp; try with_reducible rfl)
    try simp only [List.getElem_toArray, List.getElem_cons_zero, List.getElem_cons_succ, Act.put, List.setIfInBounds_toArray, List.set_cons_zero, List.set_cons_succ]
    refine wpAnyH_take (i := 37) (oi := _) (v := ?_) rfl (by kernel_rfl) (by kernel_rfl) (by kernel_rfl) (fun _ _ _ h => h) (Or.inl ⟨by rfl, ?_⟩) (by assumption) ?_
    rotate_left 1
    · (intro w hSw; (try dsimp only at hSw); go_simp; try with_reducible rfl)
    try simp only [List.getElem_toArray, List.getElem_cons_zero, List.getElem_cons_succ, Act.put, List.setIfInBounds_toArray, List.set_cons_zero, List.set_cons_succ]
    refine wpAnyH_ready (rs := [38]) (by kernel_rfl) (by simp) ?_
    refine AllReadyH.cons (o := _) rfl (fun K hK => ?_) AllReadyH.nil
    rw [if_pos (by kernel_rfl)]
    simp only [List.getElem_toArray, List.getElem_cons_zero, List.getElem_cons_succ]
    go_simp
    (with_reducible refine (containsY (se_ub a b) U4.out.now.1 U3.out.now.1).mono ?_)
    rintro e w23 ⟨rfl, hb⟩
    replace HU := Lib.hid (HU.out.next hb)
    replace UX := Lib.hid (UX.out.next hb)
    replace UY := Lib.hid (UY.out.next hb)
    replace UC := Lib.hid (UC.out.next hb)
    replace U2 := Lib.hid (U2.out.next hb)
    replace U3 := Lib.hid (U3.out.next hb)
    replace U4 := Lib.hid (U4.out.next hb)
    replace U5 := Lib.hid (U5.out.next hb)
    replace U6 := Lib.hid (U6.out.next hb)
    replace U7 := Lib.hid (U7.out.next hb)
    clear hb hHeld
    refine hK.out _ _ ⟨U2.out.now.cell, U3.out.now.cell, U4.out.now.cell, U5.out.now.cell, U6.out.now.cell⟩ (fun hHeld => ?_)
    clear hK K
    try simp only [List.getElem_toArray, List.getElem_cons_zero, List.getElem_cons_succ, Act.put, List.setIfInBounds_toArray, List.set_cons_zero, List.set_cons_succ]
    refine wpAnyH_take (i := 39) (oi := _) (v := ?_) rfl (by kernel_rfl) (by kernel_rfl) (by kernel_rfl) (fun _ _ _ h => h) (Or.inl ⟨by rfl, ?_⟩) (by assumption) ?_
    rotate_left 1
    · (intro w hSw; (try dsimp only at hSw); go_simp; try with_reducible rfl)
    try simp only [List.getElem_toArray, List.getElem_cons_zero, List.getElem_cons_succ, Act.put, List.setIfInBounds_toArray, List.set_cons_zero, List.set_cons_succ]
    refine wpAnyH_take (i := 40) (oi := _) (v := ?_) rfl (by kernel_rfl) (by kernel_rfl) (by kernel_rfl) (fun _ _ _ h => h) (Or.inl ⟨by rfl, ?_⟩) (by assumption) ?_
    rotate_left 1
    · (intro w hSw; (try dsimp only at hSw); go_simp; try with_reducible rfl)
    try simp only [List.getElem_toArray, List.getElem_cons_zero, List.getElem_cons_succ, Act.put, List.setIfInBounds_toArray, List.set_cons_zero, List.set_cons_succ]
    refine wpAnyH_take (i := 41) (oi := _) (v := ?_) rfl (by kernel_rfl) (by kernel_rfl) (by kernel_rfl) (fun _ _ _ h => h) (Or.inl ⟨by rfl, ?_⟩) (by assumption) ?_
    rotate_left 1
    · (intro w hSw; (try dsimp only at hSw); go_simp; try with_reducible rfl)
    try simp only [List.getElem_toArray, List.getElem_cons_zero, List.getElem_cons_succ, Act.put, List.setIfInBounds_toArray, List.set_cons_zero, List.set_cons_succ]
    refine wpAnyH_take (i := 42) (oi := _) (v := ?_) rfl (by kernel_rfl) (by kernel_rfl) (by kernel_rfl) (fun _ _ _ h => h) (Or.inl ⟨by rfl, ?_⟩) (by assumption) ?_
    rotate_left 1
    · (intro w hSw; (try dsimp only at hSw); go_simp; try with_reducible rfl)
    try simp only [List.getElem_toArray, List.getElem_cons_zero, List.getElem_cons_succ, Act.put, List.setIfInBounds_toArray, List.set_cons_zero, List.set_cons_succ]
    refine wpAnyH_ready (rs := [43]) (by kernel_rfl) (by simp) ?_
    refine AllReadyH.cons (o := _) rfl (fun K hK => ?_) AllReadyH.nil
    rw [if_pos (by kernel_rfl)]
    simp only [List.getElem_toArray, List.getElem_cons_zero, List.getElem_cons_succ]
    go_simp
    (with_reducible refine (containsY (se_bm a b) U3.out.now.1 U5.out.now.1).mono ?_)
    rintro e w24 ⟨rfl, hb⟩
    replace HU := Lib.hid (HU.out.next hb)
    replace UX := Lib.hid (UX.out.next hb)
    replace UY := Lib.hid (UY.out.next hb)
    replace UC := Lib.hid (UC.out.next hb)
    replace U2 := Lib.hid (U2.out.next hb)
    replace U3 := Lib.hid (U3.out.next hb)
    replace U4 := Lib.hid (U4.out.next hb)
    replace U5 := Lib.hid (U5.out.next hb)
    replace U6 := Lib.hid (U6.out.next hb)
    replace U7 := Lib.hid (U7.out.next hb)
    clear hb hHeld
    refine hK.out _ _ ⟨U2.out.now.cell, U3.out.now.cell, U4.out.now.cell, U5.out.now.cell, U6.out.now.cell⟩ (fun hHeld => ?_)
    clear hK K
    try simp only [List.getElem_toArray, List.getElem_cons_zero, List.getElem_cons_succ, Act.put, List.setIfInBounds_toArray, List.set_cons_zero, List.set_cons_succ]
    refine wpAnyH_take (i := 44) (oi := _) (v := ?_) rfl (by kernel_rfl) (by kernel_rfl) (by kernel_rfl) (fun _ _ _ h => h) (Or.inl ⟨by rfl, ?_⟩) (by assumption) ?_
    rotate_left 1
    · (intro w hSw; (try dsimp only at hSw); go_simp; try with_reducible rfl)
    try simp only [List.getElem_toArray, List.getElem_cons_zero, List.getElem_cons_succ, Act.put, List.setIfInBounds_toArray, List.set_cons_zero, List.set_cons_succ]
    refine wpAnyH_take (i := 45) (oi := _) (v := ?_) rfl (by kernel_rfl) (by kernel_rfl) (by kernel_rfl) (fun _ _ _ h => h) (Or.inl ⟨by rfl, ?_⟩) (by assumption) ?_
    rotate_left 1
    · (intro w hSw; (try dsimp only at hSw); go_simp; try with_reducible rfl)
    try simp only [List.getElem_toArray, List.getElem_cons_zero, List.getElem_cons_succ, Act.put, List.setIfInBounds_toArray, List.set_cons_zero, List.set_cons_succ]
    refine wpAnyH_done (by kernel_rfl) ?_ _
    clear e1 e2 e3 hq2
    go_wp2
    go_ret
    exact ⟨rfl, HU.out.now.1⟩
  · have hl0 := U2.out.now.cell
    have hl1 := (row_cell U7.out.now 0).trans (show _ = some (.int .i64 (x : Int)) from rfl)
    have hl2 := (row_cell U7.out.now 1).trans (show _ = some (.int .i64 (y : Int)) from rfl)
    go_wp2_with fail
    clear e1 e2
    clear hl0 hl1 hl2
    (with_reducible refine ((hasV x y hxy.out.1 hxy.out.2 U2.out.now.1).mono (OutV.as (congrArg Value.bool (show _ = false from hr.out)))).mono ?_)
    rintro e w8 ⟨rfl, hb⟩
    replace HU := Lib.hid (HU.out.next hb)
    replace UX := Lib.hid (UX.out.next hb)
    replace UY := Lib.hid (UY.out.next hb)
    replace UC := Lib.hid (UC.out.next hb)
    replace U2 := Lib.hid (U2.out.next hb)
    replace U3 := Lib.hid (U3.out.next hb)
    replace U4 := Lib.hid (U4.out.next hb)
    replace U5 := Lib.hid (U5.out.next hb)
    replace U6 := Lib.hid (U6.out.next hb)
    replace U7 := Lib.hid (U7.out.next hb)
    clear hb
    have hl0 := U3.out.now.cell
    have hl1 := (row_cell U7.out.now 0).trans (show _ = some (.int .i64 (x : Int)) from rfl)
    have hl2 := (row_cell U7.out.now 1).trans (show _ = some (.int .i64 (y : Int)) from rfl)
    go_wp2_with fail
    clear hl0 hl1 hl2
    (with_reducible refine ((hasV x y hxy.out.1 hxy.out.2 U3.out.now.1).mono (OutV.as (congrArg Value.bool (show _ = true from hs.out)))).mono ?_)
    rintro e w9 ⟨rfl, hb⟩
    replace HU := Lib.hid (HU.out.next hb)
    replace UX := Lib.hid (UX.out.next hb)
    replace UY := Lib.hid (UY.out.next hb)
    replace UC := Lib.hid (UC.out.next hb)
    replace U2 := Lib.hid (U2.out.next hb)
    replace U3 := Lib.hid (U3.out.next hb)
    replace U4 := Lib.hid (U4.out.next hb)
    replace U5 := Lib.hid (U5.out.next hb)
    replace U6 := Lib.hid (U6.out.next hb)
    replace U7 := Lib.hid (U7.out.next hb)
    clear hb
    have hl0 := U4.out.now.cell
    have hl1 := (row_cell U7.out.now 0).trans (show _ = some (.int .i64 (x : Int)) from rfl)
    have hl2 := (row_cell U7.out.now 1).trans (show _ = some (.int .i64 (y : Int)) from rfl)
    go_wp2_with fail
    clear hl0 hl1 hl2
    (with_reducible refine ((hasV x y hxy.out.1 hxy.out.2 U4.out.now.1).mono (OutV.as (congrArg Value.bool (show _ = true from se_has1 hr.out hs.out (by decide))))).mono ?_)
    rintro e w10 ⟨rfl, hb⟩
    replace HU := Lib.hid (HU.out.next hb)
    replace UX := Lib.hid (UX.out.next hb)
    replace UY := Lib.hid (UY.out.next hb)
    replace UC := Lib.hid (UC.out.next hb)
    replace U2 := Lib.hid (U2.out.next hb)
    replace U3 := Lib.hid (U3.out.next hb)
    replace U4 := Lib.hid (U4.out.next hb)
    replace U5 := Lib.hid (U5.out.next hb)
    replace U6 := Lib.hid (U6.out.next hb)
    replace U7 := Lib.hid (U7.out.next hb)
    clear hb
    have hl0 := U5.out.now.cell
    have hl1 := (row_cell U7.out.now 0).trans (show _ = some (.int .i64 (x : Int)) from rfl)
    have hl2 := (row_cell U7.out.now 1).trans (show _ = some (.int .i64 (y : Int)) from rfl)
    go_wp2_with fail
    clear hl0 hl1 hl2
    (with_reducible refine ((hasV x y hxy.out.1 hxy.out.2 U5.out.now.1).mono (OutV.as (congrArg Value.bool (show _ = false from se_has2 hr.out hs.out (by decide))))).mono ?_)
    rintro e w11 ⟨rfl, hb⟩
    replace HU := Lib.hid (HU.out.next hb)
    replace UX := Lib.hid (UX.out.next hb)
    replace UY := Lib.hid (UY.out.next hb)
    replace UC := Lib.hid (UC.out.next hb)
    replace U2 := Lib.hid (U2.out.next hb)
    replace U3 := Lib.hid (U3.out.next hb)
    replace U4 := Lib.hid (U4.out.next hb)
    replace U5 := Lib.hid (U5.out.next hb)
    replace U6 := Lib.hid (U6.out.next hb)
    replace U7 := Lib.hid (U7.out.next hb)
    clear hb
    have hl0 := U6.out.now.cell
    have hl1 := (row_cell U7.out.now 0).trans (show _ = some (.int .i64 (x : Int)) from rfl)
    have hl2 := (row_cell U7.out.now 1).trans (show _ = some (.int .i64 (y : Int)) from rfl)
    go_wp2_with fail
    clear hl0 hl1 hl2
    (with_reducible refine ((hasV x y hxy.out.1 hxy.out.2 U6.out.now.1).mono (OutV.as (congrArg Value.bool (show _ = false from se_has3 hr.out hs.out (by decide))))).mono ?_)
    rintro e w12 ⟨rfl, hb⟩
    replace HU := Lib.hid (HU.out.next hb)
    replace UX := Lib.hid (UX.out.next hb)
    replace UY := Lib.hid (UY.out.next hb)
    replace UC := Lib.hid (UC.out.next hb)
    replace U2 := Lib.hid (U2.out.next hb)
    replace U3 := Lib.hid (U3.out.next hb)
    replace U4 := Lib.hid (U4.out.next hb)
    replace U5 := Lib.hid (U5.out.next hb)
    replace U6 := Lib.hid (U6.out.next hb)
    replace U7 := Lib.hid (U7.out.next hb)
    clear hb
    go_wp2
    obtain ⟨ca, cb, cu, cm, cl, sab, eca, ecb, ecu, ecm, ecl, e1, e2, e3, e4⟩ := se_counts a b
    have EC := Lib.hid (show _ ∧ _ ∧ _ ∧ _ ∧ _ from ⟨eca, ecb, ecu, ecm, ecl⟩)
    clear eca ecb ecu ecm ecl
    obtain ⟨q, hq, hq2⟩ : ∃ q, (rowsOf (andA a b) == rowsOf b) = q ∧ ((cm : Int) == (cb : Int)) = q := ⟨_, e4, rfl⟩
    have HQ := Lib.hid hq
    clear hq e4
    have hd : Below w12.heap.size w12 w12.drew := (Below.refl _ _).drew
    replace HU := Lib.hid (HU.out.next hd)
    replace UX := Lib.hid (UX.out.next hd)
    replace UY := Lib.hid (UY.out.next hd)
    replace UC := Lib.hid (UC.out.next hd)
    replace U2 := Lib.hid (U2.out.next hd)
    replace U3 := Lib.hid (U3.out.next hd)
    replace U4 := Lib.hid (U4.out.next hd)
    replace U5 := Lib.hid (U5.out.next hd)
    replace U6 := Lib.hid (U6.out.next hd)
    replace U7 := Lib.hid (U7.out.next hd)
    clear hd
    refine wp_region_held_drew (S := fun w' => w'.cell? ⟨B2, 0, none⟩ = some (.slice (some ⟨b2, o2, none⟩) 24 c2) ∧ w'.cell? ⟨B3, 0, none⟩ = some (.slice (some ⟨b3, o3, none⟩) 24 c3) ∧ w'.cell? ⟨B4, 0, none⟩ = some (.slice (some ⟨b4, o4, none⟩) 24 c4) ∧ w'.cell? ⟨B5, 0, none⟩ = some (.slice (some ⟨b5, o5, none⟩) 24 c5) ∧ w'.cell? ⟨B6, 0, none⟩ = some (.slice (some ⟨b6, o6, none⟩) 24 c6)) (by kernel_rfl) ⟨U2.out.now.cell, U3.out.now.cell, U4.out.now.cell, U5.out.now.cell, U6.out.now.cell⟩ (fun hHeld => ?_)
    refine wpAnyH_take (i := 0) (oi := _) (v := ?_) rfl (by kernel_rfl) (by kernel_rfl) (by kernel_rfl) (fun _ _ _ h => h) (Or.inl ⟨by rfl, ?_⟩) (by assumption) ?_
    rotate_left 1
    · (intro w hSw; (try dsimp only at hSw); go_simp; try with_reducible rfl)
    try simp only [List.getElem_toArray, List.getElem_cons_zero, List.getElem_cons_succ, Act.put, List.setIfInBounds_toArray, List.set_cons_zero, List.set_cons_succ]
    refine wpAnyH_take (i := 1) (oi := _) (v := ?_) rfl (by kernel_rfl) (by kernel_rfl) (by kernel_rfl) (fun _ _ _ h => h) (Or.inl ⟨by rfl, ?_⟩) (by assumption) ?_
    rotate_left 1
    · (intro w hSw; (try dsimp only at hSw); go_simp; try with_reducible rfl)
    try simp only [List.getElem_toArray, List.getElem_cons_zero, List.getElem_cons_succ, Act.put, List.setIfInBounds_toArray, List.set_cons_zero, List.set_cons_succ]
    refine wpAnyH_take (i := 2) (oi := _) (v := ?_) rfl (by kernel_rfl) (by kernel_rfl) (by kernel_rfl) (fun _ _ _ h => h) (Or.inl ⟨by rfl, ?_⟩) (by assumption) ?_
    rotate_left 1
    · (intro w hSw; (try dsimp only at hSw); go_simp; try with_reducible rfl)
    try simp only [List.getElem_toArray, List.getElem_cons_zero, List.getElem_cons_succ, Act.put, List.setIfInBounds_toArray, List.set_cons_zero, List.set_cons_succ]
    refine wpAnyH_take (i := 4) (oi := _) (v := ?_) rfl (by kernel_rfl) (by kernel_rfl) (by kernel_rfl) (fun _ _ _ h => h) (Or.inl ⟨by rfl, ?_⟩) (by assumption) ?_
    rotate_left 1
    · (intro w hSw; (try dsimp only at hSw); go_simp; try with_reducible rfl)
    try simp only [List.getElem_toArray, List.getElem_cons_zero, List.getElem_cons_succ, Act.put, List.setIfInBounds_toArray, List.set_cons_zero, List.set_cons_succ]
    refine wpAnyH_take (i := 6) (oi := _) (v := ?_) rfl (by kernel_rfl) (by kernel_rfl) (by kernel_rfl) (fun _ _ _ h => h) (Or.inl ⟨by rfl, ?_⟩) (by assumption) ?_
    rotate_left 1
    · (intro w hSw; (try dsimp only at hSw); go_simp; try with_reducible rfl)
    try simp only [List.getElem_toArray, List.getElem_cons_zero, List.getElem_cons_succ, Act.put, List.setIfInBounds_toArray, List.set_cons_zero, List.set_cons_succ]
    refine wpAnyH_take (i := 9) (oi := _) (v := ?_) rfl (by kernel_rfl) (by kernel_rfl) (by kernel_rfl) (fun _ _ _ h => h) (Or.inl ⟨by rfl, ?_⟩) (by assumption) ?_
    rotate_left 1
    · (intro w hSw; (try dsimp only at hSw); go_simp; try with_reducible rfl)
    try simp only [List.getElem_toArray, List.getElem_cons_zero, List.getElem_cons_succ, Act.put, List.setIfInBounds_toArray, List.set_cons_zero, List.set_cons_succ]
    refine wpAnyH_ready (rs := [3]) (by kernel_rfl) (by simp) ?_
    refine AllReadyH.cons (o := _) rfl (fun K hK => ?_) AllReadyH.nil
    rw [if_pos (by kernel_rfl)]
    simp only [List.getElem_toArray, List.getElem_cons_zero, List.getElem_cons_succ]
    go_simp
    (with_reducible refine (s_count (n := cu) U4.out.now.1 (cu : Int) rfl EC.out.2.2.1).mono ?_)
    rintro e w13 ⟨rfl, hb⟩
    replace HU := Lib.hid (HU.out.next hb)
    replace UX := Lib.hid (UX.out.next hb)
    replace UY := Lib.hid (UY.out.next hb)
    replace UC := Lib.hid (UC.out.next hb)
    replace U2 := Lib.hid (U2.out.next hb)
    replace U3 := Lib.hid (U3.out.next hb)
    replace U4 := Lib.hid (U4.out.next hb)
    replace U5 := Lib.hid (U5.out.next hb)
    replace U6 := Lib.hid (U6.out.next hb)
    replace U7 := Lib.hid (U7.out.next hb)
    clear hb hHeld
    refine hK.out _ _ ⟨U2.out.now.cell, U3.out.now.cell, U4.out.now.cell, U5.out.now.cell, U6.out.now.cell⟩ (fun hHeld => ?_)
    clear hK K
    try simp only [List.getElem_toArray, List.getElem_cons_zero, List.getElem_cons_succ, Act.put, List.setIfInBounds_toArray, List.set_cons_zero, List.set_cons_succ]
    refine wpAnyH_ready (rs := [5]) (by kernel_rfl) (by simp) ?_
    refine AllReadyH.cons (o := _) rfl (fun K hK => ?_) AllReadyH.nil
    rw [if_pos (by kernel_rfl)]
    simp only [List.getElem_toArray, List.getElem_cons_zero, List.getElem_cons_succ]
    go_simp
    (with_reducible refine (s_count (n := ca) U2.out.now.1 (ca : Int) rfl EC.out.1).mono ?_)
    rintro e w14 ⟨rfl, hb⟩
    replace HU := Lib.hid (HU.out.next hb)
    replace UX := Lib.hid (UX.out.next hb)
    replace UY := Lib.hid (UY.out.next hb)
    replace UC := Lib.hid (UC.out.next hb)
    replace U2 := Lib.hid (U2.out.next hb)
    replace U3 := Lib.hid (U3.out.next hb)
    replace U4 := Lib.hid (U4.out.next hb)
    replace U5 := Lib.hid (U5.out.next hb)
    replace U6 := Lib.hid (U6.out.next hb)
    replace U7 := Lib.hid (U7.out.next hb)
    clear hb hHeld
    refine hK.out _ _ ⟨U2.out.now.cell, U3.out.now.cell, U4.out.now.cell, U5.out.now.cell, U6.out.now.cell⟩ (fun hHeld => ?_)
    clear hK K
    try simp only [List.getElem_toArray, List.getElem_cons_zero, List.getElem_cons_succ, Act.put, List.setIfInBounds_toArray, List.set_cons_zero, List.set_cons_succ]
    refine wpAnyH_ready (rs := [7]) (by kernel_rfl) (by simp) ?_
    refine AllReadyH.cons (o := _) rfl (fun K hK => ?_) AllReadyH.nil
    rw [if_pos (by kernel_rfl)]
    simp only [List.getElem_toArray, List.getElem_cons_zero, List.getElem_cons_succ]
    go_simp
    (with_reducible refine (s_count (n := cb) U3.out.now.1 (cb : Int) rfl EC.out.2.1).mono ?_)
    rintro e w15 ⟨rfl, hb⟩
    replace HU := Lib.hid (HU.out.next hb)
    replace UX := Lib.hid (UX.out.next hb)
    replace UY := Lib.hid (UY.out.next hb)
    replace UC := Lib.hid (UC.out.next hb)
    replace U2 := Lib.hid (U2.out.next hb)
    replace U3 := Lib.hid (U3.out.next hb)
    replace U4 := Lib.hid (U4.out.next hb)
    replace U5 := Lib.hid (U5.out.next hb)
    replace U6 := Lib.hid (U6.out.next hb)
    replace U7 := Lib.hid (U7.out.next hb)
    clear hb hHeld
    refine hK.out _ _ ⟨U2.out.now.cell, U3.out.now.cell, U4.out.now.cell, U5.out.now.cell, U6.out.now.cell⟩ (fun hHeld => ?_)
    clear hK K
    try simp only [List.getElem_toArray, List.getElem_cons_zero, List.getElem_cons_succ, Act.put, List.setIfInBounds_toArray, List.set_cons_zero, List.set_cons_succ]
    refine wpAnyH_take (i := 8) (oi := _) (v := ?_) rfl (by kernel_rfl) (by kernel_rfl) (by kernel_rfl) (fun _ _ _ h => h) (Or.inl ⟨by rfl, ?_⟩) (by assumption) ?_
    rotate_left 1
    · (intro w hSw; (try dsimp only at hSw); go_simp; try with_reducible rfl)
    try simp only [List.getElem_toArray, List.getElem_cons_zero, List.getElem_cons_succ, Act.put, List.setIfInBounds_toArray, List.set_cons_zero, List.set_cons_succ]
    refine wpAnyH_ready (rs := [10]) (by kernel_rfl) (by simp) ?_
    refine AllReadyH.cons (o := _) rfl (fun K hK => ?_) AllReadyH.nil
    rw [if_pos (by kernel_rfl)]
    simp only [List.getElem_toArray, List.getElem_cons_zero, List.getElem_cons_succ]
    go_simp
    (with_reducible refine (s_count (n := cm) U5.out.now.1 (cm : Int) rfl EC.out.2.2.2.1).mono ?_)
    rintro e w16 ⟨rfl, hb⟩
    replace HU := Lib.hid (HU.out.next hb)
    replace UX := Lib.hid (UX.out.next hb)
    replace UY := Lib.hid (UY.out.next hb)
    replace UC := Lib.hid (UC.out.next hb)
    replace U2 := Lib.hid (U2.out.next hb)
    replace U3 := Lib.hid (U3.out.next hb)
    replace U4 := Lib.hid (U4.out.next hb)
    replace U5 := Lib.hid (U5.out.next hb)
    replace U6 := Lib.hid (U6.out.next hb)
    replace U7 := Lib.hid (U7.out.next hb)
    clear hb hHeld
    refine hK.out _ _ ⟨U2.out.now.cell, U3.out.now.cell, U4.out.now.cell, U5.out.now.cell, U6.out.now.cell⟩ (fun hHeld => ?_)
    clear hK K
    try simp only [List.getElem_toArray, List.getElem_cons_zero, List.getElem_cons_succ, Act.put, List.setIfInBounds_toArray, List.set_cons_zero, List.set_cons_succ]
    refine wpAnyH_take (i := 11) (oi := _) (v := ?_) rfl (by kernel_rfl) (by kernel_rfl) (by kernel_rfl) (fun _ _ _ h => h) (Or.inl ⟨by rfl, ?_⟩) (by assumption) ?_
    rotate_left 1
    · (intro w hSw; (try dsimp only at hSw); go_simp; try with_reducible rfl)
    try simp only [List.getElem_toArray, List.getElem_cons_zero, List.getElem_cons_succ, Act.put, List.setIfInBounds_toArray, List.set_cons_zero, List.set_cons_succ]
    refine wpAnyH_take (i := 12) (oi := _) (v := ?_) rfl (by kernel_rfl) (by kernel_rfl) (by kernel_rfl) (fun _ _ _ h => h) (Or.inl ⟨by rfl, ?_⟩) (by assumption) ?_
    rotate_left 1
    · (intro w hSw; (try dsimp only at hSw); go_simp; try with_reducible rfl)
    try simp only [List.getElem_toArray, List.getElem_cons_zero, List.getElem_cons_succ, Act.put, List.setIfInBounds_toArray, List.set_cons_zero, List.set_cons_succ]
    refine wpAnyH_take (i := 13) (oi := _) (v := ?_) rfl (by kernel_rfl) (by kernel_rfl) (by kernel_rfl) (fun _ _ _ h => h) (Or.inl ⟨by rfl, ?_⟩) (by assumption) ?_
    rotate_left 1
    · (intro w hSw; (try dsimp only at hSw); go_simp; try with_reducible rfl)
    try simp only [List.getElem_toArray, List.getElem_cons_zero, List.getElem_cons_succ, Act.put, List.setIfInBounds_toArray, List.set_cons_zero, List.set_cons_succ]
    refine wpAnyH_take (i := 14) (oi := _) (v := ?_) rfl (by kernel_rfl) (by kernel_rfl) (by kernel_rfl) (fun _ _ _ h => h) (Or.inl ⟨by rfl, ?_⟩) (by assumption) ?_
    rotate_left 1
    · (intro w hSw; (try dsimp only at hSw); go_simp; try with_reducible rfl)
    try simp only [List.getElem_toArray, List.getElem_cons_zero, List.getElem_cons_succ, Act.put, List.setIfInBounds_toArray, List.set_cons_zero, List.set_cons_succ]
    refine wpAnyH_take (i := 15) (oi := _) (v := ?_) rfl (by kernel_rfl) (by kernel_rfl) (by kernel_rfl) (fun _ _ _ h => h) (Or.inl ⟨by rfl, ?_⟩) (by assumption) ?_
    rotate_left 1
    · (intro w hSw; (try dsimp only at hSw); go_simp; try with_reducible rfl)
    try simp only [List.getElem_toArray, List.getElem_cons_zero, List.getElem_cons_succ, Act.put, List.setIfInBounds_toArray, List.set_cons_zero, List.set_cons_succ]
    refine wpAnyH_take (i := 17) (oi := _) (v := ?_) rfl (by kernel_rfl) (by kernel_rfl) (by kernel_rfl) (fun _ _ _ h => h) (Or.inl ⟨by rfl, ?_⟩) (by assumption) ?_
    rotate_left 1
    · (intro w hSw; (try dsimp only at hSw); go_simp; try with_reducible rfl)
    try simp only [List.getElem_toArray, List.getElem_cons_zero, List.getElem_cons_succ, Act.put, List.setIfInBounds_toArray, List.set_cons_zero, List.set_cons_succ]
    refine wpAnyH_take (i := 19) (oi := _) (v := ?_) rfl (by kernel_rfl) (by kernel_rfl) (by kernel_rfl) (fun _ _ _ h => h) (Or.inl ⟨by rfl, ?_⟩) (by assumption) ?_
    rotate_left 1
    · (intro w hSw; (try dsimp only at hSw); go_simp; try with_reducible rfl)
    try simp only [List.getElem_toArray, List.getElem_cons_zero, List.getElem_cons_succ, Act.put, List.setIfInBounds_toArray, List.set_cons_zero, List.set_cons_succ]
    refine wpAnyH_ready (rs := [16]) (by kernel_rfl) (by simp) ?_
    refine AllReadyH.cons (o := _) rfl (fun K hK => ?_) AllReadyH.nil
    rw [if_pos (by kernel_rfl)]
    simp only [List.getElem_toArray, List.getElem_cons_zero, List.getElem_cons_succ]
    go_simp
    (with_reducible refine (s_count (n := cl) U6.out.now.1 (cl : Int) rfl EC.out.2.2.2.2).mono ?_)
    rintro e w17 ⟨rfl, hb⟩
    replace HU := Lib.hid (HU.out.next hb)
    replace UX := Lib.hid (UX.out.next hb)
    replace UY := Lib.hid (UY.out.next hb)
    replace UC := Lib.hid (UC.out.next hb)
    replace U2 := Lib.hid (U2.out.next hb)
    replace U3 := Lib.hid (U3.out.next hb)
    replace U4 := Lib.hid (U4.out.next hb)
    replace U5 := Lib.hid (U5.out.next hb)
    replace U6 := Lib.hid (U6.out.next hb)
    replace U7 := Lib.hid (U7.out.next hb)
    clear hb hHeld
    refine hK.out _ _ ⟨U2.out.now.cell, U3.out.now.cell, U4.out.now.cell, U5.out.now.cell, U6.out.now.cell⟩ (fun hHeld => ?_)
    clear hK K
    try simp only [List.getElem_toArray, List.getElem_cons_zero, List.getElem_cons_succ, Act.put, List.setIfInBounds_toArray, List.set_cons_zero, List.set_cons_succ]
    refine wpAnyH_ready (rs := [18]) (by kernel_rfl) (by simp) ?_
    refine AllReadyH.cons (o := _) rfl (fun K hK => ?_) AllReadyH.nil
    rw [if_pos (by kernel_rfl)]
    simp only [List.getElem_toArray, List.getElem_cons_zero, List.getElem_cons_succ]
    go_simp
    (with_reducible refine (s_count (n := ca) U2.out.now.1 (ca : Int) rfl EC.out.1).mono ?_)
    rintro e w18 ⟨rfl, hb⟩
    replace HU := Lib.hid (HU.out.next hb)
    replace UX := Lib.hid (UX.out.next hb)
    replace UY := Lib.hid (UY.out.next hb)
    replace UC := Lib.hid (UC.out.next hb)
    replace U2 := Lib.hid (U2.out.next hb)
    replace U3 := Lib.hid (U3.out.next hb)
    replace U4 := Lib.hid (U4.out.next hb)
    replace U5 := Lib.hid (U5.out.next hb)
    replace U6 := Lib.hid (U6.out.next hb)
    replace U7 := Lib.hid (U7.out.next hb)
    clear hb hHeld
    refine hK.out _ _ ⟨U2.out.now.cell, U3.out.now.cell, U4.out.now.cell, U5.out.now.cell, U6.out.now.cell⟩ (fun hHeld => ?_)
    clear hK K
    try simp only [List.getElem_toArray, List.getElem_cons_zero, List.getElem_cons_succ, Act.put, List.setIfInBounds_toArray, List.set_cons_zero, List.set_cons_succ]
    refine wpAnyH_ready (rs := [20]) (by kernel_rfl) (by simp) ?_
    refine AllReadyH.cons (o := _) rfl (fun K hK => ?_) AllReadyH.nil
    rw [if_pos (by kernel_rfl)]
    simp only [List.getElem_toArray, List.getElem_cons_zero, List.getElem_cons_succ]
    go_simp
    (with_reducible refine (s_count (n := cm) U5.out.now.1 (cm : Int) rfl EC.out.2.2.2.1).mono ?_)
    rintro e w19 ⟨rfl, hb⟩
    replace HU := Lib.hid (HU.out.next hb)
    replace UX := Lib.hid (UX.out.next hb)
    replace UY := Lib.hid (UY.out.next hb)
    replace UC := Lib.hid (UC.out.next hb)
    replace U2 := Lib.hid (U2.out.next hb)
    replace U3 := Lib.hid (U3.out.next hb)
    replace U4 := Lib.hid (U4.out.next hb)
    replace U5 := Lib.hid (U5.out.next hb)
    replace U6 := Lib.hid (U6.out.next hb)
    replace U7 := Lib.hid (U7.out.next hb)
    clear hb hHeld
    refine hK.out _ _ ⟨U2.out.now.cell, U3.out.now.cell, U4.out.now.cell, U5.out.now.cell, U6.out.now.cell⟩ (fun hHeld => ?_)
    clear hK K
    try simp only [List.getElem_toArray, List.getElem_cons_zero, List.getElem_cons_succ, Act.put, List.setIfInBounds_toArray, List.set_cons_zero, List.set_cons_succ]
    refine wpAnyH_take (i := 21) (oi := _) (v := ?_) rfl (by kernel_rfl) (by kernel_rfl) (by kernel_rfl) (fun _ _ _ h => h) (Or.inl ⟨by rfl, ?_⟩) (by assumption) ?_
    rotate_left 1
    · (intro w hSw; (try dsimp only at hSw); go_simp; try with_reducible rfl)
    try simp only [List.getElem_toArray, List.getElem_cons_zero, List.getElem_cons_succ, Act.put, List.setIfInBounds_toArray, List.set_cons_zero, List.set_cons_succ]
    refine wpAnyH_take (i := 22) (oi := _) (v := ?_) rfl (by kernel_rfl) (by kernel_rfl) (by kernel_rfl) (fun _ _ _ h => h) (Or.inl ⟨by rfl, ?_⟩) (by assumption) ?_
    rotate_left 1
    · (intro w hSw; (try dsimp only at hSw); go_simp; try with_reducible rfl)
    try simp only [List.getElem_toArray, List.getElem_cons_zero, List.getElem_cons_succ, Act.put, List.setIfInBounds_toArray, List.set_cons_zero, List.set_cons_succ]
    refine wpAnyH_take (i := 23) (oi := _) (v := ?_) rfl (by kernel_rfl) (by kernel_rfl) (by kernel_rfl) (fun _ _ _ h => h) (Or.inl ⟨by rfl, ?_⟩) (by assumption) ?_
    rotate_left 1
    · (intro w hSw; (try dsimp only at hSw); go_simp; try with_reducible rfl)
    try simp only [List.getElem_toArray, List.getElem_cons_zero, List.getElem_cons_succ, Act.put, List.setIfInBounds_toArray, List.set_cons_zero, List.set_cons_succ]
    refine wpAnyH_take (i := 24) (oi := _) (v := ?_) rfl (by kernel_rfl) (by kernel_rfl) (by kernel_rfl) (fun _ _ _ h => h) (Or.inl ⟨by rfl, ?_⟩) (by assumption) ?_
    rotate_left 1
    · (intro w hSw; (try dsimp only at hSw); go_simp; try with_reducible rfl)
    try simp only [List.getElem_toArray, List.getElem_cons_zero, List.getElem_cons_succ, Act.put, List.setIfInBounds_toArray, List.set_cons_zero, List.set_cons_succ]
    refine wpAnyH_take (i := 25) (oi := _) (v := ?_) rfl (by kernel_rfl) (by kernel_rfl) (by kernel_rfl) (fun _ _ _ h => h) (Or.inl ⟨by rfl, ?_⟩) (by assumption) ?_
    rotate_left 1
    · (intro w hSw; (try dsimp only at hSw); go_simp; try with_reducible rfl)
    try simp only [List.getElem_toArray, List.getElem_cons_zero, List.getElem_cons_succ, Act.put, List.setIfInBounds_toArray, List.set_cons_zero, List.set_cons_succ]
    refine wpAnyH_take (i := 26) (oi := _) (v := ?_) rfl (by kernel_rfl) (by kernel_rfl) (by kernel_rfl) (fun _ _ _ h => h) (Or.inl ⟨by rfl, ?_⟩) (by assumption) ?_
    rotate_left 1
    · (intro w hSw; (try dsimp only at hSw); go_simp; try with_reducible rfl)
    try simp only [List.getElem_toArray, List.getElem_cons_zero, List.getElem_cons_succ, Act.put, List.setIfInBounds_toArray, List.set_cons_zero, List.set_cons_succ]
    refine wpAnyH_take (i := 28) (oi := _) (v := ?_) rfl (by kernel_rfl) (by kernel_rfl) (by kernel_rfl) (fun _ _ _ h => h) (Or.inl ⟨by rfl, ?_⟩) (by assumption) ?_
    rotate_left 1
    · (intro w hSw; (try dsimp only at hSw); go_simp; try with_reducible rfl)
    try simp only [List.getElem_toArray, List.getElem_cons_zero, List.getElem_cons_succ, Act.put, List.setIfInBounds_toArray, List.set_cons_zero, List.set_cons_succ]
    refine wpAnyH_take (i := 30) (oi := _) (v := ?_) rfl (by kernel_rfl) (by kernel_rfl) (by kernel_rfl) (fun _ _ _ h => h) (Or.inl ⟨by rfl, ?_⟩) (by assumption) ?_
    rotate_left 1
    · (intro w hSw; (try dsimp only at hSw); go_simp; try with_reducible rfl)
    try simp only [List.getElem_toArray, List.getElem_cons_zero, List.getElem_cons_succ, Act.put, List.setIfInBounds_toArray, List.set_cons_zero, List.set_cons_succ]
    refine wpAnyH_ready (rs := [27]) (by kernel_rfl) (by simp) ?_
    refine AllReadyH.cons (o := _) rfl (fun K hK => ?_) AllReadyH.nil
    rw [if_pos (by kernel_rfl)]
    simp only [List.getElem_toArray, List.getElem_cons_zero, List.getElem_cons_succ]
    go_simp
    (with_reducible refine ((containsV U2.out.now.1 U3.out.now.1).mono (OutV.as (congrArg Value.bool HQ.out))).mono ?_)
    rintro e w20 ⟨rfl, hb⟩
    replace HU := Lib.hid (HU.out.next hb)
    replace UX := Lib.hid (UX.out.next hb)
    replace UY := Lib.hid (UY.out.next hb)
    replace UC := Lib.hid (UC.out.next hb)
    replace U2 := Lib.hid (U2.out.next hb)
    replace U3 := Lib.hid (U3.out.next hb)
    replace U4 := Lib.hid (U4.out.next hb)
    replace U5 := Lib.hid (U5.out.next hb)
    replace U6 := Lib.hid (U6.out.next hb)
    replace U7 := Lib.hid (U7.out.next hb)
    clear hb hHeld
    refine hK.out _ _ ⟨U2.out.now.cell, U3.out.now.cell, U4.out.now.cell, U5.out.now.cell, U6.out.now.cell⟩ (fun hHeld => ?_)
    clear hK K
    try simp only [List.getElem_toArray, List.getElem_cons_zero, List.getElem_cons_succ, Act.put, List.setIfInBounds_toArray, List.set_cons_zero, List.set_cons_succ]
    refine wpAnyH_ready (rs := [29]) (by kernel_rfl) (by simp) ?_
    refine AllReadyH.cons (o := _) rfl (fun K hK => ?_) AllReadyH.nil
    rw [if_pos (by kernel_rfl)]
    simp only [List.getElem_toArray, List.getElem_cons_zero, List.getElem_cons_succ]
    go_simp
    (with_reducible refine (s_count (n := cm) U5.out.now.1 (cm : Int) rfl EC.out.2.2.2.1).mono ?_)
    rintro e w21 ⟨rfl, hb⟩
    replace HU := Lib.hid (HU.out.next hb)
    replace UX := Lib.hid (UX.out.next hb)
    replace UY := Lib.hid (UY.out.next hb)
    replace UC := Lib.hid (UC.out.next hb)
    replace U2 := Lib.hid (U2.out.next hb)
    replace U3 := Lib.hid (U3.out.next hb)
    replace U4 := Lib.hid (U4.out.next hb)
    replace U5 := Lib.hid (U5.out.next hb)
    replace U6 := Lib.hid (U6.out.next hb)
    replace U7 := Lib.hid (U7.out.next hb)
    clear hb hHeld
    refine hK.out _ _ ⟨U2.out.now.cell, U3.out.now.cell, U4.out.now.cell, U5.out.now.cell, U6.out.now.cell⟩ (fun hHeld => ?_)
    clear hK K
    try simp only [List.getElem_toArray, List.getElem_cons_zero, List.getElem_cons_succ, Act.put, List.setIfInBounds_toArray, List.set_cons_zero, List.set_cons_succ]
    refine wpAnyH_ready (rs := [31]) (by kernel_rfl) (by simp) ?_
    refine AllReadyH.cons (o := _) rfl (fun K hK => ?_) AllReadyH.nil
    rw [if_pos (by kernel_rfl)]
    simp only [List.getElem_toArray, List.getElem_cons_zero, List.getElem_cons_succ]
    go_simp
    (with_reducible refine (s_count (n := cb) U3.out.now.1 (cb : Int) rfl EC.out.2.1).mono ?_)
    rintro e w22 ⟨rfl, hb⟩
    replace HU := Lib.hid (HU.out.next hb)
    replace UX := Lib.hid (UX.out.next hb)
    replace UY := Lib.hid (UY.out.next hb)
    replace UC := Lib.hid (UC.out.next hb)
    replace U2 := Lib.hid (U2.out.next hb)
    replace U3 := Lib.hid (U3.out.next hb)
    replace U4 := Lib.hid (U4.out.next hb)
    replace U5 := Lib.hid (U5.out.next hb)
    replace U6 := Lib.hid (U6.out.next hb)
    replace U7 := Lib.hid (U7.out.next hb)
    clear hb hHeld
    refine hK.out _ _ ⟨U2.out.now.cell, U3.out.now.cell, U4.out.now.cell, U5.out.now.cell, U6.out.now.cell⟩ (fun hHeld => ?_)
    clear hK K
    try simp only [List.getElem_toArray, List.getElem_cons_zero, List.getElem_cons_succ, Act.put, List.setIfInBounds_toArray, List.set_cons_zero, List.set_cons_succ]
    refine wpAnyH_take (i := 32) (oi := _) (v := ?_) rfl (by kernel_rfl) (by kernel_rfl) (by kernel_rfl) (fun _ _ _ h => h) (Or.inl ⟨by rfl, ?_⟩) (by assumption) ?_
    rotate_left 1
    · (intro w hSw; (try dsimp only at hSw); go_simp; try with_reducible rfl)
    try simp only [List.getElem_toArray, List.getElem_cons_zero, List.getElem_cons_succ, Act.put, List.setIfInBounds_toArray, List.set_cons_zero, List.set_cons_succ]
    refine wpAnyH_take (i := 33) (oi := _) (v := ?_) rfl (by kernel_rfl) (by kernel_rfl) (by kernel_rfl) (fun _ _ _ h => h) (Or.inl ⟨by rfl, ?_⟩) (by assumption) ?_
    rotate_left 1
    · (intro w hSw; (try dsimp only at hSw); go_simp; try with_reducible rfl)
    try simp only [List.getElem_toArray, List.getElem_cons_zero, List.getElem_cons_succ, Act.put, List.setIfInBounds_toArray, List.set_cons_zero, List.set_cons_succ]
    refine wpAnyH_take (i := 34) (oi := _) (v := ?_) rfl (by kernel_rfl) (by kernel_rfl) (by kernel_rfl) (fun _ _ _ h => h) (Or.inl ⟨by rfl, ?_⟩) (by assumption) ?_
    rotate_left 1
    · (intro w hSw; (try dsimp only at hSw); go_simp; try with_reducible rfl)
    try simp only [List.getElem_toArray, List.getElem_cons_zero, List.getElem_cons_succ, Act.put, List.setIfInBounds_toArray, List.set_cons_zero, List.set_cons_succ]
    refine wpAnyH_take (i := 35) (oi := _) (v := ?_) rfl (by kernel_rfl) (by kernel_rfl) (by kernel_rfl) (fun _ _ _ h => h) (Or.inl ⟨by rfl, ?_⟩) (by assumption) ?_
    rotate_left 1
    · (intro w hSw; (try dsimp only at hSw); go_simp; try with_reducible rfl)
    try simp only [List.getElem_toArray, List.getElem_cons_zero, List.getElem_cons_succ, Act.put, List.setIfInBounds_toArray, List.set_cons_zero, List.set_cons_succ]
    refine wpAnyH_take (i := 36) (oi := _) (v := ?_) rfl (by kernel_rfl) (by kernel_rfl) (by kernel_rfl) (fun _ _ _ h => h) (Or.inl ⟨by rfl, ?_⟩) (by assumption) ?_
    rotate_left 1
    · (intro w hSw; (try dsimp only at hSw); go_simp; try with_reducible rfl)
    try simp only [List.getElem_toArray, List.getElem_cons_zero, List.getElem_cons_succ, Act.put, List.setIfInBounds_toArray, List.set_cons_zero, List.set_cons_succ]
    refine wpAnyH_take (i := 37) (oi := _) (v := ?_) rfl (by kernel_rfl) (by kernel_rfl) (by kernel_rfl) (fun _ _ _ h => h) (Or.inl ⟨by rfl, ?_⟩) (by assumption) ?_
    rotate_left 1
    · (intro w hSw; (try dsimp only at hSw); go_simp; try with_reducible rfl)
    try simp only [List.getElem_toArray, List.getElem_cons_zero, List.getElem_cons_succ, Act.put, List.setIfInBounds_toArray, List.set_cons_zero, List.set_cons_succ]
    refine wpAnyH_ready (rs := [38]) (by kernel_rfl) (by simp) ?_
    refine AllReadyH.cons (o := _) rfl (fun K hK => ?_) AllReadyH.nil
    rw [if_pos (by kernel_rfl)]
    simp only [List.getElem_toArray, List.getElem_cons_zero, List.getElem_cons_succ]
    go_simp
    (with_reducible refine (containsY (se_ub a b) U4.out.now.1 U3.out.now.1).mono ?_)
    rintro e w23 ⟨rfl, hb⟩
    replace HU := Lib.hid (HU.out.next hb)
    replace UX := Lib.hid (UX.out.next hb)
    replace UY := Lib.hid (UY.out.next hb)
    replace UC := Lib.hid (UC.out.next hb)
    replace U2 := Lib.hid (U2.out.next hb)
    replace U3 := Lib.hid (U3.out.next hb)
    replace U4 := Lib.hid (U4.out.next hb)
    replace U5 := Lib.hid (U5.out.next hb)
    replace U6 := Lib.hid (U6.out.next hb)
    replace U7 := Lib.hid (U7.out.next hb)
    clear hb hHeld
    refine hK.out _ _ ⟨U2.out.now.cell, U3.out.now.cell, U4.out.now.cell, U5.out.now.cell, U6.out.now.cell⟩ (fun hHeld => ?_)
    clear hK K
    try simp only [List.getElem_toArray, List.getElem_cons_zero, List.getElem_cons_succ, Act.put, List.setIfInBounds_toArray, List.set_cons_zero, List.set_cons_succ]
    refine wpAnyH_take (i := 39) (oi := _) (v := ?_) rfl (by kernel_rfl) (by kernel_rfl) (by kernel_rfl) (fun _ _ _ h => h) (Or.inl ⟨by rfl, ?_⟩) (by assumption) ?_
    rotate_left 1
    · (intro w hSw; (try dsimp only at hSw); go_simp; try with_reducible rfl)
    try simp only [List.getElem_toArray, List.getElem_cons_zero, List.getElem_cons_succ, Act.put, List.setIfInBounds_toArray, List.set_cons_zero, List.set_cons_succ]
    refine wpAnyH_take (i := 40) (oi := _) (v := ?_) rfl (by kernel_rfl) (by kernel_rfl) (by kernel_rfl) (fun _ _ _ h => h) (Or.inl ⟨by rfl, ?_⟩) (by assumption) ?_
    rotate_left 1
    · (intro w hSw; (try dsimp only at hSw); go_simp; try with_reducible rfl)
    try simp only [List.getElem_toArray, List.getElem_cons_zero, List.getElem_cons_succ, Act.put, List.setIfInBounds_toArray, List.set_cons_zero, List.set_cons_succ]
    refine wpAnyH_take (i := 41) (oi := _) (v := ?_) rfl (by kernel_rfl) (by kernel_rfl) (by kernel_rfl) (fun _ _ _ h => h) (Or.inl ⟨by rfl, ?_⟩) (by assumption) ?_
    rotate_left 1
    · (intro w hSw; (try dsimp only at hSw); go_simp; try with_reducible rfl)
    try simp only [List.getElem_toArray, List.getElem_cons_zero, List.getElem_cons_succ, Act.put, List.setIfInBounds_toArray, List.set_cons_zero, List.set_cons_succ]
    refine wpAnyH_take (i := 42) (oi := _) (v := ?_) rfl (by kernel_rfl) (by kernel_rfl) (by kernel_rfl) (fun _ _ _ h => h) (Or.inl ⟨by rfl, ?_⟩) (by assumption) ?_
    rotate_left 1
    · (intro w hSw; (try dsimp only at hSw); go_simp; try with_reducible rfl)
    try simp only [List.getElem_toArray, List.getElem_cons_zero, List.getElem_cons_succ, Act.put, List.setIfInBounds_toArray, List.set_cons_zero, List.set_cons_succ]
    refine wpAnyH_ready (rs := [43]) (by kernel_rfl) (by simp) ?_
    refine AllReadyH.cons (o := _) rfl (fun K hK => ?_) AllReadyH.nil
    rw [if_pos (by kernel_rfl)]
    simp only [List.getElem_toArray, List.getElem_cons_zero, List.getElem_cons_succ]
    go_simp
    (with_reducible refine (containsY (se_bm a b) U3.out.now.1 U5.out.now.1).mono ?_)
    rintro e w24 ⟨rfl, hb⟩
    replace HU := Lib.hid (HU.out.next hb)
    replace UX := Lib.hid (UX.out.next hb)
    replace UY := Lib.hid (UY.out.next hb)
    replace UC := Lib.hid (UC.out.next hb)
    replace U2 := Lib.hid (U2.out.next hb)
    replace U3 := Lib.hid (U3.out.next hb)
    replace U4 := Lib.hid (U4.out.next hb)
    replace U5 := Lib.hid (U5.out.next hb)
    replace U6 := Lib.hid (U6.out.next hb)
    replace U7 := Lib.hid (U7.out.next hb)
    clear hb hHeld
    refine hK.out _ _ ⟨U2.out.now.cell, U3.out.now.cell, U4.out.now.cell, U5.out.now.cell, U6.out.now.cell⟩ (fun hHeld => ?_)
    clear hK K
    try simp only [List.getElem_toArray, List.getElem_cons_zero, List.getElem_cons_succ, Act.put, List.setIfInBounds_toArray, List.set_cons_zero, List.set_cons_succ]
    refine wpAnyH_take (i := 44) (oi := _) (v := ?_) rfl (by kernel_rfl) (by kernel_rfl) (by kernel_rfl) (fun _ _ _ h => h) (Or.inl ⟨by rfl, ?_⟩) (by assumption) ?_
    rotate_left 1
    · (intro w hSw; (try dsimp only at hSw); go_simp; try with_reducible rfl)
    try simp only [List.getElem_toArray, List.getElem_cons_zero, List.getElem_cons_succ, Act.put, List.setIfInBounds_toArray, List.set_cons_zero, List.set_cons_succ]
    refine wpAnyH_take (i := 45) (oi := _) (v := ?_) rfl (by kernel_rfl) (by kernel_rfl) (by kernel_rfl) (fun _ _ _ h => h) (Or.inl ⟨by rfl, ?_⟩) (by assumption) ?_
    rotate_left 1
    · (intro w hSw; (try dsimp only at hSw); go_simp; try with_reducible rfl)
    try simp only [List.getElem_toArray, List.getElem_cons_zero, List.getElem_cons_succ, Act.put, List.setIfInBounds_toArray, List.set_cons_zero, List.set_cons_succ]
    refine wpAnyH_done (by kernel_rfl) ?_ _
    clear e1 e2 e3 hq2
    go_wp2
    go_ret
    exact ⟨rfl, HU.out.now.1⟩
  · have hl0 := U2.out.now.cell
    have hl1 := (row_cell U7.out.now 0).trans (show _ = some (.int .i64 (x : Int)) from rfl)
    have hl2 := (row_cell U7.out.now 1).trans (show _ = some (.int .i64 (y : Int)) from rfl)
    go_wp2_with fail
    clear e1 e2
    clear hl0 hl1 hl2
    (with_reducible refine ((hasV x y hxy.out.1 hxy.out.2 U2.out.now.1).mono (OutV.as (congrArg Value.bool (show _ = true from hr.out)))).mono ?_)
    rintro e w8 ⟨rfl, hb⟩
    replace HU := Lib.hid (HU.out.next hb)
    replace UX := Lib.hid (UX.out.next hb)
    replace UY := Lib.hid (UY.out.next hb)
    replace UC := Lib.hid (UC.out.next hb)
    replace U2 := Lib.hid (U2.out.next hb)
    replace U3 := Lib.hid (U3.out.next hb)
    replace U4 := Lib.hid (U4.out.next hb)
    replace U5 := Lib.hid (U5.out.next hb)
    replace U6 := Lib.hid (U6.out.next hb)
    replace U7 := Lib.hid (U7.out.next hb)
    clear hb
    have hl0 := U3.out.now.cell
    have hl1 := (row_cell U7.out.now 0).trans (show _ = some (.int .i64 (x : Int)) from rfl)
    have hl2 := (row_cell U7.out.now 1).trans (show _ = some (.int .i64 (y : Int)) from rfl)
    go_wp2_with fail
    clear hl0 hl1 hl2
    (with_reducible refine ((hasV x y hxy.out.1 hxy.out.2 U3.out.now.1).mono (OutV.as (congrArg Value.bool (show _ = false from hs.out)))).mono ?_)
    rintro e w9 ⟨rfl, hb⟩
    replace HU := Lib.hid (HU.out.next hb)
    replace UX := Lib.hid (UX.out.next hb)
    replace UY := Lib.hid (UY.out.next hb)
    replace UC := Lib.hid (UC.out.next hb)
    replace U2 := Lib.hid (U2.out.next hb)
    replace U3 := Lib.hid (U3.out.next hb)
    replace U4 := Lib.hid (U4.out.next hb)
    replace U5 := Lib.hid (U5.out.next hb)
    replace U6 := Lib.hid (U6.out.next hb)
    replace U7 := Lib.hid (U7.out.next hb)
    clear hb
    have hl0 := U4.out.now.cell
    have hl1 := (row_cell U7.out.now 0).trans (show _ = some (.int .i64 (x : Int)) from rfl)
    have hl2 := (row_cell U7.out.now 1).trans (show _ = some (.int .i64 (y : Int)) from rfl)
    go_wp2_with fail
    clear hl0 hl1 hl2
    (with_reducible refine ((hasV x y hxy.out.1 hxy.out.2 U4.out.now.1).mono (OutV.as (congrArg Value.bool (show _ = true from se_has1 hr.out hs.out (by decide))))).mono ?_)
    rintro e w10 ⟨rfl, hb⟩
    replace HU := Lib.hid (HU.out.next hb)
    replace UX := Lib.hid (UX.out.next hb)
    replace UY := Lib.hid (UY.out.next hb)
    replace UC := Lib.hid (UC.out.next hb)
    replace U2 := Lib.hid (U2.out.next hb)
    replace U3 := Lib.hid (U3.out.next hb)
    replace U4 := Lib.hid (U4.out.next hb)
    replace U5 := Lib.hid (U5.out.next hb)
    replace U6 := Lib.hid (U6.out.next hb)
    replace U7 := Lib.hid (U7.out.next hb)
    clear hb
    have hl0 := U5.out.now.cell
    have hl1 := (row_cell U7.out.now 0).trans (show _ = some (.int .i64 (x : Int)) from rfl)
    have hl2 := (row_cell U7.out.now 1).trans (show _ = some (.int .i64 (y : Int)) from rfl)
    go_wp2_with fail
    clear hl0 hl1 hl2
    (with_reducible refine ((hasV x y hxy.out.1 hxy.out.2 U5.out.now.1).mono (OutV.as (congrArg Value.bool (show _ = false from se_has2 hr.out hs.out (by decide))))).mono ?_)
    rintro e w11 ⟨rfl, hb⟩
    replace HU := Lib.hid (HU.out.next hb)
    replace UX := Lib.hid (UX.out.next hb)
    replace UY := Lib.hid (UY.out.next hb)
    replace UC := Lib.hid (UC.out.next hb)
    replace U2 := Lib.hid (U2.out.next hb)
    replace U3 := Lib.hid (U3.out.next hb)
    replace U4 := Lib.hid (U4.out.next hb)
    replace U5 := Lib.hid (U5.out.next hb)
    replace U6 := Lib.hid (U6.out.next hb)
    replace U7 := Lib.hid (U7.out.next hb)
    clear hb
    have hl0 := U6.out.now.cell
    have hl1 := (row_cell U7.out.now 0).trans (show _ = some (.int .i64 (x : Int)) from rfl)
    have hl2 := (row_cell U7.out.now 1).trans (show _ = some (.int .i64 (y : Int)) from rfl)
    go_wp2_with fail
    clear hl0 hl1 hl2
    (with_reducible refine ((hasV x y hxy.out.1 hxy.out.2 U6.out.now.1).mono (OutV.as (congrArg Value.bool (show _ = true from se_has3 hr.out hs.out (by decide))))).mono ?_)
    rintro e w12 ⟨rfl, hb⟩
    replace HU := Lib.hid (HU.out.next hb)
    replace UX := Lib.hid (UX.out.next hb)
    replace UY := Lib.hid (UY.out.next hb)
    replace UC := Lib.hid (UC.out.next hb)
    replace U2 := Lib.hid (U2.out.next hb)
    replace U3 := Lib.hid (U3.out.next hb)
    replace U4 := Lib.hid (U4.out.next hb)
    replace U5 := Lib.hid (U5.out.next hb)
    replace U6 := Lib.hid (U6.out.next hb)
    replace U7 := Lib.hid (U7.out.next hb)
    clear hb
    go_wp2
    obtain ⟨ca, cb, cu, cm, cl, sab, eca, ecb, ecu, ecm, ecl, e1, e2, e3, e4⟩ := se_counts a b
    have EC := Lib.hid (show _ ∧ _ ∧ _ ∧ _ ∧ _ from ⟨eca, ecb, ecu, ecm, ecl⟩)
    clear eca ecb ecu ecm ecl
    obtain ⟨q, hq, hq2⟩ : ∃ q, (rowsOf (andA a b) == rowsOf b) = q ∧ ((cm : Int) == (cb : Int)) = q := ⟨_, e4, rfl⟩
    have HQ := Lib.hid hq
    clear hq e4
    have hd : Below w12.heap.size w12 w12.drew := (Below.refl _ _).drew
    replace HU := Lib.hid (HU.out.next hd)
    replace UX := Lib.hid (UX.out.next hd)
    replace UY := Lib.hid (UY.out.next hd)
    replace UC := Lib.hid (UC.out.next hd)
    replace U2 := Lib.hid (U2.out.next hd)
    replace U3 := Lib.hid (U3.out.next hd)
    replace U4 := Lib.hid (U4.out.next hd)
    replace U5 := Lib.hid (U5.out.next hd)
    replace U6 := Lib.hid (U6.out.next hd)
    replace U7 := Lib.hid (U7.out.next hd)
    clear hd
    refine wp_region_held_drew (S := fun w' => w'.cell? ⟨B2, 0, none⟩ = some (.slice (some ⟨b2, o2, none⟩) 24 c2) ∧ w'.cell? ⟨B3, 0, none⟩ = some (.slice (some ⟨b3, o3, none⟩) 24 c3) ∧ w'.cell? ⟨B4, 0, none⟩ = some (.slice (some ⟨b4, o4, none⟩) 24 c4) ∧ w'.cell? ⟨B5, 0, none⟩ = some (.slice (some ⟨b5, o5, none⟩) 24 c5) ∧ w'.cell? ⟨B6, 0, none⟩ = some (.slice (some ⟨b6, o6, none⟩) 24 c6)) (by kernel_rfl) ⟨U2.out.now.cell, U3.out.now.cell, U4.out.now.cell, U5.out.now.cell, U6.out.now.cell⟩ (fun hHeld => ?_)
    refine wpAnyH_take (i := 0) (oi := _) (v := ?_) rfl (by kernel_rfl) (by kernel_rfl) (by kernel_rfl) (fun _ _ _ h => h) (Or.inl ⟨by rfl, ?_⟩) (by assumption) ?_
    rotate_left 1
    · (intro w hSw; (try dsimp only at hSw); go_simp; try with_reducible rfl)
    try simp only [List.getElem_toArray, List.getElem_cons_zero, List.getElem_cons_succ, Act.put, List.setIfInBounds_toArray, List.set_cons_zero, List.set_cons_succ]
    refine wpAnyH_take (i := 1) (oi := _) (v := ?_) rfl (by kernel_rfl) (by kernel_rfl) (by kernel_rfl) (fun _ _ _ h => h) (Or.inl ⟨by rfl, ?_⟩) (by assumption) ?_
    rotate_left 1
    · (intro w hSw; (try dsimp only at hSw); go_simp; try with_reducible rfl)
    try simp only [List.getElem_toArray, List.getElem_cons_zero, List.getElem_cons_succ, Act.put, List.setIfInBounds_toArray, List.set_cons_zero, List.set_cons_succ]
    refine wpAnyH_take (i := 2) (oi := _) (v := ?_) rfl (by kernel_rfl) (by kernel_rfl) (by kernel_rfl) (fun _ _ _ h => h) (Or.inl ⟨by rfl, ?_⟩) (by assumption) ?_
    rotate_left 1
    · (intro w hSw; (try dsimp only at hSw); go_simp; try with_reducible rfl)
    try simp only [List.getElem_toArray, List.getElem_cons_zero, List.getElem_cons_succ, Act.put, List.setIfInBounds_toArray, List.set_cons_zero, List.set_cons_succ]
    refine wpAnyH_take (i := 4) (oi := _) (v := ?_) rfl (by kernel_rfl) (by kernel_rfl) (by kernel_rfl) (fun _ _ _ h => h) (Or.inl ⟨by rfl, ?_⟩) (by assumption) ?_
    rotate_left 1
    · (intro w hSw; (try dsimp only at hSw); go_simp; try with_reducible rfl)
    try simp only [List.getElem_toArray, List.getElem_cons_zero, List.getElem_cons_succ, Act.put, List.setIfInBounds_toArray, List.set_cons_zero, List.set_cons_succ]
    refine wpAnyH_take (i := 6) (oi := _) (v := ?_) rfl (by kernel_rfl) (by kernel_rfl) (by kernel_rfl) (fun _ _ _ h => h) (Or.inl ⟨by rfl, ?_⟩) (by assumption) ?_
    rotate_left 1
    · (intro w hSw; (try dsimp only at hSw); go_simp; try with_reducible rfl)
    try simp only [List.getElem_toArray, List.getElem_cons_zero, List.getElem_cons_succ, Act.put, List.setIfInBounds_toArray, List.set_cons_zero, List.set_cons_succ]
    refine wpAnyH_take (i := 9) (oi := _) (v := ?_) rfl (by kernel_rfl) (by kernel_rfl) (by kernel_rfl) (fun _ _ _ h => h) (Or.inl ⟨by rfl, ?_⟩) (by assumption) ?_
    rotate_left 1
    · (intro w hSw; (try dsimp only at hSw); go_simp; try with_reducible rfl)
    try simp only [List.getElem_toArray, List.getElem_cons_zero, List.getElem_cons_succ, Act.put, List.setIfInBounds_toArray, List.set_cons_zero, List.set_cons_succ]
    refine wpAnyH_ready (rs := [3]) (by kernel_rfl) (by simp) ?_
    refine AllReadyH.cons (o := _) rfl (fun K hK => ?_) AllReadyH.nil
    rw [if_pos (by kernel_rfl)]
    simp only [List.getElem_toArray, List.getElem_cons_zero, List.getElem_cons_succ]
    go_simp
    (with_reducible refine (s_count (n := cu) U4.out.now.1 (cu : Int) rfl EC.out.2.2.1).mono ?_)
    rintro e w13 ⟨rfl, hb⟩
    replace HU := Lib.hid (HU.out.next hb)
    replace UX := Lib.hid (UX.out.next hb)
    replace UY := Lib.hid (UY.out.next hb)
    replace UC := Lib.hid (UC.out.next hb)
    replace U2 := Lib.hid (U2.out.next hb)
    replace U3 := Lib.hid (U3.out.next hb)
    replace U4 := Lib.hid (U4.out.next hb)
    replace U5 := Lib.hid (U5.out.next hb)
    replace U6 := Lib.hid (U6.out.next hb)
    replace U7 := Lib.hid (U7.out.next hb)
    clear hb hHeld
    refine hK.out _ _ ⟨U2.out.now.cell, U3.out.now.cell, U4.out.now.cell, U5.out.now.cell, U6.out.now.cell⟩ (fun hHeld => ?_)
    clear hK K
    try simp only [List.getElem_toArray, List.getElem_cons_zero, List.getElem_cons_succ, Act.put, List.setIfInBounds_toArray, List.set_cons_zero, List.set_cons_succ]
    refine wpAnyH_ready (rs := [5]) (by kernel_rfl) (by simp) ?_
    refine AllReadyH.cons (o := _) rfl (fun K hK => ?_) AllReadyH.nil
    rw [if_pos (by kernel_rfl)]
    simp only [List.getElem_toArray, List.getElem_cons_zero, List.getElem_cons_succ]
    go_simp
    (with_reducible refine (s_count (n := ca) U2.out.now.1 (ca : Int) rfl EC.out.1).mono ?_)
    rintro e w14 ⟨rfl, hb⟩
    replace HU := Lib.hid (HU.out.next hb)
    replace UX := Lib.hid (UX.out.next hb)
    replace UY := Lib.hid (UY.out.next hb)
    replace UC := Lib.hid (UC.out.next hb)
    replace U2 := Lib.hid (U2.out.next hb)
    replace U3 := Lib.hid (U3.out.next hb)
    replace U4 := Lib.hid (U4.out.next hb)
    replace U5 := Lib.hid (U5.out.next hb)
    replace U6 := Lib.hid (U6.out.next hb)
    replace U7 := Lib.hid (U7.out.next hb)
    clear hb hHeld
    refine hK.out _ _ ⟨U2.out.now.cell, U3.out.now.cell, U4.out.now.cell, U5.out.now.cell, U6.out.now.cell⟩ (fun hHeld => ?_)
    clear hK K
    try simp only [List.getElem_toArray, List.getElem_cons_zero, List.getElem_cons_succ, Act.put, List.setIfInBounds_toArray, List.set_cons_zero, List.set_cons_succ]
    refine wpAnyH_ready (rs := [7]) (by kernel_rfl) (by simp) ?_
    refine AllReadyH.cons (o := _) rfl (fun K hK => ?_) AllReadyH.nil
    rw [if_pos (by kernel_rfl)]
    simp only [List.getElem_toArray, List.getElem_cons_zero, List.getElem_cons_succ]
    go_simp
    (with_reducible refine (s_count (n := cb) U3.out.now.1 (cb : Int) rfl EC.out.2.1).mono ?_)
    rintro e w15 ⟨rfl, hb⟩
    replace HU := Lib.hid (HU.out.next hb)
    replace UX := Lib.hid (UX.out.next hb)
    replace UY := Lib.hid (UY.out.next hb)
    replace UC := Lib.hid (UC.out.next hb)
    replace U2 := Lib.hid (U2.out.next hb)
    replace U3 := Lib.hid (U3.out.next hb)
    replace U4 := Lib.hid (U4.out.next hb)
    replace U5 := Lib.hid (U5.out.next hb)
    replace U6 := Lib.hid (U6.out.next hb)
    replace U7 := Lib.hid (U7.out.next hb)
    clear hb hHeld
    refine hK.out _ _ ⟨U2.out.now.cell, U3.out.now.cell, U4.out.now.cell, U5.out.now.cell, U6.out.now.cell⟩ (fun hHeld => ?_)
    clear hK K
    try simp only [List.getElem_toArray, List.getElem_cons_zero, List.getElem_cons_succ, Act.put, List.setIfInBounds_toArray, List.set_cons_zero, List.set_cons_succ]
    refine wpAnyH_take (i := 8) (oi := _) (v := ?_) rfl (by kernel_rfl) (by kernel_rfl) (by kernel_rfl) (fun _ _ _ h => h) (Or.inl ⟨by rfl, ?_⟩) (by assumption) ?_
    rotate_left 1
    · (intro w hSw; (try dsimp only at hSw); go_simp; try with_reducible rfl)
    try simp only [List.getElem_toArray, List.getElem_cons_zero, List.getElem_cons_succ, Act.put, List.setIfInBounds_toArray, List.set_cons_zero, List.set_cons_succ]
    refine wpAnyH_ready (rs := [10]) (by kernel_rfl) (by simp) ?_
    refine AllReadyH.cons (o := _) rfl (fun K hK => ?_) AllReadyH.nil
    rw [if_pos (by kernel_rfl)]
    simp only [List.getElem_toArray, List.getElem_cons_zero, List.getElem_cons_succ]
    go_simp
    (with_reducible refine (s_count (n := cm) U5.out.now.1 (cm : Int) rfl EC.out.2.2.2.1).mono ?_)
    rintro e w16 ⟨rfl, hb⟩
    replace HU := Lib.hid (HU.out.next hb)
    replace UX := Lib.hid (UX.out.next hb)
    replace UY := Lib.hid (UY.out.next hb)
    replace UC := Lib.hid (UC.out.next hb)
    replace U2 := Lib.hid (U2.out.next hb)
    replace U3 := Lib.hid (U3.out.next hb)
    replace U4 := Lib.hid (U4.out.next hb)
    replace U5 := Lib.hid (U5.out.next hb)
    replace U6 := Lib.hid (U6.out.next hb)
    replace U7 := Lib.hid (U7.out.next hb)
    clear hb hHeld
    refine hK.out _ _ ⟨U2.out.now.cell, U3.out.now.cell, U4.out.now.cell, U5.out.now.cell, U6.out.now.cell⟩ (fun hHeld => ?_)
    clear hK K
    try simp only [List.getElem_toArray, List.getElem_cons_zero, List.getElem_cons_succ, Act.put, List.setIfInBounds_toArray, List.set_cons_zero, List.set_cons_succ]
    refine wpAnyH_take (i := 11) (oi := _) (v := ?_) rfl (by kernel_rfl) (by kernel_rfl) (by kernel_rfl) (fun _ _ _ h => h) (Or.inl ⟨by rfl, ?_⟩) (by assumption) ?_
    rotate_left 1
    · (intro w hSw; (try dsimp only at hSw); go_simp; try with_reducible rfl)
    try simp only [List.getElem_toArray, List.getElem_cons_zero, List.getElem_cons_succ, Act.put, List.setIfInBounds_toArray, List.set_cons_zero, List.set_cons_succ]
    refine wpAnyH_take (i := 12) (oi := _) (v := ?_) rfl (by kernel_rfl) (by kernel_rfl) (by kernel_rfl) (fun _ _ _ h => h) (Or.inl ⟨by rfl, ?_⟩) (by assumption) ?_
    rotate_left 1
    · (intro w hSw; (try dsimp only at hSw); go_simp; try with_reducible rfl)
    try simp only [List.getElem_toArray, List.getElem_cons_zero, List.getElem_cons_succ, Act.put, List.setIfInBounds_toArray, List.set_cons_zero, List.set_cons_succ]
    refine wpAnyH_take (i := 13) (oi := _) (v := ?_) rfl (by kernel_rfl) (by kernel_rfl) (by kernel_rfl) (fun _ _ _ h => h) (Or.inl ⟨by rfl, ?_⟩) (by assumption) ?_
    rotate_left 1
    · (intro w hSw; (try dsimp only at hSw); go_simp; try with_reducible rfl)
    try simp only [List.getElem_toArray, List.getElem_cons_zero, List.getElem_cons_succ, Act.put, List.setIfInBounds_toArray, List.set_cons_zero, List.set_cons_succ]
    refine wpAnyH_take (i := 14) (oi := _) (v := ?_) rfl (by kernel_rfl) (by kernel_rfl) (by kernel_rfl) (fun _ _ _ h => h) (Or.inl ⟨by rfl, ?_⟩) (by assumption) ?_
    rotate_left 1
    · (intro w hSw; (try dsimp only at hSw); go_simp; try with_reducible rfl)
    try simp only [List.getElem_toArray, List.getElem_cons_zero, List.getElem_cons_succ, Act.put, List.setIfInBounds_toArray, List.set_cons_zero, List.set_cons_succ]
    refine wpAnyH_take (i := 15) (oi := _) (v := ?_) rfl (by kernel_rfl) (by kernel_rfl) (by kernel_rfl) (fun _ _ _ h => h) (Or.inl ⟨by rfl, ?_⟩) (by assumption) ?_
    rotate_left 1
    · (intro w hSw; (try dsimp only at hSw); go_simp; try with_reducible rfl)
    try simp only [List.getElem_toArray, List.getElem_cons_zero, List.getElem_cons_succ, Act.put, List.setIfInBounds_toArray, List.set_cons_zero, List.set_cons_succ]
    refine wpAnyH_take (i := 17) (oi := _) (v := ?_) rfl (by kernel_rfl) (by kernel_rfl) (by kernel_rfl) (fun _ _ _ h => h) (Or.inl ⟨by rfl, ?_⟩) (by assumption) ?_
    rotate_left 1
    · (intro w hSw; (try dsimp only at hSw); go_simp; try with_reducible rfl)
    try simp only [List.getElem_toArray, List.getElem_cons_zero, List.getElem_cons_succ, Act.put, List.setIfInBounds_toArray, List.set_cons_zero, List.set_cons_succ]
    refine wpAnyH_take (i := 19) (oi := _) (v := ?_) rfl (by kernel_rfl) (by kernel_rfl) (by kernel_rfl) (fun _ _ _ h => h) (Or.inl ⟨by rfl, ?_⟩) (by assumption) ?_
    rotate_left 1
    · (intro w hSw; (try dsimp only at hSw); go_simp; try with_reducible rfl)
    try simp only [List.getElem_toArray, List.getElem_cons_zero, List.getElem_cons_succ, Act.put, List.setIfInBounds_toArray, List.set_cons_zero, List.set_cons_succ]
    refine wpAnyH_ready (rs := [16]) (by kernel_rfl) (by simp) ?_
    refine AllReadyH.cons (o := _) rfl (fun K hK => ?_) AllReadyH.nil
    rw [if_pos (by kernel_rfl)]
    simp only [List.getElem_toArray, List.getElem_cons_zero, List.getElem_cons_succ]
    go_simp
    (with_reducible refine (s_count (n := cl) U6.out.now.1 (cl : Int) rfl EC.out.2.2.2.2).mono ?_)
    rintro e w17 ⟨rfl, hb⟩
    replace HU := Lib.hid (HU.out.next hb)
    replace UX := Lib.hid (UX.out.next hb)
    replace UY := Lib.hid (UY.out.next hb)
    replace UC := Lib.hid (UC.out.next hb)
    replace U2 := Lib.hid (U2.out.next hb)
    replace U3 := Lib.hid (U3.out.next hb)
    replace U4 := Lib.hid (U4.out.next hb)
    replace U5 := Lib.hid (U5.out.next hb)
    replace U6 := Lib.hid (U6.out.next hb)
    replace U7 := Lib.hid (U7.out.next hb)
    clear hb hHeld
    refine hK.out _ _ ⟨U2.out.now.cell, U3.out.now.cell, U4.out.now.cell, U5.out.now.cell, U6.out.now.cell⟩ (fun hHeld => ?_)
    clear hK K
    try simp only [List.getElem_toArray, List.getElem_cons_zero, List.getElem_cons_succ, Act.put, List.setIfInBounds_toArray, List.set_cons_zero, List.set_cons_succ]
    refine wpAnyH_ready (rs := [18]) (by kernel_rfl) (by simp) ?_
    refine AllReadyH.cons (o := _) rfl (fun K hK => ?_) AllReadyH.nil
    rw [if_pos (by kernel_rfl)]
    simp only [List.getElem_toArray, List.getElem_cons_zero, List.getElem_cons_succ]
    go_simp
    (with_reducible refine (s_count (n := ca) U2.out.now.1 (ca : Int) rfl EC.out.1).mono ?_)
    rintro e w18 ⟨rfl, hb⟩
    replace HU := Lib.hid (HU.out.next hb)
    replace UX := Lib.hid (UX.out.next hb)
    replace UY := Lib.hid (UY.out.next hb)
    replace UC := Lib.hid (UC.out.next hb)
    replace U2 := Lib.hid (U2.out.next hb)
    replace U3 := Lib.hid (U3.out.next hb)
    replace U4 := Lib.hid (U4.out.next hb)
    replace U5 := Lib.hid (U5.out.next hb)
    replace U6 := Lib.hid (U6.out.next hb)
    replace U7 := Lib.hid (U7.out.next hb)
    clear hb hHeld
    refine hK.out _ _ ⟨U2.out.now.cell, U3.out.now.cell, U4.out.now.cell, U5.out.now.cell, U6.out.now.cell⟩ (fun hHeld => ?_)
    clear hK K
    try simp only [List.getElem_toArray, List.getElem_cons_zero, List.getElem_cons_succ, Act.put, List.setIfInBounds_toArray, List.set_cons_zero, List.set_cons_succ]
    refine wpAnyH_ready (rs := [20]) (by kernel_rfl) (by simp) ?_
    refine AllReadyH.cons (o := _) rfl (fun K hK => ?_) AllReadyH.nil
    rw [if_pos (by kernel_rfl)]
    simp only [List.getElem_toArray, List.getElem_cons_zero, List.getElem_cons_succ]
    go_simp
    (with_reducible refine (s_count (n := cm) U5.out.now.1 (cm : Int) rfl EC.out.2.2.2.1).mono ?_)
    rintro e w19 ⟨rfl, hb⟩
    replace HU := Lib.hid (HU.out.next hb)
    replace UX := Lib.hid (UX.out.next hb)
    replace UY := Lib.hid (UY.out.next hb)
    replace UC := Lib.hid (UC.out.next hb)
    replace U2 := Lib.hid (U2.out.next hb)
    replace U3 := Lib.hid (U3.out.next hb)
    replace U4 := Lib.hid (U4.out.next hb)
    replace U5 := Lib.hid (U5.out.next hb)
    replace U6 := Lib.hid (U6.out.next hb)
    replace U7 := Lib.hid (U7.out.next hb)
    clear hb hHeld
    refine hK.out _ _ ⟨U2.out.now.cell, U3.out.now.cell, U4.out.now.cell, U5.out.now.cell, U6.out.now.cell⟩ (fun hHeld => ?_)
    clear hK K
    try simp only [List.getElem_toArray, List.getElem_cons_zero, List.getElem_cons_succ, Act.put, List.setIfInBounds_toArray, List.set_cons_zero, List.set_cons_succ]
    refine wpAnyH_take (i := 21) (oi := _) (v := ?_) rfl (by kernel_rfl) (by kernel_rfl) (by kernel_rfl) (fun _ _ _ h => h) (Or.inl ⟨by rfl, ?_⟩) (by assumption) ?_
    rotate_left 1
    · (intro w hSw; (try dsimp only at hSw); go_simp; try with_reducible rfl)
    try simp only [List.getElem_toArray, List.getElem_cons_zero, List.getElem_cons_succ, Act.put, List.setIfInBounds_toArray, List.set_cons_zero, List.set_cons_succ]
    refine wpAnyH_take (i := 22) (oi := _) (v := ?_) rfl (by kernel_rfl) (by kernel_rfl) (by kernel_rfl) (fun _ _ _ h => h) (Or.inl ⟨by rfl, ?_⟩) (by assumption) ?_
    rotate_left 1
    · (intro w hSw; (try dsimp only at hSw); go_simp; try with_reducible rfl)
    try simp only [List.getElem_toArray, List.getElem_cons_zero, List.getElem_cons_succ, Act.put, List.setIfInBounds_toArray, List.set_cons_zero, List.set_cons_succ]
    refine wpAnyH_take (i := 23) (oi := _) (v := ?_) rfl (by kernel_rfl) (by kernel_rfl) (by kernel_rfl) (fun _ _ _ h => h) (Or.inl ⟨by rfl, ?_⟩) (by assumption) ?_
    rotate_left 1
    · (intro w hSw; (try dsimp only at hSw); go_simp; try with_reducible rfl)
    try simp only [List.getElem_toArray, List.getElem_cons_zero, List.getElem_cons_succ, Act.put, List.setIfInBounds_toArray, List.set_cons_zero, List.set_cons_succ]
    refine wpAnyH_take (i := 24) (oi := _) (v := ?_) rfl (by kernel_rfl) (by kernel_rfl) (by kernel_rfl) (fun _ _ _ h => h) (Or.inl ⟨by rfl, ?_⟩) (by assumption) ?_
    rotate_left 1
    · (intro w hSw; (try dsimp only at hSw); go_simp; try with_reducible rfl)
    try simp only [List.getElem_toArray, List.getElem_cons_zero, List.getElem_cons_succ, Act.put, List.setIfInBounds_toArray, List.set_cons_zero, List.set_cons_succ]
    refine wpAnyH_take (i := 25) (oi := _) (v := ?_) rfl (by kernel_rfl) (by kernel_rfl) (by kernel_rfl) (fun _ _ _ h => h) (Or.inl ⟨by rfl, ?_⟩) (by assumption) ?_
    rotate_left 1
    · (intro w hSw; (try dsimp only at hSw); go_simp; try with_reducible rfl)
    try simp only [List.getElem_toArray, List.getElem_cons_zero, List.getElem_cons_succ, Act.put, List.setIfInBounds_toArray, List.set_cons_zero, List.set_cons_succ]
    refine wpAnyH_take (i := 26) (oi := _) (v := ?_) rfl (by kernel_rfl) (by kernel_rfl) (by kernel_rfl) (fun _ _ _ h => h) (Or.inl ⟨by rfl, ?_⟩) (by assumption) ?_
    rotate_left 1
    · (intro w hSw; (try dsimp only at hSw); go_simp; try with_reducible rfl)
    try simp only [List.getElem_toArray, List.getElem_cons_zero, List.getElem_cons_succ, Act.put, List.setIfInBounds_toArray, List.set_cons_zero, List.set_cons_succ]
    refine wpAnyH_take (i := 28) (oi := _) (v := ?_) rfl (by kernel_rfl) (by kernel_rfl) (by kernel_rfl) (fun _ _ _ h => h) (Or.inl ⟨by rfl, ?_⟩) (by assumption) ?_
    rotate_left 1
    · (intro w hSw; (try dsimp only at hSw); go_simp; try with_reducible rfl)
    try simp only [List.getElem_toArray, List.getElem_cons_zero, List.getElem_cons_succ, Act.put, List.setIfInBounds_toArray, List.set_cons_zero, List.set_cons_succ]
    refine wpAnyH_take (i := 30) (oi := _) (v := ?_) rfl (by kernel_rfl) (by kernel_rfl) (by kernel_rfl) (fun _ _ _ h => h) (Or.inl ⟨by rfl, ?_⟩) (by assumption) ?_
    rotate_left 1
    · (intro w hSw; (try dsimp only at hSw); go_simp; try with_reducible rfl)
    try simp only [List.getElem_toArray, List.getElem_cons_zero, List.getElem_cons_succ, Act.put, List.setIfInBounds_toArray, List.set_cons_zero, List.set_cons_succ]
    refine wpAnyH_ready (rs := [27]) (by kernel_rfl) (by simp) ?_
    refine AllReadyH.cons (o := _) rfl (fun K hK => ?_) AllReadyH.nil
    rw [if_pos (by kernel_rfl)]
    simp only [List.getElem_toArray, List.getElem_cons_zero, List.getElem_cons_succ]
    go_simp
    (with_reducible refine ((containsV U2.out.now.1 U3.out.now.1).mono (OutV.as (congrArg Value.bool HQ.out))).mono ?_)
    rintro e w20 ⟨rfl, hb⟩
    replace HU := Lib.hid (HU.out.next hb)
    replace UX := Lib.hid (UX.out.next hb)
    replace UY := Lib.hid (UY.out.next hb)
    replace UC := Lib.hid (UC.out.next hb)
    replace U2 := Lib.hid (U2.out.next hb)
    replace U3 := Lib.hid (U3.out.next hb)
    replace U4 := Lib.hid (U4.out.next hb)
    replace U5 := Lib.hid (U5.out.next hb)
    replace U6 := Lib.hid (U6.out.next hb)
    replace U7 := Lib.hid (U7.out.next hb)
    clear hb hHeld
    refine hK.out _ _ ⟨U2.out.now.cell, U3.out.now.cell, U4.out.now.cell, U5.out.now.cell, U6.out.now.cell⟩ (fun hHeld => ?_)
    clear hK K
    try simp only [List.getElem_toArray, List.getElem_cons_zero, List.getElem_cons_succ, Act.put, List.setIfInBounds_toArray, List.set_cons_zero, List.set_cons_succ]
    refine wpAnyH_ready (rs := [29]) (by kernel_rfl) (by simp) ?_
    refine AllReadyH.cons (o := _) rfl (fun K hK => ?_) AllReadyH.nil
    rw [if_pos (by kernel_rfl)]
    simp only [List.getElem_toArray, List.getElem_cons_zero, List.getElem_cons_succ]
    go_simp
    (with_reducible refine (s_count (n := cm) U5.out.now.1 (cm : Int) rfl EC.out.2.2.2.1).mono ?_)
    rintro e w21 ⟨rfl, hb⟩
    replace HU := Lib.hid (HU.out.next hb)
    replace UX := Lib.hid (UX.out.next hb)
    replace UY := Lib.hid (UY.out.next hb)
    replace UC := Lib.hid (UC.out.next hb)
    replace U2 := Lib.hid (U2.out.next hb)
    replace U3 := Lib.hid (U3.out.next hb)
    replace U4 := Lib.hid (U4.out.next hb)
    replace U5 := Lib.hid (U5.out.next hb)
    replace U6 := Lib.hid (U6.out.next hb)
    replace U7 := Lib.hid (U7.out.next hb)
    clear hb hHeld
    refine hK.out _ _ ⟨U2.out.now.cell, U3.out.now.cell, U4.out.now.cell, U5.out.now.cell, U6.out.now.cell⟩ (fun hHeld => ?_)
    clear hK K
    try simp only [List.getElem_toArray, List.getElem_cons_zero, List.getElem_cons_succ, Act.put, List.setIfInBounds_toArray, List.set_cons_zero, List.set_cons_succ]
    refine wpAnyH_ready (rs := [31]) (by kernel_rfl) (by simp) ?_
    refine AllReadyH.cons (o := _) rfl (fun K hK => ?_) AllReadyH.nil
    rw [if_pos (by kernel_rfl)]
    simp only [List.getElem_toArray, List.getElem_cons_zero, List.getElem_cons_succ]
    go_simp
    (with_reducible refine (s_count (n := cb) U3.out.now.1 (cb : Int) rfl EC.out.2.1).mono ?_)
    rintro e w22 ⟨rfl, hb⟩
    replace HU := Lib.hid (HU.out.next hb)
    replace UX := Lib.hid (UX.out.next hb)
    replace UY := Lib.hid (UY.out.next hb)
    replace UC := Lib.hid (UC.out.next hb)
    replace U2 := Lib.hid (U2.out.next hb)
    replace U3 := Lib.hid (U3.out.next hb)
    replace U4 := Lib.hid (U4.out.next hb)
    replace U5 := Lib.hid (U5.out.next hb)
    replace U6 := Lib.hid (U6.out.next hb)
    replace U7 := Lib.hid (U7.out.next hb)
    clear hb hHeld
    refine hK.out _ _ ⟨U2.out.now.cell, U3.out.now.cell, U4.out.now.cell, U5.out.now.cell, U6.out.now.cell⟩ (fun hHeld => ?_)
    clear hK K
    try simp only [List.getElem_toArray, List.getElem_cons_zero, List.getElem_cons_succ, Act.put, List.setIfInBounds_toArray, List.set_cons_zero, List.set_cons_succ]
    refine wpAnyH_take (i := 32) (oi := _) (v := ?_) rfl (by kernel_rfl) (by kernel_rfl) (by kernel_rfl) (fun _ _ _ h => h) (Or.inl ⟨by rfl, ?_⟩) (by assumption) ?_
    rotate_left 1
    · (intro w hSw; (try dsimp only at hSw); go_simp; try with_reducible rfl)
    try simp only [List.getElem_toArray, List.getElem_cons_zero, List.getElem_cons_succ, Act.put, List.setIfInBounds_toArray, List.set_cons_zero, List.set_cons_succ]
    refine wpAnyH_take (i := 33) (oi := _) (v := ?_) rfl (by kernel_rfl) (by kernel_rfl) (by kernel_rfl) (fun _ _ _ h => h) (Or.inl ⟨by rfl, ?_⟩) (by assumption) ?_
    rotate_left 1
    · (intro w hSw; (try dsimp only at hSw); go_simp; try with_reducible rfl)
    try simp only [List.getElem_toArray, List.getElem_cons_zero, List.getElem_cons_succ, Act.put, List.setIfInBounds_toArray, List.set_cons_zero, List.set_cons_succ]
    refine wpAnyH_take (i := 34) (oi := _) (v := ?_) rfl (by kernel_rfl) (by kernel_rfl) (by kernel_rfl) (fun _ _ _ h => h) (Or.inl ⟨by rfl, ?_⟩) (by assumption) ?_
    rotate_left 1
    · (intro w hSw; (try dsimp only at hSw); go_simp; try with_reducible rfl)
    try simp only [List.getElem_toArray, List.getElem_cons_zero, List.getElem_cons_succ, Act.put, List.setIfInBounds_toArray, List.set_cons_zero, List.set_cons_succ]
    refine wpAnyH_take (i := 35) (oi := _) (v := ?_) rfl (by kernel_rfl) (by kernel_rfl) (by kernel_rfl) (fun _ _ _ h => h) (Or.inl ⟨by rfl, ?_⟩) (by assumption) ?_
    rotate_left 1
    · (intro w hSw; (try dsimp only at hSw); go_simp; try with_reducible rfl)
    try simp only [List.getElem_toArray, List.getElem_cons_zero, List.getElem_cons_succ, Act.put, List.setIfInBounds_toArray, List.set_cons_zero, List.set_cons_succ]
    refine wpAnyH_take (i := 36) (oi := _) (v := ?_) rfl (by kernel_rfl) (by kernel_rfl) (by kernel_rfl) (fun _ _ _ h => h) (Or.inl ⟨by rfl, ?_⟩) (by assumption) ?_
    rotate_left 1
    · (intro w hSw; (try dsimp only at hSw); go_simp; try with_reducible rfl)
    try simp only [List.getElem_toArray, List.getElem_cons_zero, List.getElem_cons_succ, Act.put, List.setIfInBounds_toArray, List.set_cons_zero, List.set_cons_succ]
    refine wpAnyH_take (i := 37) (oi := _) (v := ?_) rfl (by kernel_rfl) (by kernel_rfl) (by kernel_rfl) (fun _ _ _ h => h) (Or.inl ⟨by rfl, ?_⟩) (by assumption) ?_
    rotate_left 1
    · (intro w hSw; (try dsimp only at hSw); go_simp; try with_reducible rfl)
    try simp only [List.getElem_toArray, List.getElem_cons_zero, List.getElem_cons_succ, Act.put, List.setIfInBounds_toArray, List.set_cons_zero, List.set_cons_succ]
    refine wpAnyH_ready (rs := [38]) (by kernel_rfl) (by simp) ?_
    refine AllReadyH.cons (o := _) rfl (fun K hK => ?_) AllReadyH.nil
    rw [if_pos (by kernel_rfl)]
    simp only [List.getElem_toArray, List.getElem_cons_zero, List.getElem_cons_succ]
    go_simp
    (with_reducible refine (containsY (se_ub a b) U4.out.now.1 U3.out.now.1).mono ?_)
    rintro e w23 ⟨rfl, hb⟩
    replace HU := Lib.hid (HU.out.next hb)
    replace UX := Lib.hid (UX.out.next hb)
    replace UY := Lib.hid (UY.out.next hb)
    replace UC := Lib.hid (UC.out.next hb)
    replace U2 := Lib.hid (U2.out.next hb)
    replace U3 := Lib.hid (U3.out.next hb)
    replace U4 := Lib.hid (U4.out.next hb)
    replace U5 := Lib.hid (U5.out.next hb)
    replace U6 := Lib.hid (U6.out.next hb)
    replace U7 := Lib.hid (U7.out.next hb)
    clear hb hHeld
    refine hK.out _ _ ⟨U2.out.now.cell, U3.out.now.cell, U4.out.now.cell, U5.out.now.cell, U6.out.now.cell⟩ (fun hHeld => ?_)
    clear hK K
    try simp only [List.getElem_toArray, List.getElem_cons_zero, List.getElem_cons_succ, Act.put, List.setIfInBounds_toArray, List.set_cons_zero, List.set_cons_succ]
    refine wpAnyH_take (i := 39) (oi := _) (v := ?_) rfl (by kernel_rfl) (by kernel_rfl) (by kernel_rfl) (fun _ _ _ h => h) (Or.inl ⟨by rfl, ?_⟩) (by assumption) ?_
    rotate_left 1
    · (intro w hSw; (try dsimp only at hSw); go_simp; try with_reducible rfl)
    try simp only [List.getElem_toArray, List.getElem_cons_zero, List.getElem_cons_succ, Act.put, List.setIfInBounds_toArray, List.set_cons_zero, List.set_cons_succ]
    refine wpAnyH_take (i := 40) (oi := _) (v := ?_) rfl (by kernel_rfl) (by kernel_rfl) (by kernel_rfl) (fun _ _ _ h => h) (Or.inl ⟨by rfl, ?_⟩) (by assumption) ?_
    rotate_left 1
    · (intro w hSw; (try dsimp only at hSw); go_simp; try with_reducible rfl)
    try simp only [List.getElem_toArray, List.getElem_cons_zero, List.getElem_cons_succ, Act.put, List.setIfInBounds_toArray, List.set_cons_zero, List.set_cons_succ]
    refine wpAnyH_take (i := 41) (oi := _) (v := ?_) rfl (by kernel_rfl) (by kernel_rfl) (by kernel_rfl) (fun _ _ _ h => h) (Or.inl ⟨by rfl, ?_⟩) (by assumption) ?_
    rotate_left 1
    · (intro w hSw; (try dsimp only at hSw); go_simp; try with_reducible rfl)
    try simp only [List.getElem_toArray, List.getElem_cons_zero, List.getElem_cons_succ, Act.put, List.setIfInBounds_toArray, List.set_cons_zero, List.set_cons_succ]
    refine wpAnyH_take (i := 42) (oi := _) (v := ?_) rfl (by kernel_rfl) (by kernel_rfl) (by kernel_rfl) (fun _ _ _ h => h) (Or.inl ⟨by rfl, ?_⟩) (by assumption) ?_
    rotate_left 1
    · (intro w hSw; (try dsimp only at hSw); go_simp; try with_reducible rfl)
    try simp only [List.getElem_toArray, List.getElem_cons_zero, List.getElem_cons_succ, Act.put, List.setIfInBounds_toArray, List.set_cons_zero, List.set_cons_succ]
    refine wpAnyH_ready (rs := [43]) (by kernel_rfl) (by simp) ?_
    refine AllReadyH.cons (o := _) rfl (fun K hK => ?_) AllReadyH.nil
    rw [if_pos (by kernel_rfl)]
    simp only [List.getElem_toArray, List.getElem_cons_zero, List.getElem_cons_succ]
    go_simp
    (with_reducible refine (containsY (se_bm a b) U3.out.now.1 U5.out.now.1).mono ?_)
    rintro e w24 ⟨rfl, hb⟩
    replace HU := Lib.hid (HU.out.next hb)
    replace UX := Lib.hid (UX.out.next hb)
    replace UY := Lib.hid (UY.out.next hb)
    replace UC := Lib.hid (UC.out.next hb)
    replace U2 := Lib.hid (U2.out.next hb)
    replace U3 := Lib.hid (U3.out.next hb)
    replace U4 := Lib.hid (U4.out.next hb)
    replace U5 := Lib.hid (U5.out.next hb)
    replace U6 := Lib.hid (U6.out.next hb)
    replace U7 := Lib.hid (U7.out.next hb)
    clear hb hHeld
    refine hK.out _ _ ⟨U2.out.now.cell, U3.out.now.cell, U4.out.now.cell, U5.out.now.cell, U6.out.now.cell⟩ (fun hHeld => ?_)
    clear hK K
    try simp only [List.getElem_toArray, List.getElem_cons_zero, List.getElem_cons_succ, Act.put, List.setIfInBounds_toArray, List.set_cons_zero, List.set_cons_succ]
    refine wpAnyH_take (i := 44) (oi := _) (v := ?_) rfl (by kernel_rfl) (by kernel_rfl) (by kernel_rfl) (fun _ _ _ h => h) (Or.inl ⟨by rfl, ?_⟩) (by assumption) ?_
    rotate_left 1
    · (intro w hSw; (try dsimp only at hSw); go_simp; try with_reducible rfl)
    try simp only [List.getElem_toArray, List.getElem_cons_zero, List.getElem_cons_succ, Act.put, List.setIfInBounds_toArray, List.set_cons_zero, List.set_cons_succ]
    refine wpAnyH_take (i := 45) (oi := _) (v := ?_) rfl (by kernel_rfl) (by kernel_rfl) (by kernel_rfl) (fun _ _ _ h => h) (Or.inl ⟨by rfl, ?_⟩) (by assumption) ?_
    rotate_left 1
    · (intro w hSw; (try dsimp only at hSw); go_simp; try with_reducible rfl)
    try simp only [List.getElem_toArray, List.getElem_cons_zero, List.getElem_cons_succ, Act.put, List.setIfInBounds_toArray, List.set_cons_zero, List.set_cons_succ]
    refine wpAnyH_done (by kernel_rfl) ?_ _
    clear e1 e2 e3 hq2
    go_wp2
    go_ret
    exact ⟨rfl, HU.out.now.1⟩
  · have hl0 := U2.out.now.cell
    have hl1 := (row_cell U7.out.now 0).trans (show _ = some (.int .i64 (x : Int)) from rfl)
    have hl2 := (row_cell U7.out.now 1).trans (show _ = some (.int .i64 (y : Int)) from rfl)
    go_wp2_with fail
    clear e1 e2
    clear hl0 hl1 hl2
    (with_reducible refine ((hasV x y hxy.out.1 hxy.out.2 U2.out.now.1).mono (OutV.as (congrArg Value.bool (show _ = true from hr.out)))).mono ?_)
    rintro e w8 ⟨rfl, hb⟩
    replace HU := Lib.hid (HU.out.next hb)
    replace UX := Lib.hid (UX.out.next hb)
    replace UY := Lib.hid (UY.out.next hb)
    replace UC := Lib.hid (UC.out.next hb)
    replace U2 := Lib.hid (U2.out.next hb)
    replace U3 := Lib.hid (U3.out.next hb)
    replace U4 := Lib.hid (U4.out.next hb)
    replace U5 := Lib.hid (U5.out.next hb)
    replace U6 := Lib.hid (U6.out.next hb)
    replace U7 := Lib.hid (U7.out.next hb)
    clear hb
    have hl0 := U3.out.now.cell
    have hl1 := (row_cell U7.out.now 0).trans (show _ = some (.int .i64 (x : Int)) from rfl)
    have hl2 := (row_cell U7.out.now 1).trans (show _ = some (.int .i64 (y : Int)) from rfl)
    go_wp2_with fail
    clear hl0 hl1 hl2
    (with_reducible refine ((hasV x y hxy.out.1 hxy.out.2 U3.out.now.1).mono (OutV.as (congrArg Value.bool (show _ = true from hs.out)))).mono ?_)
    rintro e w9 ⟨rfl, hb⟩
    replace HU := Lib.hid (HU.out.next hb)
    replace UX := Lib.hid (UX.out.next hb)
    replace UY := Lib.hid (UY.out.next hb)
    replace UC := Lib.hid (UC.out.next hb)
    replace U2 := Lib.hid (U2.out.next hb)
    replace U3 := Lib.hid (U3.out.next hb)
    replace U4 := Lib.hid (U4.out.next hb)
    replace U5 := Lib.hid (U5.out.next hb)
    replace U6 := Lib.hid (U6.out.next hb)
    replace U7 := Lib.hid (U7.out.next hb)
    clear hb
    have hl0 := U4.out.now.cell
    have hl1 := (row_cell U7.out.now 0).trans (show _ = some (.int .i64 (x : Int)) from rfl)
    have hl2 := (row_cell U7.out.now 1).trans (show _ = some (.int .i64 (y : Int)) from rfl)
    go_wp2_with fail
    clear hl0 hl1 hl2
    (with_reducible refine ((hasV x y hxy.out.1 hxy.out.2 U4.out.now.1).mono (OutV.as (congrArg Value.bool (show _ = true from se_has1 hr.out hs.out (by decide))))).mono ?_)
    rintro e w10 ⟨rfl, hb⟩
    replace HU := Lib.hid (HU.out.next hb)
    replace UX := Lib.hid (UX.out.next hb)
    replace UY := Lib.hid (UY.out.next hb)
    replace UC := Lib.hid (UC.out.next hb)
    replace U2 := Lib.hid (U2.out.next hb)
    replace U3 := Lib.hid (U3.out.next hb)
    replace U4 := Lib.hid (U4.out.next hb)
    replace U5 := Lib.hid (U5.out.next hb)
    replace U6 := Lib.hid (U6.out.next hb)
    replace U7 := Lib.hid (U7.out.next hb)
    clear hb
    have hl0 := U5.out.now.cell
    have hl1 := (row_cell U7.out.now 0).trans (show _ = some (.int .i64 (x : Int)) from rfl)
    have hl2 := (row_cell U7.out.now 1).trans (show _ = some (.int .i64 (y : Int)) from rfl)
    go_wp2_with fail
    clear hl0 hl1 hl2
    (with_reducible refine ((hasV x y hxy.out.1 hxy.out.2 U5.out.now.1).mono (OutV.as (congrArg Value.bool (show _ = true from se_has2 hr.out hs.out (by decide))))).mono ?_)
    rintro e w11 ⟨rfl, hb⟩
    replace HU := Lib.hid (HU.out.next hb)
    replace UX := Lib.hid (UX.out.next hb)
    replace UY := Lib.hid (UY.out.next hb)
    replace UC := Lib.hid (UC.out.next hb)
    replace U2 := Lib.hid (U2.out.next hb)
    replace U3 := Lib.hid (U3.out.next hb)
    replace U4 := Lib.hid (U4.out.next hb)
    replace U5 := Lib.hid (U5.out.next hb)
    replace U6 := Lib.hid (U6.out.next hb)
    replace U7 := Lib.hid (U7.out.next hb)
    clear hb
    have hl0 := U6.out.now.cell
    have hl1 := (row_cell U7.out.now 0).trans (show _ = some (.int .i64 (x : Int)) from rfl)
    have hl2 := (row_cell U7.out.now 1).trans (show _ = some (.int .i64 (y : Int)) from rfl)
    go_wp2_with fail
    clear hl0 hl1 hl2
    (with_reducible refine ((hasV x y hxy.out.1 hxy.out.2 U6.out.now.1).mono (OutV.as (congrArg Value.bool (show _ = false from se_has3 hr.out hs.out (by decide))))).mono ?_)
    rintro e w12 ⟨rfl, hb⟩
    replace HU := Lib.hid (HU.out.next hb)
    replace UX := Lib.hid (UX.out.next hb)
    replace UY := Lib.hid (UY.out.next hb)
    replace UC := Lib.hid (UC.out.next hb)
    replace U2 := Lib.hid (U2.out.next hb)
    replace U3 := Lib.hid (U3.out.next hb)
    replace U4 := Lib.hid (U4.out.next hb)
    replace U5 := Lib.hid (U5.out.next hb)
    replace U6 := Lib.hid (U6.out.next hb)
    replace U7 := Lib.hid (U7.out.next hb)
    clear hb
    go_wp2
    obtain ⟨ca, cb, cu, cm, cl, sab, eca, ecb, ecu, ecm, ecl, e1, e2, e3, e4⟩ := se_counts a b
    have EC := Lib.hid (show _ ∧ _ ∧ _ ∧ _ ∧ _ from ⟨eca, ecb, ecu, ecm, ecl⟩)
    clear eca ecb ecu ecm ecl
    obtain ⟨q, hq, hq2⟩ : ∃ q, (rowsOf (andA a b) == rowsOf b) = q ∧ ((cm : Int) == (cb : Int)) = q := ⟨_, e4, rfl⟩
    have HQ := Lib.hid hq
    clear hq e4
    have hd : Below w12.heap.size w12 w12.drew := (Below.refl _ _).drew
    replace HU := Lib.hid (HU.out.next hd)
    replace UX := Lib.hid (UX.out.next hd)
    replace UY := Lib.hid (UY.out.next hd)
    replace UC := Lib.hid (UC.out.next hd)
    replace U2 := Lib.hid (U2.out.next hd)
    replace U3 := Lib.hid (U3.out.next hd)
    replace U4 := Lib.hid (U4.out.next hd)
    replace U5 := Lib.hid (U5.out.next hd)
    replace U6 := Lib.hid (U6.out.next hd)
    replace U7 := Lib.hid (U7.out.next hd)
    clear hd
    refine wp_region_held_drew (S := fun w' => w'.cell? ⟨B2, 0, none⟩ = some (.slice (some ⟨b2, o2, none⟩) 24 c2) ∧ w'.cell? ⟨B3, 0, none⟩ = some (.slice (some ⟨b3, o3, none⟩) 24 c3) ∧ w'.cell? ⟨B4, 0, none⟩ = some (.slice (some ⟨b4, o4, none⟩) 24 c4) ∧ w'.cell? ⟨B5, 0, none⟩ = some (.slice (some ⟨b5, o5, none⟩) 24 c5) ∧ w'.cell? ⟨B6, 0, none⟩ = some (.slice (some ⟨b6, o6, none⟩) 24 c6)) (by kernel_rfl) ⟨U2.out.now.cell, U3.out.now.cell, U4.out.now.cell, U5.out.now.cell, U6.out.now.cell⟩ (fun hHeld => ?_)
    refine wpAnyH_take (i := 0) (oi := _) (v := ?_) rfl (by kernel_rfl) (by kernel_rfl) (by kernel_rfl) (fun _ _ _ h => h) (Or.inl ⟨by rfl, ?_⟩) (by assumption) ?_
    rotate_left 1
    · (intro w hSw; (try dsimp only at hSw); go_simp; try with_reducible rfl)
    try simp only [List.getElem_toArray, List.getElem_cons_zero, List.getElem_cons_succ, Act.put, List.setIfInBounds_toArray, List.set_cons_zero, List.set_cons_succ]
    refine wpAnyH_take (i := 1) (oi := _) (v := ?_) rfl (by kernel_rfl) (by kernel_rfl) (by kernel_rfl) (fun _ _ _ h => h) (Or.inl ⟨by rfl, ?_⟩) (by assumption) ?_
    rotate_left 1
    · (intro w hSw; (try dsimp only at hSw); go_simp; try with_reducible rfl)
    try simp only [List.getElem_toArray, List.getElem_cons_zero, List.getElem_cons_succ, Act.put, List.setIfInBounds_toArray, List.set_cons_zero, List.set_cons_succ]
    refine wpAnyH_take (i := 2) (oi := _) (v := ?_) rfl (by kernel_rfl) (by kernel_rfl) (by kernel_rfl) (fun _ _ _ h => h) (Or.inl ⟨by rfl, ?_⟩) (by assumption) ?_
    rotate_left 1
    · (intro w hSw; (try dsimp only at hSw); go_simp; try with_reducible rfl)
    try simp only [List.getElem_toArray, List.getElem_cons_zero, List.getElem_cons_succ, Act.put, List.setIfInBounds_toArray, List.set_cons_zero, List.set_cons_succ]
    refine wpAnyH_take (i := 4) (oi := _) (v := ?_) rfl (by kernel_rfl) (by kernel_rfl) (by kernel_rfl) (fun _ _ _ h => h) (Or.inl ⟨by rfl, ?_⟩) (by assumption) ?_
    rotate_left 1
    · (intro w hSw; (try dsimp only at hSw); go_simp; try with_reducible rfl)
    try simp only [List.getElem_toArray, List.getElem_cons_zero, List.getElem_cons_succ, Act.put, List.setIfInBounds_toArray, List.set_cons_zero, List.set_cons_succ]
    refine wpAnyH_take (i := 6) (oi := _) (v := ?_) rfl (by kernel_rfl) (by kernel_rfl) (by kernel_rfl) (fun _ _ _ h => h) (Or.inl ⟨by rfl, ?_⟩) (by assumption) ?_
    rotate_left 1
    · (intro w hSw; (try dsimp only at hSw); go_simp; try with_reducible rfl)
    try simp only [List.getElem_toArray, List.getElem_cons_zero, List.getElem_cons_succ, Act.put, List.setIfInBounds_toArray, List.set_cons_zero, List.set_cons_succ]
    refine wpAnyH_take (i := 9) (oi := _) (v := ?_) rfl (by kernel_rfl) (by kernel_rfl) (by kernel_rfl) (fun _ _ _ h => h) (Or.inl ⟨by rfl, ?_⟩) (by assumption) ?_
    rotate_left 1
    · (intro w hSw; (try dsimp only at hSw); go_simp; try with_reducible rfl)
    try simp only [List.getElem_toArray, List.getElem_cons_zero, List.getElem_cons_succ, Act.put, List.setIfInBounds_toArray, List.set_cons_zero, List.set_cons_succ]
    refine wpAnyH_ready (rs := [3]) (by kernel_rfl) (by simp) ?_
    refine AllReadyH.cons (o := _) rfl (fun K hK => ?_) AllReadyH.nil
    rw [if_pos (by kernel_rfl)]
    simp only [List.getElem_toArray, List.getElem_cons_zero, List.getElem_cons_succ]
    go_simp
    (with_reducible refine (s_count (n := cu) U4.out.now.1 (cu : Int) rfl EC.out.2.2.1).mono ?_)
    rintro e w13 ⟨rfl, hb⟩
    replace HU := Lib.hid (HU.out.next hb)
    replace UX := Lib.hid (UX.out.next hb)
    replace UY := Lib.hid (UY.out.next hb)
    replace UC := Lib.hid (UC.out.next hb)
    replace U2 := Lib.hid (U2.out.next hb)
    replace U3 := Lib.hid (U3.out.next hb)
    replace U4 := Lib.hid (U4.out.next hb)
    replace U5 := Lib.hid (U5.out.next hb)
    replace U6 := Lib.hid (U6.out.next hb)
    replace U7 := Lib.hid (U7.out.next hb)
    clear hb hHeld
    refine hK.out _ _ ⟨U2.out.now.cell, U3.out.now.cell, U4.out.now.cell, U5.out.now.cell, U6.out.now.cell⟩ (fun hHeld => ?_)
    clear hK K
    try simp only [List.getElem_toArray, List.getElem_cons_zero, List.getElem_cons_succ, Act.put, List.setIfInBounds_toArray, List.set_cons_zero, List.set_cons_succ]
    refine wpAnyH_ready (rs := [5]) (by kernel_rfl) (by simp) ?_
    refine AllReadyH.cons (o := _) rfl (fun K hK => ?_) AllReadyH.nil
    rw [if_pos (by kernel_rfl)]
    simp only [List.getElem_toArray, List.getElem_cons_zero, List.getElem_cons_succ]
    go_simp
    (with_reducible refine (s_count (n := ca) U2.out.now.1 (ca : Int) rfl EC.out.1).mono ?_)
    rintro e w14 ⟨rfl, hb⟩
    replace HU := Lib.hid (HU.out.next hb)
    replace UX := Lib.hid (UX.out.next hb)
    replace UY := Lib.hid (UY.out.next hb)
    replace UC := Lib.hid (UC.out.next hb)
    replace U2 := Lib.hid (U2.out.next hb)
    replace U3 := Lib.hid (U3.out.next hb)
    replace U4 := Lib.hid (U4.out.next hb)
    replace U5 := Lib.hid (U5.out.next hb)
    replace U6 := Lib.hid (U6.out.next hb)
    replace U7 := Lib.hid (U7.out.next hb)
    clear hb hHeld
    refine hK.out _ _ ⟨U2.out.now.cell, U3.out.now.cell, U4.out.now.cell, U5.out.now.cell, U6.out.now.cell⟩ (fun hHeld => ?_)
    clear hK K
    try simp only [List.getElem_toArray, List.getElem_cons_zero, List.getElem_cons_succ, Act.put, List.setIfInBounds_toArray, List.set_cons_zero, List.set_cons_succ]
    refine wpAnyH_ready (rs := [7]) (by kernel_rfl) (by simp) ?_
    refine AllReadyH.cons (o := _) rfl (fun K hK => ?_) AllReadyH.nil
    rw [if_pos (by kernel_rfl)]
    simp only [List.getElem_toArray, List.getElem_cons_zero, List.getElem_cons_succ]
    go_simp
    (with_reducible refine (s_count (n := cb) U3.out.now.1 (cb : Int) rfl EC.out.2.1).mono ?_)
    rintro e w15 ⟨rfl, hb⟩
    replace HU := Lib.hid (HU.out.next hb)
    replace UX := Lib.hid (UX.out.next hb)
    replace UY := Lib.hid (UY.out.next hb)
    replace UC := Lib.hid (UC.out.next hb)
    replace U2 := Lib.hid (U2.out.next hb)
    replace U3 := Lib.hid (U3.out.next hb)
    replace U4 := Lib.hid (U4.out.next hb)
    replace U5 := Lib.hid (U5.out.next hb)
    replace U6 := Lib.hid (U6.out.next hb)
    replace U7 := Lib.hid (U7.out.next hb)
    clear hb hHeld
    refine hK.out _ _ ⟨U2.out.now.cell, U3.out.now.cell, U4.out.now.cell, U5.out.now.cell, U6.out.now.cell⟩ (fun hHeld => ?_)
    clear hK K
    try simp only [List.getElem_toArray, List.getElem_cons_zero, List.getElem_cons_succ, Act.put, List.setIfInBounds_toArray, List.set_cons_zero, List.set_cons_succ]
    refine wpAnyH_take (i := 8) (oi := _) (v := ?_) rfl (by kernel_rfl) (by kernel_rfl) (by kernel_rfl) (fun _ _ _ h => h) (Or.inl ⟨by rfl, ?_⟩) (by assumption) ?_
    rotate_left 1
    · (intro w hSw; (try dsimp only at hSw); go_simp; try with_reducible rfl)
    try simp only [List.getElem_toArray, List.getElem_cons_zero, List.getElem_cons_succ, Act.put, List.setIfInBounds_toArray, List.set_cons_zero, List.set_cons_succ]
    refine wpAnyH_ready (rs := [10]) (by kernel_rfl) (by simp) ?_
    refine AllReadyH.cons (o := _) rfl (fun K hK => ?_) AllReadyH.nil
    rw [if_pos (by kernel_rfl)]
    simp only [List.getElem_toArray, List.getElem_cons_zero, List.getElem_cons_succ]
    go_simp
    (with_reducible refine (s_count (n := cm) U5.out.now.1 (cm : Int) rfl EC.out.2.2.2.1).mono ?_)
    rintro e w16 ⟨rfl, hb⟩
    replace HU := Lib.hid (HU.out.next hb)
    replace UX := Lib.hid (UX.out.next hb)
    replace UY := Lib.hid (UY.out.next hb)
    replace UC := Lib.hid (UC.out.next hb)
    replace U2 := Lib.hid (U2.out.next hb)
    replace U3 := Lib.hid (U3.out.next hb)
    replace U4 := Lib.hid (U4.out.next hb)
    replace U5 := Lib.hid (U5.out.next hb)
    replace U6 := Lib.hid (U6.out.next hb)
    replace U7 := Lib.hid (U7.out.next hb)
    clear hb hHeld
    refine hK.out _ _ ⟨U2.out.now.cell, U3.out.now.cell, U4.out.now.cell, U5.out.now.cell, U6.out.now.cell⟩ (fun hHeld => ?_)
    clear hK K
    try simp only [List.getElem_toArray, List.getElem_cons_zero, List.getElem_cons_succ, Act.put, List.setIfInBounds_toArray, List.set_cons_zero, List.set_cons_succ]
    refine wpAnyH_take (i := 11) (oi := _) (v := ?_) rfl (by kernel_rfl) (by kernel_rfl) (by kernel_rfl) (fun _ _ _ h => h) (Or.inl ⟨by rfl, ?_⟩) (by assumption) ?_
    rotate_left 1
    · (intro w hSw; (try dsimp only at hSw); go_simp; try with_reducible rfl)
    try simp only [List.getElem_toArray, List.getElem_cons_zero, List.getElem_cons_succ, Act.put, List.setIfInBounds_toArray, List.set_cons_zero, List.set_cons_succ]
    refine wpAnyH_take (i := 12) (oi := _) (v := ?_) rfl (by kernel_rfl) (by kernel_rfl) (by kernel_rfl) (fun _ _ _ h => h) (Or.inl ⟨by rfl, ?_⟩) (by assumption) ?_
    rotate_left 1
    · (intro w hSw; (try dsimp only at hSw); go_simp; try with_reducible rfl)
    try simp only [List.getElem_toArray, List.getElem_cons_zero, List.getElem_cons_succ, Act.put, List.setIfInBounds_toArray, List.set_cons_zero, List.set_cons_succ]
    refine wpAnyH_take (i := 13) (oi := _) (v := ?_) rfl (by kernel_rfl) (by kernel_rfl) (by kernel_rfl) (fun _ _ _ h => h) (Or.inl ⟨by rfl, ?_⟩) (by assumption) ?_
    rotate_left 1
    · (intro w hSw; (try dsimp only at hSw); go_simp; try with_reducible rfl)
    try simp only [List.getElem_toArray, List.getElem_cons_zero, List.getElem_cons_succ, Act.put, List.setIfInBounds_toArray, List.set_cons_zero, List.set_cons_succ]
    refine wpAnyH_take (i := 14) (oi := _) (v := ?_) rfl (by kernel_rfl) (by kernel_rfl) (by kernel_rfl) (fun _ _ _ h => h) (Or.inl ⟨by rfl, ?_⟩) (by assumption) ?_
    rotate_left 1
    · (intro w hSw; (try dsimp only at hSw); go_simp; try with_reducible rfl)
    try simp only [List.getElem_toArray, List.getElem_cons_zero, List.getElem_cons_succ, Act.put, List.setIfInBounds_toArray, List.set_cons_zero, List.set_cons_succ]
    refine wpAnyH_take (i := 15) (oi := _) (v := ?_) rfl (by kernel_rfl) (by kernel_rfl) (by kernel_rfl) (fun _ _ _ h => h) (Or.inl ⟨by rfl, ?_⟩) (by assumption) ?_
    rotate_left 1
    · (intro w hSw; (try dsimp only at hSw); go_simp; try with_reducible rfl)
    try simp only [List.getElem_toArray, List.getElem_cons_zero, List.getElem_cons_succ, Act.put, List.setIfInBounds_toArray, List.set_cons_zero, List.set_cons_succ]
    refine wpAnyH_take (i := 17) (oi := _) (v := ?_) rfl (by kernel_rfl) (by kernel_rfl) (by kernel_rfl) (fun _ _ _ h => h) (Or.inl ⟨by rfl, ?_⟩) (by assumption) ?_
    rotate_left 1
    · (intro w hSw; (try dsimp only at hSw); go_simp; try with_reducible rfl)
    try simp only [List.getElem_toArray, List.getElem_cons_zero, List.getElem_cons_succ, Act.put, List.setIfInBounds_toArray, List.set_cons_zero, List.set_cons_succ]
    refine wpAnyH_take (i := 19) (oi := _) (v := ?_) rfl (by kernel_rfl) (by kernel_rfl) (by kernel_rfl) (fun _ _ _ h => h) (Or.inl ⟨by rfl, ?_⟩) (by assumption) ?_
    rotate_left 1
    · (intro w hSw; (try dsimp only at hSw); go_simp; try with_reducible rfl)
    try simp only [List.getElem_toArray, List.getElem_cons_zero, List.getElem_cons_succ, Act.put, List.setIfInBounds_toArray, List.set_cons_zero, List.set_cons_succ]
    refine wpAnyH_ready (rs := [16]) (by kernel_rfl) (by simp) ?_
    refine AllReadyH.cons (o := _) rfl (fun K hK => ?_) AllReadyH.nil
    rw [if_pos (by kernel_rfl)]
    simp only [List.getElem_toArray, List.getElem_cons_zero, List.getElem_cons_succ]
    go_simp
    (with_reducible refine (s_count (n := cl) U6.out.now.1 (cl : Int) rfl EC.out.2.2.2.2).mono ?_)
    rintro e w17 ⟨rfl, hb⟩
    replace HU := Lib.hid (HU.out.next hb)
    replace UX := Lib.hid (UX.out.next hb)
    replace UY := Lib.hid (UY.out.next hb)
    replace UC := Lib.hid (UC.out.next hb)
    replace U2 := Lib.hid (U2.out.next hb)
    replace U3 := Lib.hid (U3.out.next hb)
    replace U4 := Lib.hid (U4.out.next hb)
    replace U5 := Lib.hid (U5.out.next hb)
    replace U6 := Lib.hid (U6.out.next hb)
    replace U7 := Lib.hid (U7.out.next hb)
    clear hb hHeld
    refine hK.out _ _ ⟨U2.out.now.cell, U3.out.now.cell, U4.out.now.cell, U5.out.now.cell, U6.out.now.cell⟩ (fun hHeld => ?_)
    clear hK K
    try simp only [List.getElem_toArray, List.getElem_cons_zero, List.getElem_cons_succ, Act.put, List.setIfInBounds_toArray, List.set_cons_zero, List.set_cons_succ]
    refine wpAnyH_ready (rs := [18]) (by kernel_rfl) (by simp) ?_
    refine AllReadyH.cons (o := _) rfl (fun K hK => ?_) AllReadyH.nil
    rw [if_pos (by kernel_rfl)]
    simp only [List.getElem_toArray, List.getElem_cons_zero, List.getElem_cons_succ]
    go_simp
    (with_reducible refine (s_count (n := ca) U2.out.now.1 (ca : Int) rfl EC.out.1).mono ?_)
    rintro e w18 ⟨rfl, hb⟩
    replace HU := Lib.hid (HU.out.next hb)
    replace UX := Lib.hid (UX.out.next hb)
    replace UY := Lib.hid (UY.out.next hb)
    replace UC := Lib.hid (UC.out.next hb)
    replace U2 := Lib.hid (U2.out.next hb)
    replace U3 := Lib.hid (U3.out.next hb)
    replace U4 := Lib.hid (U4.out.next hb)
    replace U5 := Lib.hid (U5.out.next hb)
    replace U6 := Lib.hid (U6.out.next hb)
    replace U7 := Lib.hid (U7.out.next hb)
    clear hb hHeld
    refine hK.out _ _ ⟨U2.out.now.cell, U3.out.now.cell, U4.out.now.cell, U5.out.now.cell, U6.out.now.cell⟩ (fun hHeld => ?_)
    clear hK K
    try simp only [List.getElem_toArray, List.getElem_cons_zero, List.getElem_cons_succ, Act.put, List.setIfInBounds_toArray, List.set_cons_zero, List.set_cons_succ]
    refine wpAnyH_ready (rs := [20]) (by kernel_rfl) (by simp) ?_
    refine AllReadyH.cons (o := _) rfl (fun K hK => ?_) AllReadyH.nil
    rw [if_pos (by kernel_rfl)]
    simp only [List.getElem_toArray, List.getElem_cons_zero, List.getElem_cons_succ]
    go_simp
    (with_reducible refine (s_count (n := cm) U5.out.now.1 (cm : Int) rfl EC.out.2.2.2.1).mono ?_)
    rintro e w19 ⟨rfl, hb⟩
    replace HU := Lib.hid (HU.out.next hb)
    replace UX := Lib.hid (UX.out.next hb)
    replace UY := Lib.hid (UY.out.next hb)
    replace UC := Lib.hid (UC.out.next hb)
    replace U2 := Lib.hid (U2.out.next hb)
    replace U3 := Lib.hid (U3.out.next hb)
    replace U4 := Lib.hid (U4.out.next hb)
    replace U5 := Lib.hid (U5.out.next hb)
    replace U6 := Lib.hid (U6.out.next hb)
    replace U7 := Lib.hid (U7.out.next hb)
    clear hb hHeld
    refine hK.out _ _ ⟨U2.out.now.cell, U3.out.now.cell, U4.out.now.cell, U5.out.now.cell, U6.out.now.cell⟩ (fun hHeld => ?_)
    clear hK K
    try simp only [List.getElem_toArray, List.getElem_cons_zero, List.getElem_cons_succ, Act.put, List.setIfInBounds_toArray, List.set_cons_zero, List.set_cons_succ]
    refine wpAnyH_take (i := 21) (oi := _) (v := ?_) rfl (by kernel_rfl) (by kernel_rfl) (by kernel_rfl) (fun _ _ _ h => h) (Or.inl ⟨by rfl, ?_⟩) (by assumption) ?_
    rotate_left 1
    · (intro w hSw; (try dsimp only at hSw); go_simp; try with_reducible rfl)
    try simp only [List.getElem_toArray, List.getElem_cons_zero, List.getElem_cons_succ, Act.put, List.setIfInBounds_toArray, List.set_cons_zero, List.set_cons_succ]
    refine wpAnyH_take (i := 22) (oi := _) (v := ?_) rfl (by kernel_rfl) (by kernel_rfl) (by kernel_rfl) (fun _ _ _ h => h) (Or.inl ⟨by rfl, ?_⟩) (by assumption) ?_
    rotate_left 1
    · (intro w hSw; (try dsimp only at hSw); go_simp; try with_reducible rfl)
    try simp only [List.getElem_toArray, List.getElem_cons_zero, List.getElem_cons_succ, Act.put, List.setIfInBounds_toArray, List.set_cons_zero, List.set_cons_succ]
    refine wpAnyH_take (i := 23) (oi := _) (v := ?_) rfl (by kernel_rfl) (by kernel_rfl) (by kernel_rfl) (fun _ _ _ h => h) (Or.inl ⟨by rfl, ?_⟩) (by assumption) ?_
    rotate_left 1
    · (intro w hSw; (try dsimp only at hSw); go_simp; try with_reducible rfl)
    try simp only [List.getElem_toArray, List.getElem_cons_zero, List.getElem_cons_succ, Act.put, List.setIfInBounds_toArray, List.set_cons_zero, List.set_cons_succ]
    refine wpAnyH_take (i := 24) (oi := _) (v := ?_) rfl (by kernel_rfl) (by kernel_rfl) (by kernel_rfl) (fun _ _ _ h => h) (Or.inl ⟨by rfl, ?_⟩) (by assumption) ?_
    rotate_left 1
    · (intro w hSw; (try dsimp only at hSw); go_simp; try with_reducible rfl)
    try simp only [List.getElem_toArray, List.getElem_cons_zero, List.getElem_cons_succ, Act.put, List.setIfInBounds_toArray, List.set_cons_zero, List.set_cons_succ]
    refine wpAnyH_take (i := 25) (oi := _) (v := ?_) rfl (by kernel_rfl) (by kernel_rfl) (by kernel_rfl) (fun _ _ _ h => h) (Or.inl ⟨by rfl, ?_⟩) (by assumption) ?_
    rotate_left 1
    · (intro w hSw; (try dsimp only at hSw); go_simp; try with_reducible rfl)
    try simp only [List.getElem_toArray, List.getElem_cons_zero, List.getElem_cons_succ, Act.put, List.setIfInBounds_toArray, List.set_cons_zero, List.set_cons_succ]
    refine wpAnyH_take (i := 26) (oi := _) (v := ?_) rfl (by kernel_rfl) (by kernel_rfl) (by kernel_rfl) (fun _ _ _ h => h) (Or.inl ⟨by rfl, ?_⟩) (by assumption) ?_
    rotate_left 1
    · (intro w hSw; (try dsimp only at hSw); go_simp; try with_reducible rfl)
    try simp only [List.getElem_toArray, List.getElem_cons_zero, List.getElem_cons_succ, Act.put, List.setIfInBounds_toArray, List.set_cons_zero, List.set_cons_succ]
    refine wpAnyH_take (i := 28) (oi := _) (v := ?_) rfl (by kernel_rfl) (by kernel_rfl) (by kernel_rfl) (fun _ _ _ h => h) (Or.inl ⟨by rfl, ?_⟩) (by assumption) ?_
    rotate_left 1
    · (intro w hSw; (try dsimp only at hSw); go_simp; try with_reducible rfl)
    try simp only [List.getElem_toArray, List.getElem_cons_zero, List.getElem_cons_succ, Act.put, List.setIfInBounds_toArray, List.set_cons_zero, List.set_cons_succ]
    refine wpAnyH_take (i := 30) (oi := _) (v := ?_) rfl (by kernel_rfl) (by kernel_rfl) (by kernel_rfl) (fun _ _ _ h => h) (Or.inl ⟨by rfl, ?_⟩) (by assumption) ?_
    rotate_left 1
    · (intro w hSw; (try dsimp only at hSw); go_simp; try with_reducible rfl)
    try simp only [List.getElem_toArray, List.getElem_cons_zero, List.getElem_cons_succ, Act.put, List.setIfInBounds_toArray, List.set_cons_zero, List.set_cons_succ]
    refine wpAnyH_ready (rs := [27]) (by kernel_rfl) (by simp) ?_
    refine AllReadyH.cons (o := _) rfl (fun K hK => ?_) AllReadyH.nil
    rw [if_pos (by kernel_rfl)]
    simp only [List.getElem_toArray, List.getElem_cons_zero, List.getElem_cons_succ]
    go_simp
    (with_reducible refine ((containsV U2.out.now.1 U3.out.now.1).mono (OutV.as (congrArg Value.bool HQ.out))).mono ?_)
    rintro e w20 ⟨rfl, hb⟩
    replace HU := Lib.hid (HU.out.next hb)
    replace UX := Lib.hid (UX.out.next hb)
    replace UY := Lib.hid (UY.out.next hb)
    replace UC := Lib.hid (UC.out.next hb)
    replace U2 := Lib.hid (U2.out.next hb)
    replace U3 := Lib.hid (U3.out.next hb)
    replace U4 := Lib.hid (U4.out.next hb)
    replace U5 := Lib.hid (U5.out.next hb)
    replace U6 := Lib.hid (U6.out.next hb)
    replace U7 := Lib.hid (U7.out.next hb)
    clear hb hHeld
    refine hK.out _ _ ⟨U2.out.now.cell, U3.out.now.cell, U4.out.now.cell, U5.out.now.cell, U6.out.now.cell⟩ (fun hHeld => ?_)
    clear hK K
    try simp only [List.getElem_toArray, List.getElem_cons_zero, List.getElem_cons_succ, Act.put, List.setIfInBounds_toArray, List.set_cons_zero, List.set_cons_succ]
    refine wpAnyH_ready (rs := [29]) (by kernel_rfl) (by simp) ?_
    refine AllReadyH.cons (o := _) rfl (fun K hK => ?_) AllReadyH.nil
    rw [if_pos (by kernel_rfl)]
    simp only [List.getElem_toArray, List.getElem_cons_zero, List.getElem_cons_succ]
    go_simp
    (with_reducible refine (s_count (n := cm) U5.out.now.1 (cm : Int) rfl EC.out.2.2.2.1).mono ?_)
    rintro e w21 ⟨rfl, hb⟩
    replace HU := Lib.hid (HU.out.next hb)
    replace UX := Lib.hid (UX.out.next hb)
    replace UY := Lib.hid (UY.out.next hb)
    replace UC := Lib.hid (UC.out.next hb)
    replace U2 := Lib.hid (U2.out.next hb)
    replace U3 := Lib.hid (U3.out.next hb)
    replace U4 := Lib.hid (U4.out.next hb)
    replace U5 := Lib.hid (U5.out.next hb)
    replace U6 := Lib.hid (U6.out.next hb)
    replace U7 := Lib.hid (U7.out.next hb)
    clear hb hHeld
    refine hK.out _ _ ⟨U2.out.now.cell, U3.out.now.cell, U4.out.now.cell, U5.out.now.cell, U6.out.now.cell⟩ (fun hHeld => ?_)
    clear hK K
    try simp only [List.getElem_toArray, List.getElem_cons_zero, List.getElem_cons_succ, Act.put, List.setIfInBounds_toArray, List.set_cons_zero, List.set_cons_succ]
    refine wpAnyH_ready (rs := [31]) (by kernel_rfl) (by simp) ?_
    refine AllReadyH.cons (o := _) rfl (fun K hK => ?_) AllReadyH.nil
    rw [if_pos (by kernel_rfl)]
    simp only [List.getElem_toArray, List.getElem_cons_zero, List.getElem_cons_succ]
    go_simp
    (with_reducible refine (s_count (n := cb) U3.out.now.1 (cb : Int) rfl EC.out.2.1).mono ?_)
    rintro e w22 ⟨rfl, hb⟩
    replace HU := Lib.hid (HU.out.next hb)
    replace UX := Lib.hid (UX.out.next hb)
    replace UY := Lib.hid (UY.out.next hb)
    replace UC := Lib.hid (UC.out.next hb)
    replace U2 := Lib.hid (U2.out.next hb)
    replace U3 := Lib.hid (U3.out.next hb)
    replace U4 := Lib.hid (U4.out.next hb)
    replace U5 := Lib.hid (U5.out.next hb)
    replace U6 := Lib.hid (U6.out.next hb)
    replace U7 := Lib.hid (U7.out.next hb)
    clear hb hHeld
    refine hK.out _ _ ⟨U2.out.now.cell, U3.out.now.cell, U4.out.now.cell, U5.out.now.cell, U6.out.now.cell⟩ (fun hHeld => ?_)
    clear hK K
    try simp only [List.getElem_toArray, List.getElem_cons_zero, List.getElem_cons_succ, Act.put, List.setIfInBounds_toArray, List.set_cons_zero, List.set_cons_succ]
    refine wpAnyH_take (i := 32) (oi := _) (v := ?_) rfl (by kernel_rfl) (by kernel_rfl) (by kernel_rfl) (fun _ _ _ h => h) (Or.inl ⟨by rfl, ?_⟩) (by assumption) ?_
    rotate_left 1
    · (intro w hSw; (try dsimp only at hSw); go_simp; try with_reducible rfl)
    try simp only [List.getElem_toArray, List.getElem_cons_zero, List.getElem_cons_succ, Act.put, List.setIfInBounds_toArray, List.set_cons_zero, List.set_cons_succ]
    refine wpAnyH_take (i := 33) (oi := _) (v := ?_) rfl (by kernel_rfl) (by kernel_rfl) (by kernel_rfl) (fun _ _ _ h => h) (Or.inl ⟨by rfl, ?_⟩) (by assumption) ?_
    rotate_left 1
    · (intro w hSw; (try dsimp only at hSw); go_simp; try with_reducible rfl)
    try simp only [List.getElem_toArray, List.getElem_cons_zero, List.getElem_cons_succ, Act.put, List.setIfInBounds_toArray, List.set_cons_zero, List.set_cons_succ]
    refine wpAnyH_take (i := 34) (oi := _) (v := ?_) rfl (by kernel_rfl) (by kernel_rfl) (by kernel_rfl) (fun _ _ _ h => h) (Or.inl ⟨by rfl, ?_⟩) (by assumption) ?_
    rotate_left 1
    · (intro w hSw; (try dsimp only at hSw); go_simp; try with_reducible rfl)
    try simp only [List.getElem_toArray, List.getElem_cons_zero, List.getElem_cons_succ, Act.put, List.setIfInBounds_toArray, List.set_cons_zero, List.set_cons_succ]
    refine wpAnyH_take (i := 35) (oi := _) (v := ?_) rfl (by kernel_rfl) (by kernel_rfl) (by kernel_rfl) (fun _ _ _ h => h) (Or.inl ⟨by rfl, ?_⟩) (by assumption) ?_
    rotate_left 1
    · (intro w hSw; (try dsimp only at hSw); go_simp; try with_reducible rfl)
    try simp only [List.getElem_toArray, List.getElem_cons_zero, List.getElem_cons_succ, Act.put, List.setIfInBounds_toArray, List.set_cons_zero, List.set_cons_succ]
    refine wpAnyH_take (i := 36) (oi := _) (v := ?_) rfl (by kernel_rfl) (by kernel_rfl) (by kernel_rfl) (fun _ _ _ h => h) (Or.inl ⟨by rfl, ?_⟩) (by assumption) ?_
    rotate_left 1
    · (intro w hSw; (try dsimp only at hSw); go_simp; try with_reducible rfl)
    try simp only [List.getElem_toArray, List.getElem_cons_zero, List.getElem_cons_succ, Act.put, List.setIfInBounds_toArray, List.set_cons_zero, List.set_cons_succ]
    refine wpAnyH_take (i := 37) (oi := _) (v := ?_) rfl (by kernel_rfl) (by kernel_rfl) (by kernel_rfl) (fun _ _ _ h => h) (Or.inl ⟨by rfl, ?_⟩) (by assumption) ?_
    rotate_left 1
    · (intro w hSw; (try dsimp only at hSw); go_simp; try with_reducible rfl)
    try simp only [List.getElem_toArray, List.getElem_cons_zero, List.getElem_cons_succ, Act.put, List.setIfInBounds_toArray, List.set_cons_zero, List.set_cons_succ]
    refine wpAnyH_ready (rs := [38]) (by kernel_rfl) (by simp) ?_
    refine AllReadyH.cons (o := _) rfl (fun K hK => ?_) AllReadyH.nil
    rw [if_pos (by kernel_rfl)]
    simp only [List.getElem_toArray, List.getElem_cons_zero, List.getElem_cons_succ]
    go_simp
    (with_reducible refine (containsY (se_ub a b) U4.out.now.1 U3.out.now.1).mono ?_)
    rintro e w23 ⟨rfl, hb⟩
    replace HU := Lib.hid (HU.out.next hb)
    replace UX := Lib.hid (UX.out.next hb)
    replace UY := Lib.hid (UY.out.next hb)
    replace UC := Lib.hid (UC.out.next hb)
    replace U2 := Lib.hid (U2.out.next hb)
    replace U3 := Lib.hid (U3.out.next hb)
    replace U4 := Lib.hid (U4.out.next hb)
    replace U5 := Lib.hid (U5.out.next hb)
    replace U6 := Lib.hid (U6.out.next hb)
    replace U7 := Lib.hid (U7.out.next hb)
    clear hb hHeld
    refine hK.out _ _ ⟨U2.out.now.cell, U3.out.now.cell, U4.out.now.cell, U5.out.now.cell, U6.out.now.cell⟩ (fun hHeld => ?_)
    clear hK K
    try simp only [List.getElem_toArray, List.getElem_cons_zero, List.getElem_cons_succ, Act.put, List.setIfInBounds_toArray, List.set_cons_zero, List.set_cons_succ]
    refine wpAnyH_take (i := 39) (oi := _) (v := ?_) rfl (by kernel_rfl) (by kernel_rfl) (by kernel_rfl) (fun _ _ _ h => h) (Or.inl ⟨by rfl, ?_⟩) (by assumption) ?_
    rotate_left 1
    · (intro w hSw; (try dsimp only at hSw); go_simp; try with_reducible rfl)
    try simp only [List.getElem_toArray, List.getElem_cons_zero, List.getElem_cons_succ, Act.put, List.setIfInBounds_toArray, List.set_cons_zero, List.set_cons_succ]
    refine wpAnyH_take (i := 40) (oi := _) (v := ?_) rfl (by kernel_rfl) (by kernel_rfl) (by kernel_rfl) (fun _ _ _ h => h) (Or.inl ⟨by rfl, ?_⟩) (by assumption) ?_
    rotate_left 1
    · (intro w hSw; (try dsimp only at hSw); go_simp; try with_reducible rfl)
    try simp only [List.getElem_toArray, List.getElem_cons_zero, List.getElem_cons_succ, Act.put, List.setIfInBounds_toArray, List.set_cons_zero, List.set_cons_succ]
    refine wpAnyH_take (i := 41) (oi := _) (v := ?_) rfl (by kernel_rfl) (by kernel_rfl) (by kernel_rfl) (fun _ _ _ h => h) (Or.inl ⟨by rfl, ?_⟩) (by assumption) ?_
    rotate_left 1
    · (intro w hSw; (try dsimp only at hSw); go_simp; try with_reducible rfl)
    try simp only [List.getElem_toArray, List.getElem_cons_zero, List.getElem_cons_succ, Act.put, List.setIfInBounds_toArray, List.set_cons_zero, List.set_cons_succ]
    refine wpAnyH_take (i := 42) (oi := _) (v := ?_) rfl (by kernel_rfl) (by kernel_rfl) (by kernel_rfl) (fun _ _ _ h => h) (Or.inl ⟨by rfl, ?_⟩) (by assumption) ?_
    rotate_left 1
    · (intro w hSw; (try dsimp only at hSw); go_simp; try with_reducible rfl)
    try simp only [List.getElem_toArray, List.getElem_cons_zero, List.getElem_cons_succ, Act.put, List.setIfInBounds_toArray, List.set_cons_zero, List.set_cons_succ]
    refine wpAnyH_ready (rs := [43]) (by kernel_rfl) (by simp) ?_
    refine AllReadyH.cons (o := _) rfl (fun K hK => ?_) AllReadyH.nil
    rw [if_pos (by kernel_rfl)]
    simp only [List.getElem_toArray, List.getElem_cons_zero, List.getElem_cons_succ]
    go_simp
    (with_reducible refine (containsY (se_bm a b) U3.out.now.1 U5.out.now.1).mono ?_)
    rintro e w24 ⟨rfl, hb⟩
    replace HU := Lib.hid (HU.out.next hb)
    replace UX := Lib.hid (UX.out.next hb)
    replace UY := Lib.hid (UY.out.next hb)
    replace UC := Lib.hid (UC.out.next hb)
    replace U2 := Lib.hid (U2.out.next hb)
    replace U3 := Lib.hid (U3.out.next hb)
    replace U4 := Lib.hid (U4.out.next hb)
    replace U5 := Lib.hid (U5.out.next hb)
    replace U6 := Lib.hid (U6.out.next hb)
    replace U7 := Lib.hid (U7.out.next hb)
    clear hb hHeld
    refine hK.out _ _ ⟨U2.out.now.cell, U3.out.now.cell, U4.out.now.cell, U5.out.now.cell, U6.out.now.cell⟩ (fun hHeld => ?_)
    clear hK K
    try simp only [List.getElem_toArray, List.getElem_cons_zero, List.getElem_cons_succ, Act.put, List.setIfInBounds_toArray, List.set_cons_zero, List.set_cons_succ]
    refine wpAnyH_take (i := 44) (oi := _) (v := ?_) rfl (by kernel_rfl) (by kernel_rfl) (by kernel_rfl) (fun _ _ _ h => h) (Or.inl ⟨by rfl, ?_⟩) (by assumption) ?_
    rotate_left 1
    · (intro w hSw; (try dsimp only at hSw); go_simp; try with_reducible rfl)
    try simp only [List.getElem_toArray, List.getElem_cons_zero, List.getElem_cons_succ, Act.put, List.setIfInBounds_toArray, List.set_cons_zero, List.set_cons_succ]
    refine wpAnyH_take (i := 45) (oi := _) (v := ?_) rfl (by kernel_rfl) (by kernel_rfl) (by kernel_rfl) (fun _ _ _ h => h) (Or.inl ⟨by rfl, ?_⟩) (by assumption) ?_
    rotate_left 1
    · (intro w hSw; (try dsimp only at hSw); go_simp; try with_reducible rfl)
    try simp only [List.getElem_toArray, List.getElem_cons_zero, List.getElem_cons_succ, Act.put, List.setIfInBounds_toArray, List.set_cons_zero, List.set_cons_succ]
    refine wpAnyH_done (by kernel_rfl) ?_ _
    clear e1 e2 e3 hq2
    go_wp2
    go_ret
    exact ⟨rfl, HU.out.now.1⟩
end Go.Proofs.YtipfafglbkbafaaDoor
