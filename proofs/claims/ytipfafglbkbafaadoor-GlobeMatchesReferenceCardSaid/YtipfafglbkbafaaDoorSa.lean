/- sane: the chapter's examples, answered as they stand. -/
import Derived.Test.YtipfafglbkbafaaDoorLk
namespace Go.Proofs.YtipfafglbkbafaaDoor
open Go.RowKit Go.Shelf
set_option linter.unusedVariables false
set_option linter.unusedSimpArgs false

def sB : Ar := box 46 3 4 2
def sS : Ar := turn sB 3
def sO : Ar := putA nul 0 0
def sW : Ar := grown sO 2
theorem c_sB : count sB = 8 := count_box (by decide) (by decide) (by decide)
def sW2 : Ar := crossA (wideA (crossA (wideA sO) 24)) 24
theorem e_sW : Eqv sW sW2 := by
  have h1 := cross_wide sO
  have h2 : Eqv (wideA (crossA (wideA sO) 24)) (wideA (grown sO 1)) := fun x y hx hy => by
    show (crossA (wideA sO) 24 x y || (crossA (wideA sO) 24 ((x + (48 - 1)) % 48) y || crossA (wideA sO) 24 ((x + (48 - 47)) % 48) y)) = (grown sO 1 x y || (grown sO 1 ((x + (48 - 1)) % 48) y || grown sO 1 ((x + (48 - 47)) % 48) y))
    rw [h1 _ _ hx hy, h1 _ _ (Nat.mod_lt _ (by decide)) hy, h1 _ _ (Nat.mod_lt _ (by decide)) hy]
  have h3 : Eqv sW2 (crossA (wideA (grown sO 1)) 24) := fun x y hx hy => by
    unfold sW2
    rw [Bool.eq_iff_iff, cross_iff hy, cross_iff hy]
    constructor
    · rintro ⟨b, hb, h, hd⟩; exact ⟨b, hb, (h2 x b hx hb) ▸ h, hd⟩
    · rintro ⟨b, hb, h, hd⟩; exact ⟨b, hb, (h2 x b hx hb).symm ▸ h, hd⟩
  exact (h3.trans (grown_next sO 1)).symm
theorem c_sW2 : count sW2 = 15 := by decide +kernel
theorem c_sW : count sW = 15 := (count_eqv e_sW).trans c_sW2
theorem c_sU : count (orA sB sS) = 14 := by decide +kernel
theorem c_sM : count (andA sB sS) = 2 := by decide +kernel
theorem c_sL : count (lessA sB sS) = 6 := by decide +kernel
theorem r_sB3 : rowOf sB 3 = 211106232532995 := by decide +kernel
theorem r_sB4 : rowOf sB 4 = 211106232532995 := by decide +kernel
theorem r_sB5 : rowOf sB 5 = 0 := by decide +kernel
theorem r_sS3 : rowOf sS 3 = 30 := by decide +kernel
theorem r_sS4 : rowOf sS 4 = 30 := by decide +kernel
theorem h_b1 : sB 0 4 = true := by decide +kernel
theorem h_b2 : sB 2 4 = false := by decide +kernel
theorem k_ub : (rowsOf (andA (orA sB sS) sB) == rowsOf sB) = true := by decide +kernel
theorem k_bu : (rowsOf (andA sB (orA sB sS)) == rowsOf (orA sB sS)) = false := by decide +kernel
theorem s_bs : decide (rz sB = rz sS) = false := by decide +kernel
theorem n_1 : near 46 3 1 5 = 3 := by decide
theorem n_2 : near 0 0 24 0 = 24 := by decide
theorem l_b : (cellsTo sB 24).length = 8 := (cells_len sB).trans c_sB
section
variable {w : World} {b o c : Nat} {f : Ar}
theorem s_box (w : World) : Calls Tryd.prog 19 #[CV 46 3, .int .i64 4, .int .i64 2] w (OutF w sB) := boxV w 46 3 4 2 (by decide) (by decide) (by decide) (by decide) (by decide)
theorem s_grown (h : SA w (some ⟨b, o, none⟩) 24 f) : Calls Tryd.prog 35 #[.agg #[.slice (some ⟨b, o, none⟩) 24 c], .int .i64 2] w (OutF w (grown f 2)) := grownV 2 (by decide) h
theorem s_with (h : SA w (some ⟨b, o, none⟩) 24 f) : Calls Tryd.prog 29 #[.agg #[.slice (some ⟨b, o, none⟩) 24 c], CV 0 0] w (OutF w (putA f 0 0)) := withV 0 0 (by decide) (by decide) h
theorem s_has0 (h : SA w (some ⟨b, o, none⟩) 24 sB) : Calls Tryd.prog 31 #[.agg #[.slice (some ⟨b, o, none⟩) 24 c], CV 0 4] w (OutV w (.bool true)) := (hasV 0 4 (by decide) (by decide) h).mono (OutV.as (congrArg Value.bool h_b1))
theorem s_has2 (h : SA w (some ⟨b, o, none⟩) 24 sB) : Calls Tryd.prog 31 #[.agg #[.slice (some ⟨b, o, none⟩) 24 c], CV 2 4] w (OutV w (.bool false)) := (hasV 2 4 (by decide) (by decide) h).mono (OutV.as (congrArg Value.bool h_b2))
theorem s_near1 (w : World) : Calls Tryd.prog 17 #[CV 46 3, CV 1 5] w (OutV w (.int .i64 3)) := (nearV w 46 3 1 5 (by decide) (by decide) (by decide) (by decide)).mono (OutV.as (congrArg (fun r : Nat => Value.int .i64 (r : Int)) n_1))
theorem s_near2 (w : World) : Calls Tryd.prog 17 #[CV 0 0, CV 24 0] w (OutV w (.int .i64 24)) := (nearV w 0 0 24 0 (by decide) (by decide) (by decide) (by decide)).mono (OutV.as (congrArg (fun r : Nat => Value.int .i64 (r : Int)) n_2))
theorem s_count {n : Nat} (h : SA w (some ⟨b, o, none⟩) 24 f) (z : Int) (hz : z = (n : Int)) (hn : count f = n) : Calls Tryd.prog 24 #[.agg #[.slice (some ⟨b, o, none⟩) 24 c]] w (OutV w (.int .i64 z)) := (countV h).mono (OutV.as (by rw [hn, hz]))
theorem s_vc0 (w : World) : Calls Tryd.prog 15 #[CV 0 0] w (OutV w (.bool true)) := vcellV w 0 0
theorem s_vc1 (w : World) : Calls Tryd.prog 15 #[CV (-1) 0] w (OutV w (.bool false)) := vcellV w (-1) 0
theorem s_cells (h : SA w (some ⟨b, o, none⟩) 24 sB) (hT : Tab w) : Calls Tryd.prog 27 #[.agg #[.slice (some ⟨b, o, none⟩) 24 c]] w fun e w' => ∃ rl rc, e = .returned (.slice rl 8 rc) ∧ Below w.heap.size w w' :=
  (cellsV h hT).mono fun _ _ h => by
    obtain ⟨rl, rc, he, _, hb⟩ := h
    rw [l_b] at he
    exact ⟨rl, rc, he, hb⟩
end
set_option maxRecDepth 100000 in
set_option maxHeartbeats 8000000 in
theorem sane_any (w : World) (hT : Tab w) : Calls Tryd.prog 10 #[] w (OutV w (.bool true)) := by
  have HU := Lib.hid (up_vb (Below.refl w.heap.size w) hT : Up w (VB w))
  clear hT
  go_enter Tryd.func10, Tryd.ntmps10
  go_wp2_with fail
  (with_reducible refine (s_box w).mono ?_)
  rintro e w1 ⟨b1, o1, c1, rfl, hs, hb⟩
  replace HU := Lib.hid (HU.out.next hb)
  obtain ⟨x1, B1, e1, e2, hb2, hk⟩ := box1 w1 #[.slice (some ⟨b1, o1, none⟩) 24 c1] 25
  have U1 := Lib.hid (up_va (Sl.below hs (Nat.le_refl _) hb2) hk : Up x1 (VA B1 b1 o1 c1 (sB)))
  replace HU := Lib.hid (HU.out.next hb2)
  clear hs hb hb2 hk
  have hl0 := U1.out.now.cell
  go_wp2_with fail
  clear e1 e2
  clear hl0
  (with_reducible refine (shiftedV (3 : Int) U1.out.now.1).mono ?_)
  rintro e w2 ⟨b2, o2, c2, rfl, hs, hb⟩
  replace HU := Lib.hid (HU.out.next hb)
  replace U1 := Lib.hid (U1.out.next hb)
  obtain ⟨x2, B2, e1, e2, hb2, hk⟩ := box1 w2 #[.slice (some ⟨b2, o2, none⟩) 24 c2] 25
  have U2 := Lib.hid (up_va (Sl.below hs (Nat.le_refl _) hb2) hk : Up x2 (VA B2 b2 o2 c2 (sS)))
  replace HU := Lib.hid (HU.out.next hb2)
  replace U1 := Lib.hid (U1.out.next hb2)
  clear hs hb hb2 hk
  go_wp2_with fail
  clear e1 e2
  (with_reducible refine (emptyV _).mono ?_)
  rintro e w3 ⟨bq, oq, cq, rfl, hsq, hb⟩
  replace HU := Lib.hid (HU.out.next hb)
  replace U1 := Lib.hid (U1.out.next hb)
  replace U2 := Lib.hid (U2.out.next hb)
  clear hb
  go_wp2_with fail
  (with_reducible refine (s_with hsq).mono ?_)
  rintro e w4 ⟨b4, o4, c4, rfl, hs, hb⟩
  replace HU := Lib.hid (HU.out.next hb)
  replace U1 := Lib.hid (U1.out.next hb)
  replace U2 := Lib.hid (U2.out.next hb)
  obtain ⟨x4, B4, e1, e2, hb2, hk⟩ := box1 w4 #[.slice (some ⟨b4, o4, none⟩) 24 c4] 25
  have U4 := Lib.hid (up_va (Sl.below hs (Nat.le_refl _) hb2) hk : Up x4 (VA B4 b4 o4 c4 (sO)))
  replace HU := Lib.hid (HU.out.next hb2)
  replace U1 := Lib.hid (U1.out.next hb2)
  replace U2 := Lib.hid (U2.out.next hb2)
  clear hs hb hb2 hk
  clear hsq
  have hl0 := U4.out.now.cell
  go_wp2_with fail
  clear e1 e2
  clear hl0
  (with_reducible refine (s_grown U4.out.now.1).mono ?_)
  rintro e w5 ⟨b5, o5, c5, rfl, hs, hb⟩
  replace HU := Lib.hid (HU.out.next hb)
  replace U1 := Lib.hid (U1.out.next hb)
  replace U2 := Lib.hid (U2.out.next hb)
  replace U4 := Lib.hid (U4.out.next hb)
  obtain ⟨x5, B5, e1, e2, hb2, hk⟩ := box1 w5 #[.slice (some ⟨b5, o5, none⟩) 24 c5] 25
  have U5 := Lib.hid (up_va (Sl.below hs (Nat.le_refl _) hb2) hk : Up x5 (VA B5 b5 o5 c5 (sW)))
  replace HU := Lib.hid (HU.out.next hb2)
  replace U1 := Lib.hid (U1.out.next hb2)
  replace U2 := Lib.hid (U2.out.next hb2)
  replace U4 := Lib.hid (U4.out.next hb2)
  clear hs hb hb2 hk
  go_wp2_with fail
  clear e1 e2
  (with_reducible refine (boxX _ 0 23 1 2 (by decide)).mono ?_)
  rintro e w6 ⟨c6, al6, rfl, hb⟩
  replace HU := Lib.hid (HU.out.next hb)
  replace U1 := Lib.hid (U1.out.next hb)
  replace U2 := Lib.hid (U2.out.next hb)
  replace U4 := Lib.hid (U4.out.next hb)
  replace U5 := Lib.hid (U5.out.next hb)
  obtain ⟨x6, B6, e1, e2, hb2, hk⟩ := box1 w6 #[.slice al6 0 c6] 25
  replace HU := Lib.hid (HU.out.next hb2)
  replace U1 := Lib.hid (U1.out.next hb2)
  replace U2 := Lib.hid (U2.out.next hb2)
  replace U4 := Lib.hid (U4.out.next hb2)
  replace U5 := Lib.hid (U5.out.next hb2)
  clear hb hb2 hk
  have hl0 := U4.out.now.cell
  go_wp2_with fail
  clear e1 e2
  clear hl0
  (with_reducible refine (grownX (25 : Int) (by decide) U4.out.now.1).mono ?_)
  rintro e w7 ⟨c7, al7, rfl, hb⟩
  replace HU := Lib.hid (HU.out.next hb)
  replace U1 := Lib.hid (U1.out.next hb)
  replace U2 := Lib.hid (U2.out.next hb)
  replace U4 := Lib.hid (U4.out.next hb)
  replace U5 := Lib.hid (U5.out.next hb)
  obtain ⟨x7, B7, e1, e2, hb2, hk⟩ := box1 w7 #[.slice al7 0 c7] 25
  replace HU := Lib.hid (HU.out.next hb2)
  replace U1 := Lib.hid (U1.out.next hb2)
  replace U2 := Lib.hid (U2.out.next hb2)
  replace U4 := Lib.hid (U4.out.next hb2)
  replace U5 := Lib.hid (U5.out.next hb2)
  clear hb hb2 hk
  have hl0 := U1.out.now.cell
  have hl1 := U2.out.now.cell
  have hl2 := (U1.out.now.row (y := 3) (by decide)).trans (congrArg (fun r => some (iV r)) r_sB3)
  have hl3 := (U1.out.now.row (y := 4) (by decide)).trans (congrArg (fun r => some (iV r)) r_sB4)
  have hl4 := (U1.out.now.row (y := 5) (by decide)).trans (congrArg (fun r => some (iV r)) r_sB5)
  have hl5 := (U2.out.now.row (y := 3) (by decide)).trans (congrArg (fun r => some (iV r)) r_sS3)
  have hl6 := (U2.out.now.row (y := 4) (by decide)).trans (congrArg (fun r => some (iV r)) r_sS4)
  go_wp2_with fail
  clear e1 e2
  clear hl0 hl1 hl2 hl3 hl4 hl5 hl6
  (with_reducible refine (s_near1 _).mono ?_)
  rintro e w8 ⟨rfl, hb⟩
  replace HU := Lib.hid (HU.out.next hb)
  replace U1 := Lib.hid (U1.out.next hb)
  replace U2 := Lib.hid (U2.out.next hb)
  replace U4 := Lib.hid (U4.out.next hb)
  replace U5 := Lib.hid (U5.out.next hb)
  clear hb
  go_wp2_with fail
  (with_reducible refine (s_near2 _).mono ?_)
  rintro e w9 ⟨rfl, hb⟩
  replace HU := Lib.hid (HU.out.next hb)
  replace U1 := Lib.hid (U1.out.next hb)
  replace U2 := Lib.hid (U2.out.next hb)
  replace U4 := Lib.hid (U4.out.next hb)
  replace U5 := Lib.hid (U5.out.next hb)
  clear hb
  go_wp2_with fail
  (with_reducible refine (nearX _ 48 0 0 0 (.inl (by decide))).mono ?_)
  rintro e w10 ⟨rfl, hb⟩
  replace HU := Lib.hid (HU.out.next hb)
  replace U1 := Lib.hid (U1.out.next hb)
  replace U2 := Lib.hid (U2.out.next hb)
  replace U4 := Lib.hid (U4.out.next hb)
  replace U5 := Lib.hid (U5.out.next hb)
  clear hb
  have hl0 := U1.out.now.cell
  have hl1 := U2.out.now.cell
  go_wp2_with fail
  clear hl0 hl1
  (with_reducible refine (unionV U1.out.now.1 U2.out.now.1).mono ?_)
  rintro e w11 ⟨b11, o11, c11, rfl, hs, hb⟩
  replace HU := Lib.hid (HU.out.next hb)
  replace U1 := Lib.hid (U1.out.next hb)
  replace U2 := Lib.hid (U2.out.next hb)
  replace U4 := Lib.hid (U4.out.next hb)
  replace U5 := Lib.hid (U5.out.next hb)
  obtain ⟨x11, B11, e1, e2, hb2, hk⟩ := box1 w11 #[.slice (some ⟨b11, o11, none⟩) 24 c11] 25
  have U11 := Lib.hid (up_va (Sl.below hs (Nat.le_refl _) hb2) hk : Up x11 (VA B11 b11 o11 c11 (orA sB sS)))
  replace HU := Lib.hid (HU.out.next hb2)
  replace U1 := Lib.hid (U1.out.next hb2)
  replace U2 := Lib.hid (U2.out.next hb2)
  replace U4 := Lib.hid (U4.out.next hb2)
  replace U5 := Lib.hid (U5.out.next hb2)
  clear hs hb hb2 hk
  have hl0 := U1.out.now.cell
  have hl1 := U2.out.now.cell
  go_wp2_with fail
  clear e1 e2
  clear hl0 hl1
  (with_reducible refine (meetV U1.out.now.1 U2.out.now.1).mono ?_)
  rintro e w12 ⟨b12, o12, c12, rfl, hs, hb⟩
  replace HU := Lib.hid (HU.out.next hb)
  replace U1 := Lib.hid (U1.out.next hb)
  replace U2 := Lib.hid (U2.out.next hb)
  replace U4 := Lib.hid (U4.out.next hb)
  replace U5 := Lib.hid (U5.out.next hb)
  replace U11 := Lib.hid (U11.out.next hb)
  obtain ⟨x12, B12, e1, e2, hb2, hk⟩ := box1 w12 #[.slice (some ⟨b12, o12, none⟩) 24 c12] 25
  have U12 := Lib.hid (up_va (Sl.below hs (Nat.le_refl _) hb2) hk : Up x12 (VA B12 b12 o12 c12 (andA sB sS)))
  replace HU := Lib.hid (HU.out.next hb2)
  replace U1 := Lib.hid (U1.out.next hb2)
  replace U2 := Lib.hid (U2.out.next hb2)
  replace U4 := Lib.hid (U4.out.next hb2)
  replace U5 := Lib.hid (U5.out.next hb2)
  replace U11 := Lib.hid (U11.out.next hb2)
  clear hs hb hb2 hk
  have hl0 := U1.out.now.cell
  have hl1 := U2.out.now.cell
  go_wp2_with fail
  clear e1 e2
  clear hl0 hl1
  (with_reducible refine (lessV U1.out.now.1 U2.out.now.1).mono ?_)
  rintro e w13 ⟨b13, o13, c13, rfl, hs, hb⟩
  replace HU := Lib.hid (HU.out.next hb)
  replace U1 := Lib.hid (U1.out.next hb)
  replace U2 := Lib.hid (U2.out.next hb)
  replace U4 := Lib.hid (U4.out.next hb)
  replace U5 := Lib.hid (U5.out.next hb)
  replace U11 := Lib.hid (U11.out.next hb)
  replace U12 := Lib.hid (U12.out.next hb)
  obtain ⟨x13, B13, e1, e2, hb2, hk⟩ := box1 w13 #[.slice (some ⟨b13, o13, none⟩) 24 c13] 25
  have U13 := Lib.hid (up_va (Sl.below hs (Nat.le_refl _) hb2) hk : Up x13 (VA B13 b13 o13 c13 (lessA sB sS)))
  replace HU := Lib.hid (HU.out.next hb2)
  replace U1 := Lib.hid (U1.out.next hb2)
  replace U2 := Lib.hid (U2.out.next hb2)
  replace U4 := Lib.hid (U4.out.next hb2)
  replace U5 := Lib.hid (U5.out.next hb2)
  replace U11 := Lib.hid (U11.out.next hb2)
  replace U12 := Lib.hid (U12.out.next hb2)
  clear hs hb hb2 hk
  have hl0 := U1.out.now.cell
  go_wp2_with fail
  clear e1 e2
  clear hl0
  (with_reducible refine (s_count (n := 8) U1.out.now.1 8 rfl c_sB).mono ?_)
  rintro e w14 ⟨rfl, hb⟩
  replace HU := Lib.hid (HU.out.next hb)
  replace U1 := Lib.hid (U1.out.next hb)
  replace U2 := Lib.hid (U2.out.next hb)
  replace U4 := Lib.hid (U4.out.next hb)
  replace U5 := Lib.hid (U5.out.next hb)
  replace U11 := Lib.hid (U11.out.next hb)
  replace U12 := Lib.hid (U12.out.next hb)
  replace U13 := Lib.hid (U13.out.next hb)
  clear hb
  have hl0 := U5.out.now.cell
  go_wp2_with fail
  clear hl0
  (with_reducible refine (s_count (n := 15) U5.out.now.1 15 rfl c_sW).mono ?_)
  rintro e w15 ⟨rfl, hb⟩
  replace HU := Lib.hid (HU.out.next hb)
  replace U1 := Lib.hid (U1.out.next hb)
  replace U2 := Lib.hid (U2.out.next hb)
  replace U4 := Lib.hid (U4.out.next hb)
  replace U5 := Lib.hid (U5.out.next hb)
  replace U11 := Lib.hid (U11.out.next hb)
  replace U12 := Lib.hid (U12.out.next hb)
  replace U13 := Lib.hid (U13.out.next hb)
  clear hb
  have hl0 := U11.out.now.cell
  go_wp2_with fail
  clear hl0
  (with_reducible refine (s_count (n := 14) U11.out.now.1 14 rfl c_sU).mono ?_)
  rintro e w16 ⟨rfl, hb⟩
  replace HU := Lib.hid (HU.out.next hb)
  replace U1 := Lib.hid (U1.out.next hb)
  replace U2 := Lib.hid (U2.out.next hb)
  replace U4 := Lib.hid (U4.out.next hb)
  replace U5 := Lib.hid (U5.out.next hb)
  replace U11 := Lib.hid (U11.out.next hb)
  replace U12 := Lib.hid (U12.out.next hb)
  replace U13 := Lib.hid (U13.out.next hb)
  clear hb
  have hl0 := U12.out.now.cell
  go_wp2_with fail
  clear hl0
  (with_reducible refine (s_count (n := 2) U12.out.now.1 2 rfl c_sM).mono ?_)
  rintro e w17 ⟨rfl, hb⟩
  replace HU := Lib.hid (HU.out.next hb)
  replace U1 := Lib.hid (U1.out.next hb)
  replace U2 := Lib.hid (U2.out.next hb)
  replace U4 := Lib.hid (U4.out.next hb)
  replace U5 := Lib.hid (U5.out.next hb)
  replace U11 := Lib.hid (U11.out.next hb)
  replace U12 := Lib.hid (U12.out.next hb)
  replace U13 := Lib.hid (U13.out.next hb)
  clear hb
  have hl0 := U13.out.now.cell
  go_wp2_with fail
  clear hl0
  (with_reducible refine (s_count (n := 6) U13.out.now.1 6 rfl c_sL).mono ?_)
  rintro e w18 ⟨rfl, hb⟩
  replace HU := Lib.hid (HU.out.next hb)
  replace U1 := Lib.hid (U1.out.next hb)
  replace U2 := Lib.hid (U2.out.next hb)
  replace U4 := Lib.hid (U4.out.next hb)
  replace U5 := Lib.hid (U5.out.next hb)
  replace U11 := Lib.hid (U11.out.next hb)
  replace U12 := Lib.hid (U12.out.next hb)
  replace U13 := Lib.hid (U13.out.next hb)
  clear hb
  have hl0 := U1.out.now.cell
  go_wp2_with fail
  clear hl0
  (with_reducible refine (s_cells U1.out.now.1 HU.out.now.2).mono ?_)
  rintro e w19 ⟨rl, rc, rfl, hb⟩
  replace HU := Lib.hid (HU.out.next hb)
  replace U1 := Lib.hid (U1.out.next hb)
  replace U2 := Lib.hid (U2.out.next hb)
  replace U4 := Lib.hid (U4.out.next hb)
  replace U5 := Lib.hid (U5.out.next hb)
  replace U11 := Lib.hid (U11.out.next hb)
  replace U12 := Lib.hid (U12.out.next hb)
  replace U13 := Lib.hid (U13.out.next hb)
  clear hb
  have hl0 := U1.out.now.cell
  go_wp2_with fail
  clear hl0
  (with_reducible refine (s_has0 U1.out.now.1).mono ?_)
  rintro e w20 ⟨rfl, hb⟩
  replace HU := Lib.hid (HU.out.next hb)
  replace U1 := Lib.hid (U1.out.next hb)
  replace U2 := Lib.hid (U2.out.next hb)
  replace U4 := Lib.hid (U4.out.next hb)
  replace U5 := Lib.hid (U5.out.next hb)
  replace U11 := Lib.hid (U11.out.next hb)
  replace U12 := Lib.hid (U12.out.next hb)
  replace U13 := Lib.hid (U13.out.next hb)
  clear hb
  have hl0 := U1.out.now.cell
  go_wp2_with fail
  clear hl0
  (with_reducible refine (s_has2 U1.out.now.1).mono ?_)
  rintro e w21 ⟨rfl, hb⟩
  replace HU := Lib.hid (HU.out.next hb)
  replace U1 := Lib.hid (U1.out.next hb)
  replace U2 := Lib.hid (U2.out.next hb)
  replace U4 := Lib.hid (U4.out.next hb)
  replace U5 := Lib.hid (U5.out.next hb)
  replace U11 := Lib.hid (U11.out.next hb)
  replace U12 := Lib.hid (U12.out.next hb)
  replace U13 := Lib.hid (U13.out.next hb)
  clear hb
  have hl0 := U11.out.now.cell
  have hl1 := U1.out.now.cell
  go_wp2_with fail
  clear hl0 hl1
  (with_reducible refine ((containsV U11.out.now.1 U1.out.now.1).mono (OutV.as (congrArg Value.bool k_ub))).mono ?_)
  rintro e w22 ⟨rfl, hb⟩
  replace HU := Lib.hid (HU.out.next hb)
  replace U1 := Lib.hid (U1.out.next hb)
  replace U2 := Lib.hid (U2.out.next hb)
  replace U4 := Lib.hid (U4.out.next hb)
  replace U5 := Lib.hid (U5.out.next hb)
  replace U11 := Lib.hid (U11.out.next hb)
  replace U12 := Lib.hid (U12.out.next hb)
  replace U13 := Lib.hid (U13.out.next hb)
  clear hb
  have hl0 := U1.out.now.cell
  have hl1 := U11.out.now.cell
  go_wp2_with fail
  clear hl0 hl1
  (with_reducible refine ((containsV U1.out.now.1 U11.out.now.1).mono (OutV.as (congrArg Value.bool k_bu))).mono ?_)
  rintro e w23 ⟨rfl, hb⟩
  replace HU := Lib.hid (HU.out.next hb)
  replace U1 := Lib.hid (U1.out.next hb)
  replace U2 := Lib.hid (U2.out.next hb)
  replace U4 := Lib.hid (U4.out.next hb)
  replace U5 := Lib.hid (U5.out.next hb)
  replace U11 := Lib.hid (U11.out.next hb)
  replace U12 := Lib.hid (U12.out.next hb)
  replace U13 := Lib.hid (U13.out.next hb)
  clear hb
  have hl0 := U1.out.now.cell
  go_wp2_with fail
  clear hl0
  (with_reducible refine (validV U1.out.now.1).mono ?_)
  rintro e w24 ⟨rfl, hb⟩
  replace HU := Lib.hid (HU.out.next hb)
  replace U1 := Lib.hid (U1.out.next hb)
  replace U2 := Lib.hid (U2.out.next hb)
  replace U4 := Lib.hid (U4.out.next hb)
  replace U5 := Lib.hid (U5.out.next hb)
  replace U11 := Lib.hid (U11.out.next hb)
  replace U12 := Lib.hid (U12.out.next hb)
  replace U13 := Lib.hid (U13.out.next hb)
  clear hb
  go_wp2_with fail
  (with_reducible refine (validN _).mono ?_)
  rintro e w25 ⟨rfl, hb⟩
  replace HU := Lib.hid (HU.out.next hb)
  replace U1 := Lib.hid (U1.out.next hb)
  replace U2 := Lib.hid (U2.out.next hb)
  replace U4 := Lib.hid (U4.out.next hb)
  replace U5 := Lib.hid (U5.out.next hb)
  replace U11 := Lib.hid (U11.out.next hb)
  replace U12 := Lib.hid (U12.out.next hb)
  replace U13 := Lib.hid (U13.out.next hb)
  clear hb
  go_wp2_with fail
  (with_reducible refine (s_vc0 _).mono ?_)
  rintro e w26 ⟨rfl, hb⟩
  replace HU := Lib.hid (HU.out.next hb)
  replace U1 := Lib.hid (U1.out.next hb)
  replace U2 := Lib.hid (U2.out.next hb)
  replace U4 := Lib.hid (U4.out.next hb)
  replace U5 := Lib.hid (U5.out.next hb)
  replace U11 := Lib.hid (U11.out.next hb)
  replace U12 := Lib.hid (U12.out.next hb)
  replace U13 := Lib.hid (U13.out.next hb)
  clear hb
  go_wp2_with fail
  (with_reducible refine (s_vc1 _).mono ?_)
  rintro e w27 ⟨rfl, hb⟩
  replace HU := Lib.hid (HU.out.next hb)
  replace U1 := Lib.hid (U1.out.next hb)
  replace U2 := Lib.hid (U2.out.next hb)
  replace U4 := Lib.hid (U4.out.next hb)
  replace U5 := Lib.hid (U5.out.next hb)
  replace U11 := Lib.hid (U11.out.next hb)
  replace U12 := Lib.hid (U12.out.next hb)
  replace U13 := Lib.hid (U13.out.next hb)
  clear hb
  have hl0 := U1.out.now.cell
  go_wp2_with fail
  clear hl0
  (with_reducible refine ((sameV U1.out.now.1 U1.out.now.1).mono (OutV.as (congrArg Value.bool (decide_eq_true rfl)))).mono ?_)
  rintro e w28 ⟨rfl, hb⟩
  replace HU := Lib.hid (HU.out.next hb)
  replace U1 := Lib.hid (U1.out.next hb)
  replace U2 := Lib.hid (U2.out.next hb)
  replace U4 := Lib.hid (U4.out.next hb)
  replace U5 := Lib.hid (U5.out.next hb)
  replace U11 := Lib.hid (U11.out.next hb)
  replace U12 := Lib.hid (U12.out.next hb)
  replace U13 := Lib.hid (U13.out.next hb)
  clear hb
  have hl0 := U1.out.now.cell
  have hl1 := U2.out.now.cell
  go_wp2_with fail
  clear hl0 hl1
  (with_reducible refine ((sameV U1.out.now.1 U2.out.now.1).mono (OutV.as (congrArg Value.bool s_bs))).mono ?_)
  rintro e w29 ⟨rfl, hb⟩
  replace HU := Lib.hid (HU.out.next hb)
  replace U1 := Lib.hid (U1.out.next hb)
  replace U2 := Lib.hid (U2.out.next hb)
  replace U4 := Lib.hid (U4.out.next hb)
  replace U5 := Lib.hid (U5.out.next hb)
  replace U11 := Lib.hid (U11.out.next hb)
  replace U12 := Lib.hid (U12.out.next hb)
  replace U13 := Lib.hid (U13.out.next hb)
  clear hb
  go_wp2
  go_ret
  exact ⟨rfl, HU.out.now.1⟩
end Go.Proofs.YtipfafglbkbafaaDoor
