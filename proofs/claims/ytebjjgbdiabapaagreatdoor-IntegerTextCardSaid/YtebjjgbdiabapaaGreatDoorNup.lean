/- The sum of two numbers with signs, walked. -/
import Derived.Deep.RegionHeld3
import Derived.Deep.RegionLaw
import Derived.Test.YtebjjgbdiabapaaGreatDoorNum
namespace Go.Proofs.YtebjjgbdiabapaaGreatDoor
open Go.RowKit

/-- Three blocks of two cells that a call makes first: two numbers, and the place of its result. -/
abbrev boxes (w : World) (b1 b2 : Bool) (s1 s2 : Value) : World :=
  ((w.alloc (.cells #[.bool b1, s1] 49)).alloc (.cells #[.bool b2, s2] 49)).alloc (.cells #[.bool false, .slice none 0 0] 49)
theorem boxes_below (w : World) (b1 b2 : Bool) (s1 s2 : Value) : Below w.heap.size w (boxes w b1 b2 s1 s2) := (((Below.refl w.heap.size w).alloc (Nat.le_refl _) _).alloc (by simp) _).alloc (by simp; omega) _
theorem boxes_heap (w : World) (b1 b2 : Bool) (s1 s2 : Value) : (boxes w b1 b2 s1 s2).heap[w.heap.size]? = some (.cells #[.bool b1, s1] 49) ∧ (boxes w b1 b2 s1 s2).heap[w.heap.size + 1]? = some (.cells #[.bool b2, s2] 49) ∧
    (boxes w b1 b2 s1 s2).heap[w.heap.size + 1 + 1]? = some (.cells #[.bool false, .slice none 0 0] 49) := by
  refine ⟨?_, ?_, heap_new' _ _ _ (by simp)⟩
  · exact (Below.heap_alloc _ _ _ (by simp; omega)).trans ((Below.heap_alloc _ _ _ (by simp)).trans (heap_new' _ _ _ rfl))
  · exact (Below.heap_alloc _ _ _ (by simp)).trans (heap_new' _ _ _ (by simp))
theorem boxes_size (w : World) (b1 b2 : Bool) (s1 s2 : Value) : (boxes w b1 b2 s1 s2).heap.size = w.heap.size + 3 := by simp
/-- What the first two blocks hold, in a world that has kept them. -/
abbrev Two (w w' : World) (b1 b2 : Bool) (s1 s2 : Value) : Prop :=
  w'.cell? ⟨w.heap.size, 0, none⟩ = some (.bool b1) ∧ w'.cell? ⟨w.heap.size, 1, none⟩ = some s1 ∧ w'.cell? ⟨w.heap.size + 1, 0, none⟩ = some (.bool b2) ∧ w'.cell? ⟨w.heap.size + 1, 1, none⟩ = some s2
theorem two_of (w : World) (b1 b2 : Bool) (s1 s2 : Value) (w' : World) (h : Below (boxes w b1 b2 s1 s2).heap.size (boxes w b1 b2 s1 s2) w') : Two w w' b1 b2 s1 s2 := by
  obtain ⟨h0, h1, _⟩ := boxes_heap w b1 b2 s1 s2
  have hz := boxes_size w b1 b2 s1 s2
  obtain ⟨a1, a2, _⟩ := box2 ((h.block _ (by omega)).trans h0)
  obtain ⟨a3, a4, _⟩ := box2 ((h.block _ (by omega)).trans h1)
  exact ⟨a1, a2, a3, a4⟩
theorem two_put {w w' : World} {b1 b2 : Bool} {s1 s2 : Value} (h : Two w w' b1 b2 s1 s2) (x y : Value) : Two w ((w'.setCell ⟨w.heap.size + 1 + 1, 0, none⟩ x).setCell ⟨w.heap.size + 1 + 1, 1, none⟩ y) b1 b2 s1 s2 := by
  obtain ⟨h1, h2, h3, h4⟩ := h
  have e0 := put2_other (W := w') (B := w.heap.size + 1 + 1) (k := w.heap.size) x y (by omega)
  have e1 := put2_other (W := w') (B := w.heap.size + 1 + 1) (k := w.heap.size + 1) x y (by omega)
  exact ⟨(World.cell?_of_block (a := ⟨w.heap.size, 0, none⟩) e0).trans h1, (World.cell?_of_block (a := ⟨w.heap.size, 1, none⟩) e0).trans h2, (World.cell?_of_block (a := ⟨w.heap.size + 1, 0, none⟩) e1).trans h3, (World.cell?_of_block (a := ⟨w.heap.size + 1, 1, none⟩) e1).trans h4⟩
theorem third_of (w : World) (b1 b2 : Bool) (s1 s2 : Value) (w' : World) (h : Below (boxes w b1 b2 s1 s2).heap.size (boxes w b1 b2 s1 s2) w') : w'.heap[w.heap.size + 1 + 1]? = some (.cells #[.bool false, .slice none 0 0] 49) :=
  (h.block _ (by simp)).trans (boxes_heap w b1 b2 s1 s2).2.2

set_option maxRecDepth 100000 in
set_option maxHeartbeats 2000000 in
theorem nplus_same (w : World) (v1 v2 : Value) (x y : Int) (h1 : Nm w v1 x) (h2 : Nm w v2 y) (hx : (dz 10000 x.natAbs).length ≤ 2000) (hy : (dz 10000 y.natAbs).length ≤ 2000) (hsg : decide (x < 0) = decide (y < 0)) :
    Calls Tryz.prog 31 #[v1, v2] w (NmOut w (x + y)) := by
  obtain ⟨b1, al1, L1, c1, rfl, hb1, hL1, hs1⟩ := h1.open
  obtain ⟨b2, al2, L2, c2, rfl, hb2, hL2, hs2⟩ := h2.open
  clear h1 h2
  obtain rfl : b1 = b2 := by rw [hb1.out, hb2.out, hsg]
  have hsum : sgn b1 (x.natAbs + y.natAbs) = x + y := by
    rw [hb1.out]
    unfold sgn
    rw [decide_eq_decide] at hsg
    by_cases h : x < 0 <;> simp [h] <;> omega
  have HB0 := Lib.hid (boxes_below w b1 b1 (.slice al1 L1 c1) (.slice al2 L2 c2))
  have K2 := Lib.hid (two_of w b1 b1 (.slice al1 L1 c1) (.slice al2 L2 c2))
  have K3 := Lib.hid (third_of w b1 b1 (.slice al1 L1 c1) (.slice al2 L2 c2))
  have CP := Lib.hid (fun W (hW : Below w.heap.size w W) => plus_nt W _ _ _ _ (hs1.out.below (Nat.le_refl _) hW) (hs2.out.below (Nat.le_refl _) hW) (by omega) (by omega))
  have CS := Lib.hid (fun W v (h : Nt W v (x.natAbs + y.natAbs)) => signed_nm W b1 v _ h)
  rw [hsum] at CS
  clear hsum hsg hx hy
  go_enter Tryz.func31, Tryz.ntmps31
  go_wp2_with fail
  go_region_held3 (fun w' => Two w w' b1 b1 (.slice al1 L1 c1) (.slice al2 L2 c2))
    (first
      | exact K2.out _ (Below.refl _ _).drew
      | exact K2.out _ hB3
      | exact two_put (K2.out _ hB4) _ _
      | exact K2.out _ hB4
      | go_keep)
    (first
      | (go_at_call 56; (with_reducible refine (CP.out _ HB0.out.drew).mono ?_); rintro e w3 ⟨v3, rfl, hv3, hb3⟩; have hB3 := below1 (Below.refl _ (boxes w b1 b1 (.slice al1 L1 c1) (.slice al2 L2 c2))).drew hb3)
      | (go_at_call 55; (with_reducible refine (CS.out _ _ hv3).mono ?_); rintro e w4 ⟨v4, rfl, hv4, hb4⟩; have hB4 := below1 hB3 hb4; obtain ⟨b5, al5, L5, c5, rfl, hb5, hL5, hs5⟩ := hv4.open; obtain ⟨q1, q2, q3, q4⟩ := box2 (K3.out _ hB4)))
  have HB := Lib.hid (HB0.out.trans (hB4.mono HB0.out.size))
  have HK := Lib.hid (K3.out _ hB4)
  clear hB4 hB3 hb4 hb3
  go_wp2
  obtain ⟨r1, r2, _⟩ := box2 (put2_heap HK.out (.bool b5) (.slice al5 L5 c5))
  exact bodyPost_ret (v := .agg #[.bool b5, .slice al5 L5 c5]) (by simp [results, Tryz.results31, go_sem, r1, r2]) rfl
    (nm_end HK.out hb5.out hs5.out HB.out (by omega))

theorem two_keep {w W W' : World} {b1 b2 : Bool} {s1 s2 : Value} (h : Two w W b1 b2 s1 s2) (hb : Below W.heap.size W W') : Two w W' b1 b2 s1 s2 := by
  obtain ⟨h1, h2, h3, h4⟩ := h
  have k0 := block_lt_of_cell h1
  have k1 := block_lt_of_cell h3
  exact ⟨(hb.cell (p := ⟨w.heap.size, 0, none⟩) k0).trans h1, (hb.cell (p := ⟨w.heap.size, 1, none⟩) k0).trans h2, (hb.cell (p := ⟨w.heap.size + 1, 0, none⟩) k1).trans h3, (hb.cell (p := ⟨w.heap.size + 1, 1, none⟩) k1).trans h4⟩
theorem cmpN_lt {m n : Nat} (h : m < n) : cmpN m n = -1 := by unfold cmpN; rw [if_pos h]
theorem cmpN_ge {m n : Nat} (h : ¬ m < n) : 0 ≤ cmpN m n := by unfold cmpN; rw [if_neg h]; split <;> decide

set_option maxRecDepth 100000 in
set_option maxHeartbeats 2000000 in
theorem nplus_far (w : World) (v1 v2 : Value) (x y : Int) (h1 : Nm w v1 x) (h2 : Nm w v2 y) (hx : (dz 10000 x.natAbs).length ≤ 2000) (hy : (dz 10000 y.natAbs).length ≤ 2000) (hsg : decide (x < 0) ≠ decide (y < 0)) :
    Calls Tryz.prog 31 #[v1, v2] w (NmOut w (x + y)) := by
  obtain ⟨b1, al1, L1, c1, rfl, hb1, hL1, hs1⟩ := h1.open
  obtain ⟨b2, al2, L2, c2, rfl, hb2, hL2, hs2⟩ := h2.open
  clear h1 h2
  have hne : (b1 == b2) = false := by
    rw [hb1.out, hb2.out]
    simpa using hsg
  have hsum : (y.natAbs ≤ x.natAbs → sgn b1 (x.natAbs - y.natAbs) = x + y) ∧ (x.natAbs < y.natAbs → sgn b2 (y.natAbs - x.natAbs) = x + y) := by
    rw [hb1.out, hb2.out]
    unfold sgn
    rw [Ne, decide_eq_decide] at hsg
    by_cases h : x < 0 <;> by_cases h' : y < 0 <;> simp [h, h'] at hsg ⊢ <;> omega
  have HB0 := Lib.hid (boxes_below w b1 b2 (.slice al1 L1 c1) (.slice al2 L2 c2))
  have K2 := Lib.hid (two_of w b1 b2 (.slice al1 L1 c1) (.slice al2 L2 c2))
  have K3 := Lib.hid (third_of w b1 b2 (.slice al1 L1 c1) (.slice al2 L2 c2))
  have KH := Lib.hid (boxes_heap w b1 b2 (.slice al1 L1 c1) (.slice al2 L2 c2))
  have CC := Lib.hid (compare_nt (boxes w b1 b2 (.slice al1 L1 c1) (.slice al2 L2 c2)) _ _ _ _ (hs1.out.below (Nat.le_refl _) HB0.out) (hs2.out.below (Nat.le_refl _) HB0.out) (by omega) (by omega))
  by_cases hlt : x.natAbs < y.natAbs
  · have hs := hsum.2 hlt
    have CM := Lib.hid (fun W (hW : Below w.heap.size w W) => minus_nt W _ _ _ _ (hs2.out.below (Nat.le_refl _) hW) (hs1.out.below (Nat.le_refl _) hW) (by omega) (by omega))
    have CS := Lib.hid (fun W v (h : Nt W v (y.natAbs - x.natAbs)) => signed_nm W b2 v _ h)
    rw [hs] at CS
    rw [cmpN_lt hlt] at CC
    clear hs hsum hsg hx hy hlt
    go_enter Tryz.func31, Tryz.ntmps31
    go_wp2_with fail
    refine CC.out.mono ?_
    rintro e w1 ⟨rfl, hbc⟩
    obtain ⟨k1, k2, k3, k4⟩ := K2.out _ hbc
    obtain ⟨_, _, f1, f2⟩ := box2 ((hbc.block _ (by simp; omega)).trans KH.out.1)
    obtain ⟨_, _, f3, f4⟩ := box2 ((hbc.block _ (by simp)).trans KH.out.2.1)
    have HBC := Lib.hid hbc
    clear hbc
    go_upto_region 5 with fail
    obtain ⟨W2, hW2⟩ : ∃ W2, put2 (put2 w1 w.heap.size (.bool b2) (.slice al2 L2 c2)) (w.heap.size + 1) (.bool b1) (.slice al1 L1 c1) = W2 := ⟨_, rfl⟩
    have hA := put2_heap ((HBC.out.block _ (by simp; omega)).trans KH.out.1) (.bool b2) (.slice al2 L2 c2)
    have hB := put2_heap ((put2_other (W := w1) (B := w.heap.size) (k := w.heap.size + 1) (.bool b2) (.slice al2 L2 c2) (by omega)).trans ((HBC.out.block _ (by simp)).trans KH.out.2.1)) (.bool b1) (.slice al1 L1 c1)
    have hA2 := (put2_other (B := w.heap.size + 1) (k := w.heap.size) (.bool b1) (.slice al1 L1 c1) (by omega)).trans hA
    have hC := (put2_other (B := w.heap.size + 1) (k := w.heap.size + 1 + 1) (.bool b1) (.slice al1 L1 c1) (by omega)).trans ((put2_other (B := w.heap.size) (k := w.heap.size + 1 + 1) (.bool b2) (.slice al2 L2 c2) (by omega)).trans (K3.out _ HBC.out))
    have hBW := put2_below (B := w.heap.size + 1) (put2_below (B := w.heap.size) (HB0.out.trans (HBC.out.mono HB0.out.size)) (by omega) (.bool b2) (.slice al2 L2 c2)) (by omega) (.bool b1) (.slice al1 L1 c1)
    have hW3 := hW2
    unfold put2 at hW3
    rw [hW2] at hA2 hB hC hBW
    rw [hW3]
    clear hW3
    have HBW := Lib.hid hBW; have HC := Lib.hid hC
    obtain ⟨g1, g2, _⟩ := box2 hA2
    obtain ⟨g3, g4, _⟩ := box2 hB
    have HT := Lib.hid (show Two w W2 b2 b1 (.slice al2 L2 c2) (.slice al1 L1 c1) from ⟨g1, g2, g3, g4⟩)
    clear hW2 hA hA2 hB hC hBW k1 k2 k3 k4 f1 f2 f3 f4 CC K2 K3 KH
    go_region_held3 (fun w' => Two w w' b2 b1 (.slice al2 L2 c2) (.slice al1 L1 c1))
      (first
        | exact two_keep HT.out (Below.refl _ _).drew
        | exact two_keep HT.out hB3
        | exact two_put (two_keep HT.out hB4) _ _
        | exact two_keep HT.out hB4
        | go_keep)
      (first
        | (go_at_call 58; (with_reducible refine (CM.out _ HBW.out.drew).mono ?_); rintro e w3 ⟨v3, rfl, hv3, hb3⟩; have hB3 := below1 (Below.refl _ W2).drew hb3)
        | (go_at_call 55; (with_reducible refine (CS.out _ _ hv3).mono ?_); rintro e w4 ⟨v4, rfl, hv4, hb4⟩; have hB4 := below1 hB3 hb4; obtain ⟨b5, al5, L5, c5, rfl, hb5, hL5, hs5⟩ := hv4.open; obtain ⟨q1, q2, q3, q4⟩ := box2 ((hB4.block _ (Array.getElem?_eq_some_iff.1 HC.out).1).trans HC.out)))
    have HB := Lib.hid (HBW.out.trans (hB4.mono HBW.out.size))
    have HK := Lib.hid ((hB4.block _ (Array.getElem?_eq_some_iff.1 HC.out).1).trans HC.out)
    clear hB4 hB3 hb4 hb3
    go_wp2
    obtain ⟨r1, r2, _⟩ := box2 (put2_heap HK.out (.bool b5) (.slice al5 L5 c5))
    exact bodyPost_ret (v := .agg #[.bool b5, .slice al5 L5 c5]) (by simp [results, Tryz.results31, go_sem, r1, r2]) rfl
      (nm_end HK.out hb5.out hs5.out HB.out (by omega))
  · have hs := hsum.1 (by omega)
    have CM := Lib.hid (fun W (hW : Below w.heap.size w W) => minus_nt W _ _ _ _ (hs1.out.below (Nat.le_refl _) hW) (hs2.out.below (Nat.le_refl _) hW) (by omega) (by omega))
    have CS := Lib.hid (fun W v (h : Nt W v (x.natAbs - y.natAbs)) => signed_nm W b1 v _ h)
    rw [hs] at CS
    have hcz := cmpN_ge hlt
    generalize cmpN x.natAbs y.natAbs = cz at *
    clear hs hsum hsg hx hy hlt
    go_enter Tryz.func31, Tryz.ntmps31
    go_wp2_with fail
    refine CC.out.mono ?_
    rintro e w1 ⟨rfl, hbc⟩
    have HT := Lib.hid (K2.out _ hbc)
    have HC := Lib.hid (K3.out _ hbc)
    have HBW := Lib.hid (HB0.out.trans (hbc.mono HB0.out.size))
    clear hbc CC K2 K3 KH
    go_upto_region 5 with fail
    go_region_held3 (fun w' => Two w w' b1 b2 (.slice al1 L1 c1) (.slice al2 L2 c2))
      (first
        | exact two_keep HT.out (Below.refl _ _).drew
        | exact two_keep HT.out hB3
        | exact two_put (two_keep HT.out hB4) _ _
        | exact two_keep HT.out hB4
        | go_keep)
      (first
        | (go_at_call 58; (with_reducible refine (CM.out _ HBW.out.drew).mono ?_); rintro e w3 ⟨v3, rfl, hv3, hb3⟩; have hB3 := below1 (Below.refl _ w1).drew hb3)
        | (go_at_call 55; (with_reducible refine (CS.out _ _ hv3).mono ?_); rintro e w4 ⟨v4, rfl, hv4, hb4⟩; have hB4 := below1 hB3 hb4; obtain ⟨b5, al5, L5, c5, rfl, hb5, hL5, hs5⟩ := hv4.open; obtain ⟨q1, q2, q3, q4⟩ := box2 ((hB4.block _ (Array.getElem?_eq_some_iff.1 HC.out).1).trans HC.out)))
    have HB := Lib.hid (HBW.out.trans (hB4.mono HBW.out.size))
    have HK := Lib.hid ((hB4.block _ (Array.getElem?_eq_some_iff.1 HC.out).1).trans HC.out)
    clear hB4 hB3 hb4 hb3
    go_wp2
    obtain ⟨r1, r2, _⟩ := box2 (put2_heap HK.out (.bool b5) (.slice al5 L5 c5))
    exact bodyPost_ret (v := .agg #[.bool b5, .slice al5 L5 c5]) (by simp [results, Tryz.results31, go_sem, r1, r2]) rfl
      (nm_end HK.out hb5.out hs5.out HB.out (by omega))
theorem nplus_nm (w : World) (v1 v2 : Value) (x y : Int) (h1 : Nm w v1 x) (h2 : Nm w v2 y) (hx : (dz 10000 x.natAbs).length ≤ 2000) (hy : (dz 10000 y.natAbs).length ≤ 2000) :
    Calls Tryz.prog 31 #[v1, v2] w (NmOut w (x + y)) := by
  by_cases h : decide (x < 0) = decide (y < 0)
  · exact nplus_same w v1 v2 x y h1 h2 hx hy h
  · exact nplus_far w v1 v2 x y h1 h2 hx hy h
end Go.Proofs.YtebjjgbdiabapaaGreatDoor
