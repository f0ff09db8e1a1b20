/- Box. -/
import Derived.Test.YtipfafglbkbafaaDoorHa
namespace Go.Proofs.YtipfafglbkbafaaDoor
open Go.RowKit Go.Shelf
set_option linter.unusedVariables false
set_option linter.unusedSimpArgs false

theorem bits_below (w : Nat) (hw : w ≤ 48) : bitsTo (fun x => decide (x < w)) 48 = 2 ^ w - 1 := by
  have h2 : 2 ^ w ≤ 2 ^ 48 := Nat.pow_le_pow_right (by decide) hw
  have h3 : 0 < 2 ^ w := Nat.two_pow_pos w
  refine ext_bits (n := 48) (bitsTo_lt _ 48) (by omega) (fun x hx => ?_)
  rw [bitsTo_bit, Nat.testBit_two_pow_sub_one]
  simp [hx]
theorem box_row {cx cy w h y : Nat} (hx : cx < 48) (hw : w ≤ 48) (h1 : cy ≤ y) (h2 : y < cy + h) : rowOf (box cx cy w h) y = turnN (2 ^ w - 1) cx := by
  have := bits_turn (fun x => decide (x < w)) hx
  rw [bits_below w hw] at this
  rw [turnN, this]
  refine bits_congr (fun x _ => ?_)
  unfold box
  rw [decide_eq_true h1, decide_eq_true h2]; simp
theorem box_0 (cx cy w : Nat) : Eqv nul (box cx cy w 0) := fun x y _ _ => by
  unfold nul box
  rcases Nat.lt_or_ge y cy with h | h
  · rw [decide_eq_false (show ¬ cy ≤ y by omega)]; simp
  · rw [decide_eq_false (show ¬ y < cy + 0 by omega)]; simp
theorem box_other {cx cy w h y : Nat} (hy : y ≠ cy + h) (x : Nat) : box cx cy w (h + 1) x y = box cx cy w h x y := by
  unfold box
  rw [show decide (y < cy + (h + 1)) = decide (y < cy + h) from by rw [decide_eq_decide]; omega]
/-- What Box answers. -/
def boxB (x y w h : Int) : Bool := onG x y && decide (1 ≤ w ∧ w ≤ 48 ∧ 1 ≤ h ∧ h ≤ 24 - y)
def boxO (x y w h : Int) : Option Ar := if boxB x y w h = true then some (box x.toNat y.toNat w.toNat h.toNat) else none
theorem box_bx (w : World) (x y : Int) : ∃ W, (w.alloc (.cells #[.int .i64 x, .int .i64 y] 27)).alloc (.cells #[.slice none 0 0] 25) = W ∧ Below w.heap.size w W ∧ W.heap.size = w.heap.size + 2 ∧
    W.heap[w.heap.size]? = some (.cells #[.int .i64 x, .int .i64 y] 27 (0, 0)) ∧ W.cell? ⟨w.heap.size + 1, 0, none⟩ = some (.slice none 0 0) ∧ W.frozen? ⟨w.heap.size + 1, 0, none⟩ = false := by
  refine ⟨_, rfl, ((Below.refl _ _).alloc (Nat.le_refl _) _).alloc (by simp) _, by simp, ?_, ?_, ?_⟩
  · rw [heap_old' _ _ _ (by simp), heap_new' _ _ _ rfl]
  · rw [cell_of_row _ _ 0 #[.slice none 0 0] 25 (0, 0) (by rw [heap_new' _ _ _ (by simp)])]; rfl
  · exact frozen_of_row _ _ 0 #[.slice none 0 0] 25 (by rw [heap_new' _ _ _ (by simp)])
set_option maxRecDepth 100000 in
set_option maxHeartbeats 2000000 in
theorem box_no (x y wd hi : Int) (h : boxB x y wd hi = false) (w : World) :
    Calls Tryd.prog 19 #[CV x y, .int .i64 wd, .int .i64 hi] w (OutA w none) := by
  obtain ⟨W, hW, hb, hz, h0, h1, hf⟩ := box_bx w x y
  have C1 := Lib.hid (validCell_any x y W)
  have b0 := (row_cell h0 0).trans (show _ = some (.int .i64 x) from rfl)
  have b1 := (row_cell h0 1).trans (show _ = some (.int .i64 y) from rfl)
  have HB := Lib.hid hb
  have q0 : w.heap.size < W.heap.size := by omega
  have q1 : w.heap.size + 1 < W.heap.size := by omega
  clear hz h0 hb
  have key : ∀ b : Bool, onG x y = b → (b = false ∨ (wd < 1 ∨ (1 ≤ wd ∧ 48 < wd) ∨ (1 ≤ wd ∧ wd ≤ 48 ∧ hi < 1) ∨ (1 ≤ wd ∧ wd ≤ 48 ∧ 1 ≤ hi ∧ 24 - y < hi))) ∧ (b = true → 0 ≤ y ∧ y < 24) := by
    intro b hb
    refine ⟨?_, fun ht => by rw [ht] at hb; have := onG_iff.1 hb; omega⟩
    cases b with
    | false => exact .inl rfl
    | true =>
      right
      unfold boxB at h
      rw [hb, Bool.true_and, decide_eq_false_iff_not] at h
      omega
  cases hg : onG x y with
  | false =>
    rw [hg] at C1
    clear hg key h
    go_enter Tryd.func19, Tryd.ntmps19
    go_wp2_with fail
    (with_reducible refine C1.out.mono ?_)
    rintro e w1 ⟨rfl, hb1⟩
    have d1 := (hb1.cell (p := ⟨w.heap.size + 1, 0, none⟩) q1).trans h1
    have g1 := (hb1.frozen (p := ⟨w.heap.size + 1, 0, none⟩) q1).trans hf
    have HB1 := Lib.hid (HB.out.trans (hb1.mono HB.out.size))
    clear hb1 hW b0 b1 h1 hf
    go_wp2
    exact bodyPost_ret (v := .tuple #[.agg #[.slice none 0 0], .int .i64 50]) (by simp [results, Tryd.results19, go_sem, d1]) rfl ⟨none, 0, 0, rfl, Sl.nil _, fun b q h => (by cases h), HB1.out.setCell (by show _ ≤ w.heap.size + 1; omega) _⟩
  | true =>
    rw [hg] at C1
    obtain ⟨hn, hy⟩ := key true hg
    obtain ⟨hy0, hy1⟩ := hy rfl
    rcases hn with hn | hn
    · cases hn
    clear hg key h hy
    rcases hn with hn | ⟨n1, n2⟩ | ⟨n1, n2, n3⟩ | ⟨n1, n2, n3, n4⟩
    all_goals
      go_enter Tryd.func19, Tryd.ntmps19
      go_wp2_with fail
      (with_reducible refine C1.out.mono ?_)
      rintro e w1 ⟨rfl, hb1⟩
      have d1 := (hb1.cell (p := ⟨w.heap.size + 1, 0, none⟩) q1).trans h1
      have g1 := (hb1.frozen (p := ⟨w.heap.size + 1, 0, none⟩) q1).trans hf
      have e1 := (hb1.cell (p := ⟨w.heap.size, 1, none⟩) q0).trans b1
      have HB1 := Lib.hid (HB.out.trans (hb1.mono HB.out.size))
      clear hb1 hW b0 b1 h1 hf
      go_wp2
      exact bodyPost_ret (v := .tuple #[.agg #[.slice none 0 0], .int .i64 50]) (by simp [results, Tryd.results19, go_sem, d1]) rfl ⟨none, 0, 0, rfl, Sl.nil _, fun b q h => (by cases h), HB1.out.setCell (by show _ ≤ w.heap.size + 1; omega) _⟩
set_option maxRecDepth 100000 in
set_option maxHeartbeats 2000000 in
theorem box_yes (x y wd hi : Nat) (hx : x < 48) (hw1 : 1 ≤ wd) (hw2 : wd ≤ 48) (hh1 : 1 ≤ hi) (hh2 : hi + y ≤ 24) (w : World) :
    Calls Tryd.prog 19 #[CV x y, .int .i64 wd, .int .i64 hi] w (OutA w (some (box x y wd hi))) := by
  obtain ⟨W, hW, hb, hz, h0, h1, hf⟩ := box_bx w x y
  have C1 := Lib.hid (validCell_any x y W)
  rw [onG_iff.2 ⟨by omega, by omega, by omega, by omega⟩] at C1
  have b0 := (row_cell h0 0).trans (show _ = some (.int .i64 (x : Int)) from rfl)
  have b1 := (row_cell h0 1).trans (show _ = some (.int .i64 (y : Int)) from rfl)
  have HB := Lib.hid hb
  have q0 : w.heap.size < W.heap.size := by omega
  have q1 : w.heap.size + 1 < W.heap.size := by omega
  have y0 : (0 : Int) ≤ y := by omega
  have y1 : (y : Int) < 24 := by omega
  have n1 : (1 : Int) ≤ wd := by omega
  have n2 : (wd : Int) ≤ 48 := by omega
  have n3 : (1 : Int) ≤ hi := by omega
  have hd1 : decide ((wd : Int) < 1) = false := by simp; omega
  have hd2 : decide ((48 : Int) < wd) = false := by simp; omega
  have hd3 : decide ((hi : Int) < 1) = false := by simp; omega
  have hd4 : decide (24 - (y : Int) < hi) = false := by simp; omega
  obtain ⟨P, hP⟩ : ∃ P, 2 ^ wd = P := ⟨_, rfl⟩
  obtain ⟨Q, hQ⟩ : ∃ Q, P - 1 = Q := ⟨_, rfl⟩
  have hPl : 1 ≤ P ∧ P ≤ 281474976710656 := by
    rw [← hP]
    exact ⟨Nat.two_pow_pos wd, show 2 ^ wd ≤ 2 ^ 48 from Nat.pow_le_pow_right (by decide) hw2⟩
  have CT := Lib.hid (fun W' => turned_any Q (by omega) (x : Int) x hx (by omega) W')
  have CW := Lib.hid (fun W' => write_any (box x y wd hi) W')
  simp only [FV_eq] at CW
  have HR := Lib.hid (fun i (hi : i < 24 - y) => box_row (cy := y) (h := i + 1) (y := y + i) hx hw2 (by omega) (by omega))
  rw [hP, hQ] at HR
  have HP := Lib.hid (show (2 : Int) ^ wd = (P : Int) ∧ IntKind.i64.wrap ((P : Int) - 1) = (Q : Int) ∧ IntKind.i64.wrap (P : Int) = (P : Int) from ⟨by rw [← hP, Int.natCast_pow]; rfl, by rw [IntKind.wrap_i64]; omega, by rw [IntKind.wrap_i64]; omega⟩)
  clear hz h0 hb hP hQ hPl
  go_enter Tryd.func19, Tryd.ntmps19
  go_wp2_with fail
  (with_reducible refine C1.out.mono ?_)
  rintro e w1 ⟨rfl, hb1⟩
  have d1 := Lib.hid ((hb1.cell (p := ⟨w.heap.size + 1, 0, none⟩) q1).trans h1)
  have g1 := Lib.hid ((hb1.frozen (p := ⟨w.heap.size + 1, 0, none⟩) q1).trans hf)
  have e0 := (hb1.cell (p := ⟨w.heap.size, 0, none⟩) q0).trans b0
  have e1 := (hb1.cell (p := ⟨w.heap.size, 1, none⟩) q0).trans b1
  have HB1 := Lib.hid (HB.out.trans (hb1.mono HB.out.size))
  have p0 : w.heap.size < w1.heap.size := Nat.lt_of_lt_of_le q0 hb1.size
  have p1 : w.heap.size + 1 < w1.heap.size := Nat.lt_of_lt_of_le q1 hb1.size
  obtain ⟨V, hV, hbV, hq, hz1⟩ := one_box w1
  rw [FC_nul] at hV
  clear hb1 hW b0 b1 h1 hf q0 q1
  have HQ := Lib.hid (hq.eqv (box_0 x y wd))
  have HBV := Lib.hid hbV
  clear hq hbV hz1
  go_wp2
  clear hV hd1 hd2 hd3 hd4
  go_loopw [34] (fun iv wr => ∃ i : Nat, i ≤ hi ∧ iv = .int .i64 i ∧ HasF wr w1.heap.size 62 (box x y wd i) ∧ Below w1.heap.size w1 wr) (fun iv _ => hi - (intOf iv).toNat)
  case atStart => exact ⟨0, by omega, rfl, HQ.out, HBV.out⟩
  case round =>
    obtain ⟨i, hi1, rfl, hF, hB⟩ := hrel
    clear HQ HBV
    have HFF := Lib.hid hF
    have HBB := Lib.hid hB
    clear hF hB
    have i0 : (0 : Int) ≤ i := by omega
    by_cases hlt : i < hi
    · have hd : decide ((i : Int) < hi) = true := by simp; omega
      have yi0 : (0 : Int) ≤ (y : Int) + i := by omega
      have yi1 : (y : Int) + i < 24 := by omega
      have hce := HFF.out.cell (show y + i < 24 by omega)
      have hfr := HFF.out.frozen (y + i)
      generalize rowOf (box x y wd i) (y + i) = r0 at hce
      have HRI := Lib.hid (HR.out i (by omega))
      have HLT := Lib.hid (And.intro HFF.out.lt (And.intro HBB.out.size (show y + i < 24 by omega)))
      go_upto_region 7 with (fail)
      have hyi : ((y : Int) + i).toNat = y + i := by omega
      have hyw : IntKind.i64.wrap ((y : Int) + i) = (y : Int) + i := IntWalk.i64_in _ ⟨by omega, by omega⟩
      have sh1 := HP.out.1
      have sh2 := HP.out.2.1
      have sh3 := HP.out.2.2
      have HHI := Lib.hid hlt
      clear hlt hi1
      refine wp_region_held_drew (S := fun w' => ∀ b o, b < w1.heap.size → w'.cell? ⟨b, o, none⟩ = w1.cell? ⟨b, o, none⟩) (by kernel_rfl) (fun b o h => HBB.out.cell (p := ⟨b, o, none⟩) h) (fun hHeld => ?_)
      refine wpAnyH_take (i := 0) (oi := _) (v := ?_) rfl (by kernel_rfl) (by kernel_rfl) (by kernel_rfl) (fun _ _ _ h => h) (Or.inl ⟨by rfl, ?_⟩) (by assumption) ?_
      rotate_left 1
      · (intro w hSw; (try dsimp only at hSw); go_simp; try with_reducible rfl)
      try simp only [List.getElem_toArray, List.getElem_cons_zero, List.getElem_cons_succ, Act.put, List.setIfInBounds_toArray, List.set_cons_zero, List.set_cons_succ]
      refine wpAnyH_take (i := 1) (oi := _) (v := ?_) rfl (by kernel_rfl) (by kernel_rfl) (by kernel_rfl) (fun _ _ _ h => h) (Or.inl ⟨by rfl, ?_⟩) (by assumption) ?_
      rotate_left 1
      · (intro w hSw; (try dsimp only at hSw); go_simp; try with_reducible rfl)
      try simp only [List.getElem_toArray, List.getElem_cons_zero, List.getElem_cons_succ, Act.put, List.setIfInBounds_toArray, List.set_cons_zero, List.set_cons_succ]
      refine wpAnyH_take (i := 2) (oi := _) (v := ?_) rfl (by kernel_rfl) (by kernel_rfl) (by kernel_rfl) (fun _ _ _ h => h) (Or.inl ⟨by rfl, ?_⟩) (by assumption) ?_
      rotate_left 1
      · (intro w hSw; (try dsimp only at hSw); go_simp; try with_reducible rfl)
      try simp only [List.getElem_toArray, List.getElem_cons_zero, List.getElem_cons_succ, Act.put, List.setIfInBounds_toArray, List.set_cons_zero, List.set_cons_succ]
      refine wpAnyH_take (i := 3) (oi := _) (v := ?_) rfl (by kernel_rfl) (by kernel_rfl) (by kernel_rfl) (fun _ _ _ h => h) (Or.inl ⟨by rfl, ?_⟩) (by assumption) ?_
      rotate_left 1
      · (intro w hSw; (try dsimp only at hSw); go_simp; try with_reducible rfl)
      try simp only [List.getElem_toArray, List.getElem_cons_zero, List.getElem_cons_succ, Act.put, List.setIfInBounds_toArray, List.set_cons_zero, List.set_cons_succ]
      refine wpAnyH_take (i := 4) (oi := _) (v := ?_) rfl (by kernel_rfl) (by kernel_rfl) (by kernel_rfl) (fun _ _ _ h => h) (Or.inl ⟨by rfl, ?_⟩) (by assumption) ?_
      rotate_left 1
      · (intro w hSw; (try dsimp only at hSw); go_simp; try with_reducible rfl)
      try simp only [List.getElem_toArray, List.getElem_cons_zero, List.getElem_cons_succ, Act.put, List.setIfInBounds_toArray, List.set_cons_zero, List.set_cons_succ]
      refine wpAnyH_take (i := 5) (oi := _) (v := ?_) rfl (by kernel_rfl) (by kernel_rfl) (by kernel_rfl) (fun _ _ _ h => h) (Or.inl ⟨by rfl, ?_⟩) (by assumption) ?_
      rotate_left 1
      · (intro w hSw; (try dsimp only at hSw); go_simp; try with_reducible rfl)
      try simp only [List.getElem_toArray, List.getElem_cons_zero, List.getElem_cons_succ, Act.put, List.setIfInBounds_toArray, List.set_cons_zero, List.set_cons_succ]
      refine wpAnyH_take (i := 6) (oi := _) (v := ?_) rfl (by kernel_rfl) (by kernel_rfl) (by kernel_rfl) (fun _ _ _ h => h) (Or.inl ⟨by rfl, ?_⟩) (by assumption) ?_
      rotate_left 1
      · (intro w hSw; (try dsimp only at hSw); go_simp; try with_reducible rfl)
      try simp only [List.getElem_toArray, List.getElem_cons_zero, List.getElem_cons_succ, Act.put, List.setIfInBounds_toArray, List.set_cons_zero, List.set_cons_succ]
      refine wpAnyH_take (i := 7) (oi := _) (v := ?_) rfl (by kernel_rfl) (by kernel_rfl) (by kernel_rfl) (fun _ _ _ h => h) (Or.inl ⟨by rfl, ?_⟩) (by assumption) ?_
      rotate_left 1
      · (intro w hSw; (try dsimp only at hSw); go_simp; try with_reducible rfl)
      try simp only [List.getElem_toArray, List.getElem_cons_zero, List.getElem_cons_succ, Act.put, List.setIfInBounds_toArray, List.set_cons_zero, List.set_cons_succ]
      refine wpAnyH_take (i := 8) (oi := _) (v := ?_) rfl (by kernel_rfl) (by kernel_rfl) (by kernel_rfl) (fun _ _ _ h => h) (Or.inl ⟨by rfl, ?_⟩) (by assumption) ?_
      rotate_left 1
      · (intro w hSw; (try dsimp only at hSw); go_simp; try with_reducible rfl)
      try simp only [List.getElem_toArray, List.getElem_cons_zero, List.getElem_cons_succ, Act.put, List.setIfInBounds_toArray, List.set_cons_zero, List.set_cons_succ]
      refine wpAnyH_ready (rs := [9]) (by kernel_rfl) (by simp) ?_
      refine AllReadyH.cons (o := _) rfl (fun K hK => ?_) AllReadyH.nil
      rw [if_pos (by kernel_rfl)]
      simp only [List.getElem_toArray, List.getElem_cons_zero, List.getElem_cons_succ]
      go_simp
      (with_reducible refine (CT.out _).mono ?_)
      rintro e w5 ⟨rfl, ⟨nq, rfl⟩⟩
      have HX := Lib.hid hHeld; clear hHeld
      refine hK.out _ _ (fun b o h => HX.out b o h) (fun hHeld => ?_)
      clear hK K
      try simp only [List.getElem_toArray, List.getElem_cons_zero, List.getElem_cons_succ, Act.put, List.setIfInBounds_toArray, List.set_cons_zero, List.set_cons_succ]
      refine wpAnyH_take (i := 10) (oi := _) (v := ?_) rfl (by kernel_rfl) (by kernel_rfl) (by kernel_rfl) (fun _ _ _ h => h) (Or.inl ⟨by rfl, ?_⟩) (by assumption) ?_
      rotate_left 1
      · (intro w hSw; (try dsimp only at hSw); go_simp; try with_reducible rfl)
      try simp only [List.getElem_toArray, List.getElem_cons_zero, List.getElem_cons_succ, Act.put, List.setIfInBounds_toArray, List.set_cons_zero, List.set_cons_succ]
      refine wpAnyH_ready (rs := [11]) (by kernel_rfl) (by simp) ?_
      refine AllReadyH.cons (o := _) rfl (fun K hK => ?_) AllReadyH.nil
      rw [if_pos (by kernel_rfl)]
      simp only [List.getElem_toArray, List.getElem_cons_zero, List.getElem_cons_succ]
      go_simp
      refine hK.out _ _ (fun b o h => (World.cell?_setCell_far _ _ _ _ (by show w1.heap.size ≠ b; omega)).trans (HX.out b o h)) (fun hHeld => ?_)
      clear hHeld
      clear hK K
      try simp only [List.getElem_toArray, List.getElem_cons_zero, List.getElem_cons_succ, Act.put, List.setIfInBounds_toArray, List.set_cons_zero, List.set_cons_succ]
      refine wpAnyH_done (by kernel_rfl) ?_ _

      clear hce hfr hyi hyw sh1 sh2 sh3 hHeld
      have hlt := HHI.out
      go_wp2
      exact ⟨⟨i + 1, by omega, by go_num, (HFF.out.drewN (n := 1 + nq)).set (f' := box x y wd (i + 1)) (by have := HLT.out; omega) HRI.out (fun z _ hz x' _ => box_other hz x'), (below_dn HBB.out (n := 1 + nq)).setCell (Nat.le_refl _) _⟩, by simp [intOf]; omega⟩
    · obtain rfl : i = hi := by omega
      have hd : decide ((i : Int) < i) = false := by simp
      have HB2 := Lib.hid (HB1.out.trans (HBB.out.mono HB1.out.size))
      have c1 := (HBB.out.cell (p := ⟨w.heap.size + 1, 0, none⟩) p1).trans d1.out
      have f1 := (HBB.out.frozen (p := ⟨w.heap.size + 1, 0, none⟩) p1).trans g1.out
      have HL := Lib.hid (Nat.lt_of_lt_of_le p1 HBB.out.size)
      clear e0 e1 i0
      go_wp2_with (first
        | (refine wpList_load_row rfl 62 _ rfl w1.heap.size rfl 62 (FC (box x y wd i)) (0, 0) _ HFF.out Tryd.underlying62 rfl (infoFC _) ?_)
        | (go_at_call 52; (with_reducible refine (CW.out _).mono ?_); rintro e w6 ⟨g, rfl, hge, hG, hb6⟩; have c2 := (hb6.cell (p := ⟨w.heap.size + 1, 0, none⟩) HL.out).trans c1; have f2 := (hb6.frozen (p := ⟨w.heap.size + 1, 0, none⟩) HL.out).trans f1; have HS := Lib.hid (And.intro hge (And.intro hG hb6)); clear hge hG hb6 c1 f1))
      exact bodyPost_ret (v := .tuple #[.agg #[.slice (some ⟨g, 0, none⟩) 24 24], .int .i64 0]) (by simp [results, Tryd.results19, go_sem, c2]) rfl
        (OutA.put (o := some (box x y wd i)) HS.out.2.1.sa (fun b q h => (by cases h; exact HS.out.1)) HB2.out HS.out.2.2 (by omega) HL.out)
theorem boxF_any (x y wd hi : Int) (w : World) : Calls Tryd.prog 19 #[CV x y, .int .i64 wd, .int .i64 hi] w (OutA w (boxO x y wd hi)) := by
  cases h : boxB x y wd hi with
  | false =>
    rw [show boxO x y wd hi = none from by unfold boxO; rw [h]; rfl]
    exact box_no x y wd hi h w
  | true =>
    rw [show boxO x y wd hi = some (box x.toNat y.toNat wd.toNat hi.toNat) from by unfold boxO; rw [h]; rfl]
    unfold boxB at h
    rw [Bool.and_eq_true, decide_eq_true_eq] at h
    have hxy := onG_iff.1 h.1
    obtain ⟨x', rfl⟩ := Int.eq_ofNat_of_zero_le hxy.1
    obtain ⟨y', rfl⟩ := Int.eq_ofNat_of_zero_le hxy.2.2.1
    obtain ⟨w', rfl⟩ := Int.eq_ofNat_of_zero_le (show 0 ≤ wd by omega)
    obtain ⟨h', rfl⟩ := Int.eq_ofNat_of_zero_le (show 0 ≤ hi by omega)
    exact box_yes x' y' w' h' (by omega) (by omega) (by omega) (by omega) (by omega) w
end Go.Proofs.YtipfafglbkbafaaDoor
