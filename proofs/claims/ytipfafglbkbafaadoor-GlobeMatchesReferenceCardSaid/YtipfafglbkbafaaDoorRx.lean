/- The reference's Empty, pick, Cell, put; what a law carries along. -/
import Derived.Laws.MakeOwn
import Derived.Test.YtipfafglbkbafaaDoorCe
namespace Go.Proofs.YtipfafglbkbafaaDoor
open Go.RowKit Go.Shelf
set_option linter.unusedVariables false
set_option linter.unusedSimpArgs false

/-- What pick makes of a number. -/
def pickZ (c : Int) (n : Nat) : Nat := ((if c < 0 then -(c + 1) else c) % (n : Int)).toNat
theorem pickZ_lt (c : Int) {n : Nat} (hn : 0 < n) : pickZ c n < n := by
  unfold pickZ
  have h1 := Int.emod_nonneg (if c < 0 then -(c + 1) else c) (show (n : Int) ≠ 0 by omega)
  have h2 := Int.emod_lt_of_pos (if c < 0 then -(c + 1) else c) (show (0 : Int) < n by omega)
  omega
set_option maxHeartbeats 400000 in
theorem rpick_any (c : Int) (h0 : -9223372036854775808 ≤ c) (h1 : c ≤ 9223372036854775807) (n : Nat) (hn : 0 < n) (hn2 : n ≤ 2000000000) (N : Int) (hN : N = (n : Int)) (w : World) :
    Calls Tryd.prog 48 #[.int .i64 c, .int .i64 N] w fun e w' => e = .returned (.int .i64 (pickZ c n : Nat)) ∧ w = w' := by
  subst hN
  by_cases hc : c < 0
  · have hp : pickZ c n = (-(c + 1) % (n : Int)).toNat := by unfold pickZ; rw [if_pos hc]
    rw [hp]
    obtain ⟨d, hd⟩ : ∃ d, -(c + 1) = d := ⟨_, rfl⟩
    have hd0 : 0 ≤ d ∧ d ≤ 9223372036854775807 := by omega
    have hm0 := Int.emod_nonneg d (show (n : Int) ≠ 0 by omega)
    have hm1 := Int.emod_lt_of_pos d (show (0 : Int) < n by omega)
    obtain ⟨r, hr⟩ := Int.eq_ofNat_of_zero_le hm0
    have HR := Lib.hid hr
    rw [hr] at hm1
    go_enter Tryd.func48, Tryd.ntmps48
    go_wp2
    go_ret
    refine ⟨?_, rfl⟩
    have h := HR.out
    first
      | (rw [hd, h]; rfl)
      | (rw [h]; rfl)
  · have hp : pickZ c n = (c % (n : Int)).toNat := by unfold pickZ; rw [if_neg hc]
    rw [hp]
    have hc0 : 0 ≤ c := by omega
    have hm0 := Int.emod_nonneg c (show (n : Int) ≠ 0 by omega)
    have hm1 := Int.emod_lt_of_pos c (show (0 : Int) < n by omega)
    obtain ⟨r, hr⟩ := Int.eq_ofNat_of_zero_le hm0
    have HR := Lib.hid hr
    rw [hr] at hm1
    go_enter Tryd.func48, Tryd.ntmps48
    go_wp2
    go_ret
    refine ⟨?_, rfl⟩
    have h := HR.out
    first
      | rfl
      | (rw [h]; rfl)
set_option maxHeartbeats 400000 in
theorem lpick_any (c : Int) (h0 : -9223372036854775808 ≤ c) (h1 : c ≤ 9223372036854775807) (n : Nat) (hn : 0 < n) (hn2 : n ≤ 2000000000) (N : Int) (hN : N = (n : Int)) (w : World) :
    Calls Tryd.prog 12 #[.int .i64 c, .int .i64 N] w fun e w' => e = .returned (.int .i64 (pickZ c n : Nat)) ∧ w = w' := by
  subst hN
  by_cases hc : c < 0
  · have hp : pickZ c n = (-(c + 1) % (n : Int)).toNat := by unfold pickZ; rw [if_pos hc]
    rw [hp]
    obtain ⟨d, hd⟩ : ∃ d, -(c + 1) = d := ⟨_, rfl⟩
    have hd0 : 0 ≤ d ∧ d ≤ 9223372036854775807 := by omega
    have hm0 := Int.emod_nonneg d (show (n : Int) ≠ 0 by omega)
    have hm1 := Int.emod_lt_of_pos d (show (0 : Int) < n by omega)
    obtain ⟨r, hr⟩ := Int.eq_ofNat_of_zero_le hm0
    have HR := Lib.hid hr
    rw [hr] at hm1
    go_enter Tryd.func12, Tryd.ntmps12
    go_wp2
    go_ret
    refine ⟨?_, rfl⟩
    have h := HR.out
    first
      | (rw [hd, h]; rfl)
      | (rw [h]; rfl)
  · have hp : pickZ c n = (c % (n : Int)).toNat := by unfold pickZ; rw [if_neg hc]
    rw [hp]
    have hc0 : 0 ≤ c := by omega
    have hm0 := Int.emod_nonneg c (show (n : Int) ≠ 0 by omega)
    have hm1 := Int.emod_lt_of_pos c (show (0 : Int) < n by omega)
    obtain ⟨r, hr⟩ := Int.eq_ofNat_of_zero_le hm0
    have HR := Lib.hid hr
    rw [hr] at hm1
    go_enter Tryd.func12, Tryd.ntmps12
    go_wp2
    go_ret
    refine ⟨?_, rfl⟩
    have h := HR.out
    first
      | rfl
      | (rw [h]; rfl)
theorem infoInt : (Tryd.prog.info? 3).map (fun i => (i.zero, i.size, i.bytes)) = some (some (.int .i64 0), 1, 8) := by kernel_rfl
theorem made24 : madeCells (Value.int .i64 0).cells (Int.toNat 24 * 1) = FC nul := by
  rw [FC_nul]
  kernel_rfl
theorem run_make24 (W : World) : (Instr.makeSlice 23 (.int .i64 24) (.int .i64 24)).run Tryd.prog W = .ok (.slice (some ⟨W.heap.size, 0, none⟩) 24 24) (W.alloc (.cells (FC nul) 3)) := by
  obtain ⟨i, hi, hz, hs, hb⟩ := info_parts' infoInt
  have h := run_make (P := Tryd.prog) W 23 3 i (.int .i64 0) Tryd.underlying23 hi hz .i64 .i64 24 24 (by decide) (by decide) (by rw [hb]; decide) (by decide)
  rw [hs] at h
  rw [h, made24]
  rfl
set_option maxRecDepth 100000 in
set_option maxHeartbeats 1000000 in
theorem rempty_any (w : World) :
    Calls Tryd.prog 47 #[] w fun e w' => ∃ g, e = .returned (.agg #[.slice (some ⟨g, 0, none⟩) 24 24]) ∧ w.heap.size ≤ g ∧ HasF w' g 3 nul ∧ Below w.heap.size w w' := by
  obtain ⟨W, hW⟩ : ∃ W, w.alloc (.cells #[.slice none 0 0] 25) = W := ⟨_, rfl⟩
  have hb : Below w.heap.size w W := by rw [← hW]; exact (Below.refl _ _).alloc (Nat.le_refl _) _
  have h0 : W.cell? ⟨w.heap.size, 0, none⟩ = some (.slice none 0 0) := by rw [← hW]; exact cell_new1 _ _ _
  have hf : W.frozen? ⟨w.heap.size, 0, none⟩ = false := by rw [← hW]; exact froz_new1 _ _ _ _
  have hz : w.heap.size < W.heap.size := by rw [← hW]; simp
  obtain ⟨V, hV⟩ : ∃ V, W.alloc (.cells (FC nul) 3) = V := ⟨_, rfl⟩
  have hbV : Below W.heap.size W V := by rw [← hV]; exact (Below.refl _ _).alloc (Nat.le_refl _) _
  have HG := Lib.hid (show HasF V W.heap.size 3 nul from by rw [← hV]; exact heap_new' _ _ _ rfl)
  have d0 := (hbV.cell (p := ⟨w.heap.size, 0, none⟩) hz).trans h0
  have df := (hbV.frozen (p := ⟨w.heap.size, 0, none⟩) hz).trans hf
  have HB := Lib.hid (And.intro (hb.trans (hbV.mono hb.size)) hz)
  have hmk := run_make24 W
  clear hb hbV hz
  go_enter Tryd.func47, Tryd.ntmps47
  go_wp2
  exact bodyPost_ret (v := .agg #[.slice (some ⟨W.heap.size, 0, none⟩) 24 24]) (by simp [results, Tryd.results47, go_sem, d0]) rfl
    ⟨W.heap.size, rfl, by have := HB.out.2; omega, HG.out.other (by have := HB.out.2; omega), HB.out.1.setCell (Nat.le_refl _) _⟩
def PutOut (w : World) (b : Nat) (f : Ar) (e : Ending) (w' : World) : Prop :=
  e = .returned (.tuple #[]) ∧ HasF w' b 3 f ∧ w.heap.size ≤ w'.heap.size ∧ (∀ k, k < w.heap.size → k ≠ b → w'.heap[k]? = w.heap[k]?) ∧ (∀ B, B ≤ b → B ≤ w.heap.size → Below B w w')
set_option maxRecDepth 100000 in
set_option maxHeartbeats 1000000 in
theorem put_any (b c : Nat) (f : Ar) (x : Int) (y : Nat) (hy : y < 24) (w : World) (h : HasF w b 3 f) :
    Calls Tryd.prog 49 #[.agg #[.slice (some ⟨b, 0, none⟩) 24 c], .int .i64 x, .int .i64 y] w (PutOut w b (putA f (k48 x) y)) := by
  obtain ⟨t, ht, h1, h2, h3⟩ := tmod48 x (k48 x) (k48_lt x) (k48_eq x)
  have hk := k48_lt x
  obtain ⟨W, hW, hb, hz, h0⟩ := box_one_area w (some ⟨b, 0, none⟩) 24 c
  have hF := h.below hb h.lt
  have hlt := h.lt
  have y0 : (0 : Int) ≤ y := by omega
  have y1 : (y : Int) < 24 := by omega
  have hc := hF.cell hy
  have hf := hF.frozen y
  have HFF := Lib.hid hF
  have HP := Lib.hid (put_row (f := f) (b := y) hk)
  have HR := Lib.hid (row_lt f y)
  have HB := Lib.hid (And.intro hb (And.intro hlt hW))
  generalize rowOf f y = r at hc HP HR
  generalize hkk : k48 x = k at *
  have HS := Lib.hid (And.intro (shl1 k hk) (pow48 hk))
  clear hkk hb hz h hF hlt
  have hV : ∀ V : World, V = (W.setCell ⟨b, y, none⟩ (iV (r ||| 2 ^ k))).drew → PutOut w b (putA f k y) (.returned (.tuple #[])) V := by
    rintro V rfl
    refine ⟨rfl, HFF.out.set (f' := putA f k y) hy HP.out (fun z _ hz x' _ => put_other hz x'), ?_, ?_, ?_⟩
    · have := HB.out.1.size
      simpa using this
    · intro q hq hne
      exact (heap_setCell_other _ _ _ _ hne).trans (HB.out.1.block q hq)
    · intro B h1 h2
      exact ((HB.out.1.mono h2).setCell (p := ⟨b, y, none⟩) h1 _).drew
  have HVV := Lib.hid hV
  clear hV
  by_cases hneg : t < 0
  · have e : t + 48 = (k : Int) := by omega
    have e1 : 0 ≤ t + 48 := by omega
    have e2 : t + 48 < 48 := by omega
    have e3 : (t + 48).toNat = k := by omega
    have HE3 := Lib.hid e3
    clear h3 e hk e3
    go_enter Tryd.func49, Tryd.ntmps49
    go_wp2
    clear hW ht
    have e3 := HE3.out
    go_still_tail 12, (by kernel_rfl)
    clear e3
    go_wp2
    exact bodyPost_end (results_none rfl _ _ _) rfl (HVV.out _ (by rw [HS.out.1, iV_or HR.out HS.out.2]))
  · have e : t = (k : Int) := by omega
    have e1 : 0 ≤ t := by omega
    have e2 : t < 48 := by omega
    have e3 : t.toNat = k := by omega
    have HE3 := Lib.hid e3
    clear h3 e hk e3
    go_enter Tryd.func49, Tryd.ntmps49
    go_wp2
    clear hW ht
    have e3 := HE3.out
    go_still_tail 12, (by kernel_rfl)
    clear e3
    go_wp2
    exact bodyPost_end (results_none rfl _ _ _) rfl (HVV.out _ (by rw [HS.out.1, iV_or HR.out HS.out.2]))
/-- A cell that integers determine. -/
def cellOf (a b : Int) : Nat × Nat := (pickZ a 48, pickZ b 24)
set_option maxRecDepth 100000 in
set_option maxHeartbeats 1000000 in
theorem rcell_any (a b : Int) (ha0 : -9223372036854775808 ≤ a) (ha1 : a ≤ 9223372036854775807) (hb0 : -9223372036854775808 ≤ b) (hb1 : b ≤ 9223372036854775807) (w : World) :
    Calls Tryd.prog 14 #[.agg #[.int .i64 a, .int .i64 b]] w fun e w' => e = .returned (CV (pickZ a 48 : Nat) (pickZ b 24 : Nat)) ∧ Below w.heap.size w w' := by
  have C1 := Lib.hid (fun W => swapw (rpick_any a ha0 ha1 48 (by decide) (by decide) 48 rfl W))
  have C2 := Lib.hid (fun W => swapw (rpick_any b hb0 hb1 24 (by decide) (by decide) 24 rfl W))
  generalize pickZ a 48 = p at *
  generalize pickZ b 24 = q at *
  obtain ⟨W, hW, hb, hz, h0, h1⟩ : ∃ W, (w.alloc (.cells #[.int .i64 a, .int .i64 b] 35)).alloc (.cells #[.int .i64 0, .int .i64 0] 27) = W ∧ Below w.heap.size w W ∧ W.heap.size = w.heap.size + 2 ∧
      W.heap[w.heap.size]? = some (.cells #[.int .i64 a, .int .i64 b] 35 (0, 0)) ∧ W.heap[w.heap.size + 1]? = some (.cells #[.int .i64 0, .int .i64 0] 27 (0, 0)) := by
    refine ⟨_, rfl, ((Below.refl _ _).alloc (Nat.le_refl _) _).alloc (by simp) _, by simp, ?_, ?_⟩
    · rw [heap_old' _ _ _ (by simp), heap_new' _ _ _ rfl]
    · rw [heap_new' _ _ _ (by simp)]
  have a0 := (row_cell h0 0).trans (show _ = some (.int .i64 a) from rfl)
  have a1 := (row_cell h0 1).trans (show _ = some (.int .i64 b) from rfl)
  have k0 := (row_cell h1 0).trans (show _ = some (.int .i64 0) from rfl)
  have k1 := (row_cell h1 1).trans (show _ = some (.int .i64 0) from rfl)
  have f0 := frozen_of_row W (w.heap.size + 1) 0 _ _ h1
  have f1 := frozen_of_row W (w.heap.size + 1) 1 _ _ h1
  have HB := Lib.hid hb
  have H1 := Lib.hid h1
  clear h0 h1 hb hz ha0 ha1 hb0 hb1
  go_enter Tryd.func14, Tryd.ntmps14
  go_wp2_with fail
  clear hW
  refine wp_region_still_tail 7 (by kernel_rfl) (by kernel_rfl) ?_
  simp only [List.take_succ_cons, List.take_zero, List.drop_succ_cons, List.drop_zero]
  repeat still_step
  still_call (C1.out _)
  repeat still_step
  still_call (C2.out _)
  repeat still_step
  refine wpStill_nil ?_
  go_wp2
  obtain ⟨X, hX⟩ : ∃ X, ((W.setCell ⟨w.heap.size + 1, 0, none⟩ (.int .i64 (p : Int))).setCell ⟨w.heap.size + 1, 1, none⟩ (.int .i64 (q : Int))).drew = X := ⟨_, rfl⟩
  have hh : X.heap[w.heap.size + 1]? = some (.cells #[.int .i64 (p : Int), .int .i64 (q : Int)] 27 (0, 0)) := by
    rw [← hX]
    exact heap_setCell_same _ _ 1 _ _ _ (heap_setCell_same _ _ 0 _ _ _ H1.out)
  have c0 := (row_cell hh 0).trans (show _ = some (.int .i64 (p : Int)) from rfl)
  have c1 := (row_cell hh 1).trans (show _ = some (.int .i64 (q : Int)) from rfl)
  have hbX : Below w.heap.size w X := by rw [← hX]; exact ((HB.out.setCell (p := ⟨w.heap.size + 1, 0, none⟩) (by show _ ≤ w.heap.size + 1; omega) _).setCell (p := ⟨w.heap.size + 1, 1, none⟩) (by show _ ≤ w.heap.size + 1; omega) _).drew
  rw [hX]
  exact bodyPost_ret (v := CV p q) (by simp [results, Tryd.results14, go_sem, c0, c1]) rfl ⟨rfl, hbX⟩
set_option maxRecDepth 100000 in
set_option maxHeartbeats 1000000 in
theorem rsame_yes (al : Option Addr) (n c : Nat) (bl : Option Addr) (d : Nat) (zs : List Int) (w : World) (h : Sl w al n zs) (h' : Sl w bl n zs) :
    Calls Tryd.prog 21 #[.agg #[.slice al n c], .agg #[.slice bl n d]] w fun e w' => e = .returned (.bool true) ∧ Below w.heap.size w w' := by
  have hn := h.2.1
  obtain ⟨W, hW, hb, hz, h0, h1⟩ := box_ab w al n c bl n d
  have HB := Lib.hid hb
  have H := Lib.hid (And.intro (h.below (Nat.le_refl _) hb) (h'.below (Nat.le_refl _) hb))
  clear h h' hb hz
  go_enter Tryd.func21, Tryd.ntmps21
  go_wp2
  clear hW
  go_loopw [5] (fun iv wr => ∃ i k : Nat, i ≤ n ∧ iv = .int .i64 i ∧ wr = W.drewN k) (fun iv _ => n - (intOf iv).toNat)
  case atStart => exact ⟨0, 0, by omega, rfl, rfl⟩
  case round =>
    obtain ⟨i, k, hi, rfl, rfl⟩ := hrel
    have i0 : (0 : Int) ≤ i := by omega
    by_cases hlt : i < n
    · have hd : decide ((i : Int) < n) = true := by simp; omega
      have i1 : (i : Int) < n := by omega
      obtain ⟨b, o, rfl, hb, hc⟩ := H.out.1.at (by omega)
      obtain ⟨b', o', rfl, hb', hc'⟩ := H.out.2.at (by omega)
      have c0 := hc i hlt
      have c1 := hc' i hlt
      have HC := Lib.hid (And.intro hc hc')
      clear hc hc' hb hb'
      generalize zs.getD i 0 = z at c0 c1
      go_wp2
      go_quiet (fail)
      go_wp2
      exact ⟨⟨i + 1, k + nq, by omega, by go_num, rfl⟩, by simp [intOf]; omega⟩
    · obtain rfl : i = n := by omega
      have hd : decide ((i : Int) < i) = false := by simp
      go_wp2
      go_ret
      exact ⟨rfl, below_dn HB.out⟩
end Go.Proofs.YtipfafglbkbafaaDoor
