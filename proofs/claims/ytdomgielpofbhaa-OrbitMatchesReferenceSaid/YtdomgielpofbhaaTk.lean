/- Track. -/
import Derived.Test.YtdomgielpofbhaaSf
import Derived.Test.YtdomgielpofbhaaAs
namespace Go.Proofs.Ytdomgielpofbhaa
open Go.RowKit Go.Shelf Go.Maps
attribute [local go_sem] Oper.semAt_some
set_option linter.unusedSimpArgs false
set_option linter.unusedVariables false
/-- A spell that Track takes, and a delay. -/
def trkOK (f u late : Int) : Bool := isDel late && (isMin f && (isMin u && (decide (f ≤ u) && decide (u - f ≤ 3000))))
theorem trkOK_iff {f u late : Int} : trkOK f u late = true ↔ (-10 ≤ late ∧ late ≤ 10) ∧ (0 ≤ f ∧ f ≤ 1000000) ∧ (0 ≤ u ∧ u ≤ 1000000) ∧ f ≤ u ∧ u - f ≤ 3000 := by
  unfold trkOK
  simp only [Bool.and_eq_true, isDel_iff, isMin_iff, decide_eq_true_eq]
theorem trk_no {o : Orb} {f u late : Int} (h : (okB o && trkOK f u late) = false) : okB o = false ∨ (okB o = true ∧ isDel late = false) ∨ (okB o = true ∧ isDel late = true ∧ isMin f = false) ∨ (okB o = true ∧ isDel late = true ∧ isMin f = true ∧ isMin u = false) ∨
    (okB o = true ∧ isDel late = true ∧ isMin f = true ∧ isMin u = true ∧ u < f) ∨ (okB o = true ∧ isDel late = true ∧ isMin f = true ∧ isMin u = true ∧ f ≤ u ∧ 3000 < u - f) := by
  unfold trkOK at h
  revert h
  cases okB o <;> cases isDel late <;> cases isMin f <;> cases isMin u <;> simp
  omega
/-- As CI, and where the row lies. -/
abbrev CI2 (w : World) (B lo hi : Nat) (pre : List Cel) (W : World) : Prop := (∃ v, Boxed W B 41 v ∧ W.ownsRow w.heap.size 38 2 v pre.length (cvs pre) ∧ ∀ k, v.ownBlock = some k → k < lo ∨ hi ≤ k) ∧ Below w.heap.size w W
theorem ci2_own (w V : World) (B lo hi : Nat) (h : w.heap.size ≤ V.heap.size) : OwnFrom V.heap.size (CI2 w B lo hi) :=
  OwnFrom.and (Own.from (holdsRow_own w.heap.size B 41 38 2 (fun (pre : List Cel) => pre.length) cvs (fun _ v => ∀ k, v.ownBlock = some k → k < lo ∨ hi ≤ k)) _) (ownFrom_below (Nat.le_refl _) h)
set_option maxRecDepth 100000 in
set_option maxHeartbeats 4000000 in
theorem track_no (o : Orb) (f u late : Int) (h : (okB o && trkOK f u late) = false) (w : World) :
    Calls Try.prog 26 #[OV o, .agg #[.int .i64 f, .int .i64 u], .int .i64 late] w (OutL w [] 70) := by
  refine callsIn_wide (n := 8) |>.1 ?_
  obtain ⟨V, B, hV, hBn, hb, hk⟩ := box1 w (OC o) 24
  obtain ⟨X, C, hX, hCn, hb2, hk2⟩ := box1 V #[.int .i64 f, .int .i64 u] 26
  have HP := Lib.hid (show BX X B (OC o) 24 from BX.next hk hb2)
  have HC := Lib.hid (show BX X C #[.int .i64 f, .int .i64 u] 26 from hk2)
  have HB := Lib.hid (below_tr hb hb2)
  have CV := Lib.hid (fun W => valid_any o W)
  have c0 := BX.cell HP.out 0; have c1 := BX.cell HP.out 1; have c2 := BX.cell HP.out 2; have c3 := BX.cell HP.out 3; have c4 := BX.cell HP.out 4; have c5 := BX.cell HP.out 5; have c6 := BX.cell HP.out 6
  have s0 := BX.cell HC.out 0; have s1 := BX.cell HC.out 1
  clear hb hk hb2 hk2
  have hf0 : Fence.wide.fn 12 := trivial
  have hf1 : Fence.wide.fn 38 := trivial
  have hf2 : Fence.wide.fn 44 := trivial
  have hf3 : Fence.wide.fn 39 := trivial
  have hf4 : Fence.wide.fn 40 := trivial
  rcases trk_no h with e1 | ⟨e1, e2⟩ | ⟨e1, e2, e3⟩ | ⟨e1, e2, e3, e4⟩ | ⟨e1, e2, e3, e4, e5⟩ | ⟨e1, e2, e3, e4, e5, e6⟩
  all_goals
    clear h
    try have b0 := isMin_iff.1 e3
    try have b1 := isMin_iff.1 e4
    try obtain ⟨b2, b3⟩ := b0
    try obtain ⟨b4, b5⟩ := b1
    refine callsIn_of_wp_marks Try.func26 rfl trivial ?_ rfl
    simp only [Try.ntmps26, List.size_toArray, List.length_cons, List.length_nil, Nat.reduceAdd, Nat.reduceSub, Array.replicate_succ, Array.replicate_zero, List.push_toArray, List.append_toArray, List.nil_append, List.cons_append]
    gi_wp2_with (first
    | (gi_at_call 12; (with_reducible refine (callsIn_wide.2 (CV.out _)).mono ?_); rintro e w1 ⟨rfl, hb⟩; have HB1 := Lib.hid (below_tr HB.out hb); have HP1 := Lib.hid (BX.next HP.out hb); have HC1 := Lib.hid (BX.next HC.out hb); have r0 := BX.cell HC1.out 0; have r1 := BX.cell HC1.out 1; clear hb)
    | (gi_at_call 44; (with_reducible refine (callsIn_wide.2 (isDelay_any _ _)).mono ?_); rintro e wd ⟨rfl, rfl⟩)
    | (gi_at_call 38; (with_reducible refine (callsIn_wide.2 (isMinute_any _ _)).mono ?_); rintro e wm ⟨rfl, rfl⟩))
    exact ⟨.tuple #[.slice none 0 0, .int .i64 70], by simp [results, Try.f26, go_sem], none, 0, rfl, ⟨rfl, by decide, .inl rfl⟩, HB1.out⟩
set_option maxRecDepth 100000 in
set_option maxHeartbeats 4000000 in
theorem track_yes (o : Orb) (f u late : Int) (ho : okO o) (h : trkOK f u late = true) (w : World) :
    Calls Try.prog 26 #[OV o, .agg #[.int .i64 f, .int .i64 u], .int .i64 late] w (OutL w (trk o (f - late) (u - f).toNat) 0) := by
  refine callsIn_wide (n := 8) |>.1 ?_
  have e1 : okB o = true := okB_iff.2 ho
  obtain ⟨⟨l0, l1⟩, ⟨f0, f1⟩, ⟨u0, u1⟩, fu, du⟩ := trkOK_iff.1 h
  have e2 : isDel late = true := isDel_iff.2 ⟨l0, l1⟩
  have e3 : isMin f = true := isMin_iff.2 ⟨f0, f1⟩
  have e4 : isMin u = true := isMin_iff.2 ⟨u0, u1⟩
  obtain ⟨N, hN⟩ : ∃ N, (u - f).toNat = N := ⟨_, rfl⟩
  rw [hN]
  have hd : u - f = (N : Int) := by omega
  have n1 : (N : Int) ≤ 3000 := by omega
  have HN := Lib.hid hd
  have HO := Lib.hid ho
  have CP := Lib.hid (fun W => pathOf_any o ho W)
  have CC := Lib.hid (fun a b W => cellsD_any o a b W)
  obtain ⟨i0, hi, hz0, hz1, hz2⟩ := info_parts' infoCell
  have HI := Lib.hid (And.intro hi (And.intro hz0 (And.intro hz1 hz2)))
  clear hN du h ho hi hz0 hz1 hz2
  obtain ⟨V, B, hV, hBn, hb, hk⟩ := box1 w (OC o) 24
  obtain ⟨X, C, hX, hCn, hb2, hk2⟩ := box1 V #[.int .i64 f, .int .i64 u] 26
  have HP := Lib.hid (show BX X B (OC o) 24 from BX.next hk hb2)
  have HC := Lib.hid (show BX X C #[.int .i64 f, .int .i64 u] 26 from hk2)
  have HB := Lib.hid (below_tr hb hb2)
  have CV := Lib.hid (fun W => valid_any o W)
  have c0 := BX.cell HP.out 0; have c1 := BX.cell HP.out 1; have c2 := BX.cell HP.out 2; have c3 := BX.cell HP.out 3; have c4 := BX.cell HP.out 4; have c5 := BX.cell HP.out 5; have c6 := BX.cell HP.out 6
  have s0 := BX.cell HC.out 0; have s1 := BX.cell HC.out 1
  clear hb hk hb2 hk2
  have hf0 : Fence.wide.fn 12 := trivial
  have hf1 : Fence.wide.fn 38 := trivial
  have hf2 : Fence.wide.fn 44 := trivial
  have hf3 : Fence.wide.fn 39 := trivial
  have hf4 : Fence.wide.fn 40 := trivial
  refine callsIn_of_wp_marks Try.func26 rfl trivial ?_ rfl
  simp only [Try.ntmps26, List.size_toArray, List.length_cons, List.length_nil, Nat.reduceAdd, Nat.reduceSub, Array.replicate_succ, Array.replicate_zero, List.push_toArray, List.append_toArray, List.nil_append, List.cons_append]
  have d1 : decide (u < f) = false := by simp; omega
  have d2 : decide (3000 < (N : Int)) = false := by simp; omega
  gi_wp2_with (first
    | (gi_at_call 12; (with_reducible refine (callsIn_wide.2 (CV.out _)).mono ?_); rintro e w1 ⟨rfl, hb⟩; have HB1 := Lib.hid (below_tr HB.out hb); have HP1 := Lib.hid (BX.next HP.out hb); have HC1 := Lib.hid (BX.next HC.out hb); have r0 := BX.cell HC1.out 0; have r1 := BX.cell HC1.out 1; have HS1 := Lib.hid (below_tr HB.out hb).size; obtain ⟨i0, hi⟩ : ∃ i, Try.prog.info? 38 = some i ∧ i.zero = some (.agg #[.int .i64 0, .int .i64 0]) ∧ i.size = 2 ∧ i.bytes = 16 := info_parts' infoCell; obtain ⟨wM, hrun, hrow, hgr⟩ := run_make_own (P := Try.prog) w1 w.heap.size 41 38 i0 _ 2 Try.underlying41 hi.1 hi.2.1 hi.2.2.1 .i64 .i64 N (by rw [hi.2.2.2]; omega) (by unfold maxLen; omega) HS1.out; have hbM : Below w1.heap.size w1 wM := ⟨hgr.os, hgr.tape, hgr.output, hgr.size, fun k hk => hgr.block k hk (by simp)⟩; have HROW := Lib.hid hrow; have HSM := Lib.hid hgr.size; have HBM := Lib.hid (below_tr HB1.out hbM); have HPM := Lib.hid (BX.next HP1.out hbM); have HCM := Lib.hid (BX.next HC1.out hbM); have m0 := BX.cell HCM.out 0; have m1 := BX.cell HCM.out 1; clear hb hrow hgr hbM hi)
    | (gi_at_call 44; (with_reducible refine (callsIn_wide.2 (isDelay_any _ _)).mono ?_); rintro e wd ⟨rfl, rfl⟩)
    | (gi_at_call 38; (with_reducible refine (callsIn_wide.2 (isMinute_any _ _)).mono ?_); rintro e wm ⟨rfl, rfl⟩))
  clear d1 d2 hrun r0 r1 s0 s1
  obtain ⟨X2, hX2⟩ : ∃ X2, wM.alloc (.cells #[.slice (some ⟨w1.heap.size, 0, none⟩) 0 N] 41) = X2 := ⟨_, rfl⟩
  obtain ⟨D, hD⟩ : ∃ D, wM.heap.size = D := ⟨_, rfl⟩
  have hbX : Below wM.heap.size wM X2 := by rw [← hX2]; exact (Below.refl _ _).alloc (Nat.le_refl _) _
  have HBX := Lib.hid (show Boxed X2 D 41 (.slice (some ⟨w1.heap.size, 0, none⟩) 0 N) from by rw [← hX2, ← hD]; exact Boxed.new wM _ _)
  have HRW := Lib.hid (show X2.ownsRow w.heap.size 38 2 (.slice (some ⟨w1.heap.size, 0, none⟩) 0 N) 0 [] from by rw [← hX2]; exact HROW.out.alloc _)
  have HB2 := Lib.hid (below_tr HBM.out hbX)
  have HP2 := Lib.hid (BX.next HPM.out hbX)
  have HC2 := Lib.hid (BX.next HCM.out hbX)
  have HW1D := Lib.hid (show w1.heap.size ≤ D from by rw [← hD]; exact HSM.out)
  have HDL := Lib.hid (show w.heap.size ≤ D ∧ D < X2.heap.size from ⟨by have := HBM.out.size; omega, HBX.out.lt⟩)
  rw [hX2, hD]
  clear hX2 hbX hD hX hV HP HC HB HP1 HC1 HB1 HPM HCM HBM HROW CV c0 c1 c2 c3 c4 c5 c6
  have hB : Below X2.heap.size X2 X2.drew := (Below.refl _ _).drew
  have K := Lib.hid (fun w' (h : Below X2.heap.size X2 w') => show (fun w' => w'.cell? ⟨B, 0, none⟩ = some (.int .i64 o.p) ∧ w'.cell? ⟨B, 1, none⟩ = some (.int .i64 o.f) ∧ w'.cell? ⟨B, 2, none⟩ = some (.int .i64 o.lo) ∧ w'.cell? ⟨B, 3, none⟩ = some (.int .i64 o.hi) ∧ w'.cell? ⟨B, 4, none⟩ = some (.int .i64 o.nd) ∧ w'.cell? ⟨B, 5, none⟩ = some (.int .i64 o.tn) ∧ w'.cell? ⟨B, 6, none⟩ = some (.int .i64 o.sl) ∧ w'.cell? ⟨C, 0, none⟩ = some (.int .i64 f) ∧ w'.cell? ⟨C, 1, none⟩ = some (.int .i64 u)) w' from
    have p := BX.next HP2.out h
    have q := BX.next HC2.out h
    ⟨p.cell 0, p.cell 1, p.cell 2, p.cell 3, p.cell 4, p.cell 5, p.cell 6, q.cell 0, q.cell 1⟩)
  refine wpIn_wide.2 ?_
  go_region_held3 (fun w' => w'.cell? ⟨B, 0, none⟩ = some (.int .i64 o.p) ∧ w'.cell? ⟨B, 1, none⟩ = some (.int .i64 o.f) ∧ w'.cell? ⟨B, 2, none⟩ = some (.int .i64 o.lo) ∧ w'.cell? ⟨B, 3, none⟩ = some (.int .i64 o.hi) ∧ w'.cell? ⟨B, 4, none⟩ = some (.int .i64 o.nd) ∧ w'.cell? ⟨B, 5, none⟩ = some (.int .i64 o.tn) ∧ w'.cell? ⟨B, 6, none⟩ = some (.int .i64 o.sl) ∧ w'.cell? ⟨C, 0, none⟩ = some (.int .i64 f) ∧ w'.cell? ⟨C, 1, none⟩ = some (.int .i64 u))
    (first
      | exact K.out _ hB
      | go_keep)
    (first
      | (go_at_call 39; (with_reducible refine (CP.out _).mono ?_); rintro e w2 ⟨rfl, hb⟩; replace hB := hB.trans (hb.mono hB.size))
      | (go_at_call 40; (with_reducible refine (CC.out _ _ _).mono ?_); rintro e w3 ⟨A, B3, E, rfl, hbxs, hb, hlo⟩; have HBXS := Lib.hid hbxs; have HLO := Lib.hid (show X2.heap.size ≤ A ∧ X2.heap.size ≤ B3 ∧ X2.heap.size ≤ E from ⟨Nat.le_trans hB.size hlo.1, Nat.le_trans hB.size hlo.2.1, Nat.le_trans hB.size hlo.2.2⟩); replace hB := hB.trans (hb.mono hB.size); clear hbxs hlo))
  have HB3 := Lib.hid hB
  clear hB
  obtain ⟨a, ha⟩ : ∃ a, f - late = a := ⟨_, rfl⟩
  have HA := Lib.hid (show -20 ≤ a ∧ a + (N : Int) ≤ 2000000 from ⟨by omega, by have := HN.out; omega⟩)
  rw [wrap_in (z := f - late) (by omega) (by omega), wrap_in (z := u - late) (by omega) (by omega), ha, show u - late = a + (N : Int) from by have := HN.out; omega] at HBXS ⊢
  have HF := Lib.hid ha
  clear ha
  gi_wp2_with fail
  have HOW := Lib.hid (show Boxed w3 D 41 (.slice (some ⟨w1.heap.size, 0, none⟩) 0 N) ∧ w3.ownsRow w.heap.size 38 2 (.slice (some ⟨w1.heap.size, 0, none⟩) 0 N) 0 [] ∧ Below w.heap.size w w3 from
    ⟨(BX.next (cs := #[_]) HBX.out HB3.out : _), row_keep HRW.out HB3.out, below_tr HB2.out HB3.out⟩)
  have HOI := Lib.hid (ci2_own w w3 D X2.heap.size w3.heap.size HOW.out.2.2.size)
  have HST := Lib.hid (cells_stops (8 - 1) (by decide) A B3 E o HO.out a N HA.out.1 HA.out.2 w3 HBXS.out)
  have HCI := Lib.hid (show CI2 w D X2.heap.size w3.heap.size [] w3 from ⟨⟨_, HOW.out.1, HOW.out.2.1, fun k hk => by cases hk; exact .inl (Nat.lt_of_le_of_lt HW1D.out HDL.out.2)⟩, HOW.out.2.2⟩)
  clear HBX HRW HB2 HP2 HC2 K
  have HW1 := Lib.hid (show w1.heap.size < X2.heap.size ∧ D < X2.heap.size from ⟨Nat.lt_of_le_of_lt HW1D.out HDL.out.2, HDL.out.2⟩)
  refine wpIn_rangeFunc_ownH (n := 8) rfl (by decide) (gf := 47) (lb := #[.pointer (some ⟨A, 0, none⟩), .pointer (some ⟨B3, 0, none⟩), .pointer (some ⟨E, 0, none⟩)]) rfl trivial (enters_of Try.func47 (by kernel_rfl) rfl)
    HST.out k3_t k3_b (Below.refl _ _) (fun _ => rfl) (CI2 w D X2.heap.size w3.heap.size) (fun _ _ _ => False) HOI.out (fun _ _ _ _ _ hs _ _ => hs) HCI.out
    (fun x a' W => ∃ q, a' = { tmps := #[OV o, .agg #[.int .i64 f, .int .i64 u], .int .i64 late, .pointer (some ⟨B, 0, none⟩), .pointer (some ⟨C, 0, none⟩), undef, .slice none 0 0, .int .i64 0, .pointer (some ⟨D, 0, none⟩), .pointer (some ⟨q, 0, none⟩), .agg #[.int .i64 o.p, .int .i64 o.f, .int .i64 o.lo, .int .i64 o.hi, .int .i64 o.nd, .int .i64 o.tn, .int .i64 o.sl], .bool true, .bool false, .bool false, .int .i64 late, .bool true, .bool false, .bool false, .bool false, .pointer (some ⟨C, 0, none⟩), .int .i64 f, .bool true, .bool false, .bool false, .bool false, .pointer (some ⟨C, 1, none⟩), .int .i64 u, .bool true, .bool false, .bool false, .bool false, .pointer (some ⟨C, 0, none⟩), .int .i64 f, .pointer (some ⟨C, 1, none⟩), .int .i64 u, .bool false, .bool false, .bool false, .pointer (some ⟨C, 1, none⟩), .int .i64 u, .pointer (some ⟨C, 0, none⟩), .int .i64 f, .int .i64 (N : Int), .bool false, .bool false, .pointer (some ⟨C, 1, none⟩), .int .i64 u, .pointer (some ⟨C, 0, none⟩), .int .i64 f, .int .i64 (N : Int), .slice (some ⟨w1.heap.size, 0, none⟩) 0 N, .agg #[.int .i64 o.p, .int .i64 o.f, .int .i64 o.lo, .int .i64 o.hi, .int .i64 o.nd, .int .i64 o.tn, .int .i64 o.sl], PV o, .pointer (some ⟨C, 0, none⟩), .int .i64 f, .int .i64 late, .int .i64 a, .pointer (some ⟨C, 1, none⟩), .int .i64 u, .int .i64 late, .int .i64 (a + (N : Int)), .func (.func 47) #[] #[.pointer (some ⟨A, 0, none⟩), .pointer (some ⟨B3, 0, none⟩), .pointer (some ⟨E, 0, none⟩)], KV x, undef, undef, undef, undef, undef], defers := [] } ∧ BX W q #[iV x.1.1, iV x.1.2] 38)
    (fun x a' s X Y row hs hg hr => by
      obtain ⟨q, h1, h2⟩ := hs
      exact ⟨q, h1, (BX.own (β := Unit) q 38 _) s X Y row h2 hg (fun r e => (hr r e).2)⟩) ?assign ?body ?done ?stop
  case assign =>
    intro l pre x W KK hI hK
    have HK := Lib.hid hK
    clear hK
    gi_wp2
    obtain ⟨⟨v, hv, hrow, hvk⟩, hB⟩ := hI
    exact HK.out _ _ ((KeepsOthers.alloc _ _).from _) (K3.next ((Below.refl _ _).alloc (Nat.le_refl _) _)) ⟨⟨v, hv.alloc _, hrow.alloc _, hvk⟩, hB.alloc hB.size _⟩ ⟨W.heap.size, rfl, BX.new rfl⟩
  case body =>
    intro l pre x a' W hl hrec hI hA hlt
    obtain ⟨⟨v, hv, hrow, hvk⟩, hB⟩ := hI
    obtain ⟨q, rfl, hq⟩ := hA
    have hc := hv.cell
    have q0 := hq.cell 0
    have q1 := hq.cell 1
    obtain ⟨i0, hi, hz0, hz1, hz2⟩ := info_parts' infoCell
    have hBz := hB.size
    have hcv := Lib.hid (show cvs (pre ++ [x]) = cvs pre ++ [iV x.1.1, iV x.1.2] from cvs_app pre [x])
    have hls : w3.heap.size ≤ W.heap.size := Nat.le_of_lt (Nat.lt_of_le_of_lt hl (Array.getElem?_eq_some_iff.1 hrec.choose_spec).1)
    clear hrec hl
    gi_wp2_with (gi_at_builtin; refine wpListIn_append_own_at _ rfl _ _ 41 rfl w.heap.size 38 i0 (.agg #[.int .i64 0, .int .i64 0]) 2 16 Try.underlying41 hi hz0 hz1 hz2 rfl (by decide) _ _ _ rfl (hrow.alloc _) ⟨W.heap.size, 0, none⟩ 1 1 [iV x.1.1, iV x.1.2] rfl rfl (World.news_of_block (cs := #[iV x.1.1, iV x.1.2]) (heap_new' W _ _ rfl)) (by simp [Value.oneCell']) (by unfold maxLen; omega) (by omega) (by simp; omega) ?_; intro v' w9 hown' hgrow _ hat; obtain ⟨g', cap', rfl⟩ := ownsRow_succ hown'; obtain ⟨hv1, hv2, hr2, hk2, hb2⟩ := hv.appended (by decide) hrow hBz (by have := HDL.out; omega) hown' hgrow; have hc1 := hv1.cell; have hf1 := hv1.frozen)
    have hWs : w3.heap.size ≤ W.heap.size := hls
    have hvk' : ∀ k, (Value.slice (some ⟨g', 0, none⟩) (pre.length + 1) cap').ownBlock = some k → k < X2.heap.size ∨ w3.heap.size ≤ k := fun k hk => by
      rcases hat with h | h
      · exact hvk k (Eq.trans (show v.ownBlock = (Value.slice (some ⟨g', 0, none⟩) (pre.length + 1) cap').ownBlock from h.symm) hk)
      · rw [h] at hk
        cases hk
        exact .inr (by simp; omega)
    have hks : ∀ Z, X2.heap.size ≤ Z → Z < w3.heap.size → Ks Z W (w9.setCell ⟨D, 0, none⟩ (.slice (some ⟨g', 0, none⟩) (pre.length + 1) cap')) := fun Z hz hz2 i u hu => by
      have hlt : Z < W.heap.size := World.block_lt_of_cell? W ⟨Z, i, none⟩ hu
      have e1 : (W.alloc (.cells #[iV x.1.1, iV x.1.2] 38)).heap[Z]? = W.heap[Z]? := Below.heap_alloc _ _ _ hlt
      have e2 : w9.heap[Z]? = (W.alloc (.cells #[iV x.1.1, iV x.1.2] 38)).heap[Z]? := hgrow.block Z (by simp; omega) (fun e => by rcases hvk Z e.symm with h | h <;> omega)
      have hne : Z ≠ D := by have := HW1.out.2; omega
      exact (World.cell?_setCell_far w9 ⟨D, 0, none⟩ ⟨Z, i, none⟩ _ (fun e => hne e.symm)).trans ((World.cell?_of_block (a := ⟨Z, i, none⟩) (e2.trans e1)).trans hu)
    have h3 := HBXS.out
    exact ⟨hk2.from _, ⟨hks A HLO.out.1 (World.block_lt_of_cell? w3 _ h3.1), hks B3 HLO.out.2.1 (World.block_lt_of_cell? w3 _ h3.2.1), hks E HLO.out.2.2 (World.block_lt_of_cell? w3 _ h3.2.2.1)⟩, ⟨_, hv2, by rw [hcv.out, List.length_append]; exact hr2, hvk'⟩, hB.trans hb2⟩
  case done =>
    intro DD ys W hD hS hI hDef
    subst hS
    obtain ⟨⟨v, hv, hrow, -⟩, hB⟩ := hI
    have hc := hv.cell
    obtain ⟨al, c, rfl, hcs⟩ := Cs.of_row hrow (by rw [trk_len]; omega)
    have HCS := Lib.hid hcs
    have HD := Lib.hid hD
    have HBW := Lib.hid hB
    have HDD := Lib.hid hDef
    clear hrow hv hD hB hDef hcs
    gi_wp2
    refine ⟨by simp, .inl ⟨_, _, rfl, run_takeDeferred HDD.out, ?_⟩⟩
    refine ⟨.tuple #[.slice al (trk o a N).length c, .int .i64 0], by simp [results, Try.f26, go_sem], al, c, ?_, ?_, HBW.out.trans (belowK_b (w := w) (Nat.le_refl _) _ DD _ _ ?_ HDD.out rfl rfl)⟩
    · rw [HF.out]
    · rw [HF.out]; exact HCS.out.put HDD.out
    · have := HD.out; have := HOW.out.2.2.size; omega
  case stop =>
    intro D c pre W _ _ h _
    exact h.elim
end Go.Proofs.Ytdomgielpofbhaa
