/- Could and Must. -/
import Derived.Test.YtdomgielpofbhaaSf
import Derived.Test.YtdomgielpofbhaaAs
namespace Go.Proofs.Ytdomgielpofbhaa
open Go.RowKit Go.Shelf Go.Maps
attribute [local go_sem] Oper.semAt_some
set_option linter.unusedSimpArgs false
set_option linter.unusedVariables false
theorem ks_map {W W' : World} {A b n : Nat} {xs : List Cel} (h : Own7 W b n xs) (hg : W.grownBy W' (some b)) : Ks A W W' := fun i v hc => by
  have hne : A ≠ b := fun e => by
    subst e
    obtain ⟨es, clock, hb, _⟩ := h
    simp [World.cell?, hb] at hc
  exact (World.cell?_of_block (a := ⟨A, i, none⟩) (hg.block A (World.block_lt_of_cell? W ⟨A, i, none⟩ hc) (fun e => hne (Option.some.inj e)))).trans hc
set_option maxRecDepth 100000 in
set_option maxHeartbeats 4000000 in
theorem could_yes (o : Orb) (t : Int) (ho : okO o) (ht : isMin t = true) (w : World) :
    Calls Try.prog 21 #[OV o, .int .i64 t] w fun e w' => ∃ l, Could o t l ∧ OutL w l 0 e w' := by
  refine callsIn_wide (n := 8) |>.1 ?_
  have e1 : okB o = true := okB_iff.2 ho
  have hmm := @run_makeMap Try.prog
  obtain ⟨V, B, hV, hBn, hb, hk⟩ := box1 w (OC o) 24
  have HP := Lib.hid (show BX V B (OC o) 24 from hk)
  have HB := Lib.hid hb
  have CP := Lib.hid (fun W => pathOf_any o ho W)
  have CV := Lib.hid (fun W => valid_any o W)
  have HO := Lib.hid ho
  have HT := Lib.hid (isMin_iff.1 ht)
  obtain ⟨t0, t1⟩ := isMin_iff.1 ht
  have s0 : 0 ≤ o.sl := by unfold okO at ho; omega
  have s1 : o.sl ≤ 10 := by unfold okO at ho; omega
  have c0 := BX.cell HP.out 0; have c1 := BX.cell HP.out 1; have c2 := BX.cell HP.out 2; have c3 := BX.cell HP.out 3; have c4 := BX.cell HP.out 4; have c5 := BX.cell HP.out 5; have c6 := BX.cell HP.out 6
  clear hb hk ho
  have hf12 : Fence.wide.fn 12 := trivial
  have hf38 : Fence.wide.fn 38 := trivial
  have hf39 : Fence.wide.fn 39 := trivial
  have hf40 : Fence.wide.fn 40 := trivial
  have hf41 : Fence.wide.fn 41 := trivial
  have hf42 : Fence.wide.fn 42 := trivial
  refine callsIn_of_wp_marks Try.func21 rfl trivial ?_ rfl
  simp only [Try.ntmps21, List.size_toArray, List.length_cons, List.length_nil, Nat.reduceAdd, Nat.reduceSub, Array.replicate_succ, Array.replicate_zero, List.push_toArray, List.append_toArray, List.nil_append, List.cons_append]
  gi_wp2_with fail
  (with_reducible refine (callsIn_wide.2 (CV.out _)).mono ?_)
  rintro e w1 ⟨rfl, hb1⟩
  have HP1 := Lib.hid (BX.next HP.out hb1)
  have HB1 := Lib.hid (below_tr HB.out hb1)
  clear hb1 c0 c1 c2 c3 c4 c5 c6 HP HB CV hV
  have d0 := BX.cell HP1.out 0; have d1 := BX.cell HP1.out 1; have d2 := BX.cell HP1.out 2; have d3 := BX.cell HP1.out 3; have d4 := BX.cell HP1.out 4; have d5 := BX.cell HP1.out 5; have d6 := BX.cell HP1.out 6
  gi_wp2_with fail
  (with_reducible refine (callsIn_wide.2 (isMinute_any _ _)).mono ?_)
  rintro e wm ⟨rfl, rfl⟩
  clear d0 d1 d2 d3 d4 d5 d6
  gi_wp2_with fail
  obtain ⟨b, hbn⟩ : ∃ b, w1.heap.size = b := ⟨_, rfl⟩
  obtain ⟨Bm, hBm⟩ : ∃ Bm, b + 1 = Bm := ⟨_, rfl⟩
  obtain ⟨X, hX⟩ : ∃ X, (w1.alloc (.map #[] 0)).alloc (.cells #[.map (some b)] 69) = X := ⟨_, rfl⟩
  have hown0 : Own7 X b 0 [] := by rw [← hX, ← hbn]; exact (World.ownsMap_made w1 _ _ _).alloc _
  have hbox0 : BX X Bm #[.map (some b)] 69 := by rw [← hX]; exact BX.new (by rw [← hBm, ← hbn]; simp)
  have hbX : Below w1.heap.size w1 X := by rw [← hX]; exact ((Below.refl _ _).alloc (Nat.le_refl _) _).alloc (by simp) _
  have HOX := Lib.hid (And.intro hown0 hbox0)
  have HBX := Lib.hid (below_tr HB1.out hbX)
  have HPX := Lib.hid (BX.next HP1.out hbX)
  have HLT := Lib.hid (show w.heap.size ≤ b ∧ b < X.heap.size ∧ b + 1 = Bm from ⟨by have := HB1.out.size; omega, hown0.lt, hBm⟩)
  rw [hbn, hBm, hX]
  clear hown0 hbox0 hbX hX hbn hBm HP1 HB1
  have hB : Below X.heap.size X X.drew := (Below.refl _ _).drew
  have K := Lib.hid (fun w' (h : Below X.heap.size X w') => show (fun w' => w'.cell? ⟨B, 0, none⟩ = some (.int .i64 o.p) ∧ w'.cell? ⟨B, 1, none⟩ = some (.int .i64 o.f) ∧ w'.cell? ⟨B, 2, none⟩ = some (.int .i64 o.lo) ∧ w'.cell? ⟨B, 3, none⟩ = some (.int .i64 o.hi) ∧ w'.cell? ⟨B, 4, none⟩ = some (.int .i64 o.nd) ∧ w'.cell? ⟨B, 5, none⟩ = some (.int .i64 o.tn) ∧ w'.cell? ⟨B, 6, none⟩ = some (.int .i64 o.sl)) w' from
    have p := BX.next HPX.out h
    ⟨p.cell 0, p.cell 1, p.cell 2, p.cell 3, p.cell 4, p.cell 5, p.cell 6⟩)
  have CC := Lib.hid (fun a b W => cellsC_any o a b W)
  refine wpIn_wide.2 ?_
  go_region_held3 (fun w' => w'.cell? ⟨B, 0, none⟩ = some (.int .i64 o.p) ∧ w'.cell? ⟨B, 1, none⟩ = some (.int .i64 o.f) ∧ w'.cell? ⟨B, 2, none⟩ = some (.int .i64 o.lo) ∧ w'.cell? ⟨B, 3, none⟩ = some (.int .i64 o.hi) ∧ w'.cell? ⟨B, 4, none⟩ = some (.int .i64 o.nd) ∧ w'.cell? ⟨B, 5, none⟩ = some (.int .i64 o.tn) ∧ w'.cell? ⟨B, 6, none⟩ = some (.int .i64 o.sl))
    (first
      | exact K.out _ hB
      | go_keep)
    (first
      | (go_at_call 39; (with_reducible refine (CP.out _).mono ?_); rintro e w2 ⟨rfl, hb⟩; replace hB := hB.trans (hb.mono hB.size))
      | (go_at_call 40; (with_reducible refine (CC.out _ _ _).mono ?_); rintro e w3 ⟨A, C, E, rfl, hbxs, hb⟩; have HBXS := Lib.hid hbxs; replace hB := hB.trans (hb.mono hB.size); clear hbxs))
  have HB3 := Lib.hid hB
  clear hB
  obtain ⟨N, hN⟩ : ∃ N, (2 * o.sl + 1).toNat = N := ⟨_, rfl⟩
  obtain ⟨a, ha⟩ : ∃ a, t - o.sl = a := ⟨_, rfl⟩
  obtain ⟨ts, hts⟩ : ∃ ts, t + o.sl = ts := ⟨_, rfl⟩
  have HN := Lib.hid (And.intro hN (And.intro ha hts))
  rw [wrap_in (z := t - o.sl) (by omega) (by omega), wrap_in (z := t + o.sl) (by omega) (by omega), ha, hts, wrap_in (z := ts + 1) (by omega) (by omega), show ts + 1 = a + (N : Int) by omega] at HBXS ⊢
  have HA := Lib.hid (show -20 ≤ a ∧ a + (N : Int) ≤ 2000000 ∧ N ≤ 21 from ⟨by omega, by omega, by omega⟩)
  clear hN ha hts
  gi_wp2_with fail
  have HOW := Lib.hid (show BX w3 Bm #[.map (some b)] 69 ∧ Own7 w3 b 0 [] ∧ Below w.heap.size w w3 ∧ b < w3.heap.size from
    ⟨BX.next HOX.out.2 HB3.out, HOX.out.1.kept (grown_of_below HB3.out) (by simp), below_tr HBX.out HB3.out, by have := HLT.out; have := HB3.out.size; omega⟩)
  have HI := Lib.hid (show OwnFrom w3.heap.size (fun (pre : List Cel) W => (BX W Bm #[.map (some b)] 69 ∧ Own7 W b pre.length pre) ∧ Below w.heap.size w W) from
    OwnFrom.and (fun s A B row hs hg hr => ⟨(BX.own (β := Unit) Bm 69 _) () A B row hs.1 hg (fun r e => (hr r e).2), hs.2.kept hg (fun e => by have := (hr _ e.symm).1; have := HOW.out.2.2.2; omega)⟩) (ownFrom_below (Nat.le_refl _) HOW.out.2.2.1.size))
  have HST := Lib.hid (cells_stops (8 - 1) (by decide) A C E o HO.out a N HA.out.1 HA.out.2.1 w3 HBXS.out)
  refine wpIn_rangeFunc_ownH (n := 8) rfl (by decide) (gf := 47) (lb := #[.pointer (some ⟨A, 0, none⟩), .pointer (some ⟨C, 0, none⟩), .pointer (some ⟨E, 0, none⟩)]) rfl trivial (enters_of Try.func47 (by kernel_rfl) rfl)
    HST.out k3_t k3_b (Below.refl _ _) (fun _ => rfl) (fun (pre : List Cel) W => (BX W Bm #[.map (some b)] 69 ∧ Own7 W b pre.length pre) ∧ Below w.heap.size w W) (fun _ _ _ => False) HI.out (fun _ _ _ _ _ hs _ _ => hs) ⟨⟨HOW.out.1, HOW.out.2.1⟩, HOW.out.2.2.1⟩
    (fun x a' W => ∃ q, a' = { tmps := #[OV o, .int .i64 t, .pointer (some ⟨B, 0, none⟩), undef, .slice none 0 0, .int .i64 0, .pointer (some ⟨Bm, 0, none⟩), .pointer (some ⟨q, 0, none⟩), .agg #[.int .i64 o.p, .int .i64 o.f, .int .i64 o.lo, .int .i64 o.hi, .int .i64 o.nd, .int .i64 o.tn, .int .i64 o.sl], .bool true, .bool false, .bool false, .int .i64 t, .bool true, .bool false, .bool false, .map (some b), .agg #[.int .i64 o.p, .int .i64 o.f, .int .i64 o.lo, .int .i64 o.hi, .int .i64 o.nd, .int .i64 o.tn, .int .i64 o.sl], PV o, .int .i64 t, .pointer (some ⟨B, 6, none⟩), .int .i64 o.sl, .int .i64 a, .int .i64 t, .pointer (some ⟨B, 6, none⟩), .int .i64 o.sl, .int .i64 ts, .int .i64 (a + (N : Int)), .func (.func 47) #[] #[.pointer (some ⟨A, 0, none⟩), .pointer (some ⟨C, 0, none⟩), .pointer (some ⟨E, 0, none⟩)], KV x, undef, undef, undef, undef, undef], defers := [] } ∧ BX W q #[iV x.1.1, iV x.1.2] 38)
    (fun x a' s X Y row hs hg hr => by
      obtain ⟨q, h1, h2⟩ := hs
      exact ⟨q, h1, (BX.own (β := Unit) q 38 _) s X Y row h2 hg (fun r e => (hr r e).2)⟩) ?assign ?body ?done ?stop
  case assign =>
    intro l pre x W KK hI hK
    have HK := Lib.hid hK
    clear hK
    gi_wp2
    obtain ⟨⟨h1, h2⟩, h3⟩ := hI
    exact HK.out _ _ ((KeepsOthers.alloc _ _).from _) (K3.next ((Below.refl _ _).alloc (Nat.le_refl _) _)) ⟨⟨h1.alloc _, h2.alloc _⟩, h3.alloc h3.size _⟩ ⟨W.heap.size, rfl, BX.new rfl⟩
  case body =>
    intro l pre x a' W hl hrec hI hA hlt
    obtain ⟨⟨h1, hown⟩, h3⟩ := hI
    obtain ⟨q, rfl, hq⟩ := hA
    have q0 := hq.cell 0
    have q1 := hq.cell 1
    have m0 := h1.cell 0
    have H1 := Lib.hid h1
    have H3 := Lib.hid h3
    have HLN := Lib.hid hlt
    clear h1 h3 hl hrec hq hlt
    gi_wp2_with (gi_at_mapUpdate; refine wpListIn_mapUpdate_own _ rfl _ _ _ 69 rfl 38 4 lawCell Try.underlying69 _ b pre.length _ rfl hown (by have := HLN.out; have := HA.out.2.2; unfold maxLen; omega) _ _ _ rfl rfl (keyOf_cell x) _ [] (plainElem_bool Try.underlying4 true) ?_; intro wu hownu hgrow)
    have hlt := HLT.out
    have hlw := HOW.out.2.2.2
    exact ⟨KeepsFrom.of_grownBy hgrow (fun j e => by cases e; exact hlw), ⟨ks_map hown hgrow, ks_map hown hgrow, ks_map hown hgrow⟩,
      ⟨(hgrow.block Bm H1.out.lt (fun e => by have := Option.some.inj e; omega)).trans H1.out, by rw [List.length_append]; show World.ownsMap _ _ _ _ _ _ (setD (pre ++ [x])); rw [setD_snoc]; exact hownu⟩, H3.out.grown hgrow H3.out.size (fun k e => by cases e; exact hlt.1)⟩
  case done =>
    intro D ys W hD hS hI hDef
    subst hS
    obtain ⟨⟨h1, hown⟩, h3⟩ := hI
    have m0 := h1.cell 0
    obtain ⟨W4, Bk, eW4, eBk, hb4, hk4⟩ := box1 W #[.map (some b)] 69
    have H4 := Lib.hid (sorted_in (8 - 1) (by decide) 50 #[.pointer (some ⟨Bk, 0, none⟩)] (enters_of Try.func50 (by kernel_rfl) rfl) (trk o a N)
      (by rw [trk_len]; have := HN.out; omega) (by rw [trk_len]; have := HA.out; omega) _ W4 (keys_stops (8 - 1 - 1 - 1 - 1) (by decide) Bk b _ (trk o a N) W4 (BX.lt hk4) (BX.cell hk4 0) (hown.kept (grown_of_below hb4) (by simp))))
    have HD := Lib.hid hD
    have HDD := Lib.hid ((hb4.block D (Array.getElem?_eq_some_iff.1 hDef).1).trans hDef)
    have H3 := Lib.hid (below_tr h3 hb4)
    clear h1 hown h3 hD hDef hb4 hk4
    gi_wp2_with fail
    (with_reducible refine (keys_in Fence.wide _ hf42 rfl _ _).mono ?_)
    rintro e wk ⟨rfl, rfl⟩
    rw [eBk, eW4]
    clear m0 eBk eW4
    gi_wp2_with fail
    (with_reducible refine H4.out.mono ?_)
    rintro e w5 ⟨al, l, c, rfl, hcs, hs1, hs2, hb5⟩
    have HCS := Lib.hid hcs
    have HCD := Lib.hid (show Could o t l from ⟨hs1, fun c => by rw [hs2]; have := HN.out; rw [this.1, this.2.1]⟩)
    have HD5 := Lib.hid ((hb5.block D (Array.getElem?_eq_some_iff.1 HDD.out).1).trans HDD.out)
    have H5 := Lib.hid (below_tr H3.out hb5)
    clear hcs hs1 hs2 hb5 H4
    gi_wp2
    refine ⟨by simp, .inl ⟨_, _, rfl, run_takeDeferred HD5.out, ?_⟩⟩
    refine ⟨_, by simp [results, Try.f21, go_sem], l, HCD.out, al, c, rfl, HCS.out.put HD5.out, H5.out.trans (belowK_b (w := w) (Nat.le_refl _) _ D _ _ ?_ HD5.out rfl rfl)⟩
    have := HD.out; have := HOW.out.2.2.1.size; omega
  case stop =>
    intro D c pre W _ _ h _
    exact h.elim
set_option maxRecDepth 100000 in
set_option maxHeartbeats 2000000 in
theorem could_noA (o : Orb) (t : Int) (e1 : okB o = false) (w : World) : Calls Try.prog 21 #[OV o, .int .i64 t] w (OutL w [] 70) := by
  refine callsIn_wide (n := 8) |>.1 ?_
  obtain ⟨V, B, hV, hBn, hb, hk⟩ := box1 w (OC o) 24
  have HP := Lib.hid (show BX V B (OC o) 24 from hk)
  have HB := Lib.hid hb
  have CV := Lib.hid (fun W => valid_any o W)
  have c0 := BX.cell HP.out 0; have c1 := BX.cell HP.out 1; have c2 := BX.cell HP.out 2; have c3 := BX.cell HP.out 3; have c4 := BX.cell HP.out 4; have c5 := BX.cell HP.out 5; have c6 := BX.cell HP.out 6
  clear hb hk
  have hf12 : Fence.wide.fn 12 := trivial
  have hf38 : Fence.wide.fn 38 := trivial
  refine callsIn_of_wp_marks Try.func21 rfl trivial ?_ rfl
  simp only [Try.ntmps21, List.size_toArray, List.length_cons, List.length_nil, Nat.reduceAdd, Nat.reduceSub, Array.replicate_succ, Array.replicate_zero, List.push_toArray, List.append_toArray, List.nil_append, List.cons_append]
  gi_wp2_with fail
  (with_reducible refine (callsIn_wide.2 (CV.out _)).mono ?_)
  rintro e w1 ⟨rfl, hb1⟩
  have HP1 := Lib.hid (BX.next HP.out hb1)
  have HB1 := Lib.hid (below_tr HB.out hb1)
  clear hb1 c0 c1 c2 c3 c4 c5 c6 HP HB CV hV
  gi_wp2
  exact ⟨.tuple #[.slice none 0 0, .int .i64 70], by simp [results, Try.f21, go_sem], none, 0, rfl, ⟨rfl, by decide, .inl rfl⟩, HB1.out⟩
set_option maxRecDepth 100000 in
set_option maxHeartbeats 2000000 in
theorem could_noB (o : Orb) (t : Int) (e1 : okB o = true) (e2 : isMin t = false) (w : World) : Calls Try.prog 21 #[OV o, .int .i64 t] w (OutL w [] 70) := by
  refine callsIn_wide (n := 8) |>.1 ?_
  obtain ⟨V, B, hV, hBn, hb, hk⟩ := box1 w (OC o) 24
  have HP := Lib.hid (show BX V B (OC o) 24 from hk)
  have HB := Lib.hid hb
  have CV := Lib.hid (fun W => valid_any o W)
  have c0 := BX.cell HP.out 0; have c1 := BX.cell HP.out 1; have c2 := BX.cell HP.out 2; have c3 := BX.cell HP.out 3; have c4 := BX.cell HP.out 4; have c5 := BX.cell HP.out 5; have c6 := BX.cell HP.out 6
  clear hb hk
  have hf12 : Fence.wide.fn 12 := trivial
  have hf38 : Fence.wide.fn 38 := trivial
  refine callsIn_of_wp_marks Try.func21 rfl trivial ?_ rfl
  simp only [Try.ntmps21, List.size_toArray, List.length_cons, List.length_nil, Nat.reduceAdd, Nat.reduceSub, Array.replicate_succ, Array.replicate_zero, List.push_toArray, List.append_toArray, List.nil_append, List.cons_append]
  gi_wp2_with fail
  (with_reducible refine (callsIn_wide.2 (CV.out _)).mono ?_)
  rintro e w1 ⟨rfl, hb1⟩
  have HP1 := Lib.hid (BX.next HP.out hb1)
  have HB1 := Lib.hid (below_tr HB.out hb1)
  clear hb1 c0 c1 c2 c3 c4 c5 c6 HP HB CV hV
  have d0 := BX.cell HP1.out 0; have d1 := BX.cell HP1.out 1; have d2 := BX.cell HP1.out 2; have d3 := BX.cell HP1.out 3; have d4 := BX.cell HP1.out 4; have d5 := BX.cell HP1.out 5; have d6 := BX.cell HP1.out 6
  gi_wp2_with fail
  (with_reducible refine (callsIn_wide.2 (isMinute_any _ _)).mono ?_)
  rintro e wm ⟨rfl, rfl⟩
  gi_wp2
  exact ⟨.tuple #[.slice none 0 0, .int .i64 70], by simp [results, Try.f21, go_sem], none, 0, rfl, ⟨rfl, by decide, .inl rfl⟩, HB1.out⟩
/-- Could is asked for what there is. -/
def askC (o : Orb) (t : Int) : Bool := okB o && isMin t
theorem askC_iff {o : Orb} {t : Int} : askC o t = true ↔ okO o ∧ 0 ≤ t ∧ t ≤ 1000000 := by
  unfold askC
  rw [Bool.and_eq_true, okB_iff, isMin_iff]
theorem could_no (o : Orb) (t : Int) (h : askC o t = false) (w : World) : Calls Try.prog 21 #[OV o, .int .i64 t] w (OutL w [] 70) := by
  cases e1 : okB o
  · exact could_noA o t e1 w
  · refine could_noB o t e1 ?_ w
    unfold askC at h
    rw [e1] at h
    simpa using h
theorem couldS_yes (o : Orb) (t : Int) (h : askC o t = true) (w : World) : Calls Try.prog 21 #[OV o, .int .i64 t] w fun e w' => ∃ l, Could o t l ∧ OutL w l 0 e w' := by
  have h' := askC_iff.1 h
  exact could_yes o t h'.1 (isMin_iff.2 h'.2) w
/-- What Must says of where a satellite could be. -/
def mustV : List Cel → Value
  | [c] => .tuple #[KV c, .bool true]
  | _ => .tuple #[CV 0 0, .bool false]
end Go.Proofs.Ytdomgielpofbhaa
