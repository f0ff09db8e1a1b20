/- slices.AppendSeq and slices.Collect over whatever yields cells. -/
import Derived.Test.YtdomgielpofbhaaKe
namespace Go.Proofs.Ytdomgielpofbhaa
open Go.RowKit Go.Shelf Go.Maps
attribute [local go_sem] Oper.semAt_some
set_option linter.unusedSimpArgs false
set_option linter.unusedVariables false
theorem kw_ko {W W' : World} (h : KeepsOthers W W') : KeepsWalks W W' := ⟨h.size, fun k o hk hw => h.same k o hk (Obj.not_cells_of_walk hw)⟩
/-- What a collecting loop holds between two rounds. -/
abbrev CI (w : World) (B : Nat) (pre : List Cel) (W : World) : Prop := (∃ v, Boxed W B 41 v ∧ W.ownsRow w.heap.size 38 2 v pre.length (cvs pre) ∧ True) ∧ Below w.heap.size w W
theorem ci_own (w V : World) (B : Nat) (h : w.heap.size ≤ V.heap.size) : OwnFrom V.heap.size (CI w B) :=
  OwnFrom.and (Own.from (holdsRow_own w.heap.size B 41 38 2 (fun (pre : List Cel) => pre.length) cvs (fun _ _ => True)) _) (ownFrom_below (Nat.le_refl _) h)
set_option maxRecDepth 100000 in
set_option maxHeartbeats 2000000 in
theorem appendSeq_in (n : Nat) (hn : 2 ≤ n) (g : Nat) (lb : Array Value) (eg : ∀ args w, (callFunc g args).run Try.prog w = .ok (.enter g args) w)
    (S Sp : List Cel → Prop) (N : Nat) (hN : N ≤ 3000) (w : World) (hseq : SeqStopsK Fence.wide (n - 1) Try.prog g lb encK KeepsWalks S Sp N w) :
    CallsIn Fence.wide n Try.prog 54 #[.slice none 0 0, .func (.func g) #[] lb] w fun e w' => ∃ (v : Value) (ss : List Cel), e = .returned v ∧ S ss ∧ w'.ownsRow w.heap.size 38 2 v ss.length (cvs ss) ∧ Below w.heap.size w w' := by
  have h1 : 1 ≤ n := by omega
  obtain ⟨i0, hi, hz0, hz1, hz2⟩ := info_parts' infoCell
  have HI := Lib.hid (And.intro hi (And.intro hz0 (And.intro hz1 hz2)))
  have HS := Lib.hid hseq
  have HG := Lib.hid eg
  obtain ⟨V, B, hV, hBn, hb, hk⟩ := box1 w #[.slice none 0 0] 41
  have HB := Lib.hid hb
  have HX := Lib.hid (show Boxed V B 41 (.slice none 0 0) from hk)
  have HL := Lib.hid (show w.heap.size ≤ B ∧ B < V.heap.size from ⟨by omega, (Array.getElem?_eq_some_iff.1 hk).1⟩)
  clear hi hz0 hz1 hz2 hseq hb hk eg
  refine callsIn_of_wp_marks Try.func54 rfl trivial ?_ rfl
  simp only [Try.ntmps54, List.size_toArray, List.length_cons, List.length_nil, Nat.reduceAdd, Nat.reduceSub, Array.replicate_succ, Array.replicate_zero, List.push_toArray, List.append_toArray, List.nil_append, List.cons_append]
  gi_wp2
  clear hV
  have HO := Lib.hid (ci_own w V B HB.out.size)
  have H0 := Lib.hid (show CI w B [] V from ⟨⟨_, HX.out, World.ownsRow_nil _ _ _ _, trivial⟩, HB.out⟩)
  refine wpIn_rangeFunc_ownH (n := n) rfl h1 (gf := g) (lb := lb) rfl trivial HG.out HS.out walksK_t walksK_b HB.out (fun _ => rfl) (CI w B) (fun _ _ _ => False) HO.out (fun _ _ _ _ _ hs _ _ => hs) H0.out
    (fun x a' W => ∃ q, a' = { tmps := #[.slice none 0 0, .func (.func g) #[] lb, .pointer (some ⟨B, 0, none⟩), undef, .slice none 0 0, .pointer (some ⟨q, 0, none⟩), .func (.func g) #[] lb, KV x, undef, undef, undef, undef, undef], defers := [] } ∧ BX W q #[iV x.1.1, iV x.1.2] 38)
    (fun x a' s X Y row hs hg hr => by
      obtain ⟨q, h1, h2⟩ := hs
      exact ⟨q, h1, (BX.own (β := Unit) q 38 _) s X Y row h2 hg (fun r e => (hr r e).2)⟩) ?assign ?body ?done ?stop
  case assign =>
    intro l pre x W K hI hK
    have HK := Lib.hid hK
    clear hK
    gi_wp2
    obtain ⟨⟨v, hv, hrow, -⟩, hB⟩ := hI
    exact HK.out _ _ ((KeepsOthers.alloc _ _).from _) (KeepsWalks.alloc _ _) ⟨⟨v, hv.alloc _, hrow.alloc _, trivial⟩, hB.alloc hB.size _⟩ ⟨W.heap.size, rfl, BX.new rfl⟩
  case body =>
    intro l pre x a' W hl hrec hI hA hlt
    obtain ⟨⟨v, hv, hrow, -⟩, hB⟩ := hI
    obtain ⟨q, rfl, hq⟩ := hA
    have hc := hv.cell
    have q0 := hq.cell 0
    have q1 := hq.cell 1
    obtain ⟨hi, hz0, hz1, hz2⟩ := HI.out
    have hBz := hB.size
    have hcv := Lib.hid (show cvs (pre ++ [x]) = cvs pre ++ [iV x.1.1, iV x.1.2] from cvs_app pre [x])
    clear hrec hl
    gi_wp2_with (gi_at_builtin; refine wpListIn_append_own _ rfl _ _ 41 rfl w.heap.size 38 i0 (.agg #[.int .i64 0, .int .i64 0]) 2 16 Try.underlying41 hi hz0 hz1 hz2 rfl (by decide) _ _ _ rfl (hrow.alloc _) ⟨W.heap.size, 0, none⟩ 1 1 [iV x.1.1, iV x.1.2] rfl rfl (World.news_of_block (cs := #[iV x.1.1, iV x.1.2]) (heap_new' W _ _ rfl)) (by simp [Value.oneCell']) (by unfold maxLen; omega) (by omega) (by simp; omega) ?_; intro v' w9 hown' hgrow _; obtain ⟨g', cap', rfl⟩ := ownsRow_succ hown'; obtain ⟨hv1, hv2, hr2, hk2, hb2⟩ := hv.appended (by decide) hrow hBz (by have := HL.out; omega) hown' hgrow; have hc1 := hv1.cell; have hf1 := hv1.frozen)
    exact ⟨hk2.from _, kw_ko hk2, ⟨_, hv2, by rw [hcv.out, List.length_append]; exact hr2, trivial⟩, hB.trans hb2⟩
  case done =>
    intro D ss W hD hS hI hDef
    obtain ⟨⟨v, hv, hrow, -⟩, hB⟩ := hI
    have hc := hv.cell
    have HSS := Lib.hid hS
    have HR := Lib.hid hrow
    have HD := Lib.hid hD
    have HBW := Lib.hid hB
    have HDD := Lib.hid hDef
    clear hS hrow hv hD hB hDef
    gi_wp2
    refine ⟨by simp, .inl ⟨_, _, rfl, run_takeDeferred HDD.out, ?_⟩⟩
    exact ⟨_, results_tmp rfl _ _ _, v, ss, rfl, HSS.out, ownsRow_putObj HR.out _ HDD.out rfl, HBW.out.trans (belowK_b (w := w) (Nat.le_refl _) W D _ _ (by have := HD.out; have := HB.out.size; omega) HDD.out rfl rfl)⟩
  case stop =>
    intro D c pre W _ _ h _
    exact h.elim
set_option maxHeartbeats 1000000 in
theorem collect_in (n : Nat) (hn : 3 ≤ n) (g : Nat) (lb : Array Value) (eg : ∀ args w, (callFunc g args).run Try.prog w = .ok (.enter g args) w)
    (S Sp : List Cel → Prop) (N : Nat) (hN : N ≤ 3000) (w : World) (hseq : SeqStopsK Fence.wide (n - 1 - 1) Try.prog g lb encK KeepsWalks S Sp N w) :
    CallsIn Fence.wide n Try.prog 48 #[.func (.func g) #[] lb] w fun e w' => ∃ (v : Value) (ss : List Cel), e = .returned v ∧ S ss ∧ w'.ownsRow w.heap.size 38 2 v ss.length (cvs ss) ∧ Below w.heap.size w w' := by
  have h1 : 1 ≤ n := by omega
  have HC := Lib.hid (appendSeq_in (n - 1) (by omega) g lb eg S Sp N hN w hseq)
  clear hseq eg
  have hf54 : Fence.wide.fn 54 := trivial
  refine callsIn_of_wp Try.func48 rfl trivial ?_ rfl
  simp only [Try.ntmps48, List.size_toArray, List.length_cons, List.length_nil, Nat.reduceAdd, Nat.reduceSub, Array.replicate_succ, Array.replicate_zero, List.push_toArray, List.append_toArray, List.nil_append, List.cons_append]
  gi_wp2_with fail
  (with_reducible refine HC.out.mono ?_)
  rintro e w1 ⟨v, ss, rfl, hS, hrow, hb⟩
  have HH := Lib.hid (And.intro hS (And.intro hrow hb))
  clear hS hrow hb
  gi_wp2
  go_ret
  exact ⟨v, ss, rfl, HH.out.1, HH.out.2.1, HH.out.2.2⟩
end Go.Proofs.Ytdomgielpofbhaa
