/- Cells: the cells of an area, in order, in a slice of the call's own. -/
import Derived.Deep.AppendLies
import Derived.Test.YtipfafglbkbafaaDoorCi
namespace Go.Proofs.YtipfafglbkbafaaDoor
open Go.RowKit Go.Shelf
attribute [local go_sem] Oper.semAt_some
set_option linter.unusedVariables false
set_option linter.unusedSimpArgs false

/-- The values of a list of cells. -/
def cvs : List (Nat × Nat) → List Value
  | [] => []
  | p :: l => iV p.1 :: iV p.2 :: cvs l
theorem cvs_len : ∀ l, (cvs l).length = l.length * 2
  | [] => rfl
  | p :: l => by
    show (cvs l).length + 1 + 1 = (l.length + 1) * 2
    rw [cvs_len l]; omega
theorem cvs_app : ∀ l m, cvs (l ++ m) = cvs l ++ cvs m
  | [], m => rfl
  | p :: l, m => by
    show iV p.1 :: iV p.2 :: cvs (l ++ m) = _
    rw [cvs_app l m]; rfl
theorem cvs_at : ∀ (l : List (Nat × Nat)) (i : Nat) (p : Nat × Nat), l[i]? = some p → (cvs l)[i * 2]? = some (iV p.1) ∧ (cvs l)[i * 2 + 1]? = some (iV p.2)
  | [], i, p, h => by simp at h
  | q :: l, 0, p, h => by
    simp at h; subst h
    exact ⟨rfl, rfl⟩
  | q :: l, i + 1, p, h => by
    have := cvs_at l i p (by simpa using h)
    show (iV q.1 :: iV q.2 :: cvs l)[(i + 1) * 2]? = _ ∧ (iV q.1 :: iV q.2 :: cvs l)[(i + 1) * 2 + 1]? = _
    rw [show (i + 1) * 2 = i * 2 + 1 + 1 by omega]
    exact this
/-- A slice of cells. -/
def Cs (W : World) (al : Option Addr) (n : Nat) (l : List (Nat × Nat)) : Prop :=
  n = l.length ∧ n ≤ 1152 ∧ (n = 0 ∨ ∃ b, al = some ⟨b, 0, none⟩ ∧ b < W.heap.size ∧ ∀ i p, l[i]? = some p → W.cell? ⟨b, i * 2, none⟩ = some (iV p.1) ∧ W.cell? ⟨b, i * 2 + 1, none⟩ = some (iV p.2))
theorem Cs.below {W W' : World} {al : Option Addr} {n : Nat} {l : List (Nat × Nat)} (h : Cs W al n l) {B : Nat} (hB : W.heap.size ≤ B) (hb : Below B W W') : Cs W' al n l := by
  obtain ⟨h1, h2, h4⟩ := h
  refine ⟨h1, h2, ?_⟩
  rcases h4 with h4 | ⟨b, rfl, hb', hc⟩
  · exact .inl h4
  · exact .inr ⟨b, rfl, Nat.lt_of_lt_of_le hb' hb.size, fun i p hi =>
      ⟨(hb.cell (p := ⟨b, i * 2, none⟩) (by show b < B; omega)).trans (hc i p hi).1, (hb.cell (p := ⟨b, i * 2 + 1, none⟩) (by show b < B; omega)).trans (hc i p hi).2⟩⟩
theorem Cs.of_row {W : World} {n0 : Nat} {e : TypeId} {v : Value} {l : List (Nat × Nat)} (h : W.ownsRow n0 e 2 v l.length (cvs l)) (hl : l.length ≤ 1152) : ∃ al c, v = .slice al l.length c ∧ Cs W al l.length l := by
  rcases h.2 with ⟨rfl, hz⟩ | ⟨g, cap, cur, rfl, hb, hg, h1, h2, h3, h4⟩
  · exact ⟨none, 0, by rw [hz], rfl, hl, .inl hz⟩
  · refine ⟨some ⟨g, 0, none⟩, cap, rfl, rfl, hl, .inr ⟨g, rfl, (Array.getElem?_eq_some_iff.1 hg).1, fun i p hi => ?_⟩⟩
    have hc := cvs_at l i p hi
    have hlt : i < l.length := (List.getElem?_eq_some_iff.1 hi).1
    rw [← h4] at hc
    rw [List.getElem?_take_of_lt (by omega), List.getElem?_take_of_lt (by omega), Array.getElem?_toList, Array.getElem?_toList] at hc
    exact ⟨(cell_of_row W g (i * 2) cur e (0, 0) hg).trans hc.1, (cell_of_row W g (i * 2 + 1) cur e (0, 0) hg).trans hc.2⟩
theorem Cs.put {W : World} {al : Option Addr} {n : Nat} {l : List (Nat × Nat)} (h : Cs W al n l) {k : Nat} {ds : Option (List Deferred)} (hk : W.heap[k]? = some (.deferred ds)) {o : Obj} : Cs (W.putObj k o) al n l := by
  obtain ⟨h1, h2, h4⟩ := h
  refine ⟨h1, h2, ?_⟩
  rcases h4 with h4 | ⟨b, rfl, hb', hc⟩
  · exact .inl h4
  · by_cases e : b = k
    · subst e
      rcases l with _ | ⟨p, l⟩
      · exact .inl h1
      · have := (hc 0 p rfl).1
        simp [World.cell?, hk] at this
    · have hh : (W.putObj k o).heap[b]? = W.heap[b]? := World.putObj_heap_other e
      exact .inr ⟨b, rfl, by simpa using hb', fun i p hi => ⟨(World.cell?_of_block (a := ⟨b, i * 2, none⟩) hh).trans (hc i p hi).1, (World.cell?_of_block (a := ⟨b, i * 2 + 1, none⟩) hh).trans (hc i p hi).2⟩⟩
section
variable {F : Fence} {n : Nat} {P : Program} {ops : Array Oper} {rest : List Oper} {o : Oper} {a : Act} {w : World} {Q : Exit → Act → World → Prop}
theorem wpListIn_store_row (hgd : o.guard = none) (ty : TypeId) (x y : Operand) (ho : o.op = .store ty x y)
    (g : Nat) (cells : Array Value) (hx : a.eval x = .pointer (some ⟨g, 0, none⟩)) (hy : a.eval y = .agg cells) (t : TypeId) (old : Array Value) (hg : w.heap[g]? = some (.cells old t (0, 0)))
    (hi : (P.info? ty).map (·.size) = some cells.size) (hs : old.size = cells.size) (h1 : cells.all (·.oneCell') = true)
    (h : wpListIn F n P ops Q rest (a.put o.dst undef) (w.setRow g cells)) : wpListIn F n P ops Q (o :: rest) a w := by
  refine wpListIn_plain hgd fun _ hK => ?_
  have hrun := run_storeVar_row (P := P) w g t ty old cells hg hi hs h1
  unfold Oper.wpIn
  refine ⟨?_, ?_⟩
  · simp [Oper.about, ho]
  · rw [Oper.semAt_plain F _ _ (by rw [ho]; intro c hc'; cases hc')]
    simp only [execOp, ho, hx, hy, Instr.storeAt, Instr.sureAddr, Sem.run_bind, Sem.run_pure, Result.andThen_ok, hrun]
    exact hK _ _ h
end
theorem infoCell : (Tryd.prog.info? 27).map (fun i => (i.zero, i.size, i.bytes)) = some (some (.agg #[.int .i64 0, .int .i64 0]), 2, 16) := by kernel_rfl
theorem info_parts' {P : Program} {t : TypeId} {z : Value} {s b : Nat} (h : (P.info? t).map (fun i => (i.zero, i.size, i.bytes)) = some (some z, s, b)) : ∃ i, P.info? t = some i ∧ i.zero = some z ∧ i.size = s ∧ i.bytes = b := by
  cases hq : P.info? t with
  | none => rw [hq] at h; cases h
  | some i =>
    rw [hq] at h
    simp at h
    exact ⟨i, rfl, h.1, h.2.1, h.2.2⟩
set_option maxRecDepth 100000 in
set_option maxHeartbeats 4000000 in
theorem cells_any (al : Option Addr) (n c : Nat) (zs : List Int) (o : Option Ar) (hO : Is zs o) (w : World) (h : Sl w al n zs) (hT : Tab w) :
    Calls Tryd.prog 27 #[.agg #[.slice al n c]] w fun e w' => ∃ rl rn rc, e = .returned (.slice rl rn rc) ∧ Cs w' rl rn (cellsTo (of o) 24) ∧ Below w.heap.size w w' := by
  refine callsIn_wide (n := 5) |>.1 ?_
  obtain ⟨W, hW, hb, hz, h0⟩ := box_one_area w al n c
  obtain ⟨i0, hi, hz0, hz1, hz2⟩ := info_parts' infoCell
  have HB := Lib.hid hb
  have CR := Lib.hid ((callsIn_wide (n := 4)).2 (read_any al n c zs o W (h.below (Nat.le_refl _) hb) hO))
  simp only [FV_eq] at CR
  have HI := Lib.hid (And.intro hi (And.intro hz0 (And.intro hz1 hz2)))
  have HT := Lib.hid hT
  clear hb hz h hO hi hz0 hz1 hz2 hT
  generalize hf : of o = f at *
  clear hf
  refine callsIn_of_wp_marks Tryd.func27 rfl trivial ?_ rfl
  simp only [Tryd.ntmps27, List.size_toArray, List.length_cons, List.length_nil, Nat.reduceAdd, Nat.reduceSub, Array.replicate_succ, Array.replicate_zero, List.push_toArray, List.append_toArray, List.nil_append, List.cons_append]
  have hw53 : Fence.wide.fn 53 := trivial
  gi_wp2_with fail
  (with_reducible refine CR.out.mono ?_)
  rintro e w1 ⟨rfl, hb1⟩
  obtain ⟨V, hV, hbV, hq, hz1⟩ := one_box w1
  rw [FC_nul] at hV
  have HQ := Lib.hid hq
  obtain ⟨V2, hV2⟩ : ∃ V2, V.setRow w1.heap.size (FC f) = V2 := ⟨_, rfl⟩
  have H2 := Lib.hid hV2
  have HQ2 := Lib.hid (show HasF V2 w1.heap.size 62 f from by rw [← hV2]; exact HQ.out.store f)
  have hle : w.heap.size ≤ w1.heap.size := by have := HB.out.size; have := hb1.size; omega
  have hB2 : Below w.heap.size w V2 := by rw [← hV2]; exact below_setRow (HB.out.trans ((hb1.trans (hbV.mono hb1.size)).mono HB.out.size)) hle _
  have hl2 : w1.heap.size < V2.heap.size := HQ2.out.lt
  obtain ⟨V3, hV3⟩ : ∃ V3, V2.alloc (.cells #[.slice none 0 0] 36) = V3 := ⟨_, rfl⟩
  have bC : Boxed V3 V2.heap.size 36 (.slice none 0 0) := by rw [← hV3]; exact Boxed.new V2 _ _
  have hB3 : Below w.heap.size w V3 := by rw [← hV3]; exact hB2.alloc (by omega) _
  have HQ3 := Lib.hid (show HasF V3 w1.heap.size 62 f from by rw [← hV3]; exact HQ2.out.below ((Below.refl _ _).alloc (Nat.le_refl _) _) hl2)
  have hz3 : V3.heap.size = V2.heap.size + 1 := by rw [← hV3]; simp
  have HBC := Lib.hid bC
  have HB3 := Lib.hid hB3
  have HZ3 := Lib.hid (And.intro hz3 (And.intro hl2 hle))
  clear hb1 hbV hq hz1 h0 hW hV2 hB2 hB3 hl2 hle bC hz3 CR
  gi_wp2_with (first
    | (refine wpListIn_store_row rfl 62 _ _ rfl w1.heap.size (FC f) rfl rfl 62 (FC nul) HQ.out (infoFC _) (by rw [FC_size, FC_size]) (FC_one _) ?_; rw [H2.out])
    | (refine wpListIn_load_row rfl 62 _ rfl w1.heap.size rfl 62 (FC f) (0, 0) _ HQ3.out Tryd.underlying62 rfl (infoFC f) ?_))
  clear hV hV3
  obtain ⟨B, hBn⟩ : ∃ B, V2.heap.size = B := ⟨_, rfl⟩
  rw [hBn] at HBC HZ3
  rw [hBn]
  clear hBn H2 HQ HQ2
  have e1 : w.heap.size ≤ V3.heap.size := HB3.out.size
  have e2 : w.heap.size ≤ V3.heap.size + 2 := by omega
  have HSq := Lib.hid (show ∀ W1 : World, Below V3.heap.size V3 W1 → SeqBd Fence.wide (5 - 1) Tryd.prog 55 w.heap.size (V3.heap.size + 1) #[.agg (FC f)] encc (fun xs => xs = cellsTo f 24) 1152 W1 from
    fun W1 hB1 => cells_in (5 - 1) (by decide) w.heap.size (V3.heap.size + 1) HT.out.1 f W1 (HT.out.below (HB3.out.trans (hB1.mono e1)) HT.out.1) (Nat.le_trans e1 hB1.size))
  have HOw := Lib.hid (show OwnFrom V3.heap.size (fun (pre : List (Nat × Nat)) W => (∃ v, Boxed W B 36 v ∧ W.ownsRow w.heap.size 27 2 v pre.length (cvs pre) ∧ True) ∧ Below w.heap.size w W) from
    OwnFrom.and (Own.from (holdsRow_own w.heap.size B 36 27 2 (fun (pre : List (Nat × Nat)) => pre.length) cvs (fun _ _ => True)) _) (ownFrom_below (Nat.le_refl _) e1))
  have HIn := Lib.hid (show (∃ v, Boxed V3 B 36 v ∧ V3.ownsRow w.heap.size 27 2 v ([] : List (Nat × Nat)).length (cvs []) ∧ True) ∧ Below w.heap.size w V3 from ⟨⟨_, HBC.out, World.ownsRow_nil _ _ _ _, trivial⟩, HB3.out⟩)
  refine rangeBound rfl (by omega) (gf := 55) (pb := #[.agg (FC f)]) rfl trivial (enters_of Tryd.func55 (by kernel_rfl) rfl) (encs := encc) (S := fun xs => xs = cellsTo f 24) (N := 1152) (fun _ => rfl) w.heap.size e1
    HSq.out
    (fun pre W => (∃ v, Boxed W B 36 v ∧ W.ownsRow w.heap.size 27 2 v pre.length (cvs pre) ∧ True) ∧ Below w.heap.size w W)
    HOw.out
    HIn.out
    (fun x a' W => ∃ q, a' = { tmps := #[.agg #[.slice al n c], .pointer (some ⟨w.heap.size, 0, none⟩), .slice none 0 0, .pointer (some ⟨w1.heap.size, 0, none⟩), .bool o.isSome, .pointer (some ⟨B, 0, none⟩), .pointer (some ⟨q, 0, none⟩),
        .tuple #[.agg (FC f), .bool o.isSome], .agg #[.slice al n c], .tuple #[.agg (FC f), .bool o.isSome], .agg (FC f), .bool o.isSome, .agg (FC f), .func (.func 55) #[.agg (FC f)] #[], CV x.1 x.2, undef, undef, undef, undef, undef], defers := [] } ∧
      V3.heap.size + 2 ≤ q ∧ W.heap[q]? = some (.cells #[iV x.1, iV x.2] 27 (0, 0)))
    (fun x a' A o ⟨q, h1, h2, h3⟩ => ⟨q, h1, h2, (World.putObj_heap_other (by omega)).trans h3⟩) ?assign ?body ?done
  case assign =>
    intro l pre x W K hI hlt hK
    have HK := Lib.hid hK
    clear hK
    gi_wp2
    obtain ⟨⟨v, hv, hrow, -⟩, hB⟩ := hI
    exact HK.out _ _ (KeepsOthers.alloc _ _) ((Below.refl _ _).alloc hB.size _) ⟨⟨v, hv.alloc _, hrow.alloc _, trivial⟩, hB.alloc hB.size _⟩ ⟨W.heap.size, rfl, by omega, heap_new' _ _ _ rfl⟩
  case body =>
    intro l pre xy a' W hI hA hN hlt
    obtain ⟨x, y⟩ := xy
    obtain ⟨⟨v, hv, hrow, -⟩, hB⟩ := hI
    obtain ⟨q, rfl, hq, hqc⟩ := hA
    have hc := hv.cell
    have q0 := (row_cell hqc 0).trans (show _ = some (iV x) from rfl)
    have q1 := (row_cell hqc 1).trans (show _ = some (iV y) from rfl)
    obtain ⟨hi, hz0, hz1, hz2⟩ := HI.out
    have hBz := hB.size
    have hcv := Lib.hid (show cvs (pre ++ [(x, y)]) = cvs pre ++ [iV x, iV y] from cvs_app pre [(x, y)])
    gi_wp2_with (gi_at_builtin; refine wpListIn_append_own _ rfl _ _ 36 rfl w.heap.size 27 i0 (.agg #[.int .i64 0, .int .i64 0]) 2 16 Tryd.underlying36 hi hz0 hz1 hz2 rfl (by decide) _ _ _ rfl (hrow.alloc _) ⟨W.heap.size, 0, none⟩ 1 1 [iV x, iV y] rfl rfl (World.news_of_block (cs := #[iV x, iV y]) (heap_new' W _ _ rfl)) (by simp [Value.oneCell']) (by unfold maxLen; omega) (by omega) (by simp; omega) ?_; intro v' w9 hown' hgrow _; obtain ⟨g', cap', rfl⟩ := ownsRow_succ hown'; obtain ⟨hv1, hv2, hr2, hk2, hb2⟩ := hv.appended (by decide) hrow hBz (by have := HZ3.out; omega) hown' hgrow; have hc1 := hv1.cell; have hf1 := hv1.frozen)
    exact ⟨⟨_, hv2, by rw [hcv.out]; exact hr2⟩, hB.trans hb2⟩
  case done =>
    intro xs W hS hI hD
    obtain ⟨⟨v, hv, hrow, -⟩, hB⟩ := hI
    have HS := Lib.hid hS
    clear hS
    have hc := hv.cell
    have HL := Lib.hid (show xs.length ≤ 1152 from by
      rw [HS.out, cellsTo_len]
      exact sum_le (fun y => cntTo (fun x => f x y) 48) 48 (fun y => cnt_le _ 48) 24)
    obtain ⟨rl, rc, rfl, hcs⟩ := Cs.of_row hrow HL.out
    have hrowX := Lib.hid hrow
    clear hrow
    gi_wp2
    refine ⟨by simp, .inl ⟨_, _, rfl, run_takeDeferred hD, ?_⟩⟩
    refine ⟨_, results_tmp rfl _ _ _, rl, xs.length, rc, rfl, ?_, hB.trans (belowK_b (w := w) (Nat.le_refl _) W V3.heap.size _ _ e1 hD rfl rfl)⟩
    rw [← HS.out]
    exact hcs.put hD
end Go.Proofs.YtipfafglbkbafaaDoor
