/- The iterator over a text's blocks, walked. -/
import Derived.RangeFuncNested
import Derived.RangeFuncBound
import Derived.RangeFuncCalls
import Derived.RangeFuncLeaves
import Derived.RangeFuncBox
import Derived.Shelf.Abstract
import Derived.WalkKit
import Derived.OwnWalkIn
import Derived.TacticsInMore
import Derived.LoopNIn
import Derived.LoopIn
import Derived.Outline
import Derived.Scope
import Derived.Lib.Strings
import Derived.WalkMore
import Derived.Test.YtiilkjonbfllfaaDoorPad
import Derived.Test.YtiilkjonbfllfaaDoorRange
namespace Go.Proofs.YtiilkjonbfllfaaDoor
open Go.RowKit Go.Shelf
attribute [local go_sem] Oper.semAt_some

def nums (s : ByteArray) : List Nat := s.data.toList.map UInt8.toNat
theorem nums_length (s : ByteArray) : (nums s).length = s.size := by unfold nums; rw [List.length_map]; rfl
/-- Some numbers laid over others from a place on. -/
def lay (cur : List Nat) (o : Nat) (xs : List Nat) : List Nat := cur.take o ++ xs ++ cur.drop (o + xs.length)

theorem run_copy_str {P : Program} (w : World) (dT sT ty elem : TypeId) (g o dLen dCap : Nat) (s : ByteArray) (cur : List Nat) (t : TypeId)
    (hu : P.underlying dT = some (.slice elem)) (hs : (P.info? elem).map (·.size) = some 1) (hg : w.heap[g]? = some (.cells (cur.map u8V).toArray t (0, 0))) (hfit : o + dLen ≤ cur.length) :
    (Builtin.copy_ #[dT, sT] ty #[.slice (some ⟨g, o, none⟩) dLen dCap, .string s]).run P w =
      .ok (goInt ((min s.size dLen : Nat) : Int)) (w.setRow g ((lay cur o ((nums s).take (min s.size dLen))).map u8V).toArray) := by
  have hlen : (((nums s).take (min s.size dLen)).map u8V).length = min s.size dLen := by rw [List.length_map, List.length_take, nums_length]; omega
  have hst := run_storeCells_at P g o t (((nums s).take (min s.size dLen)).map u8V) 0 (cur.map u8V).toArray w hg (by rw [hlen]; simp; omega) (by intro v hv; obtain ⟨x, _, rfl⟩ := List.mem_map.1 hv; rfl)
  rw [hlen] at hst
  simp only [Nat.add_zero] at hst
  have htk : List.take (Nat.min s.size dLen) (List.map (fun b : UInt8 => Value.int IntKind.u8 (b.toNat : Int)) s.data.toList) = ((nums s).take (min s.size dLen)).map u8V := by
    rw [List.map_take, nums, List.map_map]; rfl
  cases hq : P.info? elem with
  | none => simp [hq] at hs
  | some i =>
    simp [Builtin.copy_, run_underlying hu, Builtin.lenOf, Builtin.firstCells, sizeOf, typeInfo, hq]
    rw [htk, hst]
    have hl2 : ((nums s).take (min s.size dLen)).length = min s.size dLen := by rw [List.length_take, nums_length]; omega
    have e : (List.take o (cur.map u8V).toArray.toList ++ ((nums s).take (min s.size dLen)).map u8V ++ List.drop (o + min s.size dLen) (cur.map u8V).toArray.toList) = (lay cur o ((nums s).take (min s.size dLen))).map u8V := by
      rw [lay, hl2]; simp
    rw [e]
    rfl

theorem wpListIn_copy_str {F : Fence} {n : Nat} {P : Program} (w : World) {ops : Array Oper} {rest : List Oper} {o : Oper} {a : Act} {Q : Exit → Act → World → Prop}
    (hg : o.guard = none) (d s : Operand) (dT sT : TypeId) (hop : o.op = Op.call { callee := Callee.builtin Builtin.copy, args := #[d, s], argTypes := #[dT, sT] })
    (elem : TypeId) (hu : P.underlying dT = some (.slice elem)) (hs : (P.info? elem).map (·.size) = some 1)
    (g off dLen dCap : Nat) (x : ByteArray) (cur : List Nat) (t : TypeId) (hd : a.eval d = .slice (some ⟨g, off, none⟩) dLen dCap) (hx : a.eval s = .string x) (hb : w.heap[g]? = some (.cells (cur.map u8V).toArray t (0, 0))) (hfit : off + dLen ≤ cur.length) (q : Nat) (hq : min x.size dLen = q) (cur' : List Nat) (hc : lay cur off ((nums x).take q) = cur')
    (hK : wpListIn F n P ops Q rest (a.put o.dst (.int .i64 (q : Int))) (w.setRow g (cur'.map u8V).toArray)) : wpListIn F n P ops Q (o :: rest) a w := by
  refine wpListIn_plain hg fun K hK' => ?_
  have hrun := run_copy_str (P := P) w dT sT o.type elem g off dLen dCap x cur t hu hs hb hfit
  rw [hq, hc] at hrun
  rw [show goInt (q : Int) = .int .i64 (q : Int) from rfl] at hrun
  unfold Oper.wpIn
  refine ⟨?_, ?_⟩
  · simp [Oper.about, hop, resolve, Target.leads, Sem.run_pure]
  · rw [Oper.semAt_plain F _ _ (by rw [hop]; intro c hc'; cases hc')]
    simp [execOp, hop, resolve, invoke, builtin, hd, hx, hrun, Result.andThen]
    exact hK' _ _ hK

theorem wpListIn_load_row {F : Fence} {n : Nat} {P : Program} {ops : Array Oper} {rest : List Oper} {o : Oper} {a : Act} {w : World} {Q : Exit → Act → World → Prop} (hgd : o.guard = none) (ty : TypeId) (x : Operand) (ho : o.op = .load ty x)
    (g : Nat) (hx : a.eval x = .pointer (some ⟨g, 0, none⟩)) (t : TypeId) (cs : Array Value) (fr : Nat × Nat) (d : TypeDesc) (hg : w.heap[g]? = some (.cells cs t fr))
    (hu : P.underlying ty = some d) (hd : (match d with | .struct _ | .array _ _ => true | _ => false) = true) (hi : (P.info? ty).map (·.size) = some cs.size)
    (h : wpListIn F n P ops Q rest (a.put o.dst (.agg cs)) w) : wpListIn F n P ops Q (o :: rest) a w := by
  refine wpListIn_plain hgd fun K hK' => ?_
  have hrun := run_loadVar_row (P := P) w g t ty cs fr d hg hu hd hi
  unfold Oper.wpIn
  refine ⟨?_, ?_⟩
  · simp [Oper.about, ho]
  · rw [Oper.semAt_plain F _ _ (by rw [ho]; intro c hc'; cases hc')]
    simp only [execOp, ho, hx, Instr.loadAt, Instr.sureAddr, Sem.run_bind, Sem.run_pure, Result.andThen_ok, hrun]
    exact hK' _ _ h
theorem grownBy_setRow (w : World) (g : Nat) (cs : Array Value) : w.grownBy (w.setRow g cs) (some g) :=
  ⟨rfl, rfl, rfl, by simp, fun k _ hk => setRow_other w g k cs (fun e => hk (by rw [e]))⟩
theorem lay_length (cur : List Nat) (o : Nat) (xs : List Nat) (h : o + xs.length ≤ cur.length) : (lay cur o xs).length = cur.length := by
  simp [lay]; omega
theorem lay_lt (cur : List Nat) (o : Nat) (xs : List Nat) (h1 : ∀ y ∈ cur, y < 256) (h2 : ∀ y ∈ xs, y < 256) : ∀ y ∈ lay cur o xs, y < 256 := by
  intro y hy
  simp only [lay, List.mem_append] at hy
  rcases hy with (hy | hy) | hy
  · exact h1 y (List.mem_of_mem_take hy)
  · exact h2 y hy
  · exact h1 y (List.mem_of_mem_drop hy)
theorem lay_take (cur : List Nat) (o : Nat) (xs : List Nat) (h : o + xs.length ≤ cur.length) : (lay cur o xs).take (o + xs.length) = cur.take o ++ xs := by
  rw [lay, List.take_append_of_le_length (by simp; omega), List.take_of_length_le (by simp; omega)]
theorem nums_lt (s : ByteArray) : ∀ y ∈ nums s, y < 256 := by
  intro y hy
  obtain ⟨b, _, rfl⟩ := List.mem_map.1 hy
  exact UInt8.toNat_lt b

theorem run_sliceAt75 (g f : Nat) (h : f < 64) (w : World) : (Instr.sliceAt 75 (.pointer (some ⟨g, 0, none⟩)) (some (.int .i64 f)) none none).run Tryd.prog w = .ok (.slice (some ⟨g, f, none⟩) (64 - f) (64 - f)) w := by
  have h1 : ¬ 64 = f := by omega
  have h2 : (0 : Int) ≤ f := by omega
  have h3 : (f : Int) ≤ 64 := by omega
  simp [Instr.sliceAt, run_underlying Tryd.underlying75, Instr.sliceBounds, h1, h2, h3, go_sem]

abbrev Bk := { x : List Nat // x.length = 64 ∧ ∀ y ∈ x, y < 256 }
abbrev encb (x : Bk) : Array Value := #[.agg (x.1.map u8V).toArray]
def flat (pre : List Bk) : List Nat := (pre.map Subtype.val).flatten
def restOf (ps : List ByteArray) (k : Nat) : List Nat := ((ps.drop k).map nums).flatten

/-- A function that holds a label, no jump to it. -/
theorem wpIn_scope_wide {P : Program} {n : Nat} {c : Code} {Q : Exit → Act → World → Prop} {a : Act} {w : World} (h : c.wpIn Fence.wide n P (Exit.noGoto Q) a w) : (Code.scope c).wpIn Fence.wide n P Q a w :=
  wpIn_wide.2 (wp_scope_straight (wpIn_wide.1 h))

theorem restOf_step (ps : List ByteArray) (k : Nat) (h : k < ps.length) : restOf ps k = nums (ps.getD k ByteArray.empty) ++ restOf ps (k + 1) := by
  unfold restOf
  rw [List.drop_eq_getElem_cons h, List.map_cons, List.flatten_cons, List.getD_eq_getElem?_getD, List.getElem?_eq_getElem h]; rfl
theorem flat_length (pre : List Bk) : (flat pre).length = 64 * pre.length := by
  induction pre with
  | nil => rfl
  | cons x pre ih => simp only [flat, List.map_cons, List.flatten_cons, List.length_append, List.length_cons] at ih ⊢; rw [ih, x.2.1]; omega
theorem flat_snoc (pre : List Bk) (x : Bk) : flat (pre ++ [x]) = flat pre ++ x.1 := by simp [flat]
theorem nums_extract (p : ByteArray) (q : Nat) : nums (p.extract q p.size) = (nums p).drop q := by
  unfold nums
  rw [Lib.extract_data, ← List.map_drop, List.take_of_length_le (by rw [List.length_drop]; exact Nat.le_refl _)]

set_option maxRecDepth 100000 in
set_option maxHeartbeats 2000000 in
theorem blocks1_in (n : Nat) (hn : 1 ≤ n) (l Bn g m c b N : Nat) (ps : List ByteArray) (hm : ps.length = m) (hm1 : m ≤ 1000) (hN : (restOf ps 0).length = 64 * N) (hps : ∀ s ∈ ps, s.size ≤ 1000000)
    (W1 : World) (hl : l < W1.heap.size) (hb : b < W1.heap.size) (hBn : W1.cell? ⟨Bn, 0, none⟩ = some (.slice (some ⟨g, 0, none⟩) m c)) (hg : ∀ i, i < m → W1.cell? ⟨g, i, none⟩ = some (.string (ps.getD i ByteArray.empty))) (hgl : g ≠ l) (hgb : g ≠ b) (hgne : g ≠ W1.heap.size) :
    SeqBut Fence.wide n Tryd.prog 69 b l #[.pointer (some ⟨Bn, 0, none⟩)] encb (fun ys => flat ys = restOf ps 0) N W1 := by
  intro J hJ hY h0
  refine callsIn_of_wp Tryd.func69 rfl trivial ?_ rfl
  simp only [Tryd.ntmps69, List.size_toArray, List.length_cons, List.length_nil, Nat.reduceAdd, Nat.reduceSub, Array.replicate_succ, Array.replicate_zero, List.push_toArray, List.append_toArray, List.nil_append, List.cons_append]
  have HN := Lib.hid hN; have HPS := Lib.hid hps; have HM := Lib.hid hm; have HG := Lib.hid hg; have HJ := Lib.hid hJ
  clear hN hps hm hg hJ
  have hBnl : Bn < W1.heap.size := block_lt_of_cell hBn
  refine wpIn_scope_wide ?_
  gi_wp2
  refine wpIn_label ?_
  gi_wp2
  gi_loopw [10, 4] (fun iv fv wr => ∃ (k f : Nat) (pre : List Bk) (cur : List Nat), iv = .int .i64 k ∧ fv = .int .i64 f ∧ k ≤ m ∧ f < 64 ∧ J pre wr ∧ cur.length = 64 ∧ (∀ y ∈ cur, y < 256) ∧
      wr.heap[W1.heap.size]? = some (.cells (cur.map u8V).toArray 75 (0, 0)) ∧ (∀ i, i < m → wr.cell? ⟨g, i, none⟩ = some (.string (ps.getD i ByteArray.empty))) ∧ flat pre ++ cur.take f ++ restOf ps k = restOf ps 0) (fun iv _ _ => m - (intOf iv).toNat)
  case atStart =>
    refine ⟨0, 0, [], List.replicate 64 0, rfl, rfl, by omega, by omega, HJ.out _ _ _ none h0 (World.grownBy_alloc _ _ none) (fun r e => by cases e), by simp, fun y hy => by rw [List.eq_of_mem_replicate hy]; decide, ?_, fun i hi => ?_, by simp [flat]⟩
    · rw [heap_new' _ _ _ rfl]; rfl
    · exact (World.cell?_of_block (heap_old' _ _ _ (block_lt_of_cell (HG.out i hi)))).trans (HG.out i hi)
  case round =>
    obtain ⟨k, f, pre, cur, rfl, rfl, hk, hf64, hJr, hcl, hcb, hblk, hgr, hflat⟩ := hrel
    have HF := Lib.hid hflat; have HCL := Lib.hid hcl; have HCB := Lib.hid hcb; have HB := Lib.hid hblk; have HGR := Lib.hid hgr
    clear hflat hcl hcb hblk hgr
    by_cases hlt : k < m
    · have hc := HGR.out k hlt
      obtain ⟨p, hp⟩ : ∃ p, ps.getD k ByteArray.empty = p := ⟨_, rfl⟩
      have hpz : p.size ≤ 1000000 := by
        rw [← hp, List.getD_eq_getElem?_getD, List.getElem?_eq_getElem (by rw [HM.out]; exact hlt)]; exact HPS.out _ (List.getElem_mem _)
      have HF1 := Lib.hid (show flat pre ++ cur.take f ++ (nums p ++ restOf ps (k + 1)) = restOf ps 0 by
        rw [← HF.out, restOf_step ps k (by rw [HM.out]; exact hlt), hp])
      rw [hp] at hc
      have HP := Lib.hid hp
      clear hp HF
      gi_wp2
      clear hc
      obtain ⟨wo, hwo⟩ : ∃ wo : World, wo = wr := ⟨_, rfl⟩
      gi_loopw [6, 4] (fun pv fv wr2 => ∃ (p2 : ByteArray) (f2 : Nat) (pre2 : List Bk) (cur2 : List Nat), pv = .string p2 ∧ fv = .int .i64 f2 ∧ p2.size ≤ 1000000 ∧ f2 < 64 ∧ J pre2 wr2 ∧ cur2.length = 64 ∧ (∀ y ∈ cur2, y < 256) ∧
          wr2.heap[W1.heap.size]? = some (.cells (cur2.map u8V).toArray 75 (0, 0)) ∧ (∀ i, i < m → wr2.cell? ⟨g, i, none⟩ = some (.string (ps.getD i ByteArray.empty))) ∧ flat pre2 ++ cur2.take f2 ++ (nums p2 ++ restOf ps (k + 1)) = restOf ps 0) (fun pv _ _ => match pv with | .string x => x.size | _ => 0)
      case atStart => exact ⟨p, f, pre, cur, rfl, rfl, hpz, hf64, hJr, HCL.out, HCB.out, HB.out, HGR.out, HF1.out⟩
      case round =>
        clear hJr HCL HCB HB HGR HF1 HP hpz hf64 hwo
        obtain ⟨p, f, pre, cur, rfl, rfl, hpz, hf64, hJr, hcl, hcb, hblk, hgr, hflat⟩ := hrel
        have HF := Lib.hid hflat; have HCL := Lib.hid hcl; have HCB := Lib.hid hcb; have HB := Lib.hid hblk; have HGR := Lib.hid hgr
        clear hflat hcl hcb hblk hgr
        have hsl := run_sliceAt75 W1.heap.size f hf64
        by_cases hs : p.size < 64 - f
        · have hmin : min p.size (64 - f) = p.size := Nat.min_eq_left (by omega)
          have hmin := Lib.hid hmin
          gi_wp2_with (with_reducible refine wpListIn_copy_str _ rfl _ _ 43 9 rfl 5 Tryd.underlying43 (by kernel_rfl) W1.heap.size f (64 - f) (64 - f) p cur 75 rfl rfl HB.out (by rw [HCL.out]; omega) p.size hmin.out (lay cur f ((nums p).take p.size)) rfl ?_)
          have hxl : ((nums p).take p.size) = nums p := List.take_of_length_le (by rw [nums_length]; exact Nat.le_refl _)
          have hll : f + (nums p).length ≤ cur.length := by rw [nums_length, HCL.out]; omega
          rw [hxl]
          refine ⟨⟨k + 1, f + p.size, pre, lay cur f (nums p), by go_num, by go_num, by omega, by omega, HJ.out _ _ _ _ hJr (grownBy_setRow _ _ _) (fun r e => by cases e; exact Nat.le_refl _), by rw [lay_length _ _ _ hll]; exact HCL.out,
            lay_lt _ _ _ HCB.out (nums_lt p), setRow_heap _ _ _ _ _ _ HB.out, fun i hi => (cell_setRow_other _ _ _ _ hgne).trans (HGR.out i hi), ?_⟩, by simp [intOf]; omega⟩
          have := lay_take cur f (nums p) hll
          rw [nums_length] at this
          rw [this, ← HF.out]
          simp
        · have hmin := Lib.hid (show min p.size (64 - f) = 64 - f from Nat.min_eq_right (by omega))
          have hxl : ((nums p).take (64 - f)).length = 64 - f := by rw [List.length_take, nums_length]; omega
          have hll : f + ((nums p).take (64 - f)).length ≤ cur.length := by rw [hxl, HCL.out]; omega
          obtain ⟨x, hx⟩ : ∃ x : Bk, x.1 = lay cur f ((nums p).take (64 - f)) := ⟨⟨_, (lay_length _ _ _ hll).trans HCL.out, lay_lt _ _ _ HCB.out (fun y hy => nums_lt p y (List.mem_of_mem_take hy))⟩, rfl⟩
          have htake := lay_take cur f ((nums p).take (64 - f)) hll
          rw [hxl, show f + (64 - f) = 64 by omega, List.take_of_length_le (by rw [← hx, x.2.1]; exact Nat.le_refl _), ← hx] at htake
          have hF2 : flat (pre ++ [x]) ++ (nums (p.extract (64 - f) p.size) ++ restOf ps (k + 1)) = restOf ps 0 := by
            rw [← HF.out, flat_snoc, htake, nums_extract]
            have e := List.take_append_drop (64 - f) (nums p)
            simp only [List.append_assoc]
            rw [← List.append_assoc ((nums p).take (64 - f)), e]
          have hlen : pre.length < N := by
            have := congrArg List.length hF2
            rw [List.length_append, flat_length, HN.out] at this
            simp only [List.length_append, List.length_cons, List.length_nil] at this
            omega
          have hX := Lib.hid hx.symm
          have HF2 := Lib.hid hF2
          clear hx htake hF2 hxl hll HF
          obtain ⟨V, hV⟩ : ∃ V, wr.setRow W1.heap.size (x.1.map u8V).toArray = V := ⟨_, rfl⟩
          have hJV : J pre V := by rw [← hV]; exact HJ.out _ _ _ _ hJr (grownBy_setRow _ _ _) (fun r e => by cases e; exact Nat.le_refl _)
          have HBV := Lib.hid (show V.heap[W1.heap.size]? = some (.cells (x.1.map u8V).toArray 75 (0, 0)) by rw [← hV]; exact setRow_heap _ _ _ _ _ _ HB.out)
          have HGV := Lib.hid (show ∀ i, i < m → V.cell? ⟨g, i, none⟩ = some (.string (ps.getD i ByteArray.empty)) from fun i hi => by rw [← hV]; exact (cell_setRow_other _ _ _ _ hgne).trans (HGR.out i hi))
          have HV := Lib.hid hV; clear hV
          obtain ⟨fn, tmps, assign, body, hyy, hR⟩ := hY pre x V hJV hlen
          dsimp only [encb] at hyy
          have hq : 64 - f ≤ p.size := by omega
          gi_wp2_with (first
            | (with_reducible refine wpListIn_copy_str _ rfl _ _ 43 9 rfl 5 Tryd.underlying43 (by kernel_rfl) W1.heap.size f (64 - f) (64 - f) p cur 75 rfl rfl HB.out (by rw [HCL.out]; omega) (64 - f) hmin.out x.1 hX.out ?_; rw [HV.out])
            | (with_reducible refine wpListIn_load_row rfl 75 _ rfl W1.heap.size rfl 75 (x.1.map u8V).toArray (0, 0) _ HBV.out Tryd.underlying75 rfl (by rw [info75]; simp [x.2.1]) ?_))
          refine hR.mono ?_
          rintro e W3 ⟨rfl, hJ3, hk3⟩
          have HB3 := Lib.hid (show W3.heap[W1.heap.size]? = some (.cells (x.1.map u8V).toArray 75 (0, 0)) from (hk3.2 _ (Array.getElem?_eq_some_iff.1 HBV.out).1 (by omega) (by omega)).trans HBV.out)
          have HG3 := Lib.hid (show ∀ i, i < m → W3.cell? ⟨g, i, none⟩ = some (.string (ps.getD i ByteArray.empty)) from fun i hi => (World.cell?_of_block (hk3.2 g (block_lt_of_cell (HGV.out i hi)) hgb hgl)).trans (HGV.out i hi))
          clear hk3 hJV hyy hR
          gi_wp2
          have hz2 : (p.extract (64 - f) p.size).size = p.size - (64 - f) := by rw [ByteArray.size_extract]; omega
          exact ⟨⟨p.extract (64 - f) p.size, 0, pre ++ [x], x.1, rfl, rfl, by omega, by omega, hJ3, x.2.1, x.2.2, HB3.out, HG3.out, by rw [← HF2.out]; simp⟩, by show (p.extract (64 - f) p.size).size < p.size; omega⟩
    · have HE := Lib.hid (show flat pre = restOf ps 0 by
        have h := HF.out
        rw [show restOf ps k = [] by unfold restOf; rw [List.drop_eq_nil_of_le (by rw [HM.out]; omega)]; rfl, List.append_nil] at h
        have hl := congrArg List.length h
        rw [List.length_append, flat_length, HN.out, List.length_take, HCL.out] at hl
        have h0 : f = 0 := by omega
        rw [h0, List.take_zero, List.append_nil] at h
        exact h)
      gi_wp2
      rw [Exit.noGoto_normal]
      go_end0
      exact ⟨⟨_, rfl⟩, pre, HE.out, hJr⟩
end Go.Proofs.YtiilkjonbfllfaaDoor
