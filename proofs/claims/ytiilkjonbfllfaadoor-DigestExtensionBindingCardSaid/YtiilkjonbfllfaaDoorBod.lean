/- A round of the digest's loop over the blocks: the state behind one block, whatever order the machine takes. -/
import Derived.Test.YtiilkjonbfllfaaDoorSumM
import Derived.Test.YtiilkjonbfllfaaDoorOps
import Derived.Shelf.Abstract
namespace Go.Proofs.YtiilkjonbfllfaaDoor
open Go.RowKit Go.Shelf

theorem eval_put_same (a : Act) (d : Nat) (v : Value) (h : d < a.tmps.size) : (a.put (some d) v).eval (.tmp d) = v := by
  simp [Act.put, Act.eval, h]
theorem eval_put_other (a : Act) (d e : Nat) (v : Value) (h : e ≠ d) : (a.put (some d) v).eval (.tmp e) = a.eval (.tmp e) := by
  simp [Act.put, Act.eval, Ne.symm h]
theorem size_put (a : Act) (d : Nat) (v : Value) : (a.put (some d) v).tmps.size = a.tmps.size := by
  simp [Act.put]
def StIs (W : World) (b : Nat) (s : St) : Prop := W.heap[b]? = some (.cells (s.l.map u32V).toArray 69 (0, 0))
theorem info69 : (Tryd.prog.info? 69).map (·.size) = some 8 := by kernel_rfl
def bodyOps : Array Oper :=
  #[{ dst := some 30, op := Op.load 69 (Operand.tmp 6), type := 69, pos := "sha.go:42", after := #[], guard := none },
    { dst := some 31, op := Op.load 75 (Operand.tmp 8), type := 75, pos := "sha.go:42", after := #[], guard := none },
    { dst := some 32, op := Op.call { callee := Callee.value (Operand.func 58), args := #[Operand.tmp 31], argTypes := #[75] }, type := 77, pos := "sha.go:42", after := #[{ on := 1, ground := Ground.data }], guard := none },
    { dst := some 33, op := Op.call { callee := Callee.value (Operand.func 57), args := #[Operand.tmp 30, Operand.tmp 32], argTypes := #[69, 77] }, type := 69, pos := "sha.go:42",
      after := #[{ on := 0, ground := Ground.data }, { on := 2, ground := Ground.data }, { on := 2, ground := Ground.chain }], guard := none },
    { dst := none, op := Op.store 69 (Operand.tmp 6) (Operand.tmp 33), type := 0, pos := "sha.go:42",
      after := #[{ on := 3, ground := Ground.data }, { on := 3, ground := Ground.chain }, { on := 0, ground := Ground.phase }, { on := 1, ground := Ground.phase }, { on := 2, ground := Ground.phase }, { on := 3, ground := Ground.phase }], guard := none }]

section
variable {l n b Bx : Nat} {s : St} {x : Bk} {W : World} {Q : Exit → Act → World → Prop}

theorem load_state {a : Act} {w : World} {K : Act → World → Prop} (h6 : a.eval (.tmp 6) = .pointer (some ⟨b, 0, none⟩)) (hb : StIs w b s) (h : K (a.put (some 30) (.agg (s.l.map u32V).toArray)) w) :
    (bodyOps[0]).wpIn (Fence.wide.inRound l) n Tryd.prog a w K Q :=
  op_load_row 69 (.tmp 6) rfl b h6 69 _ (0, 0) _ hb Tryd.underlying69 rfl (by rw [info69]; rfl) h
theorem load_block {a : Act} {w : World} {K : Act → World → Prop} (h8 : a.eval (.tmp 8) = .pointer (some ⟨Bx, 0, none⟩)) (hx : w.heap[Bx]? = some (.cells (x.1.map u8V).toArray 75 (0, 0))) (h : K (a.put (some 31) (.agg (x.1.map u8V).toArray)) w) :
    (bodyOps[1]).wpIn (Fence.wide.inRound l) n Tryd.prog a w K Q :=
  op_load_row 75 (.tmp 8) rfl Bx h8 75 _ (0, 0) _ hx Tryd.underlying75 rfl (by rw [info75]; simp [x.2.1]) h
theorem call_schedule {a : Act} {w : World} {K : Act → World → Prop} (h : a.eval (.tmp 31) = .agg (x.1.map u8V).toArray) (hK : ∀ w1, Below w.heap.size w w1 → K (a.put (some 32) (.agg ((wext 48 (words16 x.1)).map u32V).toArray)) w1) :
    (bodyOps[2]).wpIn (Fence.wide.inRound l) n Tryd.prog a w K Q :=
  op_call 58 #[.tmp 31] _ rfl trivial (enters_of Tryd.func58 (by kernel_rfl) rfl) (fun h => by cases h) _ (by rw [List.map_toArray]; simp only [List.map_cons, List.map_nil, h])
    (fun v w1 => v = .agg ((wext 48 (words16 x.1)).map u32V).toArray ∧ Below w.heap.size w w1) (CallsIn.inRound l (callsIn_wide.2 ((schedule_any x.1 x.2.1 x.2.2 w).mono fun e w' ⟨he, hb⟩ => ⟨_, he, rfl, hb⟩)))
    (fun v w' ⟨hv, hb⟩ => by subst hv; exact hK w' hb)
theorem call_after {a : Act} {w : World} {K : Act → World → Prop} (hs : s.ok) (hT : Tab w) (h : a.eval (.tmp 30) = .agg (s.l.map u32V).toArray) (h2 : a.eval (.tmp 32) = .agg ((wext 48 (words16 x.1)).map u32V).toArray)
    (hK : ∀ w1, Below w.heap.size w w1 → K (a.put (some 33) (.agg ((stepB s x).l.map u32V).toArray)) w1) :
    (bodyOps[3]).wpIn (Fence.wide.inRound l) n Tryd.prog a w K Q :=
  op_call 57 #[.tmp 30, .tmp 32] _ rfl trivial (enters_of Tryd.func57 (by kernel_rfl) rfl) (fun h => by cases h) _ (by rw [List.map_toArray]; simp only [List.map_cons, List.map_nil, h, h2])
    (fun v w1 => v = .agg ((stepB s x).l.map u32V).toArray ∧ Below w.heap.size w w1) (CallsIn.inRound l (callsIn_wide.2 ((after_any s hs _ (by rw [wext_length, words16_length]) (wext_lt 48 _ (words16_lt x.1 x.2.1 x.2.2)) w hT).mono fun e w' ⟨he, hb⟩ => ⟨_, he, rfl, hb⟩)))
    (fun v w' ⟨hv, hb⟩ => by subst hv; exact hK w' hb)
theorem store_state {a : Act} {w : World} {K : Act → World → Prop} {t : St} (h6 : a.eval (.tmp 6) = .pointer (some ⟨b, 0, none⟩)) (h33 : a.eval (.tmp 33) = .agg (t.l.map u32V).toArray) (hb : StIs w b s) (h : K (a.put none undef) (w.setRow b (t.l.map u32V).toArray)) :
    (bodyOps[4]).wpIn (Fence.wide.inRound l) n Tryd.prog a w K Q :=
  op_store_row 69 (.tmp 6) (.tmp 33) rfl b _ h6 h33 69 _ hb (by rw [info69]; rfl) rfl (by simp [Value.oneCell', St.l]) h

theorem step_one {i : Nat} {o : Oper} {F : Fence} {md : Region.Mode} {ops : Array Oper} {fuel : Nat} {listed listed' : Array Bool} {a : Act} {w : World} (ho : ops[i]? = some o) (hg : o.guard = none) (hl : listed.setIfInBounds i true = listed')
    (h : ∀ K : Act → World → Prop, (∀ a w, wpAnyIn F n Tryd.prog md ops Q fuel listed' a w → K a w) → o.wpIn F n Tryd.prog a w K Q) :
    wpOpIn F n Tryd.prog ops Q i (wpAnyIn F n Tryd.prog md ops Q fuel (listed.setIfInBounds i true)) a w := by
  subst hl
  refine wpOpIn_step ho fun K hK => ?_
  simp only [Region.wanted, hg, if_true]
  exact h K hK

theorem tail_in {a : Act} {w : World} (hs : s.ok) (hT : Tab w) (h6 : a.eval (.tmp 6) = .pointer (some ⟨b, 0, none⟩)) (hsz : a.tmps.size = 36) (h30 : a.eval (.tmp 30) = .agg (s.l.map u32V).toArray)
    (h32 : a.eval (.tmp 32) = .agg ((wext 48 (words16 x.1)).map u32V).toArray) (hb : StIs w b s) (hB : Below W.heap.size W w)
    (hK : ∀ a' W1, Below W.heap.size W W1 → StIs W1 b s → Q .normal a' (W1.setRow b ((stepB s x).l.map u32V).toArray)) :
    wpAnyIn (Fence.wide.inRound l) n Tryd.prog .any bodyOps Q 2 #[true, true, true, false, false] a w := by
  have hbl : b < w.heap.size := (Array.getElem?_eq_some_iff.1 hb).1
  refine wpAnyIn_all (rs := [3]) (by kernel_rfl) (by simp) fun i hi => ?_
  obtain rfl := List.mem_singleton.1 hi
  refine step_one (o := bodyOps[3]) rfl rfl (listed' := #[true, true, true, true, false]) (by kernel_rfl) fun K hKK => call_after hs hT h30 h32 fun w1 hb1 => hKK _ _ ?_
  have hb' : StIs w1 b s := (hb1.block _ hbl).trans hb
  refine wpAnyIn_all (rs := [4]) (by kernel_rfl) (by simp) fun i hi => ?_
  obtain rfl := List.mem_singleton.1 hi
  refine step_one (o := bodyOps[4]) rfl rfl (listed' := #[true, true, true, true, true]) (by kernel_rfl) fun K hKK => store_state (by rw [eval_put_other _ _ _ _ (by decide)]; exact h6) (eval_put_same _ _ _ (by omega)) hb' (hKK _ _ ?_)
  exact wpAnyIn_done (by kernel_rfl) (hK _ _ (hB.trans (hb1.mono hB.size)) hb') _

theorem body_in {a : Act} {id : Nat} (hs : s.ok) (hT : Tab W) (h6 : a.eval (.tmp 6) = .pointer (some ⟨b, 0, none⟩)) (h8 : a.eval (.tmp 8) = .pointer (some ⟨Bx, 0, none⟩)) (hsz : a.tmps.size = 36) (hb : StIs W b s)
    (hx : W.heap[Bx]? = some (.cells (x.1.map u8V).toArray 75 (0, 0)))
    (hK : ∀ a' W1, Below W.heap.size W W1 → StIs W1 b s → Q .normal a' (W1.setRow b ((stepB s x).l.map u32V).toArray)) :
    (Code.region id bodyOps true).wpIn (Fence.wide.inRound l) n Tryd.prog Q a W := by
  have hbl : b < W.heap.size := (Array.getElem?_eq_some_iff.1 hb).1
  have h0 : 0 < W.heap.size := hT.1
  refine wpIn_region_any (by kernel_rfl) ?_
  change wpAnyIn _ _ _ _ _ _ 5 _ _ (World.drew W)
  have hbd : StIs W.drew b s := hb
  have hxd : W.drew.heap[Bx]? = some (.cells (x.1.map u8V).toArray 75 (0, 0)) := hx
  have hTd : Tab W.drew := hT.below ((Below.refl W.heap.size W).drew) h0
  have hBd : Below W.heap.size W W.drew := (Below.refl _ _).drew
  have p6 : ∀ d v, d ≠ 6 → (a.put (some d) v).eval (.tmp 6) = .pointer (some ⟨b, 0, none⟩) := fun d v hd => by rw [eval_put_other _ _ _ _ (Ne.symm hd)]; exact h6
  have behind : ∀ w1, Below W.drew.heap.size W.drew w1 → StIs w1 b s ∧ Tab w1 ∧ Below W.heap.size W w1 := fun w1 hb1 =>
    ⟨(hb1.block _ hbl).trans hbd, hTd.below hb1 h0, hBd.trans hb1⟩
  refine wpAnyIn_all (rs := [0, 1]) (by kernel_rfl) (by simp) fun i hi => ?_
  rcases List.mem_cons.1 hi with rfl | hi
  · refine step_one (o := bodyOps[0]) rfl rfl (listed' := #[true, false, false, false, false]) (by kernel_rfl) fun K hKK => load_state h6 hbd (hKK _ _ ?_)
    refine wpAnyIn_all (rs := [1]) (by kernel_rfl) (by simp) fun i hi => ?_
    obtain rfl := List.mem_singleton.1 hi
    refine step_one (o := bodyOps[1]) rfl rfl (listed' := #[true, true, false, false, false]) (by kernel_rfl) fun K hKK => load_block (by rw [eval_put_other _ _ _ _ (by decide)]; exact h8) hxd (hKK _ _ ?_)
    refine wpAnyIn_all (rs := [2]) (by kernel_rfl) (by simp) fun i hi => ?_
    obtain rfl := List.mem_singleton.1 hi
    refine step_one (o := bodyOps[2]) rfl rfl (listed' := #[true, true, true, false, false]) (by kernel_rfl) fun K hKK => call_schedule (eval_put_same _ _ _ (by rw [size_put]; omega)) fun w1 hb1 => hKK _ _ ?_
    obtain ⟨b1, b2, b3⟩ := behind w1 hb1
    refine tail_in (W := W) hs b2 ?_ ?_ ?_ ?_ b1 b3 hK
    · rw [eval_put_other _ _ _ _ (by decide), eval_put_other _ _ _ _ (by decide)]; exact p6 _ _ (by decide)
    · rw [size_put, size_put, size_put]; exact hsz
    · rw [eval_put_other _ _ _ _ (by decide), eval_put_other _ _ _ _ (by decide)]; exact eval_put_same _ _ _ (by omega)
    · exact eval_put_same _ _ _ (by rw [size_put, size_put]; omega)
  · obtain rfl := List.mem_singleton.1 hi
    refine step_one (o := bodyOps[1]) rfl rfl (listed' := #[false, true, false, false, false]) (by kernel_rfl) fun K hKK => load_block h8 hxd (hKK _ _ ?_)
    refine wpAnyIn_all (rs := [0, 2]) (by kernel_rfl) (by simp) fun i hi => ?_
    rcases List.mem_cons.1 hi with rfl | hi
    · refine step_one (o := bodyOps[0]) rfl rfl (listed' := #[true, true, false, false, false]) (by kernel_rfl) fun K hKK => load_state (p6 _ _ (by decide)) hbd (hKK _ _ ?_)
      refine wpAnyIn_all (rs := [2]) (by kernel_rfl) (by simp) fun i hi => ?_
      obtain rfl := List.mem_singleton.1 hi
      refine step_one (o := bodyOps[2]) rfl rfl (listed' := #[true, true, true, false, false]) (by kernel_rfl) fun K hKK => call_schedule (by rw [eval_put_other _ _ _ _ (by decide)]; exact eval_put_same _ _ _ (by omega)) fun w1 hb1 => hKK _ _ ?_
      obtain ⟨b1, b2, b3⟩ := behind w1 hb1
      refine tail_in (W := W) hs b2 ?_ ?_ ?_ ?_ b1 b3 hK
      · rw [eval_put_other _ _ _ _ (by decide), eval_put_other _ _ _ _ (by decide)]; exact p6 _ _ (by decide)
      · rw [size_put, size_put, size_put]; exact hsz
      · rw [eval_put_other _ _ _ _ (by decide)]; exact eval_put_same _ _ _ (by rw [size_put]; omega)
      · exact eval_put_same _ _ _ (by rw [size_put, size_put]; omega)
    · obtain rfl := List.mem_singleton.1 hi
      refine step_one (o := bodyOps[2]) rfl rfl (listed' := #[false, true, true, false, false]) (by kernel_rfl) fun K hKK => call_schedule (eval_put_same _ _ _ (by omega)) fun w1 hb1 => hKK _ _ ?_
      obtain ⟨b1, b2, b3⟩ := behind w1 hb1
      refine wpAnyIn_all (rs := [0]) (by kernel_rfl) (by simp) fun i hi => ?_
      obtain rfl := List.mem_singleton.1 hi
      refine step_one (o := bodyOps[0]) rfl rfl (listed' := #[true, true, true, false, false]) (by kernel_rfl) fun K hKK => load_state (by rw [eval_put_other _ _ _ _ (by decide)]; exact p6 _ _ (by decide)) b1 (hKK _ _ ?_)
      refine tail_in (W := W) hs b2 ?_ ?_ ?_ ?_ b1 b3 hK
      · rw [eval_put_other _ _ _ _ (by decide), eval_put_other _ _ _ _ (by decide)]; exact p6 _ _ (by decide)
      · rw [size_put, size_put, size_put]; exact hsz
      · exact eval_put_same _ _ _ (by rw [size_put, size_put]; omega)
      · rw [eval_put_other _ _ _ _ (by decide)]; exact eval_put_same _ _ _ (by rw [size_put]; omega)
end
end Go.Proofs.YtiilkjonbfllfaaDoor
