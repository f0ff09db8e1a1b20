/- The cells of an area, iterated and collected. -/
import Derived.RangeFuncNested
import Derived.RangeFuncBound
import Derived.RangeFuncCalls
import Derived.RangeFuncLeaves
import Derived.RangeFuncBox
import Derived.RangeFuncWrites
import Derived.OwnWalkIn
import Derived.TacticsInMore
import Derived.LoopNIn
import Derived.LoopIn
import Derived.Maps.AppendAt
import Derived.Deep.AppendLies
import Derived.Test.YtbgdlfkeimaaiaaDoorGb
namespace Go.Proofs.YtbgdlfkeimaaiaaDoor
open Go.RowKit Go.Shelf
set_option linter.unusedVariables false
set_option linter.unusedSimpArgs false
section
variable {F : Fence} {n : Nat} {P : Program}

/-- The iterator's promise: for every J that abides allocations, the rounds bring J along. -/
def SeqBd {α : Type} (F : Fence) (n : Nat) (P : Program) (gf n0 l : Nat) (pb : Array Value) (encs : α → Array Value) (S : List α → Prop) (N : Nat) (W1 : World) : Prop :=
  ∀ J : List α → World → Prop,
    (∀ s A o, J s A → J s (A.alloc o)) →
    (∀ pre x W, J pre W → pre.length < N → YieldAt F (n - 1) P l (encs x) W fun e W' => e = .returned (.bool true) ∧ J (pre ++ [x]) W' ∧ Below n0 W W') →
    J [] W1 → CallsIn F n P gf (pb ++ #[.func (.yield l) #[] #[]]) W1 fun e W' => (∃ v, e = .returned v) ∧ ∃ xs, S xs ∧ J xs W'

theorem rangeBound {α : Type} {g : Operand} {ps : Array Tmp} {assign body : Code} {Q : Exit → Act → World → Prop} {a : Act} {w : World} (hro : F.round = none) (h1 : 1 ≤ n)
    {gf : Nat} {pb : Array Value} (hg : a.eval g = .func (.func gf) pb #[]) (hFg : F.fn gf) (eg : ∀ args w, (callFunc gf args).run P w = .ok (.enter gf args) w)
    {encs : α → Array Value} (hps : ∀ x, (encs x).size = ps.size) {S : List α → Prop} {N : Nat} (n0 : Nat) (hn0 : n0 ≤ w.heap.size)
    (hseq : ∀ W1 : World, Below w.heap.size w W1 → SeqBd F (n - 1) P gf n0 (w.heap.size + 1) pb encs S N W1)
    (I : List α → World → Prop) (hI : OwnFrom w.heap.size I) (h0 : I [] w) (Ax : α → Act → World → Prop)
    (hAx : ∀ x a' A o, Ax x a' A → Ax x a' (A.putObj (w.heap.size + 1) o))
    (hassign : ∀ (l : Nat) (pre : List α) (x : α) (W : World) (K : Act → World → Prop), I pre W → w.heap.size + 1 < W.heap.size → (∀ a' W', KeepsOthers W W' → Below n0 W W' → I pre W' → Ax x a' W' → K a' W') →
      assign.wpIn (F.inRound l) (n - 1 - 1) P (Exit.then K (fun _ _ _ => False)) { tmps := (ps.zip (encs x)).foldl (fun t (p, v) => t.setIfInBounds p v) a.tmps, defers := [] } W)
    (hbody : ∀ (l : Nat) (pre : List α) (x : α) (a' : Act) (W : World), I pre W → Ax x a' W → pre.length < N → w.heap.size < W.heap.size →
      body.wpIn (F.inRound l) (n - 1 - 1) P (fun e _ W' => e = .normal ∧ KeepsOthers W W' ∧ Below n0 W W' ∧ I (pre ++ [x]) W') a' W)
    (hdone : ∀ (xs : List α) (W : World), S xs → I xs W → W.heap[w.heap.size]? = some (.deferred (some [])) → Q .normal { a with defers := { target := .collected w.heap.size, args := #[] } :: a.defers } W) :
    (Code.rangeFunc g ps assign body).wpIn F n P Q a w := by
  refine wpIn_rangeFunc ?_
  intro fn hfn
  rw [hro]
  obtain ⟨rec, hrec⟩ : ∃ rec : LoopState → Option Code → Loop, rec = fun st pe => { state := st, pending := pe, fn, tmps := a.tmps, params := ps, assign, body, defers := w.heap.size } := ⟨_, rfl⟩
  obtain ⟨W1, hW1⟩ : ∃ W1, (w.alloc (.deferred (some []))).alloc (.loop (rec .ready none)) = W1 := ⟨_, rfl⟩
  have hL1 : W1.heap[w.heap.size + 1]? = some (.loop (rec .ready none)) := by
    rw [← hW1]; have := World.alloc_heap_new (w.alloc (.deferred (some []))) (.loop (rec .ready none)); rwa [World.size_alloc] at this
  have hK1 : W1.heap[w.heap.size]? = some (.deferred (some [])) := by
    rw [← hW1]; exact (Below.heap_alloc _ _ _ (by simp)).trans (World.alloc_heap_new w _)
  have hB1 : Below w.heap.size w W1 := by rw [← hW1]; exact ((Below.refl _ _).alloc (Nat.le_refl _) _).alloc (by simp) _
  have hI1 : I [] W1 := by rw [← hW1]; exact hI.alloc _ (hI.alloc _ h0)
  have bput : ∀ {A : World} (o : Obj), Below n0 A (A.putObj (w.heap.size + 1) o) := fun {A} o =>
    ⟨rfl, rfl, rfl, by simp, fun k hk => World.putObj_heap_other (by omega)⟩
  refine ⟨w.heap.size + 1, [{ target := .collected w.heap.size, args := #[] }], W1, { target := .fn (.func gf) #[], args := pb ++ #[.func (.yield (w.heap.size + 1)) #[] #[]] }, W1, gf,
    pb ++ #[.func (.yield (w.heap.size + 1)) #[] #[]], W1, ?_, ?_, ?_, ?_, fun _ => h1, ?_⟩
  · rw [← hW1, hrec]; exact run_enterLoop_outer _ _ _ _ _
  · simp only [resolve, hg]
    simp [go_sem]
  · intro f' hf'; simp [Target.leads] at hf'; subst hf'; exact hFg
  · simp [invoke, go_sem, eg]
  · refine (hseq W1 hB1
      (fun pre W => I pre W ∧ W.heap[w.heap.size + 1]? = some (.loop (rec .ready none)) ∧ W.heap[w.heap.size]? = some (.deferred (some []))) ?_ ?_ ⟨hI1, hL1, hK1⟩).mono ?_
    · rintro s A o ⟨hi, hl, hk⟩
      exact ⟨hI.alloc _ hi, (Below.heap_alloc _ _ _ (Array.getElem?_eq_some_iff.1 hl).1).trans hl, (Below.heap_alloc _ _ _ (Array.getElem?_eq_some_iff.1 hk).1).trans hk⟩
    · rintro pre x W ⟨hi, hl, hk⟩ hN
      have hlt : w.heap.size + 1 < W.heap.size := (Array.getElem?_eq_some_iff.1 hl).1
      have hy := run_yield (P := P) (args := encs x) hl (by rw [hrec]; exact hps x)
      rw [hrec] at hy
      refine ⟨fn, _, assign, body, hy, roundIn_of_wpIn hfn (hassign _ pre x W _ hi hlt ?_)⟩
      clear hy
      intro a' Wa hka hba hia hax
      have hla := hka.same _ _ hl rfl
      have hkka := hka.same _ _ hk rfl
      refine ⟨_, run_beginRound hla (by rw [hrec]), ?_⟩
      obtain ⟨V, hV⟩ : ∃ V, Wa.putObj (w.heap.size + 1) (.loop { rec .ready none with state := .busy }) = V := ⟨_, rfl⟩
      have hza := hka.size
      have hVz : V.heap.size = Wa.heap.size := by rw [← hV]; simp
      have hl2 : V.heap[w.heap.size + 1]? = some (.loop { rec .ready none with state := .busy }) := by rw [← hV]; exact World.putObj_heap_same (by omega)
      have hk2 : V.heap[w.heap.size]? = some (.deferred (some [])) := by rw [← hV]; exact (World.putObj_heap_other (by omega)).trans hkka
      have hiV : I pre V := by rw [← hV]; exact hI.putObj _ hia (by omega) hla rfl
      have haV : Ax x a' V := by rw [← hV]; exact hAx _ _ _ _ hax
      have hbV : Below n0 Wa V := by rw [← hV]; exact bput _
      rw [hV]
      refine wpIn_mono (hbody _ pre x a' V hiV haV hN (by omega)) ?_
      rintro e a3 W3 ⟨rfl, hk3, hb3, hi3⟩
      have hl3 := hk3.same _ _ hl2 rfl
      have hkk3 := hk3.same _ _ hk2 rfl
      have hr := run_endRound (P := P) none hl3
      rw [hrec] at hr
      have hl3' := hl3
      rw [hrec] at hl3'
      refine ⟨_, _, hr, rfl, ⟨hI.putObj _ hi3 (by omega) hl3' rfl, ?_, (World.putObj_heap_other (by omega)).trans hkk3⟩, ?_⟩
      · rw [hrec]; exact World.putObj_heap_same (Array.getElem?_eq_some_iff.1 hl3).1
      · exact ((hba.trans hbV).trans hb3).trans (bput _)
    · rintro e W2 ⟨⟨v, rfl⟩, xs, hS, hi, hl, hk⟩
      exact ⟨none, _, by have := run_endLoop (P := P) hl (by rw [hrec]; simp); rw [hrec] at this; exact this, hdone xs _ hS (hI.putObj _ hi (by omega) hl rfl) ((World.putObj_heap_other (by omega)).trans hk)⟩
end
end Go.Proofs.YtbgdlfkeimaaiaaDoor

namespace Go.Proofs.YtbgdlfkeimaaiaaDoor
open Go.RowKit Go.Shelf
attribute [local go_sem] Oper.semAt_some
set_option linter.unusedVariables false
set_option linter.unusedSimpArgs false
section
variable {F : Fence} {n : Nat} {P : Program} {ops : Array Oper} {rest : List Oper} {o : Oper} {a : Act} {w : World} {Q : Exit → Act → World → Prop}
theorem op_load_row (ty : TypeId) (x : Operand) (ho : o.op = .load ty x)
    (g : Nat) (hx : a.eval x = .pointer (some ⟨g, 0, none⟩)) (t : TypeId) (cs : Array Value) (fr : Nat × Nat) (d : TypeDesc) (hg : w.heap[g]? = some (.cells cs t fr))
    (hu : P.underlying ty = some d) (hd : (match d with | .struct _ | .array _ _ => true | _ => false) = true) (hi : (P.info? ty).map (·.size) = some cs.size) {K : Act → World → Prop}
    (h : K (a.put o.dst (.agg cs)) w) : o.wpIn F n P a w K Q := by
  have hrun := run_loadVar_row (P := P) w g t ty cs fr d hg hu hd hi
  unfold Oper.wpIn
  refine ⟨?_, ?_⟩
  · simp [Oper.about, ho]
  · rw [Oper.semAt_plain F _ _ (by rw [ho]; intro c hc'; cases hc')]
    simp only [execOp, ho, hx, Instr.loadAt, Instr.sureAddr, Sem.run_bind, Sem.run_pure, Result.andThen_ok, hrun]
    exact h
theorem wpListIn_load_row (hgd : o.guard = none) (ty : TypeId) (x : Operand) (ho : o.op = .load ty x)
    (g : Nat) (hx : a.eval x = .pointer (some ⟨g, 0, none⟩)) (t : TypeId) (cs : Array Value) (fr : Nat × Nat) (d : TypeDesc) (hg : w.heap[g]? = some (.cells cs t fr))
    (hu : P.underlying ty = some d) (hd : (match d with | .struct _ | .array _ _ => true | _ => false) = true) (hi : (P.info? ty).map (·.size) = some cs.size)
    (h : wpListIn F n P ops Q rest (a.put o.dst (.agg cs)) w) : wpListIn F n P ops Q (o :: rest) a w :=
  wpListIn_plain hgd fun _ hK => op_load_row ty x ho g hx t cs fr d hg hu hd hi (hK _ _ h)
end
theorem cellsTo_len (f : Ar) : ∀ n, (cellsTo f n).length = sumTo (fun y => cntTo (fun x => f x y) 48) n
  | 0 => rfl
  | n + 1 => by
    show (cellsTo f n ++ rowCells f n 48).length = cntTo (fun x => f x n) 48 + _
    rw [List.length_append, cellsTo_len f n, rowCells_len]
    omega
abbrev encc (p : Nat × Nat) : Array Value := #[CV p.1 p.2]
theorem and_less {r : Nat} (hr : r < 281474976710656) (h1 : 1 ≤ r) : bits .and .i64 (r : Int) ((r : Int) - 1) = ((r &&& (r - 1) : Nat) : Int) := by
  rw [show (r : Int) - 1 = ((r - 1 : Nat) : Int) by omega]
  exact i64_and_nat r (r - 1) (by omega) (by omega)
set_option maxRecDepth 100000 in
set_option maxHeartbeats 2000000 in
theorem cells_in (n : Nat) (hn : 1 ≤ n) (n0 l : Nat) (hn0 : 3 < n0) (f : Ar) (W1 : World) (hT : Tab W1) (hz0 : n0 ≤ W1.heap.size) : SeqBd Fence.wide n Tryd.prog 50 n0 l #[FV f] encc (fun xs => xs = cellsTo f 24) 1152 W1 := by
  intro J hJ hY h0
  refine callsIn_of_wp Tryd.func50 rfl trivial ?_ rfl
  simp only [Tryd.ntmps50, List.size_toArray, List.length_cons, List.length_nil, Nat.reduceAdd, Nat.reduceSub, Array.replicate_succ, Array.replicate_zero, List.push_toArray, List.append_toArray, List.nil_append, List.cons_append]
  rw [FV_eq]
  obtain ⟨V, hV⟩ : ∃ V, W1.alloc (.cells (FC f) 70) = V := ⟨_, rfl⟩
  have HF := Lib.hid (show HasF V W1.heap.size 70 f from by rw [← hV]; exact heap_new' _ _ _ rfl)
  have HJ := Lib.hid (show J [] V from by rw [← hV]; exact hJ _ _ _ h0)
  have HT := Lib.hid (show Tab V from by rw [← hV]; exact hT.below ((Below.refl _ _).alloc (Nat.le_refl _) _) hT.1)
  have HY := Lib.hid hY
  clear hY hJ h0 hT hz0
  gi_wp2_with (refine wpListIn_load_row rfl 70 _ rfl W1.heap.size rfl 70 (FC f) (0, 0) _ HF.out Tryd.underlying70 rfl (infoFC f) ?_)
  clear hV HF
  gi_loopw [8] (fun iv wr => ∃ y : Nat, y ≤ 24 ∧ iv = .int .i64 y ∧ J (cellsTo f y) wr ∧ Tab wr) (fun iv _ => 24 - (intOf iv).toNat)
  case atStart => exact ⟨0, by omega, rfl, HJ.out, HT.out⟩
  case round =>
    obtain ⟨y, hy, rfl, hJ, hT⟩ := hrel
    clear HJ HT
    have HJ := Lib.hid hJ; have HT := Lib.hid hT
    clear hJ hT
    have y0 : (0 : Int) ≤ y := by omega
    by_cases hlt : y < 24
    · have y1 : (y : Int) < 24 := by omega
      have hx := run_index62 f y hlt
      have HR := Lib.hid (show rowOf f y = from_ (fun x => f x y) 0 from (from_0 _).symm)
      generalize rowOf f y = r0 at hx HR
      gi_wp2
      clear hx
      gi_loopw [6] (fun rv wr => ∃ k : Nat, k ≤ 48 ∧ rv = .int .i64 (from_ (fun x => f x y) k : Nat) ∧ J (cellsTo f y ++ rowCells f y k) wr ∧ Tab wr) (fun rv _ => (intOf rv).toNat)
      case atStart => exact ⟨0, by omega, by rw [HR.out], by simpa [rowCells] using HJ.out, HT.out⟩
      case round =>
        obtain ⟨k, hk, rfl, hJ, hT⟩ := hrel
        clear HJ HT
        have HJ := Lib.hid hJ; have HT := Lib.hid hT
        clear hJ hT
        by_cases hz : from_ (fun x => f x y) k = 0
        · have HE := Lib.hid (show J (cellsTo f (y + 1)) wr from by
            have e : cellsTo f (y + 1) = cellsTo f y ++ rowCells f y 48 := rfl
            rw [e, rowCells_skip f y (t := 48) hk (fun x h1 h2 => from_zero hz x h2 h1)]
            exact HJ.out)
          rw [hz]
          have hb1 : (((0 : Nat) : Int) == 0) = true := by decide
          clear hz HJ
          gi_wp2
          exact ⟨⟨y + 1, by omega, by go_num, HE.out, HT.out⟩, by simp [intOf]; omega⟩
        · obtain ⟨t, ht, ht48, hkt, hft, hbt, hst, h1⟩ := from_step hz
          have hlt48 := from_lt (fun x => f x y) k
          have hlt2 := from_lt (fun x => f x y) (t + 1)
          have HN := Lib.hid (rowCells_next f y hkt (fun x a b => hbt x a b) hft)
          have C := Lib.hid (fun W (hT : Tab W) => (callsIn_wide (n := n - 1)).2 (tz_any (from_ (fun x => f x y) k) (by omega) hz W hT))
          simp only [ht] at C
          have HL := Lib.hid (and_less hlt48 h1)
          have hlen : (cellsTo f y ++ rowCells f y k).length < 1152 := by
            rw [List.length_append, cellsTo_len, rowCells_len]
            have h1 := sum_le (fun y => cntTo (fun x => f x y) 48) 48 (fun y => cnt_le _ 48) y
            have h2 := cnt_le (fun x => f x y) k
            omega
          have HY1 := HY.out (cellsTo f y ++ rowCells f y k) (t, y) wr HJ.out hlen
          clear hlen
          have HM := Lib.hid (show from_ (fun x => f x y) (t + 1) < from_ (fun x => f x y) k from by
            rw [← hst]
            have := Nat.and_le_right (n := from_ (fun x => f x y) k) (m := from_ (fun x => f x y) k - 1)
            omega)
          rw [hst] at HL
          clear hst ht hft hbt
          generalize hr : from_ (fun x => f x y) k = r at *
          generalize hr2 : from_ (fun x => f x y) (t + 1) = r2 at *
          have HR2 := Lib.hid hr2
          clear hr hr2
          have hb1 : ((r : Int) == 0) = false := by simpa using hz
          have hb2 : ((r : Int) != 0) = true := by simpa using hz
          have hr1 : (1 : Int) ≤ r := by omega
          have hr3 : (r : Int) < 281474976710656 := by omega
          obtain ⟨fn, tmps, assign, body, hyy, hR⟩ := HY1
          dsimp only [encc] at hyy
          have hw71 : Fence.wide.fn 56 := trivial
          clear hz h1
          gi_wp2_with (gi_at_call 56; (with_reducible refine (C.out _ HT.out).mono ?_); rintro e w' ⟨rfl, rfl⟩)
          refine hR.mono ?_
          rintro e W3 ⟨rfl, hJ3, hb3⟩
          have HJ3 := Lib.hid hJ3
          have HT3 := Lib.hid (HT.out.below hb3 hn0)
          clear hJ3 hb3 hyy
          gi_wp2
          refine ⟨⟨t + 1, by omega, ?_, by rw [HN.out, ← List.append_assoc]; exact HJ3.out, HT3.out⟩, ?_⟩
          · rw [HL.out, HR2.out]
          · simp only [intOf]; rw [HL.out]; have := HM.out; omega
    · obtain rfl : y = 24 := by omega
      gi_wp2
      refine bodyPost_end (results_none rfl _ _ _) rfl ?_
      exact ⟨⟨_, rfl⟩, _, rfl, HJ.out⟩
end Go.Proofs.YtbgdlfkeimaaiaaDoor

namespace Go.Proofs.YtbgdlfkeimaaiaaDoor
open Go.RowKit Go.Shelf
attribute [local go_sem] Oper.semAt_some
set_option linter.unusedVariables false
set_option linter.unusedSimpArgs false

/-- The values of a list of cells. -/
def cvs : List (Nat × Nat) → List Value
  | [] => []
  | p :: l => iV p.1 :: iV p.2 :: cvs l
theorem cvs_app : ∀ l m, cvs (l ++ m) = cvs l ++ cvs m
  | [], m => rfl
  | p :: l, m => by
    show iV p.1 :: iV p.2 :: cvs (l ++ m) = _
    rw [cvs_app l m]; rfl
theorem cvs_at : ∀ (l : List (Nat × Nat)) (i : Nat) (p : Nat × Nat), l[i]? = some p → (cvs l)[i * 2]? = some (iV p.1) ∧ (cvs l)[i * 2 + 1]? = some (iV p.2)
  | [], i, p, h => by simp at h
  | q :: l, 0, p, h => by
    simp at h; subst h
    exact ⟨rfl, rfl⟩
  | q :: l, i + 1, p, h => by
    have := cvs_at l i p (by simpa using h)
    show (iV q.1 :: iV q.2 :: cvs l)[(i + 1) * 2]? = _ ∧ (iV q.1 :: iV q.2 :: cvs l)[(i + 1) * 2 + 1]? = _
    rw [show (i + 1) * 2 = i * 2 + 1 + 1 by omega]
    exact this
/-- A slice of cells. -/
def Cs (W : World) (al : Option Addr) (n : Nat) (l : List (Nat × Nat)) : Prop :=
  n = l.length ∧ n ≤ 1152 ∧ (n = 0 ∨ ∃ b, al = some ⟨b, 0, none⟩ ∧ b < W.heap.size ∧ ∀ i p, l[i]? = some p → W.cell? ⟨b, i * 2, none⟩ = some (iV p.1) ∧ W.cell? ⟨b, i * 2 + 1, none⟩ = some (iV p.2))
theorem Cs.below {W W' : World} {al : Option Addr} {n : Nat} {l : List (Nat × Nat)} (h : Cs W al n l) {B : Nat} (hB : W.heap.size ≤ B) (hb : Below B W W') : Cs W' al n l := by
  obtain ⟨h1, h2, h4⟩ := h
  refine ⟨h1, h2, ?_⟩
  rcases h4 with h4 | ⟨b, rfl, hb', hc⟩
  · exact .inl h4
  · exact .inr ⟨b, rfl, Nat.lt_of_lt_of_le hb' hb.size, fun i p hi =>
      ⟨(hb.cell (p := ⟨b, i * 2, none⟩) (by show b < B; omega)).trans (hc i p hi).1, (hb.cell (p := ⟨b, i * 2 + 1, none⟩) (by show b < B; omega)).trans (hc i p hi).2⟩⟩
theorem Cs.of_row {W : World} {n0 : Nat} {e : TypeId} {v : Value} {l : List (Nat × Nat)} (h : W.ownsRow n0 e 2 v l.length (cvs l)) (hl : l.length ≤ 1152) : ∃ al c, v = .slice al l.length c ∧ Cs W al l.length l := by
  rcases h.2 with ⟨rfl, hz⟩ | ⟨g, cap, cur, rfl, hb, hg, h1, h2, h3, h4⟩
  · exact ⟨none, 0, by rw [hz], rfl, hl, .inl hz⟩
  · refine ⟨some ⟨g, 0, none⟩, cap, rfl, rfl, hl, .inr ⟨g, rfl, (Array.getElem?_eq_some_iff.1 hg).1, fun i p hi => ?_⟩⟩
    have hc := cvs_at l i p hi
    have hlt : i < l.length := (List.getElem?_eq_some_iff.1 hi).1
    rw [← h4] at hc
    rw [List.getElem?_take_of_lt (by omega), List.getElem?_take_of_lt (by omega), Array.getElem?_toList, Array.getElem?_toList] at hc
    exact ⟨(cell_of_row W g (i * 2) cur e (0, 0) hg).trans hc.1, (cell_of_row W g (i * 2 + 1) cur e (0, 0) hg).trans hc.2⟩
theorem Cs.put {W : World} {al : Option Addr} {n : Nat} {l : List (Nat × Nat)} (h : Cs W al n l) {k : Nat} {ds : Option (List Deferred)} (hk : W.heap[k]? = some (.deferred ds)) {o : Obj} : Cs (W.putObj k o) al n l := by
  obtain ⟨h1, h2, h4⟩ := h
  refine ⟨h1, h2, ?_⟩
  rcases h4 with h4 | ⟨b, rfl, hb', hc⟩
  · exact .inl h4
  · by_cases e : b = k
    · subst e
      rcases l with _ | ⟨p, l⟩
      · exact .inl h1
      · have := (hc 0 p rfl).1
        simp [World.cell?, hk] at this
    · have hh : (W.putObj k o).heap[b]? = W.heap[b]? := World.putObj_heap_other e
      exact .inr ⟨b, rfl, by simpa using hb', fun i p hi => ⟨(World.cell?_of_block (a := ⟨b, i * 2, none⟩) hh).trans (hc i p hi).1, (World.cell?_of_block (a := ⟨b, i * 2 + 1, none⟩) hh).trans (hc i p hi).2⟩⟩
section
variable {F : Fence} {n : Nat} {P : Program} {ops : Array Oper} {rest : List Oper} {o : Oper} {a : Act} {w : World} {Q : Exit → Act → World → Prop}
theorem wpListIn_store_row (hgd : o.guard = none) (ty : TypeId) (x y : Operand) (ho : o.op = .store ty x y)
    (g : Nat) (cells : Array Value) (hx : a.eval x = .pointer (some ⟨g, 0, none⟩)) (hy : a.eval y = .agg cells) (t : TypeId) (old : Array Value) (hg : w.heap[g]? = some (.cells old t (0, 0)))
    (hi : (P.info? ty).map (·.size) = some cells.size) (hs : old.size = cells.size) (h1 : cells.all (·.oneCell') = true)
    (h : wpListIn F n P ops Q rest (a.put o.dst undef) (w.setRow g cells)) : wpListIn F n P ops Q (o :: rest) a w := by
  refine wpListIn_plain hgd fun _ hK => ?_
  have hrun := run_storeVar_row (P := P) w g t ty old cells hg hi hs h1
  unfold Oper.wpIn
  refine ⟨?_, ?_⟩
  · simp [Oper.about, ho]
  · rw [Oper.semAt_plain F _ _ (by rw [ho]; intro c hc'; cases hc')]
    simp only [execOp, ho, hx, hy, Instr.storeAt, Instr.sureAddr, Sem.run_bind, Sem.run_pure, Result.andThen_ok, hrun]
    exact hK _ _ h
end
theorem infoCell : (Tryd.prog.info? 23).map (fun i => (i.zero, i.size, i.bytes)) = some (some (.agg #[.int .i64 0, .int .i64 0]), 2, 16) := by kernel_rfl
theorem info_parts' {P : Program} {t : TypeId} {z : Value} {s b : Nat} (h : (P.info? t).map (fun i => (i.zero, i.size, i.bytes)) = some (some z, s, b)) : ∃ i, P.info? t = some i ∧ i.zero = some z ∧ i.size = s ∧ i.bytes = b := by
  cases hq : P.info? t with
  | none => rw [hq] at h; cases h
  | some i =>
    rw [hq] at h
    simp at h
    exact ⟨i, rfl, h.1, h.2.1, h.2.2⟩
set_option maxRecDepth 100000 in
set_option maxHeartbeats 4000000 in
theorem cells_any (al : Option Addr) (n c : Nat) (zs : List Int) (o : Option Ar) (hO : Is zs o) (w : World) (h : Sl w al n zs) (hT : Tab w) :
    Calls Tryd.prog 44 #[.agg #[.slice al n c]] w fun e w' => ∃ rl rn rc, e = .returned (.slice rl rn rc) ∧ Cs w' rl rn (cellsTo (of o) 24) ∧ Below w.heap.size w w' := by
  refine callsIn_wide (n := 5) |>.1 ?_
  obtain ⟨W, hW, hb, hz, h0⟩ := box_one_area w al n c
  obtain ⟨i0, hi, hz0, hz1, hz2⟩ := info_parts' infoCell
  have HB := Lib.hid hb
  have CR := Lib.hid ((callsIn_wide (n := 4)).2 (read_any al n c zs o W (h.below (Nat.le_refl _) hb) hO))
  simp only [FV_eq] at CR
  have HI := Lib.hid (And.intro hi (And.intro hz0 (And.intro hz1 hz2)))
  have HT := Lib.hid hT
  clear hb hz h hO hi hz0 hz1 hz2 hT
  generalize hf : of o = f at *
  clear hf
  refine callsIn_of_wp_marks Tryd.func44 rfl trivial ?_ rfl
  simp only [Tryd.ntmps44, List.size_toArray, List.length_cons, List.length_nil, Nat.reduceAdd, Nat.reduceSub, Array.replicate_succ, Array.replicate_zero, List.push_toArray, List.append_toArray, List.nil_append, List.cons_append]
  have hw53 : Fence.wide.fn 49 := trivial
  gi_wp2_with fail
  (with_reducible refine CR.out.mono ?_)
  rintro e w1 ⟨rfl, hb1⟩
  obtain ⟨V, hV, hbV, hq, hz1⟩ := one_box w1
  rw [FC_nul] at hV
  have HQ := Lib.hid hq
  obtain ⟨V2, hV2⟩ : ∃ V2, V.setRow w1.heap.size (FC f) = V2 := ⟨_, rfl⟩
  have H2 := Lib.hid hV2
  have HQ2 := Lib.hid (show HasF V2 w1.heap.size 70 f from by rw [← hV2]; exact HQ.out.store f)
  have hle : w.heap.size ≤ w1.heap.size := by have := HB.out.size; have := hb1.size; omega
  have hB2 : Below w.heap.size w V2 := by rw [← hV2]; exact below_setRow (HB.out.trans ((hb1.trans (hbV.mono hb1.size)).mono HB.out.size)) hle _
  have hl2 : w1.heap.size < V2.heap.size := HQ2.out.lt
  obtain ⟨V3, hV3⟩ : ∃ V3, V2.alloc (.cells #[.slice none 0 0] 37) = V3 := ⟨_, rfl⟩
  have bC : Boxed V3 V2.heap.size 37 (.slice none 0 0) := by rw [← hV3]; exact Boxed.new V2 _ _
  have hB3 : Below w.heap.size w V3 := by rw [← hV3]; exact hB2.alloc (by omega) _
  have HQ3 := Lib.hid (show HasF V3 w1.heap.size 70 f from by rw [← hV3]; exact HQ2.out.below ((Below.refl _ _).alloc (Nat.le_refl _) _) hl2)
  have hz3 : V3.heap.size = V2.heap.size + 1 := by rw [← hV3]; simp
  have HBC := Lib.hid bC
  have HB3 := Lib.hid hB3
  have HZ3 := Lib.hid (And.intro hz3 (And.intro hl2 hle))
  clear hb1 hbV hq hz1 h0 hW hV2 hB2 hB3 hl2 hle bC hz3 CR
  gi_wp2_with (first
    | (refine wpListIn_store_row rfl 70 _ _ rfl w1.heap.size (FC f) rfl rfl 70 (FC nul) HQ.out (infoFC _) (by rw [FC_size, FC_size]) (FC_one _) ?_; rw [H2.out])
    | (refine wpListIn_load_row rfl 70 _ rfl w1.heap.size rfl 70 (FC f) (0, 0) _ HQ3.out Tryd.underlying70 rfl (infoFC f) ?_))
  clear hV hV3
  obtain ⟨B, hBn⟩ : ∃ B, V2.heap.size = B := ⟨_, rfl⟩
  rw [hBn] at HBC HZ3
  rw [hBn]
  clear hBn H2 HQ HQ2
  have e1 : w.heap.size ≤ V3.heap.size := HB3.out.size
  have e2 : w.heap.size ≤ V3.heap.size + 2 := by omega
  have HSq := Lib.hid (show ∀ W1 : World, Below V3.heap.size V3 W1 → SeqBd Fence.wide (5 - 1) Tryd.prog 50 w.heap.size (V3.heap.size + 1) #[.agg (FC f)] encc (fun xs => xs = cellsTo f 24) 1152 W1 from
    fun W1 hB1 => cells_in (5 - 1) (by decide) w.heap.size (V3.heap.size + 1) HT.out.1 f W1 (HT.out.below (HB3.out.trans (hB1.mono e1)) HT.out.1) (Nat.le_trans e1 hB1.size))
  have HOw := Lib.hid (show OwnFrom V3.heap.size (fun (pre : List (Nat × Nat)) W => (∃ v, Boxed W B 37 v ∧ W.ownsRow w.heap.size 23 2 v pre.length (cvs pre) ∧ True) ∧ Below w.heap.size w W) from
    OwnFrom.and (Own.from (holdsRow_own w.heap.size B 37 23 2 (fun (pre : List (Nat × Nat)) => pre.length) cvs (fun _ _ => True)) _) (ownFrom_below (Nat.le_refl _) e1))
  have HIn := Lib.hid (show (∃ v, Boxed V3 B 37 v ∧ V3.ownsRow w.heap.size 23 2 v ([] : List (Nat × Nat)).length (cvs []) ∧ True) ∧ Below w.heap.size w V3 from ⟨⟨_, HBC.out, World.ownsRow_nil _ _ _ _, trivial⟩, HB3.out⟩)
  refine rangeBound rfl (by omega) (gf := 50) (pb := #[.agg (FC f)]) rfl trivial (enters_of Tryd.func50 (by kernel_rfl) rfl) (encs := encc) (S := fun xs => xs = cellsTo f 24) (N := 1152) (fun _ => rfl) w.heap.size e1
    HSq.out
    (fun pre W => (∃ v, Boxed W B 37 v ∧ W.ownsRow w.heap.size 23 2 v pre.length (cvs pre) ∧ True) ∧ Below w.heap.size w W)
    HOw.out
    HIn.out
    (fun x a' W => ∃ q, a' = { tmps := #[.agg #[.slice al n c], .pointer (some ⟨w.heap.size, 0, none⟩), .slice none 0 0, .pointer (some ⟨w1.heap.size, 0, none⟩), .bool o.isSome, .pointer (some ⟨B, 0, none⟩), .pointer (some ⟨q, 0, none⟩),
        .tuple #[.agg (FC f), .bool o.isSome], .agg #[.slice al n c], .tuple #[.agg (FC f), .bool o.isSome], .agg (FC f), .bool o.isSome, .agg (FC f), .func (.func 50) #[.agg (FC f)] #[], CV x.1 x.2, undef, undef, undef, undef, undef], defers := [] } ∧
      V3.heap.size + 2 ≤ q ∧ W.heap[q]? = some (.cells #[iV x.1, iV x.2] 23 (0, 0)))
    (fun x a' A o ⟨q, h1, h2, h3⟩ => ⟨q, h1, h2, (World.putObj_heap_other (by omega)).trans h3⟩) ?assign ?body ?done
  case assign =>
    intro l pre x W K hI hlt hK
    have HK := Lib.hid hK
    clear hK
    gi_wp2
    obtain ⟨⟨v, hv, hrow, -⟩, hB⟩ := hI
    exact HK.out _ _ (KeepsOthers.alloc _ _) ((Below.refl _ _).alloc hB.size _) ⟨⟨v, hv.alloc _, hrow.alloc _, trivial⟩, hB.alloc hB.size _⟩ ⟨W.heap.size, rfl, by omega, heap_new' _ _ _ rfl⟩
  case body =>
    intro l pre xy a' W hI hA hN hlt
    obtain ⟨x, y⟩ := xy
    obtain ⟨⟨v, hv, hrow, -⟩, hB⟩ := hI
    obtain ⟨q, rfl, hq, hqc⟩ := hA
    have hc := hv.cell
    have q0 := (row_cell hqc 0).trans (show _ = some (iV x) from rfl)
    have q1 := (row_cell hqc 1).trans (show _ = some (iV y) from rfl)
    obtain ⟨hi, hz0, hz1, hz2⟩ := HI.out
    have hBz := hB.size
    have hcv := Lib.hid (show cvs (pre ++ [(x, y)]) = cvs pre ++ [iV x, iV y] from cvs_app pre [(x, y)])
    gi_wp2_with (gi_at_builtin; refine wpListIn_append_own _ rfl _ _ 37 rfl w.heap.size 23 i0 (.agg #[.int .i64 0, .int .i64 0]) 2 16 Tryd.underlying37 hi hz0 hz1 hz2 rfl (by decide) _ _ _ rfl (hrow.alloc _) ⟨W.heap.size, 0, none⟩ 1 1 [iV x, iV y] rfl rfl (World.news_of_block (cs := #[iV x, iV y]) (heap_new' W _ _ rfl)) (by simp [Value.oneCell']) (by unfold maxLen; omega) (by omega) (by simp; omega) ?_; intro v' w9 hown' hgrow _; obtain ⟨g', cap', rfl⟩ := ownsRow_succ hown'; obtain ⟨hv1, hv2, hr2, hk2, hb2⟩ := hv.appended (by decide) hrow hBz (by have := HZ3.out; omega) hown' hgrow; have hc1 := hv1.cell; have hf1 := hv1.frozen)
    exact ⟨⟨_, hv2, by rw [hcv.out]; exact hr2⟩, hB.trans hb2⟩
  case done =>
    intro xs W hS hI hD
    obtain ⟨⟨v, hv, hrow, -⟩, hB⟩ := hI
    have HS := Lib.hid hS
    clear hS
    have hc := hv.cell
    have HL := Lib.hid (show xs.length ≤ 1152 from by
      rw [HS.out, cellsTo_len]
      exact sum_le (fun y => cntTo (fun x => f x y) 48) 48 (fun y => cnt_le _ 48) 24)
    obtain ⟨rl, rc, rfl, hcs⟩ := Cs.of_row hrow HL.out
    have hrowX := Lib.hid hrow
    clear hrow
    gi_wp2
    refine ⟨by simp, .inl ⟨_, _, rfl, run_takeDeferred hD, ?_⟩⟩
    refine ⟨_, results_tmp rfl _ _ _, rl, xs.length, rc, rfl, ?_, hB.trans (belowK_b (w := w) (Nat.le_refl _) W V3.heap.size _ _ e1 hD rfl rfl)⟩
    rw [← HS.out]
    exact hcs.put hD
end Go.Proofs.YtbgdlfkeimaaiaaDoor
