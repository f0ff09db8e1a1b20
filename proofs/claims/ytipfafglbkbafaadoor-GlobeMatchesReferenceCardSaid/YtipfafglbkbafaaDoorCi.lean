/- The iterator over the cells of a field, walked. -/
import Derived.Test.YtipfafglbkbafaaDoorRb
namespace Go.Proofs.YtipfafglbkbafaaDoor
open Go.RowKit Go.Shelf
attribute [local go_sem] Oper.semAt_some
set_option linter.unusedVariables false
set_option linter.unusedSimpArgs false
section
variable {F : Fence} {n : Nat} {P : Program} {ops : Array Oper} {rest : List Oper} {o : Oper} {a : Act} {w : World} {Q : Exit → Act → World → Prop}
theorem op_load_row (ty : TypeId) (x : Operand) (ho : o.op = .load ty x)
    (g : Nat) (hx : a.eval x = .pointer (some ⟨g, 0, none⟩)) (t : TypeId) (cs : Array Value) (fr : Nat × Nat) (d : TypeDesc) (hg : w.heap[g]? = some (.cells cs t fr))
    (hu : P.underlying ty = some d) (hd : (match d with | .struct _ | .array _ _ => true | _ => false) = true) (hi : (P.info? ty).map (·.size) = some cs.size) {K : Act → World → Prop}
    (h : K (a.put o.dst (.agg cs)) w) : o.wpIn F n P a w K Q := by
  have hrun := run_loadVar_row (P := P) w g t ty cs fr d hg hu hd hi
  unfold Oper.wpIn
  refine ⟨?_, ?_⟩
  · simp [Oper.about, ho]
  · rw [Oper.semAt_plain F _ _ (by rw [ho]; intro c hc'; cases hc')]
    simp only [execOp, ho, hx, Instr.loadAt, Instr.sureAddr, Sem.run_bind, Sem.run_pure, Result.andThen_ok, hrun]
    exact h
theorem wpListIn_load_row (hgd : o.guard = none) (ty : TypeId) (x : Operand) (ho : o.op = .load ty x)
    (g : Nat) (hx : a.eval x = .pointer (some ⟨g, 0, none⟩)) (t : TypeId) (cs : Array Value) (fr : Nat × Nat) (d : TypeDesc) (hg : w.heap[g]? = some (.cells cs t fr))
    (hu : P.underlying ty = some d) (hd : (match d with | .struct _ | .array _ _ => true | _ => false) = true) (hi : (P.info? ty).map (·.size) = some cs.size)
    (h : wpListIn F n P ops Q rest (a.put o.dst (.agg cs)) w) : wpListIn F n P ops Q (o :: rest) a w :=
  wpListIn_plain hgd fun _ hK => op_load_row ty x ho g hx t cs fr d hg hu hd hi (hK _ _ h)
end
theorem cellsTo_len (f : Ar) : ∀ n, (cellsTo f n).length = sumTo (fun y => cntTo (fun x => f x y) 48) n
  | 0 => rfl
  | n + 1 => by
    show (cellsTo f n ++ rowCells f n 48).length = cntTo (fun x => f x n) 48 + _
    rw [List.length_append, cellsTo_len f n, rowCells_len]
    omega
abbrev encc (p : Nat × Nat) : Array Value := #[CV p.1 p.2]
theorem and_less {r : Nat} (hr : r < 281474976710656) (h1 : 1 ≤ r) : bits .and .i64 (r : Int) ((r : Int) - 1) = ((r &&& (r - 1) : Nat) : Int) := by
  rw [show (r : Int) - 1 = ((r - 1 : Nat) : Int) by omega]
  exact i64_and_nat r (r - 1) (by omega) (by omega)
set_option maxRecDepth 100000 in
set_option maxHeartbeats 2000000 in
theorem cells_in (n : Nat) (hn : 1 ≤ n) (n0 l : Nat) (hn0 : 1 < n0) (f : Ar) (W1 : World) (hT : Tab W1) (hz0 : n0 ≤ W1.heap.size) : SeqBd Fence.wide n Tryd.prog 55 n0 l #[FV f] encc (fun xs => xs = cellsTo f 24) 1152 W1 := by
  intro J hJ hY h0
  refine callsIn_of_wp Tryd.func55 rfl trivial ?_ rfl
  simp only [Tryd.ntmps55, List.size_toArray, List.length_cons, List.length_nil, Nat.reduceAdd, Nat.reduceSub, Array.replicate_succ, Array.replicate_zero, List.push_toArray, List.append_toArray, List.nil_append, List.cons_append]
  rw [FV_eq]
  obtain ⟨V, hV⟩ : ∃ V, W1.alloc (.cells (FC f) 62) = V := ⟨_, rfl⟩
  have HF := Lib.hid (show HasF V W1.heap.size 62 f from by rw [← hV]; exact heap_new' _ _ _ rfl)
  have HJ := Lib.hid (show J [] V from by rw [← hV]; exact hJ _ _ _ h0)
  have HT := Lib.hid (show Tab V from by rw [← hV]; exact hT.below ((Below.refl _ _).alloc (Nat.le_refl _) _) hT.1)
  have HY := Lib.hid hY
  clear hY hJ h0 hT hz0
  gi_wp2_with (refine wpListIn_load_row rfl 62 _ rfl W1.heap.size rfl 62 (FC f) (0, 0) _ HF.out Tryd.underlying62 rfl (infoFC f) ?_)
  clear hV HF
  gi_loopw [8] (fun iv wr => ∃ y : Nat, y ≤ 24 ∧ iv = .int .i64 y ∧ J (cellsTo f y) wr ∧ Tab wr) (fun iv _ => 24 - (intOf iv).toNat)
  case atStart => exact ⟨0, by omega, rfl, HJ.out, HT.out⟩
  case round =>
    obtain ⟨y, hy, rfl, hJ, hT⟩ := hrel
    clear HJ HT
    have HJ := Lib.hid hJ; have HT := Lib.hid hT
    clear hJ hT
    have y0 : (0 : Int) ≤ y := by omega
    by_cases hlt : y < 24
    · have y1 : (y : Int) < 24 := by omega
      have hx := run_index62 f y hlt
      have HR := Lib.hid (show rowOf f y = from_ (fun x => f x y) 0 from (from_0 _).symm)
      generalize rowOf f y = r0 at hx HR
      gi_wp2
      clear hx
      gi_loopw [6] (fun rv wr => ∃ k : Nat, k ≤ 48 ∧ rv = .int .i64 (from_ (fun x => f x y) k : Nat) ∧ J (cellsTo f y ++ rowCells f y k) wr ∧ Tab wr) (fun rv _ => (intOf rv).toNat)
      case atStart => exact ⟨0, by omega, by rw [HR.out], by simpa [rowCells] using HJ.out, HT.out⟩
      case round =>
        obtain ⟨k, hk, rfl, hJ, hT⟩ := hrel
        clear HJ HT
        have HJ := Lib.hid hJ; have HT := Lib.hid hT
        clear hJ hT
        by_cases hz : from_ (fun x => f x y) k = 0
        · have HE := Lib.hid (show J (cellsTo f (y + 1)) wr from by
            have e : cellsTo f (y + 1) = cellsTo f y ++ rowCells f y 48 := rfl
            rw [e, rowCells_skip f y (t := 48) hk (fun x h1 h2 => from_zero hz x h2 h1)]
            exact HJ.out)
          rw [hz]
          have hb1 : (((0 : Nat) : Int) == 0) = true := by decide
          clear hz HJ
          gi_wp2
          exact ⟨⟨y + 1, by omega, by go_num, HE.out, HT.out⟩, by simp [intOf]; omega⟩
        · obtain ⟨t, ht, ht48, hkt, hft, hbt, hst, h1⟩ := from_step hz
          have hlt48 := from_lt (fun x => f x y) k
          have hlt2 := from_lt (fun x => f x y) (t + 1)
          have HN := Lib.hid (rowCells_next f y hkt (fun x a b => hbt x a b) hft)
          have C := Lib.hid (fun W (hT : Tab W) => (callsIn_wide (n := n - 1)).2 (tz_any (from_ (fun x => f x y) k) (by omega) hz W hT))
          simp only [ht] at C
          have HL := Lib.hid (and_less hlt48 h1)
          have hlen : (cellsTo f y ++ rowCells f y k).length < 1152 := by
            rw [List.length_append, cellsTo_len, rowCells_len]
            have h1 := sum_le (fun y => cntTo (fun x => f x y) 48) 48 (fun y => cnt_le _ 48) y
            have h2 := cnt_le (fun x => f x y) k
            omega
          have HY1 := HY.out (cellsTo f y ++ rowCells f y k) (t, y) wr HJ.out hlen
          clear hlen
          have HM := Lib.hid (show from_ (fun x => f x y) (t + 1) < from_ (fun x => f x y) k from by
            rw [← hst]
            have := Nat.and_le_right (n := from_ (fun x => f x y) k) (m := from_ (fun x => f x y) k - 1)
            omega)
          rw [hst] at HL
          clear hst ht hft hbt
          generalize hr : from_ (fun x => f x y) k = r at *
          generalize hr2 : from_ (fun x => f x y) (t + 1) = r2 at *
          have HR2 := Lib.hid hr2
          clear hr hr2
          have hb1 : ((r : Int) == 0) = false := by simpa using hz
          have hb2 : ((r : Int) != 0) = true := by simpa using hz
          have hr1 : (1 : Int) ≤ r := by omega
          have hr3 : (r : Int) < 281474976710656 := by omega
          obtain ⟨fn, tmps, assign, body, hyy, hR⟩ := HY1
          dsimp only [encc] at hyy
          have hw71 : Fence.wide.fn 71 := trivial
          clear hz h1
          gi_wp2_with (gi_at_call 71; (with_reducible refine (C.out _ HT.out).mono ?_); rintro e w' ⟨rfl, rfl⟩)
          refine hR.mono ?_
          rintro e W3 ⟨rfl, hJ3, hb3⟩
          have HJ3 := Lib.hid hJ3
          have HT3 := Lib.hid (HT.out.below hb3 hn0)
          clear hJ3 hb3 hyy
          gi_wp2
          refine ⟨⟨t + 1, by omega, ?_, by rw [HN.out, ← List.append_assoc]; exact HJ3.out, HT3.out⟩, ?_⟩
          · rw [HL.out, HR2.out]
          · simp only [intOf]; rw [HL.out]; have := HM.out; omega
    · obtain rfl : y = 24 := by omega
      gi_wp2
      refine bodyPost_end (results_none rfl _ _ _) rfl ?_
      exact ⟨⟨_, rfl⟩, _, rfl, HJ.out⟩
end Go.Proofs.YtipfafglbkbafaaDoor
