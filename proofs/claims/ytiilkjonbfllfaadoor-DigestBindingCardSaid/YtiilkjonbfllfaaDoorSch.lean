/- A block's words, walked. -/
import Derived.Test.YtiilkjonbfllfaaDoorAft
import Derived.Test.YtiilkjonbfllfaaDoorSchM
import Derived.StillTailTactics
import Derived.Laws.Tables
import Derived.Laws.CopyOwn
namespace Go.Proofs.YtiilkjonbfllfaaDoor
open Go.RowKit

abbrev u8V (n : Nat) : Value := .int .u8 (n : Int)
theorem s0_v (x : Nat) (h : x < 4294967296) : bits .xor .u32 (bits .xor .u32 (rotr x 7 : Nat) (rotr x 18 : Nat)) ((x : Int) / 8) = (s0 x : Nat) := by
  have a1 := rotr_lt x 7 h
  have a2 := rotr_lt x 18 h
  rw [u32_xor_nat _ _ a1 a2]
  exact u32_xor_nat _ (x / 8) (Nat.xor_lt_two_pow (n := 32) a1 a2) (by omega)
theorem s1_v (x : Nat) (h : x < 4294967296) : bits .xor .u32 (bits .xor .u32 (rotr x 17 : Nat) (rotr x 19 : Nat)) ((x : Int) / 1024) = (s1 x : Nat) := by
  have a1 := rotr_lt x 17 h
  have a2 := rotr_lt x 19 h
  rw [u32_xor_nat _ _ a1 a2]
  exact u32_xor_nat _ (x / 1024) (Nat.xor_lt_two_pow (n := 32) a1 a2) (by omega)
theorem or_bstep (x y : Nat) (_hx : x < 4294967296) (hy : y < 256) : bits .or .u32 ((x : Int) * 256 % 4294967296) y = (bstep x y : Nat) := by
  have h := u32_or_nat (x * 256 % 4294967296) y (Nat.mod_lt _ (by decide)) (by omega)
  exact h
theorem map_set {f : Nat → Value} (l : List Nat) (i x : Nat) : (l.map f).toArray.setIfInBounds i (f x) = ((l.set i x).map f).toArray := by
  simp [List.map_set]
theorem cells_at {w : World} {g : Nat} {t : TypeId} {l : List Nat} {f : Nat → Value} (h : w.heap[g]? = some (.cells (l.map f).toArray t (0, 0))) {i x : Nat} (hx : l[i]? = some x) : w.cell? ⟨g, i, none⟩ = some (f x) := by
  rw [cell_of_row w g i _ t (0, 0) h]
  simp [hx]
theorem heap_old' (w : World) (o : Obj) (i : Nat) (h : i < w.heap.size) : (w.alloc o).heap[i]? = w.heap[i]? := by
  show (w.heap.push o)[i]? = _
  rw [Array.getElem?_push, if_neg (by omega)]
theorem heap_new' (w : World) (o : Obj) (i : Nat) (h : i = w.heap.size) : (w.alloc o).heap[i]? = some o := by
  subst h
  show (w.heap.push o)[w.heap.size]? = _
  simp
theorem run_index75 (b : List Nat) (i y : Nat) (hi : i < 64) (hy : b[i]? = some y) (w : World) : (Instr.index 75 (.agg (b.map u8V).toArray) (.int .i64 i)).run Tryd.prog w = .ok (u8V y) w := by
  simp [Instr.index, asIntOf, run_underlying Tryd.underlying75, part, hi, hy, go_sem]
theorem info77 : (Tryd.prog.info? 77).map (·.size) = some 64 := by kernel_rfl
theorem info75 : (Tryd.prog.info? 75).map (·.size) = some 64 := by kernel_rfl

/-- A region whose last operation alone writes: the others in the text's order, in the world behind the draw, under a name. -/
theorem region_tail {P : Program} {id : Nat} {Q : Exit → Act → World → Prop} {a : Act} {w : World} {l : List Oper} (n : Nat) (hm : P.follows .mixedOrders = true) (hB : Region.lexTailB .any l.toArray n = true)
    (h : ∀ w2 : World, w2 = w.drew → wpStill P l.toArray w2 (fun a' => wpList P l.toArray Q (l.drop n) a' w2) (l.take n) a) : (Code.region id l.toArray true).wp P Q a w :=
  wp_region_still_tail n hm hB (h _ rfl)

set_option maxRecDepth 100000 in
set_option maxHeartbeats 3000000 in
theorem schedule_any (b : List Nat) (hl : b.length = 64) (hb : ∀ x ∈ b, x < 256) (w : World) :
    Calls Tryd.prog 58 #[.agg (b.map u8V).toArray] w fun e w' => e = .returned (.agg ((wext 48 (words16 b)).map u32V).toArray) ∧ Below w.heap.size w w' := by
  have hl16 := words16_length b
  have hlt16 := words16_lt b hl hb
  have hend := accL_end b hl hb
  generalize words16 b = l at hl16 hlt16 hend ⊢
  have hlL : (wext 48 l).length = 64 := by rw [wext_length, hl16]
  obtain ⟨L, hL⟩ : ∃ L, wext 48 l = L := ⟨_, rfl⟩
  rw [hL] at hlL ⊢
  have HL48 := Lib.hid (show ∀ N, N = 48 → wext N l = L from fun N h => by rw [h]; exact hL); have HlL := Lib.hid hlL; have HE := Lib.hid hend; have H16 := Lib.hid hl16
  clear hL hlL hend hl16
  have H := Lib.hid hl; clear hl
  have HLT := Lib.hid hlt16; have HBB := Lib.hid hb; clear hlt16 hb
  go_enter Tryd.func58, Tryd.ntmps58
  go_wp2_with (refine wpList_load_row rfl 75 _ rfl w.heap.size rfl 75 (b.map u8V).toArray (0, 0) _ ?c1 Tryd.underlying75 rfl (by rw [info75]; simp [H.out]) ?_)
  case c1 =>
    rw [heap_old' _ _ _ (by simp; omega), heap_old' _ _ _ (by simp), heap_new' _ _ _ rfl]
  go_loopw [10] (fun iv wr => ∃ i : Nat, i ≤ 64 ∧ iv = .int .i64 i ∧ wr.heap.size = w.heap.size + 1 + 1 + 1 ∧ wr.heap[w.heap.size + 1 + 1]? = some (.cells ((accL b i).map u32V).toArray 77 (0, 0)) ∧
      (∃ old : Array Value, old.size = 64 ∧ wr.heap[w.heap.size + 1]? = some (.cells old 77 (0, 0))) ∧ Below w.heap.size w wr) (fun iv _ => 64 - (intOf iv).toNat)
  case atStart =>
    refine ⟨0, by omega, rfl, by simp, ?_, ⟨_, ?_, (heap_old' _ _ _ (by simp)).trans (heap_new' _ _ _ (by simp))⟩, (((Below.refl _ _).alloc (Nat.le_refl _) _).alloc (by simp) _).alloc (by simp; omega) _⟩
    · rw [heap_new' _ _ _ (by simp)]; rfl
    · rfl
  case round =>
    obtain ⟨i, hi, rfl, hz, hg, hold, hB⟩ := hrel
    have HZ := Lib.hid hz; have HG := Lib.hid hg; have HO := Lib.hid hold
    clear hz hg hold
    by_cases hlt : i < 64
    · obtain ⟨y, hy⟩ : ∃ y, b[i]? = some y := ⟨b[i]'(by rw [H.out]; exact hlt), List.getElem?_eq_getElem _⟩
      have hy2 : y < 256 := HBB.out y (List.mem_of_getElem? hy)
      have hc := cells_at HG.out (accL_at b i (i / 4) (by omega))
      have hf := frozen_of_row _ _ (i / 4) _ _ HG.out
      have hx := accW_lt b i (i / 4) HBB.out
      have HX := Lib.hid (or_bstep _ y hx hy2)
      have HS := Lib.hid (accL_step b i y hy)
      have hidx := run_index75 b i y hlt hy
      generalize hxx : accW b i (i / 4) = x at hc hx HX HS
      clear hxx
      go_wp2
      refine ⟨⟨i + 1, by omega, by go_num, by simpa using HZ.out, ?_, ?_, hB.setCell (by simp; omega) _⟩, by simp [intOf]; omega⟩
      · rw [HX.out, heap_setCell_same _ _ _ _ _ _ HG.out, HS.out]
        exact congrArg (fun c => some (Obj.cells c 77 (0, 0))) (map_set _ _ _)
      · obtain ⟨old, ho, hh⟩ := HO.out
        exact ⟨old, ho, (heap_setCell_other _ _ _ _ (by simp)).trans hh⟩
    · have HI := Lib.hid (show i = 64 by omega)
      have HG2 := HG.out
      rw [HI.out, HE.out] at HG2
      have hge : (64 : Int) ≤ i := by omega
      clear HI
      clear HG
      have HG := Lib.hid HG2; clear HG2
      go_wp2
      go_loopw [6] (fun iv wr2 => ∃ i : Nat, 16 ≤ i ∧ i ≤ 64 ∧ iv = .int .i64 i ∧ wr2.heap.size = w.heap.size + 1 + 1 + 1 ∧ wr2.heap[w.heap.size + 1 + 1]? = some (.cells ((wext (i - 16) l ++ List.replicate (48 - (i - 16)) 0).map u32V).toArray 77 (0, 0)) ∧
          (∃ old : Array Value, old.size = 64 ∧ wr2.heap[w.heap.size + 1]? = some (.cells old 77 (0, 0))) ∧ Below w.heap.size w wr2) (fun iv _ => 64 - (intOf iv).toNat)
      case atStart => exact ⟨16, by omega, by omega, rfl, HZ.out, HG.out, HO.out, hB⟩
      case round =>
        obtain ⟨i, hi16, hi, rfl, hz2, hg2, hold2, hB2⟩ := hrel
        clear HZ HG HO hB
        have HZ := Lib.hid hz2; have HG := Lib.hid hg2; have HO := Lib.hid hold2
        clear hz2 hg2 hold2
        by_cases hlt : i < 64
        · have HL := Lib.hid (show (wext (i - 16) l).length = i by rw [wext_length, H16.out]; omega)
          have hwl := wext_lt (i - 16) l HLT.out
          have get : ∀ k, k < i → ∃ x, (wext (i - 16) l).getD k 0 = x ∧ x < 4294967296 ∧ wr.cell? ⟨w.heap.size + 1 + 1, k, none⟩ = some (.int .u32 x) := fun k hk => by
            have e : (wext (i - 16) l)[k]? = some ((wext (i - 16) l)[k]'(by rw [HL.out]; exact hk)) := List.getElem?_eq_getElem _
            refine ⟨_, rfl, ?_, ?_⟩
            · rw [List.getD_eq_getElem?_getD, e]; exact hwl _ (List.getElem_mem _)
            · refine cells_at HG.out (f := u32V) ?_
              rw [List.getElem?_append_left (by rw [HL.out]; exact hk), List.getD_eq_getElem?_getD, e]; rfl
          obtain ⟨x16, e16, l16, c16⟩ := get (i - 16) (by omega)
          obtain ⟨x15, e15, l15, c15⟩ := get (i - 15) (by omega)
          obtain ⟨x7, e7, l7, c7⟩ := get (i - 7) (by omega)
          obtain ⟨x2, e2, l2, c2⟩ := get (i - 2) (by omega)
          have HN := Lib.hid (show wnext (wext (i - 16) l) i = (x16 + s0 x15 + x7 + s1 x2) % 4294967296 by unfold wnext; rw [e16, e15, e7, e2])
          clear get e16 e15 e7 e2 hwl
          have hf := frozen_of_row _ _ i _ _ HG.out
          have a15 : IntKind.i64.wrap ((i : Int) - 15) = (i : Int) - 15 := IntWalk.i64_in _ ⟨by omega, by omega⟩
          have b15 : 0 ≤ (i : Int) - 15 := by omega
          have d15 : ((i : Int) - 15).toNat = i - 15 := by omega
          have a2 : IntKind.i64.wrap ((i : Int) - 2) = (i : Int) - 2 := IntWalk.i64_in _ ⟨by omega, by omega⟩
          have b2 : 0 ≤ (i : Int) - 2 := by omega
          have d2 : ((i : Int) - 2).toNat = i - 2 := by omega
          go_wp2
          go_quiet ((go_at_call 70; exact quiet_at (rotate_k _ _ (by assumption) (by decide) (by decide) _)))
          go_wp2
          go_quiet ((go_at_call 70; exact quiet_at2 (rotate_k _ _ (by assumption) (by decide) (by decide) _)))
          go_wp2
          have a16 : IntKind.i64.wrap ((i : Int) - 16) = (i : Int) - 16 := IntWalk.i64_in _ ⟨by omega, by omega⟩
          have b16 : 0 ≤ (i : Int) - 16 := by omega
          have d16 : ((i : Int) - 16).toNat = i - 16 := by omega
          have a7 : IntKind.i64.wrap ((i : Int) - 7) = (i : Int) - 7 := IntWalk.i64_in _ ⟨by omega, by omega⟩
          have b7 : 0 ≤ (i : Int) - 7 := by omega
          have d7 : ((i : Int) - 7).toNat = i - 7 := by omega
          have u16 : (i : Int) - 16 < 64 := by omega
          have u7 : (i : Int) - 7 < 64 := by omega
          have ui : (i : Int) < 64 := by omega
          refine region_tail 15 (by kernel_rfl) (by kernel_rfl) ?_
          intro w2 hw2
          have g16 : w2.cell? ⟨w.heap.size + 1 + 1, i - 16, none⟩ = some (.int .u32 x16) := by rw [hw2]; exact c16
          have g7 : w2.cell? ⟨w.heap.size + 1 + 1, i - 7, none⟩ = some (.int .u32 x7) := by rw [hw2]; exact c7
          have gi : w2.cell? ⟨w.heap.size + 1 + 1, i, none⟩ = some (.int .u32 0) := by
            rw [hw2]
            refine cells_at HG.out (f := u32V) (x := 0) ?_
            rw [List.getElem?_append_right (by rw [HL.out]; omega), HL.out, List.getElem?_replicate, if_pos (by omega)]
          have gf : w2.frozen? ⟨w.heap.size + 1 + 1, i, none⟩ = false := by rw [hw2]; exact hf
          have HZ2 := Lib.hid (show w2.heap.size = w.heap.size + 1 + 1 + 1 by rw [hw2]; exact HZ.out)
          have HG2 := Lib.hid (show w2.heap[w.heap.size + 1 + 1]? = some (.cells ((wext (i - 16) l ++ List.replicate (48 - (i - 16)) 0).map u32V).toArray 77 (0, 0)) by rw [hw2]; exact HG.out)
          have HO2 := Lib.hid (show ∃ old : Array Value, old.size = 64 ∧ w2.heap[w.heap.size + 1]? = some (.cells old 77 (0, 0)) by rw [hw2]; exact HO.out)
          have hB3 : Below w.heap.size w w2 := by rw [hw2]; exact (below_drewN (below_drewN hB2 _) _).drew
          clear hw2 hB2 HZ HG HO c16 c7 c15 c2 hf
          simp only [List.take_succ_cons, List.take_zero, List.drop_succ_cons, List.drop_zero]
          have v16 : (16 : Int) ≤ i := by omega
          have v7 : (7 : Int) ≤ i := by omega
          repeat still_step
          refine wpStill_nil ?_
          go_wp2
          refine ⟨⟨i + 1, by omega, by omega, by go_num, by simpa using HZ2.out, ?_, ?_, hB3.setCell (by simp; omega) _⟩, by simp [intOf]; omega⟩
          · rw [s0_v _ l15, s1_v _ l2, heap_setCell_same _ _ _ _ _ _ HG2.out]
            have e := wext_step (i - 16) l H16.out (by omega)
            rw [show i - 16 + 1 = i + 1 - 16 by omega, show 16 + (i - 16) = i by omega, HN.out] at e
            rw [e]
            exact congrArg (fun c => some (Obj.cells c 77 (0, 0))) (map_set (f := u32V) _ _ _)
          · obtain ⟨old, ho, hh⟩ := HO2.out
            exact ⟨old, ho, (heap_setCell_other _ _ _ _ (by simp)).trans hh⟩
        · have hge2 : (64 : Int) ≤ i := by omega
          have HG2 := Lib.hid (show wr.heap[w.heap.size + 1 + 1]? = some (.cells (L.map u32V).toArray 77 (0, 0)) by
            have h := HG.out
            rw [HL48.out (i - 16) (by omega), show 48 - (i - 16) = 0 by omega] at h
            simpa using h)
          obtain ⟨old, ho, hh⟩ := HO.out
          have HH := Lib.hid hh; have HO1 := Lib.hid ho
          clear hh ho HG HO HL48 HE
          go_wp2_with (first
            | (refine wpList_load_row rfl 77 _ rfl (w.heap.size + 1 + 1) rfl 77 (L.map u32V).toArray (0, 0) _ HG2.out Tryd.underlying77 rfl (by rw [info77]; simp [HlL.out]) ?_)
            | (refine wpList_store_row rfl 77 _ _ rfl (w.heap.size + 1) (L.map u32V).toArray rfl rfl 77 old HH.out (by rw [info77]; simp [HlL.out]) (by rw [HO1.out]; simp [HlL.out]) (by simp [Value.oneCell']) ?_))
          refine bodyPost_ret (v := .agg (L.map u32V).toArray) (results_cell_row rfl _ _ (w.heap.size + 1) 77 _ (0, 0) _ rfl (setRow_heap _ _ _ _ _ _ HH.out) Tryd.underlying77 rfl (by rw [info77]; simp [HlL.out])) rfl ⟨rfl, below_setRow hB2 (by omega) _⟩
end Go.Proofs.YtiilkjonbfllfaaDoor
