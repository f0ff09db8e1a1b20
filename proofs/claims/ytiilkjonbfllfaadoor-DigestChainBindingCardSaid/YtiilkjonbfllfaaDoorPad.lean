/- The padding, walked. -/
import Derived.Test.YtiilkjonbfllfaaDoorByt
import Derived.OwnWalk
import Derived.WalkSmall
import Derived.Laws.OwnMore
namespace Go.Proofs.YtiilkjonbfllfaaDoor
open Go.RowKit

theorem blk_of_own {w : World} {base g n : Nat} {e : TypeId} {xs : List Value} (h : w.ownsRow base e 1 (.slice (some ⟨g, 0, none⟩) n n) n xs) : w.heap[g]? = some (.cells xs.toArray e (0, 0)) := by
  rcases h.2 with ⟨h', _⟩ | ⟨g', cap', cur, h', _, hg, _, _, hs, ht⟩
  · simp at h'
  · simp only [Value.slice.injEq, Option.some.injEq, Addr.mk.injEq, and_true, true_and] at h'
    obtain ⟨rfl, rfl⟩ := h'
    rw [hg, ← ht, List.take_of_length_le (by simp; omega)]
theorem made_bytes (w w1 : World) (n : Nat) (h : w1.ownsRow w.heap.size 5 1 (.slice (some ⟨w.heap.size, 0, none⟩) n n) n (madeCells (Value.int IntKind.u8 0).cells (n * 1)).toList) (hg : w.grownBy w1 none) :
    Hid (w1.heap[w.heap.size]? = some (.cells ((List.replicate n 0).map u8V).toArray 5 (0, 0))) ∧ Below w.heap.size w w1 := by
  refine ⟨Lib.hid ?_, (Below.refl _ _).grown hg (Nat.le_refl _) (by simp)⟩
  rw [blk_of_own h, show (Value.int IntKind.u8 0).cells = #[.int .u8 0] from rfl, toList_madeCells_one, Nat.mul_one, List.map_replicate]
  rfl
theorem info5 : (Tryd.prog.info? 5).map (fun i => (i.zero, i.size, i.bytes)) = some (some (.int .u8 0), 1, 1) := by kernel_rfl
def zer (n : Nat) : Nat := (119 - n % 64) % 64
/-- The padding when k of the length's bytes are laid. -/
def padP (n k : Nat) : List Nat := 128 :: List.replicate (zer n) 0 ++ ((List.range k).map fun i => 8 * n / 2 ^ (8 * (7 - i)) % 256) ++ List.replicate (8 - k) 0
theorem padP_length (n k : Nat) (h : k ≤ 8) : (padP n k).length = 1 + zer n + 8 := by simp [padP]; omega
theorem padP_step (n k : Nat) (h : k < 8) : padP n (k + 1) = (padP n k).set (1 + zer n + k) (8 * n / 2 ^ (8 * (7 - k)) % 256) := by
  unfold padP
  rw [List.set_append_right _ _ (by simp; omega)]
  simp only [List.length_append, List.length_cons, List.length_replicate, List.length_map, List.length_range]
  rw [show 1 + zer n + k - (zer n + 1 + k) = 0 by omega, show 8 - k = (8 - (k + 1)) + 1 by omega, List.replicate_succ, List.set_cons_zero, List.range_succ, List.map_append, List.append_assoc, List.append_assoc]
  simp
theorem padP_end (n : Nat) : padP n 8 = pad n := by simp [padP, pad, zer]

set_option maxRecDepth 100000 in
set_option maxHeartbeats 1000000 in
theorem padding_any (n : Nat) (hn : n ≤ 1000000) (w : World) :
    Calls Tryd.prog 55 #[.int .i64 n] w fun e w' => e = .returned (.string (strN (pad n))) ∧ Below w.heap.size w w' := by
  obtain ⟨i0, hi, hz0, hz1, hz2⟩ := info_parts info5
  have hzl : zer n < 64 := Nat.mod_lt _ (by decide)
  have hze : (119 - (n : Int) % 64) % 64 = (zer n : Nat) := by unfold zer; omega
  have HE := Lib.hid (show ∀ k, k = 8 → padP n k = pad n from fun k h => by rw [h]; exact padP_end n)
  have HS := Lib.hid (padP_step n)
  have HLn := Lib.hid (padP_length n)
  have H0 := Lib.hid (show ∀ k, k = 0 → padP n k = 128 :: List.replicate (zer n + 8) 0 from fun k h => by rw [h]; simp only [padP, List.range_zero, List.map_nil, List.append_nil, Nat.sub_zero, List.cons_append]; rw [List.replicate_append_replicate])
  generalize padP n = pP at *
  generalize pad n = pd at *
  generalize zer n = z at *
  go_enter Tryd.func55, Tryd.ntmps55
  go_wp2_with (at_make
               refine wpList_make_full _ rfl _ _ 43 rfl w.heap.size 5 i0 (.int .u8 0) 1 Tryd.underlying43 hi hz0 hz1 .i64 .i64 _ _ (1 + z + 8) rfl rfl (by omega) (by omega) (by rw [hz2]; omega) (by unfold maxLen; omega) (Nat.le_refl _) ?_
               intro w1 hown hgrow
               obtain ⟨HK, hB1⟩ := made_bytes w w1 (1 + z + 8) hown hgrow
               have hc0 := cells_at HK.out (i := 0) (x := 0) (by rw [List.getElem?_replicate, if_pos (by omega)])
               have hf0 := frozen_of_row _ _ 0 _ _ HK.out
               clear hown hgrow)
  go_loopw [16] (fun iv wr => ∃ k : Nat, k ≤ 8 ∧ iv = .int .i64 k ∧ wr.heap[w.heap.size]? = some (.cells ((pP k).map u8V).toArray 5 (0, 0)) ∧ Below w.heap.size w wr) (fun iv _ => 8 - (intOf iv).toNat)
  case atStart =>
    refine ⟨0, by omega, rfl, ?_, hB1.setCell (Nat.le_refl _) _⟩
    rw [heap_setCell_same _ _ _ _ _ _ HK.out, H0.out 0 rfl]
    refine congrArg (fun c => some (Obj.cells c 5 (0, 0))) ((map_set (f := u8V) _ 0 128).trans ?_)
    rw [show 1 + z + 8 = (z + 8) + 1 by omega, List.replicate_succ]; rfl
  case round =>
    obtain ⟨k, hk, rfl, hg, hB⟩ := hrel
    have HW := Lib.hid hg
    clear hg
    by_cases hlt : k < 8
    · obtain ⟨x, hx⟩ : ∃ x, (pP k)[1 + z + k]? = some x := ⟨(pP k)[1 + z + k]'(by rw [HLn.out k hk]; omega), List.getElem?_eq_getElem _⟩
      have hc := cells_at (f := u8V) HW.out hx
      have hf := frozen_of_row _ _ (1 + z + k) _ _ HW.out
      have hsh : (8 * (7 - (k : Int))).toNat = 8 * (7 - k) := by omega
      have hsh0 : 0 ≤ 8 * (7 - (k : Int)) := by omega
      clear hx
      go_wp2
      refine ⟨⟨k + 1, by omega, by go_num, ?_, hB.setCell (Nat.le_refl _) _⟩, by simp [intOf]; omega⟩
      rw [heap_setCell_same _ _ _ _ _ _ HW.out, HS.out k (by omega)]
      refine Eq.trans ?_ (congrArg (fun c => some (Obj.cells c 5 (0, 0))) (map_set (f := u8V) (pP k) (1 + z + k) (8 * n / 2 ^ (8 * (7 - k)) % 256)))
      rw [show (u8V (8 * n / 2 ^ (8 * (7 - k)) % 256)) = Value.int IntKind.u8 (8 * (n : Int) / 2 ^ (8 * (7 - k)) % 256) by simp [u8V]]
    · have hge : (8 : Int) ≤ k := by omega
      have hlen := HLn.out k hk
      have hcell : ∀ j, j < 1 + z + 8 → wr.cell? ⟨w.heap.size, 0 + j, none⟩ = some (.int .u8 (((pP k).map fun n : Nat => (n : Int)).getD j 0)) := fun j hj => by
        have e : (pP k)[j]? = some ((pP k).getD j 0) := by rw [List.getD_eq_getElem?_getD, List.getElem?_eq_getElem (by omega)]; rfl
        rw [Nat.zero_add, cells_at HW.out e, getD_cast]
      have hcv := run_convert_bytes_arg (P := Tryd.prog) wr 43 5 Tryd.underlying43 Tryd.underlying5 w.heap.size 0 (1 + z + 8) (1 + z + 8) ((pP k).map fun n : Nat => (n : Int)) (by rw [List.length_map]; exact hlen) hcell 9 Tryd.underlying9
      rw [strOfNums_nat, HE.out k (by omega)] at hcv
      clear hcell hlen
      go_wp2
      go_ret
      exact ⟨rfl, hB⟩
end Go.Proofs.YtiilkjonbfllfaaDoor
