/- The height, walked: a loop over two functions. -/
import Derived.Test.YtbgdlfkeimaaiaaDoorSb
namespace Go.Proofs.YtbgdlfkeimaaiaaDoor
open Go.RowKit
set_option linter.unusedSimpArgs false
set_option linter.unusedVariables false
theorem run_ds0 (w : World) : (Instr.index 67 DsV (iV 0)).run Tryd.prog w = .ok (.func (.func 52) #[] #[]) w := by
  simp [Instr.index, asIntOf, run_underlying Tryd.underlying67, part, go_sem]
theorem run_ds1 (w : World) : (Instr.index 67 DsV (iV 1)).run Tryd.prog w = .ok (.func (.func 55) #[] #[]) w := by
  simp [Instr.index, asIntOf, run_underlying Tryd.underlying67, part, go_sem]
theorem sumD_0 (x y t : Nat) (h : acrN x t ≤ 48000) : wrap64 ((sumD x y t 0 : Int) + (acrN x t : Int)) = (sumD x y t (0 + 1) : Nat) := by
  have e : sumD x y t 0 = 0 := rfl
  have e1 : sumD x y t (0 + 1) = acrN x t := rfl
  rw [e, e1, wrap64]
  omega
theorem sumD_1 (x y t : Nat) (h : acrN x t + alnN y t ≤ 48000) : wrap64 ((sumD x y t (0 + 1) : Int) + (alnN y t : Int)) = (sumD x y t (0 + 1 + 1) : Nat) := by
  have e : sumD x y t (0 + 1) = acrN x t := rfl
  have e1 : sumD x y t (0 + 1 + 1) = acrN x t + alnN y t := rfl
  rw [e, e1, wrap64]
  omega
theorem ret_i {k : IntKind} {a b : Int} (h : a = b) : Value.int k a = .int k b := by rw [h]
set_option maxRecDepth 100000 in
set_option maxHeartbeats 1000000 in
theorem height_any (x y t : Nat) (hx : x < 48) (hy : y < 24) (ht : t ≤ 1000000) (w : World) :
    Calls Tryd.prog 39 #[CV x y, iV t] w fun e w' => e = .returned (.int .i64 (hgt x y t)) ∧ Below w.heap.size w w' := by
  have a1 := acrN_le x t hx
  have a2 := alnN_le y t hy
  have HA := Lib.hid (And.intro a1 a2)
  obtain ⟨V, hV⟩ : ∃ V, w.alloc (.cells #[.int .i64 (x : Int), .int .i64 (y : Int)] 23) = V := ⟨_, rfl⟩
  have hg : V.heap[w.heap.size]? = some (.cells #[.int .i64 (x : Int), .int .i64 (y : Int)] 23 (0, 0)) := by rw [← hV]; exact heap_new' _ _ _ rfl
  have hB := Lib.hid (show Below w.heap.size w V from by rw [← hV]; exact (Below.refl _ _).alloc (Nat.le_refl _) _)
  have HG := Lib.hid hg
  have HE := Lib.hid (deg_int (acrN x t + alnN y t) (by omega))
  clear hg a1 a2
  go_enter Tryd.func39, Tryd.ntmps39
  go_wp2_with (go_at_call 47; (with_reducible refine (dists_any _).mono ?_); rintro e w1 ⟨rfl, hb1⟩)
  have HB1 := Lib.hid (hB.out.trans (hb1.mono (by have := hB.out.size; omega)))
  have HG1 := Lib.hid ((hb1.block w.heap.size (Array.getElem?_eq_some_iff.1 HG.out).1).trans HG.out)
  clear hb1 hV HG hB
  go_loopw [5, 9] (fun d i wr => ∃ k : Nat, k ≤ 2 ∧ i = iV k ∧ d = iV (sumD x y t k) ∧ Below w.heap.size w wr ∧ wr.heap[w.heap.size]? = some (.cells #[.int .i64 (x : Int), .int .i64 (y : Int)] 23 (0, 0))) (fun _ i _ => 2 - (intOf i).toNat)
  case atStart => exact ⟨0, by omega, rfl, rfl, HB1.out, HG1.out⟩
  case round =>
    obtain ⟨k, hk, rfl, rfl, hB, hG⟩ := hrel
    have c0 := (row_cell hG 0).trans (show _ = some (.int .i64 (x : Int)) from rfl)
    have c1 := (row_cell hG 1).trans (show _ = some (.int .i64 (y : Int)) from rfl)
    clear HB1 HG1
    have HG := Lib.hid hG
    have HB := Lib.hid hB
    clear hG hB
    rcases k with _ | _ | _ | k
    · have hx0 := run_ds0 wr
      go_wp2_with fail
      clear hx0
      (with_reducible refine (d1_any x y t hx hy ht _).mono ?_)
      rintro e w2 ⟨rfl, hb2⟩
      have HB2 := Lib.hid (HB.out.trans (hb2.mono HB.out.size))
      have HG2 := Lib.hid ((hb2.block w.heap.size (Array.getElem?_eq_some_iff.1 HG.out).1).trans HG.out)
      have h0 : (0 : Int) ≤ acrN x t := by omega
      have h1 := HA.out.1
      clear hb2 c0 c1
      go_wp2
      go_roundw
      case rel => exact ⟨1, by omega, rfl, ret_i (sumD_0 x y t (by have := HA.out; omega)), HB2.out, HG2.out⟩
      case measure => simp [intOf]
    · have hx0 := run_ds1 wr
      go_wp2_with fail
      clear hx0
      (with_reducible refine (d2_any x y t hx hy ht _).mono ?_)
      rintro e w2 ⟨rfl, hb2⟩
      have HB2 := Lib.hid (HB.out.trans (hb2.mono HB.out.size))
      have HG2 := Lib.hid ((hb2.block w.heap.size (Array.getElem?_eq_some_iff.1 HG.out).1).trans HG.out)
      have h0 : (0 : Int) ≤ alnN y t := by omega
      have h1 := HA.out.2
      clear hb2 c0 c1
      go_wp2
      go_roundw
      case rel => exact ⟨2, by omega, rfl, ret_i (sumD_1 x y t (by have := HA.out; omega)), HB2.out, HG2.out⟩
      case measure => simp [intOf]
    · have h0 : (0 : Int) ≤ sumD x y t 2 := by omega
      have h1 : sumD x y t 2 ≤ 48000 := by show acrN x t + alnN y t ≤ 48000; have := HA.out; omega
      clear c0 c1
      go_wp2
      all_goals
        go_ret
        exact ⟨ret_int' (by have e := HE.out; have s : sumD x y t 2 = acrN x t + alnN y t := rfl; show _ = degZ (acrN x t + alnN y t); omega), HB.out⟩
    · omega
end Go.Proofs.YtbgdlfkeimaaiaaDoor
