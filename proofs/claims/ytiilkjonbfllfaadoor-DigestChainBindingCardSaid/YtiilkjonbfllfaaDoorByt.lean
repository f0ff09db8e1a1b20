/- The digest's bytes, walked. -/
import Derived.Test.YtiilkjonbfllfaaDoorSch
import Derived.Laws.BytesArg
namespace Go.Proofs.YtiilkjonbfllfaaDoor
open Go.RowKit

/-- A string of numbers. -/
def strN (l : List Nat) : ByteArray := ⟨(l.map UInt8.ofNat).toArray⟩
theorem strOfNums_nat (l : List Nat) : strOfNums (l.map fun n : Nat => (n : Int)) = strN l := by
  unfold strOfNums strN
  congr 2
  rw [List.map_map]; rfl
theorem getD_cast (l : List Nat) (k : Nat) : (l.map fun n : Nat => (n : Int)).getD k 0 = ((l.getD k 0 : Nat) : Int) := by
  rw [List.getD_eq_getElem?_getD, List.getD_eq_getElem?_getD, List.getElem?_map]
  cases l[k]? <;> rfl
def digP (s : St) (i : Nat) : List Nat := (List.range i).map (digB s) ++ List.replicate (32 - i) 0
theorem digP_step (s : St) (i : Nat) (h : i < 32) : digP s (i + 1) = (digP s i).set i (digB s i) := by
  unfold digP
  rw [List.set_append_right _ _ (by simp), List.length_map, List.length_range, Nat.sub_self, show 32 - i = (32 - (i + 1)) + 1 by omega, List.replicate_succ, List.set_cons_zero, List.range_succ, List.map_append, List.append_assoc]
  rfl
theorem digP_at (s : St) (i : Nat) (h : i < 32) : (digP s i)[i]? = some 0 := by
  unfold digP
  rw [List.getElem?_append_right (by simp), List.length_map, List.length_range, Nat.sub_self, show 32 - i = (32 - (i + 1)) + 1 by omega, List.replicate_succ]
  rfl
theorem digP_end (s : St) : digP s 32 = digL s := by simp [digP, digL]
theorem digL_length (s : St) : (digL s).length = 32 := by simp [digL]

set_option maxRecDepth 100000 in
set_option maxHeartbeats 1000000 in
theorem bytes_any (s : St) (hs : s.ok) (w : World) :
    Calls Tryd.prog 59 #[.agg (s.l.map u32V).toArray] w fun e w' => e = .returned (.string (strN (digL s))) ∧ Below w.heap.size w w' := by
  have hsl : s.l.length = 8 := rfl
  have hget : ∀ k, k < 8 → s.l[k]? = some (s.l.getD k 0) := fun k hk => by
    rw [List.getD_eq_getElem?_getD, List.getElem?_eq_getElem (by omega)]; rfl
  have hlt : ∀ k, k < 8 → s.l.getD k 0 < 4294967296 := fun k hk => by
    obtain ⟨h0, h1, h2, h3, h4, h5, h6, h7⟩ := hs
    match k, hk with
    | 0, _ => exact h0
    | 1, _ => exact h1
    | 2, _ => exact h2
    | 3, _ => exact h3
    | 4, _ => exact h4
    | 5, _ => exact h5
    | 6, _ => exact h6
    | 7, _ => exact h7
  have HD := Lib.hid (show ∀ i, digB s i = s.l.getD (i / 4) 0 / 2 ^ (8 * (3 - i % 4)) % 256 from fun _ => rfl)
  have HE := Lib.hid (show ∀ n, n = 32 → digP s n = digL s from fun n h => by rw [h]; exact digP_end s)
  have HS := Lib.hid (digP_step s)
  have HA := Lib.hid (digP_at s)
  have H0 := Lib.hid (show ∀ n, n = 0 → digP s n = List.replicate 32 0 from fun n h => by rw [h]; rfl)
  have HDL := Lib.hid (digL_length s)
  have HG := Lib.hid hget; have HL := Lib.hid hlt; have HSL := Lib.hid hsl
  clear hget hlt hsl hs
  generalize digB s = dB at *
  generalize digP s = dP at *
  generalize digL s = dL at *
  generalize s.l = sl at *
  go_enter Tryd.func59, Tryd.ntmps59
  go_wp2
  go_loopw [5] (fun iv wr => ∃ i : Nat, i ≤ 32 ∧ iv = .int .i64 i ∧ wr.heap.size = w.heap.size + 1 + 1 ∧ wr.heap[w.heap.size + 1]? = some (.cells ((dP i).map u8V).toArray 90 (0, 0)) ∧
      wr.heap[w.heap.size]? = some (.cells (sl.map u32V).toArray 69 (0, 0)) ∧ Below w.heap.size w wr) (fun iv _ => 32 - (intOf iv).toNat)
  case atStart =>
    refine ⟨0, by omega, rfl, by simp, ?_, (heap_old' _ _ _ (by simp)).trans (heap_new' _ _ _ rfl), ((Below.refl _ _).alloc (Nat.le_refl _) _).alloc (by simp) _⟩
    rw [heap_new' _ _ _ (by simp), H0.out 0 rfl]; rfl
  case round =>
    obtain ⟨i, hi, rfl, hz, hg, hw2, hB⟩ := hrel
    have HZ := Lib.hid hz; have HW := Lib.hid hg; have HO := Lib.hid hw2
    clear hz hg hw2
    by_cases hlt : i < 32
    · obtain ⟨x, hx⟩ : ∃ x, sl.getD (i / 4) 0 = x := ⟨_, rfl⟩
      have hxl : x < 4294967296 := by rw [← hx]; exact HL.out _ (by omega)
      have hc := cells_at (f := u32V) HO.out (HG.out (i / 4) (by omega))
      rw [hx] at hc
      have hc0 := cells_at (f := u8V) HW.out (HA.out i hlt)
      have hf := frozen_of_row _ _ i _ _ HW.out
      have HX := Lib.hid hx; clear hx
      have hsh : (8 * (3 - (i : Int) % 4)).toNat = 8 * (3 - i % 4) := by omega
      have hsh0 : 0 ≤ 8 * (3 - (i : Int) % 4) := by omega
      go_wp2
      refine ⟨⟨i + 1, by omega, by go_num, by simpa using HZ.out, ?_, (heap_setCell_other _ _ _ _ (by simp)).trans HO.out, hB.setCell (by simp) _⟩, by simp [intOf]; omega⟩
      rw [heap_setCell_same _ _ _ _ _ _ HW.out, HS.out i (by omega)]
      refine Eq.trans ?_ (congrArg (fun c => some (Obj.cells c 90 (0, 0))) (map_set (f := u8V) (dP i) i (dB i)))
      rw [HD.out i, HX.out]
      rfl
    · have hge : (32 : Int) ≤ i := by omega
      have hcell : ∀ k, k < 32 → wr.cell? ⟨w.heap.size + 1, 0 + k, none⟩ = some (.int .u8 ((dL.map fun n : Nat => (n : Int)).getD k 0)) := fun k hk => by
        have e : dL[k]? = some (dL.getD k 0) := by rw [List.getD_eq_getElem?_getD, List.getElem?_eq_getElem (by rw [HDL.out]; exact hk)]; rfl
        have h := HW.out
        rw [HE.out i (by omega)] at h
        rw [Nat.zero_add, cells_at h e, getD_cast]
      have hcv := run_convert_bytes_arg (P := Tryd.prog) wr 43 5 Tryd.underlying43 Tryd.underlying5 (w.heap.size + 1) 0 32 32 (dL.map fun n : Nat => (n : Int)) (by rw [List.length_map, HDL.out]) hcell 9 Tryd.underlying9
      rw [strOfNums_nat] at hcv
      clear hcell
      go_wp2
      go_ret
      exact ⟨rfl, hB⟩
end Go.Proofs.YtiilkjonbfllfaaDoor
