/- The reference's Range, walked: three loops. -/
import Derived.Test.YtbgdlfkeimaaiaaDoorRt
import Derived.Test.YtbgdlfkeimaaiaaDoorRj
import Derived.Test.YtbgdlfkeimaaiaaDoorGe
namespace Go.Proofs.YtbgdlfkeimaaiaaDoor
open Go.RowKit
set_option linter.unusedSimpArgs false
set_option linter.unusedVariables false
/-- The heights, cell by cell. -/
def colH (c : Nat × Nat) (ts : List Nat) : List Int := ts.map fun t => hgt c.1 c.2 t
def hsC (cs : List (Nat × Nat)) (ts : List Nat) : List Int := cs.flatMap fun c => colH c ts
theorem hsC_app (cs ds : List (Nat × Nat)) (ts : List Nat) : hsC (cs ++ ds) ts = hsC cs ts ++ hsC ds ts := by simp [hsC]
theorem hsC_mem {cs : List (Nat × Nat)} {ts : List Nat} {h : Int} : h ∈ hsC cs ts ↔ h ∈ hsT cs ts := by
  rw [hsT_mem]
  unfold hsC colH
  simp only [List.mem_flatMap, List.mem_map]
  constructor
  · rintro ⟨c, hc, t, ht, rfl⟩; exact ⟨c, hc, t, ht, rfl⟩
  · rintro ⟨c, hc, t, ht, rfl⟩; exact ⟨c, hc, t, ht, rfl⟩
theorem hsC_row_no (f : Ar) (y x : Nat) (cs : List (Nat × Nat)) (ts : List Nat) (h : f x y = false) : hsC (cs ++ rowCells f y (x + 1)) ts = hsC (cs ++ rowCells f y x) ts := by
  rw [rowCells_succ, h]; simp
theorem hsC_row_yes (f : Ar) (y x : Nat) (cs : List (Nat × Nat)) (ts : List Nat) (h : f x y = true) : hsC (cs ++ rowCells f y (x + 1)) ts = hsC (cs ++ rowCells f y x) ts ++ colH (x, y) ts := by
  rw [rowCells_succ, h]; simp [hsC]
theorem colH_snoc (c : Nat × Nat) (t k : Nat) : colH c (List.range' t (k + 1)) = colH c (List.range' t k) ++ [hgt c.1 c.2 (t + k)] := by
  unfold colH
  rw [List.range'_1_concat]; simp
theorem tmod2 (r x : Nat) : ((r : Int) / 2 ^ x).tmod 2 = ((r : Int) / 2 ^ x) % 2 := by
  rw [show (r : Int) / 2 ^ x = ((r / 2 ^ x : Nat) : Int) from by rw [Int.natCast_ediv, Int.natCast_pow]; rfl]
  exact Int.tmod_eq_emod_of_nonneg (Int.natCast_nonneg _)
theorem rbit_no (f : Ar) (x y : Nat) (hx : x < 48) (h : f x y = false) : (((rowOf f y : Int) / 2 ^ x).tmod 2 == 0) = true := by
  have := rbit_at f x y hx
  rw [h] at this
  simp only [beq_eq_false_iff_ne, ne_eq] at this
  rw [beq_iff_eq, tmod2]
  omega
theorem rbit_yes (f : Ar) (x y : Nat) (hx : x < 48) (h : f x y = true) : (((rowOf f y : Int) / 2 ^ x).tmod 2 == 0) = false := by
  have := rbit_at f x y hx
  rw [h, beq_iff_eq] at this
  rw [beq_eq_false_iff_ne, tmod2]
  omega
theorem rcountV {b q c : Nat} {f : Ar} {w : World} (h : SA w (some ⟨b, q, none⟩) 24 f) : Calls Tryd.prog 46 #[.agg #[.slice (some ⟨b, q, none⟩) 24 c]] w (OutV w (.int .i64 (count f : Nat))) := rCount_any _ _ c (rz f) (some f) rfl w h
set_option maxRecDepth 100000 in
set_option maxHeartbeats 4000000 in
theorem rrange_yes (b q c : Nat) (f : Ar) (t N U : Nat) (hU : t + N = U) (hN0 : 0 < N) (hN1 : N ≤ 60) (hN2 : U ≤ 1000001) (hne : 0 < count f) (w : World) (h : SA w (some ⟨b, q, none⟩) 24 f) :
    Calls Tryd.prog 29 #[.agg #[.slice (some ⟨b, q, none⟩) 24 c], .agg #[iV t, iV U]] w fun e w' =>
      e = .returned (.tuple #[.int .i64 (lo (hsC (cellsTo f 24) (List.range' t N))), .int .i64 (hi (hsC (cellsTo f 24) (List.range' t N))), .int .i64 0]) ∧ Below w.heap.size w w' := by
  obtain ⟨W0, hW0⟩ : ∃ W0, (w.alloc (.cells #[.slice (some ⟨b, q, none⟩) 24 c] 27)).alloc (.cells #[iV t, iV U] 29) = W0 := ⟨_, rfl⟩
  have hA : BX W0 w.heap.size #[.slice (some ⟨b, q, none⟩) 24 c] 27 := by rw [← hW0]; exact (BX.new rfl).alloc _
  have hS : BX W0 (w.heap.size + 1) #[iV t, iV U] 29 := by rw [← hW0]; exact BX.new (by simp)
  have hB : Below w.heap.size w W0 := by rw [← hW0]; exact ((Below.refl _ _).alloc (Nat.le_refl _) _).alloc (by simp) _
  obtain ⟨bS, hbS⟩ : ∃ b, w.heap.size + 1 = b := ⟨_, rfl⟩
  rw [hbS] at hS
  have hsa : SA W0 (some ⟨b, q, none⟩) 24 f := Sl.below h (Nat.le_refl _) hB
  have HA := Lib.hid hA; have HS := Lib.hid hS; have HB := Lib.hid hB; have HSA := Lib.hid hsa
  have HN := Lib.hid (And.intro hN0 (And.intro hN1 (And.intro hN2 hU)))
  have hc0 := hA.cell 0
  have s0 : W0.cell? ⟨bS, 0, none⟩ = some (iV t) := hS.cell 0
  have s1 : W0.cell? ⟨bS, 1, none⟩ = some (iV U) := hS.cell 1
  have i0 : decide ((t : Int) < 0) = false := by simp
  have i1 : decide (1000001 < (U : Int)) = false := by have := HN.out; simp; omega
  have i3 : decide (U ≤ t) = false := by have := HN.out; simp; omega
  have i5 : decide (60 < (U : Int) - t) = false := by have := HN.out; simp; omega
  have i6 : (0 : Int) ≤ t := by omega
  have i7 : (U : Int) ≤ 1000001 := by have := HN.out; omega
  have i8 : (0 : Int) ≤ U := by omega
  have i9 : (t : Int) ≤ 1000001 := by have := HN.out; omega
  have hcn : ((count f : Int) == 0) = false := by simp; omega
  clear hA hS hB h hsa hN0 hN1 hN2 hU hne
  go_enter Tryd.func29, Tryd.ntmps29
  go_wp2_with fail
  (with_reducible refine (rvalid_yes HSA.out).mono ?_)
  rintro e w1 ⟨rfl, hb1⟩
  have hc0 := (HA.out.next hb1).cell 0
  have HSA1 := Lib.hid (show SA w1 (some ⟨b, q, none⟩) 24 f from Sl.below HSA.out (Nat.le_refl _) hb1)
  have HB1 := Lib.hid (below_tr HB.out hb1)
  have HA1 := Lib.hid (HA.out.next hb1); have HS1 := Lib.hid (HS.out.next hb1)
  clear hb1 hW0 s0 s1 HA HS HSA HB
  go_wp2_with fail
  (with_reducible refine (rcountV HSA1.out).mono ?_)
  rintro e w2 ⟨rfl, hb2⟩
  have HSA2 := Lib.hid (show SA w2 (some ⟨b, q, none⟩) 24 f from Sl.below HSA1.out (Nat.le_refl _) hb2)
  have HB2 := Lib.hid (below_tr HB1.out hb2)
  have HA2 := Lib.hid (HA1.out.next hb2); have HS2 := Lib.hid (HS1.out.next hb2)
  have s0 : w2.cell? ⟨bS, 0, none⟩ = some (iV t) := HS2.out.cell 0
  have s1 : w2.cell? ⟨bS, 1, none⟩ = some (iV U) := HS2.out.cell 1
  clear hb2 hc0 HA1 HS1 HSA1 HB1
  go_wp2
  clear s0 s1 i0 i1 i3 i5 hcn
  go_loopw [8, 9, 10] (fun m g i wr => ∃ y : Nat, y ≤ 24 ∧ i = iV y ∧ m = .int .i64 (lo (hsC (cellsTo f y) (List.range' t N))) ∧ g = .int .i64 (hi (hsC (cellsTo f y) (List.range' t N))) ∧ Below w2.heap.size w2 wr) (fun _ _ i _ => 24 - (intOf i).toNat)
  case atStart => exact ⟨0, by omega, rfl, rfl, rfl, Below.refl _ _⟩
  case round =>
    obtain ⟨y, hy, rfl, rfl, rfl, hby⟩ := hrel
    have HBY := Lib.hid hby
    clear hby
    have y0 : (0 : Int) ≤ y := by omega
    by_cases hy24 : y < 24
    · have y1 : (y : Int) < 24 := by omega
      go_wp2
      go_loopw [8, 9, 11] (fun m g i wr => ∃ x : Nat, x ≤ 48 ∧ i = iV x ∧ m = .int .i64 (lo (hsC (cellsTo f y ++ rowCells f y x) (List.range' t N))) ∧ g = .int .i64 (hi (hsC (cellsTo f y ++ rowCells f y x) (List.range' t N))) ∧ Below w2.heap.size w2 wr) (fun _ _ i _ => 48 - (intOf i).toNat)
      case atStart => exact ⟨0, by omega, rfl, by simp [rowCells], by simp [rowCells], HBY.out⟩
      case round =>
        obtain ⟨x, hx, rfl, rfl, rfl, hbx⟩ := hrel
        have HBX := Lib.hid hbx
        clear HBY
        have x0 : (0 : Int) ≤ x := by omega
        by_cases hx48 : x < 48
        · have x1 : (x : Int) < 48 := by omega
          have hc0 : wr.cell? ⟨w.heap.size, 0, none⟩ = some (.slice (some ⟨b, q, none⟩) 24 c) := (HA2.out.next hbx).cell 0
          have s0 : wr.cell? ⟨bS, 0, none⟩ = some (iV t) := (HS2.out.next hbx).cell 0
          have hr : wr.cell? ⟨b, q + y, none⟩ = some (iV (rowOf f y)) := by
            obtain ⟨_, b', o', he, hb0, hcs⟩ := SA.parts (Sl.below HSA2.out (Nat.le_refl _) hbx : SA wr (some ⟨b, q, none⟩) 24 f)
            cases he
            exact hcs y hy24
          have hrl := row_lt f y
          clear hbx
          by_cases hf : f x y = true
          · have hbit := rbit_yes f x y hx48 hf
            have HF := Lib.hid hf
            generalize rowOf f y = r at hr hbit hrl
            clear hf
            go_wp2
            clear s0 hr hc0 hbit hrl
            generalize hL : hsC (cellsTo f y ++ rowCells f y x) (List.range' t N) = L at *
            have HLL := Lib.hid hL
            clear hL
            go_loopw [8, 9, 12] (fun m g i wr => ∃ k : Nat, k ≤ N ∧ i = iV (t + k) ∧ m = .int .i64 (lo (L ++ colH (x, y) (List.range' t k))) ∧ g = .int .i64 (hi (L ++ colH (x, y) (List.range' t k))) ∧ Below w2.heap.size w2 wr) (fun _ _ i _ => U - (intOf i).toNat)
            case atStart => exact ⟨0, by omega, rfl, by simp [colH], by simp [colH], HBX.out⟩
            case round =>
              obtain ⟨k, hk, rfl, rfl, rfl, hbk⟩ := hrel
              have HBK := Lib.hid hbk
              have s1 : wr.cell? ⟨bS, 1, none⟩ = some (iV U) := (HS2.out.next hbk).cell 1
              clear hbk HBX
              have HR := Lib.hid (colH_snoc (x, y) t k)
              obtain ⟨s, hs⟩ : ∃ s, t + k = s := ⟨_, rfl⟩
              have HSS := Lib.hid hs
              rw [hs]
              clear hs
              have t0 : (0 : Int) ≤ s := by omega
              have t1 : (s : Int) ≤ 1000001 := by have := HN.out; have := HSS.out; omega
              obtain ⟨a, ha⟩ : ∃ a, lo (L ++ colH (x, y) (List.range' t k)) = a := ⟨_, rfl⟩
              obtain ⟨g, hg⟩ : ∃ g, hi (L ++ colH (x, y) (List.range' t k)) = g := ⟨_, rfl⟩
              have HA := Lib.hid ha; have HG := Lib.hid hg
              rw [ha, hg]
              clear ha hg
              by_cases hlt : k < N
              · have hd : decide (s < U) = true := by have := HN.out; have := HSS.out; simp; omega
                have hs1 : s ≤ 1000000 := by have := HN.out; have := HSS.out; omega
                go_wp2_with fail
                (with_reducible refine (rheight_yes x y s hx48 hy24 hs1 _).mono ?_)
                rintro e w5 ⟨rfl, hb5⟩
                have HB5 := Lib.hid (below_tr HBK.out hb5)
                clear hb5 s1
                go_wp2
                refine ⟨⟨k + 1, by omega, ret_i (by have := HSS.out; omega), ret_i ?_, ret_i ?_, HB5.out⟩, ?_⟩
                · rw [HR.out, ← List.append_assoc, lo_snoc, HA.out]; show _ = min a (hgt x y (t + k)); rw [HSS.out]
                · rw [HR.out, ← List.append_assoc, hi_snoc, HG.out]; show _ = max g (hgt x y (t + k)); rw [HSS.out]
                · have := HN.out; have := HSS.out; simp only [intOf]; omega
              · obtain rfl : k = N := by omega
                have hd : decide (s < U) = false := by have := HN.out; have := HSS.out; simp; omega
                go_wp2
                have HY := Lib.hid (hsC_row_yes f y x (cellsTo f y) (List.range' t k) HF.out)
                refine ⟨⟨x + 1, by omega, ret_i (by omega), ret_i ?_, ret_i ?_, HBK.out⟩, by simp only [intOf]; omega⟩
                · rw [HY.out, HLL.out, HA.out]
                · rw [HY.out, HLL.out, HG.out]
          · have hf : f x y = false := by simpa using hf
            have hbit := rbit_no f x y hx48 hf
            have HF := Lib.hid (hsC_row_no f y x (cellsTo f y) (List.range' t N) hf)
            generalize rowOf f y = r at hr hbit hrl
            clear hf
            go_wp2
            exact ⟨⟨x + 1, by omega, ret_i (by omega), by rw [HF.out], by rw [HF.out], HBX.out⟩, by simp only [intOf]; omega⟩
        · obtain rfl : x = 48 := by omega
          go_wp2
          exact ⟨⟨y + 1, by omega, ret_i (by omega), rfl, rfl, HBX.out⟩, by simp only [intOf]; omega⟩
    · obtain rfl : y = 24 := by omega
      go_wp2
      exact bodyPost_ret (v := .tuple #[.int .i64 (lo (hsC (cellsTo f 24) (List.range' t N))), .int .i64 (hi (hsC (cellsTo f 24) (List.range' t N))), .int .i64 0]) (by simp [results, Tryd.results29, go_sem]) rfl ⟨rfl, below_tr HB2.out HBY.out⟩
end Go.Proofs.YtbgdlfkeimaaiaaDoor
