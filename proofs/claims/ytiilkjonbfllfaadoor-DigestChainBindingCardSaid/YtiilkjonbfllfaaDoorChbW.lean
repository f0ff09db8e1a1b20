/- The walk of DigestChainBinding. -/
import Derived.Test.YtiilkjonbfllfaaDoorHea
import Derived.Test.YtiilkjonbfllfaaDoorBinW
import Derived.Deep.OwnRows
import Derived.Deep.RegionHeld3
namespace Go.Proofs.YtiilkjonbfllfaaDoor
open Go.RowKit

/-- The 32 zero bytes read back as a text, in any world that keeps their block. -/
theorem conv32 (W1 W : World) (hb : Below (W1.alloc (.cells (madeCells #[.int .u8 0] 32) 5)).heap.size (W1.alloc (.cells (madeCells #[.int .u8 0] 32) 5)) W) :
    (convert 43 9 (.slice (some ⟨W1.heap.size, 0, none⟩) 32 32)).run Tryd.prog W = .ok (.string zer32) W := by
  have hh : (W1.alloc (.cells (madeCells #[.int .u8 0] 32) 5)).heap[W1.heap.size]? = some (.cells ((List.replicate 32 0).map u8V).toArray 5 (0, 0)) := by
    rw [heap_new' _ _ _ rfl, show madeCells #[Value.int .u8 0] 32 = ((List.replicate 32 0).map u8V).toArray from Array.ext' (by rw [toList_madeCells_one]; rfl)]
  have hk : W.heap[W1.heap.size]? = some (.cells ((List.replicate 32 0).map u8V).toArray 5 (0, 0)) := by
    rw [hb.block _ (by simp)]; exact hh
  have hcv := run_convert_bytes_arg (P := Tryd.prog) W 43 5 Tryd.underlying43 Tryd.underlying5 W1.heap.size 0 32 32 ((List.replicate 32 0).map fun n : Nat => (n : Int)) rfl (fun j hj => by rw [Nat.zero_add, cells_at hk (i := j) (x := 0) (by rw [List.getElem?_replicate, if_pos hj])]; rw [getD_cast, List.getD_eq_getElem?_getD, List.getElem?_replicate, if_pos hj]; rfl) 9 Tryd.underlying9
  rw [strOfNums_nat, show strN (List.replicate 32 0) = zer32 from rfl] at hcv
  exact hcv

set_option maxRecDepth 100000 in
set_option maxHeartbeats 4000000 in
theorem chb_walk (al1 al2 : Option Addr) (n1 n2 c1 c2 : Nat) (ss1 ss2 : List ByteArray) (hm1 : n1 ≤ maxLen) (hm2 : n2 ≤ maxLen)
    (hw1 : ∀ s ∈ ss1, s.size ≤ maxLen) (hw2 : ∀ s ∈ ss2, s.size ≤ maxLen) (w : World) (hT : Tab w)
    (hr1 : n1 = 0 ∨ ∃ b o, al1 = some ⟨b, o, none⟩ ∧ ∀ i, i < n1 → w.cell? ⟨b, o + i, none⟩ = some (.string (ss1.getD i ByteArray.empty)))
    (hr2 : n2 = 0 ∨ ∃ b o, al2 = some ⟨b, o, none⟩ ∧ ∀ i, i < n2 → w.cell? ⟨b, o + i, none⟩ = some (.string (ss2.getD i ByteArray.empty))) :
    Calls Tryd.prog 9 #[.slice al1 n1 c1, .slice al2 n2 c2] w fun e w' => e = .returned (.bool true) ∧ Below w.heap.size w w' := by
  obtain ⟨ps, hps, hpz⟩ := strs_arg hw1 hr1
  obtain ⟨qs, hqs, hqz⟩ := strs_arg hw2 hr2
  clear hr1 hr2 hw1 hw2
  have hz : 0 < w.heap.size := hT.1
  have HT := Lib.hid (fun W (hB : Below w.heap.size w W) => hT.below hB hz)
  have HP := Lib.hid hps; have HQ := Lib.hid hqs; have HPZ := Lib.hid hpz; have HQZ := Lib.hid hqz; have HT0 := Lib.hid hT
  have hPl : (fewL ps 20).length ≤ 20 := by rw [fewL_length]; omega
  have hQl : (fewL qs 20).length ≤ 20 := by rw [fewL_length]; omega
  have HPS := Lib.hid (fewL_size ps 20); have HQS := Lib.hid (fewL_size qs 20)
  have FP := Lib.hid (fun W hW => few_any al1 n1 c1 20 ps (by omega) hm1 W hW HPZ.out)
  have FQ := Lib.hid (fun W hW => few_any al2 n2 c2 20 qs (by omega) hm2 W hW HQZ.out)
  clear hps hqs hpz hqz hT
  generalize fewL ps 20 = P at *
  generalize fewL qs 20 = Q at *
  go_enter Tryd.func9, Tryd.ntmps9
  go_wp2_with fail
  refine (sane_any _ HT0.out).mono ?_
  rintro e w1 ⟨rfl, hb1⟩
  have HB1 := Lib.hid hb1; clear hb1
  go_wp2_with fail
  refine (FP.out _ (HP.out.below HB1.out)).mono ?_
  rintro e w2 ⟨v2, rfl, a3, c3, rfl, hlc3, hc3, ho3, hb2⟩
  have HB2 := Lib.hid (HB1.out.trans (hb2.mono HB1.out.size)); have HO3 := Lib.hid (strs_of_own ho3)
  clear ho3 hb2
  go_wp2_with fail
  refine (FQ.out _ (HQ.out.below HB2.out)).mono ?_
  rintro e w3 ⟨v3, rfl, a4, c4, rfl, hlc4, hc4, ho4, hb3⟩
  have HB3 := Lib.hid (HB2.out.trans (hb3.mono HB2.out.size)); have HO4 := Lib.hid (strs_of_own ho4); have HO5 := Lib.hid (HO3.out.below hb3)
  clear ho4 hb3 HO3 HB1 HB2
  have W1 := Lib.hid (fun W hW hTW => heads_any a3 P.length c3 P (by omega) W hW HPS.out hTW)
  have W2 := Lib.hid (fun W hW hTW => heads_any a4 Q.length c4 Q (by omega) W hW HQS.out hTW)
  have Z1 := Lib.hid (heads_texts P.reverse (fun x hx => HPS.out x (List.mem_reverse.1 hx)))
  have Z2 := Lib.hid (heads_texts Q.reverse (fun x hx => HQS.out x (List.mem_reverse.1 hx)))
  have l1 := heads_len P.reverse
  have l2 := heads_len Q.reverse
  rw [List.length_reverse] at l1 l2
  have l1q := Nat.le_trans (Nat.le_of_eq l1) hPl
  have l2q := Nat.le_trans (Nat.le_of_eq l2) hQl
  clear l1 l2
  have s1 := heads_size P.reverse
  have s2 := heads_size Q.reverse
  have HBD := Lib.hid (show P ≠ Q → (headsR P.reverse).2 = (headsR Q.reverse).2 → collB (headsR P.reverse).1 (headsR Q.reverse).1 = true ∨ zeroAt (headsR P.reverse).1 (headsR Q.reverse).1 = true from fun h1 h2 => heads_bind P.reverse Q.reverse (fun e => h1 (List.reverse_inj.1 e)) h2)
  have HEQ := Lib.hid (show P = Q → (headsR P.reverse).2 = (headsR Q.reverse).2 from fun h => by rw [h])
  generalize headsR P.reverse = A at *
  generalize headsR Q.reverse = B at *
  obtain ⟨A1, A2⟩ := A
  obtain ⟨B1, B2⟩ := B
  dsimp only at W1 W2 Z1 Z2 l1q l2q s1 s2 HBD HEQ
  go_wp2_with fail
  refine (W1.out _ HO5.out (HT.out _ HB3.out)).mono ?_
  rintro e w6 ⟨v6, rfl, a6, c6, rfl, hlc6, hc6, ho6, hb6⟩
  have HB6 := Lib.hid (HB3.out.trans (hb6.mono HB3.out.size)); have HS6 := Lib.hid (strs_of_own ho6); have HOA := Lib.hid (HO4.out.below hb6); have HOB := Lib.hid (HO5.out.below hb6)
  clear ho6 hb6 HO4 HO5 HB3
  go_wp2_with fail
  refine (W2.out _ HOA.out (HT.out _ HB6.out)).mono ?_
  rintro e w7 ⟨v7, rfl, a7, c7, rfl, hlc7, hc7, ho7, hb7⟩
  have HB7 := Lib.hid (HB6.out.trans (hb7.mono HB6.out.size)); have HS7 := Lib.hid (strs_of_own ho7); have HS8 := Lib.hid (HS6.out.below hb7); have HOC := Lib.hid (HOA.out.below hb7); have HOD := Lib.hid (HOB.out.below hb7)
  clear ho7 hb7 HOA HOB HS6 HB6
  have hs1 : ((A2.size : Int) != 32) = false := by rw [s1]; rfl
  go_wp2_with fail
  refine (same_any a3 a4 P.length Q.length c3 c4 P Q (by omega) (by omega) _ HOD.out HOC.out).mono ?_
  rintro e w8 ⟨rfl, nq, hw8⟩
  have hB8 : Below w7.heap.size w7 w8 := by rw [hw8]; exact below_drewN (Below.refl _ _) _
  have hBW := HB7.out.trans (hB8.mono HB7.out.size)
  have HSX := Lib.hid (HS8.out.below hB8); have HSY := Lib.hid (HS7.out.below hB8)
  clear hw8 hB8 HOC HOD HS7 HS8 HB7
  by_cases hPQ : P = Q
  · have hh : sameB P Q = true := by unfold sameB; exact decide_eq_true hPQ
    have he := HEQ.out hPQ
    subst he
    have hh2 : (A2.toList != A2.toList) = false := by simp
    have HBW := Lib.hid hBW; clear hBW hPQ
    rw [hh]
    go_wp2_with fail
    go_ret
    exact ⟨rfl, HBW.out⟩
  · have hh : sameB P Q = false := by unfold sameB; exact decide_eq_false hPQ
    rw [hh]
    by_cases hAB : A2 = B2
    · subst hAB
      have hh2 : (A2.toList != A2.toList) = false := by simp
      have HD := Lib.hid (HBD.out hPQ rfl)
      clear hPQ hh
      by_cases hl : A1.length = B1.length
      · have hg1 : decide (A1.length < B1.length) = false := by simp; omega
        have hne : ((A1.length : Int) != B1.length) = false := by rw [bne_eq_false_iff_eq]; omega
        have HC := Lib.hid (show collB A1 B1 = true from HD.out.resolve_right (by unfold zeroAt; simp [hl]))
        have HBW := Lib.hid hBW; clear hBW hl
        go_wp2_with fail
        go_quiet (fail)
        have HBX := Lib.hid (fun n => below_drewN HBW.out n)
        have HSX2 := Lib.hid (fun n => HSX.out.below (below_drewN (Below.refl _ w8) n)); have HSY2 := Lib.hid (fun n => HSY.out.below (below_drewN (Below.refl _ w8) n))
        go_wp2_with fail
        refine (collide_any a6 a7 A1.length B1.length c6 c7 A1 B1 (by omega) (by omega) _ (HSX2.out _) (HSY2.out _) Z1.out Z2.out (HT.out _ (HBX.out _))).mono ?_
        rw [HC.out]
        rintro e w9 ⟨rfl, hb9⟩
        have HB9 := Lib.hid ((HBX.out _).trans (hb9.mono (HBX.out _).size))
        clear hb9
        go_wp2_with fail
        go_ret
        exact ⟨rfl, HB9.out⟩
      · by_cases hgt : A1.length < B1.length
        · obtain ⟨g, o, ge, hg, hcs⟩ := strs_out HSY.out (show A1.length < B1.length by omega)
          have hc0 := hcs A1.length (by omega)
          have hmem : B1.getD A1.length ByteArray.empty ∈ B1 := by
            rw [List.getD_eq_getElem?_getD, List.getElem?_eq_getElem (by omega)]; exact List.getElem_mem _
          have HSZ := Lib.hid (Z2.out _ hmem)
          have HZA := Lib.hid (show zeroAt A1 B1 = decide (dg (B1.getD A1.length ByteArray.empty) = zer32) by
            unfold zeroAt
            rw [decide_eq_true (show A1.length ≠ B1.length by omega), if_pos (by omega), show min A1.length B1.length = A1.length by omega]; rfl)
          clear hcs hmem
          generalize B1.getD A1.length ByteArray.empty = z at *
          have hg1 : decide (A1.length < B1.length) = true := by simp; omega
          have hne : ((A1.length : Int) != B1.length) = true := by rw [bne_iff_ne]; omega
          have hmin : min (A1.length : Int) B1.length = A1.length := by omega
          have hl0 : (0 : Int) ≤ A1.length := by omega
          have hl1 : (A1.length : Int) < B1.length := by omega
          have hmk : ∀ W : World, (Instr.makeSlice 43 (.int .i64 32) (.int .i64 32)).run Tryd.prog W = .ok (.slice (some ⟨W.heap.size, 0, none⟩) 32 32) (W.alloc (.cells (madeCells #[.int .u8 0] 32) 5)) := fun W => run_make_row' (P := Tryd.prog) 43 5 (.int .u8 0) 1 Tryd.underlying43 info5 rfl .i64 .i64 32 (by omega) (by omega) W
          have HCV := Lib.hid (fun W hb => conv32 w8 W ((Below.refl _ _).drew.trans hb))
          have hcvD := fun W => conv32 W _ (Below.refl _ _).drew
          have hcv1 := fun W => conv32 W _ (Below.refl _ _)
          have HWB := Lib.hid hBW; have HTW := Lib.hid (HT.out _ hBW)
          have C1 := Lib.hid (fun W (hW : Below w8.heap.size w8 W) => sum_any z HSZ.out W (HTW.out.below hW (by have := hBW.size; omega)))
          have KC := Lib.hid (fun W (hW : Below w8.heap.size w8 W) => (hW.cell (p := ⟨g, o + A1.length, none⟩) hg).trans hc0)
          have BA := Lib.hid (fun o => show Below w8.heap.size w8 ((w8.alloc o).drew) from ((Below.refl _ _).alloc (Nat.le_refl _) o).drew)
          have BD := Lib.hid (show Below w8.heap.size w8 w8.drew from (Below.refl _ _).drew)
          have kcD := KC.out _ BD.out
          have kcA := fun o => KC.out _ (BA.out o)
          subst ge
          go_wp2_with fail
          go_cut [12] (fun s12 wx => s12 = .bool (zeroAt A1 B1) ∧ Below w8.heap.size w8 wx)
          case first =>
            have hbd : Below w8.heap.size w8 w8.drew := (Below.refl _ _).drew
            refine wp_region_held_drew (S := fun w' => w'.cell? ⟨g, o + A1.length, none⟩ = some (.string z)) (by kernel_rfl) kcD (fun hHeld => ?_)
            refine wpAnyH_take (i := 0) (oi := { dst := some 61, op := Op.move (Operand.tmp 6), type := 26, pos := "law.go:201", after := #[], guard := none }) (v := ?_) rfl (by kernel_rfl) (by kernel_rfl) (by kernel_rfl) (fun _ _ _ h => h) (Or.inl ⟨by rfl, ?_⟩) (by assumption) ?_
            rotate_left 1
            · (intro w hSw; (try dsimp only at hSw); go_simp; try with_reducible rfl)
            try simp only [Act.put, List.setIfInBounds_toArray, List.set_cons_zero, List.set_cons_succ]
            refine wpAnyH_take (i := 1) (oi := { dst := some 62, op := Op.call { callee := Callee.builtin Builtin.len, args := #[Operand.tmp 61], argTypes := #[26] }, type := 3, pos := "law.go:201", after := #[{ on := 0, ground := Ground.data }], guard := none }) (v := ?_) rfl (by kernel_rfl) (by kernel_rfl) (by kernel_rfl) (fun _ _ _ h => h) (Or.inl ⟨by rfl, ?_⟩) (by assumption) ?_
            rotate_left 1
            · (intro w hSw; (try dsimp only at hSw); go_simp; try with_reducible rfl)
            try simp only [Act.put, List.setIfInBounds_toArray, List.set_cons_zero, List.set_cons_succ]
            refine wpAnyH_take (i := 2) (oi := { dst := some 63, op := Op.move (Operand.tmp 8), type := 26, pos := "law.go:201", after := #[], guard := none }) (v := ?_) rfl (by kernel_rfl) (by kernel_rfl) (by kernel_rfl) (fun _ _ _ h => h) (Or.inl ⟨by rfl, ?_⟩) (by assumption) ?_
            rotate_left 1
            · (intro w hSw; (try dsimp only at hSw); go_simp; try with_reducible rfl)
            try simp only [Act.put, List.setIfInBounds_toArray, List.set_cons_zero, List.set_cons_succ]
            refine wpAnyH_take (i := 3) (oi := { dst := some 64, op := Op.call { callee := Callee.builtin Builtin.len, args := #[Operand.tmp 63], argTypes := #[26] }, type := 3, pos := "law.go:201", after := #[{ on := 2, ground := Ground.data }], guard := none }) (v := ?_) rfl (by kernel_rfl) (by kernel_rfl) (by kernel_rfl) (fun _ _ _ h => h) (Or.inl ⟨by rfl, ?_⟩) (by assumption) ?_
            rotate_left 1
            · (intro w hSw; (try dsimp only at hSw); go_simp; try with_reducible rfl)
            try simp only [Act.put, List.setIfInBounds_toArray, List.set_cons_zero, List.set_cons_succ]
            refine wpAnyH_take (i := 4) (oi := { dst := some 65, op := Op.binOp BinOp.neq 3 (Operand.tmp 62) (Operand.tmp 64) 3, type := 4, pos := "law.go:201", after := #[{ on := 1, ground := Ground.data }, { on := 3, ground := Ground.data }], guard := none }) (v := ?_) rfl (by kernel_rfl) (by kernel_rfl) (by kernel_rfl) (fun _ _ _ h => h) (Or.inl ⟨by rfl, ?_⟩) (by assumption) ?_
            rotate_left 1
            · (intro w hSw; (try dsimp only at hSw); go_simp; try with_reducible rfl)
            try simp only [Act.put, List.setIfInBounds_toArray, List.set_cons_zero, List.set_cons_succ]
            refine wpAnyH_take (i := 5) (oi := { dst := some 66, op := Op.move (Operand.tmp 65), type := 4, pos := "law.go:201", after := #[{ on := 4, ground := Ground.data }], guard := none }) (v := ?_) rfl (by kernel_rfl) (by kernel_rfl) (by kernel_rfl) (fun _ _ _ h => h) (Or.inl ⟨by rfl, ?_⟩) (by assumption) ?_
            rotate_left 1
            · (intro w hSw; (try dsimp only at hSw); go_simp; try with_reducible rfl)
            try simp only [Act.put, List.setIfInBounds_toArray, List.set_cons_zero, List.set_cons_succ]
            refine wpAnyH_take (i := 6) (oi := { dst := some 67, op := Op.move (Operand.tmp 11), type := 26, pos := "law.go:201", after := #[{ on := 5, ground := Ground.guard }], guard := some (5, true) }) (v := ?_) rfl (by kernel_rfl) (by kernel_rfl) (by kernel_rfl) (fun _ _ _ h => h) (Or.inl ⟨by rfl, ?_⟩) (by assumption) ?_
            rotate_left 1
            · (intro w hSw; (try dsimp only at hSw); go_simp; try with_reducible rfl)
            try simp only [Act.put, List.setIfInBounds_toArray, List.set_cons_zero, List.set_cons_succ]
            refine wpAnyH_take (i := 7) (oi := { dst := some 68, op := Op.move (Operand.tmp 6), type := 26, pos := "law.go:201", after := #[{ on := 5, ground := Ground.guard }], guard := some (5, true) }) (v := ?_) rfl (by kernel_rfl) (by kernel_rfl) (by kernel_rfl) (fun _ _ _ h => h) (Or.inl ⟨by rfl, ?_⟩) (by assumption) ?_
            rotate_left 1
            · (intro w hSw; (try dsimp only at hSw); go_simp; try with_reducible rfl)
            try simp only [Act.put, List.setIfInBounds_toArray, List.set_cons_zero, List.set_cons_succ]
            refine wpAnyH_take (i := 8) (oi := { dst := some 69, op := Op.call { callee := Callee.builtin Builtin.len, args := #[Operand.tmp 68], argTypes := #[26] }, type := 3, pos := "law.go:201", after := #[{ on := 7, ground := Ground.data }, { on := 5, ground := Ground.guard }], guard := some (5, true) }) (v := ?_) rfl (by kernel_rfl) (by kernel_rfl) (by kernel_rfl) (fun _ _ _ h => h) (Or.inl ⟨by rfl, ?_⟩) (by assumption) ?_
            rotate_left 1
            · (intro w hSw; (try dsimp only at hSw); go_simp; try with_reducible rfl)
            try simp only [Act.put, List.setIfInBounds_toArray, List.set_cons_zero, List.set_cons_succ]
            refine wpAnyH_take (i := 9) (oi := { dst := some 70, op := Op.move (Operand.tmp 8), type := 26, pos := "law.go:201", after := #[{ on := 5, ground := Ground.guard }], guard := some (5, true) }) (v := ?_) rfl (by kernel_rfl) (by kernel_rfl) (by kernel_rfl) (fun _ _ _ h => h) (Or.inl ⟨by rfl, ?_⟩) (by assumption) ?_
            rotate_left 1
            · (intro w hSw; (try dsimp only at hSw); go_simp; try with_reducible rfl)
            try simp only [Act.put, List.setIfInBounds_toArray, List.set_cons_zero, List.set_cons_succ]
            refine wpAnyH_take (i := 10) (oi := { dst := some 71, op := Op.call { callee := Callee.builtin Builtin.len, args := #[Operand.tmp 70], argTypes := #[26] }, type := 3, pos := "law.go:201", after := #[{ on := 9, ground := Ground.data }, { on := 5, ground := Ground.guard }], guard := some (5, true) }) (v := ?_) rfl (by kernel_rfl) (by kernel_rfl) (by kernel_rfl) (fun _ _ _ h => h) (Or.inl ⟨by rfl, ?_⟩) (by assumption) ?_
            rotate_left 1
            · (intro w hSw; (try dsimp only at hSw); go_simp; try with_reducible rfl)
            try simp only [Act.put, List.setIfInBounds_toArray, List.set_cons_zero, List.set_cons_succ]
            refine wpAnyH_take (i := 11) (oi := { dst := some 72, op := Op.call { callee := Callee.builtin Builtin.min, args := #[Operand.tmp 69, Operand.tmp 71], argTypes := #[3, 3] }, type := 3, pos := "law.go:201", after := #[{ on := 8, ground := Ground.data }, { on := 10, ground := Ground.data }, { on := 5, ground := Ground.guard }], guard := some (5, true) }) (v := ?_) rfl (by kernel_rfl) (by kernel_rfl) (by kernel_rfl) (fun _ _ _ h => h) (Or.inl ⟨by rfl, ?_⟩) (by assumption) ?_
            rotate_left 1
            · (intro w hSw; (try dsimp only at hSw); go_simp; try with_reducible rfl)
            try simp only [Act.put, List.setIfInBounds_toArray, List.set_cons_zero, List.set_cons_succ]
            refine wpAnyH_take (i := 12) (oi := { dst := some 73, op := Op.indexAddr 26 (Operand.tmp 67) (Operand.tmp 72), type := 0, pos := "law.go:201", after := #[{ on := 6, ground := Ground.data }, { on := 11, ground := Ground.data }, { on := 5, ground := Ground.guard }], guard := some (5, true) }) (v := ?_) rfl (by kernel_rfl) (by kernel_rfl) (by kernel_rfl) (fun _ _ _ h => h) (Or.inl ⟨by rfl, ?_⟩) (by assumption) ?_
            rotate_left 1
            · (intro w hSw; (try dsimp only at hSw); go_simp; try with_reducible rfl)
            try simp only [Act.put, List.setIfInBounds_toArray, List.set_cons_zero, List.set_cons_succ]
            refine wpAnyH_take (i := 13) (oi := { dst := some 74, op := Op.load 9 (Operand.tmp 73), type := 9, pos := "law.go:201", after := #[{ on := 12, ground := Ground.data }, { on := 5, ground := Ground.guard }], guard := some (5, true) }) (v := ?_) rfl (by kernel_rfl) (by kernel_rfl) (by kernel_rfl) (fun _ _ _ h => h) (Or.inl ⟨by rfl, ?_⟩) (by assumption) ?_
            rotate_left 1
            · (intro w hSw; (try dsimp only at hSw); go_simp; try with_reducible rfl)
            try simp only [Act.put, List.setIfInBounds_toArray, List.set_cons_zero, List.set_cons_succ]
            refine wpAnyH_ready (rs := [14, 15]) (by kernel_rfl) (by simp) ?_
            refine AllReadyH.cons (o := { dst := some 75, op := Op.call { callee := Callee.value (Operand.func 13), args := #[Operand.tmp 74], argTypes := #[9] }, type := 9, pos := "law.go:201", after := #[{ on := 13, ground := Ground.data }, { on := 5, ground := Ground.chain }, { on := 5, ground := Ground.guard }], guard := some (5, true) }) rfl (fun K hK => ?_) ?_
            · skip
              go_simp
              go_at_call 13
              with_reducible refine (C1.out _ (hbd)).mono ?_
              rintro e w1 ⟨rfl, hb1⟩
              have hB1 := below1 (hbd) hb1
              refine hK.out _ _ ?_ (fun hHeld => ?_)
              · exact KC.out _ hB1
              clear hK K
              try simp only [Act.put, List.setIfInBounds_toArray, List.set_cons_zero, List.set_cons_succ]
              refine wpAnyH_ready (rs := [15]) (by kernel_rfl) (by simp) ?_
              refine AllReadyH.cons (o := { dst := some 76, op := Op.makeSlice 43 (Operand.const (Value.int IntKind.i64 32)) (Operand.const (Value.int IntKind.i64 32)), type := 43, pos := "law.go:201", after := #[{ on := 5, ground := Ground.guard }], guard := some (5, true) }) rfl (fun K hK => ?_) AllReadyH.nil
              go_simp
              refine hK.out _ _ ?_ (fun hHeld => ?_)
              · exact KC.out _ (hB1.alloc hB1.size _)
              clear hK K
              try simp only [Act.put, List.setIfInBounds_toArray, List.set_cons_zero, List.set_cons_succ]
              refine wpAnyH_ready (rs := [16]) (by kernel_rfl) (by simp) ?_
              refine AllReadyH.cons (o := { dst := some 77, op := Op.convert 43 9 (Operand.tmp 76), type := 9, pos := "law.go:201", after := #[{ on := 15, ground := Ground.data }, { on := 5, ground := Ground.guard }], guard := some (5, true) }) rfl (fun K hK => ?_) AllReadyH.nil
              go_simp
              refine hK.out _ _ ?_ (fun hHeld => ?_)
              · exact KC.out _ (hB1.alloc hB1.size _)
              clear hK K
              try simp only [Act.put, List.setIfInBounds_toArray, List.set_cons_zero, List.set_cons_succ]
              refine wpAnyH_take (i := 17) (oi := { dst := some 78, op := Op.binOp BinOp.eql 9 (Operand.tmp 75) (Operand.tmp 77) 9, type := 4, pos := "law.go:201", after := #[{ on := 14, ground := Ground.data }, { on := 16, ground := Ground.data }, { on := 5, ground := Ground.guard }], guard := some (5, true) }) (v := ?_) rfl (by kernel_rfl) (by kernel_rfl) (by kernel_rfl) (fun _ _ _ h => h) (Or.inl ⟨by rfl, ?_⟩) (by assumption) ?_
              rotate_left 1
              · (intro w hSw; (try dsimp only at hSw); go_simp; try with_reducible rfl)
              try simp only [Act.put, List.setIfInBounds_toArray, List.set_cons_zero, List.set_cons_succ]
              refine wpAnyH_take (i := 18) (oi := { dst := some 79, op := Op.pick (Operand.tmp 66) (Operand.tmp 78) (Operand.const (Value.bool false)), type := 4, pos := "law.go:201", after := #[{ on := 5, ground := Ground.data }, { on := 17, ground := Ground.data }], guard := none }) (v := ?_) rfl (by kernel_rfl) (by kernel_rfl) (by kernel_rfl) (fun _ _ _ h => h) (Or.inl ⟨by rfl, ?_⟩) (by assumption) ?_
              rotate_left 1
              · (intro w hSw; (try dsimp only at hSw); go_simp; try with_reducible rfl)
              try simp only [Act.put, List.setIfInBounds_toArray, List.set_cons_zero, List.set_cons_succ]
              refine wpAnyH_take (i := 19) (oi := { dst := some 12, op := Op.assign (Operand.tmp 79), type := 4, pos := "law.go:201", after := #[{ on := 18, ground := Ground.data }, { on := 14, ground := Ground.chain }, { on := 0, ground := Ground.phase }, { on := 1, ground := Ground.phase }, { on := 2, ground := Ground.phase }, { on := 3, ground := Ground.phase }, { on := 4, ground := Ground.phase }, { on := 5, ground := Ground.phase }, { on := 6, ground := Ground.phase }, { on := 7, ground := Ground.phase }, { on := 8, ground := Ground.phase }, { on := 9, ground := Ground.phase }, { on := 10, ground := Ground.phase }, { on := 11, ground := Ground.phase }, { on := 12, ground := Ground.phase }, { on := 13, ground := Ground.phase }, { on := 14, ground := Ground.phase }, { on := 15, ground := Ground.phase }, { on := 16, ground := Ground.phase }, { on := 17, ground := Ground.phase }, { on := 18, ground := Ground.phase }], guard := none }) (v := ?_) rfl (by kernel_rfl) (by kernel_rfl) (by kernel_rfl) (fun _ _ _ h => h) (Or.inl ⟨by rfl, ?_⟩) (by assumption) ?_
              rotate_left 1
              · (intro w hSw; (try dsimp only at hSw); go_simp; try with_reducible rfl)
              try simp only [Act.put, List.setIfInBounds_toArray, List.set_cons_zero, List.set_cons_succ]
              refine wpAnyH_done (by kernel_rfl) ?_ _
              go_wp2_with fail
              go_meet
              refine ⟨by rw [HZA.out, str_eq], ?_⟩
              first | exact hB1 | exact hB1.alloc hB1.size _
            · skip
              refine AllReadyH.cons (o := { dst := some 76, op := Op.makeSlice 43 (Operand.const (Value.int IntKind.i64 32)) (Operand.const (Value.int IntKind.i64 32)), type := 43, pos := "law.go:201", after := #[{ on := 5, ground := Ground.guard }], guard := some (5, true) }) rfl (fun K hK => ?_) AllReadyH.nil
              go_simp
              refine hK.out _ _ ?_ (fun hHeld => ?_)
              · exact KC.out _ (BA.out _)
              clear hK K
              try simp only [Act.put, List.setIfInBounds_toArray, List.set_cons_zero, List.set_cons_succ]
              refine wpAnyH_ready (rs := [14, 16]) (by kernel_rfl) (by simp) ?_
              refine AllReadyH.cons (o := { dst := some 75, op := Op.call { callee := Callee.value (Operand.func 13), args := #[Operand.tmp 74], argTypes := #[9] }, type := 9, pos := "law.go:201", after := #[{ on := 13, ground := Ground.data }, { on := 5, ground := Ground.chain }, { on := 5, ground := Ground.guard }], guard := some (5, true) }) rfl (fun K hK => ?_) ?_
              · skip
                go_simp
                go_at_call 13
                with_reducible refine (C1.out _ (BA.out _)).mono ?_
                rintro e w1 ⟨rfl, hb1⟩
                have hcv5 := HCV.out _ hb1
                have hB1 := below1 (BA.out _) hb1
                refine hK.out _ _ ?_ (fun hHeld => ?_)
                · exact KC.out _ hB1
                clear hK K
                try simp only [Act.put, List.setIfInBounds_toArray, List.set_cons_zero, List.set_cons_succ]
                refine wpAnyH_ready (rs := [16]) (by kernel_rfl) (by simp) ?_
                refine AllReadyH.cons (o := { dst := some 77, op := Op.convert 43 9 (Operand.tmp 76), type := 9, pos := "law.go:201", after := #[{ on := 15, ground := Ground.data }, { on := 5, ground := Ground.guard }], guard := some (5, true) }) rfl (fun K hK => ?_) AllReadyH.nil
                go_simp
                refine hK.out _ _ ?_ (fun hHeld => ?_)
                · exact KC.out _ hB1
                clear hK K
                try simp only [Act.put, List.setIfInBounds_toArray, List.set_cons_zero, List.set_cons_succ]
                refine wpAnyH_take (i := 17) (oi := { dst := some 78, op := Op.binOp BinOp.eql 9 (Operand.tmp 75) (Operand.tmp 77) 9, type := 4, pos := "law.go:201", after := #[{ on := 14, ground := Ground.data }, { on := 16, ground := Ground.data }, { on := 5, ground := Ground.guard }], guard := some (5, true) }) (v := ?_) rfl (by kernel_rfl) (by kernel_rfl) (by kernel_rfl) (fun _ _ _ h => h) (Or.inl ⟨by rfl, ?_⟩) (by assumption) ?_
                rotate_left 1
                · (intro w hSw; (try dsimp only at hSw); go_simp; try with_reducible rfl)
                try simp only [Act.put, List.setIfInBounds_toArray, List.set_cons_zero, List.set_cons_succ]
                refine wpAnyH_take (i := 18) (oi := { dst := some 79, op := Op.pick (Operand.tmp 66) (Operand.tmp 78) (Operand.const (Value.bool false)), type := 4, pos := "law.go:201", after := #[{ on := 5, ground := Ground.data }, { on := 17, ground := Ground.data }], guard := none }) (v := ?_) rfl (by kernel_rfl) (by kernel_rfl) (by kernel_rfl) (fun _ _ _ h => h) (Or.inl ⟨by rfl, ?_⟩) (by assumption) ?_
                rotate_left 1
                · (intro w hSw; (try dsimp only at hSw); go_simp; try with_reducible rfl)
                try simp only [Act.put, List.setIfInBounds_toArray, List.set_cons_zero, List.set_cons_succ]
                refine wpAnyH_take (i := 19) (oi := { dst := some 12, op := Op.assign (Operand.tmp 79), type := 4, pos := "law.go:201", after := #[{ on := 18, ground := Ground.data }, { on := 14, ground := Ground.chain }, { on := 0, ground := Ground.phase }, { on := 1, ground := Ground.phase }, { on := 2, ground := Ground.phase }, { on := 3, ground := Ground.phase }, { on := 4, ground := Ground.phase }, { on := 5, ground := Ground.phase }, { on := 6, ground := Ground.phase }, { on := 7, ground := Ground.phase }, { on := 8, ground := Ground.phase }, { on := 9, ground := Ground.phase }, { on := 10, ground := Ground.phase }, { on := 11, ground := Ground.phase }, { on := 12, ground := Ground.phase }, { on := 13, ground := Ground.phase }, { on := 14, ground := Ground.phase }, { on := 15, ground := Ground.phase }, { on := 16, ground := Ground.phase }, { on := 17, ground := Ground.phase }, { on := 18, ground := Ground.phase }], guard := none }) (v := ?_) rfl (by kernel_rfl) (by kernel_rfl) (by kernel_rfl) (fun _ _ _ h => h) (Or.inl ⟨by rfl, ?_⟩) (by assumption) ?_
                rotate_left 1
                · (intro w hSw; (try dsimp only at hSw); go_simp; try with_reducible rfl)
                try simp only [Act.put, List.setIfInBounds_toArray, List.set_cons_zero, List.set_cons_succ]
                refine wpAnyH_done (by kernel_rfl) ?_ _
                go_wp2_with fail
                go_meet
                refine ⟨by rw [HZA.out, str_eq], ?_⟩
                first | exact hB1 | exact hB1.alloc hB1.size _
              · skip
                refine AllReadyH.cons (o := { dst := some 77, op := Op.convert 43 9 (Operand.tmp 76), type := 9, pos := "law.go:201", after := #[{ on := 15, ground := Ground.data }, { on := 5, ground := Ground.guard }], guard := some (5, true) }) rfl (fun K hK => ?_) AllReadyH.nil
                go_simp
                refine hK.out _ _ ?_ (fun hHeld => ?_)
                · exact KC.out _ (BA.out _)
                clear hK K
                try simp only [Act.put, List.setIfInBounds_toArray, List.set_cons_zero, List.set_cons_succ]
                refine wpAnyH_ready (rs := [14]) (by kernel_rfl) (by simp) ?_
                refine AllReadyH.cons (o := { dst := some 75, op := Op.call { callee := Callee.value (Operand.func 13), args := #[Operand.tmp 74], argTypes := #[9] }, type := 9, pos := "law.go:201", after := #[{ on := 13, ground := Ground.data }, { on := 5, ground := Ground.chain }, { on := 5, ground := Ground.guard }], guard := some (5, true) }) rfl (fun K hK => ?_) AllReadyH.nil
                go_simp
                go_at_call 13
                with_reducible refine (C1.out _ (BA.out _)).mono ?_
                rintro e w1 ⟨rfl, hb1⟩
                have hB1 := below1 (BA.out _) hb1
                refine hK.out _ _ ?_ (fun hHeld => ?_)
                · exact KC.out _ hB1
                clear hK K
                try simp only [Act.put, List.setIfInBounds_toArray, List.set_cons_zero, List.set_cons_succ]
                refine wpAnyH_take (i := 17) (oi := { dst := some 78, op := Op.binOp BinOp.eql 9 (Operand.tmp 75) (Operand.tmp 77) 9, type := 4, pos := "law.go:201", after := #[{ on := 14, ground := Ground.data }, { on := 16, ground := Ground.data }, { on := 5, ground := Ground.guard }], guard := some (5, true) }) (v := ?_) rfl (by kernel_rfl) (by kernel_rfl) (by kernel_rfl) (fun _ _ _ h => h) (Or.inl ⟨by rfl, ?_⟩) (by assumption) ?_
                rotate_left 1
                · (intro w hSw; (try dsimp only at hSw); go_simp; try with_reducible rfl)
                try simp only [Act.put, List.setIfInBounds_toArray, List.set_cons_zero, List.set_cons_succ]
                refine wpAnyH_take (i := 18) (oi := { dst := some 79, op := Op.pick (Operand.tmp 66) (Operand.tmp 78) (Operand.const (Value.bool false)), type := 4, pos := "law.go:201", after := #[{ on := 5, ground := Ground.data }, { on := 17, ground := Ground.data }], guard := none }) (v := ?_) rfl (by kernel_rfl) (by kernel_rfl) (by kernel_rfl) (fun _ _ _ h => h) (Or.inl ⟨by rfl, ?_⟩) (by assumption) ?_
                rotate_left 1
                · (intro w hSw; (try dsimp only at hSw); go_simp; try with_reducible rfl)
                try simp only [Act.put, List.setIfInBounds_toArray, List.set_cons_zero, List.set_cons_succ]
                refine wpAnyH_take (i := 19) (oi := { dst := some 12, op := Op.assign (Operand.tmp 79), type := 4, pos := "law.go:201", after := #[{ on := 18, ground := Ground.data }, { on := 14, ground := Ground.chain }, { on := 0, ground := Ground.phase }, { on := 1, ground := Ground.phase }, { on := 2, ground := Ground.phase }, { on := 3, ground := Ground.phase }, { on := 4, ground := Ground.phase }, { on := 5, ground := Ground.phase }, { on := 6, ground := Ground.phase }, { on := 7, ground := Ground.phase }, { on := 8, ground := Ground.phase }, { on := 9, ground := Ground.phase }, { on := 10, ground := Ground.phase }, { on := 11, ground := Ground.phase }, { on := 12, ground := Ground.phase }, { on := 13, ground := Ground.phase }, { on := 14, ground := Ground.phase }, { on := 15, ground := Ground.phase }, { on := 16, ground := Ground.phase }, { on := 17, ground := Ground.phase }, { on := 18, ground := Ground.phase }], guard := none }) (v := ?_) rfl (by kernel_rfl) (by kernel_rfl) (by kernel_rfl) (fun _ _ _ h => h) (Or.inl ⟨by rfl, ?_⟩) (by assumption) ?_
                rotate_left 1
                · (intro w hSw; (try dsimp only at hSw); go_simp; try with_reducible rfl)
                try simp only [Act.put, List.setIfInBounds_toArray, List.set_cons_zero, List.set_cons_succ]
                refine wpAnyH_done (by kernel_rfl) ?_ _
                go_wp2_with fail
                go_meet
                refine ⟨by rw [HZA.out, str_eq], ?_⟩
                first | exact hB1 | exact hB1.alloc hB1.size _
          case rest =>
            obtain ⟨rfl, hbx⟩ := hcut
            have HBX := Lib.hid (HWB.out.trans (hbx.mono HWB.out.size))
            have HSX2 := Lib.hid (HSX.out.below hbx); have HSY2 := Lib.hid (HSY.out.below hbx)
            clear hbx
            go_wp2_with fail
            refine (collide_any _ _ A1.length B1.length c6 c7 A1 B1 (by omega) (by omega) _ HSX2.out HSY2.out Z1.out Z2.out (HT.out _ HBX.out)).mono ?_
            rintro e w9 ⟨rfl, hb9⟩
            have HB9 := Lib.hid (HBX.out.trans (hb9.mono HBX.out.size))
            clear hb9
            cases hco : collB A1 B1 with
            | true =>
              clear hco
              go_wp2_with fail
              go_ret
              exact ⟨rfl, HB9.out⟩
            | false =>
              have hzz := HD.out.resolve_left (by rw [hco]; decide)
              rw [hzz]
              clear hco
              go_wp2_with fail
              go_ret
              exact ⟨rfl, HB9.out⟩
        · obtain ⟨g, o, ge, hg, hcs⟩ := strs_out HSX.out (show B1.length < A1.length by omega)
          have hc0 := hcs B1.length (by omega)
          have hmem : A1.getD B1.length ByteArray.empty ∈ A1 := by
            rw [List.getD_eq_getElem?_getD, List.getElem?_eq_getElem (by omega)]; exact List.getElem_mem _
          have HSZ := Lib.hid (Z1.out _ hmem)
          have HZA := Lib.hid (show zeroAt A1 B1 = decide (dg (A1.getD B1.length ByteArray.empty) = zer32) by
            unfold zeroAt
            rw [decide_eq_true (show A1.length ≠ B1.length by omega), if_neg (by omega), show min A1.length B1.length = B1.length by omega]; rfl)
          clear hcs hmem
          generalize A1.getD B1.length ByteArray.empty = z at *
          have hg1 : decide (A1.length < B1.length) = false := by simp; omega
          have hne : ((A1.length : Int) != B1.length) = true := by rw [bne_iff_ne]; omega
          have hmin : min (A1.length : Int) B1.length = B1.length := by omega
          have hl0 : (0 : Int) ≤ B1.length := by omega
          have hl1 : (B1.length : Int) < A1.length := by omega
          have hmk : ∀ W : World, (Instr.makeSlice 43 (.int .i64 32) (.int .i64 32)).run Tryd.prog W = .ok (.slice (some ⟨W.heap.size, 0, none⟩) 32 32) (W.alloc (.cells (madeCells #[.int .u8 0] 32) 5)) := fun W => run_make_row' (P := Tryd.prog) 43 5 (.int .u8 0) 1 Tryd.underlying43 info5 rfl .i64 .i64 32 (by omega) (by omega) W
          have HCV := Lib.hid (fun W hb => conv32 w8 W ((Below.refl _ _).drew.trans hb))
          have hcvD := fun W => conv32 W _ (Below.refl _ _).drew
          have hcv1 := fun W => conv32 W _ (Below.refl _ _)
          have HWB := Lib.hid hBW; have HTW := Lib.hid (HT.out _ hBW)
          have C1 := Lib.hid (fun W (hW : Below w8.heap.size w8 W) => sum_any z HSZ.out W (HTW.out.below hW (by have := hBW.size; omega)))
          have KC := Lib.hid (fun W (hW : Below w8.heap.size w8 W) => (hW.cell (p := ⟨g, o + B1.length, none⟩) hg).trans hc0)
          have BA := Lib.hid (fun o => show Below w8.heap.size w8 ((w8.alloc o).drew) from ((Below.refl _ _).alloc (Nat.le_refl _) o).drew)
          have BD := Lib.hid (show Below w8.heap.size w8 w8.drew from (Below.refl _ _).drew)
          have kcD := KC.out _ BD.out
          have kcA := fun o => KC.out _ (BA.out o)
          subst ge
          go_wp2_with fail
          go_cut [12] (fun s12 wx => s12 = .bool (zeroAt A1 B1) ∧ Below w8.heap.size w8 wx)
          case first =>
            have hbd : Below w8.heap.size w8 w8.drew := (Below.refl _ _).drew
            refine wp_region_held_drew (S := fun w' => w'.cell? ⟨g, o + B1.length, none⟩ = some (.string z)) (by kernel_rfl) kcD (fun hHeld => ?_)
            refine wpAnyH_take (i := 0) (oi := { dst := some 61, op := Op.move (Operand.tmp 6), type := 26, pos := "law.go:201", after := #[], guard := none }) (v := ?_) rfl (by kernel_rfl) (by kernel_rfl) (by kernel_rfl) (fun _ _ _ h => h) (Or.inl ⟨by rfl, ?_⟩) (by assumption) ?_
            rotate_left 1
            · (intro w hSw; (try dsimp only at hSw); go_simp; try with_reducible rfl)
            try simp only [Act.put, List.setIfInBounds_toArray, List.set_cons_zero, List.set_cons_succ]
            refine wpAnyH_take (i := 1) (oi := { dst := some 62, op := Op.call { callee := Callee.builtin Builtin.len, args := #[Operand.tmp 61], argTypes := #[26] }, type := 3, pos := "law.go:201", after := #[{ on := 0, ground := Ground.data }], guard := none }) (v := ?_) rfl (by kernel_rfl) (by kernel_rfl) (by kernel_rfl) (fun _ _ _ h => h) (Or.inl ⟨by rfl, ?_⟩) (by assumption) ?_
            rotate_left 1
            · (intro w hSw; (try dsimp only at hSw); go_simp; try with_reducible rfl)
            try simp only [Act.put, List.setIfInBounds_toArray, List.set_cons_zero, List.set_cons_succ]
            refine wpAnyH_take (i := 2) (oi := { dst := some 63, op := Op.move (Operand.tmp 8), type := 26, pos := "law.go:201", after := #[], guard := none }) (v := ?_) rfl (by kernel_rfl) (by kernel_rfl) (by kernel_rfl) (fun _ _ _ h => h) (Or.inl ⟨by rfl, ?_⟩) (by assumption) ?_
            rotate_left 1
            · (intro w hSw; (try dsimp only at hSw); go_simp; try with_reducible rfl)
            try simp only [Act.put, List.setIfInBounds_toArray, List.set_cons_zero, List.set_cons_succ]
            refine wpAnyH_take (i := 3) (oi := { dst := some 64, op := Op.call { callee := Callee.builtin Builtin.len, args := #[Operand.tmp 63], argTypes := #[26] }, type := 3, pos := "law.go:201", after := #[{ on := 2, ground := Ground.data }], guard := none }) (v := ?_) rfl (by kernel_rfl) (by kernel_rfl) (by kernel_rfl) (fun _ _ _ h => h) (Or.inl ⟨by rfl, ?_⟩) (by assumption) ?_
            rotate_left 1
            · (intro w hSw; (try dsimp only at hSw); go_simp; try with_reducible rfl)
            try simp only [Act.put, List.setIfInBounds_toArray, List.set_cons_zero, List.set_cons_succ]
            refine wpAnyH_take (i := 4) (oi := { dst := some 65, op := Op.binOp BinOp.neq 3 (Operand.tmp 62) (Operand.tmp 64) 3, type := 4, pos := "law.go:201", after := #[{ on := 1, ground := Ground.data }, { on := 3, ground := Ground.data }], guard := none }) (v := ?_) rfl (by kernel_rfl) (by kernel_rfl) (by kernel_rfl) (fun _ _ _ h => h) (Or.inl ⟨by rfl, ?_⟩) (by assumption) ?_
            rotate_left 1
            · (intro w hSw; (try dsimp only at hSw); go_simp; try with_reducible rfl)
            try simp only [Act.put, List.setIfInBounds_toArray, List.set_cons_zero, List.set_cons_succ]
            refine wpAnyH_take (i := 5) (oi := { dst := some 66, op := Op.move (Operand.tmp 65), type := 4, pos := "law.go:201", after := #[{ on := 4, ground := Ground.data }], guard := none }) (v := ?_) rfl (by kernel_rfl) (by kernel_rfl) (by kernel_rfl) (fun _ _ _ h => h) (Or.inl ⟨by rfl, ?_⟩) (by assumption) ?_
            rotate_left 1
            · (intro w hSw; (try dsimp only at hSw); go_simp; try with_reducible rfl)
            try simp only [Act.put, List.setIfInBounds_toArray, List.set_cons_zero, List.set_cons_succ]
            refine wpAnyH_take (i := 6) (oi := { dst := some 67, op := Op.move (Operand.tmp 11), type := 26, pos := "law.go:201", after := #[{ on := 5, ground := Ground.guard }], guard := some (5, true) }) (v := ?_) rfl (by kernel_rfl) (by kernel_rfl) (by kernel_rfl) (fun _ _ _ h => h) (Or.inl ⟨by rfl, ?_⟩) (by assumption) ?_
            rotate_left 1
            · (intro w hSw; (try dsimp only at hSw); go_simp; try with_reducible rfl)
            try simp only [Act.put, List.setIfInBounds_toArray, List.set_cons_zero, List.set_cons_succ]
            refine wpAnyH_take (i := 7) (oi := { dst := some 68, op := Op.move (Operand.tmp 6), type := 26, pos := "law.go:201", after := #[{ on := 5, ground := Ground.guard }], guard := some (5, true) }) (v := ?_) rfl (by kernel_rfl) (by kernel_rfl) (by kernel_rfl) (fun _ _ _ h => h) (Or.inl ⟨by rfl, ?_⟩) (by assumption) ?_
            rotate_left 1
            · (intro w hSw; (try dsimp only at hSw); go_simp; try with_reducible rfl)
            try simp only [Act.put, List.setIfInBounds_toArray, List.set_cons_zero, List.set_cons_succ]
            refine wpAnyH_take (i := 8) (oi := { dst := some 69, op := Op.call { callee := Callee.builtin Builtin.len, args := #[Operand.tmp 68], argTypes := #[26] }, type := 3, pos := "law.go:201", after := #[{ on := 7, ground := Ground.data }, { on := 5, ground := Ground.guard }], guard := some (5, true) }) (v := ?_) rfl (by kernel_rfl) (by kernel_rfl) (by kernel_rfl) (fun _ _ _ h => h) (Or.inl ⟨by rfl, ?_⟩) (by assumption) ?_
            rotate_left 1
            · (intro w hSw; (try dsimp only at hSw); go_simp; try with_reducible rfl)
            try simp only [Act.put, List.setIfInBounds_toArray, List.set_cons_zero, List.set_cons_succ]
            refine wpAnyH_take (i := 9) (oi := { dst := some 70, op := Op.move (Operand.tmp 8), type := 26, pos := "law.go:201", after := #[{ on := 5, ground := Ground.guard }], guard := some (5, true) }) (v := ?_) rfl (by kernel_rfl) (by kernel_rfl) (by kernel_rfl) (fun _ _ _ h => h) (Or.inl ⟨by rfl, ?_⟩) (by assumption) ?_
            rotate_left 1
            · (intro w hSw; (try dsimp only at hSw); go_simp; try with_reducible rfl)
            try simp only [Act.put, List.setIfInBounds_toArray, List.set_cons_zero, List.set_cons_succ]
            refine wpAnyH_take (i := 10) (oi := { dst := some 71, op := Op.call { callee := Callee.builtin Builtin.len, args := #[Operand.tmp 70], argTypes := #[26] }, type := 3, pos := "law.go:201", after := #[{ on := 9, ground := Ground.data }, { on := 5, ground := Ground.guard }], guard := some (5, true) }) (v := ?_) rfl (by kernel_rfl) (by kernel_rfl) (by kernel_rfl) (fun _ _ _ h => h) (Or.inl ⟨by rfl, ?_⟩) (by assumption) ?_
            rotate_left 1
            · (intro w hSw; (try dsimp only at hSw); go_simp; try with_reducible rfl)
            try simp only [Act.put, List.setIfInBounds_toArray, List.set_cons_zero, List.set_cons_succ]
            refine wpAnyH_take (i := 11) (oi := { dst := some 72, op := Op.call { callee := Callee.builtin Builtin.min, args := #[Operand.tmp 69, Operand.tmp 71], argTypes := #[3, 3] }, type := 3, pos := "law.go:201", after := #[{ on := 8, ground := Ground.data }, { on := 10, ground := Ground.data }, { on := 5, ground := Ground.guard }], guard := some (5, true) }) (v := ?_) rfl (by kernel_rfl) (by kernel_rfl) (by kernel_rfl) (fun _ _ _ h => h) (Or.inl ⟨by rfl, ?_⟩) (by assumption) ?_
            rotate_left 1
            · (intro w hSw; (try dsimp only at hSw); go_simp; try with_reducible rfl)
            try simp only [Act.put, List.setIfInBounds_toArray, List.set_cons_zero, List.set_cons_succ]
            refine wpAnyH_take (i := 12) (oi := { dst := some 73, op := Op.indexAddr 26 (Operand.tmp 67) (Operand.tmp 72), type := 0, pos := "law.go:201", after := #[{ on := 6, ground := Ground.data }, { on := 11, ground := Ground.data }, { on := 5, ground := Ground.guard }], guard := some (5, true) }) (v := ?_) rfl (by kernel_rfl) (by kernel_rfl) (by kernel_rfl) (fun _ _ _ h => h) (Or.inl ⟨by rfl, ?_⟩) (by assumption) ?_
            rotate_left 1
            · (intro w hSw; (try dsimp only at hSw); go_simp; try with_reducible rfl)
            try simp only [Act.put, List.setIfInBounds_toArray, List.set_cons_zero, List.set_cons_succ]
            refine wpAnyH_take (i := 13) (oi := { dst := some 74, op := Op.load 9 (Operand.tmp 73), type := 9, pos := "law.go:201", after := #[{ on := 12, ground := Ground.data }, { on := 5, ground := Ground.guard }], guard := some (5, true) }) (v := ?_) rfl (by kernel_rfl) (by kernel_rfl) (by kernel_rfl) (fun _ _ _ h => h) (Or.inl ⟨by rfl, ?_⟩) (by assumption) ?_
            rotate_left 1
            · (intro w hSw; (try dsimp only at hSw); go_simp; try with_reducible rfl)
            try simp only [Act.put, List.setIfInBounds_toArray, List.set_cons_zero, List.set_cons_succ]
            refine wpAnyH_ready (rs := [14, 15]) (by kernel_rfl) (by simp) ?_
            refine AllReadyH.cons (o := { dst := some 75, op := Op.call { callee := Callee.value (Operand.func 13), args := #[Operand.tmp 74], argTypes := #[9] }, type := 9, pos := "law.go:201", after := #[{ on := 13, ground := Ground.data }, { on := 5, ground := Ground.chain }, { on := 5, ground := Ground.guard }], guard := some (5, true) }) rfl (fun K hK => ?_) ?_
            · skip
              go_simp
              go_at_call 13
              with_reducible refine (C1.out _ (hbd)).mono ?_
              rintro e w1 ⟨rfl, hb1⟩
              have hB1 := below1 (hbd) hb1
              refine hK.out _ _ ?_ (fun hHeld => ?_)
              · exact KC.out _ hB1
              clear hK K
              try simp only [Act.put, List.setIfInBounds_toArray, List.set_cons_zero, List.set_cons_succ]
              refine wpAnyH_ready (rs := [15]) (by kernel_rfl) (by simp) ?_
              refine AllReadyH.cons (o := { dst := some 76, op := Op.makeSlice 43 (Operand.const (Value.int IntKind.i64 32)) (Operand.const (Value.int IntKind.i64 32)), type := 43, pos := "law.go:201", after := #[{ on := 5, ground := Ground.guard }], guard := some (5, true) }) rfl (fun K hK => ?_) AllReadyH.nil
              go_simp
              refine hK.out _ _ ?_ (fun hHeld => ?_)
              · exact KC.out _ (hB1.alloc hB1.size _)
              clear hK K
              try simp only [Act.put, List.setIfInBounds_toArray, List.set_cons_zero, List.set_cons_succ]
              refine wpAnyH_ready (rs := [16]) (by kernel_rfl) (by simp) ?_
              refine AllReadyH.cons (o := { dst := some 77, op := Op.convert 43 9 (Operand.tmp 76), type := 9, pos := "law.go:201", after := #[{ on := 15, ground := Ground.data }, { on := 5, ground := Ground.guard }], guard := some (5, true) }) rfl (fun K hK => ?_) AllReadyH.nil
              go_simp
              refine hK.out _ _ ?_ (fun hHeld => ?_)
              · exact KC.out _ (hB1.alloc hB1.size _)
              clear hK K
              try simp only [Act.put, List.setIfInBounds_toArray, List.set_cons_zero, List.set_cons_succ]
              refine wpAnyH_take (i := 17) (oi := { dst := some 78, op := Op.binOp BinOp.eql 9 (Operand.tmp 75) (Operand.tmp 77) 9, type := 4, pos := "law.go:201", after := #[{ on := 14, ground := Ground.data }, { on := 16, ground := Ground.data }, { on := 5, ground := Ground.guard }], guard := some (5, true) }) (v := ?_) rfl (by kernel_rfl) (by kernel_rfl) (by kernel_rfl) (fun _ _ _ h => h) (Or.inl ⟨by rfl, ?_⟩) (by assumption) ?_
              rotate_left 1
              · (intro w hSw; (try dsimp only at hSw); go_simp; try with_reducible rfl)
              try simp only [Act.put, List.setIfInBounds_toArray, List.set_cons_zero, List.set_cons_succ]
              refine wpAnyH_take (i := 18) (oi := { dst := some 79, op := Op.pick (Operand.tmp 66) (Operand.tmp 78) (Operand.const (Value.bool false)), type := 4, pos := "law.go:201", after := #[{ on := 5, ground := Ground.data }, { on := 17, ground := Ground.data }], guard := none }) (v := ?_) rfl (by kernel_rfl) (by kernel_rfl) (by kernel_rfl) (fun _ _ _ h => h) (Or.inl ⟨by rfl, ?_⟩) (by assumption) ?_
              rotate_left 1
              · (intro w hSw; (try dsimp only at hSw); go_simp; try with_reducible rfl)
              try simp only [Act.put, List.setIfInBounds_toArray, List.set_cons_zero, List.set_cons_succ]
              refine wpAnyH_take (i := 19) (oi := { dst := some 12, op := Op.assign (Operand.tmp 79), type := 4, pos := "law.go:201", after := #[{ on := 18, ground := Ground.data }, { on := 14, ground := Ground.chain }, { on := 0, ground := Ground.phase }, { on := 1, ground := Ground.phase }, { on := 2, ground := Ground.phase }, { on := 3, ground := Ground.phase }, { on := 4, ground := Ground.phase }, { on := 5, ground := Ground.phase }, { on := 6, ground := Ground.phase }, { on := 7, ground := Ground.phase }, { on := 8, ground := Ground.phase }, { on := 9, ground := Ground.phase }, { on := 10, ground := Ground.phase }, { on := 11, ground := Ground.phase }, { on := 12, ground := Ground.phase }, { on := 13, ground := Ground.phase }, { on := 14, ground := Ground.phase }, { on := 15, ground := Ground.phase }, { on := 16, ground := Ground.phase }, { on := 17, ground := Ground.phase }, { on := 18, ground := Ground.phase }], guard := none }) (v := ?_) rfl (by kernel_rfl) (by kernel_rfl) (by kernel_rfl) (fun _ _ _ h => h) (Or.inl ⟨by rfl, ?_⟩) (by assumption) ?_
              rotate_left 1
              · (intro w hSw; (try dsimp only at hSw); go_simp; try with_reducible rfl)
              try simp only [Act.put, List.setIfInBounds_toArray, List.set_cons_zero, List.set_cons_succ]
              refine wpAnyH_done (by kernel_rfl) ?_ _
              go_wp2_with fail
              go_meet
              refine ⟨by rw [HZA.out, str_eq], ?_⟩
              first | exact hB1 | exact hB1.alloc hB1.size _
            · skip
              refine AllReadyH.cons (o := { dst := some 76, op := Op.makeSlice 43 (Operand.const (Value.int IntKind.i64 32)) (Operand.const (Value.int IntKind.i64 32)), type := 43, pos := "law.go:201", after := #[{ on := 5, ground := Ground.guard }], guard := some (5, true) }) rfl (fun K hK => ?_) AllReadyH.nil
              go_simp
              refine hK.out _ _ ?_ (fun hHeld => ?_)
              · exact KC.out _ (BA.out _)
              clear hK K
              try simp only [Act.put, List.setIfInBounds_toArray, List.set_cons_zero, List.set_cons_succ]
              refine wpAnyH_ready (rs := [14, 16]) (by kernel_rfl) (by simp) ?_
              refine AllReadyH.cons (o := { dst := some 75, op := Op.call { callee := Callee.value (Operand.func 13), args := #[Operand.tmp 74], argTypes := #[9] }, type := 9, pos := "law.go:201", after := #[{ on := 13, ground := Ground.data }, { on := 5, ground := Ground.chain }, { on := 5, ground := Ground.guard }], guard := some (5, true) }) rfl (fun K hK => ?_) ?_
              · skip
                go_simp
                go_at_call 13
                with_reducible refine (C1.out _ (BA.out _)).mono ?_
                rintro e w1 ⟨rfl, hb1⟩
                have hcv5 := HCV.out _ hb1
                have hB1 := below1 (BA.out _) hb1
                refine hK.out _ _ ?_ (fun hHeld => ?_)
                · exact KC.out _ hB1
                clear hK K
                try simp only [Act.put, List.setIfInBounds_toArray, List.set_cons_zero, List.set_cons_succ]
                refine wpAnyH_ready (rs := [16]) (by kernel_rfl) (by simp) ?_
                refine AllReadyH.cons (o := { dst := some 77, op := Op.convert 43 9 (Operand.tmp 76), type := 9, pos := "law.go:201", after := #[{ on := 15, ground := Ground.data }, { on := 5, ground := Ground.guard }], guard := some (5, true) }) rfl (fun K hK => ?_) AllReadyH.nil
                go_simp
                refine hK.out _ _ ?_ (fun hHeld => ?_)
                · exact KC.out _ hB1
                clear hK K
                try simp only [Act.put, List.setIfInBounds_toArray, List.set_cons_zero, List.set_cons_succ]
                refine wpAnyH_take (i := 17) (oi := { dst := some 78, op := Op.binOp BinOp.eql 9 (Operand.tmp 75) (Operand.tmp 77) 9, type := 4, pos := "law.go:201", after := #[{ on := 14, ground := Ground.data }, { on := 16, ground := Ground.data }, { on := 5, ground := Ground.guard }], guard := some (5, true) }) (v := ?_) rfl (by kernel_rfl) (by kernel_rfl) (by kernel_rfl) (fun _ _ _ h => h) (Or.inl ⟨by rfl, ?_⟩) (by assumption) ?_
                rotate_left 1
                · (intro w hSw; (try dsimp only at hSw); go_simp; try with_reducible rfl)
                try simp only [Act.put, List.setIfInBounds_toArray, List.set_cons_zero, List.set_cons_succ]
                refine wpAnyH_take (i := 18) (oi := { dst := some 79, op := Op.pick (Operand.tmp 66) (Operand.tmp 78) (Operand.const (Value.bool false)), type := 4, pos := "law.go:201", after := #[{ on := 5, ground := Ground.data }, { on := 17, ground := Ground.data }], guard := none }) (v := ?_) rfl (by kernel_rfl) (by kernel_rfl) (by kernel_rfl) (fun _ _ _ h => h) (Or.inl ⟨by rfl, ?_⟩) (by assumption) ?_
                rotate_left 1
                · (intro w hSw; (try dsimp only at hSw); go_simp; try with_reducible rfl)
                try simp only [Act.put, List.setIfInBounds_toArray, List.set_cons_zero, List.set_cons_succ]
                refine wpAnyH_take (i := 19) (oi := { dst := some 12, op := Op.assign (Operand.tmp 79), type := 4, pos := "law.go:201", after := #[{ on := 18, ground := Ground.data }, { on := 14, ground := Ground.chain }, { on := 0, ground := Ground.phase }, { on := 1, ground := Ground.phase }, { on := 2, ground := Ground.phase }, { on := 3, ground := Ground.phase }, { on := 4, ground := Ground.phase }, { on := 5, ground := Ground.phase }, { on := 6, ground := Ground.phase }, { on := 7, ground := Ground.phase }, { on := 8, ground := Ground.phase }, { on := 9, ground := Ground.phase }, { on := 10, ground := Ground.phase }, { on := 11, ground := Ground.phase }, { on := 12, ground := Ground.phase }, { on := 13, ground := Ground.phase }, { on := 14, ground := Ground.phase }, { on := 15, ground := Ground.phase }, { on := 16, ground := Ground.phase }, { on := 17, ground := Ground.phase }, { on := 18, ground := Ground.phase }], guard := none }) (v := ?_) rfl (by kernel_rfl) (by kernel_rfl) (by kernel_rfl) (fun _ _ _ h => h) (Or.inl ⟨by rfl, ?_⟩) (by assumption) ?_
                rotate_left 1
                · (intro w hSw; (try dsimp only at hSw); go_simp; try with_reducible rfl)
                try simp only [Act.put, List.setIfInBounds_toArray, List.set_cons_zero, List.set_cons_succ]
                refine wpAnyH_done (by kernel_rfl) ?_ _
                go_wp2_with fail
                go_meet
                refine ⟨by rw [HZA.out, str_eq], ?_⟩
                first | exact hB1 | exact hB1.alloc hB1.size _
              · skip
                refine AllReadyH.cons (o := { dst := some 77, op := Op.convert 43 9 (Operand.tmp 76), type := 9, pos := "law.go:201", after := #[{ on := 15, ground := Ground.data }, { on := 5, ground := Ground.guard }], guard := some (5, true) }) rfl (fun K hK => ?_) AllReadyH.nil
                go_simp
                refine hK.out _ _ ?_ (fun hHeld => ?_)
                · exact KC.out _ (BA.out _)
                clear hK K
                try simp only [Act.put, List.setIfInBounds_toArray, List.set_cons_zero, List.set_cons_succ]
                refine wpAnyH_ready (rs := [14]) (by kernel_rfl) (by simp) ?_
                refine AllReadyH.cons (o := { dst := some 75, op := Op.call { callee := Callee.value (Operand.func 13), args := #[Operand.tmp 74], argTypes := #[9] }, type := 9, pos := "law.go:201", after := #[{ on := 13, ground := Ground.data }, { on := 5, ground := Ground.chain }, { on := 5, ground := Ground.guard }], guard := some (5, true) }) rfl (fun K hK => ?_) AllReadyH.nil
                go_simp
                go_at_call 13
                with_reducible refine (C1.out _ (BA.out _)).mono ?_
                rintro e w1 ⟨rfl, hb1⟩
                have hB1 := below1 (BA.out _) hb1
                refine hK.out _ _ ?_ (fun hHeld => ?_)
                · exact KC.out _ hB1
                clear hK K
                try simp only [Act.put, List.setIfInBounds_toArray, List.set_cons_zero, List.set_cons_succ]
                refine wpAnyH_take (i := 17) (oi := { dst := some 78, op := Op.binOp BinOp.eql 9 (Operand.tmp 75) (Operand.tmp 77) 9, type := 4, pos := "law.go:201", after := #[{ on := 14, ground := Ground.data }, { on := 16, ground := Ground.data }, { on := 5, ground := Ground.guard }], guard := some (5, true) }) (v := ?_) rfl (by kernel_rfl) (by kernel_rfl) (by kernel_rfl) (fun _ _ _ h => h) (Or.inl ⟨by rfl, ?_⟩) (by assumption) ?_
                rotate_left 1
                · (intro w hSw; (try dsimp only at hSw); go_simp; try with_reducible rfl)
                try simp only [Act.put, List.setIfInBounds_toArray, List.set_cons_zero, List.set_cons_succ]
                refine wpAnyH_take (i := 18) (oi := { dst := some 79, op := Op.pick (Operand.tmp 66) (Operand.tmp 78) (Operand.const (Value.bool false)), type := 4, pos := "law.go:201", after := #[{ on := 5, ground := Ground.data }, { on := 17, ground := Ground.data }], guard := none }) (v := ?_) rfl (by kernel_rfl) (by kernel_rfl) (by kernel_rfl) (fun _ _ _ h => h) (Or.inl ⟨by rfl, ?_⟩) (by assumption) ?_
                rotate_left 1
                · (intro w hSw; (try dsimp only at hSw); go_simp; try with_reducible rfl)
                try simp only [Act.put, List.setIfInBounds_toArray, List.set_cons_zero, List.set_cons_succ]
                refine wpAnyH_take (i := 19) (oi := { dst := some 12, op := Op.assign (Operand.tmp 79), type := 4, pos := "law.go:201", after := #[{ on := 18, ground := Ground.data }, { on := 14, ground := Ground.chain }, { on := 0, ground := Ground.phase }, { on := 1, ground := Ground.phase }, { on := 2, ground := Ground.phase }, { on := 3, ground := Ground.phase }, { on := 4, ground := Ground.phase }, { on := 5, ground := Ground.phase }, { on := 6, ground := Ground.phase }, { on := 7, ground := Ground.phase }, { on := 8, ground := Ground.phase }, { on := 9, ground := Ground.phase }, { on := 10, ground := Ground.phase }, { on := 11, ground := Ground.phase }, { on := 12, ground := Ground.phase }, { on := 13, ground := Ground.phase }, { on := 14, ground := Ground.phase }, { on := 15, ground := Ground.phase }, { on := 16, ground := Ground.phase }, { on := 17, ground := Ground.phase }, { on := 18, ground := Ground.phase }], guard := none }) (v := ?_) rfl (by kernel_rfl) (by kernel_rfl) (by kernel_rfl) (fun _ _ _ h => h) (Or.inl ⟨by rfl, ?_⟩) (by assumption) ?_
                rotate_left 1
                · (intro w hSw; (try dsimp only at hSw); go_simp; try with_reducible rfl)
                try simp only [Act.put, List.setIfInBounds_toArray, List.set_cons_zero, List.set_cons_succ]
                refine wpAnyH_done (by kernel_rfl) ?_ _
                go_wp2_with fail
                go_meet
                refine ⟨by rw [HZA.out, str_eq], ?_⟩
                first | exact hB1 | exact hB1.alloc hB1.size _
          case rest =>
            obtain ⟨rfl, hbx⟩ := hcut
            have HBX := Lib.hid (HWB.out.trans (hbx.mono HWB.out.size))
            have HSX2 := Lib.hid (HSX.out.below hbx); have HSY2 := Lib.hid (HSY.out.below hbx)
            clear hbx
            go_wp2_with fail
            refine (collide_any _ _ A1.length B1.length c6 c7 A1 B1 (by omega) (by omega) _ HSX2.out HSY2.out Z1.out Z2.out (HT.out _ HBX.out)).mono ?_
            rintro e w9 ⟨rfl, hb9⟩
            have HB9 := Lib.hid (HBX.out.trans (hb9.mono HBX.out.size))
            clear hb9
            cases hco : collB A1 B1 with
            | true =>
              clear hco
              go_wp2_with fail
              go_ret
              exact ⟨rfl, HB9.out⟩
            | false =>
              have hzz := HD.out.resolve_left (by rw [hco]; decide)
              rw [hzz]
              clear hco
              go_wp2_with fail
              go_ret
              exact ⟨rfl, HB9.out⟩
    · have hh1 : (A2.toList == B2.toList) = false := by rw [str_eq]; simpa using hAB
      have hh2 : (A2.toList != B2.toList) = true := by rw [bne, hh1]; rfl
      have HBW := Lib.hid hBW; clear hBW hPQ hAB hh
      go_wp2_with fail
      go_ret
      exact ⟨rfl, HBW.out⟩
end Go.Proofs.YtiilkjonbfllfaaDoor
