/- The descent to a beginning, walked: DesE's walk with the other test. -/
import Derived.Test.YtiilkjonbfllfaaDoorDesE
namespace Go.Proofs.YtiilkjonbfllfaaDoor
open Go.RowKit

theorem endB_any (m a b Bm : Nat) (_hm : m ≤ 9223372036854775807) (_hb : b ≤ 9223372036854775807) (w : World) (hc : w.cell? ⟨Bm, 0, none⟩ = some (i64V m)) :
    Calls Tryd.prog 64 #[.agg #[i64V a, i64V b], .pointer (some ⟨Bm, 0, none⟩)] w fun e w' => e = .returned (.bool (stopB m a b)) ∧ Below w.heap.size w w' := by
  have hs := Lib.hid (show stopB m a b = ((b : Int) == m) by
    unfold stopB
    rw [Bool.eq_iff_iff, beq_iff_eq, beq_iff_eq]; omega)
  have hl : Bm < w.heap.size := block_lt_of_cell hc
  have hc2 : ∀ o, (w.alloc o).cell? ⟨Bm, 0, none⟩ = some (i64V m) := fun o => (World.cell?_of_block (a := ⟨Bm, 0, none⟩) (heap_old' _ _ _ hl)).trans hc
  go_enter Tryd.func64, Tryd.ntmps64
  go_wp2
  rw [← hs.out]
  go_ret
  exact ⟨rfl, (Below.refl _ _).alloc (Nat.le_refl _) _⟩

set_option maxRecDepth 100000 in
set_option maxHeartbeats 4000000 in
theorem descB_any (n i Bm : Nat) (hi : i < n) (hn : n ≤ 9223372036854775807) (w : World) (hm : w.cell? ⟨Bm, 0, none⟩ = some (i64V (i + 1))) :
    Calls Tryd.prog 62 #[.int .i64 n, .int .i64 i, .func (.func 64) #[] #[.pointer (some ⟨Bm, 0, none⟩)]] w (DescOut w (dscR (stopB (i + 1)) 0 n i)) := by
  obtain ⟨i0, hi0, hz0, hz1, hz2⟩ := info_parts info57
  have hends : Ends (stopB (i + 1)) i := ends_B (i + 1) (by omega)
  have hBm : Bm < w.heap.size := block_lt_of_cell hm
  have HM := Lib.hid hm; clear hm
  go_enter Tryd.func62, Tryd.ntmps62
  go_wp2
  go_loopg [9] n (fun gk v wr => DescI w (stopB (i + 1)) n i gk v wr)
  case atStart =>
    refine ⟨0, n, [], Nat.zero_le _, hi, Nat.le_refl _, by omega, rfl, rfl, by simp, by simp; omega, ?_, ?_, World.ownsRow_nil _ _ _ _, ?_⟩
    · exact (heap_old' _ _ _ (by simp)).trans (heap_new' _ _ _ rfl)
    · exact (heap_new' _ _ _ (by simp))
    · exact ((Below.refl _ _).alloc (Nat.le_refl _) _).alloc (by simp) _
  case round =>
    obtain ⟨a, b, acc, ha, hb, hbn, hgk, hacc, hfst, hal, hlen, hW⟩ := hrel
    have c0 : wr.cell? ⟨w.heap.size + 1, 0, none⟩ = some (i64V a) := by rw [cell_of_row _ _ _ _ _ _ hW.2.1]; rfl
    have c1 : wr.cell? ⟨w.heap.size + 1, 1, none⟩ = some (i64V b) := by rw [cell_of_row _ _ _ _ _ _ hW.2.1]; rfl
    have hz8 : w.heap.size + 1 < wr.heap.size := block_lt_of_cell c0
    have hBW : Below w.heap.size w wr := hW.2.2.2
    cases hst : (stopB (i + 1)) a b with
    | true =>
      have HST := Lib.hid hst
      have hd := dscR_stop _ a b i hst
      rw [hd] at hacc hfst
      rw [List.append_nil] at hacc
      have HACC := Lib.hid hacc; have HF := Lib.hid hfst
      clear hst hacc hfst hgk
      go_wp2_with fail
      refine (endB_any (i + 1) a b Bm (by omega) (by omega) _ ((hBW.cell (p := ⟨Bm, 0, none⟩) hBm).trans HM.out)).mono ?_
      rw [HST.out]
      rintro e w1 ⟨rfl, hb1⟩
      have hW1 := hW.below hb1
      clear c0 c1 hW
      have hrow : (u9 = .slice none 0 0 ∧ acc = []) ∨ ∃ g c, u9 = .slice (some ⟨g, 0, none⟩) acc.length c ∧ SpRow w1 g c acc ∧ w.heap.size + 2 ≤ g ∧ c ≤ maxLen := by
        rcases hW1.2.2.1.2 with ⟨h, h'⟩ | ⟨g, cap, cur, h, _⟩
        · exact .inl ⟨h, List.length_eq_zero_iff.1 h'⟩
        · have ho := hW1.2.2.1
          rw [h] at ho
          obtain ⟨r1, r2, r3⟩ := sprow_of_own ho rfl
          exact .inr ⟨g, cap, h, r1, r2, r3⟩
      have hB1 := hW1.2.2.2
      have h61 := hW1.1
      have h81 := hW1.2.1
      have hz1 : w.heap.size + 1 < w1.heap.size := (Array.getElem?_eq_some_iff.1 h81).1
      have H61 := Lib.hid h61; have H81 := Lib.hid h81
      clear hW1 hb1 h61 h81
      rcases hrow with ⟨rfl, rfl⟩ | ⟨g, c, rfl, hr, hg, hc⟩
      · go_wp2_with fail
        refine (reverse_nil _).mono ?_
        rintro e w2 ⟨rfl, rfl⟩
        have q0 : w1.cell? ⟨w.heap.size + 1, 0, none⟩ = some (i64V a) := by rw [cell_of_row _ _ _ _ _ _ H81.out]; rfl
        have q1 : w1.cell? ⟨w.heap.size + 1, 1, none⟩ = some (i64V b) := by rw [cell_of_row _ _ _ _ _ _ H81.out]; rfl
        have q2 : w1.cell? ⟨w.heap.size, 0, none⟩ = some (i64V 0) := by rw [cell_of_row _ _ _ _ _ _ H61.out]; rfl
        have q3 : w1.cell? ⟨w.heap.size, 1, none⟩ = some (i64V 0) := by rw [cell_of_row _ _ _ _ _ _ H61.out]; rfl
        have q4 := frozen_of_row _ _ 0 _ _ H61.out
        have q5 := frozen_of_row _ _ 1 _ _ H61.out
        have r0 : (w1.setCell ⟨w.heap.size, 0, none⟩ (.int .i64 a)).cell? ⟨w.heap.size, 0, none⟩ = some (.int .i64 a) := by rw [cell_of_row _ _ _ _ _ _ (heap_setCell_same _ _ _ _ _ _ H61.out)]; rfl
        have r1 : ((w1.setCell ⟨w.heap.size, 0, none⟩ (.int .i64 a)).setCell ⟨w.heap.size, 1, none⟩ (.int .i64 b)).cell? ⟨w.heap.size, 1, none⟩ = some (.int .i64 b) := by rw [cell_of_row _ _ _ _ _ _ (row2_set H61.out)]; rfl
        have R0 := Lib.hid r0; have R1 := Lib.hid r1
        clear r0 r1
        go_wp2_with fail
        refine bodyPost_ret (v := .tuple #[.agg #[i64V a, i64V b], .slice none 0 0]) (by simp [results, Tryd.results62, R0.out, R1.out, go_sem]) rfl ⟨_, by rw [← HF.out], .inl ⟨by rw [← HACC.out]; rfl, rfl⟩, (hB1.setCell (Nat.le_refl _) _).setCell (Nat.le_refl _) _⟩
      · go_wp2_with fail
        refine (reverse_any g acc.length c acc rfl (by omega) _ hr).mono ?_
        rintro e w2 ⟨rfl, hr2, hgr2⟩
        have H62 := Lib.hid ((hgr2.block _ (by omega) (fun e => by cases e; omega)).trans H61.out)
        have H82 := Lib.hid ((hgr2.block _ hz1 (fun e => by cases e; omega)).trans H81.out)
        have q0 : w2.cell? ⟨w.heap.size + 1, 0, none⟩ = some (i64V a) := by rw [cell_of_row _ _ _ _ _ _ H82.out]; rfl
        have q1 : w2.cell? ⟨w.heap.size + 1, 1, none⟩ = some (i64V b) := by rw [cell_of_row _ _ _ _ _ _ H82.out]; rfl
        have q2 : w2.cell? ⟨w.heap.size, 0, none⟩ = some (i64V 0) := by rw [cell_of_row _ _ _ _ _ _ H62.out]; rfl
        have q3 : w2.cell? ⟨w.heap.size, 1, none⟩ = some (i64V 0) := by rw [cell_of_row _ _ _ _ _ _ H62.out]; rfl
        have q4 := frozen_of_row _ _ 0 _ _ H62.out
        have q5 := frozen_of_row _ _ 1 _ _ H62.out
        have r0 : (w2.setCell ⟨w.heap.size, 0, none⟩ (.int .i64 a)).cell? ⟨w.heap.size, 0, none⟩ = some (.int .i64 a) := by rw [cell_of_row _ _ _ _ _ _ (heap_setCell_same _ _ _ _ _ _ H62.out)]; rfl
        have r1 : ((w2.setCell ⟨w.heap.size, 0, none⟩ (.int .i64 a)).setCell ⟨w.heap.size, 1, none⟩ (.int .i64 b)).cell? ⟨w.heap.size, 1, none⟩ = some (.int .i64 b) := by rw [cell_of_row _ _ _ _ _ _ (row2_set H62.out)]; rfl
        have R0 := Lib.hid r0; have R1 := Lib.hid r1
        clear r0 r1
        go_wp2_with fail
        refine bodyPost_ret (v := .tuple #[.agg #[i64V a, i64V b], .slice (some ⟨g, 0, none⟩) acc.length c]) (by simp [results, Tryd.results62, R0.out, R1.out, go_sem]) rfl ⟨_, by rw [← HF.out], .inr ⟨g, c, ?_, by omega, ?_, hc⟩, ?_⟩
        · rw [← HACC.out, List.length_reverse]
        · rw [← HACC.out]; exact sprow_other (sprow_other hr2 (by omega)) (by omega)
        · exact ((hB1.grown hgr2 hB1.size (fun k e => by cases e; omega)).setCell (Nat.le_refl _) _).setCell (Nat.le_refl _) _
    | false =>
      have h2 := dscR_two hends ha hb hst
      have hlt := half_lt h2
      have hp := half_pos (b - a)
      have HST := Lib.hid hst; have HACC := Lib.hid hacc; have HF := Lib.hid hfst; have HGK := Lib.hid hgk
      clear hst hacc hfst hgk
      go_wp2_with fail
      refine (endB_any (i + 1) a b Bm (by omega) (by omega) _ ((hBW.cell (p := ⟨Bm, 0, none⟩) hBm).trans HM.out)).mono ?_
      rw [HST.out]
      rintro e w1 ⟨rfl, hb1⟩
      have d0 : w1.cell? ⟨w.heap.size + 1, 0, none⟩ = some (i64V a) := (hb1.cell (p := ⟨w.heap.size + 1, 0, none⟩) hz8).trans c0
      have d1 : w1.cell? ⟨w.heap.size + 1, 1, none⟩ = some (i64V b) := (hb1.cell (p := ⟨w.heap.size + 1, 1, none⟩) hz8).trans c1
      have hW1 := hW.below hb1
      clear c0 c1 hW
      have hba : ((b : Int) - a) = ((b - a : Nat) : Int) := by omega
      have FH := fun w2 : World => firstHalf_any (b - a) h2 (by omega) w2
      rw [← hba] at FH
      clear hba
      obtain ⟨h, hh⟩ : ∃ h, half (b - a) = h := ⟨_, rfl⟩
      rw [hh] at hlt hp FH
      have HH := Lib.hid hh; clear hh
      have FH' := Lib.hid FH; clear FH
      go_wp2_with fail
      go_quiet ((go_at_call 49; exact Calls.quiet_of_same ((FH'.out _).mono fun _ _ h => ⟨h.1, h.2.symm⟩)))
      go_upto_region 5 with (fail)
      have hW2 : DescW w a b acc u9 (w1.drewN nq) := hW1.below (below_drewN (Below.refl _ _) nq)
      have d0 : (w1.drewN nq).cell? ⟨w.heap.size + 1, 0, none⟩ = some (i64V a) := d0
      have d1 : (w1.drewN nq).cell? ⟨w.heap.size + 1, 1, none⟩ = some (i64V b) := d1
      have hz2 : w.heap.size + 1 < (w1.drewN nq).heap.size := block_lt_of_cell (a := ⟨w.heap.size + 1, 0, none⟩) d0
      generalize w1.drewN nq = w2 at *
      clear hb1 hW1 FH'
      go_cut [11, 12] (fun s11 s12 wx => DescW w a b acc u9 wx ∧ Halves w u9 (a, a + h) (a + h, b) s11 s12 wx)
      case first =>
        have al1 : ∀ j o, j < 2 → (w2.alloc o).cell? ⟨w.heap.size + 1, j, none⟩ = w2.cell? ⟨w.heap.size + 1, j, none⟩ := fun j o _ => World.cell?_of_block (heap_old' _ _ _ hz2)
        have al2 : ∀ j o1 o2, j < 2 → ((w2.alloc o1).alloc o2).cell? ⟨w.heap.size + 1, j, none⟩ = w2.cell? ⟨w.heap.size + 1, j, none⟩ := fun j o1 o2 _ => World.cell?_of_block ((heap_old' _ _ _ (by simp; omega)).trans (heap_old' _ _ _ hz2))
        have e01 := fun o => (al1 0 o (by omega)).trans d0
        have e11 := fun o => (al1 1 o (by omega)).trans d1
        have e02 := fun o1 o2 => (al2 0 o1 o2 (by omega)).trans d0
        have e12 := fun o1 o2 => (al2 1 o1 o2 (by omega)).trans d1
        clear al1 al2
        go_region
        all_goals go_wp2_with fail
        all_goals go_meet
        all_goals first | exact halves_new hW2 _ _ (by simp) (by simp) | exact halves_new' hW2 _ _ (by simp) (by simp)
      case rest =>
        clear d0 d1 hz2 hW2
        obtain ⟨hW3, X, Y, rfl, rfl, hXY, hX, hY, hvX, hvY, hgX, hgY⟩ := hcut
        have x0 : wc.cell? ⟨X, 0, none⟩ = some (i64V a) := by rw [cell_of_row _ _ _ _ _ _ hgX]; rfl
        have x1 : wc.cell? ⟨X, 1, none⟩ = some (i64V (a + h)) := by rw [cell_of_row _ _ _ _ _ _ hgX]; rfl
        have y0 : wc.cell? ⟨Y, 0, none⟩ = some (i64V (a + h)) := by rw [cell_of_row _ _ _ _ _ _ hgY]; rfl
        have y1 : wc.cell? ⟨Y, 1, none⟩ = some (i64V b) := by rw [cell_of_row _ _ _ _ _ _ hgY]; rfl
        have fx0 := frozen_of_row _ _ 0 _ _ hgX
        have fx1 := frozen_of_row _ _ 1 _ _ hgX
        have fy0 := frozen_of_row _ _ 0 _ _ hgY
        have fy1 := frozen_of_row _ _ 1 _ _ hgY
        have HGX := Lib.hid hgX; have HGY := Lib.hid hgY
        clear hgX hgY
        obtain ⟨P, hP⟩ : ∃ P : Sp, (if i < a + h then (a, a + h) else (a + h, b)) = P := ⟨_, rfl⟩
        obtain ⟨Q, hQ⟩ : ∃ Q : Sp, (if i < a + h then (a + h, b) else (a, a + h)) = Q := ⟨_, rfl⟩
        have HP := Lib.hid hP; have HQ := Lib.hid hQ
        clear hP hQ
        go_upto_if 38 with (fail)
        go_cut [11, 12] (fun s11 s12 wx => DescW w a b acc u9 wx ∧ Halves w u9 P Q s11 s12 wx)
        case first =>
          by_cases hk : i < a + h
          · have hki : (i : Int) < (a : Int) + h := by omega
            go_wp2_with fail
            go_meet
            refine ⟨hW3, X, Y, rfl, rfl, hXY, hX, hY, hvX, hvY, ?_, ?_⟩
            · rw [← HP.out, if_pos hk]; exact HGX.out
            · rw [← HQ.out, if_pos hk]; exact HGY.out
          · have hki : (a : Int) + h ≤ i := by omega
            go_wp2_with fail
            go_meet
            refine ⟨(hW3.set hX hvX _ _).set hY hvY _ _, X, Y, rfl, rfl, hXY, hX, hY, hvX, hvY, ?_, ?_⟩
            · rw [← HP.out, if_neg hk]
              exact (row2_other hXY).trans (by rw [row2_set HGX.out]; simp)
            · rw [← HQ.out, if_neg hk]
              refine (row2_set ((row2_other (Ne.symm hXY)).trans HGY.out)).trans (by simp)
        case rest =>
          clear x0 x1 y0 y1 fx0 fx1 fy0 fy1 hvX hvY hX hY HGX HGY hXY hW3
          obtain ⟨hW4, X, Y, rfl, rfl, hXY, hX, hY, hvX, hvY, hgX, hgY⟩ := hcut
          have x0 : wc.cell? ⟨X, 0, none⟩ = some (i64V P.1) := by rw [cell_of_row _ _ _ _ _ _ hgX]; rfl
          have x1 : wc.cell? ⟨X, 1, none⟩ = some (i64V P.2) := by rw [cell_of_row _ _ _ _ _ _ hgX]; rfl
          have y0 : wc.cell? ⟨Y, 0, none⟩ = some (i64V Q.1) := by rw [cell_of_row _ _ _ _ _ _ hgY]; rfl
          have y1 : wc.cell? ⟨Y, 1, none⟩ = some (i64V Q.2) := by rw [cell_of_row _ _ _ _ _ _ hgY]; rfl
          have z0 : wc.cell? ⟨w.heap.size + 1, 0, none⟩ = some (i64V a) := by rw [cell_of_row _ _ _ _ _ _ hW4.2.1]; rfl
          have z1 : wc.cell? ⟨w.heap.size + 1, 1, none⟩ = some (i64V b) := by rw [cell_of_row _ _ _ _ _ _ hW4.2.1]; rfl
          have zf0 := frozen_of_row _ _ 0 _ _ hW4.2.1
          have zf1 := frozen_of_row _ _ 1 _ _ hW4.2.1
          have lX : X < wc.heap.size := block_lt_of_cell x0
          have lY : Y < wc.heap.size := block_lt_of_cell y0
          have lZ : w.heap.size + 1 < wc.heap.size := block_lt_of_cell z0
          have hown := hW4.2.2.1
          have h6 := hW4.1
          have hB4 := hW4.2.2.2
          have H6 := Lib.hid h6; have H8 := Lib.hid hW4.2.1
          clear hgX hgY h6 hW4
          have hvZ : u9.ownBlock ≠ some (w.heap.size + 1) := fun e => by have := (hown.lt _ e).1; omega
          have hv6 : u9.ownBlock ≠ some w.heap.size := fun e => by have := (hown.lt _ e).1; omega
          go_wp2_with fail
          go_region_held3 (fun w' => w'.cell? ⟨X, 0, none⟩ = some (i64V P.1) ∧ w'.cell? ⟨X, 1, none⟩ = some (i64V P.2) ∧ w'.cell? ⟨Y, 0, none⟩ = some (i64V Q.1) ∧ w'.cell? ⟨Y, 1, none⟩ = some (i64V Q.2))
            (first
              | go_keep
              | exact ⟨kx0, kx1, ky0, ky1⟩
              | exact ⟨(World.cell?_of_block (a := ⟨X, 0, none⟩) (row2_other (show X ≠ w.heap.size + 1 by omega))).trans kx0, (World.cell?_of_block (a := ⟨X, 1, none⟩) (row2_other (show X ≠ w.heap.size + 1 by omega))).trans kx1, (World.cell?_of_block (a := ⟨Y, 0, none⟩) (row2_other (show Y ≠ w.heap.size + 1 by omega))).trans ky0, (World.cell?_of_block (a := ⟨Y, 1, none⟩) (row2_other (show Y ≠ w.heap.size + 1 by omega))).trans ky1⟩)
            ((refine step_append_lies _ (by rfl) _ _ _ (by rfl) (w.heap.size + 2) 57 i0 _ 2 16 Tryd.underlying54 hi0 hz0 hz1 hz2 rfl (by omega) u9 acc.length (spc acc) (by rfl) ((hown.alloc _).drew)
                ⟨wc.heap.size, 0, none⟩ 1 1 [i64V Q.1, i64V Q.2] (by rfl) (by rfl) (World.news_of_block (cs := #[i64V Q.1, i64V Q.2]) (t := 57) (fr := (0, 0)) (heap_alloc_new wc _)) (by simp [Value.oneCell'])
                (by omega) (by unfold maxLen; omega) (by omega) (by simp; omega) (wc.heap.size + 1) (by simp) ?_
              intro gg cap w5 hown5 hgrow hat hlt5
              have kx0 : w5.cell? ⟨X, 0, none⟩ = some (i64V P.1) := by rw [hgrow.cell_far _ (by simp; omega) (Ne.symm hvX)]; go_simp
              have kx1 : w5.cell? ⟨X, 1, none⟩ = some (i64V P.2) := by rw [hgrow.cell_far _ (by simp; omega) (Ne.symm hvX)]; go_simp
              have ky0 : w5.cell? ⟨Y, 0, none⟩ = some (i64V Q.1) := by rw [hgrow.cell_far _ (by simp; omega) (Ne.symm hvY)]; go_simp
              have ky1 : w5.cell? ⟨Y, 1, none⟩ = some (i64V Q.2) := by rw [hgrow.cell_far _ (by simp; omega) (Ne.symm hvY)]; go_simp
              have k0 : w5.cell? ⟨w.heap.size + 1, 0, none⟩ = some (i64V a) := by rw [hgrow.cell_far _ (by simp; omega) (Ne.symm hvZ)]; go_simp
              have k1 : w5.cell? ⟨w.heap.size + 1, 1, none⟩ = some (i64V b) := by rw [hgrow.cell_far _ (by simp; omega) (Ne.symm hvZ)]; go_simp
              have kf0 : w5.frozen? ⟨w.heap.size + 1, 0, none⟩ = false := by rw [World.frozen?_of_block (hgrow.block _ (by simp; omega) (Ne.symm hvZ))]; go_simp
              have kf1 : w5.frozen? ⟨w.heap.size + 1, 1, none⟩ = false := by rw [World.frozen?_of_block (hgrow.block _ (by simp; omega) (Ne.symm hvZ))]; go_simp))
          go_wp2_with fail
          have hgg : w.heap.size + 2 ≤ gg := (hown5.lt gg rfl).1
          have hg6 : w5.heap[w.heap.size]? = some (.cells #[i64V 0, i64V 0] 57 (0, 0)) := (hgrow.block _ (by simp; omega) (Ne.symm hv6)).trans ((heap_old' _ _ _ (by omega)).trans H6.out)
          have hg8 : w5.heap[w.heap.size + 1]? = some (.cells #[i64V a, i64V b] 57 (0, 0)) := (hgrow.block _ (by simp; omega) (Ne.symm hvZ)).trans ((heap_old' _ _ _ lZ).trans H8.out)
          have hB5 : Below w.heap.size w w5 := (((hB4.alloc (by omega) _).drew)).grown hgrow (by simp; omega) (fun k e => by have := (hown.lt k e).1; omega)
          have hne : (Value.slice (some ⟨gg, 0, none⟩) (acc.length + 1) cap).ownBlock ≠ some (w.heap.size + 1) := fun e => by
            have := Option.some.inj (show some gg = some (w.heap.size + 1) from e); omega
          rw [← spc_snoc] at hown5
          have hfin : DescW w P.1 P.2 (acc ++ [Q]) (.slice (some ⟨gg, 0, none⟩) (acc.length + 1) cap) ((w5.setCell ⟨w.heap.size + 1, 0, none⟩ (i64V P.1)).setCell ⟨w.heap.size + 1, 1, none⟩ (i64V P.2)) :=
            ⟨(row2_other (by omega)).trans hg6, row2_set hg8, by rw [List.length_append]; exact own_set (own_set hown5 hne _ _) hne _ _, (hB5.setCell (by simp) _).setCell (by simp) _⟩
          clear hown5 hg6 hg8 hB5 hgrow
          by_cases hk : i < a + h
          · have eP := HP.out
            have eQ := HQ.out
            rw [if_pos hk] at eP eQ
            subst eP eQ
            have hd := dscR_left hends ha hb HST.out (by rw [HH.out]; exact hk)
            rw [HH.out] at hd
            have hA := HACC.out
            have hF := HF.out
            rw [hd] at hA hF
            go_roundg (a + h - a)
            case measure => have := HGK.out; omega
            case rel =>
              refine ⟨a, a + h, acc ++ [(a + h, b)], ha, hk, by omega, rfl, by rw [← hA, List.append_assoc]; rfl, hF, ?_, ?_, hfin⟩
              · rw [List.length_append]; exact desc_len h2 hal hlen
              · rw [List.length_append, show a + h - a = h by omega, ← HH.out]; exact desc_half h2 hal hlen
          · have eP := HP.out
            have eQ := HQ.out
            rw [if_neg hk] at eP eQ
            subst eP eQ
            have hd := dscR_right hends ha hb HST.out (by rw [HH.out]; exact hk)
            rw [HH.out] at hd
            have hA := HACC.out
            have hF := HF.out
            rw [hd] at hA hF
            go_roundg (b - (a + h))
            case measure => have := HGK.out; omega
            case rel =>
              refine ⟨a + h, b, acc ++ [(a, a + h)], by omega, hb, hbn, rfl, by rw [← hA, List.append_assoc]; rfl, hF, ?_, ?_, hfin⟩
              · rw [List.length_append]; exact desc_len h2 hal hlen
              · rw [List.length_append, show b - (a + h) = b - a - h by omega, ← HH.out]; exact desc_rest h2 hal hlen
end Go.Proofs.YtiilkjonbfllfaaDoor
