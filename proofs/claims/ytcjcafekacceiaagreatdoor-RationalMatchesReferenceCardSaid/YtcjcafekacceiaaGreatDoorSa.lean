/- The fixed examples, walked. -/
import Derived.Test.YtcjcafekacceiaaGreatDoorIs
namespace Go.Proofs.YtcjcafekacceiaaGreatDoor
open Go.RowKit

theorem sn0 : oN (mkS (str 6) (str (-4))) = ⟨#[45, 51]⟩ ∧ oD (mkS (str 6) (str (-4))) = ⟨#[50]⟩ ∧ oE (mkS (str 6) (str (-4))) = 0 := by
  refine ⟨?_, ?_, ?_⟩ <;> decide +kernel
theorem sn1 : oN (mkS (str 0) (str (-5))) = ⟨#[48]⟩ ∧ oD (mkS (str 0) (str (-5))) = ⟨#[49]⟩ ∧ oE (mkS (str 0) (str (-5))) = 0 := by
  refine ⟨?_, ?_, ?_⟩ <;> decide +kernel
theorem sn2 : oN (mkS (str 1) (str 0)) = ⟨#[]⟩ ∧ oD (mkS (str 1) (str 0)) = ⟨#[]⟩ ∧ oE (mkS (str 1) (str 0)) = 40 := by
  refine ⟨?_, ?_, ?_⟩ <;> decide +kernel
theorem sn3 : oN (sumO (fun x y => x + y) (⟨#[49]⟩, ⟨#[50]⟩) (⟨#[49]⟩, ⟨#[51]⟩)) = ⟨#[53]⟩ ∧ oD (sumO (fun x y => x + y) (⟨#[49]⟩, ⟨#[50]⟩) (⟨#[49]⟩, ⟨#[51]⟩)) = ⟨#[54]⟩ ∧ oE (sumO (fun x y => x + y) (⟨#[49]⟩, ⟨#[50]⟩) (⟨#[49]⟩, ⟨#[51]⟩)) = 0 := by
  refine ⟨?_, ?_, ?_⟩ <;> decide +kernel
theorem sn4 : oN (prodO (⟨#[49]⟩, ⟨#[50]⟩) (⟨#[45, 49]⟩, ⟨#[52]⟩) ⟨#[52]⟩ ⟨#[45, 49]⟩) = ⟨#[45, 50]⟩ ∧ oD (prodO (⟨#[49]⟩, ⟨#[50]⟩) (⟨#[45, 49]⟩, ⟨#[52]⟩) ⟨#[52]⟩ ⟨#[45, 49]⟩) = ⟨#[49]⟩ ∧ oE (prodO (⟨#[49]⟩, ⟨#[50]⟩) (⟨#[45, 49]⟩, ⟨#[52]⟩) ⟨#[52]⟩ ⟨#[45, 49]⟩) = 0 := by
  refine ⟨?_, ?_, ?_⟩ <;> decide +kernel
theorem sn5 : oN (prodO (⟨#[49]⟩, ⟨#[49]⟩) (⟨#[48]⟩, ⟨#[49]⟩) ⟨#[49]⟩ ⟨#[48]⟩) = ⟨#[]⟩ ∧ oD (prodO (⟨#[49]⟩, ⟨#[49]⟩) (⟨#[48]⟩, ⟨#[49]⟩) ⟨#[49]⟩ ⟨#[48]⟩) = ⟨#[]⟩ ∧ oE (prodO (⟨#[49]⟩, ⟨#[49]⟩) (⟨#[48]⟩, ⟨#[49]⟩) ⟨#[49]⟩ ⟨#[48]⟩) = 40 := by
  refine ⟨?_, ?_, ?_⟩ <;> decide +kernel
theorem sn6 : oN (roundO dnS dnE (⟨#[45, 49]⟩, ⟨#[51]⟩) 2) = ⟨#[45, 49, 55]⟩ ∧ oD (roundO dnS dnE (⟨#[45, 49]⟩, ⟨#[51]⟩) 2) = ⟨#[53, 48]⟩ ∧ oE (roundO dnS dnE (⟨#[45, 49]⟩, ⟨#[51]⟩) 2) = 0 := by
  refine ⟨?_, ?_, ?_⟩ <;> decide +kernel
theorem sn7 : oN (roundO upS upE (⟨#[49]⟩, ⟨#[51]⟩) 2) = ⟨#[49, 55]⟩ ∧ oD (roundO upS upE (⟨#[49]⟩, ⟨#[51]⟩) 2) = ⟨#[53, 48]⟩ ∧ oE (roundO upS upE (⟨#[49]⟩, ⟨#[51]⟩) 2) = 0 := by
  refine ⟨?_, ?_, ?_⟩ <;> decide +kernel
theorem sn8 : oN (parO ⟨#[45, 51, 47, 50]⟩) = ⟨#[45, 51]⟩ ∧ oD (parO ⟨#[45, 51, 47, 50]⟩) = ⟨#[50]⟩ ∧ oE (parO ⟨#[45, 51, 47, 50]⟩) = 0 := by
  refine ⟨?_, ?_, ?_⟩ <;> decide +kernel
theorem sn9 : oN (parO ⟨#[54, 47, 52]⟩) = ⟨#[]⟩ ∧ oD (parO ⟨#[54, 47, 52]⟩) = ⟨#[]⟩ ∧ oE (parO ⟨#[54, 47, 52]⟩) = 40 := by
  refine ⟨?_, ?_, ?_⟩ <;> decide +kernel
set_option maxRecDepth 100000 in
set_option maxHeartbeats 8000000 in
theorem sane_any (w : World) (ht : Tb w) : Calls Tryz.prog 11 #[] w (BOut w true) := by
  have HT := Lib.hid (fun W (hW : Below w.heap.size w W) => ht.below hW)
  clear ht
  have C0 := Lib.hid (fun W (hW : Below w.heap.size w W) => (of_any 6 (-4) (by decide) (by decide) (by decide) (by decide) W (HT.out W hW)).mono (fun e W' h => show QRes W ⟨#[45, 51]⟩ ⟨#[50]⟩ 0 e W' from h.at sn0))
  have C1 := Lib.hid (fun W (hW : Below w.heap.size w W) => (of_any 0 (-5) (by decide) (by decide) (by decide) (by decide) W (HT.out W hW)).mono (fun e W' h => show QRes W ⟨#[48]⟩ ⟨#[49]⟩ 0 e W' from h.at sn1))
  have C2 := Lib.hid (fun W (hW : Below w.heap.size w W) => (of_any 1 0 (by decide) (by decide) (by decide) (by decide) W (HT.out W hW)).mono (fun e W' h => show QRes W ⟨#[]⟩ ⟨#[]⟩ 40 e W' from h.at sn2))
  have C3 := Lib.hid (fun W (hW : Below w.heap.size w W) => (qadds_any (⟨#[49]⟩, ⟨#[50]⟩) (⟨#[49]⟩, ⟨#[51]⟩) W ⟨by decide, by decide⟩ ⟨by decide, by decide⟩ (HT.out W hW)).mono (fun e W' h => show QRes W ⟨#[53]⟩ ⟨#[54]⟩ 0 e W' from h.at sn3))
  have C4 := Lib.hid (fun W (hW : Below w.heap.size w W) => (qdiv_any (⟨#[49]⟩, ⟨#[50]⟩) (⟨#[45, 49]⟩, ⟨#[52]⟩) W ⟨by decide, by decide⟩ ⟨by decide, by decide⟩ (HT.out W hW)).mono (fun e W' h => show QRes W ⟨#[45, 50]⟩ ⟨#[49]⟩ 0 e W' from h.at sn4))
  have C5 := Lib.hid (fun W (hW : Below w.heap.size w W) => (qdiv_any (⟨#[49]⟩, ⟨#[49]⟩) (⟨#[48]⟩, ⟨#[49]⟩) W ⟨by decide, by decide⟩ ⟨by decide, by decide⟩ (HT.out W hW)).mono (fun e W' h => show QRes W ⟨#[]⟩ ⟨#[]⟩ 40 e W' from h.at sn5))
  have C6 := Lib.hid (fun W (hW : Below w.heap.size w W) => (qdown_any (⟨#[45, 49]⟩, ⟨#[51]⟩) 2 W ⟨by decide, by decide⟩ (HT.out W hW)).mono (fun e W' h => show QRes W ⟨#[45, 49, 55]⟩ ⟨#[53, 48]⟩ 0 e W' from h.at sn6))
  have C7 := Lib.hid (fun W (hW : Below w.heap.size w W) => (qup_any (⟨#[49]⟩, ⟨#[51]⟩) 2 W ⟨by decide, by decide⟩ (HT.out W hW)).mono (fun e W' h => show QRes W ⟨#[49, 55]⟩ ⟨#[53, 48]⟩ 0 e W' from h.at sn7))
  have C8 := Lib.hid (fun W (hW : Below w.heap.size w W) => (parse_any ⟨#[45, 51, 47, 50]⟩ W (by decide) (HT.out W hW)).mono (fun e W' h => show QRes W ⟨#[45, 51]⟩ ⟨#[50]⟩ 0 e W' from h.at sn8))
  have C9 := Lib.hid (fun W (hW : Below w.heap.size w W) => (parse_any ⟨#[54, 47, 52]⟩ W (by decide) (HT.out W hW)).mono (fun e W' h => show QRes W ⟨#[]⟩ ⟨#[]⟩ 40 e W' from h.at sn9))
  go_enter Tryz.func11, Tryz.ntmps11
  have B0 := Lib.hid (Below.refl w.heap.size w)
  go_wp2_with fail
  (with_reducible refine (C0.out _ B0.out).mono ?_)
  rintro e w1 ⟨rfl, hb⟩
  replace B0 := Lib.hid (below1 B0.out hb)
  clear hb
  have hA := (Below.refl w1.heap.size w1).alloc (Nat.le_refl _) (.cells #[.string ⟨#[45, 51]⟩, .string ⟨#[50]⟩] 23)
  replace B0 := Lib.hid (below1 B0.out hA)
  have Ka := Lib.hid (heap_new' w1 (.cells #[.string ⟨#[45, 51]⟩, .string ⟨#[50]⟩] 23) w1.heap.size rfl)
  clear hA
  go_wp2_with fail
  (with_reducible refine (C1.out _ B0.out).mono ?_)
  rintro e w2 ⟨rfl, hb⟩
  replace B0 := Lib.hid (below1 B0.out hb)
  replace Ka := Lib.hid (bl_up Ka.out hb)
  clear hb
  have hA := (Below.refl w2.heap.size w2).alloc (Nat.le_refl _) (.cells #[.string ⟨#[48]⟩, .string ⟨#[49]⟩] 23)
  replace B0 := Lib.hid (below1 B0.out hA)
  have Kb := Lib.hid (heap_new' w2 (.cells #[.string ⟨#[48]⟩, .string ⟨#[49]⟩] 23) w2.heap.size rfl)
  replace Ka := Lib.hid (bl_up Ka.out hA)
  clear hA
  go_wp2_with fail
  (with_reducible refine (C2.out _ B0.out).mono ?_)
  rintro e w3 ⟨rfl, hb⟩
  replace B0 := Lib.hid (below1 B0.out hb)
  replace Ka := Lib.hid (bl_up Ka.out hb)
  replace Kb := Lib.hid (bl_up Kb.out hb)
  clear hb
  have hA := (Below.refl w3.heap.size w3).alloc (Nat.le_refl _) (.cells #[.string ⟨#[]⟩, .string ⟨#[]⟩] 23)
  replace B0 := Lib.hid (below1 B0.out hA)
  have Kz1 := Lib.hid (heap_new' w3 (.cells #[.string ⟨#[]⟩, .string ⟨#[]⟩] 23) w3.heap.size rfl)
  replace Ka := Lib.hid (bl_up Ka.out hA)
  replace Kb := Lib.hid (bl_up Kb.out hA)
  clear hA
  go_wp2_with fail
  (with_reducible refine (is_any _ _ _).mono ?_)
  rintro e w4 ⟨rfl, hb⟩
  replace B0 := Lib.hid (below1 B0.out hb)
  replace Ka := Lib.hid (bl_up Ka.out hb)
  replace Kb := Lib.hid (bl_up Kb.out hb)
  replace Kz1 := Lib.hid (bl_up Kz1.out hb)
  clear hb
  go_wp2_with fail
  (with_reducible refine (is_any _ _ _).mono ?_)
  rintro e w5 ⟨rfl, hb⟩
  replace B0 := Lib.hid (below1 B0.out hb)
  replace Ka := Lib.hid (bl_up Ka.out hb)
  replace Kb := Lib.hid (bl_up Kb.out hb)
  replace Kz1 := Lib.hid (bl_up Kz1.out hb)
  clear hb
  go_wp2_with fail
  (with_reducible refine (C3.out _ B0.out).mono ?_)
  rintro e w6 ⟨rfl, hb⟩
  replace B0 := Lib.hid (below1 B0.out hb)
  replace Ka := Lib.hid (bl_up Ka.out hb)
  replace Kb := Lib.hid (bl_up Kb.out hb)
  replace Kz1 := Lib.hid (bl_up Kz1.out hb)
  clear hb
  have hA := (Below.refl w6.heap.size w6).alloc (Nat.le_refl _) (.cells #[.string ⟨#[53]⟩, .string ⟨#[54]⟩] 23)
  replace B0 := Lib.hid (below1 B0.out hA)
  have Kc := Lib.hid (heap_new' w6 (.cells #[.string ⟨#[53]⟩, .string ⟨#[54]⟩] 23) w6.heap.size rfl)
  replace Ka := Lib.hid (bl_up Ka.out hA)
  replace Kb := Lib.hid (bl_up Kb.out hA)
  replace Kz1 := Lib.hid (bl_up Kz1.out hA)
  clear hA
  go_wp2_with fail
  (with_reducible refine (is_any _ _ _).mono ?_)
  rintro e w7 ⟨rfl, hb⟩
  replace B0 := Lib.hid (below1 B0.out hb)
  replace Ka := Lib.hid (bl_up Ka.out hb)
  replace Kb := Lib.hid (bl_up Kb.out hb)
  replace Kz1 := Lib.hid (bl_up Kz1.out hb)
  replace Kc := Lib.hid (bl_up Kc.out hb)
  clear hb
  go_wp2_with fail
  (with_reducible refine (is_any _ _ _).mono ?_)
  rintro e w8 ⟨rfl, hb⟩
  replace B0 := Lib.hid (below1 B0.out hb)
  replace Ka := Lib.hid (bl_up Ka.out hb)
  replace Kb := Lib.hid (bl_up Kb.out hb)
  replace Kz1 := Lib.hid (bl_up Kz1.out hb)
  replace Kc := Lib.hid (bl_up Kc.out hb)
  clear hb
  go_wp2_with fail
  (with_reducible refine (C4.out _ B0.out).mono ?_)
  rintro e w9 ⟨rfl, hb⟩
  replace B0 := Lib.hid (below1 B0.out hb)
  replace Ka := Lib.hid (bl_up Ka.out hb)
  replace Kb := Lib.hid (bl_up Kb.out hb)
  replace Kz1 := Lib.hid (bl_up Kz1.out hb)
  replace Kc := Lib.hid (bl_up Kc.out hb)
  clear hb
  have hA := (Below.refl w9.heap.size w9).alloc (Nat.le_refl _) (.cells #[.string ⟨#[45, 50]⟩, .string ⟨#[49]⟩] 23)
  replace B0 := Lib.hid (below1 B0.out hA)
  have Kd := Lib.hid (heap_new' w9 (.cells #[.string ⟨#[45, 50]⟩, .string ⟨#[49]⟩] 23) w9.heap.size rfl)
  replace Ka := Lib.hid (bl_up Ka.out hA)
  replace Kb := Lib.hid (bl_up Kb.out hA)
  replace Kz1 := Lib.hid (bl_up Kz1.out hA)
  replace Kc := Lib.hid (bl_up Kc.out hA)
  clear hA
  go_upto_region 6 with fail
  obtain ⟨V, hV⟩ : ∃ V, w9.alloc (.cells #[.string ⟨#[45, 50]⟩, .string ⟨#[49]⟩] 23) = V := ⟨_, rfl⟩
  obtain ⟨kb1, kb2, _, _⟩ := box2 Kb.out
  rw [hV] at B0 kb1 kb2 ⊢
  rw [hV] at Ka
  rw [hV] at Kb
  rw [hV] at Kz1
  rw [hV] at Kc
  rw [hV] at Kd
  clear hV
  have KBB := Lib.hid (fun W' (h : Below V.heap.size V W') => And.intro ((h.cell (p := ⟨w2.heap.size, 0, none⟩) (block_lt_of_cell kb1)).trans kb1) ((h.cell (p := ⟨w2.heap.size, 1, none⟩) (block_lt_of_cell kb2)).trans kb2))
  have hB : Below V.heap.size V V.drew := (Below.refl _ _).drew
  clear kb1 kb2
  go_cut [12] (fun s12 wx => s12 = .int .i64 40 ∧ Below V.heap.size V wx)
  case first =>
    go_region_held3 (fun w' => w'.cell? ⟨w2.heap.size, 0, none⟩ = some (.string ⟨#[48]⟩) ∧ w'.cell? ⟨w2.heap.size, 1, none⟩ = some (.string ⟨#[49]⟩))
      (first
        | exact KBB.out _ hB
        | exact KBB.out _ (hB.alloc hB.size _)
        | exact KBB.out _ ((hB.setCell (p := ⟨_, 0, none⟩) (by first | exact Nat.le_refl _ | exact hsi) _).setCell (p := ⟨_, 1, none⟩) (by first | exact Nat.le_refl _ | exact hsi) _)
        | go_keep)
      (first
        | (go_at_call 41; (with_reducible refine (is_any _ _ _).mono ?_); rintro e wi ⟨rfl, hb⟩; (try have az := bl_up (heap_new' V.drew (.cells #[.string ⟨#[]⟩, .string ⟨#[]⟩] 23) V.heap.size rfl) hb); replace hB := (by first | exact hB.trans (hb.mono hB.size) | exact (hB.alloc hB.size _).trans (hb.mono (hB.alloc hB.size _).size)); have hsi := hB.size)
        | (go_at_call 45; (with_reducible refine (C5.out _ (by first | exact below1 B0.out hB | exact below1 B0.out (hB.alloc hB.size _))).mono ?_); rintro e wd ⟨rfl, hb⟩; (try replace az := bl_up az hb); (try have az := bl_up (heap_new' wi (.cells #[.string ⟨#[]⟩, .string ⟨#[]⟩] 23) wi.heap.size rfl) hb); (try (have hz := box2 az; obtain ⟨az1, az2, az3, az4⟩ := hz)); replace hB := (by first | exact hB.trans (hb.mono hB.size) | exact (hB.alloc hB.size _).trans (hb.mono (hB.alloc hB.size _).size))))
    all_goals
      go_wp2_with fail
      go_meet
      exact ⟨rfl, by first | exact hB.alloc hB.size _ | exact (hB.setCell (p := ⟨_, 0, none⟩) (by first | exact Nat.le_refl _ | exact hsi) _).setCell (p := ⟨_, 1, none⟩) (by first | exact Nat.le_refl _ | exact hsi) _⟩
  case rest =>
    obtain ⟨rfl, hb⟩ := hcut
    clear KBB hB
    replace B0 := Lib.hid (below1 B0.out hb)
    replace Ka := Lib.hid (bl_up Ka.out hb)
    replace Kb := Lib.hid (bl_up Kb.out hb)
    replace Kz1 := Lib.hid (bl_up Kz1.out hb)
    replace Kc := Lib.hid (bl_up Kc.out hb)
    replace Kd := Lib.hid (bl_up Kd.out hb)
    clear hb
    go_wp2_with fail
    (with_reducible refine (is_any _ _ _).mono ?_)
    rintro e w10 ⟨rfl, hb⟩
    replace B0 := Lib.hid (below1 B0.out hb)
    replace Ka := Lib.hid (bl_up Ka.out hb)
    replace Kb := Lib.hid (bl_up Kb.out hb)
    replace Kz1 := Lib.hid (bl_up Kz1.out hb)
    replace Kc := Lib.hid (bl_up Kc.out hb)
    replace Kd := Lib.hid (bl_up Kd.out hb)
    clear hb
    go_wp2_with fail
    (with_reducible refine (C6.out _ B0.out).mono ?_)
    rintro e w11 ⟨rfl, hb⟩
    replace B0 := Lib.hid (below1 B0.out hb)
    replace Ka := Lib.hid (bl_up Ka.out hb)
    replace Kb := Lib.hid (bl_up Kb.out hb)
    replace Kz1 := Lib.hid (bl_up Kz1.out hb)
    replace Kc := Lib.hid (bl_up Kc.out hb)
    replace Kd := Lib.hid (bl_up Kd.out hb)
    clear hb
    have hA := (Below.refl w11.heap.size w11).alloc (Nat.le_refl _) (.cells #[.string ⟨#[45, 49, 55]⟩, .string ⟨#[53, 48]⟩] 23)
    replace B0 := Lib.hid (below1 B0.out hA)
    have Kk := Lib.hid (heap_new' w11 (.cells #[.string ⟨#[45, 49, 55]⟩, .string ⟨#[53, 48]⟩] 23) w11.heap.size rfl)
    replace Ka := Lib.hid (bl_up Ka.out hA)
    replace Kb := Lib.hid (bl_up Kb.out hA)
    replace Kz1 := Lib.hid (bl_up Kz1.out hA)
    replace Kc := Lib.hid (bl_up Kc.out hA)
    replace Kd := Lib.hid (bl_up Kd.out hA)
    clear hA
    go_wp2_with fail
    (with_reducible refine (is_any _ _ _).mono ?_)
    rintro e w12 ⟨rfl, hb⟩
    replace B0 := Lib.hid (below1 B0.out hb)
    replace Ka := Lib.hid (bl_up Ka.out hb)
    replace Kb := Lib.hid (bl_up Kb.out hb)
    replace Kz1 := Lib.hid (bl_up Kz1.out hb)
    replace Kc := Lib.hid (bl_up Kc.out hb)
    replace Kd := Lib.hid (bl_up Kd.out hb)
    replace Kk := Lib.hid (bl_up Kk.out hb)
    clear hb
    go_wp2_with fail
    (with_reducible refine (C7.out _ B0.out).mono ?_)
    rintro e w13 ⟨rfl, hb⟩
    replace B0 := Lib.hid (below1 B0.out hb)
    replace Ka := Lib.hid (bl_up Ka.out hb)
    replace Kb := Lib.hid (bl_up Kb.out hb)
    replace Kz1 := Lib.hid (bl_up Kz1.out hb)
    replace Kc := Lib.hid (bl_up Kc.out hb)
    replace Kd := Lib.hid (bl_up Kd.out hb)
    replace Kk := Lib.hid (bl_up Kk.out hb)
    clear hb
    have hA := (Below.refl w13.heap.size w13).alloc (Nat.le_refl _) (.cells #[.string ⟨#[49, 55]⟩, .string ⟨#[53, 48]⟩] 23)
    replace B0 := Lib.hid (below1 B0.out hA)
    have Km := Lib.hid (heap_new' w13 (.cells #[.string ⟨#[49, 55]⟩, .string ⟨#[53, 48]⟩] 23) w13.heap.size rfl)
    replace Ka := Lib.hid (bl_up Ka.out hA)
    replace Kb := Lib.hid (bl_up Kb.out hA)
    replace Kz1 := Lib.hid (bl_up Kz1.out hA)
    replace Kc := Lib.hid (bl_up Kc.out hA)
    replace Kd := Lib.hid (bl_up Kd.out hA)
    replace Kk := Lib.hid (bl_up Kk.out hA)
    clear hA
    go_wp2_with fail
    (with_reducible refine (C8.out _ B0.out).mono ?_)
    rintro e w14 ⟨rfl, hb⟩
    replace B0 := Lib.hid (below1 B0.out hb)
    replace Ka := Lib.hid (bl_up Ka.out hb)
    replace Kb := Lib.hid (bl_up Kb.out hb)
    replace Kz1 := Lib.hid (bl_up Kz1.out hb)
    replace Kc := Lib.hid (bl_up Kc.out hb)
    replace Kd := Lib.hid (bl_up Kd.out hb)
    replace Kk := Lib.hid (bl_up Kk.out hb)
    replace Km := Lib.hid (bl_up Km.out hb)
    clear hb
    have hA := (Below.refl w14.heap.size w14).alloc (Nat.le_refl _) (.cells #[.string ⟨#[45, 51]⟩, .string ⟨#[50]⟩] 23)
    replace B0 := Lib.hid (below1 B0.out hA)
    have Ko := Lib.hid (heap_new' w14 (.cells #[.string ⟨#[45, 51]⟩, .string ⟨#[50]⟩] 23) w14.heap.size rfl)
    replace Ka := Lib.hid (bl_up Ka.out hA)
    replace Kb := Lib.hid (bl_up Kb.out hA)
    replace Kz1 := Lib.hid (bl_up Kz1.out hA)
    replace Kc := Lib.hid (bl_up Kc.out hA)
    replace Kd := Lib.hid (bl_up Kd.out hA)
    replace Kk := Lib.hid (bl_up Kk.out hA)
    replace Km := Lib.hid (bl_up Km.out hA)
    clear hA
    go_wp2_with fail
    (with_reducible refine (C9.out _ B0.out).mono ?_)
    rintro e w15 ⟨rfl, hb⟩
    replace B0 := Lib.hid (below1 B0.out hb)
    replace Ka := Lib.hid (bl_up Ka.out hb)
    replace Kb := Lib.hid (bl_up Kb.out hb)
    replace Kz1 := Lib.hid (bl_up Kz1.out hb)
    replace Kc := Lib.hid (bl_up Kc.out hb)
    replace Kd := Lib.hid (bl_up Kd.out hb)
    replace Kk := Lib.hid (bl_up Kk.out hb)
    replace Km := Lib.hid (bl_up Km.out hb)
    replace Ko := Lib.hid (bl_up Ko.out hb)
    clear hb
    have hA := (Below.refl w15.heap.size w15).alloc (Nat.le_refl _) (.cells #[.string ⟨#[]⟩, .string ⟨#[]⟩] 23)
    replace B0 := Lib.hid (below1 B0.out hA)
    have Kz3 := Lib.hid (heap_new' w15 (.cells #[.string ⟨#[]⟩, .string ⟨#[]⟩] 23) w15.heap.size rfl)
    replace Ka := Lib.hid (bl_up Ka.out hA)
    replace Kb := Lib.hid (bl_up Kb.out hA)
    replace Kz1 := Lib.hid (bl_up Kz1.out hA)
    replace Kc := Lib.hid (bl_up Kc.out hA)
    replace Kd := Lib.hid (bl_up Kd.out hA)
    replace Kk := Lib.hid (bl_up Kk.out hA)
    replace Km := Lib.hid (bl_up Km.out hA)
    replace Ko := Lib.hid (bl_up Ko.out hA)
    clear hA
    go_upto_region 12 with fail
    obtain ⟨X, hX⟩ : ∃ X, w15.alloc (.cells #[.string ⟨#[]⟩, .string ⟨#[]⟩] 23) = X := ⟨_, rfl⟩
    rw [hX] at B0 ⊢
    rw [hX] at Ka
    obtain ⟨a1, a2, _, _⟩ := box2 Ka.out
    rw [hX] at Kb
    obtain ⟨b1, b2, _, _⟩ := box2 Kb.out
    rw [hX] at Kc
    obtain ⟨c1, c2, _, _⟩ := box2 Kc.out
    rw [hX] at Kd
    obtain ⟨d1, d2, _, _⟩ := box2 Kd.out
    rw [hX] at Kk
    obtain ⟨k1, k2, _, _⟩ := box2 Kk.out
    rw [hX] at Km
    obtain ⟨m1, m2, _, _⟩ := box2 Km.out
    rw [hX] at Ko
    obtain ⟨o1, o2, _, _⟩ := box2 Ko.out
    clear hX
    have KS := Lib.hid (fun w' (h : Below X.heap.size X w') => show w'.cell? ⟨w1.heap.size, 0, none⟩ = some (.string ⟨#[45, 51]⟩) ∧ w'.cell? ⟨w1.heap.size, 1, none⟩ = some (.string ⟨#[50]⟩) ∧ w'.cell? ⟨w2.heap.size, 0, none⟩ = some (.string ⟨#[48]⟩) ∧ w'.cell? ⟨w2.heap.size, 1, none⟩ = some (.string ⟨#[49]⟩) ∧ w'.cell? ⟨w6.heap.size, 0, none⟩ = some (.string ⟨#[53]⟩) ∧ w'.cell? ⟨w6.heap.size, 1, none⟩ = some (.string ⟨#[54]⟩) ∧ w'.cell? ⟨w9.heap.size, 0, none⟩ = some (.string ⟨#[45, 50]⟩) ∧ w'.cell? ⟨w9.heap.size, 1, none⟩ = some (.string ⟨#[49]⟩) ∧ w'.cell? ⟨w11.heap.size, 0, none⟩ = some (.string ⟨#[45, 49, 55]⟩) ∧ w'.cell? ⟨w11.heap.size, 1, none⟩ = some (.string ⟨#[53, 48]⟩) ∧ w'.cell? ⟨w13.heap.size, 0, none⟩ = some (.string ⟨#[49, 55]⟩) ∧ w'.cell? ⟨w13.heap.size, 1, none⟩ = some (.string ⟨#[53, 48]⟩) ∧ w'.cell? ⟨w14.heap.size, 0, none⟩ = some (.string ⟨#[45, 51]⟩) ∧ w'.cell? ⟨w14.heap.size, 1, none⟩ = some (.string ⟨#[50]⟩) from ⟨(h.cell (p := ⟨w1.heap.size, 0, none⟩) (block_lt_of_cell a1)).trans a1, (h.cell (p := ⟨w1.heap.size, 1, none⟩) (block_lt_of_cell a2)).trans a2, (h.cell (p := ⟨w2.heap.size, 0, none⟩) (block_lt_of_cell b1)).trans b1, (h.cell (p := ⟨w2.heap.size, 1, none⟩) (block_lt_of_cell b2)).trans b2, (h.cell (p := ⟨w6.heap.size, 0, none⟩) (block_lt_of_cell c1)).trans c1, (h.cell (p := ⟨w6.heap.size, 1, none⟩) (block_lt_of_cell c2)).trans c2, (h.cell (p := ⟨w9.heap.size, 0, none⟩) (block_lt_of_cell d1)).trans d1, (h.cell (p := ⟨w9.heap.size, 1, none⟩) (block_lt_of_cell d2)).trans d2, (h.cell (p := ⟨w11.heap.size, 0, none⟩) (block_lt_of_cell k1)).trans k1, (h.cell (p := ⟨w11.heap.size, 1, none⟩) (block_lt_of_cell k2)).trans k2, (h.cell (p := ⟨w13.heap.size, 0, none⟩) (block_lt_of_cell m1)).trans m1, (h.cell (p := ⟨w13.heap.size, 1, none⟩) (block_lt_of_cell m2)).trans m2, (h.cell (p := ⟨w14.heap.size, 0, none⟩) (block_lt_of_cell o1)).trans o1, (h.cell (p := ⟨w14.heap.size, 1, none⟩) (block_lt_of_cell o2)).trans o2⟩)
    have hB : Below X.heap.size X X.drew := (Below.refl _ _).drew
    clear a1 a2 b1 b2 c1 c2 d1 d2 k1 k2 m1 m2 o1 o2
    have CPR := Lib.hid (fun W (hW : Below w.heap.size w W) => print_pr (⟨#[45, 51]⟩, ⟨#[50]⟩) W ⟨by decide, by decide⟩ (HT.out W hW))
    rw [show prS (⟨#[45, 51]⟩, ⟨#[50]⟩) = ⟨#[45, 51, 47, 50]⟩ from by decide +kernel] at CPR
    have CCM := Lib.hid (fun W (hW : Below w.heap.size w W) => qcmp_pr (⟨#[49]⟩, ⟨#[51]⟩) (⟨#[51, 51, 51, 51, 51]⟩, ⟨#[49, 48, 48, 48, 48, 48]⟩) W ⟨by decide, by decide⟩ ⟨by decide, by decide⟩ (HT.out W hW))
    rw [show cmpO (⟨#[49]⟩, ⟨#[51]⟩) (⟨#[51, 51, 51, 51, 51]⟩, ⟨#[49, 48, 48, 48, 48, 48]⟩) = 1 from by decide +kernel] at CCM
    have CV1 := Lib.hid (fun W (hW : Below w.heap.size w W) => qvalid_any ⟨#[45, 51]⟩ ⟨#[50]⟩ W (by decide) (by decide) (HT.out W hW))
    rw [show fV ⟨#[45, 51]⟩ ⟨#[50]⟩ = true from by decide +kernel] at CV1
    have CV2 := Lib.hid (fun W (hW : Below w.heap.size w W) => qvalid_any ⟨#[]⟩ ⟨#[]⟩ W (by decide) (by decide) (HT.out W hW))
    rw [show fV ⟨#[]⟩ ⟨#[]⟩ = false from by decide +kernel] at CV2
    go_region_held3 (fun w' => w'.cell? ⟨w1.heap.size, 0, none⟩ = some (.string ⟨#[45, 51]⟩) ∧ w'.cell? ⟨w1.heap.size, 1, none⟩ = some (.string ⟨#[50]⟩) ∧ w'.cell? ⟨w2.heap.size, 0, none⟩ = some (.string ⟨#[48]⟩) ∧ w'.cell? ⟨w2.heap.size, 1, none⟩ = some (.string ⟨#[49]⟩) ∧ w'.cell? ⟨w6.heap.size, 0, none⟩ = some (.string ⟨#[53]⟩) ∧ w'.cell? ⟨w6.heap.size, 1, none⟩ = some (.string ⟨#[54]⟩) ∧ w'.cell? ⟨w9.heap.size, 0, none⟩ = some (.string ⟨#[45, 50]⟩) ∧ w'.cell? ⟨w9.heap.size, 1, none⟩ = some (.string ⟨#[49]⟩) ∧ w'.cell? ⟨w11.heap.size, 0, none⟩ = some (.string ⟨#[45, 49, 55]⟩) ∧ w'.cell? ⟨w11.heap.size, 1, none⟩ = some (.string ⟨#[53, 48]⟩) ∧ w'.cell? ⟨w13.heap.size, 0, none⟩ = some (.string ⟨#[49, 55]⟩) ∧ w'.cell? ⟨w13.heap.size, 1, none⟩ = some (.string ⟨#[53, 48]⟩) ∧ w'.cell? ⟨w14.heap.size, 0, none⟩ = some (.string ⟨#[45, 51]⟩) ∧ w'.cell? ⟨w14.heap.size, 1, none⟩ = some (.string ⟨#[50]⟩))
      (first
        | exact KS.out _ hB
        | go_keep)
      (first
        | (go_at_call 41; (with_reducible refine (is_any _ _ _).mono ?_); rintro e wi ⟨rfl, hb⟩; replace hB := hB.trans (hb.mono hB.size))
        | (go_at_call 33; (with_reducible refine (CPR.out _ (below1 B0.out hB)).mono ?_); rintro e wi ⟨rfl, hb⟩; replace hB := hB.trans (hb.mono hB.size))
        | (go_at_call 20; (with_reducible refine (CCM.out _ (below1 B0.out hB)).mono ?_); rintro e wi ⟨rfl, hb⟩; replace hB := hB.trans (hb.mono hB.size))
        | (go_at_call 29; (with_reducible refine (CV1.out _ (below1 B0.out hB)).mono ?_); rintro e wi ⟨rfl, hb⟩; replace hB := hB.trans (hb.mono hB.size))
        | (go_at_call 29; (with_reducible refine (CV2.out _ (below1 B0.out hB)).mono ?_); rintro e wi ⟨rfl, hb⟩; replace hB := hB.trans (hb.mono hB.size)))
    all_goals
      have HF := Lib.hid (below1 B0.out hB)
      clear hB hb
      go_wp2
      go_ret
      exact ⟨rfl, HF.out⟩
end Go.Proofs.YtcjcafekacceiaaGreatDoor
