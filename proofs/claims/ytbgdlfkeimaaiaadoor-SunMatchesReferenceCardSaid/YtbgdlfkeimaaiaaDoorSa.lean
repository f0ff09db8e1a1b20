/- sane, walked: the chapter's examples. -/
import Derived.Test.YtbgdlfkeimaaiaaDoorRw
import Derived.Test.YtbgdlfkeimaaiaaDoorRu
import Derived.Test.YtbgdlfkeimaaiaaDoorAr
namespace Go.Proofs.YtbgdlfkeimaaiaaDoor
open Go.RowKit
set_option linter.unusedSimpArgs false
set_option linter.unusedVariables false
theorem sa_n0 (w : World) : Calls Tryd.prog 14 #[.int .i64 0] w (OutV w (.tuple #[.int .i64 0, .int .i64 0])) := by
  have e : noonN 0 = 0 := by decide
  have h := noonS_yes 0 (by decide) w
  rw [e] at h
  exact h.mono fun e w' ⟨he, hw⟩ => ⟨he, hw ▸ Below.refl _ _⟩
theorem sa_n1 (w : World) : Calls Tryd.prog 14 #[.int .i64 30] w (OutV w (.tuple #[.int .i64 47000, .int .i64 0])) := by
  have e : noonN 30 = 47000 := by decide
  have h := noonS_yes 30 (by decide) w
  rw [e] at h
  exact h.mono fun e w' ⟨he, hw⟩ => ⟨he, hw ▸ Below.refl _ _⟩
theorem sa_n2 (w : World) : Calls Tryd.prog 14 #[.int .i64 720] w (OutV w (.tuple #[.int .i64 24000, .int .i64 0])) := by
  have e : noonN 720 = 24000 := by decide
  have h := noonS_yes 720 (by decide) w
  rw [e] at h
  exact h.mono fun e w' ⟨he, hw⟩ => ⟨he, hw ▸ Below.refl _ _⟩
theorem sa_n3 (w : World) : Calls Tryd.prog 14 #[.int .i64 1410] w (OutV w (.tuple #[.int .i64 1000, .int .i64 0])) := by
  have e : noonN 1410 = 1000 := by decide
  have h := noonS_yes 1410 (by decide) w
  rw [e] at h
  exact h.mono fun e w' ⟨he, hw⟩ => ⟨he, hw ▸ Below.refl _ _⟩
theorem sa_s0 (w : World) : Calls Tryd.prog 16 #[.int .i64 0] w (OutV w (.tuple #[.int .i64 12000, .int .i64 0])) := by
  have e : seasN 0 = 12000 := by decide
  have h := seasS_yes 0 (by decide) w
  rw [e] at h
  exact h.mono fun e w' ⟨he, hw⟩ => ⟨he, hw ▸ Below.refl _ _⟩
theorem sa_s1 (w : World) : Calls Tryd.prog 16 #[.int .i64 129600] w (OutV w (.tuple #[.int .i64 15000, .int .i64 0])) := by
  have e : seasN 129600 = 15000 := by decide
  have h := seasS_yes 129600 (by decide) w
  rw [e] at h
  exact h.mono fun e w' ⟨he, hw⟩ => ⟨he, hw ▸ Below.refl _ _⟩
theorem sa_s2 (w : World) : Calls Tryd.prog 16 #[.int .i64 388800] w (OutV w (.tuple #[.int .i64 9000, .int .i64 0])) := by
  have e : seasN 388800 = 9000 := by decide
  have h := seasS_yes 388800 (by decide) w
  rw [e] at h
  exact h.mono fun e w' ⟨he, hw⟩ => ⟨he, hw ▸ Below.refl _ _⟩
theorem sa_s3 (w : World) : Calls Tryd.prog 16 #[.int .i64 64800] w (OutV w (.tuple #[.int .i64 13500, .int .i64 0])) := by
  have e : seasN 64800 = 13500 := by decide
  have h := seasS_yes 64800 (by decide) w
  rw [e] at h
  exact h.mono fun e w' ⟨he, hw⟩ => ⟨he, hw ▸ Below.refl _ _⟩
theorem sa_h0 (w : World) : Calls Tryd.prog 18 #[.agg #[.int .i64 0, .int .i64 12], .int .i64 0] w (OutV w (.tuple #[.int .i64 83, .int .i64 0])) := by
  have e0 : hgt 0 12 0 = 83 := by decide
  have h := heightS_yes 0 12 0 (by decide) (by decide) (by decide) w
  rw [e0] at h
  exact h
theorem sa_h1 (w : World) : Calls Tryd.prog 18 #[.agg #[.int .i64 24, .int .i64 12], .int .i64 0] w (OutV w (.tuple #[.int .i64 (-90), .int .i64 0])) := by
  have e0 : hgt 24 12 0 = (-90) := by decide
  have h := heightS_yes 24 12 0 (by decide) (by decide) (by decide) w
  rw [e0] at h
  exact h
theorem sa_h2 (w : World) : Calls Tryd.prog 18 #[.agg #[.int .i64 12, .int .i64 12], .int .i64 0] w (OutV w (.tuple #[.int .i64 (-7), .int .i64 0])) := by
  have e0 : hgt 12 12 0 = (-7) := by decide
  have h := heightS_yes 12 12 0 (by decide) (by decide) (by decide) w
  rw [e0] at h
  exact h
theorem sa_h3 (w : World) : Calls Tryd.prog 18 #[.agg #[.int .i64 48, .int .i64 0], .int .i64 0] w (OutV w (.tuple #[.int .i64 0, .int .i64 60])) := by
  have h := heightS_no 48 0 0 (by decide) w
  exact h
theorem sa_nx (w : World) (hT : Tab w) : Calls Tryd.prog 20 #[.agg #[.int .i64 12, .int .i64 12], .int .i64 0, .bool true] w (OutV w (.tuple #[.int .i64 721, .int .i64 0])) := by
  have e0 : nextZ 12 12 0 true = 721 := by decide +kernel
  have h := nextS_yes 12 12 0 true (by decide) (by decide) (by decide) w hT
  rw [e0] at h
  exact h
theorem sa_l0 (w : World) (hT : Tab w) : Calls Tryd.prog 22 #[.agg #[.int .i64 0, .int .i64 12], .int .i64 0] w (OutV w (.bool true)) := by
  have e0 : decide (0 < hgt 0 12 0) = true := by decide
  have h := litS_yes 0 12 0 (by decide) (by decide) (by decide) w hT
  rw [e0] at h
  exact h
theorem sa_l1 (w : World) (hT : Tab w) : Calls Tryd.prog 22 #[.agg #[.int .i64 12, .int .i64 12], .int .i64 0] w (OutV w (.bool false)) := by
  have e0 : decide (0 < hgt 12 12 0) = false := by decide
  have h := litS_yes 12 12 0 (by decide) (by decide) (by decide) w hT
  rw [e0] at h
  exact h
theorem sa_d0 (w : World) (hT : Tab w) : Calls Tryd.prog 24 #[.agg #[.int .i64 12, .int .i64 12], .int .i64 0] w (OutV w (.bool false)) := by
  have e0 : decide (hgt 12 12 0 < -20) = false := by decide
  have h := darkS_yes 12 12 0 (by decide) (by decide) (by decide) w hT
  rw [e0] at h
  exact h
theorem sa_d1 (w : World) (hT : Tab w) : Calls Tryd.prog 24 #[.agg #[.int .i64 24, .int .i64 12], .int .i64 0] w (OutV w (.bool true)) := by
  have e0 : decide (hgt 24 12 0 < -20) = true := by decide
  have h := darkS_yes 24 12 0 (by decide) (by decide) (by decide) w hT
  rw [e0] at h
  exact h
def saF : Ar := putA (putA nul 0 12) 12 12
theorem sa_cells : cellsTo saF 24 = [(0, 12), (12, 12)] := by decide +kernel
theorem sa_rg (g : Nat) (w : World) (h : HasF w g 3 saF) (hT : Tab w) : Calls Tryd.prog 28 #[.agg #[.slice (some ⟨g, 0, none⟩) 24 24], .agg #[.int .i64 0, .int .i64 1]] w (OutV w (.tuple #[.int .i64 (-7), .int .i64 83, .int .i64 0])) := by
  have h' := range_yes _ 24 24 _ (some saF) rfl 0 1 1 rfl (by decide) (by decide) (by decide) (by show 0 < (cellsTo saF 24).length; rw [sa_cells]; decide) w h.sa hT
  rw [show of (some saF) = saF from rfl, sa_cells, show lo (hsT [(0, 12), (12, 12)] (List.range' 0 1)) = -7 by decide, show hi (hsT [(0, 12), (12, 12)] (List.range' 0 1)) = 83 by decide] at h'
  exact h'
set_option maxRecDepth 100000 in
set_option maxHeartbeats 4000000 in
theorem sane_any (w : World) (hT : Tab w) : Calls Tryd.prog 11 #[] w (OutV w (.bool true)) := by
  obtain ⟨W, hW⟩ : ∃ W, w.alloc (.cells #[.int .i64 0, .int .i64 30, .int .i64 720, .int .i64 1410] 3) = W := ⟨_, rfl⟩
  have HU := Lib.hid ((up_vb (Below.refl w.heap.size w) hT : Up w (VB w)).next (show Below w.heap.size w W from by rw [← hW]; exact (Below.refl _ _).alloc (Nat.le_refl _) _))
  have hR : BX W w.heap.size #[.int .i64 0, .int .i64 30, .int .i64 720, .int .i64 1410] 3 := by rw [← hW]; exact BX.new rfl
  have HR := Lib.hid hR
  clear hT hR
  go_enter Tryd.func11, Tryd.ntmps11
  go_wp2
  go_loopw [25] (fun i wr => ∃ k : Nat, k ≤ 4 ∧ i = iV k ∧ Below W.heap.size W wr) (fun i _ => 4 - (intOf i).toNat)
  case atStart => exact ⟨0, by omega, rfl, Below.refl _ _⟩
  case round =>
    obtain ⟨k, hk, rfl, hB⟩ := hrel
    have HB := Lib.hid hB
    have hU := HU.out.next hB
    have hr := HR.out.next hB
    have q0 : wr.cell? ⟨w.heap.size, 0, none⟩ = some (.int .i64 0) := hr.cell 0
    have q1 : wr.cell? ⟨w.heap.size, 1, none⟩ = some (.int .i64 30) := hr.cell 1
    have q2 : wr.cell? ⟨w.heap.size, 2, none⟩ = some (.int .i64 720) := hr.cell 2
    have q3 : wr.cell? ⟨w.heap.size, 3, none⟩ = some (.int .i64 1410) := hr.cell 3
    clear hB hr
    have hk5 : k = 0 ∨ k = 1 ∨ k = 2 ∨ k = 3 ∨ k = 4 := by omega
    rcases hk5 with rfl | rfl | rfl | rfl | rfl
    · go_wp2_with fail
      (with_reducible refine (sa_n0 _).mono ?_)
      rintro e w1 ⟨rfl, hb⟩
      have HB1 := Lib.hid (below_tr HB.out hb)
      clear q0 q1 q2 q3 hb hU
      go_wp2
      go_roundw
      case rel => exact ⟨1, by omega, rfl, HB1.out.alloc HB1.out.size _⟩
      case measure => simp [intOf]
    · go_wp2_with fail
      (with_reducible refine (sa_n1 _).mono ?_)
      rintro e w1 ⟨rfl, hb⟩
      have HB1 := Lib.hid (below_tr HB.out hb)
      clear q0 q1 q2 q3 hb hU
      go_wp2
      go_roundw
      case rel => exact ⟨2, by omega, rfl, HB1.out.alloc HB1.out.size _⟩
      case measure => simp [intOf]
    · go_wp2_with fail
      (with_reducible refine (sa_n2 _).mono ?_)
      rintro e w1 ⟨rfl, hb⟩
      have HB1 := Lib.hid (below_tr HB.out hb)
      clear q0 q1 q2 q3 hb hU
      go_wp2
      go_roundw
      case rel => exact ⟨3, by omega, rfl, HB1.out.alloc HB1.out.size _⟩
      case measure => simp [intOf]
    · go_wp2_with fail
      (with_reducible refine (sa_n3 _).mono ?_)
      rintro e w1 ⟨rfl, hb⟩
      have HB1 := Lib.hid (below_tr HB.out hb)
      clear q0 q1 q2 q3 hb hU
      go_wp2
      go_roundw
      case rel => exact ⟨4, by omega, rfl, HB1.out.alloc HB1.out.size _⟩
      case measure => simp [intOf]
    · clear q0 q1 q2 q3
      rename World => wl
      obtain ⟨X, hX⟩ : ∃ X, wl.alloc (.cells #[.int .i64 0, .int .i64 90, .int .i64 270, .int .i64 45] 3) = X := ⟨_, rfl⟩
      have hbX : Below wl.heap.size wl X := by rw [← hX]; exact (Below.refl _ _).alloc (Nat.le_refl _) _
      replace HU := Lib.hid (hU.next hbX)
      have hRX : BX X wl.heap.size #[.int .i64 0, .int .i64 90, .int .i64 270, .int .i64 45] 3 := by rw [← hX]; exact BX.new rfl
      replace HR := Lib.hid hRX
      clear hRX hbX hU HB hW
      go_wp2
      go_loopw [48] (fun i wr => ∃ k : Nat, k ≤ 4 ∧ i = iV k ∧ Below X.heap.size X wr) (fun i _ => 4 - (intOf i).toNat)
      case atStart => exact ⟨0, by omega, rfl, Below.refl _ _⟩
      case round =>
        obtain ⟨k, hk, rfl, hB⟩ := hrel
        have HB := Lib.hid hB
        have hU := HU.out.next hB
        have hr := HR.out.next hB
        have q0 : wr.cell? ⟨wl.heap.size, 0, none⟩ = some (.int .i64 0) := hr.cell 0
        have q1 : wr.cell? ⟨wl.heap.size, 1, none⟩ = some (.int .i64 90) := hr.cell 1
        have q2 : wr.cell? ⟨wl.heap.size, 2, none⟩ = some (.int .i64 270) := hr.cell 2
        have q3 : wr.cell? ⟨wl.heap.size, 3, none⟩ = some (.int .i64 45) := hr.cell 3
        clear hB hr HU HR
        have hk5 : k = 0 ∨ k = 1 ∨ k = 2 ∨ k = 3 ∨ k = 4 := by omega
        rcases hk5 with rfl | rfl | rfl | rfl | rfl
        · go_wp2_with fail
          (with_reducible refine (sa_s0 _).mono ?_)
          rintro e w1 ⟨rfl, hb⟩
          have HB1 := Lib.hid (below_tr HB.out hb)
          clear q0 q1 q2 q3 hb hU
          go_wp2
          go_roundw
          case rel => exact ⟨1, by omega, rfl, HB1.out.alloc HB1.out.size _⟩
          case measure => simp [intOf]
        · go_wp2_with fail
          (with_reducible refine (sa_s1 _).mono ?_)
          rintro e w1 ⟨rfl, hb⟩
          have HB1 := Lib.hid (below_tr HB.out hb)
          clear q0 q1 q2 q3 hb hU
          go_wp2
          go_roundw
          case rel => exact ⟨2, by omega, rfl, HB1.out.alloc HB1.out.size _⟩
          case measure => simp [intOf]
        · go_wp2_with fail
          (with_reducible refine (sa_s2 _).mono ?_)
          rintro e w1 ⟨rfl, hb⟩
          have HB1 := Lib.hid (below_tr HB.out hb)
          clear q0 q1 q2 q3 hb hU
          go_wp2
          go_roundw
          case rel => exact ⟨3, by omega, rfl, HB1.out.alloc HB1.out.size _⟩
          case measure => simp [intOf]
        · go_wp2_with fail
          (with_reducible refine (sa_s3 _).mono ?_)
          rintro e w1 ⟨rfl, hb⟩
          have HB1 := Lib.hid (below_tr HB.out hb)
          clear q0 q1 q2 q3 hb hU
          go_wp2
          go_roundw
          case rel => exact ⟨4, by omega, rfl, HB1.out.alloc HB1.out.size _⟩
          case measure => simp [intOf]
        · clear q0 q1 q2 q3 HB
          have HU := Lib.hid hU
          clear hU
          go_wp2_with fail
          (with_reducible refine (sa_h0 _).mono ?_)
          rintro e v1 ⟨rfl, hb⟩
          replace HU := Lib.hid (HU.out.next hb)
          clear hb
          go_wp2_with fail
          (with_reducible refine (sa_h1 _).mono ?_)
          rintro e v2 ⟨rfl, hb⟩
          replace HU := Lib.hid (HU.out.next hb)
          clear hb
          go_wp2_with fail
          (with_reducible refine (sa_h2 _).mono ?_)
          rintro e v3 ⟨rfl, hb⟩
          replace HU := Lib.hid (HU.out.next hb)
          clear hb
          go_wp2_with fail
          (with_reducible refine (sa_nx _ HU.out.now.2).mono ?_)
          rintro e v4 ⟨rfl, hb⟩
          replace HU := Lib.hid (HU.out.next hb)
          clear hb
          go_wp2_with fail
          (with_reducible refine (sa_h3 _).mono ?_)
          rintro e v5 ⟨rfl, hb⟩
          replace HU := Lib.hid (HU.out.next hb)
          clear hb
          obtain ⟨V, hV⟩ : ∃ V, v5.alloc (.cells (FC nul) 3) = V := ⟨_, rfl⟩
          obtain ⟨U, hU⟩ : ∃ U, V.alloc (.cells #[.slice (some ⟨v5.heap.size, 0, none⟩) 24 24] 27) = U := ⟨_, rfl⟩
          have hbV : Below v5.heap.size v5 V := by rw [← hV]; exact (Below.refl _ _).alloc (Nat.le_refl _) _
          have hF : HasF V v5.heap.size 3 nul := by rw [← hV]; exact heap_new' _ _ _ rfl
          have hbU : Below V.heap.size V U := by rw [← hU]; exact (Below.refl _ _).alloc (Nat.le_refl _) _
          have hA : BX U V.heap.size #[.slice (some ⟨v5.heap.size, 0, none⟩) 24 24] 27 := by rw [← hU]; exact BX.new rfl
          have hFU : HasF U v5.heap.size 3 nul := hF.below hbU hF.lt
          have hmk := run_make24 v5
          have a0 : U.cell? ⟨V.heap.size, 0, none⟩ = some (.slice (some ⟨v5.heap.size, 0, none⟩) 24 24) := hA.cell 0
          have r12 : U.cell? ⟨v5.heap.size, 12, none⟩ = some (iV (rowOf nul 12)) := hFU.cell (by decide)
          have f12 := hFU.frozen 12
          have hne : V.heap.size ≠ v5.heap.size := by have := hF.lt; omega
          have HFIN := Lib.hid (show ∀ Z, Z = U.setCell ⟨v5.heap.size, 12, none⟩ (.int .i64 4097) → Up Z (VB w) ∧ HasF Z v5.heap.size 3 saF ∧ Z.cell? ⟨V.heap.size, 0, none⟩ = some (.slice (some ⟨v5.heap.size, 0, none⟩) 24 24) from by
            rintro Z rfl
            have hbZ : Below v5.heap.size v5 (U.setCell ⟨v5.heap.size, 12, none⟩ (.int .i64 4097)) := (below_tr hbV hbU).setCell (p := ⟨v5.heap.size, 12, none⟩) (Nat.le_refl _) _
            refine ⟨HU.out.next hbZ, HasF.set (f' := saF) (k := 12) (r := 4097) hFU (by decide) (by decide +kernel) (fun y _ hy x _ => ?_), ?_⟩
            · unfold saF; rw [put_other hy, put_other hy]
            · exact (BX.cell (show BX _ V.heap.size _ _ from (heap_setCell_other _ _ _ _ hne).trans hA) 0))
          clear hbV hF hbU hA hFU HU
          go_wp2_with fail
          clear hV hU hmk a0 r12 f12 hne
          obtain ⟨Z, hZ⟩ : ∃ Z, U.setCell ⟨v5.heap.size, 12, none⟩ (.int .i64 4097) = Z := ⟨_, rfl⟩
          obtain ⟨hUZ, hFZ, hcZ⟩ := HFIN.out Z hZ.symm
          rw [hZ]
          have HU := Lib.hid hUZ
          have CR := Lib.hid (sa_rg _ Z hFZ hUZ.now.2)
          clear hZ hFZ hcZ HFIN hUZ
          (with_reducible refine CR.out.mono ?_)
          rintro e v6 ⟨rfl, hb⟩
          replace HU := Lib.hid (HU.out.next hb)
          clear hb CR
          go_wp2_with fail
          (with_reducible refine (sa_l0 _ HU.out.now.2).mono ?_)
          rintro e v7 ⟨rfl, hb⟩
          replace HU := Lib.hid (HU.out.next hb)
          clear hb
          go_wp2_with fail
          (with_reducible refine (sa_l1 _ HU.out.now.2).mono ?_)
          rintro e v8 ⟨rfl, hb⟩
          replace HU := Lib.hid (HU.out.next hb)
          clear hb
          go_wp2_with fail
          (with_reducible refine (sa_d0 _ HU.out.now.2).mono ?_)
          rintro e v9 ⟨rfl, hb⟩
          replace HU := Lib.hid (HU.out.next hb)
          clear hb
          go_wp2_with fail
          (with_reducible refine (sa_d1 _ HU.out.now.2).mono ?_)
          rintro e v10 ⟨rfl, hb⟩
          replace HU := Lib.hid (HU.out.next hb)
          clear hb
          go_wp2
          go_ret
          exact ⟨rfl, HU.out.now.1⟩
end Go.Proofs.YtbgdlfkeimaaiaaDoor
