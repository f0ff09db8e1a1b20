/- SunNoon, walked. -/
import Derived.Lib.MinMax
import Derived.Deep.Cut
import Derived.Deep.CutBlock
import Derived.Deep.DeepCutAuto
import Derived.Test.YtbgdlfkeimaaiaaDoorLn
namespace Go.Proofs.YtbgdlfkeimaaiaaDoor
open Go.RowKit
set_option linter.unusedSimpArgs false
set_option linter.unusedVariables false
theorem lpQ (z : Int) (h0 : -9223372036854775808 ≤ z) (h1 : z ≤ 9223372036854775807) (n : Nat) (hn : 0 < n) (hn2 : n ≤ 2000000000) (N : Int) (hN : N = (n : Int)) :
    ∃ i : Nat, i < n ∧ ∀ w : World, Calls Tryd.prog 13 #[.int .i64 z, .int .i64 N] w fun e w' => e = .returned (iV i) ∧ w = w' :=
  ⟨pickZ z n, pickZ_lt z hn, fun w => lpick_any z h0 h1 n hn hn2 N hN w⟩
theorem deg_eq {d e : Nat} (h : d = e) : degZ d = degZ e := by rw [h]
/-- Behind a draw nothing has turned. -/
theorem up_drew {w : World} {P : World → Prop} (h : Up w P) : Up w.drew P := h.next (Below.refl _ _).drew
set_option maxRecDepth 100000 in
set_option maxHeartbeats 8000000 in
theorem noon_law (a b c e f : Int) (a0 : -9223372036854775808 ≤ a) (a1 : a ≤ 9223372036854775807) (b0 : -9223372036854775808 ≤ b) (b1 : b ≤ 9223372036854775807) (c0 : -9223372036854775808 ≤ c) (c1 : c ≤ 9223372036854775807) (e0 : -9223372036854775808 ≤ e) (e1 : e ≤ 9223372036854775807) (f0 : -9223372036854775808 ≤ f) (f1 : f ≤ 9223372036854775807) (w : World) (hT : Tab w) :
    Calls Tryd.prog 5 #[.int .i64 a, .int .i64 b, .int .i64 c, .int .i64 e, .int .i64 f] w (OutV w (.bool true)) := by
  have HU := Lib.hid (up_vb (Below.refl w.heap.size w) hT : Up w (VB w))
  obtain ⟨x, y, hx, hy, CC⟩ := lcV a b a0 a1 b0 b1
  obtain ⟨t, ht, CT⟩ := lpV f f0 f1 1000001 (by decide) (by decide) 1000001 rfl
  obtain ⟨x', hx', CX⟩ := lpQ c c0 c1 48 (by decide) (by decide) 48 rfl
  obtain ⟨y', hy', CY⟩ := lpQ e e0 e1 24 (by decide) (by decide) 24 rfl
  have HC := Lib.hid CC; have HT := Lib.hid CT; have HX := Lib.hid CX; have HY := Lib.hid CY
  have HL := Lib.hid (show (x < 48 ∧ y < 24) ∧ (x' < 48 ∧ y' < 24) ∧ t ≤ 1000000 from ⟨⟨hx, hy⟩, ⟨hx', hy'⟩, by omega⟩)
  clear CC CT CX CY hx hy hx' hy' ht a0 a1 b0 b1 c0 c1 e0 e1 f0 f1 hT
  go_enter Tryd.func5, Tryd.ntmps5
  go_wp2_with fail
  (with_reducible refine (sane_any _ HU.out.now.2).mono ?_)
  rintro e v1 ⟨rfl, hb⟩
  replace HU := Lib.hid (HU.out.next hb)
  clear hb
  go_wp2_with fail
  (with_reducible refine (HC.out _).mono ?_)
  rintro e v2 ⟨rfl, hb⟩
  replace HU := Lib.hid (HU.out.next hb)
  clear hb
  obtain ⟨x2, B, ex2, eb2, hb, hk⟩ := box1 v2 #[.int .i64 (x : Int), .int .i64 (y : Int)] 23
  replace HU := Lib.hid (HU.out.next hb)
  have UB := Lib.hid (up_vr hk : Up x2 (VR B #[.int .i64 (x : Int), .int .i64 (y : Int)] 23))
  clear hb hk
  go_wp2_with fail
  clear ex2 eb2
  (with_reducible refine (HT.out _).mono ?_)
  rintro e v3 ⟨rfl, hb⟩
  replace HU := Lib.hid (HU.out.next hb)
  replace UB := Lib.hid (UB.out.next hb)
  clear hb
  go_upto_region 5 with fail
  have cB0 : v3.cell? ⟨B, 0, none⟩ = some (.int .i64 (x : Int)) := row_cell UB.out.now 0
  have cB1 : v3.cell? ⟨B, 1, none⟩ = some (.int .i64 (y : Int)) := row_cell UB.out.now 1
  go_cut [13] from 37 to 42 (fun s wx => s = .pointer (some ⟨v3.heap.size, 0, none⟩) ∧ Below v3.heap.size v3 wx ∧ VR v3.heap.size #[.int .i64 (x' : Int), .int .i64 (y : Int)] 23 wx)
  case first =>
    have KB := Lib.hid (fun w' (h : Below v3.heap.size v3 w') => show w'.cell? ⟨B, 0, none⟩ = some (.int .i64 (x : Int)) ∧ w'.cell? ⟨B, 1, none⟩ = some (.int .i64 (y : Int)) from ⟨(row_cell (UB.out _ h) 0).trans rfl, (row_cell (UB.out _ h) 1).trans rfl⟩)
    have hB : Below v3.heap.size v3 v3.drew := (Below.refl _ _).drew
    go_region_held3 (fun w' => w'.cell? ⟨B, 0, none⟩ = some (.int .i64 (x : Int)) ∧ w'.cell? ⟨B, 1, none⟩ = some (.int .i64 (y : Int)))
      (first
        | exact KB.out _ hB
        | exact KB.out _ (hB.alloc hB.size _)
        | go_keep)
      ((go_at_call 13; (with_reducible refine (HX.out _).mono ?_); rintro e wi ⟨rfl, rfl⟩))
    all_goals go_wp2_with fail
    all_goals go_meet
    all_goals exact ⟨rfl, ((Below.refl _ _).alloc (Nat.le_refl _) _).drew, heap_new' _ _ _ rfl⟩
  case rest =>
    rename World => z5
    obtain ⟨rfl, hb, hk⟩ := hcut
    replace HU := Lib.hid (HU.out.next hb)
    replace UB := Lib.hid (UB.out.next hb)
    obtain ⟨D, hDB⟩ : ∃ D, v3.heap.size = D := ⟨_, rfl⟩
    rw [hDB] at hk ⊢
    have UD := Lib.hid (up_vr hk : Up z5 (VR D #[.int .i64 (x' : Int), .int .i64 (y : Int)] 23))
    clear hb hk hDB cB0 cB1
    go_upto_region 6 with fail
    have cB0 : z5.cell? ⟨B, 0, none⟩ = some (.int .i64 (x : Int)) := row_cell UB.out.now 0
    have cB1 : z5.cell? ⟨B, 1, none⟩ = some (.int .i64 (y : Int)) := row_cell UB.out.now 1
    go_cut [14] from 42 to 47 (fun s wx => s = .pointer (some ⟨z5.heap.size, 0, none⟩) ∧ Below z5.heap.size z5 wx ∧ VR z5.heap.size #[.int .i64 (x : Int), .int .i64 (y' : Int)] 23 wx)
    case first =>
      have KB := Lib.hid (fun w' (h : Below z5.heap.size z5 w') => show w'.cell? ⟨B, 0, none⟩ = some (.int .i64 (x : Int)) ∧ w'.cell? ⟨B, 1, none⟩ = some (.int .i64 (y : Int)) from ⟨(row_cell (UB.out _ h) 0).trans rfl, (row_cell (UB.out _ h) 1).trans rfl⟩)
      have hB : Below z5.heap.size z5 z5.drew := (Below.refl _ _).drew
      go_region_held3 (fun w' => w'.cell? ⟨B, 0, none⟩ = some (.int .i64 (x : Int)) ∧ w'.cell? ⟨B, 1, none⟩ = some (.int .i64 (y : Int)))
        (first
          | exact KB.out _ hB
          | exact KB.out _ (hB.alloc hB.size _)
          | go_keep)
        ((go_at_call 13; (with_reducible refine (HY.out _).mono ?_); rintro e wi ⟨rfl, rfl⟩))
      all_goals go_wp2_with fail
      all_goals go_meet
      all_goals exact ⟨rfl, ((Below.refl _ _).alloc (Nat.le_refl _) _).drew, heap_new' _ _ _ rfl⟩
    case rest =>
      rename World => z6
      obtain ⟨rfl, hb, hk⟩ := hcut
      replace HU := Lib.hid (HU.out.next hb)
      replace UB := Lib.hid (UB.out.next hb)
      replace UD := Lib.hid (UD.out.next hb)
      obtain ⟨E, hDB⟩ : ∃ E, z5.heap.size = E := ⟨_, rfl⟩
      rw [hDB] at hk ⊢
      have UE := Lib.hid (up_vr hk : Up z6 (VR E #[.int .i64 (x : Int), .int .i64 (y' : Int)] 23))
      clear hb hk hDB cB0 cB1
      have cB0 : z6.cell? ⟨B, 0, none⟩ = some (.int .i64 (x : Int)) := row_cell UB.out.now 0
      have cB1 : z6.cell? ⟨B, 1, none⟩ = some (.int .i64 (y : Int)) := row_cell UB.out.now 1
      go_wp2_with fail
      clear cB0 cB1
      (with_reducible refine (heightS_yes x y t HL.out.1.1 HL.out.1.2 HL.out.2.2 _).mono ?_)
      rintro e v4 ⟨rfl, hb⟩
      replace HU := Lib.hid (HU.out.next hb)
      replace UB := Lib.hid (UB.out.next hb)
      replace UD := Lib.hid (UD.out.next hb)
      replace UE := Lib.hid (UE.out.next hb)
      clear hb
      have cD0 : v4.cell? ⟨D, 0, none⟩ = some (.int .i64 (x' : Int)) := row_cell UD.out.now 0
      have cD1 : v4.cell? ⟨D, 1, none⟩ = some (.int .i64 (y : Int)) := row_cell UD.out.now 1
      go_wp2_with fail
      clear cD0 cD1
      (with_reducible refine (heightS_yes x' y t HL.out.2.1.1 HL.out.1.2 HL.out.2.2 _).mono ?_)
      rintro e v5 ⟨rfl, hb⟩
      replace HU := Lib.hid (HU.out.next hb)
      replace UB := Lib.hid (UB.out.next hb)
      replace UD := Lib.hid (UD.out.next hb)
      replace UE := Lib.hid (UE.out.next hb)
      clear hb
      have cE0 : v5.cell? ⟨E, 0, none⟩ = some (.int .i64 (x : Int)) := row_cell UE.out.now 0
      have cE1 : v5.cell? ⟨E, 1, none⟩ = some (.int .i64 (y' : Int)) := row_cell UE.out.now 1
      go_wp2_with fail
      clear cE0 cE1
      (with_reducible refine (heightS_yes x y' t HL.out.1.1 HL.out.2.1.2 HL.out.2.2 _).mono ?_)
      rintro e v6 ⟨rfl, hb⟩
      replace HU := Lib.hid (HU.out.next hb)
      replace UB := Lib.hid (UB.out.next hb)
      replace UD := Lib.hid (UD.out.next hb)
      replace UE := Lib.hid (UE.out.next hb)
      clear hb
      go_wp2_with fail
      (with_reducible refine ((seasS_yes t HL.out.2.2 _).mono (sameU _ _)).mono ?_)
      rintro e v7 ⟨rfl, hb⟩
      replace HU := Lib.hid (HU.out.next hb)
      replace UB := Lib.hid (UB.out.next hb)
      replace UD := Lib.hid (UD.out.next hb)
      replace UE := Lib.hid (UE.out.next hb)
      clear hb
      have cB0 : v7.cell? ⟨B, 0, none⟩ = some (.int .i64 (x : Int)) := row_cell UB.out.now 0
      have cB1 : v7.cell? ⟨B, 1, none⟩ = some (.int .i64 (y : Int)) := row_cell UB.out.now 1
      go_wp2_with fail
      clear cB0 cB1
      (with_reducible refine (across_any x t HL.out.1.1 HL.out.2.2 _).mono ?_)
      rintro e v8 ⟨rfl, hb⟩
      replace HU := Lib.hid (HU.out.next hb)
      replace UB := Lib.hid (UB.out.next hb)
      replace UD := Lib.hid (UD.out.next hb)
      replace UE := Lib.hid (UE.out.next hb)
      clear hb
      have cD0 : v8.cell? ⟨D, 0, none⟩ = some (.int .i64 (x' : Int)) := row_cell UD.out.now 0
      have cD1 : v8.cell? ⟨D, 1, none⟩ = some (.int .i64 (y : Int)) := row_cell UD.out.now 1
      go_wp2_with fail
      clear cD0 cD1
      (with_reducible refine (across_any x' t HL.out.2.1.1 HL.out.2.2 _).mono ?_)
      rintro e v9 ⟨rfl, hb⟩
      replace HU := Lib.hid (HU.out.next hb)
      replace UB := Lib.hid (UB.out.next hb)
      replace UD := Lib.hid (UD.out.next hb)
      replace UE := Lib.hid (UE.out.next hb)
      clear hb
      have hcb0 := hgt_le x y t
      obtain ⟨z, hz⟩ : ∃ z, seasN t = z := ⟨_, rfl⟩
      obtain ⟨p, hp⟩ : ∃ p, acrN x t = p := ⟨_, rfl⟩
      obtain ⟨q, hq⟩ : ∃ q, acrN x' t = q := ⟨_, rfl⟩
      obtain ⟨r, hr⟩ : ∃ r, alnN y t = r := ⟨_, rfl⟩
      obtain ⟨s, hs⟩ : ∃ s, alnN y' t = s := ⟨_, rfl⟩
      have HA := Lib.hid (show hgt x y t = degZ (p + r) ∧ hgt x' y t = degZ (q + r) ∧ hgt x y' t = degZ (p + s) from by rw [← hp, ← hq, ← hr, ← hs]; exact ⟨rfl, rfl, rfl⟩)
      have HQ := Lib.hid (show p ≤ 24000 ∧ q ≤ 24000 ∧ 9000 ≤ z ∧ z ≤ 15000 from by rw [← hp, ← hq, ← hz]; exact ⟨acrN_le _ _ HL.out.1.1, acrN_le _ _ HL.out.2.1.1, (seasN_le t).1, (seasN_le t).2⟩)
      have HR := Lib.hid (show max (1000 * (y : Int) + 500 - z) (z - 1000 * (y : Int) - 500) = (r : Int) ∧ max (1000 * (y' : Int) + 500 - z) (z - 1000 * (y' : Int) - 500) = (s : Int) from by rw [← hr, ← hs, ← hz]; unfold alnN gapN; exact ⟨by omega, by omega⟩)
      obtain ⟨A, hA⟩ : ∃ A, hgt x y t = A := ⟨_, rfl⟩
      obtain ⟨Bh, hBh⟩ : ∃ Bh, hgt x' y t = Bh := ⟨_, rfl⟩
      obtain ⟨Ch, hCh⟩ : ∃ Ch, hgt x y' t = Ch := ⟨_, rfl⟩
      have hA3 := HA.out
      rw [hA, hBh, hCh] at hA3
      rw [hA] at hcb0
      have HA3 := Lib.hid hA3
      have HAB := Lib.hid hcb0
      have HBC := Lib.hid (show (-90 ≤ Bh ∧ Bh ≤ 90) ∧ (-90 ≤ Ch ∧ Ch ≤ 90) from by rw [← hBh, ← hCh]; exact ⟨hgt_le _ _ _, hgt_le _ _ _⟩)
      rw [hp, hq, hz, hA, hBh, hCh]
      clear hA3 hcb0 hA hBh hCh hz hp hq hr hs HA
      have k1 : decide (A < -90) = false := by have := HAB.out; simp <;> omega
      have k2 : decide (90 < A) = false := by have := HAB.out; simp <;> omega
      go_upto_region 15 with fail
      clear k1 k2
      have A0 : -90 ≤ A := HAB.out.1
      have A1 : A ≤ 90 := HAB.out.2
      have B0 : -90 ≤ Bh := HBC.out.1.1
      have B1 : Bh ≤ 90 := HBC.out.1.2
      have C0 : -90 ≤ Ch := HBC.out.2.1
      have C1 : Ch ≤ 90 := HBC.out.2.2
      have F1 := Lib.hid (show p ≤ q → Bh ≤ A from fun h => by rw [HA3.out.1, HA3.out.2.1]; exact degZ_mono (by omega))
      have F2 := Lib.hid (show q ≤ p → A ≤ Bh from fun h => by rw [HA3.out.1, HA3.out.2.1]; exact degZ_mono (by omega))
      have F3 := Lib.hid (show r ≤ s → Ch ≤ A from fun h => by rw [HA3.out.1, HA3.out.2.2]; exact degZ_mono (by omega))
      have F4 := Lib.hid (show s ≤ r → A ≤ Ch from fun h => by rw [HA3.out.1, HA3.out.2.2]; exact degZ_mono (by omega))
      have G1 := Lib.hid (show q = p + 1000 → A - Bh = 7 ∨ A - Bh = 8 ∨ Bh = -90 from fun h => by
        have := degZ_step (p + r)
        rw [HA3.out.1, HA3.out.2.1, show q + r = p + r + 1000 by omega]
        omega)
      have G2 := Lib.hid (show s = r + 1000 → A - Ch = 7 ∨ A - Ch = 8 ∨ Ch = -90 from fun h => by
        have := degZ_step (p + r)
        rw [HA3.out.1, HA3.out.2.2, show p + s = p + r + 1000 by omega]
        omega)
      have p0 : (0 : Int) ≤ p := by omega
      have p1 : (p : Int) ≤ 24000 := by have := HQ.out; omega
      have q0 : (0 : Int) ≤ q := by omega
      have q1 : (q : Int) ≤ 24000 := by have := HQ.out; omega
      go_cut [131] from 114 to 131 (fun s wx => s = .bool false ∧ wx = v9)
      case first =>
        rcases Nat.lt_trichotomy p q with h | h | h
        · skip
          have d1 : decide (p ≤ q) = true := by simp <;> omega
          have d2 : decide (A < Bh) = false := by have e := F1.out (by omega); simp <;> omega
          have d3 : decide (q ≤ p) = false := by simp <;> omega
          clear h
          go_wp2
          go_meet
          exact ⟨rfl, rfl⟩
        · skip
          have d1 : decide (p ≤ q) = true := by simp <;> omega
          have d2 : decide (A < Bh) = false := by have e := F1.out (by omega); simp <;> omega
          have d3 : decide (q ≤ p) = true := by simp <;> omega
          have d4 : decide (Bh < A) = false := by have e := F2.out (by omega); simp <;> omega
          clear h
          go_wp2
          go_meet
          exact ⟨rfl, rfl⟩
        · skip
          have d1 : decide (p ≤ q) = false := by simp <;> omega
          have d3 : decide (q ≤ p) = true := by simp <;> omega
          have d4 : decide (Bh < A) = false := by have e := F2.out (by omega); simp <;> omega
          clear h
          go_wp2
          go_meet
          exact ⟨rfl, rfl⟩
      case rest =>
        obtain ⟨rfl, hwc⟩ := hcut
        replace hwc := hwc.symm
        subst hwc
        go_upto_region 17 with fail
        go_cut [151] from 132 to 151 (fun s wx => s = .bool false ∧ wx = v9)
        case first =>
          have hc : q ≠ p + 1000 ∨ (q = p + 1000 ∧ A - Bh = 7) ∨ (q = p + 1000 ∧ A - Bh ≠ 7 ∧ A - Bh = 8) ∨ (q = p + 1000 ∧ A - Bh ≠ 7 ∧ A - Bh ≠ 8 ∧ Bh = -90) := by
            by_cases e : q = p + 1000
            · have := G1.out e; omega
            · exact .inl e
          rcases hc with h | ⟨h, h7⟩ | ⟨h, h7, h8⟩ | ⟨h, h7, h8, h9⟩
          · skip
            have d1 : ((q : Int) == (p : Int) + 1000) = false := by simp <;> omega
            clear h
            go_wp2
            go_meet
            exact ⟨rfl, rfl⟩
          · skip
            have d1 : ((q : Int) == (p : Int) + 1000) = true := by simp <;> omega
            have d2 : (A - Bh != 7) = false := by simp <;> omega
            clear h h7
            go_wp2
            go_meet
            exact ⟨rfl, rfl⟩
          · skip
            have d1 : ((q : Int) == (p : Int) + 1000) = true := by simp <;> omega
            have d2 : (A - Bh != 7) = true := by simp <;> omega
            have d3 : (A - Bh != 8) = false := by simp <;> omega
            clear h h7 h8
            go_wp2
            go_meet
            exact ⟨rfl, rfl⟩
          · skip
            have d1 : ((q : Int) == (p : Int) + 1000) = true := by simp <;> omega
            have d2 : (A - Bh != 7) = true := by simp <;> omega
            have d3 : (A - Bh != 8) = true := by simp <;> omega
            have d4 : (Bh != -90) = false := by simp <;> omega
            clear h h7 h8 h9
            go_wp2
            go_meet
            exact ⟨rfl, rfl⟩
        case rest =>
          obtain ⟨rfl, hwc⟩ := hcut
          replace hwc := hwc.symm
          subst hwc
          have m1 := HR.out.1
          have m2 := HR.out.2
          have z0 : (9000 : Int) ≤ z := by have := HQ.out; omega
          have z1 : (z : Int) ≤ 15000 := by have := HQ.out; omega
          have y0 : (0 : Int) ≤ y := by omega
          have y1 : (y : Int) < 24 := by have := HL.out; omega
          have y2 : (0 : Int) ≤ y' := by omega
          have y3 : (y' : Int) < 24 := by have := HL.out; omega
          have cB0 : v9.cell? ⟨B, 0, none⟩ = some (.int .i64 (x : Int)) := row_cell UB.out.now 0
          have cB1 : v9.cell? ⟨B, 1, none⟩ = some (.int .i64 (y : Int)) := row_cell UB.out.now 1
          have cE0 : v9.cell? ⟨E, 0, none⟩ = some (.int .i64 (x : Int)) := row_cell UE.out.now 0
          have cE1 : v9.cell? ⟨E, 1, none⟩ = some (.int .i64 (y' : Int)) := row_cell UE.out.now 1
          go_upto_region 21 with fail
          clear m1 m2 cB0 cB1 cE0 cE1
          have r0 : (0 : Int) ≤ r := by omega
          have r1 : (r : Int) ≤ 24000 := by have := HR.out; have := HQ.out; have := HL.out; omega
          have s0 : (0 : Int) ≤ s := by omega
          have s1 : (s : Int) ≤ 24000 := by have := HR.out; have := HQ.out; have := HL.out; omega
          go_cut [195] from 178 to 195 (fun s wx => s = .bool false ∧ wx = v9)
          case first =>
            rcases Nat.lt_trichotomy r s with h | h | h
            · skip
              have d1 : decide (r ≤ s) = true := by simp <;> omega
              have d2 : decide (A < Ch) = false := by have e := F3.out (by omega); simp <;> omega
              have d3 : decide (s ≤ r) = false := by simp <;> omega
              clear h
              go_wp2
              go_meet
              exact ⟨rfl, rfl⟩
            · skip
              have d1 : decide (r ≤ s) = true := by simp <;> omega
              have d2 : decide (A < Ch) = false := by have e := F3.out (by omega); simp <;> omega
              have d3 : decide (s ≤ r) = true := by simp <;> omega
              have d4 : decide (Ch < A) = false := by have e := F4.out (by omega); simp <;> omega
              clear h
              go_wp2
              go_meet
              exact ⟨rfl, rfl⟩
            · skip
              have d1 : decide (r ≤ s) = false := by simp <;> omega
              have d3 : decide (s ≤ r) = true := by simp <;> omega
              have d4 : decide (Ch < A) = false := by have e := F4.out (by omega); simp <;> omega
              clear h
              go_wp2
              go_meet
              exact ⟨rfl, rfl⟩
          case rest =>
            obtain ⟨rfl, hwc⟩ := hcut
            replace hwc := hwc.symm
            subst hwc
            go_upto_region 23 with fail
            have hc : s ≠ r + 1000 ∨ (s = r + 1000 ∧ A - Ch = 7) ∨ (s = r + 1000 ∧ A - Ch ≠ 7 ∧ A - Ch = 8) ∨ (s = r + 1000 ∧ A - Ch ≠ 7 ∧ A - Ch ≠ 8 ∧ Ch = -90) := by
              by_cases e : s = r + 1000
              · have := G2.out e; omega
              · exact .inl e
            rcases hc with h | ⟨h, h7⟩ | ⟨h, h7, h8⟩ | ⟨h, h7, h8, h9⟩
            · skip
              have d1 : ((s : Int) != (r : Int) + 1000) = true := by simp <;> omega
              clear h
              go_wp2
              go_ret
              exact ⟨rfl, HU.out.now.1⟩
            · skip
              have d1 : ((s : Int) != (r : Int) + 1000) = false := by simp <;> omega
              have d2 : (A - Ch == 7) = true := by simp <;> omega
              clear h h7
              go_wp2
              go_ret
              exact ⟨rfl, HU.out.now.1⟩
            · skip
              have d1 : ((s : Int) != (r : Int) + 1000) = false := by simp <;> omega
              have d2 : (A - Ch == 7) = false := by simp <;> omega
              have d3 : (A - Ch == 8) = true := by simp <;> omega
              clear h h7 h8
              go_wp2
              go_ret
              exact ⟨rfl, HU.out.now.1⟩
            · skip
              have d1 : ((s : Int) != (r : Int) + 1000) = false := by simp <;> omega
              have d2 : (A - Ch == 7) = false := by simp <;> omega
              have d3 : (A - Ch == 8) = false := by simp <;> omega
              have d4 : (Ch == -90) = true := by simp <;> omega
              clear h h7 h8 h9
              go_wp2
              go_ret
              exact ⟨rfl, HU.out.now.1⟩
end Go.Proofs.YtbgdlfkeimaaiaaDoor
