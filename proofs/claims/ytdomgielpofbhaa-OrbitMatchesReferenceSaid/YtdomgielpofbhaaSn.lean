/- sane, walked. -/
import Derived.Test.YtdomgielpofbhaaSx
namespace Go.Proofs.Ytdomgielpofbhaa
open Go.RowKit Go.Shelf Go.Maps
set_option linter.unusedSimpArgs false
set_option linter.unusedVariables false
set_option maxRecDepth 100000 in
set_option maxHeartbeats 4000000 in
theorem sane_any  (w : World) :
    Calls Try.prog 10 #[] w (OutV w (.bool true)) := by
  have HU := Lib.hid (up_vb w)
  obtain ⟨x1, O, ex1, eb1, hb, hk⟩ := box1 w #[.int .i64 100, .int .i64 0, .int .i64 2000, .int .i64 22000, .int .i64 5000, .int .i64 500, .int .i64 1] 24
  replace HU := Lib.hid (HU.out.next hb)
  have UO := Lib.hid (up_vr hk : Up x1 (VR O #[.int .i64 100, .int .i64 0, .int .i64 2000, .int .i64 22000, .int .i64 5000, .int .i64 500, .int .i64 1] 24))
  clear hb hk
  obtain ⟨x2, T, ex2, eb2, hb, hk⟩ := box1 x1 #[.int .i64 0, .int .i64 25, .int .i64 50, .int .i64 75, .int .i64 100] 3
  replace HU := Lib.hid (HU.out.next hb)
  replace UO := Lib.hid (UO.out.next hb)
  have UT := Lib.hid (up_vr hk : Up x2 (VR T #[.int .i64 0, .int .i64 25, .int .i64 50, .int .i64 75, .int .i64 100] 3))
  clear hb hk
  go_enter Try.func10, Try.ntmps10
  go_wp2
  clear ex1 eb1 ex2 eb2
  go_loopw [29] (fun i wr => ∃ k : Nat, k ≤ 5 ∧ i = iV k ∧ Up wr (VB w) ∧ Up wr (VR O #[.int .i64 100, .int .i64 0, .int .i64 2000, .int .i64 22000, .int .i64 5000, .int .i64 500, .int .i64 1] 24) ∧ Up wr (VR T #[.int .i64 0, .int .i64 25, .int .i64 50, .int .i64 75, .int .i64 100] 3)) (fun i _ => 5 - (intOf i).toNat)
  case atStart => exact ⟨0, by omega, rfl, HU.out, UO.out, UT.out⟩
  case round =>
    obtain ⟨k, hk, rfl, hU, hO, hT⟩ := hrel
    replace HU := Lib.hid hU; replace UO := Lib.hid hO; replace UT := Lib.hid hT
    clear hU hO hT
    rename World => wr
    rcases k with _ | _ | _ | _ | _ | _ | k
    · skip
      have kO0 : wr.cell? ⟨O, 0, none⟩ = some (.int .i64 100) := row_cell UO.out.now 0
      have kO1 : wr.cell? ⟨O, 1, none⟩ = some (.int .i64 0) := row_cell UO.out.now 1
      have kO2 : wr.cell? ⟨O, 2, none⟩ = some (.int .i64 2000) := row_cell UO.out.now 2
      have kO3 : wr.cell? ⟨O, 3, none⟩ = some (.int .i64 22000) := row_cell UO.out.now 3
      have kO4 : wr.cell? ⟨O, 4, none⟩ = some (.int .i64 5000) := row_cell UO.out.now 4
      have kO5 : wr.cell? ⟨O, 5, none⟩ = some (.int .i64 500) := row_cell UO.out.now 5
      have kO6 : wr.cell? ⟨O, 6, none⟩ = some (.int .i64 1) := row_cell UO.out.now 6
      have kT0 : wr.cell? ⟨T, 0, none⟩ = some (.int .i64 0) := row_cell UT.out.now 0
      go_wp2_with fail
      clear kO0 kO1 kO2 kO3 kO4 kO5 kO6 kT0
      (with_reducible refine (sa_r0 _).mono ?_)
      rintro e v3 ⟨rfl, hb⟩
      replace HU := Lib.hid (HU.out.next hb)
      replace UO := Lib.hid (UO.out.next hb)
      replace UT := Lib.hid (UT.out.next hb)
      clear hb
      go_wp2
      exact ⟨⟨1, by omega, rfl, HU.out.next ((Below.refl _ _).alloc (Nat.le_refl _) _), UO.out.next ((Below.refl _ _).alloc (Nat.le_refl _) _), UT.out.next ((Below.refl _ _).alloc (Nat.le_refl _) _)⟩, by simp [intOf]⟩
    · skip
      have kO0 : wr.cell? ⟨O, 0, none⟩ = some (.int .i64 100) := row_cell UO.out.now 0
      have kO1 : wr.cell? ⟨O, 1, none⟩ = some (.int .i64 0) := row_cell UO.out.now 1
      have kO2 : wr.cell? ⟨O, 2, none⟩ = some (.int .i64 2000) := row_cell UO.out.now 2
      have kO3 : wr.cell? ⟨O, 3, none⟩ = some (.int .i64 22000) := row_cell UO.out.now 3
      have kO4 : wr.cell? ⟨O, 4, none⟩ = some (.int .i64 5000) := row_cell UO.out.now 4
      have kO5 : wr.cell? ⟨O, 5, none⟩ = some (.int .i64 500) := row_cell UO.out.now 5
      have kO6 : wr.cell? ⟨O, 6, none⟩ = some (.int .i64 1) := row_cell UO.out.now 6
      have kT1 : wr.cell? ⟨T, 1, none⟩ = some (.int .i64 25) := row_cell UT.out.now 1
      go_wp2_with fail
      clear kO0 kO1 kO2 kO3 kO4 kO5 kO6 kT1
      (with_reducible refine (sa_r1 _).mono ?_)
      rintro e v4 ⟨rfl, hb⟩
      replace HU := Lib.hid (HU.out.next hb)
      replace UO := Lib.hid (UO.out.next hb)
      replace UT := Lib.hid (UT.out.next hb)
      clear hb
      go_wp2
      exact ⟨⟨2, by omega, rfl, HU.out.next ((Below.refl _ _).alloc (Nat.le_refl _) _), UO.out.next ((Below.refl _ _).alloc (Nat.le_refl _) _), UT.out.next ((Below.refl _ _).alloc (Nat.le_refl _) _)⟩, by simp [intOf]⟩
    · skip
      have kO0 : wr.cell? ⟨O, 0, none⟩ = some (.int .i64 100) := row_cell UO.out.now 0
      have kO1 : wr.cell? ⟨O, 1, none⟩ = some (.int .i64 0) := row_cell UO.out.now 1
      have kO2 : wr.cell? ⟨O, 2, none⟩ = some (.int .i64 2000) := row_cell UO.out.now 2
      have kO3 : wr.cell? ⟨O, 3, none⟩ = some (.int .i64 22000) := row_cell UO.out.now 3
      have kO4 : wr.cell? ⟨O, 4, none⟩ = some (.int .i64 5000) := row_cell UO.out.now 4
      have kO5 : wr.cell? ⟨O, 5, none⟩ = some (.int .i64 500) := row_cell UO.out.now 5
      have kO6 : wr.cell? ⟨O, 6, none⟩ = some (.int .i64 1) := row_cell UO.out.now 6
      have kT2 : wr.cell? ⟨T, 2, none⟩ = some (.int .i64 50) := row_cell UT.out.now 2
      go_wp2_with fail
      clear kO0 kO1 kO2 kO3 kO4 kO5 kO6 kT2
      (with_reducible refine (sa_r2 _).mono ?_)
      rintro e v5 ⟨rfl, hb⟩
      replace HU := Lib.hid (HU.out.next hb)
      replace UO := Lib.hid (UO.out.next hb)
      replace UT := Lib.hid (UT.out.next hb)
      clear hb
      go_wp2
      exact ⟨⟨3, by omega, rfl, HU.out.next ((Below.refl _ _).alloc (Nat.le_refl _) _), UO.out.next ((Below.refl _ _).alloc (Nat.le_refl _) _), UT.out.next ((Below.refl _ _).alloc (Nat.le_refl _) _)⟩, by simp [intOf]⟩
    · skip
      have kO0 : wr.cell? ⟨O, 0, none⟩ = some (.int .i64 100) := row_cell UO.out.now 0
      have kO1 : wr.cell? ⟨O, 1, none⟩ = some (.int .i64 0) := row_cell UO.out.now 1
      have kO2 : wr.cell? ⟨O, 2, none⟩ = some (.int .i64 2000) := row_cell UO.out.now 2
      have kO3 : wr.cell? ⟨O, 3, none⟩ = some (.int .i64 22000) := row_cell UO.out.now 3
      have kO4 : wr.cell? ⟨O, 4, none⟩ = some (.int .i64 5000) := row_cell UO.out.now 4
      have kO5 : wr.cell? ⟨O, 5, none⟩ = some (.int .i64 500) := row_cell UO.out.now 5
      have kO6 : wr.cell? ⟨O, 6, none⟩ = some (.int .i64 1) := row_cell UO.out.now 6
      have kT3 : wr.cell? ⟨T, 3, none⟩ = some (.int .i64 75) := row_cell UT.out.now 3
      go_wp2_with fail
      clear kO0 kO1 kO2 kO3 kO4 kO5 kO6 kT3
      (with_reducible refine (sa_r3 _).mono ?_)
      rintro e v6 ⟨rfl, hb⟩
      replace HU := Lib.hid (HU.out.next hb)
      replace UO := Lib.hid (UO.out.next hb)
      replace UT := Lib.hid (UT.out.next hb)
      clear hb
      go_wp2
      exact ⟨⟨4, by omega, rfl, HU.out.next ((Below.refl _ _).alloc (Nat.le_refl _) _), UO.out.next ((Below.refl _ _).alloc (Nat.le_refl _) _), UT.out.next ((Below.refl _ _).alloc (Nat.le_refl _) _)⟩, by simp [intOf]⟩
    · skip
      have kO0 : wr.cell? ⟨O, 0, none⟩ = some (.int .i64 100) := row_cell UO.out.now 0
      have kO1 : wr.cell? ⟨O, 1, none⟩ = some (.int .i64 0) := row_cell UO.out.now 1
      have kO2 : wr.cell? ⟨O, 2, none⟩ = some (.int .i64 2000) := row_cell UO.out.now 2
      have kO3 : wr.cell? ⟨O, 3, none⟩ = some (.int .i64 22000) := row_cell UO.out.now 3
      have kO4 : wr.cell? ⟨O, 4, none⟩ = some (.int .i64 5000) := row_cell UO.out.now 4
      have kO5 : wr.cell? ⟨O, 5, none⟩ = some (.int .i64 500) := row_cell UO.out.now 5
      have kO6 : wr.cell? ⟨O, 6, none⟩ = some (.int .i64 1) := row_cell UO.out.now 6
      have kT4 : wr.cell? ⟨T, 4, none⟩ = some (.int .i64 100) := row_cell UT.out.now 4
      go_wp2_with fail
      clear kO0 kO1 kO2 kO3 kO4 kO5 kO6 kT4
      (with_reducible refine (sa_r4 _).mono ?_)
      rintro e v7 ⟨rfl, hb⟩
      replace HU := Lib.hid (HU.out.next hb)
      replace UO := Lib.hid (UO.out.next hb)
      replace UT := Lib.hid (UT.out.next hb)
      clear hb
      go_wp2
      exact ⟨⟨5, by omega, rfl, HU.out.next ((Below.refl _ _).alloc (Nat.le_refl _) _), UO.out.next ((Below.refl _ _).alloc (Nat.le_refl _) _), UT.out.next ((Below.refl _ _).alloc (Nat.le_refl _) _)⟩, by simp [intOf]⟩
    · skip
      clear UT
      have kO0 : wr.cell? ⟨O, 0, none⟩ = some (.int .i64 100) := row_cell UO.out.now 0
      have kO1 : wr.cell? ⟨O, 1, none⟩ = some (.int .i64 0) := row_cell UO.out.now 1
      have kO2 : wr.cell? ⟨O, 2, none⟩ = some (.int .i64 2000) := row_cell UO.out.now 2
      have kO3 : wr.cell? ⟨O, 3, none⟩ = some (.int .i64 22000) := row_cell UO.out.now 3
      have kO4 : wr.cell? ⟨O, 4, none⟩ = some (.int .i64 5000) := row_cell UO.out.now 4
      have kO5 : wr.cell? ⟨O, 5, none⟩ = some (.int .i64 500) := row_cell UO.out.now 5
      have kO6 : wr.cell? ⟨O, 6, none⟩ = some (.int .i64 1) := row_cell UO.out.now 6
      go_wp2_with fail
      clear kO0 kO1 kO2 kO3 kO4 kO5 kO6
      (with_reducible refine (sa_c0 _).mono ?_)
      rintro e v8 ⟨rfl, hb⟩
      replace HU := Lib.hid (HU.out.next hb)
      replace UO := Lib.hid (UO.out.next hb)
      clear hb
      have kO0 : v8.cell? ⟨O, 0, none⟩ = some (.int .i64 100) := row_cell UO.out.now 0
      have kO1 : v8.cell? ⟨O, 1, none⟩ = some (.int .i64 0) := row_cell UO.out.now 1
      have kO2 : v8.cell? ⟨O, 2, none⟩ = some (.int .i64 2000) := row_cell UO.out.now 2
      have kO3 : v8.cell? ⟨O, 3, none⟩ = some (.int .i64 22000) := row_cell UO.out.now 3
      have kO4 : v8.cell? ⟨O, 4, none⟩ = some (.int .i64 5000) := row_cell UO.out.now 4
      have kO5 : v8.cell? ⟨O, 5, none⟩ = some (.int .i64 500) := row_cell UO.out.now 5
      have kO6 : v8.cell? ⟨O, 6, none⟩ = some (.int .i64 1) := row_cell UO.out.now 6
      go_wp2_with fail
      clear kO0 kO1 kO2 kO3 kO4 kO5 kO6
      (with_reducible refine (sa_c1 _).mono ?_)
      rintro e v9 ⟨rfl, hb⟩
      replace HU := Lib.hid (HU.out.next hb)
      replace UO := Lib.hid (UO.out.next hb)
      clear hb
      have kO0 : v9.cell? ⟨O, 0, none⟩ = some (.int .i64 100) := row_cell UO.out.now 0
      have kO1 : v9.cell? ⟨O, 1, none⟩ = some (.int .i64 0) := row_cell UO.out.now 1
      have kO2 : v9.cell? ⟨O, 2, none⟩ = some (.int .i64 2000) := row_cell UO.out.now 2
      have kO3 : v9.cell? ⟨O, 3, none⟩ = some (.int .i64 22000) := row_cell UO.out.now 3
      have kO4 : v9.cell? ⟨O, 4, none⟩ = some (.int .i64 5000) := row_cell UO.out.now 4
      have kO5 : v9.cell? ⟨O, 5, none⟩ = some (.int .i64 500) := row_cell UO.out.now 5
      have kO6 : v9.cell? ⟨O, 6, none⟩ = some (.int .i64 1) := row_cell UO.out.now 6
      go_wp2_with fail
      clear kO0 kO1 kO2 kO3 kO4 kO5 kO6
      (with_reducible refine (sa_a0 _).mono ?_)
      rintro e v10 ⟨rfl, hb⟩
      replace HU := Lib.hid (HU.out.next hb)
      replace UO := Lib.hid (UO.out.next hb)
      clear hb
      obtain ⟨x11, C, ex11, eb11, hb, hk⟩ := box1 v10 #[.int .i64 10, .int .i64 6] 38
      replace HU := Lib.hid (HU.out.next hb)
      replace UO := Lib.hid (UO.out.next hb)
      have UC := Lib.hid (up_vr hk : Up x11 (VR C #[.int .i64 10, .int .i64 6] 38))
      clear hb hk
      have kO0 : x11.cell? ⟨O, 0, none⟩ = some (.int .i64 100) := row_cell UO.out.now 0
      have kO1 : x11.cell? ⟨O, 1, none⟩ = some (.int .i64 0) := row_cell UO.out.now 1
      have kO2 : x11.cell? ⟨O, 2, none⟩ = some (.int .i64 2000) := row_cell UO.out.now 2
      have kO3 : x11.cell? ⟨O, 3, none⟩ = some (.int .i64 22000) := row_cell UO.out.now 3
      have kO4 : x11.cell? ⟨O, 4, none⟩ = some (.int .i64 5000) := row_cell UO.out.now 4
      have kO5 : x11.cell? ⟨O, 5, none⟩ = some (.int .i64 500) := row_cell UO.out.now 5
      have kO6 : x11.cell? ⟨O, 6, none⟩ = some (.int .i64 1) := row_cell UO.out.now 6
      go_wp2_with fail
      clear ex11 eb11 kO0 kO1 kO2 kO3 kO4 kO5 kO6
      (with_reducible refine (sa_a1 _).mono ?_)
      rintro e v12 ⟨rfl, hb⟩
      replace HU := Lib.hid (HU.out.next hb)
      replace UO := Lib.hid (UO.out.next hb)
      replace UC := Lib.hid (UC.out.next hb)
      clear hb
      obtain ⟨x13, D, ex13, eb13, hb, hk⟩ := box1 v12 #[.int .i64 9, .int .i64 5] 38
      replace HU := Lib.hid (HU.out.next hb)
      replace UO := Lib.hid (UO.out.next hb)
      replace UC := Lib.hid (UC.out.next hb)
      have UD := Lib.hid (up_vr hk : Up x13 (VR D #[.int .i64 9, .int .i64 5] 38))
      clear hb hk
      have kO0 : x13.cell? ⟨O, 0, none⟩ = some (.int .i64 100) := row_cell UO.out.now 0
      have kO1 : x13.cell? ⟨O, 1, none⟩ = some (.int .i64 0) := row_cell UO.out.now 1
      have kO2 : x13.cell? ⟨O, 2, none⟩ = some (.int .i64 2000) := row_cell UO.out.now 2
      have kO3 : x13.cell? ⟨O, 3, none⟩ = some (.int .i64 22000) := row_cell UO.out.now 3
      have kO4 : x13.cell? ⟨O, 4, none⟩ = some (.int .i64 5000) := row_cell UO.out.now 4
      have kO5 : x13.cell? ⟨O, 5, none⟩ = some (.int .i64 500) := row_cell UO.out.now 5
      have kO6 : x13.cell? ⟨O, 6, none⟩ = some (.int .i64 1) := row_cell UO.out.now 6
      go_wp2_with fail
      clear ex13 eb13 kO0 kO1 kO2 kO3 kO4 kO5 kO6
      (with_reducible refine (sa_l _).mono ?_)
      rintro e v14 ⟨al, ac, rfl, hcl, hb⟩
      replace HU := Lib.hid (HU.out.next hb)
      replace UO := Lib.hid (UO.out.next hb)
      replace UC := Lib.hid (UC.out.next hb)
      replace UD := Lib.hid (UD.out.next hb)
      have UL : Hid (Up v14 (fun W => Cs W al 2 [c95, c106])) := Lib.hid (fun W h => Cs.below hcl (Nat.le_refl _) h)
      clear hcl
      clear hb
      have kO0 : v14.cell? ⟨O, 0, none⟩ = some (.int .i64 100) := row_cell UO.out.now 0
      have kO1 : v14.cell? ⟨O, 1, none⟩ = some (.int .i64 0) := row_cell UO.out.now 1
      have kO2 : v14.cell? ⟨O, 2, none⟩ = some (.int .i64 2000) := row_cell UO.out.now 2
      have kO3 : v14.cell? ⟨O, 3, none⟩ = some (.int .i64 22000) := row_cell UO.out.now 3
      have kO4 : v14.cell? ⟨O, 4, none⟩ = some (.int .i64 5000) := row_cell UO.out.now 4
      have kO5 : v14.cell? ⟨O, 5, none⟩ = some (.int .i64 500) := row_cell UO.out.now 5
      have kO6 : v14.cell? ⟨O, 6, none⟩ = some (.int .i64 1) := row_cell UO.out.now 6
      go_wp2_with fail
      clear kO0 kO1 kO2 kO3 kO4 kO5 kO6
      (with_reducible refine (sa_m _).mono ?_)
      rintro e v15 ⟨rfl, hb⟩
      replace HU := Lib.hid (HU.out.next hb)
      replace UO := Lib.hid (UO.out.next hb)
      replace UC := Lib.hid (UC.out.next hb)
      replace UD := Lib.hid (UD.out.next hb)
      replace UL := Lib.hid (UL.out.next hb)
      clear hb
      obtain ⟨x16, M, ex16, eb16, hb, hk⟩ := box1 v15 #[.int .i64 0, .int .i64 0] 38
      obtain ⟨y16, ey16⟩ : ∃ y, (x16.setCell ⟨M, 0, none⟩ (.int .i64 0)).setCell ⟨M, 1, none⟩ (.int .i64 0) = y := ⟨_, rfl⟩
      have hbY : Below v15.heap.size v15 y16 := by rw [← ey16]; exact (hb.setCell (p := ⟨M, 0, none⟩) (by show v15.heap.size ≤ M; omega) _).setCell (p := ⟨M, 1, none⟩) (by show v15.heap.size ≤ M; omega) _
      have hkY : BX y16 M #[.int .i64 0, .int .i64 0] 38 := by rw [← ey16]; exact BX.put (BX.put hk _) _
      have fa160 : x16.cell? ⟨M, 0, none⟩ = some (.int .i64 0) := row_cell hk 0
      have fb160 : x16.frozen? ⟨M, 0, none⟩ = false := frozen_of_row x16 M 0 _ _ hk
      have fa161 : x16.cell? ⟨M, 1, none⟩ = some (.int .i64 0) := row_cell hk 1
      have fb161 : x16.frozen? ⟨M, 1, none⟩ = false := frozen_of_row x16 M 1 _ _ hk
      replace HU := Lib.hid (HU.out.next hbY)
      replace UO := Lib.hid (UO.out.next hbY)
      replace UC := Lib.hid (UC.out.next hbY)
      replace UD := Lib.hid (UD.out.next hbY)
      replace UL := Lib.hid (UL.out.next hbY)
      have UM := Lib.hid (up_vr hkY : Up y16 (VR M #[.int .i64 0, .int .i64 0] 38))
      clear hb hk hbY hkY
      have kO0 : y16.cell? ⟨O, 0, none⟩ = some (.int .i64 100) := row_cell UO.out.now 0
      have kO1 : y16.cell? ⟨O, 1, none⟩ = some (.int .i64 0) := row_cell UO.out.now 1
      have kO2 : y16.cell? ⟨O, 2, none⟩ = some (.int .i64 2000) := row_cell UO.out.now 2
      have kO3 : y16.cell? ⟨O, 3, none⟩ = some (.int .i64 22000) := row_cell UO.out.now 3
      have kO4 : y16.cell? ⟨O, 4, none⟩ = some (.int .i64 5000) := row_cell UO.out.now 4
      have kO5 : y16.cell? ⟨O, 5, none⟩ = some (.int .i64 500) := row_cell UO.out.now 5
      have kO6 : y16.cell? ⟨O, 6, none⟩ = some (.int .i64 1) := row_cell UO.out.now 6
      obtain ⟨x17, K, ex17, eb17, hb, hk⟩ := box1 y16 #[.int .i64 100, .int .i64 0, .int .i64 2000, .int .i64 22000, .int .i64 5000, .int .i64 500, .int .i64 1] 24
      obtain ⟨y17, ey17⟩ : ∃ y, x17.setCell ⟨K, 6, none⟩ (.int .i64 0) = y := ⟨_, rfl⟩
      have hbY : Below y16.heap.size y16 y17 := by rw [← ey17]; exact hb.setCell (p := ⟨K, 6, none⟩) (by show y16.heap.size ≤ K; omega) _
      have hkY : BX y17 K #[.int .i64 100, .int .i64 0, .int .i64 2000, .int .i64 22000, .int .i64 5000, .int .i64 500, .int .i64 0] 24 := by rw [← ey17]; exact BX.put hk _
      have fa17 : x17.cell? ⟨K, 6, none⟩ = some (.int .i64 1) := row_cell hk 6
      have fb17 : x17.frozen? ⟨K, 6, none⟩ = false := frozen_of_row x17 K 6 _ _ hk
      replace HU := Lib.hid (HU.out.next hbY)
      replace UO := Lib.hid (UO.out.next hbY)
      replace UC := Lib.hid (UC.out.next hbY)
      replace UD := Lib.hid (UD.out.next hbY)
      replace UL := Lib.hid (UL.out.next hbY)
      replace UM := Lib.hid (UM.out.next hbY)
      have UK := Lib.hid (up_vr hkY : Up y17 (VR K #[.int .i64 100, .int .i64 0, .int .i64 2000, .int .i64 22000, .int .i64 5000, .int .i64 500, .int .i64 0] 24))
      clear hb hk hbY hkY
      have kK0 : y17.cell? ⟨K, 0, none⟩ = some (.int .i64 100) := row_cell UK.out.now 0
      have kK1 : y17.cell? ⟨K, 1, none⟩ = some (.int .i64 0) := row_cell UK.out.now 1
      have kK2 : y17.cell? ⟨K, 2, none⟩ = some (.int .i64 2000) := row_cell UK.out.now 2
      have kK3 : y17.cell? ⟨K, 3, none⟩ = some (.int .i64 22000) := row_cell UK.out.now 3
      have kK4 : y17.cell? ⟨K, 4, none⟩ = some (.int .i64 5000) := row_cell UK.out.now 4
      have kK5 : y17.cell? ⟨K, 5, none⟩ = some (.int .i64 500) := row_cell UK.out.now 5
      have kK6 : y17.cell? ⟨K, 6, none⟩ = some (.int .i64 0) := row_cell UK.out.now 6
      go_wp2_with fail
      clear ex16 eb16 ey16 fa160 fa161 fb160 fb161 kO0 kO1 kO2 kO3 kO4 kO5 kO6 ex17 eb17 ey17 fa17 fb17 kK0 kK1 kK2 kK3 kK4 kK5 kK6
      (with_reducible refine (sa_mc _).mono ?_)
      rintro e v18 ⟨rfl, hb⟩
      replace HU := Lib.hid (HU.out.next hb)
      replace UO := Lib.hid (UO.out.next hb)
      replace UC := Lib.hid (UC.out.next hb)
      replace UD := Lib.hid (UD.out.next hb)
      replace UL := Lib.hid (UL.out.next hb)
      replace UM := Lib.hid (UM.out.next hb)
      replace UK := Lib.hid (UK.out.next hb)
      clear hb
      obtain ⟨x19, N, ex19, eb19, hb, hk⟩ := box1 v18 #[.int .i64 10, .int .i64 6] 38
      replace HU := Lib.hid (HU.out.next hb)
      replace UO := Lib.hid (UO.out.next hb)
      replace UC := Lib.hid (UC.out.next hb)
      replace UD := Lib.hid (UD.out.next hb)
      replace UL := Lib.hid (UL.out.next hb)
      replace UM := Lib.hid (UM.out.next hb)
      replace UK := Lib.hid (UK.out.next hb)
      have UN := Lib.hid (up_vr hk : Up x19 (VR N #[.int .i64 10, .int .i64 6] 38))
      clear hb hk
      have kO0 : x19.cell? ⟨O, 0, none⟩ = some (.int .i64 100) := row_cell UO.out.now 0
      have kO1 : x19.cell? ⟨O, 1, none⟩ = some (.int .i64 0) := row_cell UO.out.now 1
      have kO2 : x19.cell? ⟨O, 2, none⟩ = some (.int .i64 2000) := row_cell UO.out.now 2
      have kO3 : x19.cell? ⟨O, 3, none⟩ = some (.int .i64 22000) := row_cell UO.out.now 3
      have kO4 : x19.cell? ⟨O, 4, none⟩ = some (.int .i64 5000) := row_cell UO.out.now 4
      have kO5 : x19.cell? ⟨O, 5, none⟩ = some (.int .i64 500) := row_cell UO.out.now 5
      have kO6 : x19.cell? ⟨O, 6, none⟩ = some (.int .i64 1) := row_cell UO.out.now 6
      go_wp2_with fail
      clear ex19 eb19 kO0 kO1 kO2 kO3 kO4 kO5 kO6
      (with_reducible refine (sa_t _).mono ?_)
      rintro e v20 ⟨bl, bc, rfl, hcl, hb⟩
      replace HU := Lib.hid (HU.out.next hb)
      replace UO := Lib.hid (UO.out.next hb)
      replace UC := Lib.hid (UC.out.next hb)
      replace UD := Lib.hid (UD.out.next hb)
      replace UL := Lib.hid (UL.out.next hb)
      replace UM := Lib.hid (UM.out.next hb)
      replace UK := Lib.hid (UK.out.next hb)
      replace UN := Lib.hid (UN.out.next hb)
      have UT : Hid (Up v20 (fun W => Cs W bl 2 [c95, c106])) := Lib.hid (fun W h => Cs.below hcl (Nat.le_refl _) h)
      clear hcl
      clear hb
      have kO0 : v20.cell? ⟨O, 0, none⟩ = some (.int .i64 100) := row_cell UO.out.now 0
      have kO1 : v20.cell? ⟨O, 1, none⟩ = some (.int .i64 0) := row_cell UO.out.now 1
      have kO2 : v20.cell? ⟨O, 2, none⟩ = some (.int .i64 2000) := row_cell UO.out.now 2
      have kO3 : v20.cell? ⟨O, 3, none⟩ = some (.int .i64 22000) := row_cell UO.out.now 3
      have kO4 : v20.cell? ⟨O, 4, none⟩ = some (.int .i64 5000) := row_cell UO.out.now 4
      have kO5 : v20.cell? ⟨O, 5, none⟩ = some (.int .i64 500) := row_cell UO.out.now 5
      have kO6 : v20.cell? ⟨O, 6, none⟩ = some (.int .i64 1) := row_cell UO.out.now 6
      go_wp2_with fail
      clear kO0 kO1 kO2 kO3 kO4 kO5 kO6
      (with_reducible refine (sa_a2 _).mono ?_)
      rintro e v21 ⟨rfl, hb⟩
      replace HU := Lib.hid (HU.out.next hb)
      replace UO := Lib.hid (UO.out.next hb)
      replace UC := Lib.hid (UC.out.next hb)
      replace UD := Lib.hid (UD.out.next hb)
      replace UL := Lib.hid (UL.out.next hb)
      replace UM := Lib.hid (UM.out.next hb)
      replace UK := Lib.hid (UK.out.next hb)
      replace UN := Lib.hid (UN.out.next hb)
      replace UT := Lib.hid (UT.out.next hb)
      clear hb
      obtain ⟨x22, E, ex22, eb22, hb, hk⟩ := box1 v21 #[.int .i64 0, .int .i64 0] 38
      obtain ⟨y22, ey22⟩ : ∃ y, (x22.setCell ⟨E, 0, none⟩ (.int .i64 0)).setCell ⟨E, 1, none⟩ (.int .i64 0) = y := ⟨_, rfl⟩
      have hbY : Below v21.heap.size v21 y22 := by rw [← ey22]; exact (hb.setCell (p := ⟨E, 0, none⟩) (by show v21.heap.size ≤ E; omega) _).setCell (p := ⟨E, 1, none⟩) (by show v21.heap.size ≤ E; omega) _
      have hkY : BX y22 E #[.int .i64 0, .int .i64 0] 38 := by rw [← ey22]; exact BX.put (BX.put hk _) _
      have fa220 : x22.cell? ⟨E, 0, none⟩ = some (.int .i64 0) := row_cell hk 0
      have fb220 : x22.frozen? ⟨E, 0, none⟩ = false := frozen_of_row x22 E 0 _ _ hk
      have fa221 : x22.cell? ⟨E, 1, none⟩ = some (.int .i64 0) := row_cell hk 1
      have fb221 : x22.frozen? ⟨E, 1, none⟩ = false := frozen_of_row x22 E 1 _ _ hk
      replace HU := Lib.hid (HU.out.next hbY)
      replace UO := Lib.hid (UO.out.next hbY)
      replace UC := Lib.hid (UC.out.next hbY)
      replace UD := Lib.hid (UD.out.next hbY)
      replace UL := Lib.hid (UL.out.next hbY)
      replace UM := Lib.hid (UM.out.next hbY)
      replace UK := Lib.hid (UK.out.next hbY)
      replace UN := Lib.hid (UN.out.next hbY)
      replace UT := Lib.hid (UT.out.next hbY)
      have UE := Lib.hid (up_vr hkY : Up y22 (VR E #[.int .i64 0, .int .i64 0] 38))
      clear hb hk hbY hkY
      have kC0 : y22.cell? ⟨C, 0, none⟩ = some (.int .i64 10) := row_cell UC.out.now 0
      have kC1 : y22.cell? ⟨C, 1, none⟩ = some (.int .i64 6) := row_cell UC.out.now 1
      have kD0 : y22.cell? ⟨D, 0, none⟩ = some (.int .i64 9) := row_cell UD.out.now 0
      have kD1 : y22.cell? ⟨D, 1, none⟩ = some (.int .i64 5) := row_cell UD.out.now 1
      obtain ⟨x23, A, ex23, eb23, hb, hk⟩ := box1 y22 #[.int .i64 9, .int .i64 5, .int .i64 10, .int .i64 6] 38
      replace HU := Lib.hid (HU.out.next hb)
      replace UO := Lib.hid (UO.out.next hb)
      replace UC := Lib.hid (UC.out.next hb)
      replace UD := Lib.hid (UD.out.next hb)
      replace UL := Lib.hid (UL.out.next hb)
      replace UM := Lib.hid (UM.out.next hb)
      replace UK := Lib.hid (UK.out.next hb)
      replace UN := Lib.hid (UN.out.next hb)
      replace UT := Lib.hid (UT.out.next hb)
      replace UE := Lib.hid (UE.out.next hb)
      have UA := Lib.hid (up_vr hk : Up x23 (VR A #[.int .i64 9, .int .i64 5, .int .i64 10, .int .i64 6] 38))
      clear hb hk
      go_wp2_with fail
      clear ex22 eb22 ey22 fa220 fa221 fb220 fb221 kC0 kC1 kD0 kD1 ex23 eb23
      (with_reducible refine (sa_same _ _ _ _ UL.out.now UA.out.now).mono ?_)
      rintro e v24 ⟨rfl, hb⟩
      replace HU := Lib.hid (HU.out.next hb)
      replace UO := Lib.hid (UO.out.next hb)
      replace UC := Lib.hid (UC.out.next hb)
      replace UD := Lib.hid (UD.out.next hb)
      replace UL := Lib.hid (UL.out.next hb)
      replace UM := Lib.hid (UM.out.next hb)
      replace UK := Lib.hid (UK.out.next hb)
      replace UN := Lib.hid (UN.out.next hb)
      replace UT := Lib.hid (UT.out.next hb)
      replace UE := Lib.hid (UE.out.next hb)
      replace UA := Lib.hid (UA.out.next hb)
      clear hb
      obtain ⟨x25, B, ex25, eb25, hb, hk⟩ := box1 v24 #[.int .i64 9, .int .i64 5, .int .i64 10, .int .i64 6] 38
      replace HU := Lib.hid (HU.out.next hb)
      replace UO := Lib.hid (UO.out.next hb)
      replace UC := Lib.hid (UC.out.next hb)
      replace UD := Lib.hid (UD.out.next hb)
      replace UL := Lib.hid (UL.out.next hb)
      replace UM := Lib.hid (UM.out.next hb)
      replace UK := Lib.hid (UK.out.next hb)
      replace UN := Lib.hid (UN.out.next hb)
      replace UT := Lib.hid (UT.out.next hb)
      replace UE := Lib.hid (UE.out.next hb)
      replace UA := Lib.hid (UA.out.next hb)
      have UB := Lib.hid (up_vr hk : Up x25 (VR B #[.int .i64 9, .int .i64 5, .int .i64 10, .int .i64 6] 38))
      clear hb hk
      go_wp2_with fail
      clear ex25 eb25
      (with_reducible refine (sa_same _ _ _ _ UT.out.now UB.out.now).mono ?_)
      rintro e v26 ⟨rfl, hb⟩
      replace HU := Lib.hid (HU.out.next hb)
      replace UO := Lib.hid (UO.out.next hb)
      replace UC := Lib.hid (UC.out.next hb)
      replace UD := Lib.hid (UD.out.next hb)
      replace UL := Lib.hid (UL.out.next hb)
      replace UM := Lib.hid (UM.out.next hb)
      replace UK := Lib.hid (UK.out.next hb)
      replace UN := Lib.hid (UN.out.next hb)
      replace UT := Lib.hid (UT.out.next hb)
      replace UE := Lib.hid (UE.out.next hb)
      replace UA := Lib.hid (UA.out.next hb)
      replace UB := Lib.hid (UB.out.next hb)
      clear hb
      have kN0 : v26.cell? ⟨N, 0, none⟩ = some (.int .i64 10) := row_cell UN.out.now 0
      have kN1 : v26.cell? ⟨N, 1, none⟩ = some (.int .i64 6) := row_cell UN.out.now 1
      have kC0 : v26.cell? ⟨C, 0, none⟩ = some (.int .i64 10) := row_cell UC.out.now 0
      have kC1 : v26.cell? ⟨C, 1, none⟩ = some (.int .i64 6) := row_cell UC.out.now 1
      have kO0 : v26.cell? ⟨O, 0, none⟩ = some (.int .i64 100) := row_cell UO.out.now 0
      have kO1 : v26.cell? ⟨O, 1, none⟩ = some (.int .i64 0) := row_cell UO.out.now 1
      have kO2 : v26.cell? ⟨O, 2, none⟩ = some (.int .i64 2000) := row_cell UO.out.now 2
      have kO3 : v26.cell? ⟨O, 3, none⟩ = some (.int .i64 22000) := row_cell UO.out.now 3
      have kO4 : v26.cell? ⟨O, 4, none⟩ = some (.int .i64 5000) := row_cell UO.out.now 4
      have kO5 : v26.cell? ⟨O, 5, none⟩ = some (.int .i64 500) := row_cell UO.out.now 5
      have kO6 : v26.cell? ⟨O, 6, none⟩ = some (.int .i64 1) := row_cell UO.out.now 6
      go_wp2_with fail
      clear kN0 kN1 kC0 kC1 kO0 kO1 kO2 kO3 kO4 kO5 kO6
      (with_reducible refine (sa_v _).mono ?_)
      rintro e v27 ⟨rfl, hb⟩
      replace HU := Lib.hid (HU.out.next hb)
      replace UO := Lib.hid (UO.out.next hb)
      replace UC := Lib.hid (UC.out.next hb)
      replace UD := Lib.hid (UD.out.next hb)
      replace UL := Lib.hid (UL.out.next hb)
      replace UM := Lib.hid (UM.out.next hb)
      replace UK := Lib.hid (UK.out.next hb)
      replace UN := Lib.hid (UN.out.next hb)
      replace UT := Lib.hid (UT.out.next hb)
      replace UE := Lib.hid (UE.out.next hb)
      replace UA := Lib.hid (UA.out.next hb)
      replace UB := Lib.hid (UB.out.next hb)
      clear hb
      go_wp2_with fail
      (with_reducible refine (sa_z _).mono ?_)
      rintro e v28 ⟨rfl, hb⟩
      replace HU := Lib.hid (HU.out.next hb)
      replace UO := Lib.hid (UO.out.next hb)
      replace UC := Lib.hid (UC.out.next hb)
      replace UD := Lib.hid (UD.out.next hb)
      replace UL := Lib.hid (UL.out.next hb)
      replace UM := Lib.hid (UM.out.next hb)
      replace UK := Lib.hid (UK.out.next hb)
      replace UN := Lib.hid (UN.out.next hb)
      replace UT := Lib.hid (UT.out.next hb)
      replace UE := Lib.hid (UE.out.next hb)
      replace UA := Lib.hid (UA.out.next hb)
      replace UB := Lib.hid (UB.out.next hb)
      clear hb
      go_wp2
      go_ret
      exact ⟨rfl, HU.out.now⟩
    · omega
end Go.Proofs.Ytdomgielpofbhaa
