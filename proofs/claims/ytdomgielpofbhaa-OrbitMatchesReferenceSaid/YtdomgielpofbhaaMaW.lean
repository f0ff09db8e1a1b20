/- OrbitMatchesReference, walked. -/
import Derived.Deep.Cut
import Derived.Deep.CutBlock
import Derived.Deep.DeepCutAuto
import Derived.Test.YtdomgielpofbhaaRp
import Derived.Test.YtdomgielpofbhaaRn
namespace Go.Proofs.Ytdomgielpofbhaa
open Go.RowKit Go.Shelf Go.Maps
set_option linter.unusedSimpArgs false
set_option linter.unusedVariables false
theorem lpM (z : Int) (h0 : -9223372036854775808 ≤ z) (h1 : z ≤ 9223372036854775807) (n : Nat) (hn : 0 < n) (hn2 : n ≤ 2000000000) (N : Int) (hN : N = (n : Int)) :
    ∃ i : Nat, i < n ∧ ∀ w : World, Calls Try.prog 14 #[.int .i64 z, .int .i64 N] w (OutV w (iV i)) := lpV z h0 h1 n hn hn2 N hN
theorem up_self (w : World) : Up w (fun W => Below w.heap.size w W) := fun _ h => h
theorem pick2 {P : Nat → Prop} {i : Nat} (h : i < 2) (h0 : P 0) (h1 : P 1) : P i := by
  rcases (show i = 0 ∨ i = 1 by omega) with rfl | rfl
  · exact h0
  · exact h1
set_option maxRecDepth 100000 in
set_option maxHeartbeats 16000000 in
theorem match_any (z0 z1 z2 z3 z4 z5 z6 : Int) (r : I64 z0 ∧ I64 z1 ∧ I64 z2 ∧ I64 z3 ∧ I64 z4 ∧ I64 z5 ∧ I64 z6) (y0 y1 y2 y3 y4 y5 y6 : Int) (ry : I64 y0 ∧ I64 y1 ∧ I64 y2 ∧ I64 y3 ∧ I64 y4 ∧ I64 y5 ∧ I64 y6) (a b : Int) (rs : I64 a ∧ I64 b) (t late long : Int) (t0 : -9223372036854775808 ≤ t) (t1 : t ≤ 9223372036854775807) (l0 : -9223372036854775808 ≤ late) (l1 : late ≤ 9223372036854775807) (n0 : -9223372036854775808 ≤ long) (n1 : long ≤ 9223372036854775807) (w : World) :
    Calls Try.prog 3 #[X7 z0 z1 z2 z3 z4 z5 z6, .agg #[.int .i64 y0, .int .i64 y1, .int .i64 y2, .int .i64 y3, .int .i64 y4, .int .i64 y5, .int .i64 y6], .int .i64 t, .int .i64 late, .int .i64 long, .agg #[.int .i64 a, .int .i64 b]] w (OutV w (.bool true)) := by
  have HU := Lib.hid (up_vb w)
  obtain ⟨om, hom, _, CM⟩ := madeV z0 z1 z2 z3 z4 z5 z6 r
  obtain ⟨p, hp, CP⟩ := lpM t t0 t1 5000 (by decide) (by decide) 5000 rfl
  obtain ⟨d, hd, CD⟩ := lpM late l0 l1 21 (by decide) (by decide) 21 rfl
  obtain ⟨k, hk, CK⟩ := lpM long n0 n1 60 (by decide) (by decide) 60 rfl
  have HM := Lib.hid CM; have HP := Lib.hid CP; have HD := Lib.hid CD; have HK := Lib.hid CK
  have p0 : (0 : Int) ≤ p := by omega
  have p1 : (p : Int) < 5000 := by omega
  have d0 : (0 : Int) ≤ d := by omega
  have d1 : (d : Int) < 21 := by omega
  have k0 : (0 : Int) ≤ k := by omega
  have k1 : (k : Int) < 60 := by omega
  clear CM CP CD CK hom hp hd hk r ry rs t0 t1 l0 l1 n0 n1
  obtain ⟨x1, X, ex1, eb1, hb, hk⟩ := box1 w #[.int .i64 z0, .int .i64 z1, .int .i64 z2, .int .i64 z3, .int .i64 z4, .int .i64 z5, .int .i64 z6] 22
  replace HU := Lib.hid (HU.out.next hb)
  have UX := Lib.hid (up_vr hk : Up x1 (VR X #[.int .i64 z0, .int .i64 z1, .int .i64 z2, .int .i64 z3, .int .i64 z4, .int .i64 z5, .int .i64 z6] 22))
  clear hb hk
  obtain ⟨x2, Y, ex2, eb2, hb, hk⟩ := box1 x1 #[.int .i64 y0, .int .i64 y1, .int .i64 y2, .int .i64 y3, .int .i64 y4, .int .i64 y5, .int .i64 y6] 24
  replace HU := Lib.hid (HU.out.next hb)
  replace UX := Lib.hid (UX.out.next hb)
  have UY := Lib.hid (up_vr hk : Up x2 (VR Y #[.int .i64 y0, .int .i64 y1, .int .i64 y2, .int .i64 y3, .int .i64 y4, .int .i64 y5, .int .i64 y6] 24))
  clear hb hk
  have HU0 := HU; have UX0 := UX; have UY0 := UY
  have UV := Lib.hid (up_self x2)
  obtain ⟨x3, S, ex3, eb3, hb, hk⟩ := box1 x2 #[.int .i64 a, .int .i64 b] 26
  replace HU := Lib.hid (HU.out.next hb)
  replace UX := Lib.hid (UX.out.next hb)
  replace UY := Lib.hid (UY.out.next hb)
  replace UV := Lib.hid (UV.out.next hb)
  have US := Lib.hid (up_vr hk : Up x3 (VR S #[.int .i64 a, .int .i64 b] 26))
  clear hb hk
  have HSV : x2.heap.size ≤ S := by omega
  go_enter Try.func3, Try.ntmps3
  go_wp2_with fail
  clear ex1 eb1 ex2 eb2 ex3 eb3
  (with_reducible refine (sane_any _).mono ?_)
  rintro e v4 ⟨rfl, hb⟩
  replace HU := Lib.hid (HU.out.next hb)
  replace UX := Lib.hid (UX.out.next hb)
  replace UY := Lib.hid (UY.out.next hb)
  replace UV := Lib.hid (UV.out.next hb)
  replace US := Lib.hid (US.out.next hb)
  clear hb
  have kS0 : v4.cell? ⟨S, 0, none⟩ = some (.int .i64 a) := row_cell US.out.now 0
  have kS1 : v4.cell? ⟨S, 1, none⟩ = some (.int .i64 b) := row_cell US.out.now 1
  have fS1 : v4.frozen? ⟨S, 1, none⟩ = false := BX.frozen US.out.now 1
  go_upto_if 47 with fail
  obtain ⟨cb, hcb⟩ : ∃ cb, decide ((60 : Int) < wrap64 (b - a)) = cb := ⟨_, rfl⟩
  rw [hcb]
  clear hcb
  go_cut [] from 48 to 52 (fun wx => Below x2.heap.size x2 wx ∧ ∃ u : Int, VR S #[.int .i64 a, .int .i64 u] 26 wx)
  case first =>
    have HB := Lib.hid (UV.out.now)
    have HS := Lib.hid (US.out.now : VR S #[.int .i64 a, .int .i64 b] 26 v4)
    cases cb
    · go_wp2_with fail
      go_meet
      exact ⟨HB.out, b, HS.out⟩
    · go_wp2_with fail
      go_meet
      exact ⟨HB.out.setCell (p := ⟨S, 1, none⟩) HSV _, _, BX.put HS.out _⟩
  case rest =>
    rename World => q3
    obtain ⟨hb, u, hk⟩ := hcut
    clear HU UX UY UV US kS0 kS1 fS1 HSV
    have HU := Lib.hid (HU0.out.next hb); have UX := Lib.hid (UX0.out.next hb); have UY := Lib.hid (UY0.out.next hb)
    have US := Lib.hid (up_vr hk : Up q3 (VR S #[.int .i64 a, .int .i64 u] 26))
    clear hb hk HU0 UX0 UY0
    go_upto_region 5 with fail
    have kX0 : q3.cell? ⟨X, 0, none⟩ = some (.int .i64 z0) := row_cell UX.out.now 0
    have kX1 : q3.cell? ⟨X, 1, none⟩ = some (.int .i64 z1) := row_cell UX.out.now 1
    have kX2 : q3.cell? ⟨X, 2, none⟩ = some (.int .i64 z2) := row_cell UX.out.now 2
    have kX3 : q3.cell? ⟨X, 3, none⟩ = some (.int .i64 z3) := row_cell UX.out.now 3
    have kX4 : q3.cell? ⟨X, 4, none⟩ = some (.int .i64 z4) := row_cell UX.out.now 4
    have kX5 : q3.cell? ⟨X, 5, none⟩ = some (.int .i64 z5) := row_cell UX.out.now 5
    have kX6 : q3.cell? ⟨X, 6, none⟩ = some (.int .i64 z6) := row_cell UX.out.now 6
    have kY0 : q3.cell? ⟨Y, 0, none⟩ = some (.int .i64 y0) := row_cell UY.out.now 0
    have kY1 : q3.cell? ⟨Y, 1, none⟩ = some (.int .i64 y1) := row_cell UY.out.now 1
    have kY2 : q3.cell? ⟨Y, 2, none⟩ = some (.int .i64 y2) := row_cell UY.out.now 2
    have kY3 : q3.cell? ⟨Y, 3, none⟩ = some (.int .i64 y3) := row_cell UY.out.now 3
    have kY4 : q3.cell? ⟨Y, 4, none⟩ = some (.int .i64 y4) := row_cell UY.out.now 4
    have kY5 : q3.cell? ⟨Y, 5, none⟩ = some (.int .i64 y5) := row_cell UY.out.now 5
    have kY6 : q3.cell? ⟨Y, 6, none⟩ = some (.int .i64 y6) := row_cell UY.out.now 6
    go_cut [56, 57, 58] from 53 to 58 (fun s56 s57 s58 wx => ∃ K : Nat, s56 = .slice (some ⟨K, 0, none⟩) 2 2 ∧ s57 = .int .i64 2 ∧ s58 = .int .i64 0 ∧ Below q3.heap.size q3 wx ∧ VR K #[.int .i64 om.p, .int .i64 om.f, .int .i64 om.lo, .int .i64 om.hi, .int .i64 om.nd, .int .i64 om.tn, .int .i64 om.sl, .int .i64 y0, .int .i64 y1, .int .i64 y2, .int .i64 y3, .int .i64 y4, .int .i64 y5, .int .i64 y6] 24 wx)
    case first =>
      have KX := Lib.hid (fun w' (h : Below q3.heap.size q3 w') => show w'.cell? ⟨X, 0, none⟩ = some (.int .i64 z0) ∧ w'.cell? ⟨X, 1, none⟩ = some (.int .i64 z1) ∧ w'.cell? ⟨X, 2, none⟩ = some (.int .i64 z2) ∧ w'.cell? ⟨X, 3, none⟩ = some (.int .i64 z3) ∧ w'.cell? ⟨X, 4, none⟩ = some (.int .i64 z4) ∧ w'.cell? ⟨X, 5, none⟩ = some (.int .i64 z5) ∧ w'.cell? ⟨X, 6, none⟩ = some (.int .i64 z6) ∧ w'.cell? ⟨Y, 0, none⟩ = some (.int .i64 y0) ∧ w'.cell? ⟨Y, 1, none⟩ = some (.int .i64 y1) ∧ w'.cell? ⟨Y, 2, none⟩ = some (.int .i64 y2) ∧ w'.cell? ⟨Y, 3, none⟩ = some (.int .i64 y3) ∧ w'.cell? ⟨Y, 4, none⟩ = some (.int .i64 y4) ∧ w'.cell? ⟨Y, 5, none⟩ = some (.int .i64 y5) ∧ w'.cell? ⟨Y, 6, none⟩ = some (.int .i64 y6) from ⟨row_cell (UX.out _ h) 0, row_cell (UX.out _ h) 1, row_cell (UX.out _ h) 2, row_cell (UX.out _ h) 3, row_cell (UX.out _ h) 4, row_cell (UX.out _ h) 5, row_cell (UX.out _ h) 6, row_cell (UY.out _ h) 0, row_cell (UY.out _ h) 1, row_cell (UY.out _ h) 2, row_cell (UY.out _ h) 3, row_cell (UY.out _ h) 4, row_cell (UY.out _ h) 5, row_cell (UY.out _ h) 6⟩)
      have hB : Below q3.heap.size q3 q3.drew := (Below.refl _ _).drew
      clear kX0 kX1 kX2 kX3 kX4 kX5 kX6 kY0 kY1 kY2 kY3 kY4 kY5 kY6
      go_region_held3 (fun w' => w'.cell? ⟨X, 0, none⟩ = some (.int .i64 z0) ∧ w'.cell? ⟨X, 1, none⟩ = some (.int .i64 z1) ∧ w'.cell? ⟨X, 2, none⟩ = some (.int .i64 z2) ∧ w'.cell? ⟨X, 3, none⟩ = some (.int .i64 z3) ∧ w'.cell? ⟨X, 4, none⟩ = some (.int .i64 z4) ∧ w'.cell? ⟨X, 5, none⟩ = some (.int .i64 z5) ∧ w'.cell? ⟨X, 6, none⟩ = some (.int .i64 z6) ∧ w'.cell? ⟨Y, 0, none⟩ = some (.int .i64 y0) ∧ w'.cell? ⟨Y, 1, none⟩ = some (.int .i64 y1) ∧ w'.cell? ⟨Y, 2, none⟩ = some (.int .i64 y2) ∧ w'.cell? ⟨Y, 3, none⟩ = some (.int .i64 y3) ∧ w'.cell? ⟨Y, 4, none⟩ = some (.int .i64 y4) ∧ w'.cell? ⟨Y, 5, none⟩ = some (.int .i64 y5) ∧ w'.cell? ⟨Y, 6, none⟩ = some (.int .i64 y6))
        (first
          | exact KX.out _ hB
          | go_keep)
        ((go_at_call 11; (with_reducible refine (HM.out _).mono ?_); rintro e9 wi ⟨rfl, hb⟩; replace hB := below_tr hB hb))
      all_goals go_wp2_with fail
      all_goals go_meet
      all_goals exact ⟨_, rfl, rfl, rfl, hB.alloc hB.size _, heap_new' _ _ _ rfl⟩
    case rest =>
      rename World => q4
      obtain ⟨K, rfl, rfl, rfl, hb, hk⟩ := hcut
      replace HU := Lib.hid (HU.out.next hb)
      replace US := Lib.hid (US.out.next hb)
      have UK := Lib.hid (up_vr hk : Up q4 (VR K #[.int .i64 om.p, .int .i64 om.f, .int .i64 om.lo, .int .i64 om.hi, .int .i64 om.nd, .int .i64 om.tn, .int .i64 om.sl, .int .i64 y0, .int .i64 y1, .int .i64 y2, .int .i64 y3, .int .i64 y4, .int .i64 y5, .int .i64 y6] 24))
      clear hb hk UX UY kX0 kX1 kX2 kX3 kX4 kX5 kX6 kY0 kY1 kY2 kY3 kY4 kY5 kY6 HM
      go_wp2
      have ULi := Lib.hid (up_self q4)
      go_loopw [58] (fun iv wr => ∃ i : Nat, i ≤ 2 ∧ iv = iV i ∧ Below q4.heap.size q4 wr) (fun iv _ => 2 - (intOf iv).toNat)
      case atStart => exact ⟨0, by omega, rfl, Below.refl _ _⟩
      case round =>
        obtain ⟨i, hi, rfl, hB⟩ := hrel
        rename World => Wi
        have hHU := HU.out.next hB
        have hUS := US.out.next hB
        have hUK := UK.out.next hB
        have hULi := ULi.out.next hB
        have HU_i := HU
        replace HU := Lib.hid hHU
        clear hHU
        have US_i := US
        replace US := Lib.hid hUS
        clear hUS
        have UK_i := UK
        replace UK := Lib.hid hUK
        clear hUK
        have ULi_i := ULi
        replace ULi := Lib.hid hULi
        clear hULi
        clear hB
        have i0 : (0 : Int) ≤ i := by omega
        by_cases hi2 : i < 2
        · skip
          have i1 : ((i : Nat) : Int) < 2 := by omega
          obtain ⟨o, hz0, hz1, hz2, hz3, hz4, hz5, hz6⟩ : ∃ o : Orb, Wi.cell? ⟨K, i * 7, none⟩ = some (.int .i64 o.p) ∧ Wi.cell? ⟨K, i * 7 + 1, none⟩ = some (.int .i64 o.f) ∧ Wi.cell? ⟨K, i * 7 + 2, none⟩ = some (.int .i64 o.lo) ∧ Wi.cell? ⟨K, i * 7 + 3, none⟩ = some (.int .i64 o.hi) ∧ Wi.cell? ⟨K, i * 7 + 4, none⟩ = some (.int .i64 o.nd) ∧ Wi.cell? ⟨K, i * 7 + 5, none⟩ = some (.int .i64 o.tn) ∧ Wi.cell? ⟨K, i * 7 + 6, none⟩ = some (.int .i64 o.sl) := pick2 (P := fun i => ∃ o : Orb, Wi.cell? ⟨K, i * 7, none⟩ = some (.int .i64 o.p) ∧ Wi.cell? ⟨K, i * 7 + 1, none⟩ = some (.int .i64 o.f) ∧ Wi.cell? ⟨K, i * 7 + 2, none⟩ = some (.int .i64 o.lo) ∧ Wi.cell? ⟨K, i * 7 + 3, none⟩ = some (.int .i64 o.hi) ∧ Wi.cell? ⟨K, i * 7 + 4, none⟩ = some (.int .i64 o.nd) ∧ Wi.cell? ⟨K, i * 7 + 5, none⟩ = some (.int .i64 o.tn) ∧ Wi.cell? ⟨K, i * 7 + 6, none⟩ = some (.int .i64 o.sl)) hi2 ⟨om, row_cell UK.out.now 0, row_cell UK.out.now 1, row_cell UK.out.now 2, row_cell UK.out.now 3, row_cell UK.out.now 4, row_cell UK.out.now 5, row_cell UK.out.now 6⟩ ⟨⟨y0, y1, y2, y3, y4, y5, y6⟩, row_cell UK.out.now 7, row_cell UK.out.now 8, row_cell UK.out.now 9, row_cell UK.out.now 10, row_cell UK.out.now 11, row_cell UK.out.now 12, row_cell UK.out.now 13⟩
          obtain ⟨x5, O, ex5, eb5, hb, hk⟩ := box1 Wi #[.int .i64 o.p, .int .i64 o.f, .int .i64 o.lo, .int .i64 o.hi, .int .i64 o.nd, .int .i64 o.tn, .int .i64 o.sl] 24
          replace HU := Lib.hid (HU.out.next hb)
          replace US := Lib.hid (US.out.next hb)
          replace UK := Lib.hid (UK.out.next hb)
          replace ULi := Lib.hid (ULi.out.next hb)
          have UO := Lib.hid (up_vr hk : Up x5 (VR O #[.int .i64 o.p, .int .i64 o.f, .int .i64 o.lo, .int .i64 o.hi, .int .i64 o.nd, .int .i64 o.tn, .int .i64 o.sl] 24))
          clear hb hk
          go_upto_region 8 with fail
          clear hz0 hz1 hz2 hz3 hz4 hz5 hz6
          clear ex5 eb5
          have KO := Lib.hid (fun w' (h : Below x5.heap.size x5 w') => show w'.cell? ⟨O, 0, none⟩ = some (.int .i64 o.p) ∧ w'.cell? ⟨O, 1, none⟩ = some (.int .i64 o.f) ∧ w'.cell? ⟨O, 2, none⟩ = some (.int .i64 o.lo) ∧ w'.cell? ⟨O, 3, none⟩ = some (.int .i64 o.hi) ∧ w'.cell? ⟨O, 4, none⟩ = some (.int .i64 o.nd) ∧ w'.cell? ⟨O, 5, none⟩ = some (.int .i64 o.tn) ∧ w'.cell? ⟨O, 6, none⟩ = some (.int .i64 o.sl) from ⟨row_cell (UO.out _ h) 0, row_cell (UO.out _ h) 1, row_cell (UO.out _ h) 2, row_cell (UO.out _ h) 3, row_cell (UO.out _ h) 4, row_cell (UO.out _ h) 5, row_cell (UO.out _ h) 6⟩)
          have hB : Below x5.heap.size x5 x5.drew := (Below.refl _ _).drew
          have CV1 := Lib.hid (fun w => valid_any o w)
          have CV2 := Lib.hid (fun w => rvalid_any o w)
          go_region_held3 (fun w' => w'.cell? ⟨O, 0, none⟩ = some (.int .i64 o.p) ∧ w'.cell? ⟨O, 1, none⟩ = some (.int .i64 o.f) ∧ w'.cell? ⟨O, 2, none⟩ = some (.int .i64 o.lo) ∧ w'.cell? ⟨O, 3, none⟩ = some (.int .i64 o.hi) ∧ w'.cell? ⟨O, 4, none⟩ = some (.int .i64 o.nd) ∧ w'.cell? ⟨O, 5, none⟩ = some (.int .i64 o.tn) ∧ w'.cell? ⟨O, 6, none⟩ = some (.int .i64 o.sl))
            (first
              | exact KO.out _ hB
              | go_keep)
            (first
              | (go_at_call 12; (with_reducible refine (CV1.out _).mono ?_); rintro e9 wi ⟨rfl, hb⟩; replace hB := below_tr hB hb)
              | (go_at_call 13; (with_reducible refine (CV2.out _).mono ?_); rintro e9 wj ⟨rfl, hb⟩; replace hB := below_tr hB hb))
          have HBX := Lib.hid hB
          clear hB hb KO CV1 CV2
          replace HU := Lib.hid (HU.out.next HBX.out)
          replace US := Lib.hid (US.out.next HBX.out)
          replace UK := Lib.hid (UK.out.next HBX.out)
          replace ULi := Lib.hid (ULi.out.next HBX.out)
          replace UO := Lib.hid (UO.out.next HBX.out)
          clear HBX
          go_wp2_with fail
          (with_reducible refine (HP.out _).mono ?_)
          rintro e v6 ⟨rfl, hb⟩
          replace HU := Lib.hid (HU.out.next hb)
          replace US := Lib.hid (US.out.next hb)
          replace UK := Lib.hid (UK.out.next hb)
          replace ULi := Lib.hid (ULi.out.next hb)
          replace UO := Lib.hid (UO.out.next hb)
          clear hb
          go_wp2_with fail
          (with_reducible refine (HD.out _).mono ?_)
          rintro e v7 ⟨rfl, hb⟩
          replace HU := Lib.hid (HU.out.next hb)
          replace US := Lib.hid (US.out.next hb)
          replace UK := Lib.hid (UK.out.next hb)
          replace ULi := Lib.hid (ULi.out.next hb)
          replace UO := Lib.hid (UO.out.next hb)
          clear hb
          obtain ⟨x8, Z, ex8, eb8, hb, hk⟩ := box1 v7 #[.int .i64 t, .int .i64 late, iV p, .int .i64 ((d : Int) - 10)] 31
          replace HU := Lib.hid (HU.out.next hb)
          replace US := Lib.hid (US.out.next hb)
          replace UK := Lib.hid (UK.out.next hb)
          replace ULi := Lib.hid (ULi.out.next hb)
          replace UO := Lib.hid (UO.out.next hb)
          have UZ := Lib.hid (up_vr hk : Up x8 (VR Z #[.int .i64 t, .int .i64 late, iV p, .int .i64 ((d : Int) - 10)] 31))
          clear hb hk
          go_wp2
          clear ex8 eb8
          have ULj := Lib.hid (up_self x8)
          go_loopw [78] (fun iv wr => ∃ j : Nat, j ≤ 2 ∧ iv = iV j ∧ Below x8.heap.size x8 wr) (fun iv _ => 2 - (intOf iv).toNat)
          case atStart => exact ⟨0, by omega, rfl, Below.refl _ _⟩
          case round =>
            obtain ⟨j, hj, rfl, hB⟩ := hrel
            rename World => Wj
            have hHU := HU.out.next hB
            have hUS := US.out.next hB
            have hUK := UK.out.next hB
            have hULi := ULi.out.next hB
            have hUO := UO.out.next hB
            have hUZ := UZ.out.next hB
            have hULj := ULj.out.next hB
            have HU_j := HU
            replace HU := Lib.hid hHU
            clear hHU
            have US_j := US
            replace US := Lib.hid hUS
            clear hUS
            have UK_j := UK
            replace UK := Lib.hid hUK
            clear hUK
            have ULi_j := ULi
            replace ULi := Lib.hid hULi
            clear hULi
            have UO_j := UO
            replace UO := Lib.hid hUO
            clear hUO
            have UZ_j := UZ
            replace UZ := Lib.hid hUZ
            clear hUZ
            have ULj_j := ULj
            replace ULj := Lib.hid hULj
            clear hULj
            clear hB
            have j0 : (0 : Int) ≤ j := by omega
            by_cases hj2 : j < 2
            · skip
              have j1 : ((j : Nat) : Int) < 2 := by omega
              obtain ⟨zt, zl, hz0, hz1⟩ : ∃ zt zl : Int, Wj.cell? ⟨Z, j * 2, none⟩ = some (.int .i64 zt) ∧ Wj.cell? ⟨Z, j * 2 + 1, none⟩ = some (.int .i64 zl) := pick2 (P := fun j => ∃ zt zl : Int, Wj.cell? ⟨Z, j * 2, none⟩ = some (.int .i64 zt) ∧ Wj.cell? ⟨Z, j * 2 + 1, none⟩ = some (.int .i64 zl)) hj2 ⟨_, _, row_cell UZ.out.now 0, row_cell UZ.out.now 1⟩ ⟨_, _, row_cell UZ.out.now 2, row_cell UZ.out.now 3⟩
              obtain ⟨ra, re, C1, C2⟩ := row_pair o zt zl
              obtain ⟨ca, ce, C3, C4⟩ := col_pair o zt zl
              obtain ⟨ax, ay, ae, C5, C6⟩ := at_pair o zt zl
              obtain ⟨er, _, her, C7⟩ := could_all o zt
              have H1 := Lib.hid C1; have H2 := Lib.hid C2; have H3 := Lib.hid C3; have H4 := Lib.hid C4; have H5 := Lib.hid C5; have H6 := Lib.hid C6; have H7 := Lib.hid C7
              have H8 := Lib.hid (fun w => rcould_all o zt er her w)
              have H9 := Lib.hid (fun w => must_all o zt w); have H10 := Lib.hid (fun w => rmust_all o zt w)
              clear C1 C2 C3 C4 C5 C6 C7 her
              obtain ⟨x9, P, ex9, eb9, hb, hk⟩ := box1 Wj #[.int .i64 zt, .int .i64 zl] 31
              replace HU := Lib.hid (HU.out.next hb)
              replace US := Lib.hid (US.out.next hb)
              replace UK := Lib.hid (UK.out.next hb)
              replace ULi := Lib.hid (ULi.out.next hb)
              replace UO := Lib.hid (UO.out.next hb)
              replace UZ := Lib.hid (UZ.out.next hb)
              replace ULj := Lib.hid (ULj.out.next hb)
              have UP := Lib.hid (up_vr hk : Up x9 (VR P #[.int .i64 zt, .int .i64 zl] 31))
              clear hb hk
              have kO0 : x9.cell? ⟨O, 0, none⟩ = some (.int .i64 o.p) := row_cell UO.out.now 0
              have kO1 : x9.cell? ⟨O, 1, none⟩ = some (.int .i64 o.f) := row_cell UO.out.now 1
              have kO2 : x9.cell? ⟨O, 2, none⟩ = some (.int .i64 o.lo) := row_cell UO.out.now 2
              have kO3 : x9.cell? ⟨O, 3, none⟩ = some (.int .i64 o.hi) := row_cell UO.out.now 3
              have kO4 : x9.cell? ⟨O, 4, none⟩ = some (.int .i64 o.nd) := row_cell UO.out.now 4
              have kO5 : x9.cell? ⟨O, 5, none⟩ = some (.int .i64 o.tn) := row_cell UO.out.now 5
              have kO6 : x9.cell? ⟨O, 6, none⟩ = some (.int .i64 o.sl) := row_cell UO.out.now 6
              have kP0 : x9.cell? ⟨P, 0, none⟩ = some (.int .i64 zt) := row_cell UP.out.now 0
              have kP1 : x9.cell? ⟨P, 1, none⟩ = some (.int .i64 zl) := row_cell UP.out.now 1
              go_wp2_with fail
              clear ex9 eb9 kO0 kO1 kO2 kO3 kO4 kO5 kO6 kP0 kP1 hz0 hz1
              (with_reducible refine (H1.out _).mono ?_)
              rintro e v10 ⟨rfl, hb⟩
              replace HU := Lib.hid (HU.out.next hb)
              replace US := Lib.hid (US.out.next hb)
              replace UK := Lib.hid (UK.out.next hb)
              replace ULi := Lib.hid (ULi.out.next hb)
              replace UO := Lib.hid (UO.out.next hb)
              replace UZ := Lib.hid (UZ.out.next hb)
              replace ULj := Lib.hid (ULj.out.next hb)
              replace UP := Lib.hid (UP.out.next hb)
              clear hb
              have kO0 : v10.cell? ⟨O, 0, none⟩ = some (.int .i64 o.p) := row_cell UO.out.now 0
              have kO1 : v10.cell? ⟨O, 1, none⟩ = some (.int .i64 o.f) := row_cell UO.out.now 1
              have kO2 : v10.cell? ⟨O, 2, none⟩ = some (.int .i64 o.lo) := row_cell UO.out.now 2
              have kO3 : v10.cell? ⟨O, 3, none⟩ = some (.int .i64 o.hi) := row_cell UO.out.now 3
              have kO4 : v10.cell? ⟨O, 4, none⟩ = some (.int .i64 o.nd) := row_cell UO.out.now 4
              have kO5 : v10.cell? ⟨O, 5, none⟩ = some (.int .i64 o.tn) := row_cell UO.out.now 5
              have kO6 : v10.cell? ⟨O, 6, none⟩ = some (.int .i64 o.sl) := row_cell UO.out.now 6
              have kP0 : v10.cell? ⟨P, 0, none⟩ = some (.int .i64 zt) := row_cell UP.out.now 0
              have kP1 : v10.cell? ⟨P, 1, none⟩ = some (.int .i64 zl) := row_cell UP.out.now 1
              go_wp2_with fail
              clear kO0 kO1 kO2 kO3 kO4 kO5 kO6 kP0 kP1
              (with_reducible refine (H2.out _).mono ?_)
              rintro e v11 ⟨rfl, hb⟩
              replace HU := Lib.hid (HU.out.next hb)
              replace US := Lib.hid (US.out.next hb)
              replace UK := Lib.hid (UK.out.next hb)
              replace ULi := Lib.hid (ULi.out.next hb)
              replace UO := Lib.hid (UO.out.next hb)
              replace UZ := Lib.hid (UZ.out.next hb)
              replace ULj := Lib.hid (ULj.out.next hb)
              replace UP := Lib.hid (UP.out.next hb)
              clear hb
              have kO0 : v11.cell? ⟨O, 0, none⟩ = some (.int .i64 o.p) := row_cell UO.out.now 0
              have kO1 : v11.cell? ⟨O, 1, none⟩ = some (.int .i64 o.f) := row_cell UO.out.now 1
              have kO2 : v11.cell? ⟨O, 2, none⟩ = some (.int .i64 o.lo) := row_cell UO.out.now 2
              have kO3 : v11.cell? ⟨O, 3, none⟩ = some (.int .i64 o.hi) := row_cell UO.out.now 3
              have kO4 : v11.cell? ⟨O, 4, none⟩ = some (.int .i64 o.nd) := row_cell UO.out.now 4
              have kO5 : v11.cell? ⟨O, 5, none⟩ = some (.int .i64 o.tn) := row_cell UO.out.now 5
              have kO6 : v11.cell? ⟨O, 6, none⟩ = some (.int .i64 o.sl) := row_cell UO.out.now 6
              have kP0 : v11.cell? ⟨P, 0, none⟩ = some (.int .i64 zt) := row_cell UP.out.now 0
              have kP1 : v11.cell? ⟨P, 1, none⟩ = some (.int .i64 zl) := row_cell UP.out.now 1
              go_wp2_with fail
              clear kO0 kO1 kO2 kO3 kO4 kO5 kO6 kP0 kP1
              (with_reducible refine (H3.out _).mono ?_)
              rintro e v12 ⟨rfl, hb⟩
              replace HU := Lib.hid (HU.out.next hb)
              replace US := Lib.hid (US.out.next hb)
              replace UK := Lib.hid (UK.out.next hb)
              replace ULi := Lib.hid (ULi.out.next hb)
              replace UO := Lib.hid (UO.out.next hb)
              replace UZ := Lib.hid (UZ.out.next hb)
              replace ULj := Lib.hid (ULj.out.next hb)
              replace UP := Lib.hid (UP.out.next hb)
              clear hb
              have kO0 : v12.cell? ⟨O, 0, none⟩ = some (.int .i64 o.p) := row_cell UO.out.now 0
              have kO1 : v12.cell? ⟨O, 1, none⟩ = some (.int .i64 o.f) := row_cell UO.out.now 1
              have kO2 : v12.cell? ⟨O, 2, none⟩ = some (.int .i64 o.lo) := row_cell UO.out.now 2
              have kO3 : v12.cell? ⟨O, 3, none⟩ = some (.int .i64 o.hi) := row_cell UO.out.now 3
              have kO4 : v12.cell? ⟨O, 4, none⟩ = some (.int .i64 o.nd) := row_cell UO.out.now 4
              have kO5 : v12.cell? ⟨O, 5, none⟩ = some (.int .i64 o.tn) := row_cell UO.out.now 5
              have kO6 : v12.cell? ⟨O, 6, none⟩ = some (.int .i64 o.sl) := row_cell UO.out.now 6
              have kP0 : v12.cell? ⟨P, 0, none⟩ = some (.int .i64 zt) := row_cell UP.out.now 0
              have kP1 : v12.cell? ⟨P, 1, none⟩ = some (.int .i64 zl) := row_cell UP.out.now 1
              go_wp2_with fail
              clear kO0 kO1 kO2 kO3 kO4 kO5 kO6 kP0 kP1
              (with_reducible refine (H4.out _).mono ?_)
              rintro e v13 ⟨rfl, hb⟩
              replace HU := Lib.hid (HU.out.next hb)
              replace US := Lib.hid (US.out.next hb)
              replace UK := Lib.hid (UK.out.next hb)
              replace ULi := Lib.hid (ULi.out.next hb)
              replace UO := Lib.hid (UO.out.next hb)
              replace UZ := Lib.hid (UZ.out.next hb)
              replace ULj := Lib.hid (ULj.out.next hb)
              replace UP := Lib.hid (UP.out.next hb)
              clear hb
              have kO0 : v13.cell? ⟨O, 0, none⟩ = some (.int .i64 o.p) := row_cell UO.out.now 0
              have kO1 : v13.cell? ⟨O, 1, none⟩ = some (.int .i64 o.f) := row_cell UO.out.now 1
              have kO2 : v13.cell? ⟨O, 2, none⟩ = some (.int .i64 o.lo) := row_cell UO.out.now 2
              have kO3 : v13.cell? ⟨O, 3, none⟩ = some (.int .i64 o.hi) := row_cell UO.out.now 3
              have kO4 : v13.cell? ⟨O, 4, none⟩ = some (.int .i64 o.nd) := row_cell UO.out.now 4
              have kO5 : v13.cell? ⟨O, 5, none⟩ = some (.int .i64 o.tn) := row_cell UO.out.now 5
              have kO6 : v13.cell? ⟨O, 6, none⟩ = some (.int .i64 o.sl) := row_cell UO.out.now 6
              have kP0 : v13.cell? ⟨P, 0, none⟩ = some (.int .i64 zt) := row_cell UP.out.now 0
              have kP1 : v13.cell? ⟨P, 1, none⟩ = some (.int .i64 zl) := row_cell UP.out.now 1
              go_wp2_with fail
              clear kO0 kO1 kO2 kO3 kO4 kO5 kO6 kP0 kP1
              (with_reducible refine (H5.out _).mono ?_)
              rintro e v14 ⟨rfl, hb⟩
              replace HU := Lib.hid (HU.out.next hb)
              replace US := Lib.hid (US.out.next hb)
              replace UK := Lib.hid (UK.out.next hb)
              replace ULi := Lib.hid (ULi.out.next hb)
              replace UO := Lib.hid (UO.out.next hb)
              replace UZ := Lib.hid (UZ.out.next hb)
              replace ULj := Lib.hid (ULj.out.next hb)
              replace UP := Lib.hid (UP.out.next hb)
              clear hb
              obtain ⟨x15, A, ex15, eb15, hb, hk⟩ := box1 v14 #[.int .i64 ax, .int .i64 ay] 38
              replace HU := Lib.hid (HU.out.next hb)
              replace US := Lib.hid (US.out.next hb)
              replace UK := Lib.hid (UK.out.next hb)
              replace ULi := Lib.hid (ULi.out.next hb)
              replace UO := Lib.hid (UO.out.next hb)
              replace UZ := Lib.hid (UZ.out.next hb)
              replace ULj := Lib.hid (ULj.out.next hb)
              replace UP := Lib.hid (UP.out.next hb)
              have UA := Lib.hid (up_vr hk : Up x15 (VR A #[.int .i64 ax, .int .i64 ay] 38))
              clear hb hk
              have kO0 : x15.cell? ⟨O, 0, none⟩ = some (.int .i64 o.p) := row_cell UO.out.now 0
              have kO1 : x15.cell? ⟨O, 1, none⟩ = some (.int .i64 o.f) := row_cell UO.out.now 1
              have kO2 : x15.cell? ⟨O, 2, none⟩ = some (.int .i64 o.lo) := row_cell UO.out.now 2
              have kO3 : x15.cell? ⟨O, 3, none⟩ = some (.int .i64 o.hi) := row_cell UO.out.now 3
              have kO4 : x15.cell? ⟨O, 4, none⟩ = some (.int .i64 o.nd) := row_cell UO.out.now 4
              have kO5 : x15.cell? ⟨O, 5, none⟩ = some (.int .i64 o.tn) := row_cell UO.out.now 5
              have kO6 : x15.cell? ⟨O, 6, none⟩ = some (.int .i64 o.sl) := row_cell UO.out.now 6
              have kP0 : x15.cell? ⟨P, 0, none⟩ = some (.int .i64 zt) := row_cell UP.out.now 0
              have kP1 : x15.cell? ⟨P, 1, none⟩ = some (.int .i64 zl) := row_cell UP.out.now 1
              go_wp2_with fail
              clear ex15 eb15 kO0 kO1 kO2 kO3 kO4 kO5 kO6 kP0 kP1
              (with_reducible refine (H6.out _).mono ?_)
              rintro e v16 ⟨rfl, hb⟩
              replace HU := Lib.hid (HU.out.next hb)
              replace US := Lib.hid (US.out.next hb)
              replace UK := Lib.hid (UK.out.next hb)
              replace ULi := Lib.hid (ULi.out.next hb)
              replace UO := Lib.hid (UO.out.next hb)
              replace UZ := Lib.hid (UZ.out.next hb)
              replace ULj := Lib.hid (ULj.out.next hb)
              replace UP := Lib.hid (UP.out.next hb)
              replace UA := Lib.hid (UA.out.next hb)
              clear hb
              obtain ⟨x17, B, ex17, eb17, hb, hk⟩ := box1 v16 #[.int .i64 ax, .int .i64 ay] 38
              replace HU := Lib.hid (HU.out.next hb)
              replace US := Lib.hid (US.out.next hb)
              replace UK := Lib.hid (UK.out.next hb)
              replace ULi := Lib.hid (ULi.out.next hb)
              replace UO := Lib.hid (UO.out.next hb)
              replace UZ := Lib.hid (UZ.out.next hb)
              replace ULj := Lib.hid (ULj.out.next hb)
              replace UP := Lib.hid (UP.out.next hb)
              replace UA := Lib.hid (UA.out.next hb)
              have UB := Lib.hid (up_vr hk : Up x17 (VR B #[.int .i64 ax, .int .i64 ay] 38))
              clear hb hk
              have kA0 : x17.cell? ⟨A, 0, none⟩ = some (.int .i64 ax) := row_cell UA.out.now 0
              have kA1 : x17.cell? ⟨A, 1, none⟩ = some (.int .i64 ay) := row_cell UA.out.now 1
              have kB0 : x17.cell? ⟨B, 0, none⟩ = some (.int .i64 ax) := row_cell UB.out.now 0
              have kB1 : x17.cell? ⟨B, 1, none⟩ = some (.int .i64 ay) := row_cell UB.out.now 1
              have heq := run_eqC ax ay ax ay
              rw [beq_self_eq_true, beq_self_eq_true, Bool.and_true] at heq
              have kO0 : x17.cell? ⟨O, 0, none⟩ = some (.int .i64 o.p) := row_cell UO.out.now 0
              have kO1 : x17.cell? ⟨O, 1, none⟩ = some (.int .i64 o.f) := row_cell UO.out.now 1
              have kO2 : x17.cell? ⟨O, 2, none⟩ = some (.int .i64 o.lo) := row_cell UO.out.now 2
              have kO3 : x17.cell? ⟨O, 3, none⟩ = some (.int .i64 o.hi) := row_cell UO.out.now 3
              have kO4 : x17.cell? ⟨O, 4, none⟩ = some (.int .i64 o.nd) := row_cell UO.out.now 4
              have kO5 : x17.cell? ⟨O, 5, none⟩ = some (.int .i64 o.tn) := row_cell UO.out.now 5
              have kO6 : x17.cell? ⟨O, 6, none⟩ = some (.int .i64 o.sl) := row_cell UO.out.now 6
              have kP0 : x17.cell? ⟨P, 0, none⟩ = some (.int .i64 zt) := row_cell UP.out.now 0
              have kP1 : x17.cell? ⟨P, 1, none⟩ = some (.int .i64 zl) := row_cell UP.out.now 1
              go_wp2_with fail
              clear ex17 eb17 kA0 kA1 kB0 kB1 kO0 kO1 kO2 kO3 kO4 kO5 kO6 kP0 kP1 heq H1 H2 H3 H4 H5 H6
              (with_reducible refine (H7.out _).mono ?_)
              rintro e v18 ⟨L, hc1, hc2, ll, lc, rfl, hcs, hb⟩
              replace HU := Lib.hid (HU.out.next hb)
              replace US := Lib.hid (US.out.next hb)
              replace UK := Lib.hid (UK.out.next hb)
              replace ULi := Lib.hid (ULi.out.next hb)
              replace UO := Lib.hid (UO.out.next hb)
              replace UZ := Lib.hid (UZ.out.next hb)
              replace ULj := Lib.hid (ULj.out.next hb)
              replace UP := Lib.hid (UP.out.next hb)
              replace UA := Lib.hid (UA.out.next hb)
              replace UB := Lib.hid (UB.out.next hb)
              have UL := Lib.hid (up_vc hcs)
              have HA := Lib.hid (And.intro hc1 hc2)
              clear hcs hc1 hc2
              clear hb
              clear UA UB
              have kO0 : v18.cell? ⟨O, 0, none⟩ = some (.int .i64 o.p) := row_cell UO.out.now 0
              have kO1 : v18.cell? ⟨O, 1, none⟩ = some (.int .i64 o.f) := row_cell UO.out.now 1
              have kO2 : v18.cell? ⟨O, 2, none⟩ = some (.int .i64 o.lo) := row_cell UO.out.now 2
              have kO3 : v18.cell? ⟨O, 3, none⟩ = some (.int .i64 o.hi) := row_cell UO.out.now 3
              have kO4 : v18.cell? ⟨O, 4, none⟩ = some (.int .i64 o.nd) := row_cell UO.out.now 4
              have kO5 : v18.cell? ⟨O, 5, none⟩ = some (.int .i64 o.tn) := row_cell UO.out.now 5
              have kO6 : v18.cell? ⟨O, 6, none⟩ = some (.int .i64 o.sl) := row_cell UO.out.now 6
              have kP0 : v18.cell? ⟨P, 0, none⟩ = some (.int .i64 zt) := row_cell UP.out.now 0
              have kP1 : v18.cell? ⟨P, 1, none⟩ = some (.int .i64 zl) := row_cell UP.out.now 1
              go_wp2_with fail
              clear kO0 kO1 kO2 kO3 kO4 kO5 kO6 kP0 kP1
              (with_reducible refine (H8.out _).mono ?_)
              rintro e v19 ⟨L2, hc1, hc2, ml, mc, rfl, hcs, hb⟩
              replace HU := Lib.hid (HU.out.next hb)
              replace US := Lib.hid (US.out.next hb)
              replace UK := Lib.hid (UK.out.next hb)
              replace ULi := Lib.hid (ULi.out.next hb)
              replace UO := Lib.hid (UO.out.next hb)
              replace UZ := Lib.hid (UZ.out.next hb)
              replace ULj := Lib.hid (ULj.out.next hb)
              replace UP := Lib.hid (UP.out.next hb)
              replace UL := Lib.hid (UL.out.next hb)
              obtain rfl := could_same HA.out.1 HA.out.2 hc1 hc2
              have UM := Lib.hid (up_vc hcs)
              clear hcs hc1 hc2
              clear hb
              have kO0 : v19.cell? ⟨O, 0, none⟩ = some (.int .i64 o.p) := row_cell UO.out.now 0
              have kO1 : v19.cell? ⟨O, 1, none⟩ = some (.int .i64 o.f) := row_cell UO.out.now 1
              have kO2 : v19.cell? ⟨O, 2, none⟩ = some (.int .i64 o.lo) := row_cell UO.out.now 2
              have kO3 : v19.cell? ⟨O, 3, none⟩ = some (.int .i64 o.hi) := row_cell UO.out.now 3
              have kO4 : v19.cell? ⟨O, 4, none⟩ = some (.int .i64 o.nd) := row_cell UO.out.now 4
              have kO5 : v19.cell? ⟨O, 5, none⟩ = some (.int .i64 o.tn) := row_cell UO.out.now 5
              have kO6 : v19.cell? ⟨O, 6, none⟩ = some (.int .i64 o.sl) := row_cell UO.out.now 6
              have kP0 : v19.cell? ⟨P, 0, none⟩ = some (.int .i64 zt) := row_cell UP.out.now 0
              have kP1 : v19.cell? ⟨P, 1, none⟩ = some (.int .i64 zl) := row_cell UP.out.now 1
              go_wp2_with fail
              clear kO0 kO1 kO2 kO3 kO4 kO5 kO6 kP0 kP1
              (with_reducible refine (H9.out _).mono ?_)
              rintro e v20 ⟨L2, hc1, hc2, rfl, hb⟩
              replace HU := Lib.hid (HU.out.next hb)
              replace US := Lib.hid (US.out.next hb)
              replace UK := Lib.hid (UK.out.next hb)
              replace ULi := Lib.hid (ULi.out.next hb)
              replace UO := Lib.hid (UO.out.next hb)
              replace UZ := Lib.hid (UZ.out.next hb)
              replace ULj := Lib.hid (ULj.out.next hb)
              replace UP := Lib.hid (UP.out.next hb)
              replace UL := Lib.hid (UL.out.next hb)
              replace UM := Lib.hid (UM.out.next hb)
              obtain rfl := could_same HA.out.1 HA.out.2 hc1 hc2
              clear hc1 hc2
              clear hb
              obtain ⟨cx, cy, ct, ec, _, _, _⟩ := mustV_any L
              have HE := Lib.hid ec
              clear ec
              rw [HE.out]
              obtain ⟨x21, A, ex21, eb21, hb, hk⟩ := box1 v20 #[iV cx, iV cy] 38
              replace HU := Lib.hid (HU.out.next hb)
              replace US := Lib.hid (US.out.next hb)
              replace UK := Lib.hid (UK.out.next hb)
              replace ULi := Lib.hid (ULi.out.next hb)
              replace UO := Lib.hid (UO.out.next hb)
              replace UZ := Lib.hid (UZ.out.next hb)
              replace ULj := Lib.hid (ULj.out.next hb)
              replace UP := Lib.hid (UP.out.next hb)
              replace UL := Lib.hid (UL.out.next hb)
              replace UM := Lib.hid (UM.out.next hb)
              have UA := Lib.hid (up_vr hk : Up x21 (VR A #[iV cx, iV cy] 38))
              clear hb hk
              have kO0 : x21.cell? ⟨O, 0, none⟩ = some (.int .i64 o.p) := row_cell UO.out.now 0
              have kO1 : x21.cell? ⟨O, 1, none⟩ = some (.int .i64 o.f) := row_cell UO.out.now 1
              have kO2 : x21.cell? ⟨O, 2, none⟩ = some (.int .i64 o.lo) := row_cell UO.out.now 2
              have kO3 : x21.cell? ⟨O, 3, none⟩ = some (.int .i64 o.hi) := row_cell UO.out.now 3
              have kO4 : x21.cell? ⟨O, 4, none⟩ = some (.int .i64 o.nd) := row_cell UO.out.now 4
              have kO5 : x21.cell? ⟨O, 5, none⟩ = some (.int .i64 o.tn) := row_cell UO.out.now 5
              have kO6 : x21.cell? ⟨O, 6, none⟩ = some (.int .i64 o.sl) := row_cell UO.out.now 6
              have kP0 : x21.cell? ⟨P, 0, none⟩ = some (.int .i64 zt) := row_cell UP.out.now 0
              have kP1 : x21.cell? ⟨P, 1, none⟩ = some (.int .i64 zl) := row_cell UP.out.now 1
              go_wp2_with fail
              clear ex21 eb21 kO0 kO1 kO2 kO3 kO4 kO5 kO6 kP0 kP1
              (with_reducible refine (H10.out _).mono ?_)
              rintro e v22 ⟨L2, hc1, hc2, rfl, hb⟩
              replace HU := Lib.hid (HU.out.next hb)
              replace US := Lib.hid (US.out.next hb)
              replace UK := Lib.hid (UK.out.next hb)
              replace ULi := Lib.hid (ULi.out.next hb)
              replace UO := Lib.hid (UO.out.next hb)
              replace UZ := Lib.hid (UZ.out.next hb)
              replace ULj := Lib.hid (ULj.out.next hb)
              replace UP := Lib.hid (UP.out.next hb)
              replace UL := Lib.hid (UL.out.next hb)
              replace UM := Lib.hid (UM.out.next hb)
              replace UA := Lib.hid (UA.out.next hb)
              obtain rfl := could_same HA.out.1 HA.out.2 hc1 hc2
              clear hc1 hc2
              clear hb
              rw [HE.out]
              obtain ⟨x23, B, ex23, eb23, hb, hk⟩ := box1 v22 #[iV cx, iV cy] 38
              replace HU := Lib.hid (HU.out.next hb)
              replace US := Lib.hid (US.out.next hb)
              replace UK := Lib.hid (UK.out.next hb)
              replace ULi := Lib.hid (ULi.out.next hb)
              replace UO := Lib.hid (UO.out.next hb)
              replace UZ := Lib.hid (UZ.out.next hb)
              replace ULj := Lib.hid (ULj.out.next hb)
              replace UP := Lib.hid (UP.out.next hb)
              replace UL := Lib.hid (UL.out.next hb)
              replace UM := Lib.hid (UM.out.next hb)
              replace UA := Lib.hid (UA.out.next hb)
              have UB := Lib.hid (up_vr hk : Up x23 (VR B #[iV cx, iV cy] 38))
              clear hb hk
              go_wp2_with fail
              clear ex23 eb23
              have HS2 := Lib.hid (fun (W : World) (h1 : VC ll L W) (h2 : VC ml L W) => (show Calls Try.prog 25 #[.slice ll L.length lc, .slice ml L.length mc] W (OutV W (.bool true)) from by
                have h := same_any ll ml lc mc L L W h1 h2
                rwa [decide_eq_true (rfl : L = L)] at h))
              clear HA HE H7 H8 H9 H10
              go_wp2_with fail
              (with_reducible refine (HS2.out _ UL.out.now UM.out.now).mono ?_)
              rintro e v24 ⟨rfl, hb⟩
              replace HU := Lib.hid (HU.out.next hb)
              replace US := Lib.hid (US.out.next hb)
              replace UK := Lib.hid (UK.out.next hb)
              replace ULi := Lib.hid (ULi.out.next hb)
              replace UO := Lib.hid (UO.out.next hb)
              replace UZ := Lib.hid (UZ.out.next hb)
              replace ULj := Lib.hid (ULj.out.next hb)
              replace UP := Lib.hid (UP.out.next hb)
              replace UL := Lib.hid (UL.out.next hb)
              replace UM := Lib.hid (UM.out.next hb)
              replace UA := Lib.hid (UA.out.next hb)
              replace UB := Lib.hid (UB.out.next hb)
              clear hb
              have kA0 : v24.cell? ⟨A, 0, none⟩ = some (iV cx) := row_cell UA.out.now 0
              have kA1 : v24.cell? ⟨A, 1, none⟩ = some (iV cy) := row_cell UA.out.now 1
              have kB0 : v24.cell? ⟨B, 0, none⟩ = some (iV cx) := row_cell UB.out.now 0
              have kB1 : v24.cell? ⟨B, 1, none⟩ = some (iV cy) := row_cell UB.out.now 1
              have heq := run_eqC cx cy cx cy
              rw [beq_self_eq_true, beq_self_eq_true, Bool.and_true] at heq
              go_wp2_with fail
              clear kA0 kA1 kB0 kB1 heq HS2
              (with_reducible refine (HP.out _).mono ?_)
              rintro e v25 ⟨rfl, hb⟩
              replace HU := Lib.hid (HU.out.next hb)
              replace US := Lib.hid (US.out.next hb)
              replace UK := Lib.hid (UK.out.next hb)
              replace ULi := Lib.hid (ULi.out.next hb)
              replace UO := Lib.hid (UO.out.next hb)
              replace UZ := Lib.hid (UZ.out.next hb)
              replace ULj := Lib.hid (ULj.out.next hb)
              replace UP := Lib.hid (UP.out.next hb)
              replace UL := Lib.hid (UL.out.next hb)
              replace UM := Lib.hid (UM.out.next hb)
              replace UA := Lib.hid (UA.out.next hb)
              replace UB := Lib.hid (UB.out.next hb)
              clear hb
              clear UA UB UL UM
              go_wp2_with fail
              (with_reducible refine (HP.out _).mono ?_)
              rintro e v26 ⟨rfl, hb⟩
              replace HU := Lib.hid (HU.out.next hb)
              replace US := Lib.hid (US.out.next hb)
              replace UK := Lib.hid (UK.out.next hb)
              replace ULi := Lib.hid (ULi.out.next hb)
              replace UO := Lib.hid (UO.out.next hb)
              replace UZ := Lib.hid (UZ.out.next hb)
              replace ULj := Lib.hid (ULj.out.next hb)
              replace UP := Lib.hid (UP.out.next hb)
              clear hb
              go_wp2_with fail
              (with_reducible refine (HK.out _).mono ?_)
              rintro e v27 ⟨rfl, hb⟩
              replace HU := Lib.hid (HU.out.next hb)
              replace US := Lib.hid (US.out.next hb)
              replace UK := Lib.hid (UK.out.next hb)
              replace ULi := Lib.hid (ULi.out.next hb)
              replace UO := Lib.hid (UO.out.next hb)
              replace UZ := Lib.hid (UZ.out.next hb)
              replace ULj := Lib.hid (ULj.out.next hb)
              replace UP := Lib.hid (UP.out.next hb)
              clear hb
              obtain ⟨x28, Q, ex28, eb28, hb, hk⟩ := box1 v27 #[iV p, .int .i64 ((p : Int) + (k : Int))] 26
              replace HU := Lib.hid (HU.out.next hb)
              replace US := Lib.hid (US.out.next hb)
              replace UK := Lib.hid (UK.out.next hb)
              replace ULi := Lib.hid (ULi.out.next hb)
              replace UO := Lib.hid (UO.out.next hb)
              replace UZ := Lib.hid (UZ.out.next hb)
              replace ULj := Lib.hid (ULj.out.next hb)
              replace UP := Lib.hid (UP.out.next hb)
              have UQ := Lib.hid (up_vr hk : Up x28 (VR Q #[iV p, .int .i64 ((p : Int) + (k : Int))] 26))
              clear hb hk
              have kQ0 : x28.cell? ⟨Q, 0, none⟩ = some (iV p) := row_cell UQ.out.now 0
              have kQ1 : x28.cell? ⟨Q, 1, none⟩ = some (.int .i64 ((p : Int) + (k : Int))) := row_cell UQ.out.now 1
              have kS0 : x28.cell? ⟨S, 0, none⟩ = some (.int .i64 a) := row_cell US.out.now 0
              have kS1 : x28.cell? ⟨S, 1, none⟩ = some (.int .i64 u) := row_cell US.out.now 1
              obtain ⟨x29, T, ex29, eb29, hb, hk⟩ := box1 x28 #[iV p, .int .i64 ((p : Int) + (k : Int)), .int .i64 a, .int .i64 u] 26
              replace HU := Lib.hid (HU.out.next hb)
              replace US := Lib.hid (US.out.next hb)
              replace UK := Lib.hid (UK.out.next hb)
              replace ULi := Lib.hid (ULi.out.next hb)
              replace UO := Lib.hid (UO.out.next hb)
              replace UZ := Lib.hid (UZ.out.next hb)
              replace ULj := Lib.hid (ULj.out.next hb)
              replace UP := Lib.hid (UP.out.next hb)
              replace UQ := Lib.hid (UQ.out.next hb)
              have UT := Lib.hid (up_vr hk : Up x29 (VR T #[iV p, .int .i64 ((p : Int) + (k : Int)), .int .i64 a, .int .i64 u] 26))
              clear hb hk
              go_wp2
              clear ex28 eb28 kQ0 kQ1 kS0 kS1 ex29 eb29
              clear UQ
              have ULl := Lib.hid (up_self x29)
              go_loopw [223] (fun iv wr => ∃ l : Nat, l ≤ 2 ∧ iv = iV l ∧ Below x29.heap.size x29 wr) (fun iv _ => 2 - (intOf iv).toNat)
              case atStart => exact ⟨0, by omega, rfl, Below.refl _ _⟩
              case round =>
                obtain ⟨l, hl, rfl, hB⟩ := hrel
                rename World => Wl
                have hHU := HU.out.next hB
                have hUS := US.out.next hB
                have hUK := UK.out.next hB
                have hULi := ULi.out.next hB
                have hUO := UO.out.next hB
                have hUZ := UZ.out.next hB
                have hULj := ULj.out.next hB
                have hUP := UP.out.next hB
                have hUT := UT.out.next hB
                have hULl := ULl.out.next hB
                have HU_l := HU
                replace HU := Lib.hid hHU
                clear hHU
                have US_l := US
                replace US := Lib.hid hUS
                clear hUS
                have UK_l := UK
                replace UK := Lib.hid hUK
                clear hUK
                have ULi_l := ULi
                replace ULi := Lib.hid hULi
                clear hULi
                have UO_l := UO
                replace UO := Lib.hid hUO
                clear hUO
                have UZ_l := UZ
                replace UZ := Lib.hid hUZ
                clear hUZ
                have ULj_l := ULj
                replace ULj := Lib.hid hULj
                clear hULj
                have UP_l := UP
                replace UP := Lib.hid hUP
                clear hUP
                have UT_l := UT
                replace UT := Lib.hid hUT
                clear hUT
                have ULl_l := ULl
                replace ULl := Lib.hid hULl
                clear hULl
                clear hB
                have l0 : (0 : Int) ≤ l := by omega
                by_cases hl2 : l < 2
                · skip
                  have l1 : ((l : Nat) : Int) < 2 := by omega
                  obtain ⟨ff, uu, hz0, hz1⟩ : ∃ ff uu : Int, Wl.cell? ⟨T, l * 2, none⟩ = some (.int .i64 ff) ∧ Wl.cell? ⟨T, l * 2 + 1, none⟩ = some (.int .i64 uu) := pick2 (P := fun l => ∃ ff uu : Int, Wl.cell? ⟨T, l * 2, none⟩ = some (.int .i64 ff) ∧ Wl.cell? ⟨T, l * 2 + 1, none⟩ = some (.int .i64 uu)) hl2 ⟨_, _, row_cell UT.out.now 0, row_cell UT.out.now 1⟩ ⟨_, _, row_cell UT.out.now 2, row_cell UT.out.now 3⟩
                  have C1 := fun w => track_all o ff uu zl w
                  have C2 := fun w => rtrack_all o ff uu zl w
                  obtain ⟨L, hL⟩ : ∃ L, trkA o ff uu zl = L := ⟨_, rfl⟩
                  obtain ⟨er, her⟩ : ∃ er, trkE o ff uu zl = er := ⟨_, rfl⟩
                  rw [hL, her] at C1 C2
                  have H1 := Lib.hid C1; have H2 := Lib.hid C2
                  clear C1 C2 hL her
                  obtain ⟨x30, E, ex30, eb30, hb, hk⟩ := box1 Wl #[.int .i64 ff, .int .i64 uu] 26
                  replace HU := Lib.hid (HU.out.next hb)
                  replace US := Lib.hid (US.out.next hb)
                  replace UK := Lib.hid (UK.out.next hb)
                  replace ULi := Lib.hid (ULi.out.next hb)
                  replace UO := Lib.hid (UO.out.next hb)
                  replace UZ := Lib.hid (UZ.out.next hb)
                  replace ULj := Lib.hid (ULj.out.next hb)
                  replace UP := Lib.hid (UP.out.next hb)
                  replace UT := Lib.hid (UT.out.next hb)
                  replace ULl := Lib.hid (ULl.out.next hb)
                  have UE := Lib.hid (up_vr hk : Up x30 (VR E #[.int .i64 ff, .int .i64 uu] 26))
                  clear hb hk
                  have kO0 : x30.cell? ⟨O, 0, none⟩ = some (.int .i64 o.p) := row_cell UO.out.now 0
                  have kO1 : x30.cell? ⟨O, 1, none⟩ = some (.int .i64 o.f) := row_cell UO.out.now 1
                  have kO2 : x30.cell? ⟨O, 2, none⟩ = some (.int .i64 o.lo) := row_cell UO.out.now 2
                  have kO3 : x30.cell? ⟨O, 3, none⟩ = some (.int .i64 o.hi) := row_cell UO.out.now 3
                  have kO4 : x30.cell? ⟨O, 4, none⟩ = some (.int .i64 o.nd) := row_cell UO.out.now 4
                  have kO5 : x30.cell? ⟨O, 5, none⟩ = some (.int .i64 o.tn) := row_cell UO.out.now 5
                  have kO6 : x30.cell? ⟨O, 6, none⟩ = some (.int .i64 o.sl) := row_cell UO.out.now 6
                  have kP0 : x30.cell? ⟨P, 0, none⟩ = some (.int .i64 zt) := row_cell UP.out.now 0
                  have kP1 : x30.cell? ⟨P, 1, none⟩ = some (.int .i64 zl) := row_cell UP.out.now 1
                  have kE0 : x30.cell? ⟨E, 0, none⟩ = some (.int .i64 ff) := row_cell UE.out.now 0
                  have kE1 : x30.cell? ⟨E, 1, none⟩ = some (.int .i64 uu) := row_cell UE.out.now 1
                  go_wp2_with fail
                  clear ex30 eb30 kO0 kO1 kO2 kO3 kO4 kO5 kO6 kP0 kP1 kE0 kE1 hz0 hz1
                  (with_reducible refine (H1.out _).mono ?_)
                  rintro e v31 ⟨ll, lc, rfl, hcs, hb⟩
                  replace HU := Lib.hid (HU.out.next hb)
                  replace US := Lib.hid (US.out.next hb)
                  replace UK := Lib.hid (UK.out.next hb)
                  replace ULi := Lib.hid (ULi.out.next hb)
                  replace UO := Lib.hid (UO.out.next hb)
                  replace UZ := Lib.hid (UZ.out.next hb)
                  replace ULj := Lib.hid (ULj.out.next hb)
                  replace UP := Lib.hid (UP.out.next hb)
                  replace UT := Lib.hid (UT.out.next hb)
                  replace ULl := Lib.hid (ULl.out.next hb)
                  replace UE := Lib.hid (UE.out.next hb)
                  have UL := Lib.hid (up_vc hcs)
                  clear hcs
                  clear hb
                  have kO0 : v31.cell? ⟨O, 0, none⟩ = some (.int .i64 o.p) := row_cell UO.out.now 0
                  have kO1 : v31.cell? ⟨O, 1, none⟩ = some (.int .i64 o.f) := row_cell UO.out.now 1
                  have kO2 : v31.cell? ⟨O, 2, none⟩ = some (.int .i64 o.lo) := row_cell UO.out.now 2
                  have kO3 : v31.cell? ⟨O, 3, none⟩ = some (.int .i64 o.hi) := row_cell UO.out.now 3
                  have kO4 : v31.cell? ⟨O, 4, none⟩ = some (.int .i64 o.nd) := row_cell UO.out.now 4
                  have kO5 : v31.cell? ⟨O, 5, none⟩ = some (.int .i64 o.tn) := row_cell UO.out.now 5
                  have kO6 : v31.cell? ⟨O, 6, none⟩ = some (.int .i64 o.sl) := row_cell UO.out.now 6
                  have kP0 : v31.cell? ⟨P, 0, none⟩ = some (.int .i64 zt) := row_cell UP.out.now 0
                  have kP1 : v31.cell? ⟨P, 1, none⟩ = some (.int .i64 zl) := row_cell UP.out.now 1
                  have kE0 : v31.cell? ⟨E, 0, none⟩ = some (.int .i64 ff) := row_cell UE.out.now 0
                  have kE1 : v31.cell? ⟨E, 1, none⟩ = some (.int .i64 uu) := row_cell UE.out.now 1
                  go_wp2_with fail
                  clear kO0 kO1 kO2 kO3 kO4 kO5 kO6 kP0 kP1 kE0 kE1
                  (with_reducible refine (H2.out _).mono ?_)
                  rintro e v32 ⟨ml, mc, rfl, hcs, hb⟩
                  replace HU := Lib.hid (HU.out.next hb)
                  replace US := Lib.hid (US.out.next hb)
                  replace UK := Lib.hid (UK.out.next hb)
                  replace ULi := Lib.hid (ULi.out.next hb)
                  replace UO := Lib.hid (UO.out.next hb)
                  replace UZ := Lib.hid (UZ.out.next hb)
                  replace ULj := Lib.hid (ULj.out.next hb)
                  replace UP := Lib.hid (UP.out.next hb)
                  replace UT := Lib.hid (UT.out.next hb)
                  replace ULl := Lib.hid (ULl.out.next hb)
                  replace UE := Lib.hid (UE.out.next hb)
                  replace UL := Lib.hid (UL.out.next hb)
                  have UM := Lib.hid (up_vc hcs)
                  clear hcs
                  clear hb
                  have HS2 := Lib.hid (fun (W : World) (h1 : VC ll L W) (h2 : VC ml L W) => (show Calls Try.prog 25 #[.slice ll L.length lc, .slice ml L.length mc] W (OutV W (.bool true)) from by
                    have h := same_any ll ml lc mc L L W h1 h2
                    rwa [decide_eq_true (rfl : L = L)] at h))
                  go_wp2_with fail
                  (with_reducible refine (HS2.out _ UL.out.now UM.out.now).mono ?_)
                  rintro e v33 ⟨rfl, hb⟩
                  replace HU := Lib.hid (HU.out.next hb)
                  replace US := Lib.hid (US.out.next hb)
                  replace UK := Lib.hid (UK.out.next hb)
                  replace ULi := Lib.hid (ULi.out.next hb)
                  replace UO := Lib.hid (UO.out.next hb)
                  replace UZ := Lib.hid (UZ.out.next hb)
                  replace ULj := Lib.hid (ULj.out.next hb)
                  replace UP := Lib.hid (UP.out.next hb)
                  replace UT := Lib.hid (UT.out.next hb)
                  replace ULl := Lib.hid (ULl.out.next hb)
                  replace UE := Lib.hid (UE.out.next hb)
                  replace UL := Lib.hid (UL.out.next hb)
                  replace UM := Lib.hid (UM.out.next hb)
                  clear hb
                  have HF := Lib.hid ULl.out.now
                  go_wp2
                  exact ⟨⟨l + 1, by omega, ret_i (by omega), HF.out⟩, by simp only [intOf]; omega⟩
                · skip
                  obtain rfl : l = 2 := by omega
                  have HF := Lib.hid ULj.out.now
                  go_wp2
                  exact ⟨⟨j + 1, by omega, ret_i (by omega), HF.out⟩, by simp only [intOf]; omega⟩
            · skip
              obtain rfl : j = 2 := by omega
              have HF := Lib.hid ULi.out.now
              go_wp2
              exact ⟨⟨i + 1, by omega, ret_i (by omega), HF.out⟩, by simp only [intOf]; omega⟩
        · skip
          obtain rfl : i = 2 := by omega
          go_wp2
          go_ret
          exact ⟨rfl, HU.out.now⟩
end Go.Proofs.Ytdomgielpofbhaa
