/- The reference's Could. -/
import Derived.Test.YtdomgielpofbhaaRe
namespace Go.Proofs.Ytdomgielpofbhaa
open Go.RowKit Go.Shelf Go.Maps
set_option linter.unusedSimpArgs false
set_option linter.unusedVariables false
set_option maxRecDepth 100000 in
set_option maxHeartbeats 4000000 in
theorem rcould_no (o : Orb) (t : Int) (h : askC o t = false) (w : World) : Calls Try.prog 22 #[OV o, .int .i64 t] w (OutL w [] 70) := by
  have CA := Lib.hid (fun W => rasked_any o t 0 W)
  have e : asked o t 0 = false := by
    rw [← Bool.not_eq_true] at h ⊢
    intro ha
    have := asked_iff.1 ha
    exact h (askC_iff.2 ⟨this.1, this.2.1.1, this.2.1.2⟩)
  rw [e] at CA
  obtain ⟨V, B, hV, hBn, hb, hk⟩ := box1 w (OC o) 24
  have HP := Lib.hid (show BX V B (OC o) 24 from hk)
  have HB := Lib.hid hb
  have c0 := BX.cell HP.out 0; have c1 := BX.cell HP.out 1; have c2 := BX.cell HP.out 2; have c3 := BX.cell HP.out 3; have c4 := BX.cell HP.out 4; have c5 := BX.cell HP.out 5; have c6 := BX.cell HP.out 6
  clear hb hk h e
  go_enter Try.func22, Try.ntmps22
  go_wp2_with fail
  (with_reducible refine (CA.out _).mono ?_)
  rintro e w1 ⟨rfl, hb⟩
  have HB1 := Lib.hid (below_tr HB.out hb)
  clear hb c0 c1 c2 c3 c4 c5 c6
  go_wp2
  go_ret2
  exact ⟨none, 0, rfl, ⟨rfl, by decide, .inl rfl⟩, HB1.out⟩
set_option maxRecDepth 100000 in
set_option maxHeartbeats 8000000 in
theorem rcould_yes (o : Orb) (t : Int) (h : askC o t = true) (w : World) :
    Calls Try.prog 22 #[OV o, .int .i64 t] w fun e w' => ∃ l, Could o t l ∧ OutL w l 0 e w' := by
  obtain ⟨ho, t0, t1⟩ := askC_iff.1 h
  have CA := Lib.hid (fun W => rasked_any o t 0 W)
  rw [asked_iff.2 ⟨ho, ⟨t0, t1⟩, by decide⟩] at CA
  have HO := Lib.hid ho
  obtain ⟨⟨p0, p1⟩, ⟨f0, f1⟩, ⟨lo0, lo1⟩, ⟨hi0, hi1⟩, ⟨nd0, nd1⟩, ⟨tn0, tn1⟩, ⟨sl0, sl1⟩⟩ := okO_bd ho
  obtain ⟨V, B, hV, hBn, hb, hk⟩ := box1 w (OC o) 24
  have HP := Lib.hid (show BX V B (OC o) 24 from hk)
  have HB := Lib.hid hb
  have c0 := BX.cell HP.out 0; have c1 := BX.cell HP.out 1; have c2 := BX.cell HP.out 2; have c3 := BX.cell HP.out 3; have c4 := BX.cell HP.out 4; have c5 := BX.cell HP.out 5; have c6 := BX.cell HP.out 6
  clear hb hk h ho
  go_enter Try.func22, Try.ntmps22
  go_wp2_with fail
  (with_reducible refine (CA.out _).mono ?_)
  rintro e w1 ⟨rfl, hb⟩
  have HB1 := Lib.hid (below_tr HB.out hb)
  have HP1 := Lib.hid (BX.next HP.out hb)
  have hw1 : B < w1.heap.size := BX.lt HP1.out
  clear hb c0 c1 c2 c3 c4 c5 c6 HB HP CA hV hBn
  have c6 := BX.cell HP1.out 6
  go_wp2_with fail
  clear c6
  go_loopw [6, 7] (fun v dv wr => ∃ (n : Nat) (l : List Cel), (n : Int) ≤ 2 * o.sl + 1 ∧ dv = .int .i64 ((n : Int) - o.sl) ∧ Part o t l n ∧ wr.ownsRow w1.heap.size 38 2 v l.length (cvs l) ∧ Below w1.heap.size w1 wr) (fun _ dv _ => (o.sl + 1 - intOf dv).toNat)
  case atStart => exact ⟨0, [], by omega, ret_i (by omega), part_0 _ _, World.ownsRow_nil _ _ _ _, Below.refl _ _⟩
  case round =>
    obtain ⟨n, l, hn, rfl, hPt, hO, hB⟩ := hrel
    have HPT := Lib.hid hPt; have HOW := Lib.hid hO; have HBB := Lib.hid hB
    have hl := part_le hPt
    have l3 : l.length ≤ 3000 := by omega
    clear hPt hO hB
    rename World => wr
    have n0 : (0 : Int) ≤ n := by omega
    obtain ⟨d, hd⟩ : ∃ d, (n : Int) - o.sl = d := ⟨_, rfl⟩
    have HD := Lib.hid hd
    have d0 : -o.sl ≤ d := by omega
    have d1 : d ≤ o.sl + 1 := by omega
    rw [hd]
    have hp := BX.below HP1.out HBB.out hw1
    have c0 := BX.cell hp 0; have c1 := BX.cell hp 1; have c2 := BX.cell hp 2; have c3 := BX.cell hp 3; have c4 := BX.cell hp 4; have c5 := BX.cell hp 5; have c6 := BX.cell hp 6
    clear hp
    by_cases hle : d ≤ o.sl
    · have hdd : decide (d ≤ o.sl) = true := by simpa using hle
      go_wp2_with fail
      (with_reducible refine (rat_yes o t d (asked_iff.2 ⟨HO.out, ⟨t0, t1⟩, ⟨by omega, by omega⟩⟩) _).mono ?_)
      rintro e w2 ⟨rfl, hb⟩
      have HB2 := Lib.hid (HBB.out.trans (hb.mono HBB.out.size))
      have HO2 := Lib.hid (row_keep HOW.out hb)
      obtain ⟨c, hc⟩ : ∃ c, celO o (t - d) = c := ⟨_, rfl⟩
      have HCC := Lib.hid (show celO o (t - ((n : Int) - o.sl)) = c from by rw [hd]; exact hc)
      rw [hc]
      clear hc hb c0 c1 c2 c3 c4 c5 c6 hd HOW HBB
      obtain ⟨x3, D, ex3, eb3, hbD, hkD⟩ := box1 w2 #[iV c.1.1, iV c.1.2] 38
      have HDK := Lib.hid (show BX x3 D #[iV c.1.1, iV c.1.2] 38 from hkD)
      have HB3 := Lib.hid (HB2.out.trans (hbD.mono HB2.out.size))
      have HO3 := Lib.hid (row_keep HO2.out hbD)
      have HDN := Lib.hid (show w1.heap.size ≤ D from by have := HB2.out.size; omega)
      obtain ⟨al, cp, hv, hcs⟩ := Cs.of_row HO3.out l3
      have HRB := Lib.hid (show ∀ b : Nat, al = some ⟨b, 0, none⟩ → b ≠ D from fun b hb e => by
        subst hv; subst hb
        have h1 := (HO2.out.lt b (by simp [Value.ownBlock])).2
        omega)
      subst hv
      clear hbD hkD HB2 HO2 hcs
      go_wp2_with fail
      clear ex3 eb3
      go_loopw [10] (fun kv wr => ∃ k : Nat, k ≤ l.length ∧ kv = iV k ∧ Ahead l c k ∧ BX wr D #[iV c.1.1, iV c.1.2] 38 ∧ wr.ownsRow w1.heap.size 38 2 (.slice al l.length cp) l.length (cvs l) ∧ Below w1.heap.size w1 wr) (fun kv _ => l.length - (intOf kv).toNat)
      case atStart => exact ⟨0, by omega, rfl, ahead_0 _ _, HDK.out, HO3.out, HB3.out⟩
      case round =>
        clear HDK HO3 HB3
        obtain ⟨k, hk, rfl, hA, hD, hO, hB⟩ := hrel
        have HA := Lib.hid hA; have HDK := Lib.hid hD; have HOW := Lib.hid hO; have HBB := Lib.hid hB
        clear hA hD hO hB
        rename World => wr2
        have k0 : (0 : Int) ≤ k := by omega
        have kD0 := BX.cell HDK.out 0
        have kD1 := BX.cell HDK.out 1
        by_cases hlt : k < l.length
        · obtain ⟨x, hx⟩ : ∃ x, l[k]? = some x := ⟨_, List.getElem?_eq_getElem hlt⟩
          obtain ⟨al', cp', hv, hcs⟩ := Cs.of_row HOW.out l3
          obtain ⟨rfl, rfl⟩ : al = al' ∧ cp = cp' := by simpa using hv
          obtain ⟨b, rfl, hbb, q0, q1⟩ := vc_at hcs hx
          have HX := Lib.hid hx
          have hdk : decide (k < l.length) = true := by simpa using hlt
          have k1 : (k : Int) < l.length := by omega
          clear hx hv hcs hbb
          by_cases h1 : x.1.2 < c.1.2
          · have HLT := Lib.hid (show kC x < kC c from kC_lt.2 (.inl h1))
            have g1 : decide (x.1.2 < c.1.2) = true := by simpa using h1
            have g2 : decide ((x.1.2 : Int) < (c.1.2 : Int)) = true := decide_eq_true (by omega)
            clear h1
            go_wp2_with fail
            go_quiet (fail)
            go_wp2
            exact ⟨⟨k + 1, by omega, ret_i (by omega), ahead_s HA.out HX.out HLT.out, BX.next HDK.out (below_dn nq), row_keep HOW.out (below_dn nq), HBB.out.trans ((below_dn nq).mono HBB.out.size)⟩, by simp [intOf]; omega⟩
          · have g1 : decide (x.1.2 < c.1.2) = false := by simpa using h1
            have g2 : decide ((x.1.2 : Int) < (c.1.2 : Int)) = false := decide_eq_false (by omega)
            by_cases h2 : x.1.2 = c.1.2
            · have g3 : ((x.1.2 : Int) == (c.1.2 : Int)) = true := by rw [beq_iff_eq]; omega
              by_cases h3 : x.1.1 < c.1.1
              · have HLT := Lib.hid (show kC x < kC c from kC_lt.2 (.inr ⟨h2, h3⟩))
                have g4 : decide (x.1.1 < c.1.1) = true := by simpa using h3
                have g5 : decide ((x.1.1 : Int) < (c.1.1 : Int)) = true := decide_eq_true (by omega)
                clear h1 h2 h3
                go_wp2_with fail
                go_quiet (fail)
                go_wp2
                exact ⟨⟨k + 1, by omega, ret_i (by omega), ahead_s HA.out HX.out HLT.out, BX.next HDK.out (below_dn nq), row_keep HOW.out (below_dn nq), HBB.out.trans ((below_dn nq).mono HBB.out.size)⟩, by simp [intOf]; omega⟩
              · have g4 : decide (x.1.1 < c.1.1) = false := by simpa using h3
                have g5 : decide ((x.1.1 : Int) < (c.1.1 : Int)) = false := decide_eq_false (by omega)
                have heq := run_eqK x c
                by_cases h4 : x = c
                · have hde : decide (x = c) = true := by simpa using h4
                  rw [hde] at heq
                  clear hde h1 h2 h3
                  go_wp2_with fail
                  go_quiet (fail)
                  obtain ⟨z, hz⟩ : ∃ z, wr2.drewN nq = z := ⟨_, rfl⟩
                  have hbz : Below wr2.heap.size wr2 z := by rw [← hz]; exact below_dn nq
                  have HZ := Lib.hid hbz
                  have HDZ := Lib.hid (BX.next HDK.out hbz)
                  have kz0 := BX.cell HDZ.out 0
                  have kz1 := BX.cell HDZ.out 1
                  have qz0 := (hbz.cell (p := ⟨b, k * 2, none⟩) (World.block_lt_of_cell? wr2 ⟨b, k * 2, none⟩ q0)).trans q0
                  have qz1 := (hbz.cell (p := ⟨b, k * 2 + 1, none⟩) (World.block_lt_of_cell? wr2 ⟨b, k * 2 + 1, none⟩ q1)).trans q1
                  rw [hz]
                  clear hz hbz q0 q1 kD0 kD1
                  go_wp2_with fail
                  go_quiet (fail)
                  go_wp2
                  exact ⟨⟨n + 1, l, by have := HD.out; omega, ret_i (by have := HD.out; omega), part_dup HPT.out (by rw [HCC.out, ← h4]; exact List.mem_of_getElem? HX.out), row_keep (row_keep HOW.out HZ.out) (below_dn nq), (HBB.out.trans (HZ.out.mono HBB.out.size)).trans ((below_dn nq).mono (HBB.out.trans (HZ.out.mono HBB.out.size)).size)⟩, by simp [intOf]; have := HD.out; omega⟩
                · have HGT := Lib.hid (show kC c < kC x from kC_lt.2 (.inr ⟨h2.symm, by
                    have hne : x.1.1 ≠ c.1.1 := fun e => h4 (cel_ext e h2)
                    omega⟩))
                  have hde : decide (x = c) = false := by simpa using h4
                  rw [hde] at heq
                  clear hde h1 h2 h3 h4
                  go_wp2_with fail
                  go_quiet (fail)
                  obtain ⟨z, hz⟩ : ∃ z, wr2.drewN nq = z := ⟨_, rfl⟩
                  have hbz : Below wr2.heap.size wr2 z := by rw [← hz]; exact below_dn nq
                  have HZ := Lib.hid hbz
                  have HDZ := Lib.hid (BX.next HDK.out hbz)
                  have HOZ := Lib.hid (row_keep HOW.out hbz)
                  have HBZ := Lib.hid (HBB.out.trans (hbz.mono HBB.out.size))
                  have kz0 := BX.cell HDZ.out 0
                  have kz1 := BX.cell HDZ.out 1
                  rw [hz]
                  have qz0 := (hbz.cell (p := ⟨b, k * 2, none⟩) (World.block_lt_of_cell? wr2 ⟨b, k * 2, none⟩ q0)).trans q0
                  have qz1 := (hbz.cell (p := ⟨b, k * 2 + 1, none⟩) (World.block_lt_of_cell? wr2 ⟨b, k * 2 + 1, none⟩ q1)).trans q1
                  clear hz hbz q0 q1 kD0 kD1
                  go_wp2_with fail
                  go_quiet (fail)
                  obtain ⟨y, hy⟩ : ∃ y, z.drewN nq = y := ⟨_, rfl⟩
                  have hbY : Below z.heap.size z y := by rw [← hy]; exact below_dn nq
                  have HY := Lib.hid hbY
                  have HDY := Lib.hid (BX.next HDZ.out hbY)
                  have HOY := Lib.hid (row_keep HOZ.out hbY)
                  have HBY := Lib.hid (HBZ.out.trans (hbY.mono HBZ.out.size))
                  have ky0 := BX.cell HDY.out 0
                  have ky1 := BX.cell HDY.out 1
                  rw [hy]
                  clear hy hbY kz0 kz1 qz0 qz1 HZ HDZ HOZ HBZ HDK HOW HBB heq
                  go_upto_region 14 with fail
                  obtain ⟨hcp, v1, W2, v2, W3, r1, r2, o3, b3⟩ := ins_runs y w1.heap.size 41 41 _ cp l c k (by omega) HOY.out HBY.out.size (by omega)
                  have hkc : k ≤ cp := by omega
                  have hkl : k ≤ l.length := by omega
                  simp only [Option.map_some, add0] at r1
                  have HR1 := Lib.hid r1; have HR2 := Lib.hid r2; have HO3 := Lib.hid o3; have HB3 := Lib.hid b3
                  clear r1 r2 o3 b3
                  go_region_law (first
                    | (refine step_run rfl (.tmp 87) (.tmp 90) rfl rfl rfl HR1.out ?_)
                    | (refine step_run rfl (.tmp 85) (.tmp 91) rfl rfl rfl HR2.out ?_))
                  go_wp2
                  exact ⟨⟨n + 1, insC l c k, by have := HD.out; omega, ret_i (by have := HD.out; omega), by rw [← HCC.out]; exact part_ins HPT.out (by rw [HCC.out]; exact HA.out) (fun w hw => by rw [HCC.out]; rw [HX.out] at hw; rw [← Option.some.inj hw]; exact HGT.out), HO3.out, HBY.out.trans (HB3.out.mono HBY.out.size)⟩, by simp [intOf]; have := HD.out; omega⟩
            · have g3 : ((x.1.2 : Int) == (c.1.2 : Int)) = false := by rw [beq_eq_false_iff_ne]; omega
              have HGT := Lib.hid (show kC c < kC x from kC_lt.2 (.inl (by omega)))
              have heq := run_eqK x c
              have hde : decide (x = c) = false := by
                rw [decide_eq_false_iff_not]
                rintro rfl
                exact h2 rfl
              rw [hde] at heq
              clear hde h1 h2
              go_wp2_with fail
              go_quiet (fail)
              obtain ⟨z, hz⟩ : ∃ z, wr2.drewN nq = z := ⟨_, rfl⟩
              have hbz : Below wr2.heap.size wr2 z := by rw [← hz]; exact below_dn nq
              have HZ := Lib.hid hbz
              have HDZ := Lib.hid (BX.next HDK.out hbz)
              have HOZ := Lib.hid (row_keep HOW.out hbz)
              have HBZ := Lib.hid (HBB.out.trans (hbz.mono HBB.out.size))
              have kz0 := BX.cell HDZ.out 0
              have kz1 := BX.cell HDZ.out 1
              rw [hz]
              have qz0 := (hbz.cell (p := ⟨b, k * 2, none⟩) (World.block_lt_of_cell? wr2 ⟨b, k * 2, none⟩ q0)).trans q0
              have qz1 := (hbz.cell (p := ⟨b, k * 2 + 1, none⟩) (World.block_lt_of_cell? wr2 ⟨b, k * 2 + 1, none⟩ q1)).trans q1
              clear hz hbz q0 q1 kD0 kD1
              go_wp2_with fail
              go_quiet (fail)
              obtain ⟨y, hy⟩ : ∃ y, z.drewN nq = y := ⟨_, rfl⟩
              have hbY : Below z.heap.size z y := by rw [← hy]; exact below_dn nq
              have HY := Lib.hid hbY
              have HDY := Lib.hid (BX.next HDZ.out hbY)
              have HOY := Lib.hid (row_keep HOZ.out hbY)
              have HBY := Lib.hid (HBZ.out.trans (hbY.mono HBZ.out.size))
              have ky0 := BX.cell HDY.out 0
              have ky1 := BX.cell HDY.out 1
              rw [hy]
              clear hy hbY kz0 kz1 qz0 qz1 HZ HDZ HOZ HBZ HDK HOW HBB heq
              go_upto_region 14 with fail
              obtain ⟨hcp, v1, W2, v2, W3, r1, r2, o3, b3⟩ := ins_runs y w1.heap.size 41 41 _ cp l c k (by omega) HOY.out HBY.out.size (by omega)
              have hkc : k ≤ cp := by omega
              have hkl : k ≤ l.length := by omega
              simp only [Option.map_some, add0] at r1
              have HR1 := Lib.hid r1; have HR2 := Lib.hid r2; have HO3 := Lib.hid o3; have HB3 := Lib.hid b3
              clear r1 r2 o3 b3
              go_region_law (first
                | (refine step_run rfl (.tmp 87) (.tmp 90) rfl rfl rfl HR1.out ?_)
                | (refine step_run rfl (.tmp 85) (.tmp 91) rfl rfl rfl HR2.out ?_))
              go_wp2
              exact ⟨⟨n + 1, insC l c k, by have := HD.out; omega, ret_i (by have := HD.out; omega), by rw [← HCC.out]; exact part_ins HPT.out (by rw [HCC.out]; exact HA.out) (fun w hw => by rw [HCC.out]; rw [HX.out] at hw; rw [← Option.some.inj hw]; exact HGT.out), HO3.out, HBY.out.trans (HB3.out.mono HBY.out.size)⟩, by simp [intOf]; have := HD.out; omega⟩
        · obtain rfl : k = l.length := by omega
          have hdk : decide (l.length < l.length) = false := by simp
          clear kD0 kD1
          go_wp2_with fail
          go_quiet (fail)
          obtain ⟨z, hz⟩ : ∃ z, wr2.drewN nq = z := ⟨_, rfl⟩
          have hbz : Below wr2.heap.size wr2 z := by rw [← hz]; exact below_dn nq
          have HZ := Lib.hid hbz
          have HDZ := Lib.hid (BX.next HDK.out hbz)
          have HOZ := Lib.hid (row_keep HOW.out hbz)
          have HBZ := Lib.hid (HBB.out.trans (hbz.mono HBB.out.size))
          have kz0 := BX.cell HDZ.out 0
          have kz1 := BX.cell HDZ.out 1
          rw [hz]
          clear hz hbz
          go_wp2_with fail
          go_quiet (fail)
          obtain ⟨y, hy⟩ : ∃ y, z.drewN nq = y := ⟨_, rfl⟩
          have hbY : Below z.heap.size z y := by rw [← hy]; exact below_dn nq
          have HY := Lib.hid hbY
          have HDY := Lib.hid (BX.next HDZ.out hbY)
          have HOY := Lib.hid (row_keep HOZ.out hbY)
          have HBY := Lib.hid (HBZ.out.trans (hbY.mono HBZ.out.size))
          have ky0 := BX.cell HDY.out 0
          have ky1 := BX.cell HDY.out 1
          rw [hy]
          clear hy hbY kz0 kz1 HZ HDZ HOZ HBZ HDK HOW HBB
          go_upto_region 14 with fail
          have HN3 := Lib.hid (show c ∉ l ∨ True from .inr trivial)
          obtain ⟨hcp, v1, W2, v2, W3, r1, r2, o3, b3⟩ := ins_runs y w1.heap.size 41 41 al cp l c l.length (Nat.le_refl _) HOY.out HBY.out.size (by omega)
          rw [Nat.sub_self] at r1
          have HR1 := Lib.hid r1; have HR2 := Lib.hid r2; have HO3 := Lib.hid o3; have HB3 := Lib.hid b3
          clear r1 r2 o3 b3
          go_region_law (first
            | (refine step_run rfl (.tmp 87) (.tmp 90) rfl rfl rfl HR1.out ?_)
            | (refine step_run rfl (.tmp 85) (.tmp 91) rfl rfl rfl HR2.out ?_))
          go_wp2
          exact ⟨⟨n + 1, insC l c l.length, by have := HD.out; omega, ret_i (by have := HD.out; omega), by rw [← HCC.out]; exact part_ins HPT.out (by rw [HCC.out]; exact HA.out) (fun x hx => by rw [List.getElem?_eq_none (Nat.le_refl _)] at hx; cases hx), HO3.out, HBY.out.trans (HB3.out.mono HBY.out.size)⟩, by simp [intOf]; have := HD.out; omega⟩
    · have hdd : decide (d ≤ o.sl) = false := by simpa using hle
      have HF := Lib.hid (part_done HO.out HPT.out (by omega))
      obtain ⟨al, cp, rfl, hcs⟩ := Cs.of_row HOW.out l3
      go_wp2
      go_ret2
      exact ⟨l, HF.out, al, cp, rfl, hcs, below_tr HB1.out HBB.out⟩
end Go.Proofs.Ytdomgielpofbhaa
