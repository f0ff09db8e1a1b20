/- The walk of RationalMatchesReference. -/
import Derived.BigQuiet
import Derived.Test.YtcjcafekacceiaaGreatDoorSa
import Derived.Test.YtcjcafekacceiaaGreatDoorMa
namespace Go.Proofs.YtcjcafekacceiaaGreatDoor
open Go.RowKit
set_option linter.unusedVariables false
set_option linter.unusedSimpArgs false

theorem mai (n k : Nat) (h : k ≤ n) (z : Int) (hz : z = (k : Int)) : Mai n (.int .i64 z) := ⟨k, h, by rw [hz]⟩
theorem Mai.two {iv : Value} (h : Mai 2 iv) : iv = .int .i64 0 ∨ iv = .int .i64 1 ∨ iv = .int .i64 2 := by
  obtain ⟨k, hk, rfl⟩ := h
  have : k = 0 ∨ k = 1 ∨ k = 2 := by omega
  rcases this with rfl | rfl | rfl
  · exact .inl rfl
  · exact .inr (.inl rfl)
  · exact .inr (.inr rfl)
def Sl0 (V : World) (a b : Int) (sl sn si : Value) (wx : World) : Prop :=
  ∃ g T, sl = .slice (some ⟨g, 0, none⟩) 2 2 ∧ sn = .int .i64 2 ∧ si = .int .i64 0 ∧ V.heap.size ≤ g ∧ wx.heap[g]? = some (.cells #[.int .i64 a, .int .i64 b] T) ∧ Below V.heap.size V wx
set_option maxRecDepth 100000 in
set_option maxHeartbeats 16000000 in
theorem match_walk (xa xb ya yb : ByteArray) (hxa : xa.size ≤ 9223372036854775807) (hxb : xb.size ≤ 9223372036854775807) (hya : ya.size ≤ 9223372036854775807) (hyb : yb.size ≤ 9223372036854775807) (l0 l1 l2 l3 m0 m1 m2 m3 s0 s1 n d pl : Int) (bl0 : (-9223372036854775808 ≤ l0 ∧ l0 ≤ 9223372036854775807)) (bl1 : (-9223372036854775808 ≤ l1 ∧ l1 ≤ 9223372036854775807)) (bl2 : (-9223372036854775808 ≤ l2 ∧ l2 ≤ 9223372036854775807)) (bl3 : (-9223372036854775808 ≤ l3 ∧ l3 ≤ 9223372036854775807)) (bm0 : (-9223372036854775808 ≤ m0 ∧ m0 ≤ 9223372036854775807)) (bm1 : (-9223372036854775808 ≤ m1 ∧ m1 ≤ 9223372036854775807)) (bm2 : (-9223372036854775808 ≤ m2 ∧ m2 ≤ 9223372036854775807)) (bm3 : (-9223372036854775808 ≤ m3 ∧ m3 ≤ 9223372036854775807)) (bs0 : (-9223372036854775808 ≤ s0 ∧ s0 ≤ 9223372036854775807)) (bs1 : (-9223372036854775808 ≤ s1 ∧ s1 ≤ 9223372036854775807)) (bn : (-9223372036854775808 ≤ n ∧ n ≤ 9223372036854775807)) (bd : (-9223372036854775808 ≤ d ∧ d ≤ 9223372036854775807)) (bpl : (-9223372036854775808 ≤ pl ∧ pl ≤ 9223372036854775807)) (w : World) (ht : Tb w) :
    Calls Tryz.prog 3 #[.agg #[.string xa, .string xb], .agg #[.string ya, .string yb], .agg #[.int .i64 l0, .int .i64 l1, .int .i64 l2, .int .i64 l3], .agg #[.int .i64 m0, .int .i64 m1, .int .i64 m2, .int .i64 m3], .agg #[.int .i64 s0, .int .i64 s1], .int .i64 n, .int .i64 d, .int .i64 pl] w (BOut w true) := by
  obtain ⟨W0, hW0⟩ : ∃ V, ((((w.alloc (.cells #[.string xa, .string xb] 23)).alloc (.cells #[.string ya, .string yb] 23)).alloc (.cells #[.int .i64 l0, .int .i64 l1, .int .i64 l2, .int .i64 l3] 24)).alloc (.cells #[.int .i64 m0, .int .i64 m1, .int .i64 m2, .int .i64 m3] 24)).alloc (.cells #[.int .i64 s0, .int .i64 s1] 25) = V := ⟨_, rfl⟩
  have B0 := Lib.hid (show Below w.heap.size w W0 from by rw [← hW0]; exact (((((Below.refl w.heap.size w).alloc (Nat.le_refl _) _).alloc (by simp <;> omega) _).alloc (by simp <;> omega) _).alloc (by simp <;> omega) _).alloc (by simp <;> omega) _)
  have KX := Lib.hid (show W0.heap[w.heap.size]? = some (.cells #[.string xa, .string xb] 23) from by rw [← hW0]; exact (Below.heap_alloc _ _ _ (by simp <;> omega)).trans ((Below.heap_alloc _ _ _ (by simp <;> omega)).trans ((Below.heap_alloc _ _ _ (by simp <;> omega)).trans ((Below.heap_alloc _ _ _ (by simp <;> omega)).trans (heap_new' _ _ _ rfl)))))
  have KY := Lib.hid (show W0.heap[w.heap.size + 1]? = some (.cells #[.string ya, .string yb] 23) from by rw [← hW0]; exact (Below.heap_alloc _ _ _ (by simp <;> omega)).trans ((Below.heap_alloc _ _ _ (by simp <;> omega)).trans ((Below.heap_alloc _ _ _ (by simp <;> omega)).trans (heap_new' _ _ _ (by simp)))))
  have KL := Lib.hid (show W0.heap[w.heap.size + 2]? = some (.cells #[.int .i64 l0, .int .i64 l1, .int .i64 l2, .int .i64 l3] 24) from by rw [← hW0]; exact (Below.heap_alloc _ _ _ (by simp <;> omega)).trans ((Below.heap_alloc _ _ _ (by simp <;> omega)).trans (heap_new' _ _ _ (by simp))))
  have KM := Lib.hid (show W0.heap[w.heap.size + 3]? = some (.cells #[.int .i64 m0, .int .i64 m1, .int .i64 m2, .int .i64 m3] 24) from by rw [← hW0]; exact (Below.heap_alloc _ _ _ (by simp <;> omega)).trans (heap_new' _ _ _ (by simp)))
  have KU := Lib.hid (show W0.heap[w.heap.size + 4]? = some (.cells #[.int .i64 s0, .int .i64 s1] 25) from by rw [← hW0]; exact heap_new' _ _ _ (by simp))
  have HT := Lib.hid (fun W (hW : Below w.heap.size w W) => ht.below hW)
  have CS := Lib.hid (fun W (hW : Below w.heap.size w W) => sane_any W (HT.out W hW))
  clear ht
  have CL := Lib.hid (fun W => (long_any l0 l1 l2 l3 bl0 bl1 bl2 bl3 W).mono (fun e W' h => sz_fr (by decide) h))
  have CM := Lib.hid (fun W => (long_any m0 m1 m2 m3 bm0 bm1 bm2 bm3 W).mono (fun e W' h => sz_fr (by decide) h))
  have CSm := Lib.hid (fun W => (small_any s0 s1 bs0.1 bs0.2 bs1.1 bs1.2 W).mono (fun e W' h => sz_fr (by decide) h))
  have CX := Lib.hid (fun W => cut_any xa xb W hxa hxb)
  have CY := Lib.hid (fun W => cut_any ya yb W hya hyb)
  have ZX := Lib.hid (show Sz (cutS xa, cutS xb) from ⟨cutS_size _, cutS_size _⟩)
  have ZY := Lib.hid (show Sz (cutS ya, cutS yb) from ⟨cutS_size _, cutS_size _⟩)
  have ZC2 := Lib.hid (cutS_size xb)
  have BN := Lib.hid (And.intro bn bd); have BP := Lib.hid bpl
  clear bl0 bl1 bl2 bl3 bm0 bm1 bm2 bm3 bs0 bs1 bn bd bpl hxa hxb hya hyb
  generalize cutS xa = c1 at *
  generalize cutS xb = c2 at *
  generalize cutS ya = c3 at *
  generalize cutS yb = c4 at *
  go_enter Tryz.func3, Tryz.ntmps3
  go_wp2_with fail
  (with_reducible refine (CS.out _ B0.out).mono ?_)
  rintro e w1 ⟨rfl, hb⟩
  replace B0 := Lib.hid (below1 B0.out hb)
  replace KX := Lib.hid (bl_up KX.out hb)
  replace KY := Lib.hid (bl_up KY.out hb)
  replace KL := Lib.hid (bl_up KL.out hb)
  replace KM := Lib.hid (bl_up KM.out hb)
  replace KU := Lib.hid (bl_up KU.out hb)
  clear hb
  clear hW0 CS
  have fX_0 := (cell_at KX.out 0).trans (show _ = some (Value.string xa) from rfl)
  have fX_1 := (cell_at KX.out 1).trans (show _ = some (Value.string xb) from rfl)
  go_wp2_with fail
  (with_reducible refine (CX.out _).mono ?_)
  rintro e w2 ⟨rfl, hb⟩
  replace B0 := Lib.hid (below1 B0.out hb)
  replace KX := Lib.hid (bl_up KX.out hb)
  replace KY := Lib.hid (bl_up KY.out hb)
  replace KL := Lib.hid (bl_up KL.out hb)
  replace KM := Lib.hid (bl_up KM.out hb)
  replace KU := Lib.hid (bl_up KU.out hb)
  clear hb
  clear fX_0 fX_1
  have fX_0 := (cell_at KX.out 0).trans (show _ = some (Value.string xa) from rfl)
  have fX_1 := (cell_at KX.out 1).trans (show _ = some (Value.string xb) from rfl)
  have zX_0 := froz_at KX.out 0
  have zX_1 := froz_at KX.out 1
  obtain ⟨Z1, hZ1⟩ : ∃ V, (w2.setCell ⟨w.heap.size, 0, none⟩ (.string c1)).setCell ⟨w.heap.size, 1, none⟩ (.string c2) = V := ⟨_, rfl⟩
  replace B0 := Lib.hid (show Below w.heap.size w Z1 from by rw [← hZ1]; exact put2_below B0.out (by omega) _ _)
  replace KX := Lib.hid (show Z1.heap[w.heap.size]? = some (.cells #[.string c1, .string c2] 23) from by rw [← hZ1]; exact put2_heap KX.out _ _)
  replace KY := Lib.hid (show Z1.heap[w.heap.size + 1]? = some (.cells #[.string ya, .string yb] 23) from by rw [← hZ1]; exact set_far (set_far KY.out (by omega) _) (by omega) _)
  replace KL := Lib.hid (show Z1.heap[w.heap.size + 2]? = some (.cells #[.int .i64 l0, .int .i64 l1, .int .i64 l2, .int .i64 l3] 24) from by rw [← hZ1]; exact set_far (set_far KL.out (by omega) _) (by omega) _)
  replace KM := Lib.hid (show Z1.heap[w.heap.size + 3]? = some (.cells #[.int .i64 m0, .int .i64 m1, .int .i64 m2, .int .i64 m3] 24) from by rw [← hZ1]; exact set_far (set_far KM.out (by omega) _) (by omega) _)
  replace KU := Lib.hid (show Z1.heap[w.heap.size + 4]? = some (.cells #[.int .i64 s0, .int .i64 s1] 25) from by rw [← hZ1]; exact set_far (set_far KU.out (by omega) _) (by omega) _)
  go_upto_region 3 with fail
  clear hZ1
  clear fX_0 fX_1 zX_0 zX_1
  have fY_0 := (cell_at KY.out 0).trans (show _ = some (Value.string ya) from rfl)
  have fY_1 := (cell_at KY.out 1).trans (show _ = some (Value.string yb) from rfl)
  go_wp2_with fail
  (with_reducible refine (CY.out _).mono ?_)
  rintro e w3 ⟨rfl, hb⟩
  replace B0 := Lib.hid (below1 B0.out hb)
  replace KX := Lib.hid (bl_up KX.out hb)
  replace KY := Lib.hid (bl_up KY.out hb)
  replace KL := Lib.hid (bl_up KL.out hb)
  replace KM := Lib.hid (bl_up KM.out hb)
  replace KU := Lib.hid (bl_up KU.out hb)
  clear hb
  clear fY_0 fY_1
  have fY_0 := (cell_at KY.out 0).trans (show _ = some (Value.string ya) from rfl)
  have fY_1 := (cell_at KY.out 1).trans (show _ = some (Value.string yb) from rfl)
  have zY_0 := froz_at KY.out 0
  have zY_1 := froz_at KY.out 1
  obtain ⟨Z2, hZ2⟩ : ∃ V, (w3.setCell ⟨w.heap.size + 1, 0, none⟩ (.string c3)).setCell ⟨w.heap.size + 1, 1, none⟩ (.string c4) = V := ⟨_, rfl⟩
  replace B0 := Lib.hid (show Below w.heap.size w Z2 from by rw [← hZ2]; exact put2_below B0.out (by omega) _ _)
  replace KX := Lib.hid (show Z2.heap[w.heap.size]? = some (.cells #[.string c1, .string c2] 23) from by rw [← hZ2]; exact set_far (set_far KX.out (by omega) _) (by omega) _)
  replace KY := Lib.hid (show Z2.heap[w.heap.size + 1]? = some (.cells #[.string c3, .string c4] 23) from by rw [← hZ2]; exact put2_heap KY.out _ _)
  replace KL := Lib.hid (show Z2.heap[w.heap.size + 2]? = some (.cells #[.int .i64 l0, .int .i64 l1, .int .i64 l2, .int .i64 l3] 24) from by rw [← hZ2]; exact set_far (set_far KL.out (by omega) _) (by omega) _)
  replace KM := Lib.hid (show Z2.heap[w.heap.size + 3]? = some (.cells #[.int .i64 m0, .int .i64 m1, .int .i64 m2, .int .i64 m3] 24) from by rw [← hZ2]; exact set_far (set_far KM.out (by omega) _) (by omega) _)
  replace KU := Lib.hid (show Z2.heap[w.heap.size + 4]? = some (.cells #[.int .i64 s0, .int .i64 s1] 25) from by rw [← hZ2]; exact set_far (set_far KU.out (by omega) _) (by omega) _)
  go_upto_region 4 with fail
  clear hZ2
  clear fY_0 fY_1 zY_0 zY_1
  clear CX CY
  obtain ⟨gU, hgU⟩ : ∃ g, w.heap.size + 1 + 1 + 1 + 1 = g := ⟨_, rfl⟩
  rw [hgU]
  rw [show w.heap.size + 4 = gU from hgU] at KU
  clear hgU
  obtain ⟨gM, hgM⟩ : ∃ g, w.heap.size + 1 + 1 + 1 = g := ⟨_, rfl⟩
  rw [hgM]
  rw [show w.heap.size + 3 = gM from hgM] at KM
  clear hgM
  obtain ⟨gL, hgL⟩ : ∃ g, w.heap.size + 1 + 1 = g := ⟨_, rfl⟩
  rw [hgL]
  rw [show w.heap.size + 2 = gL from hgL] at KL
  clear hgL
  obtain ⟨gY, hgY⟩ : ∃ g, w.heap.size + 1 = g := ⟨_, rfl⟩
  rw [hgY]
  rw [show w.heap.size + 1 = gY from hgY] at KY
  clear hgY
  have hB : Below Z2.heap.size Z2 Z2.drew := (Below.refl _ _).drew
  have fX_0 := (cell_at KX.out 0).trans (show _ = some (Value.string c1) from rfl)
  have fX_1 := (cell_at KX.out 1).trans (show _ = some (Value.string c2) from rfl)
  have ltX := (Array.getElem?_eq_some_iff.1 KX.out).1
  have fY_0 := (cell_at KY.out 0).trans (show _ = some (Value.string c3) from rfl)
  have fY_1 := (cell_at KY.out 1).trans (show _ = some (Value.string c4) from rfl)
  have ltY := (Array.getElem?_eq_some_iff.1 KY.out).1
  have fL_0 := (cell_at KL.out 0).trans (show _ = some (Value.int .i64 l0) from rfl)
  have fL_1 := (cell_at KL.out 1).trans (show _ = some (Value.int .i64 l1) from rfl)
  have fL_2 := (cell_at KL.out 2).trans (show _ = some (Value.int .i64 l2) from rfl)
  have fL_3 := (cell_at KL.out 3).trans (show _ = some (Value.int .i64 l3) from rfl)
  have ltL := (Array.getElem?_eq_some_iff.1 KL.out).1
  have fM_0 := (cell_at KM.out 0).trans (show _ = some (Value.int .i64 m0) from rfl)
  have fM_1 := (cell_at KM.out 1).trans (show _ = some (Value.int .i64 m1) from rfl)
  have fM_2 := (cell_at KM.out 2).trans (show _ = some (Value.int .i64 m2) from rfl)
  have fM_3 := (cell_at KM.out 3).trans (show _ = some (Value.int .i64 m3) from rfl)
  have ltM := (Array.getElem?_eq_some_iff.1 KM.out).1
  have fU_0 := (cell_at KU.out 0).trans (show _ = some (Value.int .i64 s0) from rfl)
  have fU_1 := (cell_at KU.out 1).trans (show _ = some (Value.int .i64 s1) from rfl)
  have ltU := (Array.getElem?_eq_some_iff.1 KU.out).1
  go_cut [18] (fun sv wx => Sl5 Z2 c1 c2 c3 c4 sv wx)
  case first =>
    focus
      clear HT BN BP ZX ZY ZC2 B0 KX KY KL KM KU
      refine held_open fun Q' HQ => ?_
      go_region_held3 (fun w' => ∀ b o, b < Z2.heap.size → w'.cell? ⟨b, o, none⟩ = Z2.cell? ⟨b, o, none⟩)
        (first
          | exact fun b o h => hB.cell (p := ⟨b, o, none⟩) h
          | exact fun b o h => (hB.alloc hB.size _).cell (p := ⟨b, o, none⟩) h
          | go_keep)
        (first
          | (go_at_call 13; (with_reducible refine (CL.out _).mono ?_); rintro e wi ⟨a, b, hz, rfl, hb⟩; replace hB := hB.trans (hb.mono hB.size))
          | (go_at_call 13; (with_reducible refine (CM.out _).mono ?_); rintro e wi ⟨a, b, hz, rfl, hb⟩; replace hB := hB.trans (hb.mono hB.size))
          | (go_at_call 14; (with_reducible refine (CSm.out _).mono ?_); rintro e wi ⟨a, b, hz, rfl, hb⟩; replace hB := hB.trans (hb.mono hB.size)))
      all_goals
        refine HQ.out _ _ ?_
        clear HQ
        go_wp2_with fail
        go_meet
        exact ⟨_, rfl, hB.size, hB.alloc hB.size _, _, _, _, _, _, _, _, heap_new' _ _ _ rfl, by assumption, by assumption, by assumption⟩
  case rest =>
    obtain ⟨g, rfl, hge, hb, HIX, HI0⟩ := sl5_at hcut ZX.out ZY.out
    clear fX_0 fX_1 ltX fY_0 fY_1 ltY fL_0 fL_1 fL_2 fL_3 ltL fM_0 fM_1 fM_2 fM_3 ltM fU_0 fU_1 ltU
    clear hB CL CM CSm KX KY KL KM KU ZX ZY hge hcut
    replace B0 := Lib.hid (below1 B0.out hb)
    clear hb
    have GIX := Lib.hid HIX; have GI0 := Lib.hid HI0
    have HB := Lib.hid (Below.refl wc.heap.size wc)
    clear HIX HI0
    go_wp2
    go_loopw [19] (fun iv wr => Mai 5 iv ∧ Below wc.heap.size wc wr) (fun iv _ => (5 - intOf iv).toNat)
    case atStart => exact ⟨mai 5 0 (by decide) 0 rfl, HB.out⟩
    case round =>
      clear HB
      rename World => w1
      obtain ⟨⟨i, hi5, rfl⟩, hB0⟩ := hrel
      have HB := Lib.hid hB0
      clear hB0
      by_cases hi : i < 5
      ·
        as_aux_lemma =>
          obtain ⟨p, hpz, hpc⟩ := GIX.out i hi
          obtain ⟨pa, pb⟩ := p
          simp only at hpc
          have HPZ := Lib.hid hpz; have HPC := Lib.hid hpc
          clear hpz hpc
          have i0 : (0 : Int) ≤ (i : Int) := by omega
          have i5 : (i : Int) < 5 := by omega
          have HI := Lib.hid hi
          clear hi hi5
          replace B0 := Lib.hid (below1 B0.out HB.out)
          have HB2 := Lib.hid (Below.refl w1.heap.size w1)
          go_wp2
          go_loopw [20] (fun kv wq => Mai 5 kv ∧ Below w1.heap.size w1 wq) (fun kv _ => (5 - intOf kv).toNat)
          case atStart => exact ⟨mai 5 0 (by decide) 0 rfl, HB2.out⟩
          case round =>
            clear HB2
            rename World => wq
            obtain ⟨⟨k, hk5, rfl⟩, hB0⟩ := hrel
            have HB2 := Lib.hid hB0
            clear hB0
            by_cases hk : k < 5
            ·
              as_aux_lemma =>
                obtain ⟨q, hqz, hqc⟩ := GIX.out k hk
                obtain ⟨qa, qb⟩ := q
                simp only at hqc
                have HQC := Lib.hid hqc
                have k0 : (0 : Int) ≤ (k : Int) := by omega
                have k5 : (k : Int) < 5 := by omega
                have HK := Lib.hid hk
                replace B0 := Lib.hid (below1 B0.out HB2.out)
                replace HB := Lib.hid (below1 HB.out HB2.out)
                obtain ⟨n1, d1, n2, d2, n3, d3, n4, d4, e1, e2, e3, e4, z, hf, ha, hs, hm, hd, hc, hrc⟩ := ma_pair HT.out (pa, pb) (qa, qb) HPZ.out hqz
                simp only at hf ha hs hm hd hc hrc
                have CF := Lib.hid hf; have CA := Lib.hid ha; have CB := Lib.hid hs; have CC := Lib.hid hm; have CD := Lib.hid hd; have CE := Lib.hid hc; have CG := Lib.hid hrc
                clear hf ha hs hm hd hc hrc hqz hqc hk hk5 HPZ HT BN BP GIX GI0
                obtain ⟨f1, f2⟩ := HPC.out _ HB.out
                go_upto_region 12 with fail
                clear f1 f2
                have hA := (Below.refl wq.heap.size wq).alloc (Nat.le_refl _) (.cells #[.string pa, .string pb] 23)
                replace B0 := Lib.hid (below1 B0.out hA)
                replace HB := Lib.hid (below1 HB.out hA)
                replace HB2 := Lib.hid (below1 HB2.out hA)
                have Ka := Lib.hid (heap_new' wq (.cells #[.string pa, .string pb] 23) wq.heap.size rfl)
                clear hA
                obtain ⟨wa, hwa⟩ : ∃ V, (wq.alloc (.cells #[.string pa, .string pb] 23)) = V := ⟨_, rfl⟩
                rw [hwa] at B0 ⊢
                rw [hwa] at Ka
                rw [hwa] at HB
                rw [hwa] at HB2
                clear hwa
                obtain ⟨f1, f2⟩ := HQC.out _ HB.out
                go_upto_region 13 with fail
                clear f1 f2
                have hA := (Below.refl wa.heap.size wa).alloc (Nat.le_refl _) (.cells #[.string qa, .string qb] 23)
                replace B0 := Lib.hid (below1 B0.out hA)
                replace HB := Lib.hid (below1 HB.out hA)
                replace HB2 := Lib.hid (below1 HB2.out hA)
                have Kb := Lib.hid (heap_new' wa (.cells #[.string qa, .string qb] 23) wa.heap.size rfl)
                replace Ka := Lib.hid (bl_up Ka.out hA)
                clear hA
                obtain ⟨wb, hwb⟩ : ∃ V, (wa.alloc (.cells #[.string qa, .string qb] 23)) = V := ⟨_, rfl⟩
                rw [hwb] at B0 ⊢
                rw [hwb] at Ka
                rw [hwb] at Kb
                rw [hwb] at HB
                rw [hwb] at HB2
                clear hwb
                have fa_0 := (cell_at Ka.out 0).trans (show _ = some (Value.string pa) from rfl)
                have fa_1 := (cell_at Ka.out 1).trans (show _ = some (Value.string pb) from rfl)
                have fb_0 := (cell_at Kb.out 0).trans (show _ = some (Value.string qa) from rfl)
                have fb_1 := (cell_at Kb.out 1).trans (show _ = some (Value.string qb) from rfl)
                go_wp2_with fail
                (with_reducible refine (CF.out _ B0.out).mono ?_)
                rintro e w11 ⟨rfl, hb⟩
                replace B0 := Lib.hid (below1 B0.out hb)
                replace HB := Lib.hid (below1 HB.out hb)
                replace HB2 := Lib.hid (below1 HB2.out hb)
                replace Ka := Lib.hid (bl_up Ka.out hb)
                replace Kb := Lib.hid (bl_up Kb.out hb)
                clear hb
                clear fa_0 fa_1 fb_0 fb_1
                go_upto_region 14 with fail
                have hA := (Below.refl w11.heap.size w11).alloc (Nat.le_refl _) (.cells #[.string n1, .string d1, .string n2, .string d2, .string n3, .string d3, .string n4, .string d4] 31)
                replace B0 := Lib.hid (below1 B0.out hA)
                replace HB := Lib.hid (below1 HB.out hA)
                replace HB2 := Lib.hid (below1 HB2.out hA)
                have Kr := Lib.hid (heap_new' w11 (.cells #[.string n1, .string d1, .string n2, .string d2, .string n3, .string d3, .string n4, .string d4] 31) w11.heap.size rfl)
                replace Ka := Lib.hid (bl_up Ka.out hA)
                replace Kb := Lib.hid (bl_up Kb.out hA)
                clear hA
                have hA := (Below.refl (w11.alloc (.cells #[.string n1, .string d1, .string n2, .string d2, .string n3, .string d3, .string n4, .string d4] 31)).heap.size (w11.alloc (.cells #[.string n1, .string d1, .string n2, .string d2, .string n3, .string d3, .string n4, .string d4] 31))).alloc (Nat.le_refl _) (.cells #[.int .i64 e1, .int .i64 e2, .int .i64 e3, .int .i64 e4] 33)
                replace B0 := Lib.hid (below1 B0.out hA)
                replace HB := Lib.hid (below1 HB.out hA)
                replace HB2 := Lib.hid (below1 HB2.out hA)
                have Ke := Lib.hid (heap_new' (w11.alloc (.cells #[.string n1, .string d1, .string n2, .string d2, .string n3, .string d3, .string n4, .string d4] 31)) (.cells #[.int .i64 e1, .int .i64 e2, .int .i64 e3, .int .i64 e4] 33) (w11.alloc (.cells #[.string n1, .string d1, .string n2, .string d2, .string n3, .string d3, .string n4, .string d4] 31)).heap.size rfl)
                replace Ka := Lib.hid (bl_up Ka.out hA)
                replace Kb := Lib.hid (bl_up Kb.out hA)
                replace Kr := Lib.hid (bl_up Kr.out hA)
                clear hA
                replace Ke := Lib.hid (show ((w11.alloc (.cells #[.string n1, .string d1, .string n2, .string d2, .string n3, .string d3, .string n4, .string d4] 31)).alloc (.cells #[.int .i64 e1, .int .i64 e2, .int .i64 e3, .int .i64 e4] 33)).heap[w11.heap.size + 1]? = some (.cells #[.int .i64 e1, .int .i64 e2, .int .i64 e3, .int .i64 e4] 33) from heap_new' _ _ _ (by simp))
                obtain ⟨wc4, hwc4⟩ : ∃ V, ((w11.alloc (.cells #[.string n1, .string d1, .string n2, .string d2, .string n3, .string d3, .string n4, .string d4] 31)).alloc (.cells #[.int .i64 e1, .int .i64 e2, .int .i64 e3, .int .i64 e4] 33)) = V := ⟨_, rfl⟩
                rw [hwc4] at B0 ⊢
                rw [hwc4] at Ka
                rw [hwc4] at Kb
                rw [hwc4] at Kr
                rw [hwc4] at Ke
                rw [hwc4] at HB
                rw [hwc4] at HB2
                clear hwc4
                obtain ⟨ge, hge⟩ : ∃ g, w11.heap.size + 1 = g := ⟨_, rfl⟩
                rw [hge] at Ke ⊢
                clear hge
                go_upto_region 15 with fail
                have Gt := Lib.hid (show wq.heap.size < wc4.heap.size ∧ wa.heap.size < wc4.heap.size ∧ w11.heap.size < wc4.heap.size ∧ ge < wc4.heap.size ∧ w.heap.size ≤ wc4.heap.size ∧ wc.heap.size ≤ wc4.heap.size ∧ w1.heap.size ≤ wc4.heap.size from ⟨(Array.getElem?_eq_some_iff.1 Ka.out).1, (Array.getElem?_eq_some_iff.1 Kb.out).1, (Array.getElem?_eq_some_iff.1 Kr.out).1, (Array.getElem?_eq_some_iff.1 Ke.out).1, B0.out.size, HB.out.size, HB2.out.size⟩)
                have hA := (Below.refl wc4.heap.size wc4).alloc (Nat.le_refl _) (.cells #[.string ⟨#[]⟩, .string ⟨#[]⟩, .string ⟨#[]⟩, .string ⟨#[]⟩, .string ⟨#[]⟩, .string ⟨#[]⟩, .string ⟨#[]⟩, .string ⟨#[]⟩] 31)
                replace B0 := Lib.hid (below1 B0.out hA)
                replace HB := Lib.hid (below1 HB.out hA)
                replace HB2 := Lib.hid (below1 HB2.out hA)
                have Kt := Lib.hid (heap_new' wc4 (.cells #[.string ⟨#[]⟩, .string ⟨#[]⟩, .string ⟨#[]⟩, .string ⟨#[]⟩, .string ⟨#[]⟩, .string ⟨#[]⟩, .string ⟨#[]⟩, .string ⟨#[]⟩] 31) wc4.heap.size rfl)
                replace Ka := Lib.hid (bl_up Ka.out hA)
                replace Kb := Lib.hid (bl_up Kb.out hA)
                replace Kr := Lib.hid (bl_up Kr.out hA)
                replace Ke := Lib.hid (bl_up Ke.out hA)
                clear hA
                obtain ⟨wt, hwt⟩ : ∃ V, (wc4.alloc (.cells #[.string ⟨#[]⟩, .string ⟨#[]⟩, .string ⟨#[]⟩, .string ⟨#[]⟩, .string ⟨#[]⟩, .string ⟨#[]⟩, .string ⟨#[]⟩, .string ⟨#[]⟩] 31)) = V := ⟨_, rfl⟩
                rw [hwt] at B0 ⊢
                rw [hwt] at Ka
                rw [hwt] at Kb
                rw [hwt] at Kr
                rw [hwt] at Ke
                rw [hwt] at Kt
                rw [hwt] at HB
                rw [hwt] at HB2
                clear hwt
                go_upto_region 16 with fail
                have Gf := Lib.hid (show wq.heap.size < wt.heap.size ∧ wa.heap.size < wt.heap.size ∧ w11.heap.size < wt.heap.size ∧ ge < wt.heap.size ∧ wc4.heap.size < wt.heap.size ∧ w.heap.size ≤ wt.heap.size ∧ wc.heap.size ≤ wt.heap.size ∧ w1.heap.size ≤ wt.heap.size from ⟨(Array.getElem?_eq_some_iff.1 Ka.out).1, (Array.getElem?_eq_some_iff.1 Kb.out).1, (Array.getElem?_eq_some_iff.1 Kr.out).1, (Array.getElem?_eq_some_iff.1 Ke.out).1, (Array.getElem?_eq_some_iff.1 Kt.out).1, B0.out.size, HB.out.size, HB2.out.size⟩)
                have hA := (Below.refl wt.heap.size wt).alloc (Nat.le_refl _) (.cells #[.int .i64 0, .int .i64 0, .int .i64 0, .int .i64 0] 33)
                replace B0 := Lib.hid (below1 B0.out hA)
                replace HB := Lib.hid (below1 HB.out hA)
                replace HB2 := Lib.hid (below1 HB2.out hA)
                have Kf := Lib.hid (heap_new' wt (.cells #[.int .i64 0, .int .i64 0, .int .i64 0, .int .i64 0] 33) wt.heap.size rfl)
                replace Ka := Lib.hid (bl_up Ka.out hA)
                replace Kb := Lib.hid (bl_up Kb.out hA)
                replace Kr := Lib.hid (bl_up Kr.out hA)
                replace Ke := Lib.hid (bl_up Ke.out hA)
                replace Kt := Lib.hid (bl_up Kt.out hA)
                clear hA
                obtain ⟨wf, hwf⟩ : ∃ V, (wt.alloc (.cells #[.int .i64 0, .int .i64 0, .int .i64 0, .int .i64 0] 33)) = V := ⟨_, rfl⟩
                rw [hwf] at B0 ⊢
                rw [hwf] at Ka
                rw [hwf] at Kb
                rw [hwf] at Kr
                rw [hwf] at Ke
                rw [hwf] at Kt
                rw [hwf] at Kf
                rw [hwf] at HB
                rw [hwf] at HB2
                clear hwf
                have GP := Lib.hid (And.intro Gt.out Gf.out)
                clear Gt Gf
                have fa_0 := (cell_at Ka.out 0).trans (show _ = some (Value.string pa) from rfl)
                have fa_1 := (cell_at Ka.out 1).trans (show _ = some (Value.string pb) from rfl)
                have fb_0 := (cell_at Kb.out 0).trans (show _ = some (Value.string qa) from rfl)
                have fb_1 := (cell_at Kb.out 1).trans (show _ = some (Value.string qb) from rfl)
                go_wp2_with fail
                (with_reducible refine (CA.out _).mono ?_)
                rintro e w12 ⟨rfl, hb⟩
                replace B0 := Lib.hid (below1 B0.out hb)
                replace HB := Lib.hid (below1 HB.out hb)
                replace HB2 := Lib.hid (below1 HB2.out hb)
                replace Ka := Lib.hid (bl_up Ka.out hb)
                replace Kb := Lib.hid (bl_up Kb.out hb)
                replace Kr := Lib.hid (bl_up Kr.out hb)
                replace Ke := Lib.hid (bl_up Ke.out hb)
                replace Kt := Lib.hid (bl_up Kt.out hb)
                replace Kf := Lib.hid (bl_up Kf.out hb)
                clear hb
                clear fa_0 fa_1 fb_0 fb_1
                have ft_0 := (cell_at Kt.out 0).trans (show _ = some (Value.string ⟨#[]⟩) from rfl)
                have ft_1 := (cell_at Kt.out 1).trans (show _ = some (Value.string ⟨#[]⟩) from rfl)
                have zt_0 := froz_at Kt.out 0
                have zt_1 := froz_at Kt.out 1
                have ff_0 := (cell_at Kf.out 0).trans (show _ = some (Value.int .i64 0) from rfl)
                have zf_0 := froz_at Kf.out 0
                have nTF : wc4.heap.size ≠ wt.heap.size := by have := GP.out; omega
                have nFT : wt.heap.size ≠ wc4.heap.size := by have := GP.out; omega
                have nTF2 : (wc4.heap.size == wt.heap.size) = false := by rw [beq_eq_false_iff_ne]; exact nTF
                have nFT2 : (wt.heap.size == wc4.heap.size) = false := by rw [beq_eq_false_iff_ne]; exact nFT
                go_upto_region 17 with fail
                clear nTF nFT nTF2 nFT2
                clear ft_0 ft_1 zt_0 zt_1 ff_0 zf_0
                obtain ⟨Z3, hZ3⟩ : ∃ V, ((w12.setCell ⟨wc4.heap.size, 0, none⟩ (.string n1)).setCell ⟨wc4.heap.size, 1, none⟩ (.string d1)).setCell ⟨wt.heap.size, 0, none⟩ (.int .i64 e1) = V := ⟨_, rfl⟩
                rw [hZ3]
                have hS := fun (A : World) (n : Nat) (hA : Below n A w12) (hn : n ≤ wc4.heap.size) (hn2 : n ≤ wt.heap.size) => ((hA.setCell (p := ⟨wc4.heap.size, 0, none⟩) hn (.string n1)).setCell (p := ⟨wc4.heap.size, 1, none⟩) hn (.string d1)).setCell (p := ⟨wt.heap.size, 0, none⟩) hn2 (.int .i64 e1)
                rw [hZ3] at hS
                replace B0 := Lib.hid (hS _ _ B0.out (by have := GP.out; omega) (by have := GP.out; omega))
                replace HB2 := Lib.hid (hS _ _ HB2.out (by have := GP.out; omega) (by have := GP.out; omega))
                replace HB := Lib.hid (hS _ _ HB.out (by have := GP.out; omega) (by have := GP.out; omega))
                clear hS
                replace Ka := Lib.hid (show Z3.heap[wq.heap.size]? = some (.cells #[.string pa, .string pb] 23) from by rw [← hZ3]; exact set_far (set_far (set_far Ka.out (by have := GP.out; omega) _) (by have := GP.out; omega) _) (by have := GP.out; omega) _)
                replace Kb := Lib.hid (show Z3.heap[wa.heap.size]? = some (.cells #[.string qa, .string qb] 23) from by rw [← hZ3]; exact set_far (set_far (set_far Kb.out (by have := GP.out; omega) _) (by have := GP.out; omega) _) (by have := GP.out; omega) _)
                replace Kr := Lib.hid (show Z3.heap[w11.heap.size]? = some (.cells #[.string n1, .string d1, .string n2, .string d2, .string n3, .string d3, .string n4, .string d4] 31) from by rw [← hZ3]; exact set_far (set_far (set_far Kr.out (by have := GP.out; omega) _) (by have := GP.out; omega) _) (by have := GP.out; omega) _)
                replace Ke := Lib.hid (show Z3.heap[ge]? = some (.cells #[.int .i64 e1, .int .i64 e2, .int .i64 e3, .int .i64 e4] 33) from by rw [← hZ3]; exact set_far (set_far (set_far Ke.out (by have := GP.out; omega) _) (by have := GP.out; omega) _) (by have := GP.out; omega) _)
                replace Kt := Lib.hid (show Z3.heap[wc4.heap.size]? = some (.cells #[.string n1, .string d1, .string ⟨#[]⟩, .string ⟨#[]⟩, .string ⟨#[]⟩, .string ⟨#[]⟩, .string ⟨#[]⟩, .string ⟨#[]⟩] 31) from by rw [← hZ3]; exact set_far (set_cells (set_cells Kt.out 0 (.string n1) rfl) 1 (.string d1) rfl) (by have := GP.out; omega) _)
                replace Kf := Lib.hid (show Z3.heap[wt.heap.size]? = some (.cells #[.int .i64 e1, .int .i64 0, .int .i64 0, .int .i64 0] 33) from by rw [← hZ3]; exact set_cells (set_far (set_far Kf.out (by have := GP.out; omega) _) (by have := GP.out; omega) _) 0 (.int .i64 e1) rfl)
                clear hZ3
                have fa_0 := (cell_at Ka.out 0).trans (show _ = some (Value.string pa) from rfl)
                have fa_1 := (cell_at Ka.out 1).trans (show _ = some (Value.string pb) from rfl)
                have fb_0 := (cell_at Kb.out 0).trans (show _ = some (Value.string qa) from rfl)
                have fb_1 := (cell_at Kb.out 1).trans (show _ = some (Value.string qb) from rfl)
                go_wp2_with fail
                (with_reducible refine (CB.out _).mono ?_)
                rintro e w13 ⟨rfl, hb⟩
                replace B0 := Lib.hid (below1 B0.out hb)
                replace HB := Lib.hid (below1 HB.out hb)
                replace HB2 := Lib.hid (below1 HB2.out hb)
                replace Ka := Lib.hid (bl_up Ka.out hb)
                replace Kb := Lib.hid (bl_up Kb.out hb)
                replace Kr := Lib.hid (bl_up Kr.out hb)
                replace Ke := Lib.hid (bl_up Ke.out hb)
                replace Kt := Lib.hid (bl_up Kt.out hb)
                replace Kf := Lib.hid (bl_up Kf.out hb)
                clear hb
                clear fa_0 fa_1 fb_0 fb_1
                have ft_2 := (cell_at Kt.out 2).trans (show _ = some (Value.string ⟨#[]⟩) from rfl)
                have ft_3 := (cell_at Kt.out 3).trans (show _ = some (Value.string ⟨#[]⟩) from rfl)
                have zt_2 := froz_at Kt.out 2
                have zt_3 := froz_at Kt.out 3
                have ff_1 := (cell_at Kf.out 1).trans (show _ = some (Value.int .i64 0) from rfl)
                have zf_1 := froz_at Kf.out 1
                have nTF : wc4.heap.size ≠ wt.heap.size := by have := GP.out; omega
                have nFT : wt.heap.size ≠ wc4.heap.size := by have := GP.out; omega
                have nTF2 : (wc4.heap.size == wt.heap.size) = false := by rw [beq_eq_false_iff_ne]; exact nTF
                have nFT2 : (wt.heap.size == wc4.heap.size) = false := by rw [beq_eq_false_iff_ne]; exact nFT
                go_upto_region 18 with fail
                clear nTF nFT nTF2 nFT2
                clear ft_2 ft_3 zt_2 zt_3 ff_1 zf_1
                obtain ⟨Z4, hZ4⟩ : ∃ V, ((w13.setCell ⟨wc4.heap.size, 2, none⟩ (.string n2)).setCell ⟨wc4.heap.size, 3, none⟩ (.string d2)).setCell ⟨wt.heap.size, 1, none⟩ (.int .i64 e2) = V := ⟨_, rfl⟩
                rw [hZ4]
                have hS := fun (A : World) (n : Nat) (hA : Below n A w13) (hn : n ≤ wc4.heap.size) (hn2 : n ≤ wt.heap.size) => ((hA.setCell (p := ⟨wc4.heap.size, 2, none⟩) hn (.string n2)).setCell (p := ⟨wc4.heap.size, 3, none⟩) hn (.string d2)).setCell (p := ⟨wt.heap.size, 1, none⟩) hn2 (.int .i64 e2)
                rw [hZ4] at hS
                replace B0 := Lib.hid (hS _ _ B0.out (by have := GP.out; omega) (by have := GP.out; omega))
                replace HB2 := Lib.hid (hS _ _ HB2.out (by have := GP.out; omega) (by have := GP.out; omega))
                replace HB := Lib.hid (hS _ _ HB.out (by have := GP.out; omega) (by have := GP.out; omega))
                clear hS
                replace Ka := Lib.hid (show Z4.heap[wq.heap.size]? = some (.cells #[.string pa, .string pb] 23) from by rw [← hZ4]; exact set_far (set_far (set_far Ka.out (by have := GP.out; omega) _) (by have := GP.out; omega) _) (by have := GP.out; omega) _)
                replace Kb := Lib.hid (show Z4.heap[wa.heap.size]? = some (.cells #[.string qa, .string qb] 23) from by rw [← hZ4]; exact set_far (set_far (set_far Kb.out (by have := GP.out; omega) _) (by have := GP.out; omega) _) (by have := GP.out; omega) _)
                replace Kr := Lib.hid (show Z4.heap[w11.heap.size]? = some (.cells #[.string n1, .string d1, .string n2, .string d2, .string n3, .string d3, .string n4, .string d4] 31) from by rw [← hZ4]; exact set_far (set_far (set_far Kr.out (by have := GP.out; omega) _) (by have := GP.out; omega) _) (by have := GP.out; omega) _)
                replace Ke := Lib.hid (show Z4.heap[ge]? = some (.cells #[.int .i64 e1, .int .i64 e2, .int .i64 e3, .int .i64 e4] 33) from by rw [← hZ4]; exact set_far (set_far (set_far Ke.out (by have := GP.out; omega) _) (by have := GP.out; omega) _) (by have := GP.out; omega) _)
                replace Kt := Lib.hid (show Z4.heap[wc4.heap.size]? = some (.cells #[.string n1, .string d1, .string n2, .string d2, .string ⟨#[]⟩, .string ⟨#[]⟩, .string ⟨#[]⟩, .string ⟨#[]⟩] 31) from by rw [← hZ4]; exact set_far (set_cells (set_cells Kt.out 2 (.string n2) rfl) 3 (.string d2) rfl) (by have := GP.out; omega) _)
                replace Kf := Lib.hid (show Z4.heap[wt.heap.size]? = some (.cells #[.int .i64 e1, .int .i64 e2, .int .i64 0, .int .i64 0] 33) from by rw [← hZ4]; exact set_cells (set_far (set_far Kf.out (by have := GP.out; omega) _) (by have := GP.out; omega) _) 1 (.int .i64 e2) rfl)
                clear hZ4
                have fa_0 := (cell_at Ka.out 0).trans (show _ = some (Value.string pa) from rfl)
                have fa_1 := (cell_at Ka.out 1).trans (show _ = some (Value.string pb) from rfl)
                have fb_0 := (cell_at Kb.out 0).trans (show _ = some (Value.string qa) from rfl)
                have fb_1 := (cell_at Kb.out 1).trans (show _ = some (Value.string qb) from rfl)
                go_wp2_with fail
                (with_reducible refine (CC.out _).mono ?_)
                rintro e w14 ⟨rfl, hb⟩
                replace B0 := Lib.hid (below1 B0.out hb)
                replace HB := Lib.hid (below1 HB.out hb)
                replace HB2 := Lib.hid (below1 HB2.out hb)
                replace Ka := Lib.hid (bl_up Ka.out hb)
                replace Kb := Lib.hid (bl_up Kb.out hb)
                replace Kr := Lib.hid (bl_up Kr.out hb)
                replace Ke := Lib.hid (bl_up Ke.out hb)
                replace Kt := Lib.hid (bl_up Kt.out hb)
                replace Kf := Lib.hid (bl_up Kf.out hb)
                clear hb
                clear fa_0 fa_1 fb_0 fb_1
                have ft_4 := (cell_at Kt.out 4).trans (show _ = some (Value.string ⟨#[]⟩) from rfl)
                have ft_5 := (cell_at Kt.out 5).trans (show _ = some (Value.string ⟨#[]⟩) from rfl)
                have zt_4 := froz_at Kt.out 4
                have zt_5 := froz_at Kt.out 5
                have ff_2 := (cell_at Kf.out 2).trans (show _ = some (Value.int .i64 0) from rfl)
                have zf_2 := froz_at Kf.out 2
                have nTF : wc4.heap.size ≠ wt.heap.size := by have := GP.out; omega
                have nFT : wt.heap.size ≠ wc4.heap.size := by have := GP.out; omega
                have nTF2 : (wc4.heap.size == wt.heap.size) = false := by rw [beq_eq_false_iff_ne]; exact nTF
                have nFT2 : (wt.heap.size == wc4.heap.size) = false := by rw [beq_eq_false_iff_ne]; exact nFT
                go_upto_region 19 with fail
                clear nTF nFT nTF2 nFT2
                clear ft_4 ft_5 zt_4 zt_5 ff_2 zf_2
                obtain ⟨Z5, hZ5⟩ : ∃ V, ((w14.setCell ⟨wc4.heap.size, 4, none⟩ (.string n3)).setCell ⟨wc4.heap.size, 5, none⟩ (.string d3)).setCell ⟨wt.heap.size, 2, none⟩ (.int .i64 e3) = V := ⟨_, rfl⟩
                rw [hZ5]
                have hS := fun (A : World) (n : Nat) (hA : Below n A w14) (hn : n ≤ wc4.heap.size) (hn2 : n ≤ wt.heap.size) => ((hA.setCell (p := ⟨wc4.heap.size, 4, none⟩) hn (.string n3)).setCell (p := ⟨wc4.heap.size, 5, none⟩) hn (.string d3)).setCell (p := ⟨wt.heap.size, 2, none⟩) hn2 (.int .i64 e3)
                rw [hZ5] at hS
                replace B0 := Lib.hid (hS _ _ B0.out (by have := GP.out; omega) (by have := GP.out; omega))
                replace HB2 := Lib.hid (hS _ _ HB2.out (by have := GP.out; omega) (by have := GP.out; omega))
                replace HB := Lib.hid (hS _ _ HB.out (by have := GP.out; omega) (by have := GP.out; omega))
                clear hS
                replace Ka := Lib.hid (show Z5.heap[wq.heap.size]? = some (.cells #[.string pa, .string pb] 23) from by rw [← hZ5]; exact set_far (set_far (set_far Ka.out (by have := GP.out; omega) _) (by have := GP.out; omega) _) (by have := GP.out; omega) _)
                replace Kb := Lib.hid (show Z5.heap[wa.heap.size]? = some (.cells #[.string qa, .string qb] 23) from by rw [← hZ5]; exact set_far (set_far (set_far Kb.out (by have := GP.out; omega) _) (by have := GP.out; omega) _) (by have := GP.out; omega) _)
                replace Kr := Lib.hid (show Z5.heap[w11.heap.size]? = some (.cells #[.string n1, .string d1, .string n2, .string d2, .string n3, .string d3, .string n4, .string d4] 31) from by rw [← hZ5]; exact set_far (set_far (set_far Kr.out (by have := GP.out; omega) _) (by have := GP.out; omega) _) (by have := GP.out; omega) _)
                replace Ke := Lib.hid (show Z5.heap[ge]? = some (.cells #[.int .i64 e1, .int .i64 e2, .int .i64 e3, .int .i64 e4] 33) from by rw [← hZ5]; exact set_far (set_far (set_far Ke.out (by have := GP.out; omega) _) (by have := GP.out; omega) _) (by have := GP.out; omega) _)
                replace Kt := Lib.hid (show Z5.heap[wc4.heap.size]? = some (.cells #[.string n1, .string d1, .string n2, .string d2, .string n3, .string d3, .string ⟨#[]⟩, .string ⟨#[]⟩] 31) from by rw [← hZ5]; exact set_far (set_cells (set_cells Kt.out 4 (.string n3) rfl) 5 (.string d3) rfl) (by have := GP.out; omega) _)
                replace Kf := Lib.hid (show Z5.heap[wt.heap.size]? = some (.cells #[.int .i64 e1, .int .i64 e2, .int .i64 e3, .int .i64 0] 33) from by rw [← hZ5]; exact set_cells (set_far (set_far Kf.out (by have := GP.out; omega) _) (by have := GP.out; omega) _) 2 (.int .i64 e3) rfl)
                clear hZ5
                have fa_0 := (cell_at Ka.out 0).trans (show _ = some (Value.string pa) from rfl)
                have fa_1 := (cell_at Ka.out 1).trans (show _ = some (Value.string pb) from rfl)
                have fb_0 := (cell_at Kb.out 0).trans (show _ = some (Value.string qa) from rfl)
                have fb_1 := (cell_at Kb.out 1).trans (show _ = some (Value.string qb) from rfl)
                go_wp2_with fail
                (with_reducible refine (CD.out _).mono ?_)
                rintro e w15 ⟨rfl, hb⟩
                replace B0 := Lib.hid (below1 B0.out hb)
                replace HB := Lib.hid (below1 HB.out hb)
                replace HB2 := Lib.hid (below1 HB2.out hb)
                replace Ka := Lib.hid (bl_up Ka.out hb)
                replace Kb := Lib.hid (bl_up Kb.out hb)
                replace Kr := Lib.hid (bl_up Kr.out hb)
                replace Ke := Lib.hid (bl_up Ke.out hb)
                replace Kt := Lib.hid (bl_up Kt.out hb)
                replace Kf := Lib.hid (bl_up Kf.out hb)
                clear hb
                clear fa_0 fa_1 fb_0 fb_1
                have ft_6 := (cell_at Kt.out 6).trans (show _ = some (Value.string ⟨#[]⟩) from rfl)
                have ft_7 := (cell_at Kt.out 7).trans (show _ = some (Value.string ⟨#[]⟩) from rfl)
                have zt_6 := froz_at Kt.out 6
                have zt_7 := froz_at Kt.out 7
                have ff_3 := (cell_at Kf.out 3).trans (show _ = some (Value.int .i64 0) from rfl)
                have zf_3 := froz_at Kf.out 3
                have nTF : wc4.heap.size ≠ wt.heap.size := by have := GP.out; omega
                have nFT : wt.heap.size ≠ wc4.heap.size := by have := GP.out; omega
                have nTF2 : (wc4.heap.size == wt.heap.size) = false := by rw [beq_eq_false_iff_ne]; exact nTF
                have nFT2 : (wt.heap.size == wc4.heap.size) = false := by rw [beq_eq_false_iff_ne]; exact nFT
                go_upto_region 20 with fail
                clear nTF nFT nTF2 nFT2
                clear ft_6 ft_7 zt_6 zt_7 ff_3 zf_3
                obtain ⟨Z6, hZ6⟩ : ∃ V, ((w15.setCell ⟨wc4.heap.size, 6, none⟩ (.string n4)).setCell ⟨wc4.heap.size, 7, none⟩ (.string d4)).setCell ⟨wt.heap.size, 3, none⟩ (.int .i64 e4) = V := ⟨_, rfl⟩
                rw [hZ6]
                have hS := fun (A : World) (n : Nat) (hA : Below n A w15) (hn : n ≤ wc4.heap.size) (hn2 : n ≤ wt.heap.size) => ((hA.setCell (p := ⟨wc4.heap.size, 6, none⟩) hn (.string n4)).setCell (p := ⟨wc4.heap.size, 7, none⟩) hn (.string d4)).setCell (p := ⟨wt.heap.size, 3, none⟩) hn2 (.int .i64 e4)
                rw [hZ6] at hS
                replace B0 := Lib.hid (hS _ _ B0.out (by have := GP.out; omega) (by have := GP.out; omega))
                replace HB2 := Lib.hid (hS _ _ HB2.out (by have := GP.out; omega) (by have := GP.out; omega))
                replace HB := Lib.hid (hS _ _ HB.out (by have := GP.out; omega) (by have := GP.out; omega))
                clear hS
                replace Ka := Lib.hid (show Z6.heap[wq.heap.size]? = some (.cells #[.string pa, .string pb] 23) from by rw [← hZ6]; exact set_far (set_far (set_far Ka.out (by have := GP.out; omega) _) (by have := GP.out; omega) _) (by have := GP.out; omega) _)
                replace Kb := Lib.hid (show Z6.heap[wa.heap.size]? = some (.cells #[.string qa, .string qb] 23) from by rw [← hZ6]; exact set_far (set_far (set_far Kb.out (by have := GP.out; omega) _) (by have := GP.out; omega) _) (by have := GP.out; omega) _)
                replace Kr := Lib.hid (show Z6.heap[w11.heap.size]? = some (.cells #[.string n1, .string d1, .string n2, .string d2, .string n3, .string d3, .string n4, .string d4] 31) from by rw [← hZ6]; exact set_far (set_far (set_far Kr.out (by have := GP.out; omega) _) (by have := GP.out; omega) _) (by have := GP.out; omega) _)
                replace Ke := Lib.hid (show Z6.heap[ge]? = some (.cells #[.int .i64 e1, .int .i64 e2, .int .i64 e3, .int .i64 e4] 33) from by rw [← hZ6]; exact set_far (set_far (set_far Ke.out (by have := GP.out; omega) _) (by have := GP.out; omega) _) (by have := GP.out; omega) _)
                replace Kt := Lib.hid (show Z6.heap[wc4.heap.size]? = some (.cells #[.string n1, .string d1, .string n2, .string d2, .string n3, .string d3, .string n4, .string d4] 31) from by rw [← hZ6]; exact set_far (set_cells (set_cells Kt.out 6 (.string n4) rfl) 7 (.string d4) rfl) (by have := GP.out; omega) _)
                replace Kf := Lib.hid (show Z6.heap[wt.heap.size]? = some (.cells #[.int .i64 e1, .int .i64 e2, .int .i64 e3, .int .i64 e4] 33) from by rw [← hZ6]; exact set_cells (set_far (set_far Kf.out (by have := GP.out; omega) _) (by have := GP.out; omega) _) 3 (.int .i64 e4) rfl)
                clear hZ6
                clear CF CA CB CC CD
                have fa_0 := (cell_at Ka.out 0).trans (show _ = some (Value.string pa) from rfl)
                have fa_1 := (cell_at Ka.out 1).trans (show _ = some (Value.string pb) from rfl)
                have lta := (Array.getElem?_eq_some_iff.1 Ka.out).1
                have fb_0 := (cell_at Kb.out 0).trans (show _ = some (Value.string qa) from rfl)
                have fb_1 := (cell_at Kb.out 1).trans (show _ = some (Value.string qb) from rfl)
                have ltb := (Array.getElem?_eq_some_iff.1 Kb.out).1
                have fr_0 := (cell_at Kr.out 0).trans (show _ = some (Value.string n1) from rfl)
                have fr_1 := (cell_at Kr.out 1).trans (show _ = some (Value.string d1) from rfl)
                have fr_2 := (cell_at Kr.out 2).trans (show _ = some (Value.string n2) from rfl)
                have fr_3 := (cell_at Kr.out 3).trans (show _ = some (Value.string d2) from rfl)
                have fr_4 := (cell_at Kr.out 4).trans (show _ = some (Value.string n3) from rfl)
                have fr_5 := (cell_at Kr.out 5).trans (show _ = some (Value.string d3) from rfl)
                have fr_6 := (cell_at Kr.out 6).trans (show _ = some (Value.string n4) from rfl)
                have fr_7 := (cell_at Kr.out 7).trans (show _ = some (Value.string d4) from rfl)
                have ltr := (Array.getElem?_eq_some_iff.1 Kr.out).1
                have fe_0 := (cell_at Ke.out 0).trans (show _ = some (Value.int .i64 e1) from rfl)
                have fe_1 := (cell_at Ke.out 1).trans (show _ = some (Value.int .i64 e2) from rfl)
                have fe_2 := (cell_at Ke.out 2).trans (show _ = some (Value.int .i64 e3) from rfl)
                have fe_3 := (cell_at Ke.out 3).trans (show _ = some (Value.int .i64 e4) from rfl)
                have lte := (Array.getElem?_eq_some_iff.1 Ke.out).1
                have ft_0 := (cell_at Kt.out 0).trans (show _ = some (Value.string n1) from rfl)
                have ft_1 := (cell_at Kt.out 1).trans (show _ = some (Value.string d1) from rfl)
                have ft_2 := (cell_at Kt.out 2).trans (show _ = some (Value.string n2) from rfl)
                have ft_3 := (cell_at Kt.out 3).trans (show _ = some (Value.string d2) from rfl)
                have ft_4 := (cell_at Kt.out 4).trans (show _ = some (Value.string n3) from rfl)
                have ft_5 := (cell_at Kt.out 5).trans (show _ = some (Value.string d3) from rfl)
                have ft_6 := (cell_at Kt.out 6).trans (show _ = some (Value.string n4) from rfl)
                have ft_7 := (cell_at Kt.out 7).trans (show _ = some (Value.string d4) from rfl)
                have ltt := (Array.getElem?_eq_some_iff.1 Kt.out).1
                have ff_0 := (cell_at Kf.out 0).trans (show _ = some (Value.int .i64 e1) from rfl)
                have ff_1 := (cell_at Kf.out 1).trans (show _ = some (Value.int .i64 e2) from rfl)
                have ff_2 := (cell_at Kf.out 2).trans (show _ = some (Value.int .i64 e3) from rfl)
                have ff_3 := (cell_at Kf.out 3).trans (show _ = some (Value.int .i64 e4) from rfl)
                have ltf := (Array.getElem?_eq_some_iff.1 Kf.out).1
                have hB : Below Z6.heap.size Z6 Z6.drew := (Below.refl _ _).drew
                clear Ka Kb Kr Ke Kt Kf GP HPC HQC
                have q8 := fun W => eq_r8 n1 d1 n2 d2 n3 d3 n4 d4 W
                have q4 := fun W => eq_e4 e1 e2 e3 e4 W
                have h8 := gd8
                have h4 := gd4
                refine held_open fun Q' HQ => ?_
                go_region_held3 (fun w' => ∀ b o, b < Z6.heap.size → w'.cell? ⟨b, o, none⟩ = Z6.cell? ⟨b, o, none⟩)
                  (first
                    | exact fun b o h => hB.cell (p := ⟨b, o, none⟩) h
                    | go_keep)
                  (first
                    | (go_at_call 20; (with_reducible refine (CE.out _ (below1 B0.out hB)).mono ?_); rintro e wi ⟨rfl, hb⟩; replace hB := hB.trans (hb.mono hB.size))
                    | (go_at_call 21; (with_reducible refine (CG.out _).mono ?_); rintro e wi ⟨rfl, hb⟩; replace hB := hB.trans (hb.mono hB.size)))
                all_goals
                  refine HQ.out _ _ ?_
                  clear HQ
                  replace HB2 := Lib.hid (below1 HB2.out hB)
                  have HKK := Lib.hid HK.out
                  clear hB B0 HB
                  go_wp2
                  go_roundw
                  case rel => exact ⟨mai 5 (k + 1) (by have := HKK.out; omega) _ (by simp), HB2.out⟩
                  case measure => simp [intOf]; omega
            ·
              as_aux_lemma =>
                obtain rfl : k = 5 := by omega
                clear hk hk5
                replace B0 := Lib.hid (below1 B0.out HB2.out)
                replace HB := Lib.hid (below1 HB.out HB2.out)
                clear HB2
                have CPK := Lib.hid (lpick_any pl BP.out.1 BP.out.2 32 (by decide) (by decide) 32 rfl)
                go_wp2_with fail
                (with_reducible refine (CPK.out _).mono ?_)
                rintro e wk ⟨r, hr, rfl, rfl⟩
                clear CPK
                go_wp2
                obtain ⟨wx, hwx⟩ : ∃ V, wq.alloc (.cells #[.int .i64 pl, .int .i64 (r : Int)] 3) = V := ⟨_, rfl⟩
                rw [hwx]
                have hA := (Below.refl wq.heap.size wq).alloc (Nat.le_refl _) (.cells #[.int .i64 pl, .int .i64 (r : Int)] 3)
                have Kpl := Lib.hid (heap_new' wq (.cells #[.int .i64 pl, .int .i64 (r : Int)] 3) wq.heap.size rfl)
                rw [hwx] at hA Kpl
                replace B0 := Lib.hid (below1 B0.out hA)
                replace HB := Lib.hid (below1 HB.out hA)
                clear hA hwx hr
                have HB3 := Lib.hid (Below.refl wx.heap.size wx)
                go_loopw [139] (fun iv wz => Mai 2 iv ∧ Below wx.heap.size wx wz) (fun iv _ => (2 - intOf iv).toNat)
                case atStart => exact ⟨mai 2 0 (by decide) 0 rfl, HB3.out⟩
                case round =>
                  clear HB3
                  rename World => wz
                  obtain ⟨hj, hB0⟩ := hrel
                  have HB3 := Lib.hid hB0
                  clear hB0
                  replace B0 := Lib.hid (below1 B0.out HB3.out)
                  replace HB := Lib.hid (below1 HB.out HB3.out)
                  rcases hj.two with rfl | rfl | rfl
                  all_goals clear hj
                  ·
                    as_aux_lemma =>
                      have f0 := (cell_at (bl_up Kpl.out HB3.out) 0).trans (show _ = some (Value.int .i64 pl) from rfl)
                      obtain ⟨n1, d1, n2, d2, e1, e2, hd, hrd, hu, hru⟩ := ma_round HT.out (pa, pb) HPZ.out pl
                      simp only at hd hrd hu hru
                      have CA := Lib.hid hd; have CB := Lib.hid hrd; have CC := Lib.hid hu; have CD := Lib.hid hru
                      clear hd hrd hu hru HT HPZ BN BP GIX GI0 Kpl HI
                      obtain ⟨g0, g1⟩ := HPC.out _ HB.out
                      go_wp2_with fail
                      (with_reducible refine (CA.out _ B0.out).mono ?_)
                      rintro e w41 ⟨rfl, hb⟩
                      replace B0 := Lib.hid (below1 B0.out hb)
                      replace HB := Lib.hid (below1 HB.out hb)
                      replace HB3 := Lib.hid (below1 HB3.out hb)
                      clear hb
                      clear f0 g0 g1
                      go_upto_region 26 with fail
                      have hA := (Below.refl w41.heap.size w41).alloc (Nat.le_refl _) (.cells #[.string n1, .string d1] 23)
                      replace B0 := Lib.hid (below1 B0.out hA)
                      replace HB := Lib.hid (below1 HB.out hA)
                      replace HB3 := Lib.hid (below1 HB3.out hA)
                      have Ka := Lib.hid (heap_new' w41 (.cells #[.string n1, .string d1] 23) w41.heap.size rfl)
                      clear hA
                      obtain ⟨va, hva⟩ : ∃ V, (w41.alloc (.cells #[.string n1, .string d1] 23)) = V := ⟨_, rfl⟩
                      rw [hva] at B0 ⊢
                      rw [hva] at Ka
                      rw [hva] at HB
                      rw [hva] at HB3
                      clear hva
                      obtain ⟨g0, g1⟩ := HPC.out _ HB.out
                      go_wp2_with fail
                      (with_reducible refine (CB.out _).mono ?_)
                      rintro e w42 ⟨rfl, hb⟩
                      replace B0 := Lib.hid (below1 B0.out hb)
                      replace HB := Lib.hid (below1 HB.out hb)
                      replace HB3 := Lib.hid (below1 HB3.out hb)
                      replace Ka := Lib.hid (bl_up Ka.out hb)
                      clear hb
                      clear g0 g1
                      go_upto_region 27 with fail
                      have hA := (Below.refl w42.heap.size w42).alloc (Nat.le_refl _) (.cells #[.string n1, .string d1] 23)
                      replace B0 := Lib.hid (below1 B0.out hA)
                      replace HB := Lib.hid (below1 HB.out hA)
                      replace HB3 := Lib.hid (below1 HB3.out hA)
                      have Kb := Lib.hid (heap_new' w42 (.cells #[.string n1, .string d1] 23) w42.heap.size rfl)
                      replace Ka := Lib.hid (bl_up Ka.out hA)
                      clear hA
                      obtain ⟨vb, hvb⟩ : ∃ V, (w42.alloc (.cells #[.string n1, .string d1] 23)) = V := ⟨_, rfl⟩
                      rw [hvb] at B0 ⊢
                      rw [hvb] at Ka
                      rw [hvb] at Kb
                      rw [hvb] at HB
                      rw [hvb] at HB3
                      clear hvb
                      obtain ⟨g0, g1⟩ := HPC.out _ HB.out
                      go_wp2_with fail
                      (with_reducible refine (CC.out _ B0.out).mono ?_)
                      rintro e w43 ⟨rfl, hb⟩
                      replace B0 := Lib.hid (below1 B0.out hb)
                      replace HB := Lib.hid (below1 HB.out hb)
                      replace HB3 := Lib.hid (below1 HB3.out hb)
                      replace Ka := Lib.hid (bl_up Ka.out hb)
                      replace Kb := Lib.hid (bl_up Kb.out hb)
                      clear hb
                      clear g0 g1
                      go_upto_region 28 with fail
                      have hA := (Below.refl w43.heap.size w43).alloc (Nat.le_refl _) (.cells #[.string n2, .string d2] 23)
                      replace B0 := Lib.hid (below1 B0.out hA)
                      replace HB := Lib.hid (below1 HB.out hA)
                      replace HB3 := Lib.hid (below1 HB3.out hA)
                      have Kc := Lib.hid (heap_new' w43 (.cells #[.string n2, .string d2] 23) w43.heap.size rfl)
                      replace Ka := Lib.hid (bl_up Ka.out hA)
                      replace Kb := Lib.hid (bl_up Kb.out hA)
                      clear hA
                      obtain ⟨vc, hvc⟩ : ∃ V, (w43.alloc (.cells #[.string n2, .string d2] 23)) = V := ⟨_, rfl⟩
                      rw [hvc] at B0 ⊢
                      rw [hvc] at Ka
                      rw [hvc] at Kb
                      rw [hvc] at Kc
                      rw [hvc] at HB
                      rw [hvc] at HB3
                      clear hvc
                      obtain ⟨g0, g1⟩ := HPC.out _ HB.out
                      go_wp2_with fail
                      (with_reducible refine (CD.out _).mono ?_)
                      rintro e w44 ⟨rfl, hb⟩
                      replace B0 := Lib.hid (below1 B0.out hb)
                      replace HB := Lib.hid (below1 HB.out hb)
                      replace HB3 := Lib.hid (below1 HB3.out hb)
                      replace Ka := Lib.hid (bl_up Ka.out hb)
                      replace Kb := Lib.hid (bl_up Kb.out hb)
                      replace Kc := Lib.hid (bl_up Kc.out hb)
                      clear hb
                      clear g0 g1
                      go_upto_region 29 with fail
                      have hA := (Below.refl w44.heap.size w44).alloc (Nat.le_refl _) (.cells #[.string n2, .string d2] 23)
                      replace B0 := Lib.hid (below1 B0.out hA)
                      replace HB := Lib.hid (below1 HB.out hA)
                      replace HB3 := Lib.hid (below1 HB3.out hA)
                      have Kd := Lib.hid (heap_new' w44 (.cells #[.string n2, .string d2] 23) w44.heap.size rfl)
                      replace Ka := Lib.hid (bl_up Ka.out hA)
                      replace Kb := Lib.hid (bl_up Kb.out hA)
                      replace Kc := Lib.hid (bl_up Kc.out hA)
                      clear hA
                      obtain ⟨vd, hvd⟩ : ∃ V, (w44.alloc (.cells #[.string n2, .string d2] 23)) = V := ⟨_, rfl⟩
                      rw [hvd] at B0 ⊢
                      rw [hvd] at Ka
                      rw [hvd] at Kb
                      rw [hvd] at Kc
                      rw [hvd] at Kd
                      rw [hvd] at HB
                      rw [hvd] at HB3
                      clear hvd
                      have fa_0 := (cell_at Ka.out 0).trans (show _ = some (Value.string n1) from rfl)
                      have fa_1 := (cell_at Ka.out 1).trans (show _ = some (Value.string d1) from rfl)
                      have fb_0 := (cell_at Kb.out 0).trans (show _ = some (Value.string n1) from rfl)
                      have fb_1 := (cell_at Kb.out 1).trans (show _ = some (Value.string d1) from rfl)
                      have fc_0 := (cell_at Kc.out 0).trans (show _ = some (Value.string n2) from rfl)
                      have fc_1 := (cell_at Kc.out 1).trans (show _ = some (Value.string d2) from rfl)
                      have fd_0 := (cell_at Kd.out 0).trans (show _ = some (Value.string n2) from rfl)
                      have fd_1 := (cell_at Kd.out 1).trans (show _ = some (Value.string d2) from rfl)
                      have HZ := Lib.hid HB3.out
                      clear HB HB3 B0 HPC CA CB CC CD Ka Kb Kc Kd
                      go_wp2
                      go_roundw
                      case rel => exact ⟨mai 2 1 (by decide) _ rfl, HZ.out⟩
                      case measure => simp [intOf]
                  ·
                    as_aux_lemma =>
                      have f0 := (cell_at (bl_up Kpl.out HB3.out) 1).trans (show _ = some (Value.int .i64 (r : Int)) from rfl)
                      obtain ⟨n1, d1, n2, d2, e1, e2, hd, hrd, hu, hru⟩ := ma_round HT.out (pa, pb) HPZ.out (r : Int)
                      simp only at hd hrd hu hru
                      have CA := Lib.hid hd; have CB := Lib.hid hrd; have CC := Lib.hid hu; have CD := Lib.hid hru
                      clear hd hrd hu hru HT HPZ BN BP GIX GI0 Kpl HI
                      obtain ⟨g0, g1⟩ := HPC.out _ HB.out
                      go_wp2_with fail
                      (with_reducible refine (CA.out _ B0.out).mono ?_)
                      rintro e w41 ⟨rfl, hb⟩
                      replace B0 := Lib.hid (below1 B0.out hb)
                      replace HB := Lib.hid (below1 HB.out hb)
                      replace HB3 := Lib.hid (below1 HB3.out hb)
                      clear hb
                      clear f0 g0 g1
                      go_upto_region 26 with fail
                      have hA := (Below.refl w41.heap.size w41).alloc (Nat.le_refl _) (.cells #[.string n1, .string d1] 23)
                      replace B0 := Lib.hid (below1 B0.out hA)
                      replace HB := Lib.hid (below1 HB.out hA)
                      replace HB3 := Lib.hid (below1 HB3.out hA)
                      have Ka := Lib.hid (heap_new' w41 (.cells #[.string n1, .string d1] 23) w41.heap.size rfl)
                      clear hA
                      obtain ⟨va, hva⟩ : ∃ V, (w41.alloc (.cells #[.string n1, .string d1] 23)) = V := ⟨_, rfl⟩
                      rw [hva] at B0 ⊢
                      rw [hva] at Ka
                      rw [hva] at HB
                      rw [hva] at HB3
                      clear hva
                      obtain ⟨g0, g1⟩ := HPC.out _ HB.out
                      go_wp2_with fail
                      (with_reducible refine (CB.out _).mono ?_)
                      rintro e w42 ⟨rfl, hb⟩
                      replace B0 := Lib.hid (below1 B0.out hb)
                      replace HB := Lib.hid (below1 HB.out hb)
                      replace HB3 := Lib.hid (below1 HB3.out hb)
                      replace Ka := Lib.hid (bl_up Ka.out hb)
                      clear hb
                      clear g0 g1
                      go_upto_region 27 with fail
                      have hA := (Below.refl w42.heap.size w42).alloc (Nat.le_refl _) (.cells #[.string n1, .string d1] 23)
                      replace B0 := Lib.hid (below1 B0.out hA)
                      replace HB := Lib.hid (below1 HB.out hA)
                      replace HB3 := Lib.hid (below1 HB3.out hA)
                      have Kb := Lib.hid (heap_new' w42 (.cells #[.string n1, .string d1] 23) w42.heap.size rfl)
                      replace Ka := Lib.hid (bl_up Ka.out hA)
                      clear hA
                      obtain ⟨vb, hvb⟩ : ∃ V, (w42.alloc (.cells #[.string n1, .string d1] 23)) = V := ⟨_, rfl⟩
                      rw [hvb] at B0 ⊢
                      rw [hvb] at Ka
                      rw [hvb] at Kb
                      rw [hvb] at HB
                      rw [hvb] at HB3
                      clear hvb
                      obtain ⟨g0, g1⟩ := HPC.out _ HB.out
                      go_wp2_with fail
                      (with_reducible refine (CC.out _ B0.out).mono ?_)
                      rintro e w43 ⟨rfl, hb⟩
                      replace B0 := Lib.hid (below1 B0.out hb)
                      replace HB := Lib.hid (below1 HB.out hb)
                      replace HB3 := Lib.hid (below1 HB3.out hb)
                      replace Ka := Lib.hid (bl_up Ka.out hb)
                      replace Kb := Lib.hid (bl_up Kb.out hb)
                      clear hb
                      clear g0 g1
                      go_upto_region 28 with fail
                      have hA := (Below.refl w43.heap.size w43).alloc (Nat.le_refl _) (.cells #[.string n2, .string d2] 23)
                      replace B0 := Lib.hid (below1 B0.out hA)
                      replace HB := Lib.hid (below1 HB.out hA)
                      replace HB3 := Lib.hid (below1 HB3.out hA)
                      have Kc := Lib.hid (heap_new' w43 (.cells #[.string n2, .string d2] 23) w43.heap.size rfl)
                      replace Ka := Lib.hid (bl_up Ka.out hA)
                      replace Kb := Lib.hid (bl_up Kb.out hA)
                      clear hA
                      obtain ⟨vc, hvc⟩ : ∃ V, (w43.alloc (.cells #[.string n2, .string d2] 23)) = V := ⟨_, rfl⟩
                      rw [hvc] at B0 ⊢
                      rw [hvc] at Ka
                      rw [hvc] at Kb
                      rw [hvc] at Kc
                      rw [hvc] at HB
                      rw [hvc] at HB3
                      clear hvc
                      obtain ⟨g0, g1⟩ := HPC.out _ HB.out
                      go_wp2_with fail
                      (with_reducible refine (CD.out _).mono ?_)
                      rintro e w44 ⟨rfl, hb⟩
                      replace B0 := Lib.hid (below1 B0.out hb)
                      replace HB := Lib.hid (below1 HB.out hb)
                      replace HB3 := Lib.hid (below1 HB3.out hb)
                      replace Ka := Lib.hid (bl_up Ka.out hb)
                      replace Kb := Lib.hid (bl_up Kb.out hb)
                      replace Kc := Lib.hid (bl_up Kc.out hb)
                      clear hb
                      clear g0 g1
                      go_upto_region 29 with fail
                      have hA := (Below.refl w44.heap.size w44).alloc (Nat.le_refl _) (.cells #[.string n2, .string d2] 23)
                      replace B0 := Lib.hid (below1 B0.out hA)
                      replace HB := Lib.hid (below1 HB.out hA)
                      replace HB3 := Lib.hid (below1 HB3.out hA)
                      have Kd := Lib.hid (heap_new' w44 (.cells #[.string n2, .string d2] 23) w44.heap.size rfl)
                      replace Ka := Lib.hid (bl_up Ka.out hA)
                      replace Kb := Lib.hid (bl_up Kb.out hA)
                      replace Kc := Lib.hid (bl_up Kc.out hA)
                      clear hA
                      obtain ⟨vd, hvd⟩ : ∃ V, (w44.alloc (.cells #[.string n2, .string d2] 23)) = V := ⟨_, rfl⟩
                      rw [hvd] at B0 ⊢
                      rw [hvd] at Ka
                      rw [hvd] at Kb
                      rw [hvd] at Kc
                      rw [hvd] at Kd
                      rw [hvd] at HB
                      rw [hvd] at HB3
                      clear hvd
                      have fa_0 := (cell_at Ka.out 0).trans (show _ = some (Value.string n1) from rfl)
                      have fa_1 := (cell_at Ka.out 1).trans (show _ = some (Value.string d1) from rfl)
                      have fb_0 := (cell_at Kb.out 0).trans (show _ = some (Value.string n1) from rfl)
                      have fb_1 := (cell_at Kb.out 1).trans (show _ = some (Value.string d1) from rfl)
                      have fc_0 := (cell_at Kc.out 0).trans (show _ = some (Value.string n2) from rfl)
                      have fc_1 := (cell_at Kc.out 1).trans (show _ = some (Value.string d2) from rfl)
                      have fd_0 := (cell_at Kd.out 0).trans (show _ = some (Value.string n2) from rfl)
                      have fd_1 := (cell_at Kd.out 1).trans (show _ = some (Value.string d2) from rfl)
                      have HZ := Lib.hid HB3.out
                      clear HB HB3 B0 HPC CA CB CC CD Ka Kb Kc Kd
                      go_wp2
                      go_roundw
                      case rel => exact ⟨mai 2 2 (by decide) _ rfl, HZ.out⟩
                      case measure => simp [intOf]
                  ·
                    as_aux_lemma =>
                      clear HB3 Kpl BP
                      have h210 := GI0.out
                      obtain ⟨m1, k1, v1, vv, hm, hrm, hv, hrv⟩ := ma_make HT.out (pa, pb) (⟨#[]⟩, c2) HPZ.out ⟨Nat.zero_le _, ZC2.out⟩
                      simp only at hm hrm hv hrv
                      have CA := Lib.hid hm; have CB := Lib.hid hrm; have CV := Lib.hid hv; have CW := Lib.hid hrv
                      clear hm hrm hv hrv h210 BN
                      go_wp2_with fail
                      go_upto_region 32 with fail
                      obtain ⟨V, hV⟩ : ∃ V, wz = V := ⟨_, rfl⟩
                      rw [hV] at B0 HB ⊢
                      clear hV
                      have KBB := Lib.hid (fun w' (h : Below V.heap.size V w') => show w'.cell? ⟨g, i * 2, none⟩ = some (.string pa) ∧ w'.cell? ⟨g, 1, none⟩ = some (.string c2) from ⟨(HPC.out _ (below1 HB.out h)).1, GI0.out _ (below1 HB.out h)⟩)
                      have hB : Below V.heap.size V V.drew := (Below.refl _ _).drew
                      go_cut [37, 38] (fun sp se wx => HeldR V m1 k1 v1 sp se wx)
                      have hD : Below V.heap.size V (V.alloc (.cells #[.string ⟨#[]⟩, .string ⟨#[]⟩] 23)).drew := ((Below.refl _ _).alloc (Nat.le_refl _) _).drew
                      have aD : (V.alloc (.cells #[.string ⟨#[]⟩, .string ⟨#[]⟩] 23)).drew.heap[V.heap.size]? = some (.cells #[.string ⟨#[]⟩, .string ⟨#[]⟩] 23) := heap_new' V (.cells #[.string ⟨#[]⟩, .string ⟨#[]⟩] 23) V.heap.size rfl
                      case first =>
                        focus
                          clear CV CW HT HPZ GIX
                          refine held_open fun Q' HQ => ?_
                          go_region_held3 (fun w' => w'.cell? ⟨g, i * 2, none⟩ = some (.string pa) ∧ w'.cell? ⟨g, 1, none⟩ = some (.string c2))
                            (first
                              | exact KBB.out _ hB
                              | exact KBB.out _ (hB.alloc hB.size _)
                              | exact KBB.out _ hD
                              | exact KBB.out _ ((hB.setCell (p := ⟨_, 0, none⟩) (by first | exact Nat.le_refl _ | exact hsi) _).setCell (p := ⟨_, 1, none⟩) (by first | exact Nat.le_refl _ | exact hsi) _)
                              | go_keep)
                            (first
                              | (go_at_call 27; (with_reducible refine (CA.out _ (by first | exact below1 B0.out hB | exact below1 B0.out (hB.alloc hB.size _) | exact below1 B0.out hD)).mono ?_); rintro e wd ⟨rfl, hb⟩; (first | (have az := bl_up (heap_new' V.drew (.cells #[.string ⟨#[]⟩, .string ⟨#[]⟩] 23) V.heap.size rfl) hb) | (have az := bl_up aD hb) | skip); (try (have hz := box2 az; obtain ⟨az1, az2, az3, az4⟩ := hz)); replace hB := (by first | exact hB.trans (hb.mono hB.size) | exact (hB.alloc hB.size _).trans (hb.mono (hB.alloc hB.size _).size) | exact hD.trans (hb.mono hD.size)); have hsi := hB.size))
                          all_goals
                            refine HQ.out _ _ ?_
                            clear HQ
                            go_wp2_with fail
                            go_meet
                            exact ⟨_, rfl, rfl, (by first | exact hB.size | exact hsi | exact Nat.le_refl _), (by first | exact heap_new' _ _ _ rfl | exact put2_heap az _ _), (by first | exact hB.alloc hB.size _ | exact hD | exact (hB.setCell (p := ⟨_, 0, none⟩) (by first | exact Nat.le_refl _ | exact hsi) _).setCell (p := ⟨_, 1, none⟩) (by first | exact Nat.le_refl _ | exact hsi) _)⟩
                      case rest =>
                        obtain ⟨gP, rfl, rfl, hge, hgc, hb⟩ := hcut
                        clear KBB hB hge
                        replace B0 := Lib.hid (below1 B0.out hb)
                        replace HB := Lib.hid (below1 HB.out hb)
                        have KP := Lib.hid hgc
                        clear hb hgc
                        skip
                        go_upto_region 33 with fail
                        obtain ⟨V, hV⟩ : ∃ V, wc = V := ⟨_, rfl⟩
                        rw [hV] at B0 HB ⊢
                        rw [hV] at KP
                        clear hV
                        have KBB := Lib.hid (fun w' (h : Below V.heap.size V w') => show w'.cell? ⟨g, i * 2, none⟩ = some (.string pa) ∧ w'.cell? ⟨g, 1, none⟩ = some (.string c2) from ⟨(HPC.out _ (below1 HB.out h)).1, GI0.out _ (below1 HB.out h)⟩)
                        have hB : Below V.heap.size V V.drew := (Below.refl _ _).drew
                        go_cut [39, 40] (fun sp se wx => HeldR V m1 k1 v1 sp se wx)
                        have hD : Below V.heap.size V (V.alloc (.cells #[.string ⟨#[]⟩, .string ⟨#[]⟩] 23)).drew := ((Below.refl _ _).alloc (Nat.le_refl _) _).drew
                        have aD : (V.alloc (.cells #[.string ⟨#[]⟩, .string ⟨#[]⟩] 23)).drew.heap[V.heap.size]? = some (.cells #[.string ⟨#[]⟩, .string ⟨#[]⟩] 23) := heap_new' V (.cells #[.string ⟨#[]⟩, .string ⟨#[]⟩] 23) V.heap.size rfl
                        case first =>
                          focus
                            clear CV CW HT HPZ GIX
                            refine held_open fun Q' HQ => ?_
                            go_region_held3 (fun w' => w'.cell? ⟨g, i * 2, none⟩ = some (.string pa) ∧ w'.cell? ⟨g, 1, none⟩ = some (.string c2))
                              (first
                                | exact KBB.out _ hB
                                | exact KBB.out _ (hB.alloc hB.size _)
                                | exact KBB.out _ hD
                                | exact KBB.out _ ((hB.setCell (p := ⟨_, 0, none⟩) (by first | exact Nat.le_refl _ | exact hsi) _).setCell (p := ⟨_, 1, none⟩) (by first | exact Nat.le_refl _ | exact hsi) _)
                                | go_keep)
                              (first
                                | (go_at_call 28; (with_reducible refine (CB.out _).mono ?_); rintro e wd ⟨rfl, hb⟩; (first | (have az := bl_up (heap_new' V.drew (.cells #[.string ⟨#[]⟩, .string ⟨#[]⟩] 23) V.heap.size rfl) hb) | (have az := bl_up aD hb) | skip); (try (have hz := box2 az; obtain ⟨az1, az2, az3, az4⟩ := hz)); replace hB := (by first | exact hB.trans (hb.mono hB.size) | exact (hB.alloc hB.size _).trans (hb.mono (hB.alloc hB.size _).size) | exact hD.trans (hb.mono hD.size)); have hsi := hB.size))
                            all_goals
                              refine HQ.out _ _ ?_
                              clear HQ
                              go_wp2_with fail
                              go_meet
                              exact ⟨_, rfl, rfl, (by first | exact hB.size | exact hsi | exact Nat.le_refl _), (by first | exact heap_new' _ _ _ rfl | exact put2_heap az _ _), (by first | exact hB.alloc hB.size _ | exact hD | exact (hB.setCell (p := ⟨_, 0, none⟩) (by first | exact Nat.le_refl _ | exact hsi) _).setCell (p := ⟨_, 1, none⟩) (by first | exact Nat.le_refl _ | exact hsi) _)⟩
                        case rest =>
                          obtain ⟨gQ, rfl, rfl, hge, hgc, hb⟩ := hcut
                          clear KBB hB hge
                          replace B0 := Lib.hid (below1 B0.out hb)
                          replace HB := Lib.hid (below1 HB.out hb)
                          replace KP := Lib.hid (bl_up KP.out hb)
                          have KQ := Lib.hid hgc
                          clear hb hgc
                          go_upto_region 34 with fail
                          clear CA CB
                          skip
                          have KS := Lib.hid (fun w' (h : Below wc.heap.size wc w') => show w'.cell? ⟨g, i * 2, none⟩ = some (.string pa) ∧ w'.cell? ⟨g, i * 2 + 1, none⟩ = some (.string pb) ∧ w'.cell? ⟨gP, 0, none⟩ = some (.string m1) ∧ w'.cell? ⟨gP, 1, none⟩ = some (.string k1) ∧ w'.cell? ⟨gQ, 0, none⟩ = some (.string m1) ∧ w'.cell? ⟨gQ, 1, none⟩ = some (.string k1) from ⟨(HPC.out _ (below1 HB.out h)).1, (HPC.out _ (below1 HB.out h)).2, (cell_at (bl_up KP.out h) 0).trans (show _ = some (Value.string m1) from rfl), (cell_at (bl_up KP.out h) 1).trans (show _ = some (Value.string k1) from rfl), (cell_at (bl_up KQ.out h) 0).trans (show _ = some (Value.string m1) from rfl), (cell_at (bl_up KQ.out h) 1).trans (show _ = some (Value.string k1) from rfl)⟩)
                          have hB : Below wc.heap.size wc wc.drew := (Below.refl _ _).drew
                          clear KP KQ HPZ HT GIX GI0
                          cases vv
                          all_goals
                            as_aux_lemma =>
                              refine held_open fun Q' HQ => ?_
                              go_region_held3 (fun w' => w'.cell? ⟨g, i * 2, none⟩ = some (.string pa) ∧ w'.cell? ⟨g, i * 2 + 1, none⟩ = some (.string pb) ∧ w'.cell? ⟨gP, 0, none⟩ = some (.string m1) ∧ w'.cell? ⟨gP, 1, none⟩ = some (.string k1) ∧ w'.cell? ⟨gQ, 0, none⟩ = some (.string m1) ∧ w'.cell? ⟨gQ, 1, none⟩ = some (.string k1))
                                (first
                                  | exact KS.out _ hB
                                  | go_keep)
                                (first
                                  | (go_at_call 29; (with_reducible refine (CV.out _ (below1 B0.out hB)).mono ?_); rintro e wi ⟨rfl, hb⟩; replace hB := hB.trans (hb.mono hB.size))
                                  | (go_at_call 30; (with_reducible refine (CW.out _).mono ?_); rintro e wi ⟨rfl, hb⟩; replace hB := hB.trans (hb.mono hB.size)))
                              all_goals
                                refine HQ.out _ _ ?_
                                clear HQ
                                replace HB := Lib.hid (below1 HB.out hB)
                                have HII := Lib.hid HI.out
                                clear hB B0 KS HPC HI
                                go_wp2
                                go_roundw
                                case rel => exact ⟨mai 5 (i + 1) (by have := HII.out; omega) _ (by simp), HB.out⟩
                                case measure => simp [intOf]; omega
      ·
        as_aux_lemma =>
          obtain rfl : i = 5 := by omega
          clear hi hi5
          replace B0 := Lib.hid (below1 B0.out HB.out)
          clear GIX GI0
          obtain ⟨n1, d1, e1, ho, hro⟩ := ma_of HT.out n d BN.out.1 BN.out.2
          have CA := Lib.hid ho; have CB := Lib.hid hro
          clear ho hro BN BP HT
          go_wp2_with fail
          (with_reducible refine (CA.out _ B0.out).mono ?_)
          rintro e w61 ⟨rfl, hb⟩
          replace B0 := Lib.hid (below1 B0.out hb)
          replace HB := Lib.hid (below1 HB.out hb)
          clear hb
          go_upto_region 37 with fail
          have hA := (Below.refl w61.heap.size w61).alloc (Nat.le_refl _) (.cells #[.string n1, .string d1] 23)
          replace B0 := Lib.hid (below1 B0.out hA)
          replace HB := Lib.hid (below1 HB.out hA)
          have Ka := Lib.hid (heap_new' w61 (.cells #[.string n1, .string d1] 23) w61.heap.size rfl)
          clear hA
          obtain ⟨va, hva⟩ : ∃ V, (w61.alloc (.cells #[.string n1, .string d1] 23)) = V := ⟨_, rfl⟩
          rw [hva] at B0 ⊢
          rw [hva] at Ka
          rw [hva] at HB
          clear hva
          go_wp2_with fail
          (with_reducible refine (CB.out _).mono ?_)
          rintro e w62 ⟨rfl, hb⟩
          replace B0 := Lib.hid (below1 B0.out hb)
          replace HB := Lib.hid (below1 HB.out hb)
          replace Ka := Lib.hid (bl_up Ka.out hb)
          clear hb
          go_upto_region 38 with fail
          have hA := (Below.refl w62.heap.size w62).alloc (Nat.le_refl _) (.cells #[.string n1, .string d1] 23)
          replace B0 := Lib.hid (below1 B0.out hA)
          replace HB := Lib.hid (below1 HB.out hA)
          have Kb := Lib.hid (heap_new' w62 (.cells #[.string n1, .string d1] 23) w62.heap.size rfl)
          replace Ka := Lib.hid (bl_up Ka.out hA)
          clear hA
          obtain ⟨vb, hvb⟩ : ∃ V, (w62.alloc (.cells #[.string n1, .string d1] 23)) = V := ⟨_, rfl⟩
          rw [hvb] at B0 ⊢
          rw [hvb] at Ka
          rw [hvb] at Kb
          rw [hvb] at HB
          clear hvb
          have fa_0 := (cell_at Ka.out 0).trans (show _ = some (Value.string n1) from rfl)
          have fa_1 := (cell_at Ka.out 1).trans (show _ = some (Value.string d1) from rfl)
          have fb_0 := (cell_at Kb.out 0).trans (show _ = some (Value.string n1) from rfl)
          have fb_1 := (cell_at Kb.out 1).trans (show _ = some (Value.string d1) from rfl)
          have HF := Lib.hid B0.out
          clear B0 HB Ka Kb CA CB
          go_wp2
          go_ret
          exact ⟨rfl, HF.out⟩
end Go.Proofs.YtcjcafekacceiaaGreatDoor
