/- The walk of RationalTextMatchesReference. -/
import Derived.BigRegion
import Derived.BigQuiet
import Derived.Test.YtcjcafekacceiaaGreatDoorSa
import Derived.Test.YtcjcafekacceiaaGreatDoorLg
import Derived.Test.YtcjcafekacceiaaGreatDoorTx
namespace Go.Proofs.YtcjcafekacceiaaGreatDoor
open Go.RowKit
set_option linter.unusedVariables false
set_option linter.unusedSimpArgs false

theorem box4t {w : World} {B : Nat} {x0 x1 x2 x3 : Value} {T : TypeId} (h : w.heap[B]? = some (.cells #[x0, x1, x2, x3] T)) :
    w.cell? ⟨B, 0, none⟩ = some x0 ∧ w.cell? ⟨B, 1, none⟩ = some x1 ∧ w.cell? ⟨B, 2, none⟩ = some x2 ∧ w.cell? ⟨B, 3, none⟩ = some x3 := by
  refine ⟨?_, ?_, ?_, ?_⟩ <;> simp [World.cell?, h]
set_option maxRecDepth 100000 in
set_option maxHeartbeats 8000000 in
theorem text_walk (xa xb : ByteArray) (hxa : xa.size ≤ 9223372036854775807) (hxb : xb.size ≤ 9223372036854775807) (x0 x1 x2 x3 : Int) (b0 : (-9223372036854775808 ≤ x0 ∧ x0 ≤ 9223372036854775807)) (b1 : (-9223372036854775808 ≤ x1 ∧ x1 ≤ 9223372036854775807)) (b2 : (-9223372036854775808 ≤ x2 ∧ x2 ≤ 9223372036854775807)) (b3 : (-9223372036854775808 ≤ x3 ∧ x3 ≤ 9223372036854775807)) (at0 : Int) (ha0 : -9223372036854775808 ≤ at0) (ha1 : at0 ≤ 9223372036854775807) (c : UInt8) (raw : ByteArray) (hraw : raw.size ≤ 9223372036854775807) (w : World) (ht : Tb w) :
    Calls Tryz.prog 4 #[.agg #[.string xa, .string xb], .agg #[.int .i64 x0, .int .i64 x1, .int .i64 x2, .int .i64 x3], .int .i64 at0, .int .u8 (c.toNat : Int), .string raw] w (BOut w true) := by
  obtain ⟨W0, hW0⟩ : ∃ V, (w.alloc (.cells #[.string xa, .string xb] 23)).alloc (.cells #[.int .i64 x0, .int .i64 x1, .int .i64 x2, .int .i64 x3] 24) = V := ⟨_, rfl⟩
  have B0 := Lib.hid (show Below w.heap.size w W0 from by rw [← hW0]; exact ((Below.refl w.heap.size w).alloc (Nat.le_refl _) _).alloc (by simp) _)
  have KX := Lib.hid (show W0.heap[w.heap.size]? = some (.cells #[.string xa, .string xb] 23) from by rw [← hW0]; exact (Below.heap_alloc _ _ _ (by simp)).trans (heap_new' _ _ _ rfl))
  have KL := Lib.hid (show W0.heap[w.heap.size + 1]? = some (.cells #[.int .i64 x0, .int .i64 x1, .int .i64 x2, .int .i64 x3] 24) from by rw [← hW0]; exact heap_new' _ _ _ (by simp))
  have HT := Lib.hid (fun W (hW : Below w.heap.size w W) => ht.below hW)
  have CS := Lib.hid (fun W (hW : Below w.heap.size w W) => sane_any W (HT.out W hW))
  clear ht
  have CL := Lib.hid (long_any x0 x1 x2 x3 b0 b1 b2 b3)
  have CT := Lib.hid (fun W => cut_any xa xb W hxa hxb)
  have HA := Lib.hid (And.intro ha0 ha1)
  have HR := Lib.hid hraw
  have Z1 := Lib.hid (cutS_size xa); have Z2 := Lib.hid (cutS_size xb)
  clear b0 b1 b2 b3 ha0 ha1 hxa hxb hraw
  generalize cutS xa = ya at *
  generalize cutS xb = yb at *
  go_enter Tryz.func4, Tryz.ntmps4
  go_wp2_with fail
  (with_reducible refine (CS.out _ B0.out).mono ?_)
  rintro e w1 ⟨rfl, hb⟩
  replace B0 := Lib.hid (below1 B0.out hb)
  replace KX := Lib.hid (bl_up KX.out hb)
  replace KL := Lib.hid (bl_up KL.out hb)
  clear hb
  clear hW0 CS
  obtain ⟨c0, c1, c2, c3⟩ := box4t KL.out
  go_wp2_with fail
  (with_reducible refine (CL.out _).mono ?_)
  rintro e w2 ⟨q, hqn, hqd, rfl, hb⟩
  replace B0 := Lib.hid (below1 B0.out hb)
  replace KX := Lib.hid (bl_up KX.out hb)
  replace KL := Lib.hid (bl_up KL.out hb)
  clear hb
  clear c0 c1 c2 c3 KL CL
  have HBQ := Lib.hid (show BQ q from ⟨Nat.lt_trans hqn (by decide +kernel : (10 : Nat) ^ 101 < 10 ^ 200), by show ((q.den : Int)).natAbs < _; rw [Int.natAbs_natCast]; exact Nat.lt_trans hqd (by decide +kernel : (10 : Nat) ^ 101 < 10 ^ 200)⟩)
  clear hqn hqd
  obtain ⟨rn, hu⟩ : ∃ u, str q.num = u := ⟨_, rfl⟩
  obtain ⟨rd, hv⟩ : ∃ v, str (q.den : Int) = v := ⟨_, rfl⟩
  rw [hu, hv]
  have HU := Lib.hid hu; have HV := Lib.hid hv
  clear hu hv
  have hA := (Below.refl w2.heap.size w2).alloc (Nat.le_refl _) (.cells #[.string rn, .string rd] 23)
  replace B0 := Lib.hid (below1 B0.out hA)
  have Kr := Lib.hid (heap_new' w2 (.cells #[.string rn, .string rd] 23) w2.heap.size rfl)
  replace KX := Lib.hid (bl_up KX.out hA)
  clear hA
  go_upto_region 3 with fail
  obtain ⟨V, hV⟩ : ∃ V, w2.alloc (.cells #[.string rn, .string rd] 23) = V := ⟨_, rfl⟩
  rw [hV] at B0 KX Kr ⊢
  clear hV
  obtain ⟨KX1, KX2, _, _⟩ := box2 KX.out
  obtain ⟨Kr1, Kr2, _, _⟩ := box2 Kr.out
  have KS := Lib.hid (fun w' (h : Below V.heap.size V w') => show w'.cell? ⟨w.heap.size, 0, none⟩ = some (.string xa) ∧ w'.cell? ⟨w.heap.size, 1, none⟩ = some (.string xb) ∧ w'.cell? ⟨w2.heap.size, 0, none⟩ = some (.string rn) ∧ w'.cell? ⟨w2.heap.size, 1, none⟩ = some (.string rd) from ⟨(h.cell (p := ⟨w.heap.size, 0, none⟩) (block_lt_of_cell KX1)).trans KX1, (h.cell (p := ⟨w.heap.size, 1, none⟩) (block_lt_of_cell KX2)).trans KX2, (h.cell (p := ⟨w2.heap.size, 0, none⟩) (block_lt_of_cell Kr1)).trans Kr1, (h.cell (p := ⟨w2.heap.size, 1, none⟩) (block_lt_of_cell Kr2)).trans Kr2⟩)
  have hB : Below V.heap.size V V.drew := (Below.refl _ _).drew
  clear KX1 KX2 Kr1 Kr2
  go_cut [32, 33, 34] (fun sl sn si wx => Sl2 V ya yb rn rd sl sn si wx)
  case first =>
    as_aux_lemma =>
      clear HT HA HR Z1 Z2 HBQ HU HV
      go_region_held3 (fun w' => w'.cell? ⟨w.heap.size, 0, none⟩ = some (.string xa) ∧ w'.cell? ⟨w.heap.size, 1, none⟩ = some (.string xb) ∧ w'.cell? ⟨w2.heap.size, 0, none⟩ = some (.string rn) ∧ w'.cell? ⟨w2.heap.size, 1, none⟩ = some (.string rd))
        (first
          | exact KS.out _ hB
          | go_keep)
        (first
          | (go_at_call 12; (with_reducible refine (CT.out _).mono ?_); rintro e wi ⟨rfl, hb⟩; replace hB := hB.trans (hb.mono hB.size)))
      all_goals
        go_wp2_with fail
        go_meet
        exact ⟨_, _, rfl, rfl, rfl, hB.size, heap_new' _ _ _ rfl, hB.alloc hB.size _⟩
  case rest =>
    obtain ⟨g1, T1, rfl, rfl, rfl, hge, hgc, hb⟩ := hcut
    clear KS hB CT KX hge
    replace B0 := Lib.hid (below1 B0.out hb)
    replace Kr := Lib.hid (bl_up Kr.out hb)
    have Kg := Lib.hid hgc
    clear hb hgc
    have HB := Lib.hid (Below.refl wc.heap.size wc)
    go_wp2
    go_loopw [34] (fun iv wr => Txi iv ∧ Below wc.heap.size wc wr) (fun iv _ => (2 - intOf iv).toNat)
    case atStart => exact ⟨txi 0 (by decide) 0 rfl, HB.out⟩
    case round =>
      clear HB
      obtain ⟨hi, hB0⟩ := hrel
      have HB := Lib.hid hB0
      clear hB0
      rcases hi.ways with rfl | rfl | rfl
      all_goals clear hi
      ·
        as_aux_lemma =>
          have za := Z1.out; have zb := Z2.out
          have FX := tx_f ya yb
          have zt := prS_size (ya, yb)
          have CP := Lib.hid (fun W (hW : Below w.heap.size w W) => print_pr (ya, yb) W ⟨za, zb⟩ (HT.out W hW))
          have CR := Lib.hid (fun W => rqprint_any (ya, yb) W ⟨za, zb⟩)
          have CV := Lib.hid (fun W (hW : Below w.heap.size w W) => qvalid_any ya yb W za zb (HT.out W hW))
          unfold TxF at FX
          generalize prS (ya, yb) = t at *
          have CQ := Lib.hid (fun W (hW : Below w.heap.size w W) => parse_any t W zt (HT.out W hW))
          have CQ' := Lib.hid (fun W (hW : Below w.heap.size w W) => (CQ.out W hW).mono (fun e W' h => show QRes W (oN (parO t)) (oD (parO t)) (oE (parO t)) e W' from h))
          generalize oN (parO t) = tn at *
          generalize oD (parO t) = td at *
          generalize oE (parO t) = te at *
          generalize fV ya yb = vv at *
          simp only at CP CR
          replace B0 := Lib.hid (below1 B0.out HB.out)
          have f0 := (cell_at (bl_up Kg.out HB.out) 0).trans (show _ = some (Value.string ya) from rfl)
          have f1 := (cell_at (bl_up Kg.out HB.out) 1).trans (show _ = some (Value.string yb) from rfl)
          clear CQ za zb zt Kr Kg HT HA HR Z1 Z2 HBQ HU HV
          rcases FX with ⟨rfl, rfl, rfl⟩ | ⟨rfl, hne, rfl, rfl, rfl⟩
          ·
            go_upto_region 6 with fail
            clear f0 f1
            have hA := (Below.refl wr.heap.size wr).alloc (Nat.le_refl _) (.cells #[.string ya, .string yb] 23)
            replace B0 := Lib.hid (below1 B0.out hA)
            have Kp := Lib.hid (heap_new' wr (.cells #[.string ya, .string yb] 23) wr.heap.size rfl)
            clear hA
            replace HB := Lib.hid (HB.out.alloc HB.out.size (.cells #[.string ya, .string yb] 23))
            obtain ⟨p_1, p_2, _, _⟩ := box2 Kp.out
            go_wp2_with fail
            (with_reducible refine (CP.out _ B0.out).mono ?_)
            rintro e w21 ⟨rfl, hb⟩
            replace B0 := Lib.hid (below1 B0.out hb)
            replace HB := Lib.hid (below1 HB.out hb)
            replace Kp := Lib.hid (bl_up Kp.out hb)
            clear hb
            clear p_1 p_2
            go_wp2_with fail
            (with_reducible refine (CQ'.out _ B0.out).mono ?_)
            rintro e w22 ⟨rfl, hb⟩
            replace B0 := Lib.hid (below1 B0.out hb)
            replace HB := Lib.hid (below1 HB.out hb)
            replace Kp := Lib.hid (bl_up Kp.out hb)
            clear hb
            have hA := (Below.refl w22.heap.size w22).alloc (Nat.le_refl _) (.cells #[.string tn, .string td] 23)
            replace B0 := Lib.hid (below1 B0.out hA)
            have Ko := Lib.hid (heap_new' w22 (.cells #[.string tn, .string td] 23) w22.heap.size rfl)
            replace Kp := Lib.hid (bl_up Kp.out hA)
            clear hA
            replace HB := Lib.hid (HB.out.alloc HB.out.size (.cells #[.string tn, .string td] 23))
            obtain ⟨p_1, p_2, _, _⟩ := box2 Kp.out
            go_wp2_with fail
            (with_reducible refine (CR.out _).mono ?_)
            rintro e w23 ⟨rfl, hb⟩
            replace B0 := Lib.hid (below1 B0.out hb)
            replace HB := Lib.hid (below1 HB.out hb)
            replace Kp := Lib.hid (bl_up Kp.out hb)
            replace Ko := Lib.hid (bl_up Ko.out hb)
            clear hb
            clear p_1 p_2
            obtain ⟨p_1, p_2, _, _⟩ := box2 Kp.out
            go_wp2_with fail
            (with_reducible refine (CV.out _ B0.out).mono ?_)
            rintro e w24 ⟨rfl, hb⟩
            replace B0 := Lib.hid (below1 B0.out hb)
            replace HB := Lib.hid (below1 HB.out hb)
            replace Kp := Lib.hid (bl_up Kp.out hb)
            replace Ko := Lib.hid (bl_up Ko.out hb)
            clear hb
            clear p_1 p_2
            obtain ⟨p_1, p_2, _, _⟩ := box2 Kp.out
            obtain ⟨o_1, o_2, _, _⟩ := box2 Ko.out
            go_wp2_with fail
            (with_reducible refine (CV.out _ B0.out).mono ?_)
            rintro e w25 ⟨rfl, hb⟩
            replace B0 := Lib.hid (below1 B0.out hb)
            replace HB := Lib.hid (below1 HB.out hb)
            replace Kp := Lib.hid (bl_up Kp.out hb)
            replace Ko := Lib.hid (bl_up Ko.out hb)
            clear hb
            go_wp2
            go_roundw
            case rel => exact ⟨txi 1 (by decide) _ rfl, HB.out⟩
            case measure => simp [intOf]
          ·
            obtain ⟨e1, e2, e3⟩ := emp_or t hne
            have HN := Lib.hid (And.intro e1 (And.intro e2 e3))
            clear e1 e2 e3 hne
            go_upto_region 6 with fail
            clear f0 f1
            have hA := (Below.refl wr.heap.size wr).alloc (Nat.le_refl _) (.cells #[.string tn, .string td] 23)
            replace B0 := Lib.hid (below1 B0.out hA)
            have Kp := Lib.hid (heap_new' wr (.cells #[.string tn, .string td] 23) wr.heap.size rfl)
            clear hA
            replace HB := Lib.hid (HB.out.alloc HB.out.size (.cells #[.string tn, .string td] 23))
            obtain ⟨p_1, p_2, _, _⟩ := box2 Kp.out
            go_wp2_with fail
            (with_reducible refine (CP.out _ B0.out).mono ?_)
            rintro e w21 ⟨rfl, hb⟩
            replace B0 := Lib.hid (below1 B0.out hb)
            replace HB := Lib.hid (below1 HB.out hb)
            replace Kp := Lib.hid (bl_up Kp.out hb)
            clear hb
            clear p_1 p_2
            go_wp2_with fail
            (with_reducible refine (CQ'.out _ B0.out).mono ?_)
            rintro e w22 ⟨rfl, hb⟩
            replace B0 := Lib.hid (below1 B0.out hb)
            replace HB := Lib.hid (below1 HB.out hb)
            replace Kp := Lib.hid (bl_up Kp.out hb)
            clear hb
            have hA := (Below.refl w22.heap.size w22).alloc (Nat.le_refl _) (.cells #[.string tn, .string td] 23)
            replace B0 := Lib.hid (below1 B0.out hA)
            have Ko := Lib.hid (heap_new' w22 (.cells #[.string tn, .string td] 23) w22.heap.size rfl)
            replace Kp := Lib.hid (bl_up Kp.out hA)
            clear hA
            replace HB := Lib.hid (HB.out.alloc HB.out.size (.cells #[.string tn, .string td] 23))
            obtain ⟨p_1, p_2, _, _⟩ := box2 Kp.out
            go_wp2_with fail
            (with_reducible refine (CR.out _).mono ?_)
            rintro e w23 ⟨rfl, hb⟩
            replace B0 := Lib.hid (below1 B0.out hb)
            replace HB := Lib.hid (below1 HB.out hb)
            replace Kp := Lib.hid (bl_up Kp.out hb)
            replace Ko := Lib.hid (bl_up Ko.out hb)
            clear hb
            clear p_1 p_2
            obtain ⟨p_1, p_2, _, _⟩ := box2 Kp.out
            go_wp2_with fail
            (with_reducible refine (CV.out _ B0.out).mono ?_)
            rintro e w24 ⟨rfl, hb⟩
            replace B0 := Lib.hid (below1 B0.out hb)
            replace HB := Lib.hid (below1 HB.out hb)
            replace Kp := Lib.hid (bl_up Kp.out hb)
            replace Ko := Lib.hid (bl_up Ko.out hb)
            clear hb
            clear p_1 p_2
            obtain ⟨e1, e2, e3⟩ := HN.out
            obtain ⟨p_1, p_2, _, _⟩ := box2 Kp.out
            obtain ⟨o_1, o_2, _, _⟩ := box2 Ko.out
            go_wp2_with fail
            (with_reducible refine (CV.out _ B0.out).mono ?_)
            rintro e w25 ⟨rfl, hb⟩
            replace B0 := Lib.hid (below1 B0.out hb)
            replace HB := Lib.hid (below1 HB.out hb)
            replace Kp := Lib.hid (bl_up Kp.out hb)
            replace Ko := Lib.hid (bl_up Ko.out hb)
            clear hb
            go_wp2
            go_roundw
            case rel => exact ⟨txi 1 (by decide) _ rfl, HB.out⟩
            case measure => simp [intOf]
      ·
        as_aux_lemma =>
          have za : rn.size ≤ 9223372036854775807 := by rw [← HU.out]; exact str_size HBQ.out.1
          have zb : rd.size ≤ 9223372036854775807 := by rw [← HV.out]; exact str_size HBQ.out.2
          have FX := tx_f rn rd
          have zt := prS_size (rn, rd)
          have CP := Lib.hid (fun W (hW : Below w.heap.size w W) => print_pr (rn, rd) W ⟨za, zb⟩ (HT.out W hW))
          have CR := Lib.hid (fun W => rqprint_any (rn, rd) W ⟨za, zb⟩)
          have CV := Lib.hid (fun W (hW : Below w.heap.size w W) => qvalid_any rn rd W za zb (HT.out W hW))
          unfold TxF at FX
          generalize prS (rn, rd) = t at *
          have CQ := Lib.hid (fun W (hW : Below w.heap.size w W) => parse_any t W zt (HT.out W hW))
          have CQ' := Lib.hid (fun W (hW : Below w.heap.size w W) => (CQ.out W hW).mono (fun e W' h => show QRes W (oN (parO t)) (oD (parO t)) (oE (parO t)) e W' from h))
          generalize oN (parO t) = tn at *
          generalize oD (parO t) = td at *
          generalize oE (parO t) = te at *
          generalize fV rn rd = vv at *
          simp only at CP CR
          replace B0 := Lib.hid (below1 B0.out HB.out)
          have f0 := (cell_at (bl_up Kg.out HB.out) 2).trans (show _ = some (Value.string rn) from rfl)
          have f1 := (cell_at (bl_up Kg.out HB.out) 3).trans (show _ = some (Value.string rd) from rfl)
          clear CQ za zb zt Kr Kg HT HA HR Z1 Z2 HBQ HU HV
          rcases FX with ⟨rfl, rfl, rfl⟩ | ⟨rfl, hne, rfl, rfl, rfl⟩
          ·
            go_upto_region 6 with fail
            clear f0 f1
            have hA := (Below.refl wr.heap.size wr).alloc (Nat.le_refl _) (.cells #[.string rn, .string rd] 23)
            replace B0 := Lib.hid (below1 B0.out hA)
            have Kp := Lib.hid (heap_new' wr (.cells #[.string rn, .string rd] 23) wr.heap.size rfl)
            clear hA
            replace HB := Lib.hid (HB.out.alloc HB.out.size (.cells #[.string rn, .string rd] 23))
            obtain ⟨p_1, p_2, _, _⟩ := box2 Kp.out
            go_wp2_with fail
            (with_reducible refine (CP.out _ B0.out).mono ?_)
            rintro e w21 ⟨rfl, hb⟩
            replace B0 := Lib.hid (below1 B0.out hb)
            replace HB := Lib.hid (below1 HB.out hb)
            replace Kp := Lib.hid (bl_up Kp.out hb)
            clear hb
            clear p_1 p_2
            go_wp2_with fail
            (with_reducible refine (CQ'.out _ B0.out).mono ?_)
            rintro e w22 ⟨rfl, hb⟩
            replace B0 := Lib.hid (below1 B0.out hb)
            replace HB := Lib.hid (below1 HB.out hb)
            replace Kp := Lib.hid (bl_up Kp.out hb)
            clear hb
            have hA := (Below.refl w22.heap.size w22).alloc (Nat.le_refl _) (.cells #[.string tn, .string td] 23)
            replace B0 := Lib.hid (below1 B0.out hA)
            have Ko := Lib.hid (heap_new' w22 (.cells #[.string tn, .string td] 23) w22.heap.size rfl)
            replace Kp := Lib.hid (bl_up Kp.out hA)
            clear hA
            replace HB := Lib.hid (HB.out.alloc HB.out.size (.cells #[.string tn, .string td] 23))
            obtain ⟨p_1, p_2, _, _⟩ := box2 Kp.out
            go_wp2_with fail
            (with_reducible refine (CR.out _).mono ?_)
            rintro e w23 ⟨rfl, hb⟩
            replace B0 := Lib.hid (below1 B0.out hb)
            replace HB := Lib.hid (below1 HB.out hb)
            replace Kp := Lib.hid (bl_up Kp.out hb)
            replace Ko := Lib.hid (bl_up Ko.out hb)
            clear hb
            clear p_1 p_2
            obtain ⟨p_1, p_2, _, _⟩ := box2 Kp.out
            go_wp2_with fail
            (with_reducible refine (CV.out _ B0.out).mono ?_)
            rintro e w24 ⟨rfl, hb⟩
            replace B0 := Lib.hid (below1 B0.out hb)
            replace HB := Lib.hid (below1 HB.out hb)
            replace Kp := Lib.hid (bl_up Kp.out hb)
            replace Ko := Lib.hid (bl_up Ko.out hb)
            clear hb
            clear p_1 p_2
            obtain ⟨p_1, p_2, _, _⟩ := box2 Kp.out
            obtain ⟨o_1, o_2, _, _⟩ := box2 Ko.out
            go_wp2_with fail
            (with_reducible refine (CV.out _ B0.out).mono ?_)
            rintro e w25 ⟨rfl, hb⟩
            replace B0 := Lib.hid (below1 B0.out hb)
            replace HB := Lib.hid (below1 HB.out hb)
            replace Kp := Lib.hid (bl_up Kp.out hb)
            replace Ko := Lib.hid (bl_up Ko.out hb)
            clear hb
            go_wp2
            go_roundw
            case rel => exact ⟨txi 2 (by decide) _ rfl, HB.out⟩
            case measure => simp [intOf]
          ·
            obtain ⟨e1, e2, e3⟩ := emp_or t hne
            have HN := Lib.hid (And.intro e1 (And.intro e2 e3))
            clear e1 e2 e3 hne
            go_upto_region 6 with fail
            clear f0 f1
            have hA := (Below.refl wr.heap.size wr).alloc (Nat.le_refl _) (.cells #[.string tn, .string td] 23)
            replace B0 := Lib.hid (below1 B0.out hA)
            have Kp := Lib.hid (heap_new' wr (.cells #[.string tn, .string td] 23) wr.heap.size rfl)
            clear hA
            replace HB := Lib.hid (HB.out.alloc HB.out.size (.cells #[.string tn, .string td] 23))
            obtain ⟨p_1, p_2, _, _⟩ := box2 Kp.out
            go_wp2_with fail
            (with_reducible refine (CP.out _ B0.out).mono ?_)
            rintro e w21 ⟨rfl, hb⟩
            replace B0 := Lib.hid (below1 B0.out hb)
            replace HB := Lib.hid (below1 HB.out hb)
            replace Kp := Lib.hid (bl_up Kp.out hb)
            clear hb
            clear p_1 p_2
            go_wp2_with fail
            (with_reducible refine (CQ'.out _ B0.out).mono ?_)
            rintro e w22 ⟨rfl, hb⟩
            replace B0 := Lib.hid (below1 B0.out hb)
            replace HB := Lib.hid (below1 HB.out hb)
            replace Kp := Lib.hid (bl_up Kp.out hb)
            clear hb
            have hA := (Below.refl w22.heap.size w22).alloc (Nat.le_refl _) (.cells #[.string tn, .string td] 23)
            replace B0 := Lib.hid (below1 B0.out hA)
            have Ko := Lib.hid (heap_new' w22 (.cells #[.string tn, .string td] 23) w22.heap.size rfl)
            replace Kp := Lib.hid (bl_up Kp.out hA)
            clear hA
            replace HB := Lib.hid (HB.out.alloc HB.out.size (.cells #[.string tn, .string td] 23))
            obtain ⟨p_1, p_2, _, _⟩ := box2 Kp.out
            go_wp2_with fail
            (with_reducible refine (CR.out _).mono ?_)
            rintro e w23 ⟨rfl, hb⟩
            replace B0 := Lib.hid (below1 B0.out hb)
            replace HB := Lib.hid (below1 HB.out hb)
            replace Kp := Lib.hid (bl_up Kp.out hb)
            replace Ko := Lib.hid (bl_up Ko.out hb)
            clear hb
            clear p_1 p_2
            obtain ⟨p_1, p_2, _, _⟩ := box2 Kp.out
            go_wp2_with fail
            (with_reducible refine (CV.out _ B0.out).mono ?_)
            rintro e w24 ⟨rfl, hb⟩
            replace B0 := Lib.hid (below1 B0.out hb)
            replace HB := Lib.hid (below1 HB.out hb)
            replace Kp := Lib.hid (bl_up Kp.out hb)
            replace Ko := Lib.hid (bl_up Ko.out hb)
            clear hb
            clear p_1 p_2
            obtain ⟨e1, e2, e3⟩ := HN.out
            obtain ⟨p_1, p_2, _, _⟩ := box2 Kp.out
            obtain ⟨o_1, o_2, _, _⟩ := box2 Ko.out
            go_wp2_with fail
            (with_reducible refine (CV.out _ B0.out).mono ?_)
            rintro e w25 ⟨rfl, hb⟩
            replace B0 := Lib.hid (below1 B0.out hb)
            replace HB := Lib.hid (below1 HB.out hb)
            replace Kp := Lib.hid (bl_up Kp.out hb)
            replace Ko := Lib.hid (bl_up Ko.out hb)
            clear hb
            go_wp2
            go_roundw
            case rel => exact ⟨txi 2 (by decide) _ rfl, HB.out⟩
            case measure => simp [intOf]
      ·
        replace B0 := Lib.hid (below1 B0.out HB.out)
        replace Kr := Lib.hid (bl_up Kr.out HB.out)
        clear HB Kg Z1 Z2
        have CM := Lib.hid (fun W => rqprint_q q HBQ.out W)
        rw [HU.out, HV.out] at CM
        have hps := prQ_size HBQ.out
        generalize prQ q = S at *
        have hs1 := hps.1
        have hs2 := hps.2
        have hne : S.toList ≠ [] := by
          rw [ByteArray.toList_eq]
          intro e
          have : S.data.toList.length = 0 := by rw [e]; rfl
          rw [Array.length_toList] at this
          have h3 : S.data.size = S.size := rfl
          omega
        obtain ⟨e1, e2, e3⟩ := emp_or S hne
        clear HU HV HBQ hps hne
        obtain ⟨r_1, r_2, _, _⟩ := box2 Kr.out
        go_wp2_with fail
        (with_reducible refine (CM.out _).mono ?_)
        rintro e w11 ⟨rfl, hb⟩
        replace B0 := Lib.hid (below1 B0.out hb)
        replace Kr := Lib.hid (bl_up Kr.out hb)
        clear hb
        clear r_1 r_2
        clear Kr CM
        obtain ⟨n, hn⟩ : ∃ n, S.size = n := ⟨_, rfl⟩
        have CK := Lib.hid (lpick_any at0 HA.out.1 HA.out.2 n (by omega) (by omega) (n : Int) rfl)
        go_wp2_with fail
        (with_reducible refine (CK.out _).mono ?_)
        rintro e wk ⟨k, hk, rfl, rfl⟩
        clear CK HA e1 e2 e3
        obtain ⟨m, hm⟩ : ∃ m, min raw.size 420 = m := ⟨_, rfl⟩
        have hmI : min (raw.size : Int) 420 = (m : Int) := by omega
        have m1 : (0 : Int) ≤ (m : Int) := by omega
        have m2 : (m : Int) ≤ (raw.size : Int) := by omega
        have hrI : (raw.size : Int) ≤ 9223372036854775807 := by have := HR.out; omega
        have k1 : (0 : Int) ≤ (k : Int) := by omega
        have k2 : (k : Int) ≤ (S.size : Int) := by omega
        have k3 : (k : Int) + 1 ≤ (S.size : Int) := by omega
        have k4 : (0 : Int) ≤ (k : Int) + 1 := by omega
        have hwi : IntKind.i64.wrap ((k : Int) + 1) = (k : Int) + 1 := wrap_in _ ⟨by omega, by omega⟩
        have htn : ((k : Int) + 1).toNat = k + 1 := by omega
        obtain ⟨t1, ht1⟩ : ∃ t, raw.extract 0 m = t := ⟨_, rfl⟩
        obtain ⟨u1, hu1⟩ : ∃ t, S.extract 0 k = t := ⟨_, rfl⟩
        obtain ⟨u2, hu2⟩ : ∃ t, S.extract (k + 1) n = t := ⟨_, rfl⟩
        have z1 : t1.size ≤ 420 := by rw [← ht1, ByteArray.size_extract]; omega
        have z2 : u1.size ≤ 700 := by rw [← hu1, ByteArray.size_extract]; omega
        have z3 : u2.size ≤ 700 := by rw [← hu2, ByteArray.size_extract]; omega
        obtain ⟨cs, hcs⟩ : ∃ t : ByteArray, ⟨[c].toArray⟩ = t := ⟨_, rfl⟩
        have z4 : cs.size = 1 := by rw [← hcs]; rfl
        obtain ⟨t2, ht2⟩ : ∃ t : ByteArray, (u1 ++ cs) ++ u2 = t := ⟨_, rfl⟩
        have z5 : t2.size ≤ 9223372036854775807 := by rw [← ht2, ByteArray.size_append, ByteArray.size_append]; omega
        have z6 : t1.size ≤ 9223372036854775807 := by omega
        have hcv : ∀ W : World, (convert 48 9 (.slice (some ⟨W.heap.size, 0, none⟩) 1 1)).run Tryz.prog (W.alloc (.cells #[.int .u8 (c.toNat : Int)] 5)) = .ok (.string cs) (W.alloc (.cells #[.int .u8 (c.toNat : Int)] 5)) := fun W => by rw [← hcs]; exact row_back (byte_row1 W c)
        have hcv2 : ∀ W : World, (convert 48 9 (.slice (some ⟨W.heap.size, 0, none⟩) 1 1)).run Tryz.prog (W.alloc (.cells #[.int .u8 (c.toNat : Int)] 5)).drew = .ok (.string cs) (W.alloc (.cells #[.int .u8 (c.toNat : Int)] 5)).drew := fun W => by rw [← hcs]; exact row_back (byte_row2 W c)
        have FY1 := ty_f HT.out t1; have FY2 := ty_f HT.out t2
        have CA1 := Lib.hid (fun W (hW : Below w.heap.size w W) => (parse_any t1 W z6 (HT.out W hW)).mono (fun e W' h => show QRes W (oN (parO t1)) (oD (parO t1)) (oE (parO t1)) e W' from h))
        have CB1 := Lib.hid (fun W => (rqparse_any t1 W z6).mono (fun e W' h => show QRes W (oN (parO t1)) (oD (parO t1)) (oE (parO t1)) e W' from h))
        have CA2 := Lib.hid (fun W (hW : Below w.heap.size w W) => (parse_any t2 W z5 (HT.out W hW)).mono (fun e W' h => show QRes W (oN (parO t2)) (oD (parO t2)) (oE (parO t2)) e W' from h))
        have CB2 := Lib.hid (fun W => (rqparse_any t2 W z5).mono (fun e W' h => show QRes W (oN (parO t2)) (oD (parO t2)) (oE (parO t2)) e W' from h))
        generalize oN (parO t1) = n1 at *
        generalize oD (parO t1) = d1 at *
        generalize oE (parO t1) = v1 at *
        generalize oN (parO t2) = n2 at *
        generalize oD (parO t2) = d2 at *
        generalize oE (parO t2) = v2 at *
        have GY1 := Lib.hid FY1; have GY2 := Lib.hid FY2
        clear FY1 FY2 HT HR hm hcs hk z5 z6
        go_upto_region 15 with fail
        obtain ⟨U, hU⟩ : ∃ U, w11 = U := ⟨_, rfl⟩
        rw [hU] at B0 ⊢
        clear hU
        go_cut [94, 95, 96] (fun sl sn si wx => Sl1 U t1 t2 sl sn si wx)
        case first =>
          as_aux_lemma =>
            clear CA1 CB1 CA2 CB2 GY1 GY2 B0
            go_region
            all_goals
              go_wp2_with fail
              go_meet
              exact ⟨_, _, rfl, rfl, rfl, by simp, heap_new' _ _ _ (by simp), by first | exact ((Below.refl _ _).alloc (Nat.le_refl _) _).alloc (by simp) _ | exact (((Below.refl _ _).alloc (Nat.le_refl _) _).alloc (by simp) _).drew | exact (((Below.refl _ _).alloc (Nat.le_refl _) _).drew).alloc (by simp) _ | exact (((Below.refl _ _).drew).alloc (Nat.le_refl _) _).alloc (by simp) _⟩
        case rest =>
          obtain ⟨g2, T2, rfl, rfl, rfl, hge, hgc, hb⟩ := hcut
          replace B0 := Lib.hid (below1 B0.out hb)
          have Kg := Lib.hid hgc
          clear hb hgc hge hcv hcv2 hmI m1 m2 hrI k1 k2 k3 k4 hwi htn ht1 hu1 hu2 z1 z2 z3 z4 ht2 hs1 hs2 hn
          have HB := Lib.hid (Below.refl wc.heap.size wc)
          go_wp2
          go_loopw [96] (fun iv wr => Txi iv ∧ Below wc.heap.size wc wr) (fun iv _ => (2 - intOf iv).toNat)
          case atStart => exact ⟨txi 0 (by decide) 0 rfl, HB.out⟩
          case round =>
            clear HB
            obtain ⟨hi, hB0⟩ := hrel
            have HB := Lib.hid hB0
            clear hB0
            rcases hi.ways with rfl | rfl | rfl
            all_goals clear hi
            ·
              as_aux_lemma =>
                replace B0 := Lib.hid (below1 B0.out HB.out)
                have f0 := (cell_at (bl_up Kg.out HB.out) 0).trans (show _ = some (Value.string t1) from rfl)
                clear Kg CA2 CB2 GY2
                rcases GY1.out with rfl | ⟨rfl, hpr⟩
                ·
                  clear GY1
                  go_wp2_with fail
                  (with_reducible refine (CA1.out _ B0.out).mono ?_)
                  rintro e w21 ⟨rfl, hb⟩
                  replace B0 := Lib.hid (below1 B0.out hb)
                  replace HB := Lib.hid (below1 HB.out hb)
                  clear hb
                  clear f0
                  have hA := (Below.refl w21.heap.size w21).alloc (Nat.le_refl _) (.cells #[.string n1, .string d1] 23)
                  replace B0 := Lib.hid (below1 B0.out hA)
                  have Kp := Lib.hid (heap_new' w21 (.cells #[.string n1, .string d1] 23) w21.heap.size rfl)
                  clear hA
                  replace HB := Lib.hid (HB.out.alloc HB.out.size (.cells #[.string n1, .string d1] 23))
                  go_wp2_with fail
                  (with_reducible refine (CB1.out _).mono ?_)
                  rintro e w22 ⟨rfl, hb⟩
                  replace B0 := Lib.hid (below1 B0.out hb)
                  replace HB := Lib.hid (below1 HB.out hb)
                  replace Kp := Lib.hid (bl_up Kp.out hb)
                  clear hb
                  have hA := (Below.refl w22.heap.size w22).alloc (Nat.le_refl _) (.cells #[.string n1, .string d1] 23)
                  replace B0 := Lib.hid (below1 B0.out hA)
                  have Ko := Lib.hid (heap_new' w22 (.cells #[.string n1, .string d1] 23) w22.heap.size rfl)
                  replace Kp := Lib.hid (bl_up Kp.out hA)
                  clear hA
                  replace HB := Lib.hid (HB.out.alloc HB.out.size (.cells #[.string n1, .string d1] 23))
                  obtain ⟨p_1, p_2, _, _⟩ := box2 Kp.out
                  obtain ⟨o_1, o_2, _, _⟩ := box2 Ko.out
                  go_wp2
                  go_roundw
                  case rel => exact ⟨txi 1 (by decide) _ rfl, HB.out⟩
                  case measure => simp [intOf]
                ·
                  have CPR := Lib.hid hpr
                  clear hpr
                  clear GY1
                  go_wp2_with fail
                  (with_reducible refine (CA1.out _ B0.out).mono ?_)
                  rintro e w21 ⟨rfl, hb⟩
                  replace B0 := Lib.hid (below1 B0.out hb)
                  replace HB := Lib.hid (below1 HB.out hb)
                  clear hb
                  clear f0
                  have hA := (Below.refl w21.heap.size w21).alloc (Nat.le_refl _) (.cells #[.string n1, .string d1] 23)
                  replace B0 := Lib.hid (below1 B0.out hA)
                  have Kp := Lib.hid (heap_new' w21 (.cells #[.string n1, .string d1] 23) w21.heap.size rfl)
                  clear hA
                  replace HB := Lib.hid (HB.out.alloc HB.out.size (.cells #[.string n1, .string d1] 23))
                  go_wp2_with fail
                  (with_reducible refine (CB1.out _).mono ?_)
                  rintro e w22 ⟨rfl, hb⟩
                  replace B0 := Lib.hid (below1 B0.out hb)
                  replace HB := Lib.hid (below1 HB.out hb)
                  replace Kp := Lib.hid (bl_up Kp.out hb)
                  clear hb
                  have hA := (Below.refl w22.heap.size w22).alloc (Nat.le_refl _) (.cells #[.string n1, .string d1] 23)
                  replace B0 := Lib.hid (below1 B0.out hA)
                  have Ko := Lib.hid (heap_new' w22 (.cells #[.string n1, .string d1] 23) w22.heap.size rfl)
                  replace Kp := Lib.hid (bl_up Kp.out hA)
                  clear hA
                  replace HB := Lib.hid (HB.out.alloc HB.out.size (.cells #[.string n1, .string d1] 23))
                  obtain ⟨p_1, p_2, _, _⟩ := box2 Kp.out
                  obtain ⟨o_1, o_2, _, _⟩ := box2 Ko.out
                  go_wp2_with fail
                  (with_reducible refine (CPR.out _ B0.out).mono ?_)
                  rintro e w23 ⟨rfl, hb⟩
                  replace B0 := Lib.hid (below1 B0.out hb)
                  replace HB := Lib.hid (below1 HB.out hb)
                  replace Kp := Lib.hid (bl_up Kp.out hb)
                  replace Ko := Lib.hid (bl_up Ko.out hb)
                  clear hb
                  go_wp2
                  go_roundw
                  case rel => exact ⟨txi 1 (by decide) _ rfl, HB.out⟩
                  case measure => simp [intOf]
            ·
              as_aux_lemma =>
                replace B0 := Lib.hid (below1 B0.out HB.out)
                have f0 := (cell_at (bl_up Kg.out HB.out) 1).trans (show _ = some (Value.string t2) from rfl)
                clear Kg CA1 CB1 GY1
                rcases GY2.out with rfl | ⟨rfl, hpr⟩
                ·
                  clear GY2
                  go_wp2_with fail
                  (with_reducible refine (CA2.out _ B0.out).mono ?_)
                  rintro e w21 ⟨rfl, hb⟩
                  replace B0 := Lib.hid (below1 B0.out hb)
                  replace HB := Lib.hid (below1 HB.out hb)
                  clear hb
                  clear f0
                  have hA := (Below.refl w21.heap.size w21).alloc (Nat.le_refl _) (.cells #[.string n2, .string d2] 23)
                  replace B0 := Lib.hid (below1 B0.out hA)
                  have Kp := Lib.hid (heap_new' w21 (.cells #[.string n2, .string d2] 23) w21.heap.size rfl)
                  clear hA
                  replace HB := Lib.hid (HB.out.alloc HB.out.size (.cells #[.string n2, .string d2] 23))
                  go_wp2_with fail
                  (with_reducible refine (CB2.out _).mono ?_)
                  rintro e w22 ⟨rfl, hb⟩
                  replace B0 := Lib.hid (below1 B0.out hb)
                  replace HB := Lib.hid (below1 HB.out hb)
                  replace Kp := Lib.hid (bl_up Kp.out hb)
                  clear hb
                  have hA := (Below.refl w22.heap.size w22).alloc (Nat.le_refl _) (.cells #[.string n2, .string d2] 23)
                  replace B0 := Lib.hid (below1 B0.out hA)
                  have Ko := Lib.hid (heap_new' w22 (.cells #[.string n2, .string d2] 23) w22.heap.size rfl)
                  replace Kp := Lib.hid (bl_up Kp.out hA)
                  clear hA
                  replace HB := Lib.hid (HB.out.alloc HB.out.size (.cells #[.string n2, .string d2] 23))
                  obtain ⟨p_1, p_2, _, _⟩ := box2 Kp.out
                  obtain ⟨o_1, o_2, _, _⟩ := box2 Ko.out
                  go_wp2
                  go_roundw
                  case rel => exact ⟨txi 2 (by decide) _ rfl, HB.out⟩
                  case measure => simp [intOf]
                ·
                  have CPR := Lib.hid hpr
                  clear hpr
                  clear GY2
                  go_wp2_with fail
                  (with_reducible refine (CA2.out _ B0.out).mono ?_)
                  rintro e w21 ⟨rfl, hb⟩
                  replace B0 := Lib.hid (below1 B0.out hb)
                  replace HB := Lib.hid (below1 HB.out hb)
                  clear hb
                  clear f0
                  have hA := (Below.refl w21.heap.size w21).alloc (Nat.le_refl _) (.cells #[.string n2, .string d2] 23)
                  replace B0 := Lib.hid (below1 B0.out hA)
                  have Kp := Lib.hid (heap_new' w21 (.cells #[.string n2, .string d2] 23) w21.heap.size rfl)
                  clear hA
                  replace HB := Lib.hid (HB.out.alloc HB.out.size (.cells #[.string n2, .string d2] 23))
                  go_wp2_with fail
                  (with_reducible refine (CB2.out _).mono ?_)
                  rintro e w22 ⟨rfl, hb⟩
                  replace B0 := Lib.hid (below1 B0.out hb)
                  replace HB := Lib.hid (below1 HB.out hb)
                  replace Kp := Lib.hid (bl_up Kp.out hb)
                  clear hb
                  have hA := (Below.refl w22.heap.size w22).alloc (Nat.le_refl _) (.cells #[.string n2, .string d2] 23)
                  replace B0 := Lib.hid (below1 B0.out hA)
                  have Ko := Lib.hid (heap_new' w22 (.cells #[.string n2, .string d2] 23) w22.heap.size rfl)
                  replace Kp := Lib.hid (bl_up Kp.out hA)
                  clear hA
                  replace HB := Lib.hid (HB.out.alloc HB.out.size (.cells #[.string n2, .string d2] 23))
                  obtain ⟨p_1, p_2, _, _⟩ := box2 Kp.out
                  obtain ⟨o_1, o_2, _, _⟩ := box2 Ko.out
                  go_wp2_with fail
                  (with_reducible refine (CPR.out _ B0.out).mono ?_)
                  rintro e w23 ⟨rfl, hb⟩
                  replace B0 := Lib.hid (below1 B0.out hb)
                  replace HB := Lib.hid (below1 HB.out hb)
                  replace Kp := Lib.hid (bl_up Kp.out hb)
                  replace Ko := Lib.hid (bl_up Ko.out hb)
                  clear hb
                  go_wp2
                  go_roundw
                  case rel => exact ⟨txi 2 (by decide) _ rfl, HB.out⟩
                  case measure => simp [intOf]
            ·
              have HF := Lib.hid (below1 B0.out HB.out)
              clear HB B0 Kg CA1 CA2 CB1 CB2 GY1 GY2
              go_wp2
              go_ret
              exact ⟨rfl, HF.out⟩
end Go.Proofs.YtcjcafekacceiaaGreatDoor
