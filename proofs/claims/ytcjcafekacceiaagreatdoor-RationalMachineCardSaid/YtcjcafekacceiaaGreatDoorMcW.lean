/- The walk of RationalMachine. -/
import Derived.BigQuiet
import Derived.Test.YtcjcafekacceiaaGreatDoorSa
import Derived.Test.YtcjcafekacceiaaGreatDoorMc
namespace Go.Proofs.YtcjcafekacceiaaGreatDoor
open Go.RowKit
set_option linter.unusedVariables false
set_option linter.unusedSimpArgs false

set_option maxRecDepth 100000 in
set_option maxHeartbeats 8000000 in
theorem machine_walk (a0 a1 a2 a3 : Int) (b0 : (-9223372036854775808 ≤ a0 ∧ a0 ≤ 9223372036854775807)) (b1 : (-9223372036854775808 ≤ a1 ∧ a1 ≤ 9223372036854775807)) (b2 : (-9223372036854775808 ≤ a2 ∧ a2 ≤ 9223372036854775807)) (b3 : (-9223372036854775808 ≤ a3 ∧ a3 ≤ 9223372036854775807)) (w : World) (ht : Tb w) :
    Calls Tryz.prog 5 #[.int .i64 a0, .int .i64 a1, .int .i64 a2, .int .i64 a3] w (BOut w true) := by
  have HT := Lib.hid (fun W (hW : Below w.heap.size w W) => ht.below hW)
  have CS := Lib.hid (fun W (hW : Below w.heap.size w W) => sane_any W (HT.out W hW))
  clear ht
  have CP0 := Lib.hid (lpick_any a0 b0.1 b0.2 60001 (by decide) (by decide) 60001 rfl)
  have CP2 := Lib.hid (lpick_any a2 b2.1 b2.2 60001 (by decide) (by decide) 60001 rfl)
  have CP1 := Lib.hid (lpick_any a1 b1.1 b1.2 30000 (by decide) (by decide) 30000 rfl)
  have CP3 := Lib.hid (lpick_any a3 b3.1 b3.2 30000 (by decide) (by decide) 30000 rfl)
  clear b0 b1 b2 b3
  have B0 := Lib.hid (Below.refl w.heap.size w)
  go_enter Tryz.func5, Tryz.ntmps5
  go_wp2_with fail
  (with_reducible refine (CS.out _ B0.out).mono ?_)
  rintro e w1 ⟨rfl, hb⟩
  replace B0 := Lib.hid (below1 B0.out hb)
  clear hb
  go_wp2_with fail
  (with_reducible refine (CP0.out _).mono ?_)
  rintro e wq ⟨rn, hn, rfl, rfl⟩
  have hnI : (rn : Int) < 60001 := by omega
  have hnJ : (0 : Int) ≤ (rn : Int) := by omega
  go_wp2_with fail
  (with_reducible refine (CP2.out _).mono ?_)
  rintro e wq ⟨rm, hm, rfl, rfl⟩
  have hmI : (rm : Int) < 60001 := by omega
  have hmJ : (0 : Int) ≤ (rm : Int) := by omega
  go_wp2_with fail
  (with_reducible refine (CP1.out _).mono ?_)
  rintro e wq ⟨rd, hd, rfl, rfl⟩
  have hdI : (rd : Int) < 30000 := by omega
  have hdJ : (0 : Int) ≤ (rd : Int) := by omega
  go_wp2_with fail
  (with_reducible refine (CP3.out _).mono ?_)
  rintro e wq ⟨rc, hc, rfl, rfl⟩
  have hcI : (rc : Int) < 30000 := by omega
  have hcJ : (0 : Int) ≤ (rc : Int) := by omega
  clear CP0 CP1 CP2 CP3 CS hn hm hd hc
  go_wp2_with fail
  obtain ⟨n, hn⟩ : ∃ z : Int, (rn : Int) - 30000 = z := ⟨_, rfl⟩
  obtain ⟨m, hm⟩ : ∃ z : Int, (rm : Int) - 30000 = z := ⟨_, rfl⟩
  obtain ⟨d, hd⟩ : ∃ z : Int, 1 + (rd : Int) = z := ⟨_, rfl⟩
  obtain ⟨c, hc⟩ : ∃ z : Int, 1 + (rc : Int) = z := ⟨_, rfl⟩
  rw [hn, hm, hd, hc]
  obtain ⟨P1, P2, P3, P4, P5, an, ad, bn, bd, n1, d1, n2, d2, n3, d3, n4, d4, e4, MA⟩ := mc_all HT.out (n := n) (m := m) (d := d) (c := c) (by omega) (by omega) (by omega) (by omega)
  clear hn hm hd hc hnI hmI hdI hcI hnJ hmJ hdJ hcJ HT
  obtain ⟨h1, h2, h3, h4, h5, ⟨b1, b2⟩, ⟨b3, b4⟩, ⟨b5, b6⟩, ⟨b7, b8⟩, ⟨b9, b10⟩, o1, o2, f, cc, m1, m2, m3, z⟩ := MA
  have CO1 := Lib.hid o1; have CO2 := Lib.hid o2; have CF := Lib.hid f; have CC := Lib.hid cc; have M1 := Lib.hid m1; have M2 := Lib.hid m2; have M3 := Lib.hid m3; have HZ := Lib.hid z
  clear o1 o2 f cc m1 m2 m3 z
  have HP1 := Lib.hid h1; have HP2 := Lib.hid h2; have HP3 := Lib.hid h3; have HP4 := Lib.hid h4; have HP5 := Lib.hid h5
  clear h1 h2 h3 h4 h5
  (with_reducible refine (CO1.out _ B0.out).mono ?_)
  rintro e w2 ⟨rfl, hb⟩
  replace B0 := Lib.hid (below1 B0.out hb)
  clear hb
  have hA := (Below.refl w2.heap.size w2).alloc (Nat.le_refl _) (.cells #[.string an, .string ad] 23)
  replace B0 := Lib.hid (below1 B0.out hA)
  have Ka := Lib.hid (heap_new' w2 (.cells #[.string an, .string ad] 23) w2.heap.size rfl)
  clear hA
  go_wp2_with fail
  (with_reducible refine (CO2.out _ B0.out).mono ?_)
  rintro e w3 ⟨rfl, hb⟩
  replace B0 := Lib.hid (below1 B0.out hb)
  replace Ka := Lib.hid (bl_up Ka.out hb)
  clear hb
  have hA := (Below.refl w3.heap.size w3).alloc (Nat.le_refl _) (.cells #[.string bn, .string bd] 23)
  replace B0 := Lib.hid (below1 B0.out hA)
  have Kb := Lib.hid (heap_new' w3 (.cells #[.string bn, .string bd] 23) w3.heap.size rfl)
  replace Ka := Lib.hid (bl_up Ka.out hA)
  clear hA
  obtain ⟨a_1, a_2, _, _⟩ := box2 Ka.out
  obtain ⟨b_1, b_2, _, _⟩ := box2 Kb.out
  go_wp2_with fail
  (with_reducible refine (CF.out _ B0.out).mono ?_)
  rintro e w4 ⟨rfl, hb⟩
  replace B0 := Lib.hid (below1 B0.out hb)
  replace Ka := Lib.hid (bl_up Ka.out hb)
  replace Kb := Lib.hid (bl_up Kb.out hb)
  clear hb
  clear a_1 a_2 b_1 b_2
  have h1 := HP1.out; have h2 := HP2.out; have h3 := HP3.out; have h4 := HP4.out; have h5 := HP5.out
  go_wp2
  clear h1 h2 h3 h4 h5
  obtain ⟨g0, hg0⟩ : ∃ g, w4.heap.size = g := ⟨_, rfl⟩
  obtain ⟨U, hU⟩ : ∃ U, ((w4.alloc (.cells #[.string n1, .string d1, .string n2, .string d2, .string n3, .string d3, .string n4, .string d4] 31)).alloc (.cells #[.int .i64 0, .int .i64 0, .int .i64 0, .int .i64 e4] 33)).alloc (.cells #[.int .i64 (P1 + P2), .int .i64 P3, .int .i64 (P1 - P2), .int .i64 P3, .int .i64 P4, .int .i64 P3, .int .i64 P1, .int .i64 P5] 51) = U := ⟨_, rfl⟩
  rw [hU]
  have hA := (((Below.refl w4.heap.size w4).alloc (Nat.le_refl _) (.cells #[.string n1, .string d1, .string n2, .string d2, .string n3, .string d3, .string n4, .string d4] 31)).alloc (by simp) (.cells #[.int .i64 0, .int .i64 0, .int .i64 0, .int .i64 e4] 33)).alloc (by simp <;> omega) (.cells #[.int .i64 (P1 + P2), .int .i64 P3, .int .i64 (P1 - P2), .int .i64 P3, .int .i64 P4, .int .i64 P3, .int .i64 P1, .int .i64 P5] 51)
  rw [hU] at hA
  replace B0 := Lib.hid (below1 B0.out hA)
  have K8 := Lib.hid (show U.heap[w4.heap.size]? = some (.cells #[.string n1, .string d1, .string n2, .string d2, .string n3, .string d3, .string n4, .string d4] 31) from by rw [← hU]; exact (Below.heap_alloc _ _ _ (by simp <;> omega)).trans ((Below.heap_alloc _ _ _ (by simp)).trans (heap_new' _ _ _ rfl)))
  have K4 := Lib.hid (show U.heap[w4.heap.size + 1]? = some (.cells #[.int .i64 0, .int .i64 0, .int .i64 0, .int .i64 e4] 33) from by rw [← hU]; exact (Below.heap_alloc _ _ _ (by simp <;> omega)).trans (heap_new' _ _ _ (by simp)))
  have KW := Lib.hid (show U.heap[w4.heap.size + 2]? = some (.cells #[.int .i64 (P1 + P2), .int .i64 P3, .int .i64 (P1 - P2), .int .i64 P3, .int .i64 P4, .int .i64 P3, .int .i64 P1, .int .i64 P5] 51) from by rw [← hU]; exact heap_new' _ _ _ (by simp))
  replace Ka := Lib.hid (bl_up Ka.out hA)
  replace Kb := Lib.hid (bl_up Kb.out hA)
  clear hA hU hg0 CF CO1 CO2
  have HD : Below U.heap.size U U := Below.refl _ _
  have BU := Lib.hid B0.out
  clear B0
  go_loopw [17] (fun iv wr => Mci iv ∧ Below U.heap.size U wr) (fun iv _ => (4 - intOf iv).toNat)
  case atStart => exact ⟨mci 0 (by decide) 0 rfl, HD⟩
  case round =>
    clear HD
    obtain ⟨hi, hB0⟩ := hrel
    have HB := Lib.hid hB0
    clear hB0
    rcases hi.ways with rfl | rfl | rfl | rfl | rfl
    ·
      clear HZ
      as_aux_lemma =>
        obtain ⟨x, y, hx, hy, hxy, t1, t2, t3⟩ := M1.out
        obtain ⟨Z, z1, z2, z3, z4, z5⟩ := mc_prod hxy hx ⟨by omega, by omega⟩
        have T1 := Lib.hid t1; have T2 := Lib.hid t2; have T3 := Lib.hid t3
        clear t1 t2 t3 hxy z1 z2
        have x1 := hx.1; have x2 := hx.2; have y1 := hy.1; have y2 := hy.2; have z51 := z5.1; have z52 := z5.2
        clear hx hy z5
        have HZ3 := Lib.hid z3; have HZ4 := Lib.hid z4
        clear z3 z4
        clear hi Ka Kb CC HP1 HP2 HP3 HP4 HP5 M1 M2 M3
        have fn := (cell_at (bl_up K8.out (HB.out)) 0).trans (show _ = some (Value.string n1) from rfl)
        go_wp2_with fail
        (with_reducible refine (T1.out _).mono ?_)
        rintro e v1 ⟨rfl, hb⟩
        replace HB := Lib.hid (below1 HB.out hb)
        clear hb fn
        have fd := (cell_at (bl_up K8.out (HB.out)) 1).trans (show _ = some (Value.string d1) from rfl)
        go_wp2_with fail
        (with_reducible refine (T2.out _).mono ?_)
        rintro e v2 ⟨rfl, hb⟩
        replace HB := Lib.hid (below1 HB.out hb)
        clear hb fd
        go_upto_region 18 with fail
        have KS := Lib.hid (fun w' (h : Below v2.heap.size v2 w') => show w'.cell? ⟨w4.heap.size + 1, 0, none⟩ = some (Value.int .i64 0) ∧ w'.cell? ⟨w4.heap.size, 0, none⟩ = some (Value.string n1) ∧ w'.cell? ⟨w4.heap.size, 1, none⟩ = some (Value.string d1) ∧ w'.cell? ⟨w4.heap.size + 2, 0, none⟩ = some (Value.int .i64 (P1 + P2)) ∧ w'.cell? ⟨w4.heap.size + 2, 1, none⟩ = some (Value.int .i64 P3) from ⟨(cell_at (bl_up K4.out (below1 HB.out h)) 0).trans (show _ = some (Value.int .i64 0) from rfl), (cell_at (bl_up K8.out (below1 HB.out h)) 0).trans (show _ = some (Value.string n1) from rfl), (cell_at (bl_up K8.out (below1 HB.out h)) 1).trans (show _ = some (Value.string d1) from rfl), (cell_at (bl_up KW.out (below1 HB.out h)) 0).trans (show _ = some (Value.int .i64 (P1 + P2)) from rfl), (cell_at (bl_up KW.out (below1 HB.out h)) 1).trans (show _ = some (Value.int .i64 P3) from rfl)⟩)
        have hB : Below v2.heap.size v2 v2.drew := (Below.refl _ _).drew
        have z3 := HZ3.out; have z4 := HZ4.out
        have TB := Lib.hid (fun W (h : Below v2.heap.size v2 W) => T3.out W (below1 (below1 BU.out HB.out) h))
        clear K8 K4 KW
        have yd : decide (y < 1) = false := by rw [decide_eq_false_iff_not]; omega
        go_region_held3 (fun w' => w'.cell? ⟨w4.heap.size + 1, 0, none⟩ = some (Value.int .i64 0) ∧ w'.cell? ⟨w4.heap.size, 0, none⟩ = some (Value.string n1) ∧ w'.cell? ⟨w4.heap.size, 1, none⟩ = some (Value.string d1) ∧ w'.cell? ⟨w4.heap.size + 2, 0, none⟩ = some (Value.int .i64 (P1 + P2)) ∧ w'.cell? ⟨w4.heap.size + 2, 1, none⟩ = some (Value.int .i64 P3))
          (first
            | exact KS.out _ hB
            | go_keep)
          (first
            | (go_at_call 29; (with_reducible refine (TB.out _ hB).mono ?_); rintro e wi ⟨rfl, hb⟩; replace hB := hB.trans (hb.mono hB.size)))
        all_goals
          replace HB := Lib.hid (below1 HB.out hB)
          clear hB
          go_wp2
          go_roundw
          case rel => exact ⟨mci 1 (by decide) _ rfl, HB.out⟩
          case measure => simp [intOf]
    ·
      clear HZ
      as_aux_lemma =>
        obtain ⟨x, y, hx, hy, hxy, t1, t2, t3⟩ := M2.out
        obtain ⟨Z, z1, z2, z3, z4, z5⟩ := mc_prod hxy hx ⟨by omega, by omega⟩
        have T1 := Lib.hid t1; have T2 := Lib.hid t2; have T3 := Lib.hid t3
        clear t1 t2 t3 hxy z1 z2
        have x1 := hx.1; have x2 := hx.2; have y1 := hy.1; have y2 := hy.2; have z51 := z5.1; have z52 := z5.2
        clear hx hy z5
        have HZ3 := Lib.hid z3; have HZ4 := Lib.hid z4
        clear z3 z4
        clear hi Ka Kb CC HP1 HP2 HP3 HP4 HP5 M1 M2 M3
        have fn := (cell_at (bl_up K8.out (HB.out)) 2).trans (show _ = some (Value.string n2) from rfl)
        go_wp2_with fail
        (with_reducible refine (T1.out _).mono ?_)
        rintro e v1 ⟨rfl, hb⟩
        replace HB := Lib.hid (below1 HB.out hb)
        clear hb fn
        have fd := (cell_at (bl_up K8.out (HB.out)) 3).trans (show _ = some (Value.string d2) from rfl)
        go_wp2_with fail
        (with_reducible refine (T2.out _).mono ?_)
        rintro e v2 ⟨rfl, hb⟩
        replace HB := Lib.hid (below1 HB.out hb)
        clear hb fd
        go_upto_region 18 with fail
        have KS := Lib.hid (fun w' (h : Below v2.heap.size v2 w') => show w'.cell? ⟨w4.heap.size + 1, 1, none⟩ = some (Value.int .i64 0) ∧ w'.cell? ⟨w4.heap.size, 2, none⟩ = some (Value.string n2) ∧ w'.cell? ⟨w4.heap.size, 3, none⟩ = some (Value.string d2) ∧ w'.cell? ⟨w4.heap.size + 2, 2, none⟩ = some (Value.int .i64 (P1 - P2)) ∧ w'.cell? ⟨w4.heap.size + 2, 3, none⟩ = some (Value.int .i64 P3) from ⟨(cell_at (bl_up K4.out (below1 HB.out h)) 1).trans (show _ = some (Value.int .i64 0) from rfl), (cell_at (bl_up K8.out (below1 HB.out h)) 2).trans (show _ = some (Value.string n2) from rfl), (cell_at (bl_up K8.out (below1 HB.out h)) 3).trans (show _ = some (Value.string d2) from rfl), (cell_at (bl_up KW.out (below1 HB.out h)) 2).trans (show _ = some (Value.int .i64 (P1 - P2)) from rfl), (cell_at (bl_up KW.out (below1 HB.out h)) 3).trans (show _ = some (Value.int .i64 P3) from rfl)⟩)
        have hB : Below v2.heap.size v2 v2.drew := (Below.refl _ _).drew
        have z3 := HZ3.out; have z4 := HZ4.out
        have TB := Lib.hid (fun W (h : Below v2.heap.size v2 W) => T3.out W (below1 (below1 BU.out HB.out) h))
        clear K8 K4 KW
        have yd : decide (y < 1) = false := by rw [decide_eq_false_iff_not]; omega
        go_region_held3 (fun w' => w'.cell? ⟨w4.heap.size + 1, 1, none⟩ = some (Value.int .i64 0) ∧ w'.cell? ⟨w4.heap.size, 2, none⟩ = some (Value.string n2) ∧ w'.cell? ⟨w4.heap.size, 3, none⟩ = some (Value.string d2) ∧ w'.cell? ⟨w4.heap.size + 2, 2, none⟩ = some (Value.int .i64 (P1 - P2)) ∧ w'.cell? ⟨w4.heap.size + 2, 3, none⟩ = some (Value.int .i64 P3))
          (first
            | exact KS.out _ hB
            | go_keep)
          (first
            | (go_at_call 29; (with_reducible refine (TB.out _ hB).mono ?_); rintro e wi ⟨rfl, hb⟩; replace hB := hB.trans (hb.mono hB.size)))
        all_goals
          replace HB := Lib.hid (below1 HB.out hB)
          clear hB
          go_wp2
          go_roundw
          case rel => exact ⟨mci 2 (by decide) _ rfl, HB.out⟩
          case measure => simp [intOf]
    ·
      clear HZ
      as_aux_lemma =>
        obtain ⟨x, y, hx, hy, hxy, t1, t2, t3⟩ := M3.out
        obtain ⟨Z, z1, z2, z3, z4, z5⟩ := mc_prod hxy hx ⟨by omega, by omega⟩
        have T1 := Lib.hid t1; have T2 := Lib.hid t2; have T3 := Lib.hid t3
        clear t1 t2 t3 hxy z1 z2
        have x1 := hx.1; have x2 := hx.2; have y1 := hy.1; have y2 := hy.2; have z51 := z5.1; have z52 := z5.2
        clear hx hy z5
        have HZ3 := Lib.hid z3; have HZ4 := Lib.hid z4
        clear z3 z4
        clear hi Ka Kb CC HP1 HP2 HP3 HP4 HP5 M1 M2 M3
        have fn := (cell_at (bl_up K8.out (HB.out)) 4).trans (show _ = some (Value.string n3) from rfl)
        go_wp2_with fail
        (with_reducible refine (T1.out _).mono ?_)
        rintro e v1 ⟨rfl, hb⟩
        replace HB := Lib.hid (below1 HB.out hb)
        clear hb fn
        have fd := (cell_at (bl_up K8.out (HB.out)) 5).trans (show _ = some (Value.string d3) from rfl)
        go_wp2_with fail
        (with_reducible refine (T2.out _).mono ?_)
        rintro e v2 ⟨rfl, hb⟩
        replace HB := Lib.hid (below1 HB.out hb)
        clear hb fd
        go_upto_region 18 with fail
        have KS := Lib.hid (fun w' (h : Below v2.heap.size v2 w') => show w'.cell? ⟨w4.heap.size + 1, 2, none⟩ = some (Value.int .i64 0) ∧ w'.cell? ⟨w4.heap.size, 4, none⟩ = some (Value.string n3) ∧ w'.cell? ⟨w4.heap.size, 5, none⟩ = some (Value.string d3) ∧ w'.cell? ⟨w4.heap.size + 2, 4, none⟩ = some (Value.int .i64 P4) ∧ w'.cell? ⟨w4.heap.size + 2, 5, none⟩ = some (Value.int .i64 P3) from ⟨(cell_at (bl_up K4.out (below1 HB.out h)) 2).trans (show _ = some (Value.int .i64 0) from rfl), (cell_at (bl_up K8.out (below1 HB.out h)) 4).trans (show _ = some (Value.string n3) from rfl), (cell_at (bl_up K8.out (below1 HB.out h)) 5).trans (show _ = some (Value.string d3) from rfl), (cell_at (bl_up KW.out (below1 HB.out h)) 4).trans (show _ = some (Value.int .i64 P4) from rfl), (cell_at (bl_up KW.out (below1 HB.out h)) 5).trans (show _ = some (Value.int .i64 P3) from rfl)⟩)
        have hB : Below v2.heap.size v2 v2.drew := (Below.refl _ _).drew
        have z3 := HZ3.out; have z4 := HZ4.out
        have TB := Lib.hid (fun W (h : Below v2.heap.size v2 W) => T3.out W (below1 (below1 BU.out HB.out) h))
        clear K8 K4 KW
        have yd : decide (y < 1) = false := by rw [decide_eq_false_iff_not]; omega
        go_region_held3 (fun w' => w'.cell? ⟨w4.heap.size + 1, 2, none⟩ = some (Value.int .i64 0) ∧ w'.cell? ⟨w4.heap.size, 4, none⟩ = some (Value.string n3) ∧ w'.cell? ⟨w4.heap.size, 5, none⟩ = some (Value.string d3) ∧ w'.cell? ⟨w4.heap.size + 2, 4, none⟩ = some (Value.int .i64 P4) ∧ w'.cell? ⟨w4.heap.size + 2, 5, none⟩ = some (Value.int .i64 P3))
          (first
            | exact KS.out _ hB
            | go_keep)
          (first
            | (go_at_call 29; (with_reducible refine (TB.out _ hB).mono ?_); rintro e wi ⟨rfl, hb⟩; replace hB := hB.trans (hb.mono hB.size)))
        all_goals
          replace HB := Lib.hid (below1 HB.out hB)
          clear hB
          go_wp2
          go_roundw
          case rel => exact ⟨mci 3 (by decide) _ rfl, HB.out⟩
          case measure => simp [intOf]
    ·
      rcases HZ.out with ⟨hm0, rfl, rfl, rfl⟩ | ⟨hm0, rfl, hM4⟩
      ·
        have hmb : (m == 0) = true := by rw [hm0]; rfl
        clear hm0 HZ
        as_aux_lemma =>
          have fe := (cell_at (bl_up K4.out HB.out) 3).trans (show _ = some (Value.int .i64 40) from rfl)
          have fn := (cell_at (bl_up K8.out HB.out) 6).trans (show _ = some (Value.string ⟨#[]⟩) from rfl)
          have fd := (cell_at (bl_up K8.out HB.out) 7).trans (show _ = some (Value.string ⟨#[]⟩) from rfl)
          clear hi M1 M2 M3 K8 K4 KW Ka Kb BU CC HP1 HP2 HP3 HP4 HP5
          go_wp2
          go_roundw
          case rel => exact ⟨mci 4 (by decide) _ rfl, HB.out⟩
          case measure => simp [intOf]
      ·
        have hmb : (m == 0) = false := by rw [beq_eq_false_iff_ne]; exact hm0
        clear hm0 HZ
        have M4 := Lib.hid hM4
        clear hM4
        as_aux_lemma =>
          obtain ⟨x, y, hx, hy, hxy, t1, t2, t3⟩ := M4.out
          obtain ⟨Z, z1, z2, z3, z4, z5⟩ := mc_prod hxy hx ⟨by omega, by omega⟩
          have T1 := Lib.hid t1; have T2 := Lib.hid t2; have T3 := Lib.hid t3
          clear t1 t2 t3 hxy z1 z2
          have x1 := hx.1; have x2 := hx.2; have y1 := hy.1; have y2 := hy.2; have z51 := z5.1; have z52 := z5.2
          clear hx hy z5
          have HZ3 := Lib.hid z3; have HZ4 := Lib.hid z4
          clear z3 z4
          clear hi Ka Kb CC HP1 HP2 HP3 HP4 HP5 M1 M2 M3 M4
          have fn := (cell_at (bl_up K8.out (HB.out)) 6).trans (show _ = some (Value.string n4) from rfl)
          go_wp2_with fail
          (with_reducible refine (T1.out _).mono ?_)
          rintro e v1 ⟨rfl, hb⟩
          replace HB := Lib.hid (below1 HB.out hb)
          clear hb fn
          have fd := (cell_at (bl_up K8.out (HB.out)) 7).trans (show _ = some (Value.string d4) from rfl)
          go_wp2_with fail
          (with_reducible refine (T2.out _).mono ?_)
          rintro e v2 ⟨rfl, hb⟩
          replace HB := Lib.hid (below1 HB.out hb)
          clear hb fd
          go_upto_region 18 with fail
          have KS := Lib.hid (fun w' (h : Below v2.heap.size v2 w') => show w'.cell? ⟨w4.heap.size + 1, 3, none⟩ = some (Value.int .i64 0) ∧ w'.cell? ⟨w4.heap.size, 6, none⟩ = some (Value.string n4) ∧ w'.cell? ⟨w4.heap.size, 7, none⟩ = some (Value.string d4) ∧ w'.cell? ⟨w4.heap.size + 2, 6, none⟩ = some (Value.int .i64 P1) ∧ w'.cell? ⟨w4.heap.size + 2, 7, none⟩ = some (Value.int .i64 P5) from ⟨(cell_at (bl_up K4.out (below1 HB.out h)) 3).trans (show _ = some (Value.int .i64 0) from rfl), (cell_at (bl_up K8.out (below1 HB.out h)) 6).trans (show _ = some (Value.string n4) from rfl), (cell_at (bl_up K8.out (below1 HB.out h)) 7).trans (show _ = some (Value.string d4) from rfl), (cell_at (bl_up KW.out (below1 HB.out h)) 6).trans (show _ = some (Value.int .i64 P1) from rfl), (cell_at (bl_up KW.out (below1 HB.out h)) 7).trans (show _ = some (Value.int .i64 P5) from rfl)⟩)
          have hB : Below v2.heap.size v2 v2.drew := (Below.refl _ _).drew
          have z3 := HZ3.out; have z4 := HZ4.out
          have TB := Lib.hid (fun W (h : Below v2.heap.size v2 W) => T3.out W (below1 (below1 BU.out HB.out) h))
          clear K8 K4 KW
          have yd : decide (y < 1) = false := by rw [decide_eq_false_iff_not]; omega
          go_region_held3 (fun w' => w'.cell? ⟨w4.heap.size + 1, 3, none⟩ = some (Value.int .i64 0) ∧ w'.cell? ⟨w4.heap.size, 6, none⟩ = some (Value.string n4) ∧ w'.cell? ⟨w4.heap.size, 7, none⟩ = some (Value.string d4) ∧ w'.cell? ⟨w4.heap.size + 2, 6, none⟩ = some (Value.int .i64 P1) ∧ w'.cell? ⟨w4.heap.size + 2, 7, none⟩ = some (Value.int .i64 P5))
            (first
              | exact KS.out _ hB
              | go_keep)
            (first
              | (go_at_call 29; (with_reducible refine (TB.out _ hB).mono ?_); rintro e wi ⟨rfl, hb⟩; replace hB := hB.trans (hb.mono hB.size)))
          all_goals
            replace HB := Lib.hid (below1 HB.out hB)
            clear hB
            go_wp2
            go_roundw
            case rel => exact ⟨mci 4 (by decide) _ rfl, HB.out⟩
            case measure => simp [intOf]
    ·
      clear HZ
      as_aux_lemma =>
        clear hi M1 M2 M3 K8 K4 KW
        replace Ka := Lib.hid (bl_up Ka.out HB.out)
        replace Kb := Lib.hid (bl_up Kb.out HB.out)
        have B0 := Lib.hid (below1 BU.out HB.out)
        clear HB BU
        have h1 := HP1.out; have h2 := HP2.out
        rcases Int.lt_trichotomy P1 P2 with hlt | hlt | hlt
        ·
          have hc : cmpZ P1 P2 = -1 := by
            unfold cmpZ
            rw [if_pos hlt]
          rw [hc] at CC
          clear hc
          have d1 : decide (P1 < P2) = true := by rw [decide_eq_true_eq]; omega
          clear hlt
          obtain ⟨a_1, a_2, _, _⟩ := box2 Ka.out
          obtain ⟨b_1, b_2, _, _⟩ := box2 Kb.out
          go_wp2_with fail
          (with_reducible refine (CC.out _ B0.out).mono ?_)
          rintro e v1 ⟨rfl, hb⟩
          have HF := Lib.hid (below1 B0.out hb)
          clear hb Ka Kb h1 h2
          go_wp2
          go_ret
          exact ⟨rfl, HF.out⟩
        ·
          have hc : cmpZ P1 P2 = 0 := by
            unfold cmpZ
            rw [if_neg (by omega), if_neg (by omega)]
          rw [hc] at CC
          clear hc
          have d1 : decide (P1 < P2) = false := by rw [decide_eq_false_iff_not]; omega
          have d2 : decide (P2 < P1) = false := by rw [decide_eq_false_iff_not]; omega
          clear hlt
          obtain ⟨a_1, a_2, _, _⟩ := box2 Ka.out
          obtain ⟨b_1, b_2, _, _⟩ := box2 Kb.out
          go_wp2_with fail
          (with_reducible refine (CC.out _ B0.out).mono ?_)
          rintro e v1 ⟨rfl, hb⟩
          have HF := Lib.hid (below1 B0.out hb)
          clear hb Ka Kb h1 h2
          go_wp2
          go_ret
          exact ⟨rfl, HF.out⟩
        ·
          have hc : cmpZ P1 P2 = 1 := by
            unfold cmpZ
            rw [if_neg (by omega), if_pos (by omega)]
          rw [hc] at CC
          clear hc
          have d1 : decide (P1 < P2) = false := by rw [decide_eq_false_iff_not]; omega
          have d2 : decide (P2 < P1) = true := by rw [decide_eq_true_eq]; omega
          clear hlt
          obtain ⟨a_1, a_2, _, _⟩ := box2 Ka.out
          obtain ⟨b_1, b_2, _, _⟩ := box2 Kb.out
          go_wp2_with fail
          (with_reducible refine (CC.out _ B0.out).mono ?_)
          rintro e v1 ⟨rfl, hb⟩
          have HF := Lib.hid (below1 B0.out hb)
          clear hb Ka Kb h1 h2
          go_wp2
          go_ret
          exact ⟨rfl, HF.out⟩
end Go.Proofs.YtcjcafekacceiaaGreatDoor
