/- The walk of RationalField. -/
import Derived.Test.YtcjcafekacceiaaGreatDoorSa
import Derived.Test.YtcjcafekacceiaaGreatDoorLg
import Derived.Test.YtcjcafekacceiaaGreatDoorFr
namespace Go.Proofs.YtcjcafekacceiaaGreatDoor
open Go.RowKit
set_option linter.unusedVariables false
set_option linter.unusedSimpArgs false

set_option maxRecDepth 100000 in
set_option maxHeartbeats 8000000 in
theorem field_walk_t (x0 x1 x2 x3 y0 y1 y2 y3 z0 z1 : Int) (bx0 : (-9223372036854775808 ≤ x0 ∧ x0 ≤ 9223372036854775807)) (bx1 : (-9223372036854775808 ≤ x1 ∧ x1 ≤ 9223372036854775807)) (bx2 : (-9223372036854775808 ≤ x2 ∧ x2 ≤ 9223372036854775807)) (bx3 : (-9223372036854775808 ≤ x3 ∧ x3 ≤ 9223372036854775807)) (by0 : (-9223372036854775808 ≤ y0 ∧ y0 ≤ 9223372036854775807)) (by1 : (-9223372036854775808 ≤ y1 ∧ y1 ≤ 9223372036854775807)) (by2 : (-9223372036854775808 ≤ y2 ∧ y2 ≤ 9223372036854775807)) (by3 : (-9223372036854775808 ≤ y3 ∧ y3 ≤ 9223372036854775807)) (bz0 : (-9223372036854775808 ≤ z0 ∧ z0 ≤ 9223372036854775807)) (bz1 : (-9223372036854775808 ≤ z1 ∧ z1 ≤ 9223372036854775807)) (w : World) (ht : Tb w) :
    Calls Tryz.prog 6 #[.agg #[.int .i64 x0, .int .i64 x1, .int .i64 x2, .int .i64 x3], .agg #[.int .i64 y0, .int .i64 y1, .int .i64 y2, .int .i64 y3], .agg #[.int .i64 z0, .int .i64 z1], .bool true] w (BOut w true) := by
  obtain ⟨W0, hW0⟩ : ∃ V, ((w.alloc (.cells #[.int .i64 x0, .int .i64 x1, .int .i64 x2, .int .i64 x3] 24)).alloc (.cells #[.int .i64 y0, .int .i64 y1, .int .i64 y2, .int .i64 y3] 24)).alloc (.cells #[.int .i64 z0, .int .i64 z1] 25) = V := ⟨_, rfl⟩
  have B0 := Lib.hid (show Below w.heap.size w W0 from by rw [← hW0]; exact (((Below.refl w.heap.size w).alloc (Nat.le_refl _) _).alloc (by simp <;> omega) _).alloc (by simp <;> omega) _)
  have KX0 := Lib.hid (show W0.heap[w.heap.size]? = some (.cells #[.int .i64 x0, .int .i64 x1, .int .i64 x2, .int .i64 x3] 24) from by rw [← hW0]; exact (Below.heap_alloc _ _ _ (by simp <;> omega)).trans ((Below.heap_alloc _ _ _ (by simp <;> omega)).trans (heap_new' _ _ _ rfl)))
  have KX1 := Lib.hid (show W0.heap[w.heap.size + 1]? = some (.cells #[.int .i64 y0, .int .i64 y1, .int .i64 y2, .int .i64 y3] 24) from by rw [← hW0]; exact (Below.heap_alloc _ _ _ (by simp <;> omega)).trans (heap_new' _ _ _ (by simp)))
  have KX2 := Lib.hid (show W0.heap[w.heap.size + 2]? = some (.cells #[.int .i64 z0, .int .i64 z1] 25) from by rw [← hW0]; exact heap_new' _ _ _ (by simp))
  have HT := Lib.hid (fun W (hW : Below w.heap.size w W) => ht.below hW)
  have CS := Lib.hid (fun W (hW : Below w.heap.size w W) => sane_any W (HT.out W hW))
  clear ht
  have CL0 := Lib.hid (small_any x0 x1 bx0.1 bx0.2 bx1.1 bx1.2)
  have CL1 := Lib.hid (small_any y0 y1 by0.1 by0.2 by1.1 by1.2)
  have CL2 := Lib.hid (small_any z0 z1 bz0.1 bz0.2 bz1.1 bz1.2)
  have CG0 := Lib.hid (long_any x0 x1 x2 x3 bx0 bx1 bx2 bx3)
  have CG1 := Lib.hid (long_any y0 y1 y2 y3 by0 by1 by2 by3)
  clear bx0 bx1 bx2 bx3 by0 by1 by2 by3 bz0 bz1
  go_enter Tryz.func6, Tryz.ntmps6
  go_wp2_with fail
  (with_reducible refine (CS.out _ B0.out).mono ?_)
  rintro e w1 ⟨rfl, hb⟩
  replace B0 := Lib.hid (below1 B0.out hb)
  replace KX0 := Lib.hid (bl_up KX0.out hb)
  replace KX1 := Lib.hid (bl_up KX1.out hb)
  replace KX2 := Lib.hid (bl_up KX2.out hb)
  clear hb
  clear hW0 CS
  obtain ⟨c0, c1, c2, c3⟩ := box4f KX0.out
  go_wp2_with fail
  (with_reducible refine (CL0.out _).mono ?_)
  rintro e w2 ⟨qa, hn, hd, rfl, hb⟩
  replace B0 := Lib.hid (below1 B0.out hb)
  replace KX0 := Lib.hid (bl_up KX0.out hb)
  replace KX1 := Lib.hid (bl_up KX1.out hb)
  replace KX2 := Lib.hid (bl_up KX2.out hb)
  clear hb
  clear c0 c1 c2 c3 CL0
  have HSa := Lib.hid (And.intro hn hd)
  have HBa := Lib.hid (show BQ qa from ⟨Nat.lt_trans hn (by decide +kernel : (10 : Nat) ^ 3 < 10 ^ 200), by show ((qa.den : Int)).natAbs < _; rw [Int.natAbs_natCast]; exact Nat.lt_trans hd (by decide +kernel : (10 : Nat) ^ 3 < 10 ^ 200)⟩)
  clear hn hd
  obtain ⟨an, han⟩ : ∃ u, str qa.num = u := ⟨_, rfl⟩
  obtain ⟨ad, had⟩ : ∃ u, str (qa.den : Int) = u := ⟨_, rfl⟩
  rw [han, had]
  have HNa := Lib.hid han; have HDa := Lib.hid had
  clear han had
  have Ga := Lib.hid B0.out.size
  have LX0a := Lib.hid (Array.getElem?_eq_some_iff.1 KX0.out).1
  have LX1a := Lib.hid (Array.getElem?_eq_some_iff.1 KX1.out).1
  have hA := (Below.refl w2.heap.size w2).alloc (Nat.le_refl _) (.cells #[.string an, .string ad] 23)
  replace B0 := Lib.hid (below1 B0.out hA)
  have Ka := Lib.hid (heap_new' w2 (.cells #[.string an, .string ad] 23) w2.heap.size rfl)
  replace KX0 := Lib.hid (bl_up KX0.out hA)
  replace KX1 := Lib.hid (bl_up KX1.out hA)
  replace KX2 := Lib.hid (bl_up KX2.out hA)
  clear hA
  obtain ⟨c0, c1, c2, c3⟩ := box4f KX1.out
  go_wp2_with fail
  (with_reducible refine (CL1.out _).mono ?_)
  rintro e w3 ⟨qb, hn, hd, rfl, hb⟩
  replace B0 := Lib.hid (below1 B0.out hb)
  replace KX0 := Lib.hid (bl_up KX0.out hb)
  replace KX1 := Lib.hid (bl_up KX1.out hb)
  replace KX2 := Lib.hid (bl_up KX2.out hb)
  replace Ka := Lib.hid (bl_up Ka.out hb)
  clear hb
  clear c0 c1 c2 c3 CL1
  have HSb := Lib.hid (And.intro hn hd)
  have HBb := Lib.hid (show BQ qb from ⟨Nat.lt_trans hn (by decide +kernel : (10 : Nat) ^ 3 < 10 ^ 200), by show ((qb.den : Int)).natAbs < _; rw [Int.natAbs_natCast]; exact Nat.lt_trans hd (by decide +kernel : (10 : Nat) ^ 3 < 10 ^ 200)⟩)
  clear hn hd
  obtain ⟨bn, hbn⟩ : ∃ u, str qb.num = u := ⟨_, rfl⟩
  obtain ⟨bd, hbd⟩ : ∃ u, str (qb.den : Int) = u := ⟨_, rfl⟩
  rw [hbn, hbd]
  have HNb := Lib.hid hbn; have HDb := Lib.hid hbd
  clear hbn hbd
  have Lab := Lib.hid (Array.getElem?_eq_some_iff.1 Ka.out).1
  have Gb := Lib.hid B0.out.size
  have LX0b := Lib.hid (Array.getElem?_eq_some_iff.1 KX0.out).1
  have LX1b := Lib.hid (Array.getElem?_eq_some_iff.1 KX1.out).1
  have hA := (Below.refl w3.heap.size w3).alloc (Nat.le_refl _) (.cells #[.string bn, .string bd] 23)
  replace B0 := Lib.hid (below1 B0.out hA)
  have Kb := Lib.hid (heap_new' w3 (.cells #[.string bn, .string bd] 23) w3.heap.size rfl)
  replace KX0 := Lib.hid (bl_up KX0.out hA)
  replace KX1 := Lib.hid (bl_up KX1.out hA)
  replace KX2 := Lib.hid (bl_up KX2.out hA)
  replace Ka := Lib.hid (bl_up Ka.out hA)
  clear hA
  obtain ⟨c0, c1, c2, c3⟩ := box2 KX2.out
  go_wp2_with fail
  (with_reducible refine (CL2.out _).mono ?_)
  rintro e w4 ⟨qc, hn, hd, rfl, hb⟩
  replace B0 := Lib.hid (below1 B0.out hb)
  replace KX0 := Lib.hid (bl_up KX0.out hb)
  replace KX1 := Lib.hid (bl_up KX1.out hb)
  replace KX2 := Lib.hid (bl_up KX2.out hb)
  replace Ka := Lib.hid (bl_up Ka.out hb)
  replace Kb := Lib.hid (bl_up Kb.out hb)
  clear hb
  clear c0 c1 c2 c3 CL2
  clear KX2
  have HSc := Lib.hid (And.intro hn hd)
  have HBc := Lib.hid (show BQ qc from ⟨Nat.lt_trans hn (by decide +kernel : (10 : Nat) ^ 3 < 10 ^ 200), by show ((qc.den : Int)).natAbs < _; rw [Int.natAbs_natCast]; exact Nat.lt_trans hd (by decide +kernel : (10 : Nat) ^ 3 < 10 ^ 200)⟩)
  clear hn hd
  obtain ⟨cn, hcn⟩ : ∃ u, str qc.num = u := ⟨_, rfl⟩
  obtain ⟨cd, hcd⟩ : ∃ u, str (qc.den : Int) = u := ⟨_, rfl⟩
  rw [hcn, hcd]
  have HNc := Lib.hid hcn; have HDc := Lib.hid hcd
  clear hcn hcd
  have Lac := Lib.hid (Array.getElem?_eq_some_iff.1 Ka.out).1
  have Lbc := Lib.hid (Array.getElem?_eq_some_iff.1 Kb.out).1
  have hA := (Below.refl w4.heap.size w4).alloc (Nat.le_refl _) (.cells #[.string cn, .string cd] 23)
  replace B0 := Lib.hid (below1 B0.out hA)
  have Kc := Lib.hid (heap_new' w4 (.cells #[.string cn, .string cd] 23) w4.heap.size rfl)
  replace KX0 := Lib.hid (bl_up KX0.out hA)
  replace KX1 := Lib.hid (bl_up KX1.out hA)
  replace Ka := Lib.hid (bl_up Ka.out hA)
  replace Kb := Lib.hid (bl_up Kb.out hA)
  clear hA
  clear HNa HDa HBa HSa
  obtain ⟨c0, c1, c2, c3⟩ := box4f KX0.out
  skip
  go_wp2_with fail
  (with_reducible refine (CG0.out _).mono ?_)
  rintro e w5 ⟨pa, hn, hd, rfl, hb⟩
  replace B0 := Lib.hid (below1 B0.out hb)
  replace KX0 := Lib.hid (bl_up KX0.out hb)
  replace KX1 := Lib.hid (bl_up KX1.out hb)
  replace Ka := Lib.hid (bl_up Ka.out hb)
  replace Kb := Lib.hid (bl_up Kb.out hb)
  replace Kc := Lib.hid (bl_up Kc.out hb)
  clear hb
  clear c0 c1 c2 c3 CG0
  skip
  have HBa := Lib.hid (show BQ pa from ⟨Nat.lt_trans hn (by decide +kernel : (10 : Nat) ^ 101 < 10 ^ 200), by show ((pa.den : Int)).natAbs < _; rw [Int.natAbs_natCast]; exact Nat.lt_trans hd (by decide +kernel : (10 : Nat) ^ 101 < 10 ^ 200)⟩)
  clear hn hd
  obtain ⟨am, han⟩ : ∃ u, str pa.num = u := ⟨_, rfl⟩
  obtain ⟨ae, had⟩ : ∃ u, str (pa.den : Int) = u := ⟨_, rfl⟩
  rw [han, had]
  have HNa := Lib.hid han; have HDa := Lib.hid had
  clear han had
  obtain ⟨x1, x2, x3, x4⟩ := box2 Ka.out
  obtain ⟨Za, hZa⟩ : ∃ V, (w5.setCell ⟨w2.heap.size, 0, none⟩ (.string am)).setCell ⟨w2.heap.size, 1, none⟩ (.string ae) = V := ⟨_, rfl⟩
  replace B0 := Lib.hid (show Below w.heap.size w Za from by rw [← hZa]; exact put2_below B0.out Ga.out _ _)
  clear KX0
  replace KX1 := Lib.hid (show Za.heap[w.heap.size + 1]? = some (.cells #[.int .i64 y0, .int .i64 y1, .int .i64 y2, .int .i64 y3] 24) from by rw [← hZa]; have hl := LX1a.out; exact set_far (set_far KX1.out (by omega) _) (by omega) _)
  replace Ka := Lib.hid (show Za.heap[w2.heap.size]? = some (.cells #[.string am, .string ae] 23) from by rw [← hZa]; exact put2_heap Ka.out _ _)
  replace Kb := Lib.hid (show Za.heap[w3.heap.size]? = some (.cells #[.string bn, .string bd] 23) from by rw [← hZa]; have hl := Lab.out; exact set_far (set_far Kb.out (by omega) _) (by omega) _)
  replace Kc := Lib.hid (show Za.heap[w4.heap.size]? = some (.cells #[.string cn, .string cd] 23) from by rw [← hZa]; have hl := Lac.out; exact set_far (set_far Kc.out (by omega) _) (by omega) _)
  clear HNb HDb HBb HSb
  obtain ⟨c0, c1, c2, c3⟩ := box4f KX1.out
  skip
  go_wp2_with fail
  (with_reducible refine (CG1.out _).mono ?_)
  rintro e w6 ⟨pb, hn, hd, rfl, hb⟩
  replace B0 := Lib.hid (below1 B0.out hb)
  replace KX1 := Lib.hid (bl_up KX1.out hb)
  replace Ka := Lib.hid (bl_up Ka.out hb)
  replace Kb := Lib.hid (bl_up Kb.out hb)
  replace Kc := Lib.hid (bl_up Kc.out hb)
  clear hb
  clear c0 c1 c2 c3 CG1
  skip
  have HBb := Lib.hid (show BQ pb from ⟨Nat.lt_trans hn (by decide +kernel : (10 : Nat) ^ 101 < 10 ^ 200), by show ((pb.den : Int)).natAbs < _; rw [Int.natAbs_natCast]; exact Nat.lt_trans hd (by decide +kernel : (10 : Nat) ^ 101 < 10 ^ 200)⟩)
  clear hn hd
  obtain ⟨bm, hbn⟩ : ∃ u, str pb.num = u := ⟨_, rfl⟩
  obtain ⟨be, hbd⟩ : ∃ u, str (pb.den : Int) = u := ⟨_, rfl⟩
  rw [hbn, hbd]
  have HNb := Lib.hid hbn; have HDb := Lib.hid hbd
  clear hbn hbd
  obtain ⟨x1, x2, x3, x4⟩ := box2 Kb.out
  obtain ⟨Zb, hZb⟩ : ∃ V, (w6.setCell ⟨w3.heap.size, 0, none⟩ (.string bm)).setCell ⟨w3.heap.size, 1, none⟩ (.string be) = V := ⟨_, rfl⟩
  replace B0 := Lib.hid (show Below w.heap.size w Zb from by rw [← hZb]; exact put2_below B0.out Gb.out _ _)
  clear KX1
  replace Ka := Lib.hid (show Zb.heap[w2.heap.size]? = some (.cells #[.string am, .string ae] 23) from by rw [← hZb]; have hl := Lab.out; exact set_far (set_far Ka.out (by omega) _) (by omega) _)
  replace Kb := Lib.hid (show Zb.heap[w3.heap.size]? = some (.cells #[.string bm, .string be] 23) from by rw [← hZb]; exact put2_heap Kb.out _ _)
  replace Kc := Lib.hid (show Zb.heap[w4.heap.size]? = some (.cells #[.string cn, .string cd] 23) from by rw [← hZb]; have hl := Lbc.out; exact set_far (set_far Kc.out (by omega) _) (by omega) _)
  have CF1 := Lib.hid (fun W (hW : Below w.heap.size w W) => show Calls Tryz.prog 15 #[.agg #[.string am, .string ae], .agg #[.string bm, .string be]] W (FRes W (oN (add2 pa pb)) (oD (add2 pa pb)) (oN (sub2 pa pb)) (oD (sub2 pa pb)) (oN (mul2 pa pb)) (oD (mul2 pa pb)) (oN (div2 pa pb)) (oD (div2 pa pb)) (oE (add2 pa pb)) (oE (sub2 pa pb)) (oE (mul2 pa pb)) (oE (div2 pa pb))) from by rw [← HNa.out, ← HDa.out, ← HNb.out, ← HDb.out]; exact four_o HT.out (ob_some HBa.out) (ob_some HBb.out) W hW)
  have CF2 := Lib.hid (fun W (hW : Below w.heap.size w W) => show Calls Tryz.prog 15 #[.agg #[.string bm, .string be], .agg #[.string am, .string ae]] W (FRes W (oN (add2 pa pb)) (oD (add2 pa pb)) (oN (sub2 pb pa)) (oD (sub2 pb pa)) (oN (mul2 pa pb)) (oD (mul2 pa pb)) (oN (div2 pb pa)) (oD (div2 pb pa)) (oE (add2 pa pb)) (oE (sub2 pb pa)) (oE (mul2 pa pb)) (oE (div2 pb pa))) from by rw [← HNb.out, ← HDb.out, ← HNa.out, ← HDa.out]; rw [add2_comm pa pb, mul2_comm pa pb]; exact four_o HT.out (ob_some HBb.out) (ob_some HBa.out) W hW)
  have CF3 := Lib.hid (fun W (hW : Below w.heap.size w W) => show Calls Tryz.prog 15 #[.agg #[.string bm, .string be], .agg #[.string cn, .string cd]] W (FRes W (oN (add2 pb qc)) (oD (add2 pb qc)) (oN (sub2 pb qc)) (oD (sub2 pb qc)) (oN (mul2 pb qc)) (oD (mul2 pb qc)) (oN (div2 pb qc)) (oD (div2 pb qc)) (oE (add2 pb qc)) (oE (sub2 pb qc)) (oE (mul2 pb qc)) (oE (div2 pb qc))) from by rw [← HNb.out, ← HDb.out, ← HNc.out, ← HDc.out]; exact four_o HT.out (ob_some HBb.out) (ob_some HBc.out) W hW)
  have CF4 := Lib.hid (fun W (hW : Below w.heap.size w W) => show Calls Tryz.prog 15 #[.agg #[.string (oN (add2 pa pb)), .string (oD (add2 pa pb))], .agg #[.string cn, .string cd]] W (FRes W (oN (opt2 add2 (add2 pa pb) (some qc))) (oD (opt2 add2 (add2 pa pb) (some qc))) (oN (opt2 sub2 (add2 pa pb) (some qc))) (oD (opt2 sub2 (add2 pa pb) (some qc))) (oN (opt2 mul2 (add2 pa pb) (some qc))) (oD (opt2 mul2 (add2 pa pb) (some qc))) (oN (opt2 div2 (add2 pa pb) (some qc))) (oD (opt2 div2 (add2 pa pb) (some qc))) (oE (opt2 add2 (add2 pa pb) (some qc))) (oE (opt2 sub2 (add2 pa pb) (some qc))) (oE (opt2 mul2 (add2 pa pb) (some qc))) (oE (opt2 div2 (add2 pa pb) (some qc)))) from by rw [← HNc.out, ← HDc.out]; exact four_o HT.out (ob_add pa pb) (ob_some HBc.out) W hW)
  have CO1 := Lib.hid (fun W (hW : Below w.heap.size w W) => show Calls Tryz.prog 38 #[.agg #[.string am, .string ae], .agg #[.string (oN (add2 pb qc)), .string (oD (add2 pb qc))]] W (QRes W (oN (opt2 add2 (some pa) (add2 pb qc))) (oD (opt2 add2 (some pa) (add2 pb qc))) (oE (opt2 add2 (some pa) (add2 pb qc)))) from by rw [← HNa.out, ← HDa.out]; exact add_o HT.out (ob_some HBa.out) (ob_add pb qc) W hW)
  have CO2 := Lib.hid (fun W (hW : Below w.heap.size w W) => show Calls Tryz.prog 39 #[.agg #[.string am, .string ae], .agg #[.string (oN (mul2 pb qc)), .string (oD (mul2 pb qc))]] W (QRes W (oN (opt2 mul2 (some pa) (mul2 pb qc))) (oD (opt2 mul2 (some pa) (mul2 pb qc))) (oE (opt2 mul2 (some pa) (mul2 pb qc)))) from by rw [← HNa.out, ← HDa.out]; exact mul_o HT.out (ob_some HBa.out) (ob_mul pb qc) W hW)
  have CO3 := Lib.hid (fun W (hW : Below w.heap.size w W) => show Calls Tryz.prog 39 #[.agg #[.string (oN (mul2 pa pb)), .string (oD (mul2 pa pb))], .agg #[.string cn, .string cd]] W (QRes W (oN (opt2 mul2 (mul2 pa pb) (some qc))) (oD (opt2 mul2 (mul2 pa pb) (some qc))) (oE (opt2 mul2 (mul2 pa pb) (some qc)))) from by rw [← HNc.out, ← HDc.out]; exact mul_o HT.out (ob_mul pa pb) (ob_some HBc.out) W hW)
  have CO4 := Lib.hid (fun W (hW : Below w.heap.size w W) => show Calls Tryz.prog 39 #[.agg #[.string am, .string ae], .agg #[.string cn, .string cd]] W (QRes W (oN (mul2 pa qc)) (oD (mul2 pa qc)) (oE (mul2 pa qc))) from by rw [← HNa.out, ← HDa.out, ← HNc.out, ← HDc.out]; exact mul_o HT.out (ob_some HBa.out) (ob_some HBc.out) W hW)
  have CO5 := Lib.hid (fun W (hW : Below w.heap.size w W) => show Calls Tryz.prog 38 #[.agg #[.string (oN (mul2 pa qc)), .string (oD (mul2 pa qc))], .agg #[.string (oN (mul2 pb qc)), .string (oD (mul2 pb qc))]] W (QRes W (oN (opt2 add2 (mul2 pa qc) (mul2 pb qc))) (oD (opt2 add2 (mul2 pa qc) (mul2 pb qc))) (oE (opt2 add2 (mul2 pa qc) (mul2 pb qc)))) from by exact add_o HT.out (ob_mul pa qc) (ob_mul pb qc) W hW)
  have CO6 := Lib.hid (fun W (hW : Below w.heap.size w W) => show Calls Tryz.prog 39 #[.agg #[.string (oN (add2 pa pb)), .string (oD (add2 pa pb))], .agg #[.string cn, .string cd]] W (QRes W (oN (opt2 mul2 (add2 pa pb) (some qc))) (oD (opt2 mul2 (add2 pa pb) (some qc))) (oE (opt2 mul2 (add2 pa pb) (some qc)))) from by rw [← HNc.out, ← HDc.out]; exact mul_o HT.out (ob_add pa pb) (ob_some HBc.out) W hW)
  have CO7 := Lib.hid (fun W (hW : Below w.heap.size w W) => show Calls Tryz.prog 40 #[.agg #[.string (oN (add2 pa pb)), .string (oD (add2 pa pb))], .agg #[.string bm, .string be]] W (QRes W (oN (opt2 sub2 (add2 pa pb) (some pb))) (oD (opt2 sub2 (add2 pa pb) (some pb))) (oE (opt2 sub2 (add2 pa pb) (some pb)))) from by rw [← HNb.out, ← HDb.out]; exact sub_o HT.out (ob_add pa pb) (ob_some HBb.out) W hW)
  have CO8 := Lib.hid (fun W (hW : Below w.heap.size w W) => show Calls Tryz.prog 39 #[.agg #[.string (oN (div2 pa pb)), .string (oD (div2 pa pb))], .agg #[.string bm, .string be]] W (QRes W (oN (opt2 mul2 (div2 pa pb) (some pb))) (oD (opt2 mul2 (div2 pa pb) (some pb))) (oE (opt2 mul2 (div2 pa pb) (some pb)))) from by rw [← HNb.out, ← HDb.out]; exact mul_o HT.out (ob_div pa pb) (ob_some HBb.out) W hW)
  have P1 := (fun h => Or.imp_right (fun h => Or.imp_right (fun h => Or.imp_right (fun h => Or.imp_right (fun ⟨h1, h2, h3, h4, h5⟩ => (And.intro h1 (And.intro h2 (And.intro h3 (And.intro h4 (And.intro (congrArg oN h5) (congrArg oD h5))))))) h) h) h) h) (field_one pa pb qc)
  have P2 := (fun h => Or.imp_right (fun h => Or.imp_right (fun h => Or.imp_right (fun h => Or.imp_right (fun ⟨h1, h2, h3, h4, h5⟩ => (And.intro h1 (And.intro h2 (And.intro h3 (And.intro h4 (And.intro (congrArg oN h5) (congrArg oD h5))))))) h) h) h) h) (field_two pa pb qc)
  have P3 := (fun h => Or.imp_right (fun h => Or.imp_right (fun h => Or.imp_right (fun h => Or.imp_right (fun h => Or.imp_right (fun ⟨h1, h2, h3, h4, h5, h6⟩ => (And.intro h1 (And.intro h2 (And.intro h3 (And.intro h4 (And.intro h5 (And.intro (congrArg oN h6) (congrArg oD h6)))))))) h) h) h) h) h) (field_three pa pb qc)
  have P4 := (fun h => Or.imp_right (fun h => Or.imp_right (fun ⟨h1, h2, h3⟩ => (And.intro h1 (And.intro h2 (And.intro (congrArg oN h3) (congrArg oD h3))))) h) h) (field_back pa pb)
  have P5 := (fun h => Or.imp_right (fun h => Or.imp_right (fun ⟨h1, h2, h3⟩ => (And.intro h1 (And.intro h2 (And.intro (congrArg oN h3) (congrArg oD h3))))) h) h) (field_again pa pb)
  simp only [show oN (some pa) = am from HNa.out, show oD (some pa) = ae from HDa.out] at P4 P5
  generalize oN (opt2 add2 (add2 pa pb) (some qc)) = v1n at *
  generalize oD (opt2 add2 (add2 pa pb) (some qc)) = v1d at *
  generalize oE (opt2 add2 (add2 pa pb) (some qc)) = v1e at *
  generalize oN (opt2 sub2 (add2 pa pb) (some qc)) = v2n at *
  generalize oD (opt2 sub2 (add2 pa pb) (some qc)) = v2d at *
  generalize oE (opt2 sub2 (add2 pa pb) (some qc)) = v2e at *
  generalize oN (opt2 mul2 (add2 pa pb) (some qc)) = v3n at *
  generalize oD (opt2 mul2 (add2 pa pb) (some qc)) = v3d at *
  generalize oE (opt2 mul2 (add2 pa pb) (some qc)) = v3e at *
  generalize oN (opt2 div2 (add2 pa pb) (some qc)) = v4n at *
  generalize oD (opt2 div2 (add2 pa pb) (some qc)) = v4d at *
  generalize oE (opt2 div2 (add2 pa pb) (some qc)) = v4e at *
  generalize oN (opt2 add2 (some pa) (add2 pb qc)) = onen at *
  generalize oD (opt2 add2 (some pa) (add2 pb qc)) = oned at *
  generalize oE (opt2 add2 (some pa) (add2 pb qc)) = onee at *
  generalize oN (opt2 mul2 (some pa) (mul2 pb qc)) = twon at *
  generalize oD (opt2 mul2 (some pa) (mul2 pb qc)) = twod at *
  generalize oE (opt2 mul2 (some pa) (mul2 pb qc)) = twoe at *
  generalize oN (opt2 mul2 (mul2 pa pb) (some qc)) = leftn at *
  generalize oD (opt2 mul2 (mul2 pa pb) (some qc)) = leftd at *
  generalize oE (opt2 mul2 (mul2 pa pb) (some qc)) = lefte at *
  generalize oN (opt2 add2 (mul2 pa qc) (mul2 pb qc)) = sumn at *
  generalize oD (opt2 add2 (mul2 pa qc) (mul2 pb qc)) = sumd at *
  generalize oE (opt2 add2 (mul2 pa qc) (mul2 pb qc)) = sume at *
  generalize oN (opt2 sub2 (add2 pa pb) (some pb)) = backn at *
  generalize oD (opt2 sub2 (add2 pa pb) (some pb)) = backd at *
  generalize oE (opt2 sub2 (add2 pa pb) (some pb)) = backe at *
  generalize oN (opt2 mul2 (div2 pa pb) (some pb)) = againn at *
  generalize oD (opt2 mul2 (div2 pa pb) (some pb)) = againd at *
  generalize oE (opt2 mul2 (div2 pa pb) (some pb)) = againe at *
  generalize oN (add2 pa pb) = r1n at *
  generalize oD (add2 pa pb) = r1d at *
  generalize oE (add2 pa pb) = r1e at *
  generalize oN (sub2 pa pb) = r2n at *
  generalize oD (sub2 pa pb) = r2d at *
  generalize oE (sub2 pa pb) = r2e at *
  generalize oN (mul2 pa pb) = r3n at *
  generalize oD (mul2 pa pb) = r3d at *
  generalize oE (mul2 pa pb) = r3e at *
  generalize oN (div2 pa pb) = r4n at *
  generalize oD (div2 pa pb) = r4d at *
  generalize oE (div2 pa pb) = r4e at *
  generalize oN (sub2 pb pa) = s2n at *
  generalize oD (sub2 pb pa) = s2d at *
  generalize oE (sub2 pb pa) = s2e at *
  generalize oN (div2 pb pa) = s4n at *
  generalize oD (div2 pb pa) = s4d at *
  generalize oE (div2 pb pa) = s4e at *
  generalize oN (add2 pb qc) = u1n at *
  generalize oD (add2 pb qc) = u1d at *
  generalize oE (add2 pb qc) = u1e at *
  generalize oN (sub2 pb qc) = u2n at *
  generalize oD (sub2 pb qc) = u2d at *
  generalize oE (sub2 pb qc) = u2e at *
  generalize oN (mul2 pb qc) = u3n at *
  generalize oD (mul2 pb qc) = u3d at *
  generalize oE (mul2 pb qc) = u3e at *
  generalize oN (div2 pb qc) = u4n at *
  generalize oD (div2 pb qc) = u4d at *
  generalize oE (div2 pb qc) = u4e at *
  generalize oN (mul2 pa qc) = acn at *
  generalize oD (mul2 pa qc) = acd at *
  generalize oE (mul2 pa qc) = ace at *
  have D1 := Lib.hid P1
  clear P1
  have D2 := Lib.hid P2
  clear P2
  have D3 := Lib.hid P3
  clear P3
  have D4 := Lib.hid P4
  clear P4
  have D5 := Lib.hid P5
  clear P5
  clear HNa HDa HBa HNb HDb HBb HNc HDc HBc HT
  obtain ⟨a_1, a_2, _, _⟩ := box2 Ka.out
  obtain ⟨b_1, b_2, _, _⟩ := box2 Kb.out
  go_wp2_with fail
  (with_reducible refine (CF1.out _ B0.out).mono ?_)
  rintro e w7 ⟨rfl, hb⟩
  replace B0 := Lib.hid (below1 B0.out hb)
  replace Ka := Lib.hid (bl_up Ka.out hb)
  replace Kb := Lib.hid (bl_up Kb.out hb)
  replace Kc := Lib.hid (bl_up Kc.out hb)
  clear hb
  clear a_1 a_2 b_1 b_2
  have hA := ((Below.refl w7.heap.size w7).alloc (Nat.le_refl _) (.cells #[.string r1n, .string r1d, .string r2n, .string r2d, .string r3n, .string r3d, .string r4n, .string r4d] 31)).alloc (by simp) (.cells #[.int .i64 r1e, .int .i64 r2e, .int .i64 r3e, .int .i64 r4e] 33)
  replace B0 := Lib.hid (below1 B0.out hA)
  have Kr8 := Lib.hid (show ((w7.alloc (.cells #[.string r1n, .string r1d, .string r2n, .string r2d, .string r3n, .string r3d, .string r4n, .string r4d] 31)).alloc (.cells #[.int .i64 r1e, .int .i64 r2e, .int .i64 r3e, .int .i64 r4e] 33)).heap[w7.heap.size]? = some (.cells #[.string r1n, .string r1d, .string r2n, .string r2d, .string r3n, .string r3d, .string r4n, .string r4d] 31) from (Below.heap_alloc _ _ _ (by simp)).trans (heap_new' _ _ _ rfl))
  have Kr4 := Lib.hid (show ((w7.alloc (.cells #[.string r1n, .string r1d, .string r2n, .string r2d, .string r3n, .string r3d, .string r4n, .string r4d] 31)).alloc (.cells #[.int .i64 r1e, .int .i64 r2e, .int .i64 r3e, .int .i64 r4e] 33)).heap[w7.heap.size + 1]? = some (.cells #[.int .i64 r1e, .int .i64 r2e, .int .i64 r3e, .int .i64 r4e] 33) from heap_new' _ _ _ (by simp))
  replace Ka := Lib.hid (bl_up Ka.out hA)
  replace Kb := Lib.hid (bl_up Kb.out hA)
  replace Kc := Lib.hid (bl_up Kc.out hA)
  clear hA
  obtain ⟨a_1, a_2, _, _⟩ := box2 Ka.out
  obtain ⟨b_1, b_2, _, _⟩ := box2 Kb.out
  go_wp2_with fail
  (with_reducible refine (CF2.out _ B0.out).mono ?_)
  rintro e w8 ⟨rfl, hb⟩
  replace B0 := Lib.hid (below1 B0.out hb)
  replace Ka := Lib.hid (bl_up Ka.out hb)
  replace Kb := Lib.hid (bl_up Kb.out hb)
  replace Kc := Lib.hid (bl_up Kc.out hb)
  replace Kr8 := Lib.hid (bl_up Kr8.out hb)
  replace Kr4 := Lib.hid (bl_up Kr4.out hb)
  clear hb
  clear a_1 a_2 b_1 b_2
  have hA := ((Below.refl w8.heap.size w8).alloc (Nat.le_refl _) (.cells #[.string r1n, .string r1d, .string s2n, .string s2d, .string r3n, .string r3d, .string s4n, .string s4d] 31)).alloc (by simp) (.cells #[.int .i64 r1e, .int .i64 s2e, .int .i64 r3e, .int .i64 s4e] 33)
  replace B0 := Lib.hid (below1 B0.out hA)
  have Ks8 := Lib.hid (show ((w8.alloc (.cells #[.string r1n, .string r1d, .string s2n, .string s2d, .string r3n, .string r3d, .string s4n, .string s4d] 31)).alloc (.cells #[.int .i64 r1e, .int .i64 s2e, .int .i64 r3e, .int .i64 s4e] 33)).heap[w8.heap.size]? = some (.cells #[.string r1n, .string r1d, .string s2n, .string s2d, .string r3n, .string r3d, .string s4n, .string s4d] 31) from (Below.heap_alloc _ _ _ (by simp)).trans (heap_new' _ _ _ rfl))
  have Ks4 := Lib.hid (show ((w8.alloc (.cells #[.string r1n, .string r1d, .string s2n, .string s2d, .string r3n, .string r3d, .string s4n, .string s4d] 31)).alloc (.cells #[.int .i64 r1e, .int .i64 s2e, .int .i64 r3e, .int .i64 s4e] 33)).heap[w8.heap.size + 1]? = some (.cells #[.int .i64 r1e, .int .i64 s2e, .int .i64 r3e, .int .i64 s4e] 33) from heap_new' _ _ _ (by simp))
  replace Ka := Lib.hid (bl_up Ka.out hA)
  replace Kb := Lib.hid (bl_up Kb.out hA)
  replace Kc := Lib.hid (bl_up Kc.out hA)
  replace Kr8 := Lib.hid (bl_up Kr8.out hA)
  replace Kr4 := Lib.hid (bl_up Kr4.out hA)
  clear hA
  go_upto_region 10 with fail
  obtain ⟨U, hU⟩ : ∃ U, (w8.alloc (.cells #[.string r1n, .string r1d, .string s2n, .string s2d, .string r3n, .string r3d, .string s4n, .string s4d] 31)).alloc (.cells #[.int .i64 r1e, .int .i64 s2e, .int .i64 r3e, .int .i64 s4e] 33) = U := ⟨_, rfl⟩
  rw [hU] at B0 ⊢
  rw [hU] at Ka
  rw [hU] at Kb
  rw [hU] at Kc
  rw [hU] at Kr8
  rw [hU] at Kr4
  rw [hU] at Ks8
  rw [hU] at Ks4
  clear hU
  have hB := Below.refl U.heap.size U
  go_cut [108] (fun bv wx => bv = .bool false ∧ Below U.heap.size U wx)
  case first =>
    as_aux_lemma =>
      have fr8_0 := (cell_at Kr8.out 0).trans (show _ = some (Value.string r1n) from rfl)
      have fr8_1 := (cell_at Kr8.out 1).trans (show _ = some (Value.string r1d) from rfl)
      have fr8_4 := (cell_at Kr8.out 4).trans (show _ = some (Value.string r3n) from rfl)
      have fr8_5 := (cell_at Kr8.out 5).trans (show _ = some (Value.string r3d) from rfl)
      have fs8_0 := (cell_at Ks8.out 0).trans (show _ = some (Value.string r1n) from rfl)
      have fs8_1 := (cell_at Ks8.out 1).trans (show _ = some (Value.string r1d) from rfl)
      have fs8_4 := (cell_at Ks8.out 4).trans (show _ = some (Value.string r3n) from rfl)
      have fs8_5 := (cell_at Ks8.out 5).trans (show _ = some (Value.string r3d) from rfl)
      have fr4_0 := (cell_at Kr4.out 0).trans (show _ = some (Value.int .i64 r1e) from rfl)
      have fr4_2 := (cell_at Kr4.out 2).trans (show _ = some (Value.int .i64 r3e) from rfl)
      have fs4_0 := (cell_at Ks4.out 0).trans (show _ = some (Value.int .i64 r1e) from rfl)
      have fs4_2 := (cell_at Ks4.out 2).trans (show _ = some (Value.int .i64 r3e) from rfl)
      clear CF1 CF2 CF3 CF4 CO1 CO2 CO3 CO4 CO5 CO6 CO7 CO8 D1 D2 D3 D4 D5 Ka Kb Kc Kr8 Kr4 Ks8 Ks4
      go_wp2_with fail
      go_meet
      exact ⟨rfl, hB⟩
  case rest =>
    obtain ⟨rfl, hb⟩ := hcut
    clear hB
    replace B0 := Lib.hid (below1 B0.out hb)
    replace Ka := Lib.hid (bl_up Ka.out hb)
    replace Kb := Lib.hid (bl_up Kb.out hb)
    replace Kc := Lib.hid (bl_up Kc.out hb)
    replace Kr8 := Lib.hid (bl_up Kr8.out hb)
    replace Kr4 := Lib.hid (bl_up Kr4.out hb)
    replace Ks8 := Lib.hid (bl_up Ks8.out hb)
    replace Ks4 := Lib.hid (bl_up Ks4.out hb)
    clear hb
    clear Ks8 Ks4 CF1 CF2
    obtain ⟨b_1, b_2, _, _⟩ := box2 Kb.out
    obtain ⟨c_1, c_2, _, _⟩ := box2 Kc.out
    go_wp2_with fail
    (with_reducible refine (CF3.out _ B0.out).mono ?_)
    rintro e w9 ⟨rfl, hb⟩
    replace B0 := Lib.hid (below1 B0.out hb)
    replace Ka := Lib.hid (bl_up Ka.out hb)
    replace Kb := Lib.hid (bl_up Kb.out hb)
    replace Kc := Lib.hid (bl_up Kc.out hb)
    replace Kr8 := Lib.hid (bl_up Kr8.out hb)
    replace Kr4 := Lib.hid (bl_up Kr4.out hb)
    clear hb
    clear b_1 b_2 c_1 c_2
    have hA := ((Below.refl w9.heap.size w9).alloc (Nat.le_refl _) (.cells #[.string u1n, .string u1d, .string u2n, .string u2d, .string u3n, .string u3d, .string u4n, .string u4d] 31)).alloc (by simp) (.cells #[.int .i64 u1e, .int .i64 u2e, .int .i64 u3e, .int .i64 u4e] 33)
    replace B0 := Lib.hid (below1 B0.out hA)
    have Ku8 := Lib.hid (show ((w9.alloc (.cells #[.string u1n, .string u1d, .string u2n, .string u2d, .string u3n, .string u3d, .string u4n, .string u4d] 31)).alloc (.cells #[.int .i64 u1e, .int .i64 u2e, .int .i64 u3e, .int .i64 u4e] 33)).heap[w9.heap.size]? = some (.cells #[.string u1n, .string u1d, .string u2n, .string u2d, .string u3n, .string u3d, .string u4n, .string u4d] 31) from (Below.heap_alloc _ _ _ (by simp)).trans (heap_new' _ _ _ rfl))
    have Ku4 := Lib.hid (show ((w9.alloc (.cells #[.string u1n, .string u1d, .string u2n, .string u2d, .string u3n, .string u3d, .string u4n, .string u4d] 31)).alloc (.cells #[.int .i64 u1e, .int .i64 u2e, .int .i64 u3e, .int .i64 u4e] 33)).heap[w9.heap.size + 1]? = some (.cells #[.int .i64 u1e, .int .i64 u2e, .int .i64 u3e, .int .i64 u4e] 33) from heap_new' _ _ _ (by simp))
    replace Ka := Lib.hid (bl_up Ka.out hA)
    replace Kb := Lib.hid (bl_up Kb.out hA)
    replace Kc := Lib.hid (bl_up Kc.out hA)
    replace Kr8 := Lib.hid (bl_up Kr8.out hA)
    replace Kr4 := Lib.hid (bl_up Kr4.out hA)
    clear hA
    have fr8_0 := (cell_at Kr8.out 0).trans (show _ = some (Value.string r1n) from rfl)
    have fr8_1 := (cell_at Kr8.out 1).trans (show _ = some (Value.string r1d) from rfl)
    obtain ⟨c_1, c_2, _, _⟩ := box2 Kc.out
    go_wp2_with fail
    (with_reducible refine (CF4.out _ B0.out).mono ?_)
    rintro e w10 ⟨rfl, hb⟩
    replace B0 := Lib.hid (below1 B0.out hb)
    replace Ka := Lib.hid (bl_up Ka.out hb)
    replace Kb := Lib.hid (bl_up Kb.out hb)
    replace Kc := Lib.hid (bl_up Kc.out hb)
    replace Kr8 := Lib.hid (bl_up Kr8.out hb)
    replace Kr4 := Lib.hid (bl_up Kr4.out hb)
    replace Ku8 := Lib.hid (bl_up Ku8.out hb)
    replace Ku4 := Lib.hid (bl_up Ku4.out hb)
    clear hb
    clear fr8_0 fr8_1 c_1 c_2
    have hA := ((Below.refl w10.heap.size w10).alloc (Nat.le_refl _) (.cells #[.string v1n, .string v1d, .string v2n, .string v2d, .string v3n, .string v3d, .string v4n, .string v4d] 31)).alloc (by simp) (.cells #[.int .i64 v1e, .int .i64 v2e, .int .i64 v3e, .int .i64 v4e] 33)
    replace B0 := Lib.hid (below1 B0.out hA)
    have Kv8 := Lib.hid (show ((w10.alloc (.cells #[.string v1n, .string v1d, .string v2n, .string v2d, .string v3n, .string v3d, .string v4n, .string v4d] 31)).alloc (.cells #[.int .i64 v1e, .int .i64 v2e, .int .i64 v3e, .int .i64 v4e] 33)).heap[w10.heap.size]? = some (.cells #[.string v1n, .string v1d, .string v2n, .string v2d, .string v3n, .string v3d, .string v4n, .string v4d] 31) from (Below.heap_alloc _ _ _ (by simp)).trans (heap_new' _ _ _ rfl))
    have Kv4 := Lib.hid (show ((w10.alloc (.cells #[.string v1n, .string v1d, .string v2n, .string v2d, .string v3n, .string v3d, .string v4n, .string v4d] 31)).alloc (.cells #[.int .i64 v1e, .int .i64 v2e, .int .i64 v3e, .int .i64 v4e] 33)).heap[w10.heap.size + 1]? = some (.cells #[.int .i64 v1e, .int .i64 v2e, .int .i64 v3e, .int .i64 v4e] 33) from heap_new' _ _ _ (by simp))
    replace Ka := Lib.hid (bl_up Ka.out hA)
    replace Kb := Lib.hid (bl_up Kb.out hA)
    replace Kc := Lib.hid (bl_up Kc.out hA)
    replace Kr8 := Lib.hid (bl_up Kr8.out hA)
    replace Kr4 := Lib.hid (bl_up Kr4.out hA)
    replace Ku8 := Lib.hid (bl_up Ku8.out hA)
    replace Ku4 := Lib.hid (bl_up Ku4.out hA)
    clear hA
    obtain ⟨a_1, a_2, _, _⟩ := box2 Ka.out
    have fu8_0 := (cell_at Ku8.out 0).trans (show _ = some (Value.string u1n) from rfl)
    have fu8_1 := (cell_at Ku8.out 1).trans (show _ = some (Value.string u1d) from rfl)
    go_wp2_with fail
    (with_reducible refine (CO1.out _ B0.out).mono ?_)
    rintro e w11 ⟨rfl, hb⟩
    replace B0 := Lib.hid (below1 B0.out hb)
    replace Ka := Lib.hid (bl_up Ka.out hb)
    replace Kb := Lib.hid (bl_up Kb.out hb)
    replace Kc := Lib.hid (bl_up Kc.out hb)
    replace Kr8 := Lib.hid (bl_up Kr8.out hb)
    replace Kr4 := Lib.hid (bl_up Kr4.out hb)
    replace Ku8 := Lib.hid (bl_up Ku8.out hb)
    replace Ku4 := Lib.hid (bl_up Ku4.out hb)
    replace Kv8 := Lib.hid (bl_up Kv8.out hb)
    replace Kv4 := Lib.hid (bl_up Kv4.out hb)
    clear hb
    clear a_1 a_2 fu8_0 fu8_1
    have hA := (Below.refl w11.heap.size w11).alloc (Nat.le_refl _) (.cells #[.string onen, .string oned] 23)
    replace B0 := Lib.hid (below1 B0.out hA)
    have Kone := Lib.hid (heap_new' w11 (.cells #[.string onen, .string oned] 23) w11.heap.size rfl)
    replace Ka := Lib.hid (bl_up Ka.out hA)
    replace Kb := Lib.hid (bl_up Kb.out hA)
    replace Kc := Lib.hid (bl_up Kc.out hA)
    replace Kr8 := Lib.hid (bl_up Kr8.out hA)
    replace Kr4 := Lib.hid (bl_up Kr4.out hA)
    replace Ku8 := Lib.hid (bl_up Ku8.out hA)
    replace Ku4 := Lib.hid (bl_up Ku4.out hA)
    replace Kv8 := Lib.hid (bl_up Kv8.out hA)
    replace Kv4 := Lib.hid (bl_up Kv4.out hA)
    clear hA
    go_upto_region 15 with fail
    obtain ⟨U, hU⟩ : ∃ U, w11.alloc (.cells #[.string onen, .string oned] 23) = U := ⟨_, rfl⟩
    rw [hU] at B0 ⊢
    rw [hU] at Ka
    rw [hU] at Kb
    rw [hU] at Kc
    rw [hU] at Kr8
    rw [hU] at Kr4
    rw [hU] at Ku8
    rw [hU] at Ku4
    rw [hU] at Kv8
    rw [hU] at Kv4
    rw [hU] at Kone
    clear hU
    have hB := Below.refl U.heap.size U
    go_cut [151] (fun bv wx => bv = .bool false ∧ Below U.heap.size U wx)
    case first =>
      as_aux_lemma =>
        have fr4_0 := (cell_at Kr4.out 0).trans (show _ = some (Value.int .i64 r1e) from rfl)
        have fu4_0 := (cell_at Ku4.out 0).trans (show _ = some (Value.int .i64 u1e) from rfl)
        have fv4_0 := (cell_at Kv4.out 0).trans (show _ = some (Value.int .i64 v1e) from rfl)
        have fv8_0 := (cell_at Kv8.out 0).trans (show _ = some (Value.string v1n) from rfl)
        have fv8_1 := (cell_at Kv8.out 1).trans (show _ = some (Value.string v1d) from rfl)
        obtain ⟨one_1, one_2, _, _⟩ := box2 Kone.out
        clear CF3 CF4 CO1 CO2 CO3 CO4 CO5 CO6 CO7 CO8 D2 D3 D4 D5 Ka Kb Kc Kr8 Kr4 Ku8 Ku4 Kv8 Kv4 Kone
        rcases D1.out with rfl | ⟨rfl, rfl⟩ | ⟨rfl, rfl, rfl⟩ | ⟨rfl, rfl, rfl, rfl⟩ | ⟨rfl, rfl, rfl, rfl, rfl, rfl⟩
        all_goals
          as_aux_lemma =>
            go_wp2_with fail
            go_meet
            exact ⟨rfl, hB⟩
    case rest =>
      obtain ⟨rfl, hb⟩ := hcut
      clear hB
      replace B0 := Lib.hid (below1 B0.out hb)
      replace Ka := Lib.hid (bl_up Ka.out hb)
      replace Kb := Lib.hid (bl_up Kb.out hb)
      replace Kc := Lib.hid (bl_up Kc.out hb)
      replace Kr8 := Lib.hid (bl_up Kr8.out hb)
      replace Kr4 := Lib.hid (bl_up Kr4.out hb)
      replace Ku8 := Lib.hid (bl_up Ku8.out hb)
      replace Ku4 := Lib.hid (bl_up Ku4.out hb)
      replace Kv8 := Lib.hid (bl_up Kv8.out hb)
      replace Kv4 := Lib.hid (bl_up Kv4.out hb)
      replace Kone := Lib.hid (bl_up Kone.out hb)
      clear hb
      clear Kv8 Kv4 Kone CF3 CF4 CO1 D1
      obtain ⟨a_1, a_2, _, _⟩ := box2 Ka.out
      have fu8_4 := (cell_at Ku8.out 4).trans (show _ = some (Value.string u3n) from rfl)
      have fu8_5 := (cell_at Ku8.out 5).trans (show _ = some (Value.string u3d) from rfl)
      go_wp2_with fail
      (with_reducible refine (CO2.out _ B0.out).mono ?_)
      rintro e w12 ⟨rfl, hb⟩
      replace B0 := Lib.hid (below1 B0.out hb)
      replace Ka := Lib.hid (bl_up Ka.out hb)
      replace Kb := Lib.hid (bl_up Kb.out hb)
      replace Kc := Lib.hid (bl_up Kc.out hb)
      replace Kr8 := Lib.hid (bl_up Kr8.out hb)
      replace Kr4 := Lib.hid (bl_up Kr4.out hb)
      replace Ku8 := Lib.hid (bl_up Ku8.out hb)
      replace Ku4 := Lib.hid (bl_up Ku4.out hb)
      clear hb
      clear a_1 a_2 fu8_4 fu8_5
      have hA := (Below.refl w12.heap.size w12).alloc (Nat.le_refl _) (.cells #[.string twon, .string twod] 23)
      replace B0 := Lib.hid (below1 B0.out hA)
      have Ktwo := Lib.hid (heap_new' w12 (.cells #[.string twon, .string twod] 23) w12.heap.size rfl)
      replace Ka := Lib.hid (bl_up Ka.out hA)
      replace Kb := Lib.hid (bl_up Kb.out hA)
      replace Kc := Lib.hid (bl_up Kc.out hA)
      replace Kr8 := Lib.hid (bl_up Kr8.out hA)
      replace Kr4 := Lib.hid (bl_up Kr4.out hA)
      replace Ku8 := Lib.hid (bl_up Ku8.out hA)
      replace Ku4 := Lib.hid (bl_up Ku4.out hA)
      clear hA
      have fr8_4 := (cell_at Kr8.out 4).trans (show _ = some (Value.string r3n) from rfl)
      have fr8_5 := (cell_at Kr8.out 5).trans (show _ = some (Value.string r3d) from rfl)
      obtain ⟨c_1, c_2, _, _⟩ := box2 Kc.out
      go_wp2_with fail
      (with_reducible refine (CO3.out _ B0.out).mono ?_)
      rintro e w13 ⟨rfl, hb⟩
      replace B0 := Lib.hid (below1 B0.out hb)
      replace Ka := Lib.hid (bl_up Ka.out hb)
      replace Kb := Lib.hid (bl_up Kb.out hb)
      replace Kc := Lib.hid (bl_up Kc.out hb)
      replace Kr8 := Lib.hid (bl_up Kr8.out hb)
      replace Kr4 := Lib.hid (bl_up Kr4.out hb)
      replace Ku8 := Lib.hid (bl_up Ku8.out hb)
      replace Ku4 := Lib.hid (bl_up Ku4.out hb)
      replace Ktwo := Lib.hid (bl_up Ktwo.out hb)
      clear hb
      clear fr8_4 fr8_5 c_1 c_2
      have hA := (Below.refl w13.heap.size w13).alloc (Nat.le_refl _) (.cells #[.string leftn, .string leftd] 23)
      replace B0 := Lib.hid (below1 B0.out hA)
      have Kleft := Lib.hid (heap_new' w13 (.cells #[.string leftn, .string leftd] 23) w13.heap.size rfl)
      replace Ka := Lib.hid (bl_up Ka.out hA)
      replace Kb := Lib.hid (bl_up Kb.out hA)
      replace Kc := Lib.hid (bl_up Kc.out hA)
      replace Kr8 := Lib.hid (bl_up Kr8.out hA)
      replace Kr4 := Lib.hid (bl_up Kr4.out hA)
      replace Ku8 := Lib.hid (bl_up Ku8.out hA)
      replace Ku4 := Lib.hid (bl_up Ku4.out hA)
      replace Ktwo := Lib.hid (bl_up Ktwo.out hA)
      clear hA
      go_upto_region 19 with fail
      obtain ⟨U, hU⟩ : ∃ U, w13.alloc (.cells #[.string leftn, .string leftd] 23) = U := ⟨_, rfl⟩
      rw [hU] at B0 ⊢
      rw [hU] at Ka
      rw [hU] at Kb
      rw [hU] at Kc
      rw [hU] at Kr8
      rw [hU] at Kr4
      rw [hU] at Ku8
      rw [hU] at Ku4
      rw [hU] at Ktwo
      rw [hU] at Kleft
      clear hU
      have hB := Below.refl U.heap.size U
      go_cut [186] (fun bv wx => bv = .bool false ∧ Below U.heap.size U wx)
      case first =>
        as_aux_lemma =>
          have fr4_2 := (cell_at Kr4.out 2).trans (show _ = some (Value.int .i64 r3e) from rfl)
          have fu4_2 := (cell_at Ku4.out 2).trans (show _ = some (Value.int .i64 u3e) from rfl)
          obtain ⟨two_1, two_2, _, _⟩ := box2 Ktwo.out
          obtain ⟨left_1, left_2, _, _⟩ := box2 Kleft.out
          clear CO2 CO3 CO4 CO5 CO6 CO7 CO8 D3 D4 D5 Ka Kb Kc Kr8 Kr4 Ku8 Ku4 Ktwo Kleft
          rcases D2.out with rfl | ⟨rfl, rfl⟩ | ⟨rfl, rfl, rfl⟩ | ⟨rfl, rfl, rfl, rfl⟩ | ⟨rfl, rfl, rfl, rfl, rfl, rfl⟩
          all_goals
            as_aux_lemma =>
              go_wp2_with fail
              go_meet
              exact ⟨rfl, hB⟩
      case rest =>
        obtain ⟨rfl, hb⟩ := hcut
        clear hB
        replace B0 := Lib.hid (below1 B0.out hb)
        replace Ka := Lib.hid (bl_up Ka.out hb)
        replace Kb := Lib.hid (bl_up Kb.out hb)
        replace Kc := Lib.hid (bl_up Kc.out hb)
        replace Kr8 := Lib.hid (bl_up Kr8.out hb)
        replace Kr4 := Lib.hid (bl_up Kr4.out hb)
        replace Ku8 := Lib.hid (bl_up Ku8.out hb)
        replace Ku4 := Lib.hid (bl_up Ku4.out hb)
        replace Ktwo := Lib.hid (bl_up Ktwo.out hb)
        replace Kleft := Lib.hid (bl_up Kleft.out hb)
        clear hb
        clear Ktwo Kleft CO2 CO3 D2
        obtain ⟨a_1, a_2, _, _⟩ := box2 Ka.out
        obtain ⟨c_1, c_2, _, _⟩ := box2 Kc.out
        go_wp2_with fail
        (with_reducible refine (CO4.out _ B0.out).mono ?_)
        rintro e w14 ⟨rfl, hb⟩
        replace B0 := Lib.hid (below1 B0.out hb)
        replace Ka := Lib.hid (bl_up Ka.out hb)
        replace Kb := Lib.hid (bl_up Kb.out hb)
        replace Kc := Lib.hid (bl_up Kc.out hb)
        replace Kr8 := Lib.hid (bl_up Kr8.out hb)
        replace Kr4 := Lib.hid (bl_up Kr4.out hb)
        replace Ku8 := Lib.hid (bl_up Ku8.out hb)
        replace Ku4 := Lib.hid (bl_up Ku4.out hb)
        clear hb
        clear a_1 a_2 c_1 c_2
        have hA := (Below.refl w14.heap.size w14).alloc (Nat.le_refl _) (.cells #[.string acn, .string acd] 23)
        replace B0 := Lib.hid (below1 B0.out hA)
        have Kac := Lib.hid (heap_new' w14 (.cells #[.string acn, .string acd] 23) w14.heap.size rfl)
        replace Ka := Lib.hid (bl_up Ka.out hA)
        replace Kb := Lib.hid (bl_up Kb.out hA)
        replace Kc := Lib.hid (bl_up Kc.out hA)
        replace Kr8 := Lib.hid (bl_up Kr8.out hA)
        replace Kr4 := Lib.hid (bl_up Kr4.out hA)
        replace Ku8 := Lib.hid (bl_up Ku8.out hA)
        replace Ku4 := Lib.hid (bl_up Ku4.out hA)
        clear hA
        obtain ⟨ac_1, ac_2, _, _⟩ := box2 Kac.out
        have fu8_4 := (cell_at Ku8.out 4).trans (show _ = some (Value.string u3n) from rfl)
        have fu8_5 := (cell_at Ku8.out 5).trans (show _ = some (Value.string u3d) from rfl)
        go_wp2_with fail
        (with_reducible refine (CO5.out _ B0.out).mono ?_)
        rintro e w15 ⟨rfl, hb⟩
        replace B0 := Lib.hid (below1 B0.out hb)
        replace Ka := Lib.hid (bl_up Ka.out hb)
        replace Kb := Lib.hid (bl_up Kb.out hb)
        replace Kc := Lib.hid (bl_up Kc.out hb)
        replace Kr8 := Lib.hid (bl_up Kr8.out hb)
        replace Kr4 := Lib.hid (bl_up Kr4.out hb)
        replace Ku8 := Lib.hid (bl_up Ku8.out hb)
        replace Ku4 := Lib.hid (bl_up Ku4.out hb)
        replace Kac := Lib.hid (bl_up Kac.out hb)
        clear hb
        clear ac_1 ac_2 fu8_4 fu8_5
        have hA := (Below.refl w15.heap.size w15).alloc (Nat.le_refl _) (.cells #[.string sumn, .string sumd] 23)
        replace B0 := Lib.hid (below1 B0.out hA)
        have Ksum := Lib.hid (heap_new' w15 (.cells #[.string sumn, .string sumd] 23) w15.heap.size rfl)
        replace Ka := Lib.hid (bl_up Ka.out hA)
        replace Kb := Lib.hid (bl_up Kb.out hA)
        replace Kc := Lib.hid (bl_up Kc.out hA)
        replace Kr8 := Lib.hid (bl_up Kr8.out hA)
        replace Kr4 := Lib.hid (bl_up Kr4.out hA)
        replace Ku8 := Lib.hid (bl_up Ku8.out hA)
        replace Ku4 := Lib.hid (bl_up Ku4.out hA)
        replace Kac := Lib.hid (bl_up Kac.out hA)
        clear hA
        have fr8_0 := (cell_at Kr8.out 0).trans (show _ = some (Value.string r1n) from rfl)
        have fr8_1 := (cell_at Kr8.out 1).trans (show _ = some (Value.string r1d) from rfl)
        obtain ⟨c_1, c_2, _, _⟩ := box2 Kc.out
        go_wp2_with fail
        (with_reducible refine (CO6.out _ B0.out).mono ?_)
        rintro e w16 ⟨rfl, hb⟩
        replace B0 := Lib.hid (below1 B0.out hb)
        replace Ka := Lib.hid (bl_up Ka.out hb)
        replace Kb := Lib.hid (bl_up Kb.out hb)
        replace Kc := Lib.hid (bl_up Kc.out hb)
        replace Kr8 := Lib.hid (bl_up Kr8.out hb)
        replace Kr4 := Lib.hid (bl_up Kr4.out hb)
        replace Ku8 := Lib.hid (bl_up Ku8.out hb)
        replace Ku4 := Lib.hid (bl_up Ku4.out hb)
        replace Kac := Lib.hid (bl_up Kac.out hb)
        replace Ksum := Lib.hid (bl_up Ksum.out hb)
        clear hb
        clear fr8_0 fr8_1 c_1 c_2
        have hA := (Below.refl w16.heap.size w16).alloc (Nat.le_refl _) (.cells #[.string v3n, .string v3d] 23)
        replace B0 := Lib.hid (below1 B0.out hA)
        have Kwh := Lib.hid (heap_new' w16 (.cells #[.string v3n, .string v3d] 23) w16.heap.size rfl)
        replace Ka := Lib.hid (bl_up Ka.out hA)
        replace Kb := Lib.hid (bl_up Kb.out hA)
        replace Kc := Lib.hid (bl_up Kc.out hA)
        replace Kr8 := Lib.hid (bl_up Kr8.out hA)
        replace Kr4 := Lib.hid (bl_up Kr4.out hA)
        replace Ku8 := Lib.hid (bl_up Ku8.out hA)
        replace Ku4 := Lib.hid (bl_up Ku4.out hA)
        replace Kac := Lib.hid (bl_up Kac.out hA)
        replace Ksum := Lib.hid (bl_up Ksum.out hA)
        clear hA
        go_upto_region 24 with fail
        obtain ⟨U, hU⟩ : ∃ U, w16.alloc (.cells #[.string v3n, .string v3d] 23) = U := ⟨_, rfl⟩
        rw [hU] at B0 ⊢
        rw [hU] at Ka
        rw [hU] at Kb
        rw [hU] at Kc
        rw [hU] at Kr8
        rw [hU] at Kr4
        rw [hU] at Ku8
        rw [hU] at Ku4
        rw [hU] at Kac
        rw [hU] at Ksum
        rw [hU] at Kwh
        clear hU
        have hB := Below.refl U.heap.size U
        go_cut [231] (fun bv wx => bv = .bool false ∧ Below U.heap.size U wx)
        case first =>
          as_aux_lemma =>
            have fr4_0 := (cell_at Kr4.out 0).trans (show _ = some (Value.int .i64 r1e) from rfl)
            have fu4_2 := (cell_at Ku4.out 2).trans (show _ = some (Value.int .i64 u3e) from rfl)
            obtain ⟨sum_1, sum_2, _, _⟩ := box2 Ksum.out
            obtain ⟨wh_1, wh_2, _, _⟩ := box2 Kwh.out
            clear CO4 CO5 CO6 CO7 CO8 D4 D5 Ka Kb Kc Kr8 Kr4 Ku8 Ku4 Kac Ksum Kwh
            rcases D3.out with rfl | ⟨rfl, rfl⟩ | ⟨rfl, rfl, rfl⟩ | ⟨rfl, rfl, rfl, rfl⟩ | ⟨rfl, rfl, rfl, rfl, rfl⟩ | ⟨rfl, rfl, rfl, rfl, rfl, rfl, rfl⟩
            all_goals
              as_aux_lemma =>
                go_wp2_with fail
                go_meet
                exact ⟨rfl, hB⟩
        case rest =>
          obtain ⟨rfl, hb⟩ := hcut
          clear hB
          replace B0 := Lib.hid (below1 B0.out hb)
          replace Ka := Lib.hid (bl_up Ka.out hb)
          replace Kb := Lib.hid (bl_up Kb.out hb)
          replace Kc := Lib.hid (bl_up Kc.out hb)
          replace Kr8 := Lib.hid (bl_up Kr8.out hb)
          replace Kr4 := Lib.hid (bl_up Kr4.out hb)
          replace Ku8 := Lib.hid (bl_up Ku8.out hb)
          replace Ku4 := Lib.hid (bl_up Ku4.out hb)
          replace Kac := Lib.hid (bl_up Kac.out hb)
          replace Ksum := Lib.hid (bl_up Ksum.out hb)
          replace Kwh := Lib.hid (bl_up Kwh.out hb)
          clear hb
          clear Kac Ksum Kwh CO4 CO5 CO6 D3 Ku8 Ku4 Kc
          have fr8_0 := (cell_at Kr8.out 0).trans (show _ = some (Value.string r1n) from rfl)
          have fr8_1 := (cell_at Kr8.out 1).trans (show _ = some (Value.string r1d) from rfl)
          obtain ⟨b_1, b_2, _, _⟩ := box2 Kb.out
          go_wp2_with fail
          (with_reducible refine (CO7.out _ B0.out).mono ?_)
          rintro e w17 ⟨rfl, hb⟩
          replace B0 := Lib.hid (below1 B0.out hb)
          replace Ka := Lib.hid (bl_up Ka.out hb)
          replace Kb := Lib.hid (bl_up Kb.out hb)
          replace Kr8 := Lib.hid (bl_up Kr8.out hb)
          replace Kr4 := Lib.hid (bl_up Kr4.out hb)
          clear hb
          clear fr8_0 fr8_1 b_1 b_2
          have hA := (Below.refl w17.heap.size w17).alloc (Nat.le_refl _) (.cells #[.string backn, .string backd] 23)
          replace B0 := Lib.hid (below1 B0.out hA)
          have Kbk := Lib.hid (heap_new' w17 (.cells #[.string backn, .string backd] 23) w17.heap.size rfl)
          replace Ka := Lib.hid (bl_up Ka.out hA)
          replace Kb := Lib.hid (bl_up Kb.out hA)
          replace Kr8 := Lib.hid (bl_up Kr8.out hA)
          replace Kr4 := Lib.hid (bl_up Kr4.out hA)
          clear hA
          have fr8_6 := (cell_at Kr8.out 6).trans (show _ = some (Value.string r4n) from rfl)
          have fr8_7 := (cell_at Kr8.out 7).trans (show _ = some (Value.string r4d) from rfl)
          obtain ⟨b_1, b_2, _, _⟩ := box2 Kb.out
          go_wp2_with fail
          (with_reducible refine (CO8.out _ B0.out).mono ?_)
          rintro e w18 ⟨rfl, hb⟩
          replace B0 := Lib.hid (below1 B0.out hb)
          replace Ka := Lib.hid (bl_up Ka.out hb)
          replace Kb := Lib.hid (bl_up Kb.out hb)
          replace Kr8 := Lib.hid (bl_up Kr8.out hb)
          replace Kr4 := Lib.hid (bl_up Kr4.out hb)
          replace Kbk := Lib.hid (bl_up Kbk.out hb)
          clear hb
          clear fr8_6 fr8_7 b_1 b_2
          have hA := (Below.refl w18.heap.size w18).alloc (Nat.le_refl _) (.cells #[.string againn, .string againd] 23)
          replace B0 := Lib.hid (below1 B0.out hA)
          have Kag := Lib.hid (heap_new' w18 (.cells #[.string againn, .string againd] 23) w18.heap.size rfl)
          replace Ka := Lib.hid (bl_up Ka.out hA)
          replace Kb := Lib.hid (bl_up Kb.out hA)
          replace Kr8 := Lib.hid (bl_up Kr8.out hA)
          replace Kr4 := Lib.hid (bl_up Kr4.out hA)
          replace Kbk := Lib.hid (bl_up Kbk.out hA)
          clear hA
          go_upto_region 28 with fail
          obtain ⟨U, hU⟩ : ∃ U, w18.alloc (.cells #[.string againn, .string againd] 23) = U := ⟨_, rfl⟩
          rw [hU] at B0 ⊢
          rw [hU] at Ka
          rw [hU] at Kb
          rw [hU] at Kr8
          rw [hU] at Kr4
          rw [hU] at Kbk
          rw [hU] at Kag
          clear hU CO7 CO8
          have fr4_0 := (cell_at Kr4.out 0).trans (show _ = some (Value.int .i64 r1e) from rfl)
          have fr4_3 := (cell_at Kr4.out 3).trans (show _ = some (Value.int .i64 r4e) from rfl)
          obtain ⟨bk_1, bk_2, _, _⟩ := box2 Kbk.out
          obtain ⟨ag_1, ag_2, _, _⟩ := box2 Kag.out
          obtain ⟨a_1, a_2, _, _⟩ := box2 Ka.out
          have HF := Lib.hid B0.out
          clear B0 Ka Kb Kr8 Kr4 Kbk Kag
          rcases D4.out with rfl | ⟨rfl, rfl⟩ | ⟨rfl, rfl, rfl, rfl⟩
          all_goals rcases D5.out with rfl | ⟨rfl, rfl⟩ | ⟨rfl, rfl, rfl, rfl⟩
          all_goals
            as_aux_lemma =>
              go_wp2
              go_ret
              exact ⟨rfl, HF.out⟩
end Go.Proofs.YtcjcafekacceiaaGreatDoor
