/- The walk of RationalOrder. -/
import Derived.BigQuiet
import Derived.Test.YtcjcafekacceiaaGreatDoorSa
import Derived.Test.YtcjcafekacceiaaGreatDoorLg
import Derived.Test.YtcjcafekacceiaaGreatDoorOd
namespace Go.Proofs.YtcjcafekacceiaaGreatDoor
open Go.RowKit
set_option linter.unusedVariables false
set_option linter.unusedSimpArgs false

theorem below_dn {B : Nat} {a w : World} (h : Below B a w) (n : Nat) : Below B a (w.drewN n) := h.trans ⟨rfl, rfl, rfl, Nat.le_refl _, fun _ _ => rfl⟩
theorem box4o {w : World} {B : Nat} {x0 x1 x2 x3 : Value} {T : TypeId} (h : w.heap[B]? = some (.cells #[x0, x1, x2, x3] T)) :
    w.cell? ⟨B, 0, none⟩ = some x0 ∧ w.cell? ⟨B, 1, none⟩ = some x1 ∧ w.cell? ⟨B, 2, none⟩ = some x2 ∧ w.cell? ⟨B, 3, none⟩ = some x3 := by
  refine ⟨?_, ?_, ?_, ?_⟩ <;> simp [World.cell?, h]

set_option maxRecDepth 100000 in
set_option maxHeartbeats 8000000 in
theorem order_walk (x0 x1 x2 x3 y0 y1 y2 y3 z0 z1 z2 z3 s0 s1 : Int) (bx0 : (-9223372036854775808 ≤ x0 ∧ x0 ≤ 9223372036854775807)) (bx1 : (-9223372036854775808 ≤ x1 ∧ x1 ≤ 9223372036854775807)) (bx2 : (-9223372036854775808 ≤ x2 ∧ x2 ≤ 9223372036854775807)) (bx3 : (-9223372036854775808 ≤ x3 ∧ x3 ≤ 9223372036854775807)) (by0 : (-9223372036854775808 ≤ y0 ∧ y0 ≤ 9223372036854775807)) (by1 : (-9223372036854775808 ≤ y1 ∧ y1 ≤ 9223372036854775807)) (by2 : (-9223372036854775808 ≤ y2 ∧ y2 ≤ 9223372036854775807)) (by3 : (-9223372036854775808 ≤ y3 ∧ y3 ≤ 9223372036854775807)) (bz0 : (-9223372036854775808 ≤ z0 ∧ z0 ≤ 9223372036854775807)) (bz1 : (-9223372036854775808 ≤ z1 ∧ z1 ≤ 9223372036854775807)) (bz2 : (-9223372036854775808 ≤ z2 ∧ z2 ≤ 9223372036854775807)) (bz3 : (-9223372036854775808 ≤ z3 ∧ z3 ≤ 9223372036854775807)) (bs0 : (-9223372036854775808 ≤ s0 ∧ s0 ≤ 9223372036854775807)) (bs1 : (-9223372036854775808 ≤ s1 ∧ s1 ≤ 9223372036854775807)) (w : World) (ht : Tb w) :
    Calls Tryz.prog 7 #[.agg #[.int .i64 x0, .int .i64 x1, .int .i64 x2, .int .i64 x3], .agg #[.int .i64 y0, .int .i64 y1, .int .i64 y2, .int .i64 y3], .agg #[.int .i64 z0, .int .i64 z1, .int .i64 z2, .int .i64 z3], .agg #[.int .i64 s0, .int .i64 s1]] w (BOut w true) := by
  obtain ⟨W0, hW0⟩ : ∃ V, (((w.alloc (.cells #[.int .i64 x0, .int .i64 x1, .int .i64 x2, .int .i64 x3] 24)).alloc (.cells #[.int .i64 y0, .int .i64 y1, .int .i64 y2, .int .i64 y3] 24)).alloc (.cells #[.int .i64 z0, .int .i64 z1, .int .i64 z2, .int .i64 z3] 24)).alloc (.cells #[.int .i64 s0, .int .i64 s1] 25) = V := ⟨_, rfl⟩
  have B0 := Lib.hid (show Below w.heap.size w W0 from by rw [← hW0]; exact ((((Below.refl w.heap.size w).alloc (Nat.le_refl _) _).alloc (by simp <;> omega) _).alloc (by simp <;> omega) _).alloc (by simp <;> omega) _)
  have KX0 := Lib.hid (show W0.heap[w.heap.size]? = some (.cells #[.int .i64 x0, .int .i64 x1, .int .i64 x2, .int .i64 x3] 24) from by rw [← hW0]; exact (Below.heap_alloc _ _ _ (by simp <;> omega)).trans ((Below.heap_alloc _ _ _ (by simp <;> omega)).trans ((Below.heap_alloc _ _ _ (by simp <;> omega)).trans (heap_new' _ _ _ rfl))))
  have KX1 := Lib.hid (show W0.heap[w.heap.size + 1]? = some (.cells #[.int .i64 y0, .int .i64 y1, .int .i64 y2, .int .i64 y3] 24) from by rw [← hW0]; exact (Below.heap_alloc _ _ _ (by simp <;> omega)).trans ((Below.heap_alloc _ _ _ (by simp <;> omega)).trans (heap_new' _ _ _ (by simp))))
  have KX2 := Lib.hid (show W0.heap[w.heap.size + 2]? = some (.cells #[.int .i64 z0, .int .i64 z1, .int .i64 z2, .int .i64 z3] 24) from by rw [← hW0]; exact (Below.heap_alloc _ _ _ (by simp <;> omega)).trans (heap_new' _ _ _ (by simp)))
  have KX3 := Lib.hid (show W0.heap[w.heap.size + 3]? = some (.cells #[.int .i64 s0, .int .i64 s1] 25) from by rw [← hW0]; exact heap_new' _ _ _ (by simp))
  have HT := Lib.hid (fun W (hW : Below w.heap.size w W) => ht.below hW)
  have CS := Lib.hid (fun W (hW : Below w.heap.size w W) => sane_any W (HT.out W hW))
  clear ht
  have CL0 := Lib.hid (long_any x0 x1 x2 x3 bx0 bx1 bx2 bx3)
  have CL1 := Lib.hid (long_any y0 y1 y2 y3 by0 by1 by2 by3)
  have CL2 := Lib.hid (long_any z0 z1 z2 z3 bz0 bz1 bz2 bz3)
  have CL3 := Lib.hid (small_any s0 s1 bs0.1 bs0.2 bs1.1 bs1.2)
  clear bx0 bx1 bx2 bx3 by0 by1 by2 by3 bz0 bz1 bz2 bz3 bs0 bs1
  go_enter Tryz.func7, Tryz.ntmps7
  go_wp2_with fail
  (with_reducible refine (CS.out _ B0.out).mono ?_)
  rintro e w1 ⟨rfl, hb⟩
  replace B0 := Lib.hid (below1 B0.out hb)
  replace KX0 := Lib.hid (bl_up KX0.out hb)
  replace KX1 := Lib.hid (bl_up KX1.out hb)
  replace KX2 := Lib.hid (bl_up KX2.out hb)
  replace KX3 := Lib.hid (bl_up KX3.out hb)
  clear hb
  clear hW0 CS
  obtain ⟨c0, c1, c2, c3⟩ := box4o KX0.out
  go_wp2_with fail
  (with_reducible refine (CL0.out _).mono ?_)
  rintro e w2 ⟨qa, hn, hd, rfl, hb⟩
  replace B0 := Lib.hid (below1 B0.out hb)
  replace KX0 := Lib.hid (bl_up KX0.out hb)
  replace KX1 := Lib.hid (bl_up KX1.out hb)
  replace KX2 := Lib.hid (bl_up KX2.out hb)
  replace KX3 := Lib.hid (bl_up KX3.out hb)
  clear hb
  clear c0 c1 c2 c3 KX0 CL0
  have HBa := Lib.hid (show BQ qa from ⟨Nat.lt_trans hn (by decide +kernel : (10 : Nat) ^ 101 < 10 ^ 200), by show ((qa.den : Int)).natAbs < _; rw [Int.natAbs_natCast]; exact Nat.lt_trans hd (by decide +kernel : (10 : Nat) ^ 101 < 10 ^ 200)⟩)
  clear hn hd
  obtain ⟨an, han⟩ : ∃ u, str qa.num = u := ⟨_, rfl⟩
  obtain ⟨ad, had⟩ : ∃ u, str (qa.den : Int) = u := ⟨_, rfl⟩
  rw [han, had]
  have HNa := Lib.hid han; have HDa := Lib.hid had
  clear han had
  have hA := (Below.refl w2.heap.size w2).alloc (Nat.le_refl _) (.cells #[.string an, .string ad] 23)
  replace B0 := Lib.hid (below1 B0.out hA)
  have Ka := Lib.hid (heap_new' w2 (.cells #[.string an, .string ad] 23) w2.heap.size rfl)
  replace KX1 := Lib.hid (bl_up KX1.out hA)
  replace KX2 := Lib.hid (bl_up KX2.out hA)
  replace KX3 := Lib.hid (bl_up KX3.out hA)
  clear hA
  obtain ⟨c0, c1, c2, c3⟩ := box4o KX1.out
  go_wp2_with fail
  (with_reducible refine (CL1.out _).mono ?_)
  rintro e w3 ⟨qb, hn, hd, rfl, hb⟩
  replace B0 := Lib.hid (below1 B0.out hb)
  replace KX1 := Lib.hid (bl_up KX1.out hb)
  replace KX2 := Lib.hid (bl_up KX2.out hb)
  replace KX3 := Lib.hid (bl_up KX3.out hb)
  replace Ka := Lib.hid (bl_up Ka.out hb)
  clear hb
  clear c0 c1 c2 c3 KX1 CL1
  have HBb := Lib.hid (show BQ qb from ⟨Nat.lt_trans hn (by decide +kernel : (10 : Nat) ^ 101 < 10 ^ 200), by show ((qb.den : Int)).natAbs < _; rw [Int.natAbs_natCast]; exact Nat.lt_trans hd (by decide +kernel : (10 : Nat) ^ 101 < 10 ^ 200)⟩)
  clear hn hd
  obtain ⟨bn, hbn⟩ : ∃ u, str qb.num = u := ⟨_, rfl⟩
  obtain ⟨bd, hbd⟩ : ∃ u, str (qb.den : Int) = u := ⟨_, rfl⟩
  rw [hbn, hbd]
  have HNb := Lib.hid hbn; have HDb := Lib.hid hbd
  clear hbn hbd
  have hA := (Below.refl w3.heap.size w3).alloc (Nat.le_refl _) (.cells #[.string bn, .string bd] 23)
  replace B0 := Lib.hid (below1 B0.out hA)
  have Kb := Lib.hid (heap_new' w3 (.cells #[.string bn, .string bd] 23) w3.heap.size rfl)
  replace KX2 := Lib.hid (bl_up KX2.out hA)
  replace KX3 := Lib.hid (bl_up KX3.out hA)
  replace Ka := Lib.hid (bl_up Ka.out hA)
  clear hA
  obtain ⟨c0, c1, c2, c3⟩ := box4o KX2.out
  go_wp2_with fail
  (with_reducible refine (CL2.out _).mono ?_)
  rintro e w4 ⟨qc, hn, hd, rfl, hb⟩
  replace B0 := Lib.hid (below1 B0.out hb)
  replace KX2 := Lib.hid (bl_up KX2.out hb)
  replace KX3 := Lib.hid (bl_up KX3.out hb)
  replace Ka := Lib.hid (bl_up Ka.out hb)
  replace Kb := Lib.hid (bl_up Kb.out hb)
  clear hb
  clear c0 c1 c2 c3 KX2 CL2
  have HBc := Lib.hid (show BQ qc from ⟨Nat.lt_trans hn (by decide +kernel : (10 : Nat) ^ 101 < 10 ^ 200), by show ((qc.den : Int)).natAbs < _; rw [Int.natAbs_natCast]; exact Nat.lt_trans hd (by decide +kernel : (10 : Nat) ^ 101 < 10 ^ 200)⟩)
  clear hn hd
  obtain ⟨cn, hcn⟩ : ∃ u, str qc.num = u := ⟨_, rfl⟩
  obtain ⟨cd, hcd⟩ : ∃ u, str (qc.den : Int) = u := ⟨_, rfl⟩
  rw [hcn, hcd]
  have HNc := Lib.hid hcn; have HDc := Lib.hid hcd
  clear hcn hcd
  have hA := (Below.refl w4.heap.size w4).alloc (Nat.le_refl _) (.cells #[.string cn, .string cd] 23)
  replace B0 := Lib.hid (below1 B0.out hA)
  have Kc := Lib.hid (heap_new' w4 (.cells #[.string cn, .string cd] 23) w4.heap.size rfl)
  replace KX3 := Lib.hid (bl_up KX3.out hA)
  replace Ka := Lib.hid (bl_up Ka.out hA)
  replace Kb := Lib.hid (bl_up Kb.out hA)
  clear hA
  obtain ⟨c0, c1, c2, c3⟩ := box2 KX3.out
  go_wp2_with fail
  (with_reducible refine (CL3.out _).mono ?_)
  rintro e w5 ⟨qt, hn, hd, rfl, hb⟩
  replace B0 := Lib.hid (below1 B0.out hb)
  replace KX3 := Lib.hid (bl_up KX3.out hb)
  replace Ka := Lib.hid (bl_up Ka.out hb)
  replace Kb := Lib.hid (bl_up Kb.out hb)
  replace Kc := Lib.hid (bl_up Kc.out hb)
  clear hb
  clear c0 c1 c2 c3 KX3 CL3
  have HBt := Lib.hid (show BQ qt from ⟨Nat.lt_trans hn (by decide +kernel : (10 : Nat) ^ 3 < 10 ^ 200), by show ((qt.den : Int)).natAbs < _; rw [Int.natAbs_natCast]; exact Nat.lt_trans hd (by decide +kernel : (10 : Nat) ^ 3 < 10 ^ 200)⟩)
  clear hn hd
  obtain ⟨tn, htn⟩ : ∃ u, str qt.num = u := ⟨_, rfl⟩
  obtain ⟨td, htd⟩ : ∃ u, str (qt.den : Int) = u := ⟨_, rfl⟩
  rw [htn, htd]
  have HNt := Lib.hid htn; have HDt := Lib.hid htd
  clear htn htd
  have hA := (Below.refl w5.heap.size w5).alloc (Nat.le_refl _) (.cells #[.string tn, .string td] 23)
  replace B0 := Lib.hid (below1 B0.out hA)
  have Kt := Lib.hid (heap_new' w5 (.cells #[.string tn, .string td] 23) w5.heap.size rfl)
  replace Ka := Lib.hid (bl_up Ka.out hA)
  replace Kb := Lib.hid (bl_up Kb.out hA)
  replace Kc := Lib.hid (bl_up Kc.out hA)
  clear hA
  obtain ⟨ab, hab⟩ : ∃ z, cmpQ qa qb = z := ⟨_, rfl⟩
  obtain ⟨bc, hbc⟩ : ∃ z, cmpQ qb qc = z := ⟨_, rfl⟩
  obtain ⟨ac, hac⟩ : ∃ z, cmpQ qa qc = z := ⟨_, rfl⟩
  have OF := ord_facts (c := qc) HBa.out HBb.out
  rw [hab, hbc, hac, HNa.out, HDa.out, HNb.out, HDb.out] at OF
  have hba : cmpQ qb qa = -ab := by rw [cmpQ_rev qa qb, hab]
  have CAB := Lib.hid (cmp_c (w := w) HT.out HBa.out HBb.out hab)
  rw [HNa.out, HDa.out, HNb.out, HDb.out] at CAB
  have CBC := Lib.hid (cmp_c (w := w) HT.out HBb.out HBc.out hbc)
  rw [HNb.out, HDb.out, HNc.out, HDc.out] at CBC
  have CAC := Lib.hid (cmp_c (w := w) HT.out HBa.out HBc.out hac)
  rw [HNa.out, HDa.out, HNc.out, HDc.out] at CAC
  have CBA := Lib.hid (cmp_c (w := w) HT.out HBb.out HBa.out hba)
  rw [HNb.out, HDb.out, HNa.out, HDa.out] at CBA
  have CAA := Lib.hid (cmp_c (w := w) HT.out HBa.out HBa.out (cmpQ_self _))
  rw [HNa.out, HDa.out] at CAA
  obtain ⟨tz, htz⟩ : ∃ z, cmpQ qt 0 = z := ⟨_, rfl⟩
  have CT := Lib.hid (cmp_c0 (w := w) HT.out HBt.out htz)
  rw [HNt.out, HDt.out] at CT
  have rab := cmpQ_rng qa qb; have rtz := cmpQ_rng qt 0
  rw [hab] at rab; rw [htz] at rtz
  have FS := sub_fact (w := w) (a := qa) (b := qb) HT.out
  have FA := add_fact (w := w) (a := qa) (b := qb) (t := qt) HT.out
  have FM := mul_fact (w := w) (a := qa) (b := qb) (t := qt) HT.out
  rw [hab] at FS FA FM; rw [htz] at FM
  have zs : ∀ {q : Rat}, BQ q → (str q.num).size ≤ 9223372036854775807 ∧ (str (q.den : Int)).size ≤ 9223372036854775807 := fun h => ⟨str_size h.1, str_size h.2⟩
  have CSU := Lib.hid (fun W (hW : Below w.heap.size w W) => (qsubs_any (qp qa) (qp qb) W (zs HBa.out) (zs HBb.out) (HT.out W hW)).mono (fun e W' h => show QRes W (oN (sub2 qa qb)) (oD (sub2 qa qb)) (oE (sub2 qa qb)) e W' from by rw [sub_q HBa.out HBb.out] at h; exact h))
  simp only [qp] at CSU
  rw [HNa.out, HDa.out, HNb.out, HDb.out] at CSU
  have CA1 := Lib.hid (fun W (hW : Below w.heap.size w W) => (qadds_any (qp qa) (qp qt) W (zs HBa.out) (zs HBt.out) (HT.out W hW)).mono (fun e W' h => show QRes W (oN (add2 qa qt)) (oD (add2 qa qt)) (oE (add2 qa qt)) e W' from by rw [add_q HBa.out HBt.out] at h; exact h))
  simp only [qp] at CA1
  rw [HNa.out, HDa.out, HNt.out, HDt.out] at CA1
  have CA2 := Lib.hid (fun W (hW : Below w.heap.size w W) => (qadds_any (qp qb) (qp qt) W (zs HBb.out) (zs HBt.out) (HT.out W hW)).mono (fun e W' h => show QRes W (oN (add2 qb qt)) (oD (add2 qb qt)) (oE (add2 qb qt)) e W' from by rw [add_q HBb.out HBt.out] at h; exact h))
  simp only [qp] at CA2
  rw [HNb.out, HDb.out, HNt.out, HDt.out] at CA2
  have CM1 := Lib.hid (fun W (hW : Below w.heap.size w W) => (qmul_any (qp qa) (qp qt) W (zs HBa.out) (zs HBt.out) (HT.out W hW)).mono (fun e W' h => show QRes W (oN (mul2 qa qt)) (oD (mul2 qa qt)) (oE (mul2 qa qt)) e W' from by rw [mul_q HBa.out HBt.out] at h; exact h))
  simp only [qp] at CM1
  rw [HNa.out, HDa.out, HNt.out, HDt.out] at CM1
  have CM2 := Lib.hid (fun W (hW : Below w.heap.size w W) => (qmul_any (qp qb) (qp qt) W (zs HBb.out) (zs HBt.out) (HT.out W hW)).mono (fun e W' h => show QRes W (oN (mul2 qb qt)) (oD (mul2 qb qt)) (oE (mul2 qb qt)) e W' from by rw [mul_q HBb.out HBt.out] at h; exact h))
  simp only [qp] at CM2
  rw [HNb.out, HDb.out, HNt.out, HDt.out] at CM2
  generalize oN (sub2 qa qb) = dn at *
  generalize oD (sub2 qa qb) = dd at *
  generalize oE (sub2 qa qb) = de at *
  generalize oN (add2 qa qt) = pn at *
  generalize oD (add2 qa qt) = pd at *
  generalize oE (add2 qa qt) = pe at *
  generalize oN (add2 qb qt) = gn at *
  generalize oD (add2 qb qt) = gd at *
  generalize oE (add2 qb qt) = ge at *
  generalize oN (mul2 qa qt) = mn at *
  generalize oD (mul2 qa qt) = md at *
  generalize oE (mul2 qa qt) = me at *
  generalize oN (mul2 qb qt) = kn at *
  generalize oD (mul2 qb qt) = kd at *
  generalize oE (mul2 qb qt) = ke at *
  have GS := Lib.hid FS; have GA := Lib.hid FA; have GM := Lib.hid FM; have GO := Lib.hid OF; have GR := Lib.hid (And.intro rab rtz)
  clear FS FA FM OF rab rtz hab hbc hac hba htz zs
  clear HNa HDa HBa HNb HDb HBb HNc HDc HBc HNt HDt HBt
  obtain ⟨a_1, a_2, _, _⟩ := box2 Ka.out
  obtain ⟨b_1, b_2, _, _⟩ := box2 Kb.out
  go_wp2_with fail
  (with_reducible refine (CAB.out.at _ B0.out).mono ?_)
  rintro e w6 ⟨rfl, hb⟩
  replace B0 := Lib.hid (below1 B0.out hb)
  replace Ka := Lib.hid (bl_up Ka.out hb)
  replace Kb := Lib.hid (bl_up Kb.out hb)
  replace Kc := Lib.hid (bl_up Kc.out hb)
  replace Kt := Lib.hid (bl_up Kt.out hb)
  clear hb
  clear a_1 a_2 b_1 b_2
  obtain ⟨b_1, b_2, _, _⟩ := box2 Kb.out
  obtain ⟨c_1, c_2, _, _⟩ := box2 Kc.out
  go_wp2_with fail
  (with_reducible refine (CBC.out.at _ B0.out).mono ?_)
  rintro e w7 ⟨rfl, hb⟩
  replace B0 := Lib.hid (below1 B0.out hb)
  replace Ka := Lib.hid (bl_up Ka.out hb)
  replace Kb := Lib.hid (bl_up Kb.out hb)
  replace Kc := Lib.hid (bl_up Kc.out hb)
  replace Kt := Lib.hid (bl_up Kt.out hb)
  clear hb
  clear b_1 b_2 c_1 c_2
  obtain ⟨a_1, a_2, _, _⟩ := box2 Ka.out
  obtain ⟨c_1, c_2, _, _⟩ := box2 Kc.out
  go_wp2_with fail
  (with_reducible refine (CAC.out.at _ B0.out).mono ?_)
  rintro e w8 ⟨rfl, hb⟩
  replace B0 := Lib.hid (below1 B0.out hb)
  replace Ka := Lib.hid (bl_up Ka.out hb)
  replace Kb := Lib.hid (bl_up Kb.out hb)
  replace Kc := Lib.hid (bl_up Kc.out hb)
  replace Kt := Lib.hid (bl_up Kt.out hb)
  clear hb
  clear a_1 a_2 c_1 c_2
  go_upto_region 9 with fail
  have hB := Below.refl w8.heap.size w8
  go_cut [92] (fun bv wx => bv = .bool false ∧ Below w8.heap.size w8 wx)
  case first =>
    clear CSU CA1 CA2 CM1 CM2 CT GS GA GM GR HT CAB CBC CAC
    rcases GO.out with ⟨rfl, h | ⟨rfl, h⟩⟩ | ⟨rfl, rfl, rfl, rfl | ⟨rfl, rfl⟩ | ⟨rfl, rfl⟩⟩ | ⟨rfl, h | ⟨rfl, h⟩, rfl | ⟨rfl, rfl⟩ | ⟨rfl, rfl⟩⟩
    all_goals
      clear GO
      obtain ⟨a_1, a_2, _, _⟩ := box2 Ka.out
      obtain ⟨b_1, b_2, _, _⟩ := box2 Kb.out
      go_wp2_with fail
      (with_reducible refine (CBA.out.at _ B0.out).mono ?_)
      rintro e v1 ⟨rfl, hb⟩
      replace hB := hB.trans (hb.mono hB.size)
      replace B0 := Lib.hid (below1 B0.out hb)
      replace Ka := Lib.hid (bl_up Ka.out hb)
      replace Kb := Lib.hid (bl_up Kb.out hb)
      replace Kc := Lib.hid (bl_up Kc.out hb)
      replace Kt := Lib.hid (bl_up Kt.out hb)
      clear hb
      clear a_1 a_2 b_1 b_2
      obtain ⟨a_1, a_2, _, _⟩ := box2 Ka.out
      obtain ⟨b_1, b_2, _, _⟩ := box2 Kb.out
      go_wp2_with fail
      (with_reducible refine (CAA.out.at _ B0.out).mono ?_)
      rintro e v2 ⟨rfl, hb⟩
      replace hB := hB.trans (hb.mono hB.size)
      clear hb
      clear a_1 a_2 b_1 b_2
      go_wp2_with fail
      go_meet
      exact ⟨rfl, hB⟩
  case rest =>
    obtain ⟨rfl, hb⟩ := hcut
    clear hB CBA CAA CBC CAC CAB GO
    replace B0 := Lib.hid (below1 B0.out hb)
    replace Ka := Lib.hid (bl_up Ka.out hb)
    replace Kb := Lib.hid (bl_up Kb.out hb)
    replace Kc := Lib.hid (bl_up Kc.out hb)
    replace Kt := Lib.hid (bl_up Kt.out hb)
    clear hb
    obtain ⟨a_1, a_2, _, _⟩ := box2 Ka.out
    obtain ⟨b_1, b_2, _, _⟩ := box2 Kb.out
    go_wp2_with fail
    (with_reducible refine (CSU.out _ B0.out).mono ?_)
    rintro e w9 ⟨rfl, hb⟩
    replace B0 := Lib.hid (below1 B0.out hb)
    replace Ka := Lib.hid (bl_up Ka.out hb)
    replace Kb := Lib.hid (bl_up Kb.out hb)
    replace Kc := Lib.hid (bl_up Kc.out hb)
    replace Kt := Lib.hid (bl_up Kt.out hb)
    clear hb
    clear a_1 a_2 b_1 b_2
    have hA := (Below.refl w9.heap.size w9).alloc (Nat.le_refl _) (.cells #[.string dn, .string dd] 23)
    replace B0 := Lib.hid (below1 B0.out hA)
    have Kd := Lib.hid (heap_new' w9 (.cells #[.string dn, .string dd] 23) w9.heap.size rfl)
    replace Ka := Lib.hid (bl_up Ka.out hA)
    replace Kb := Lib.hid (bl_up Kb.out hA)
    replace Kc := Lib.hid (bl_up Kc.out hA)
    replace Kt := Lib.hid (bl_up Kt.out hA)
    clear hA
    go_upto_region 12 with fail
    obtain ⟨X, hX⟩ : ∃ X, w9.alloc (.cells #[.string dn, .string dd] 23) = X := ⟨_, rfl⟩
    rw [hX] at B0 ⊢
    rw [hX] at Ka
    rw [hX] at Kb
    rw [hX] at Kc
    rw [hX] at Kt
    rw [hX] at Kd
    clear hX
    obtain ⟨d1, d2, _, _⟩ := box2 Kd.out
    have KS := Lib.hid (fun w' (h : Below X.heap.size X w') => show w'.cell? ⟨w9.heap.size, 0, none⟩ = some (.string dn) ∧ w'.cell? ⟨w9.heap.size, 1, none⟩ = some (.string dd) from ⟨(h.cell (p := ⟨_, 0, none⟩) (block_lt_of_cell d1)).trans d1, (h.cell (p := ⟨_, 1, none⟩) (block_lt_of_cell d2)).trans d2⟩)
    have hB : Below X.heap.size X X.drew := (Below.refl _ _).drew
    clear d1 d2
    go_cut [107] (fun bv wx => bv = .bool false ∧ Below X.heap.size X wx)
    case first =>
      clear CA1 CA2 CM1 CM2 CT GA GM GR CSU
      rcases GS.out with rfl | ⟨rfl, hc⟩
      · clear hB KS
        go_quiet (fail)
        go_wp2_with fail
        go_meet
        exact ⟨rfl, by first | exact Below.refl _ _ | exact below_dn (Below.refl _ _) _⟩
      ·
        go_region_held3 (fun w' => w'.cell? ⟨w9.heap.size, 0, none⟩ = some (.string dn) ∧ w'.cell? ⟨w9.heap.size, 1, none⟩ = some (.string dd))
          (first
            | exact KS.out _ hB
            | go_keep)
          (first
            | (go_at_call 41; (with_reducible refine (is_any _ _ _).mono ?_); rintro e wi ⟨rfl, hb⟩; replace hB := hB.trans (hb.mono hB.size))
            | (go_at_call 20; (with_reducible refine (hc.at _ (below1 B0.out hB)).mono ?_); rintro e wi ⟨rfl, hb⟩; replace hB := hB.trans (hb.mono hB.size)))
        all_goals
          go_wp2_with fail
          go_meet
          exact ⟨rfl, hB⟩
    case rest =>
      obtain ⟨rfl, hb⟩ := hcut
      clear hB KS CSU GS
      replace B0 := Lib.hid (below1 B0.out hb)
      replace Ka := Lib.hid (bl_up Ka.out hb)
      replace Kb := Lib.hid (bl_up Kb.out hb)
      replace Kc := Lib.hid (bl_up Kc.out hb)
      replace Kt := Lib.hid (bl_up Kt.out hb)
      replace Kd := Lib.hid (bl_up Kd.out hb)
      clear hb Kc Kd
      obtain ⟨a_1, a_2, _, _⟩ := box2 Ka.out
      obtain ⟨t_1, t_2, _, _⟩ := box2 Kt.out
      go_wp2_with fail
      (with_reducible refine (CA1.out _ B0.out).mono ?_)
      rintro e w10 ⟨rfl, hb⟩
      replace B0 := Lib.hid (below1 B0.out hb)
      replace Ka := Lib.hid (bl_up Ka.out hb)
      replace Kb := Lib.hid (bl_up Kb.out hb)
      replace Kt := Lib.hid (bl_up Kt.out hb)
      clear hb
      clear a_1 a_2 t_1 t_2
      have Lap := Lib.hid (Array.getElem?_eq_some_iff.1 Ka.out).1
      have Lbp := Lib.hid (Array.getElem?_eq_some_iff.1 Kb.out).1
      have Ltp := Lib.hid (Array.getElem?_eq_some_iff.1 Kt.out).1
      have Gp := Lib.hid B0.out.size
      have hA := (Below.refl w10.heap.size w10).alloc (Nat.le_refl _) (.cells #[.string pn, .string pd] 23)
      replace B0 := Lib.hid (below1 B0.out hA)
      have Kp := Lib.hid (heap_new' w10 (.cells #[.string pn, .string pd] 23) w10.heap.size rfl)
      replace Ka := Lib.hid (bl_up Ka.out hA)
      replace Kb := Lib.hid (bl_up Kb.out hA)
      replace Kt := Lib.hid (bl_up Kt.out hA)
      clear hA
      obtain ⟨b_1, b_2, _, _⟩ := box2 Kb.out
      obtain ⟨t_1, t_2, _, _⟩ := box2 Kt.out
      go_wp2_with fail
      (with_reducible refine (CA2.out _ B0.out).mono ?_)
      rintro e w11 ⟨rfl, hb⟩
      replace B0 := Lib.hid (below1 B0.out hb)
      replace Ka := Lib.hid (bl_up Ka.out hb)
      replace Kb := Lib.hid (bl_up Kb.out hb)
      replace Kt := Lib.hid (bl_up Kt.out hb)
      replace Kp := Lib.hid (bl_up Kp.out hb)
      clear hb
      clear b_1 b_2 t_1 t_2
      have Lag := Lib.hid (Array.getElem?_eq_some_iff.1 Ka.out).1
      have Lbg := Lib.hid (Array.getElem?_eq_some_iff.1 Kb.out).1
      have Ltg := Lib.hid (Array.getElem?_eq_some_iff.1 Kt.out).1
      have Lpg := Lib.hid (Array.getElem?_eq_some_iff.1 Kp.out).1
      have Gg := Lib.hid B0.out.size
      have hA := (Below.refl w11.heap.size w11).alloc (Nat.le_refl _) (.cells #[.string gn, .string gd] 23)
      replace B0 := Lib.hid (below1 B0.out hA)
      have Kg := Lib.hid (heap_new' w11 (.cells #[.string gn, .string gd] 23) w11.heap.size rfl)
      replace Ka := Lib.hid (bl_up Ka.out hA)
      replace Kb := Lib.hid (bl_up Kb.out hA)
      replace Kt := Lib.hid (bl_up Kt.out hA)
      replace Kp := Lib.hid (bl_up Kp.out hA)
      clear hA
      go_upto_region 16 with fail
      obtain ⟨Y, hX⟩ : ∃ X, w11.alloc (.cells #[.string gn, .string gd] 23) = X := ⟨_, rfl⟩
      rw [hX] at B0 ⊢
      rw [hX] at Ka
      rw [hX] at Kb
      rw [hX] at Kt
      rw [hX] at Kp
      rw [hX] at Kg
      clear hX
      have hB := Below.refl Y.heap.size Y
      go_cut [132] (fun bv wx => bv = .bool false ∧ Below Y.heap.size Y wx)
      case first =>
        clear CA1 CA2 CM1 CM2 CT GM GR
        rcases GA.out with rfl | ⟨rfl, rfl⟩ | ⟨rfl, rfl, hc⟩
        case inr.inr =>
          obtain ⟨p_1, p_2, _, _⟩ := box2 Kp.out
          obtain ⟨g_1, g_2, _, _⟩ := box2 Kg.out
          go_wp2_with fail
          (with_reducible refine (hc.at _ B0.out).mono ?_)
          rintro e v1 ⟨rfl, hb⟩
          replace hB := hB.trans (hb.mono hB.size)
          clear hb
          clear p_1 p_2 g_1 g_2
          go_wp2_with fail
          go_meet
          exact ⟨rfl, hB⟩
        all_goals
          go_wp2_with fail
          go_meet
          exact ⟨rfl, hB⟩
      case rest =>
        obtain ⟨rfl, hb⟩ := hcut
        clear hB CA1 CA2 GA
        replace B0 := Lib.hid (below1 B0.out hb)
        replace Ka := Lib.hid (bl_up Ka.out hb)
        replace Kb := Lib.hid (bl_up Kb.out hb)
        replace Kt := Lib.hid (bl_up Kt.out hb)
        replace Kp := Lib.hid (bl_up Kp.out hb)
        replace Kg := Lib.hid (bl_up Kg.out hb)
        clear hb
        obtain ⟨a_1, a_2, _, _⟩ := box2 Ka.out
        obtain ⟨t_1, t_2, _, _⟩ := box2 Kt.out
        go_wp2_with fail
        (with_reducible refine (CM1.out _ B0.out).mono ?_)
        rintro e w12 ⟨rfl, hb⟩
        replace B0 := Lib.hid (below1 B0.out hb)
        replace Ka := Lib.hid (bl_up Ka.out hb)
        replace Kb := Lib.hid (bl_up Kb.out hb)
        replace Kt := Lib.hid (bl_up Kt.out hb)
        replace Kp := Lib.hid (bl_up Kp.out hb)
        replace Kg := Lib.hid (bl_up Kg.out hb)
        clear hb
        obtain ⟨x1, x2, x3, x4⟩ := box2 Kp.out
        obtain ⟨Z1, hZ1⟩ : ∃ V, (w12.setCell ⟨w10.heap.size, 0, none⟩ (.string mn)).setCell ⟨w10.heap.size, 1, none⟩ (.string md) = V := ⟨_, rfl⟩
        replace B0 := Lib.hid (show Below w.heap.size w Z1 from by rw [← hZ1]; exact put2_below B0.out Gp.out _ _)
        replace Kb := Lib.hid (show Z1.heap[w3.heap.size]? = some (.cells #[.string bn, .string bd] 23) from by rw [← hZ1]; have hl := Lbp.out; exact set_far (set_far Kb.out (by omega) _) (by omega) _)
        replace Kt := Lib.hid (show Z1.heap[w5.heap.size]? = some (.cells #[.string tn, .string td] 23) from by rw [← hZ1]; have hl := Ltp.out; exact set_far (set_far Kt.out (by omega) _) (by omega) _)
        replace Kp := Lib.hid (show Z1.heap[w10.heap.size]? = some (.cells #[.string mn, .string md] 23) from by rw [← hZ1]; exact put2_heap Kp.out _ _)
        replace Kg := Lib.hid (show Z1.heap[w11.heap.size]? = some (.cells #[.string gn, .string gd] 23) from by rw [← hZ1]; have hl := Lpg.out; exact set_far (set_far Kg.out (by omega) _) (by omega) _)
        clear a_1 a_2 t_1 t_2
        clear Ka
        obtain ⟨b_1, b_2, _, _⟩ := box2 Kb.out
        obtain ⟨t_1, t_2, _, _⟩ := box2 Kt.out
        go_wp2_with fail
        (with_reducible refine (CM2.out _ B0.out).mono ?_)
        rintro e w13 ⟨rfl, hb⟩
        replace B0 := Lib.hid (below1 B0.out hb)
        replace Kb := Lib.hid (bl_up Kb.out hb)
        replace Kt := Lib.hid (bl_up Kt.out hb)
        replace Kp := Lib.hid (bl_up Kp.out hb)
        replace Kg := Lib.hid (bl_up Kg.out hb)
        clear hb
        obtain ⟨x1, x2, x3, x4⟩ := box2 Kg.out
        obtain ⟨Z2, hZ2⟩ : ∃ V, (w13.setCell ⟨w11.heap.size, 0, none⟩ (.string kn)).setCell ⟨w11.heap.size, 1, none⟩ (.string kd) = V := ⟨_, rfl⟩
        replace B0 := Lib.hid (show Below w.heap.size w Z2 from by rw [← hZ2]; exact put2_below B0.out Gg.out _ _)
        replace Kt := Lib.hid (show Z2.heap[w5.heap.size]? = some (.cells #[.string tn, .string td] 23) from by rw [← hZ2]; have hl := Ltg.out; exact set_far (set_far Kt.out (by omega) _) (by omega) _)
        replace Kp := Lib.hid (show Z2.heap[w10.heap.size]? = some (.cells #[.string mn, .string md] 23) from by rw [← hZ2]; have hl := Lpg.out; exact set_far (set_far Kp.out (by omega) _) (by omega) _)
        replace Kg := Lib.hid (show Z2.heap[w11.heap.size]? = some (.cells #[.string kn, .string kd] 23) from by rw [← hZ2]; exact put2_heap Kg.out _ _)
        clear Kb b_1 b_2 t_1 t_2 hZ1
        go_upto_region 20 with fail
        clear hZ2 x1 x2 x3 x4
        obtain ⟨t1, t2, _, _⟩ := box2 Kt.out
        obtain ⟨p1, p2, _, _⟩ := box2 Kp.out
        obtain ⟨g1, g2, _, _⟩ := box2 Kg.out
        have KS := Lib.hid (fun w' (h : Below Z2.heap.size Z2 w') => show w'.cell? ⟨w5.heap.size, 0, none⟩ = some (.string tn) ∧ w'.cell? ⟨w5.heap.size, 1, none⟩ = some (.string td) ∧ w'.cell? ⟨w10.heap.size, 0, none⟩ = some (.string mn) ∧ w'.cell? ⟨w10.heap.size, 1, none⟩ = some (.string md) ∧ w'.cell? ⟨w11.heap.size, 0, none⟩ = some (.string kn) ∧ w'.cell? ⟨w11.heap.size, 1, none⟩ = some (.string kd) from ⟨(h.cell (p := ⟨_, 0, none⟩) (block_lt_of_cell t1)).trans t1, (h.cell (p := ⟨_, 1, none⟩) (block_lt_of_cell t2)).trans t2, (h.cell (p := ⟨_, 0, none⟩) (block_lt_of_cell p1)).trans p1, (h.cell (p := ⟨_, 1, none⟩) (block_lt_of_cell p2)).trans p2, (h.cell (p := ⟨_, 0, none⟩) (block_lt_of_cell g1)).trans g1, (h.cell (p := ⟨_, 1, none⟩) (block_lt_of_cell g2)).trans g2⟩)
        have hB : Below Z2.heap.size Z2 Z2.drew := (Below.refl _ _).drew
        clear t1 t2 p1 p2 g1 g2
        clear CM1 CM2
        rcases GM.out with rfl | ⟨rfl, rfl⟩ | ⟨rfl, rfl, hc⟩
        case inr.inr =>
          rcases GR.out with ⟨rfl | rfl | rfl, rfl | rfl | rfl⟩
          all_goals
            (try simp only [Int.reduceMul, Int.reduceNeg, Int.zero_mul, Int.mul_zero] at hc)
            go_region_held3 (fun w' => w'.cell? ⟨w5.heap.size, 0, none⟩ = some (.string tn) ∧ w'.cell? ⟨w5.heap.size, 1, none⟩ = some (.string td) ∧ w'.cell? ⟨w10.heap.size, 0, none⟩ = some (.string mn) ∧ w'.cell? ⟨w10.heap.size, 1, none⟩ = some (.string md) ∧ w'.cell? ⟨w11.heap.size, 0, none⟩ = some (.string kn) ∧ w'.cell? ⟨w11.heap.size, 1, none⟩ = some (.string kd))
              (first
                | exact KS.out _ hB
                | go_keep)
              (first
                | (go_at_call 41; (with_reducible refine (is_any _ _ _).mono ?_); rintro e wi ⟨rfl, hb⟩; replace hB := hB.trans (hb.mono hB.size))
                | (go_at_call 20; (with_reducible refine (hc.at _ (below1 B0.out hB)).mono ?_); rintro e wi ⟨rfl, hb⟩; replace hB := hB.trans (hb.mono hB.size))
                | (go_at_call 20; (with_reducible refine (CT.out.at _ (below1 B0.out hB)).mono ?_); rintro e wi ⟨rfl, hb⟩; replace hB := hB.trans (hb.mono hB.size)))
            all_goals
              have HF := Lib.hid (below1 B0.out hB)
              clear hB
              go_wp2
              go_ret
              exact ⟨rfl, HF.out⟩
        all_goals
          clear hB KS CT GR
          have HF1 := Lib.hid B0.out
          go_quiet (fail)
          go_wp2
          go_ret
          exact ⟨rfl, below_dn HF1.out _⟩
end Go.Proofs.YtcjcafekacceiaaGreatDoor
