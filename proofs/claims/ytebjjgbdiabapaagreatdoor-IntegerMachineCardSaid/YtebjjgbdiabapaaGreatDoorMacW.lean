/- The walk of IntegerMachine. -/
import Derived.Test.YtebjjgbdiabapaaGreatDoorTxtW
namespace Go.Proofs.YtebjjgbdiabapaaGreatDoor
open Go.RowKit

theorem tdiv_same {x y : Int} (hy : y ≠ 0) (h : 0 ≤ x.tmod y) : x.tdiv y = x / y ∧ x.tmod y = x % y := by
  have h1 := Int.tmod_add_mul_tdiv x y
  have h2 := Int.natAbs_tmod x y
  have h3 := Nat.mod_lt x.natAbs (show 0 < y.natAbs by omega)
  obtain ⟨e1, e2⟩ := eucl (y := y) (Q := x.tdiv y) (R := x.tmod y) h1.symm h (by omega)
  exact ⟨e1.symm, e2.symm⟩
theorem tdiv_down {x y : Int} (hy : 0 < y) (h : x.tmod y < 0) : x.tdiv y - 1 = x / y ∧ x.tmod y + y = x % y := by
  have h1 := Int.tmod_add_mul_tdiv x y
  have h2 := Int.natAbs_tmod x y
  have h3 := Nat.mod_lt x.natAbs (show 0 < y.natAbs by omega)
  obtain ⟨e1, e2⟩ := eucl (x := x) (y := y) (Q := x.tdiv y - 1) (R := x.tmod y + y) (by rw [Int.mul_sub]; omega) (by omega) (by omega)
  exact ⟨e1.symm, e2.symm⟩
theorem tdiv_up {x y : Int} (hy : y < 0) (h : x.tmod y < 0) : x.tdiv y + 1 = x / y ∧ x.tmod y - y = x % y := by
  have h1 := Int.tmod_add_mul_tdiv x y
  have h2 := Int.natAbs_tmod x y
  have h3 := Nat.mod_lt x.natAbs (show 0 < y.natAbs by omega)
  obtain ⟨e1, e2⟩ := eucl (x := x) (y := y) (Q := x.tdiv y + 1) (R := x.tmod y - y) (by rw [Int.mul_add]; omega) (by omega) (by omega)
  exact ⟨e1.symm, e2.symm⟩
theorem tdiv_small {x y : Int} (h0 : -2147483648 ≤ x) (h1 : x ≤ 2147483647) : -2147483648 ≤ x.tdiv y ∧ x.tdiv y ≤ 2147483648 := by
  have h2 : (x.tdiv y).natAbs = x.natAbs / y.natAbs := Int.natAbs_tdiv x y
  have h2 := h2
  generalize x.tdiv y = c at *
  have h3 := Nat.div_le_self x.natAbs y.natAbs
  rw [← h2] at h3
  omega
theorem tmod_small {x y : Int} (h0 : -2147483648 ≤ x) (h1 : x ≤ 2147483647) : -2147483648 ≤ x.tmod y ∧ x.tmod y ≤ 2147483648 := by
  have h2 := Int.natAbs_tmod x y
  have h3 := Nat.mod_le x.natAbs y.natAbs
  omega
theorem mul_small {x y : Int} (h0 : -2147483648 ≤ x) (h1 : x ≤ 2147483647) (h2 : -2147483648 ≤ y) (h3 : y ≤ 2147483647) : -4611686018427387904 ≤ x * y ∧ x * y ≤ 4611686018427387904 := by
  have e := Int.natAbs_mul x y
  have h4 : x.natAbs * y.natAbs ≤ 2147483648 * 2147483648 := Nat.mul_le_mul (by omega) (by omega)
  omega
theorem cmpZ_lt {x y : Int} (h : x < y) : cmpZ x y = -1 := by unfold cmpZ; rw [if_pos h]
theorem cmpZ_gt {x y : Int} (h : y < x) : cmpZ x y = 1 := by unfold cmpZ; rw [if_neg (by omega), if_pos h]
theorem cmpZ_eq (x : Int) : cmpZ x x = 0 := by unfold cmpZ; rw [if_neg (by omega), if_neg (by omega)]
set_option maxRecDepth 100000 in
set_option maxHeartbeats 20000000 in
theorem machine_walk (x y : Int) (hx0 : -2147483648 ≤ x) (hx1 : x ≤ 2147483647) (hy0 : -2147483648 ≤ y) (hy1 : y ≤ 2147483647) (w : World) (ht : Tb w) (he : Er w) :
    Calls Tryz.prog 4 #[.int .i32 x, .int .i32 y] w fun e w' => e = .returned (.bool true) ∧ Below w.heap.size w w' := by
  have HT := Lib.hid (fun W (hW : Below w.heap.size w W) => ht.below hW)
  have HE := Lib.hid (fun W (hW : Below w.heap.size w W) => he.below hW)
  have CSN := Lib.hid (sane_any w ht)
  clear ht he
  have hp := mul_small hx0 hx1 hy0 hy1
  have bx : Big x := big_i64 (by omega) (by omega)
  have by' : Big y := big_i64 (by omega) (by omega)
  have ba : Big (x + y) := big_i64 (by omega) (by omega)
  have bs : Big (x - y) := big_i64 (by omega) (by omega)
  have bp : Big (x * y) := big_i64 (by omega) (by omega)
  have hti := ti_at (n := x) (by omega) (by omega)
  have CX := Lib.hid (fun W (hW : Below w.heap.size w W) => fromInt_any x (by omega) (by omega) W (HT.out W hW))
  have CY := Lib.hid (fun W (hW : Below w.heap.size w W) => fromInt_any y (by omega) (by omega) W (HT.out W hW))
  have CT := Lib.hid (fun W (hW : Below w.heap.size w W) => toInt_any (str x) W (by have := str_small0 bx; omega) (HE.out W hW))
  rw [hti.1, hti.2] at CT
  have CA := Lib.hid (fun W (hW : Below w.heap.size w W) => add_str bx by' ba W (HT.out W hW))
  have CS := Lib.hid (fun W (hW : Below w.heap.size w W) => sub_str bx by' bs W (HT.out W hW))
  have CM := Lib.hid (fun W (hW : Below w.heap.size w W) => mul_str bx by' bp W (HT.out W hW))
  have CFA := Lib.hid (fun W (hW : Below w.heap.size w W) => fromInt_any (x + y) (by omega) (by omega) W (HT.out W hW))
  have CFS := Lib.hid (fun W (hW : Below w.heap.size w W) => fromInt_any (x - y) (by omega) (by omega) W (HT.out W hW))
  have CFM := Lib.hid (fun W (hW : Below w.heap.size w W) => fromInt_any (x * y) (by omega) (by omega) W (HT.out W hW))
  have CC := Lib.hid (fun W => cmp_str bx by' W)
  have CD := Lib.hid (fun W (hW : Below w.heap.size w W) (h0 : y ≠ 0) => div_str bx by' h0 W (HT.out W hW))
  have CN := Lib.hid (fun W (hW : Below w.heap.size w W) => div_none bx W (HT.out W hW))
  have CQ := Lib.hid (fun W (hW : Below w.heap.size w W) (q : Int) (h0 : -4611686018427387904 ≤ q) (h1 : q ≤ 4611686018427387904) => fromInt_any q (by omega) (by omega) W (HT.out W hW))
  have HY0 := Lib.hid (show str 0 = (⟨#[48]⟩ : ByteArray) from str0.symm)
  obtain ⟨s, hs⟩ : ∃ t, str x = t := ⟨_, rfl⟩
  obtain ⟨t, ht⟩ : ∃ t, str y = t := ⟨_, rfl⟩
  obtain ⟨sa, hsa⟩ : ∃ t, str (x + y) = t := ⟨_, rfl⟩
  obtain ⟨ss, hss⟩ : ∃ t, str (x - y) = t := ⟨_, rfl⟩
  obtain ⟨sp, hsp⟩ : ∃ t, str (x * y) = t := ⟨_, rfl⟩
  obtain ⟨p, hpp⟩ : ∃ p, x * y = p := ⟨_, rfl⟩
  rw [hs] at CX CT
  rw [ht] at CY
  rw [hs, ht, hsa] at CA
  rw [hs, ht, hss] at CS
  rw [hs, ht, hsp] at CM
  rw [hsa] at CFA
  rw [hss] at CFS
  rw [hsp] at CFM
  rw [hpp] at CFM hp
  rw [hs, ht] at CC
  rw [hs, ht] at CD
  rw [hs] at CN
  have HTT := Lib.hid ht
  have hmin : -9223372036854775808 ≤ x + y ∧ x + y ≤ 9223372036854775807 := by omega
  clear bx by' ba bs bp hti hs ht hsa hss hsp
  go_enter Tryz.func4, Tryz.ntmps4
  go_wp2_with fail
  (with_reducible refine (CSN.out).mono ?_)
  rintro e w1 ⟨rfl, hb⟩
  have HB1 := Lib.hid hb
  clear hb
  go_wp2_with fail
  (with_reducible refine (CX.out _ HB1.out).mono ?_)
  rintro e w2 ⟨rfl, hb⟩
  have HB2 := Lib.hid (HB1.out.trans (hb.mono HB1.out.size))
  clear hb
  go_wp2_with fail
  (with_reducible refine (CY.out _ HB2.out).mono ?_)
  rintro e w3 ⟨rfl, hb⟩
  have HB3 := Lib.hid (HB2.out.trans (hb.mono HB2.out.size))
  clear hb
  go_wp2_with fail
  (with_reducible refine (CT.out _ HB3.out).mono ?_)
  rintro e w4 ⟨rfl, hb⟩
  have HB4 := Lib.hid (HB3.out.trans (hb.mono HB3.out.size))
  clear hb
  go_wp2_with fail
  (with_reducible refine (CA.out _ HB4.out).mono ?_)
  rintro e w5 ⟨rfl, hb⟩
  have HB5 := Lib.hid (HB4.out.trans (hb.mono HB4.out.size))
  clear hb
  go_wp2_with fail
  (with_reducible refine (CS.out _ HB5.out).mono ?_)
  rintro e w6 ⟨rfl, hb⟩
  have HB6 := Lib.hid (HB5.out.trans (hb.mono HB5.out.size))
  clear hb
  go_wp2_with fail
  (with_reducible refine (CM.out _ HB6.out).mono ?_)
  rintro e w7 ⟨rfl, hb⟩
  have HB7 := Lib.hid (HB6.out.trans (hb.mono HB6.out.size))
  clear hb
  go_wp2_with fail
  (with_reducible refine (CFA.out _ HB7.out).mono ?_)
  rintro e w8 ⟨rfl, hb⟩
  have HB8 := Lib.hid (HB7.out.trans (hb.mono HB7.out.size))
  clear hb
  go_wp2_with fail
  (with_reducible refine (CFS.out _ HB8.out).mono ?_)
  rintro e w9 ⟨rfl, hb⟩
  have HB9 := Lib.hid (HB8.out.trans (hb.mono HB8.out.size))
  clear hb
  go_wp2_with fail
  (with_reducible refine (CFM.out _ HB9.out).mono ?_)
  rintro e w10 ⟨rfl, hb⟩
  have HB10 := Lib.hid (HB9.out.trans (hb.mono HB9.out.size))
  clear hb
  rcases Int.lt_trichotomy x y with hxy | hxy | hxy
  · have hcz := cmpZ_lt hxy
    rw [hcz] at CC
    clear hcz
    go_wp2_with fail
    (with_reducible refine (CC.out _).mono ?_)
    rintro e w11 ⟨rfl, hb⟩
    have HB11 := Lib.hid (HB10.out.trans (hb.mono HB10.out.size))
    clear hb
    by_cases h0 : y = 0
    · subst h0
      rw [HY0.out] at CN HTT
      have hyt := HTT.out
      subst hyt
      go_wp2_with fail
      (with_reducible refine (CN.out _ HB11.out).mono ?_)
      rintro e w12 ⟨rfl, hb⟩
      have HB12 := Lib.hid (HB11.out.trans (hb.mono HB11.out.size))
      clear hb
      go_wp2
      go_ret
      exact ⟨rfl, HB12.out⟩
    · have hq0 : (y == 0) = false := by simpa using h0
      have CD2 := Lib.hid (fun W hW => CD.out W hW h0)
      have htd := tdiv_small (y := y) hx0 hx1
      have htm := tmod_small (y := y) hx0 hx1
      by_cases hr0 : x.tmod y < 0
      · by_cases hyp : 0 < y
        · obtain ⟨e1, e2⟩ := tdiv_down hyp hr0
          obtain ⟨q, hq⟩ : ∃ q, x.tdiv y = q := ⟨_, rfl⟩
          obtain ⟨r, hr⟩ : ∃ r, x.tmod y = r := ⟨_, rfl⟩
          rw [hq] at e1 htd
          rw [hr] at e2 hr0 htm
          have hre0 : 0 ≤ r + y := by rw [e2]; exact Int.emod_nonneg _ h0
          rw [← e1, ← e2] at CD2
          have C1 := Lib.hid (fun W hW => CQ.out W hW (q - 1) (by omega) (by omega))
          have C2 := Lib.hid (fun W hW => CQ.out W hW (r + y) (by omega) (by omega))
          obtain ⟨sq, hsq⟩ : ∃ t, str (q - 1) = t := ⟨_, rfl⟩
          obtain ⟨sr, hsr⟩ : ∃ t, str (r + y) = t := ⟨_, rfl⟩
          rw [hsq] at CD2 C1
          rw [hsr] at CD2 C2
          clear hsq hsr e1 e2
          go_wp2_with fail
          (with_reducible refine (CD2.out _ HB11.out).mono ?_)
          rintro e w12 ⟨rfl, hb⟩
          have HB12 := Lib.hid (HB11.out.trans (hb.mono HB11.out.size))
          clear hb
          go_wp2_with fail
          (with_reducible refine (C1.out _ HB12.out).mono ?_)
          rintro e w13 ⟨rfl, hb⟩
          have HB13 := Lib.hid (HB12.out.trans (hb.mono HB12.out.size))
          clear hb
          go_wp2_with fail
          (with_reducible refine (C2.out _ HB13.out).mono ?_)
          rintro e w14 ⟨rfl, hb⟩
          have HB14 := Lib.hid (HB13.out.trans (hb.mono HB13.out.size))
          clear hb
          go_wp2
          go_ret
          exact ⟨rfl, HB14.out⟩
        · obtain ⟨e1, e2⟩ := tdiv_up (show y < 0 by omega) hr0
          obtain ⟨q, hq⟩ : ∃ q, x.tdiv y = q := ⟨_, rfl⟩
          obtain ⟨r, hr⟩ : ∃ r, x.tmod y = r := ⟨_, rfl⟩
          rw [hq] at e1 htd
          rw [hr] at e2 hr0 htm
          have hre0 : 0 ≤ r - y := by rw [e2]; exact Int.emod_nonneg _ h0
          rw [← e1, ← e2] at CD2
          have C1 := Lib.hid (fun W hW => CQ.out W hW (q + 1) (by omega) (by omega))
          have C2 := Lib.hid (fun W hW => CQ.out W hW (r - y) (by omega) (by omega))
          obtain ⟨sq, hsq⟩ : ∃ t, str (q + 1) = t := ⟨_, rfl⟩
          obtain ⟨sr, hsr⟩ : ∃ t, str (r - y) = t := ⟨_, rfl⟩
          rw [hsq] at CD2 C1
          rw [hsr] at CD2 C2
          clear hsq hsr e1 e2
          go_wp2_with fail
          (with_reducible refine (CD2.out _ HB11.out).mono ?_)
          rintro e w12 ⟨rfl, hb⟩
          have HB12 := Lib.hid (HB11.out.trans (hb.mono HB11.out.size))
          clear hb
          go_wp2_with fail
          (with_reducible refine (C1.out _ HB12.out).mono ?_)
          rintro e w13 ⟨rfl, hb⟩
          have HB13 := Lib.hid (HB12.out.trans (hb.mono HB12.out.size))
          clear hb
          go_wp2_with fail
          (with_reducible refine (C2.out _ HB13.out).mono ?_)
          rintro e w14 ⟨rfl, hb⟩
          have HB14 := Lib.hid (HB13.out.trans (hb.mono HB13.out.size))
          clear hb
          go_wp2
          go_ret
          exact ⟨rfl, HB14.out⟩
      · obtain ⟨e1, e2⟩ := tdiv_same h0 (show 0 ≤ x.tmod y by omega)
        obtain ⟨q, hq⟩ : ∃ q, x.tdiv y = q := ⟨_, rfl⟩
        obtain ⟨r, hr⟩ : ∃ r, x.tmod y = r := ⟨_, rfl⟩
        rw [hq] at e1 htd
        rw [hr] at e2 hr0 htm
        have hre0 : 0 ≤ r := by rw [e2]; exact Int.emod_nonneg _ h0
        rw [← e1, ← e2] at CD2
        have C1 := Lib.hid (fun W hW => CQ.out W hW (q) (by omega) (by omega))
        have C2 := Lib.hid (fun W hW => CQ.out W hW (r) (by omega) (by omega))
        obtain ⟨sq, hsq⟩ : ∃ t, str (q) = t := ⟨_, rfl⟩
        obtain ⟨sr, hsr⟩ : ∃ t, str (r) = t := ⟨_, rfl⟩
        rw [hsq] at CD2 C1
        rw [hsr] at CD2 C2
        clear hsq hsr e1 e2
        go_wp2_with fail
        (with_reducible refine (CD2.out _ HB11.out).mono ?_)
        rintro e w12 ⟨rfl, hb⟩
        have HB12 := Lib.hid (HB11.out.trans (hb.mono HB11.out.size))
        clear hb
        go_wp2_with fail
        (with_reducible refine (C1.out _ HB12.out).mono ?_)
        rintro e w13 ⟨rfl, hb⟩
        have HB13 := Lib.hid (HB12.out.trans (hb.mono HB12.out.size))
        clear hb
        go_wp2_with fail
        (with_reducible refine (C2.out _ HB13.out).mono ?_)
        rintro e w14 ⟨rfl, hb⟩
        have HB14 := Lib.hid (HB13.out.trans (hb.mono HB13.out.size))
        clear hb
        go_wp2
        go_ret
        exact ⟨rfl, HB14.out⟩
  · subst hxy
    rw [cmpZ_eq] at CC
    go_wp2_with fail
    (with_reducible refine (CC.out _).mono ?_)
    rintro e w11 ⟨rfl, hb⟩
    have HB11 := Lib.hid (HB10.out.trans (hb.mono HB10.out.size))
    clear hb
    by_cases h0 : x = 0
    · subst h0
      rw [HY0.out] at CN HTT
      have hyt := HTT.out
      subst hyt
      go_wp2_with fail
      (with_reducible refine (CN.out _ HB11.out).mono ?_)
      rintro e w12 ⟨rfl, hb⟩
      have HB12 := Lib.hid (HB11.out.trans (hb.mono HB11.out.size))
      clear hb
      go_wp2
      go_ret
      exact ⟨rfl, HB12.out⟩
    · have hq0 : (x == 0) = false := by simpa using h0
      have CD2 := Lib.hid (fun W hW => CD.out W hW h0)
      have htd := tdiv_small (y := x) hx0 hx1
      have htm := tmod_small (y := x) hx0 hx1
      rw [Int.ediv_self h0, Int.emod_self] at CD2
      have C1 := Lib.hid (fun W hW => CQ.out W hW 1 (by omega) (by omega))
      have C2 := Lib.hid (fun W hW => CQ.out W hW 0 (by omega) (by omega))
      obtain ⟨sq, hsq⟩ : ∃ t, str 1 = t := ⟨_, rfl⟩
      obtain ⟨sr, hsr⟩ : ∃ t, str 0 = t := ⟨_, rfl⟩
      rw [hsq] at CD2 C1
      rw [hsr] at CD2 C2
      clear hsq hsr
      go_wp2_with fail
      (with_reducible refine (CD2.out _ HB11.out).mono ?_)
      rintro e w12 ⟨rfl, hb⟩
      have HB12 := Lib.hid (HB11.out.trans (hb.mono HB11.out.size))
      clear hb
      go_wp2_with fail
      (with_reducible refine (C1.out _ HB12.out).mono ?_)
      rintro e w13 ⟨rfl, hb⟩
      have HB13 := Lib.hid (HB12.out.trans (hb.mono HB12.out.size))
      clear hb
      go_wp2_with fail
      (with_reducible refine (C2.out _ HB13.out).mono ?_)
      rintro e w14 ⟨rfl, hb⟩
      have HB14 := Lib.hid (HB13.out.trans (hb.mono HB13.out.size))
      clear hb
      go_wp2
      go_ret
      exact ⟨rfl, HB14.out⟩
  · have hcz := cmpZ_gt hxy
    rw [hcz] at CC
    clear hcz
    go_wp2_with fail
    (with_reducible refine (CC.out _).mono ?_)
    rintro e w11 ⟨rfl, hb⟩
    have HB11 := Lib.hid (HB10.out.trans (hb.mono HB10.out.size))
    clear hb
    by_cases h0 : y = 0
    · subst h0
      rw [HY0.out] at CN HTT
      have hyt := HTT.out
      subst hyt
      go_wp2_with fail
      (with_reducible refine (CN.out _ HB11.out).mono ?_)
      rintro e w12 ⟨rfl, hb⟩
      have HB12 := Lib.hid (HB11.out.trans (hb.mono HB11.out.size))
      clear hb
      go_wp2
      go_ret
      exact ⟨rfl, HB12.out⟩
    · have hq0 : (y == 0) = false := by simpa using h0
      have CD2 := Lib.hid (fun W hW => CD.out W hW h0)
      have htd := tdiv_small (y := y) hx0 hx1
      have htm := tmod_small (y := y) hx0 hx1
      by_cases hr0 : x.tmod y < 0
      · by_cases hyp : 0 < y
        · obtain ⟨e1, e2⟩ := tdiv_down hyp hr0
          obtain ⟨q, hq⟩ : ∃ q, x.tdiv y = q := ⟨_, rfl⟩
          obtain ⟨r, hr⟩ : ∃ r, x.tmod y = r := ⟨_, rfl⟩
          rw [hq] at e1 htd
          rw [hr] at e2 hr0 htm
          have hre0 : 0 ≤ r + y := by rw [e2]; exact Int.emod_nonneg _ h0
          rw [← e1, ← e2] at CD2
          have C1 := Lib.hid (fun W hW => CQ.out W hW (q - 1) (by omega) (by omega))
          have C2 := Lib.hid (fun W hW => CQ.out W hW (r + y) (by omega) (by omega))
          obtain ⟨sq, hsq⟩ : ∃ t, str (q - 1) = t := ⟨_, rfl⟩
          obtain ⟨sr, hsr⟩ : ∃ t, str (r + y) = t := ⟨_, rfl⟩
          rw [hsq] at CD2 C1
          rw [hsr] at CD2 C2
          clear hsq hsr e1 e2
          go_wp2_with fail
          (with_reducible refine (CD2.out _ HB11.out).mono ?_)
          rintro e w12 ⟨rfl, hb⟩
          have HB12 := Lib.hid (HB11.out.trans (hb.mono HB11.out.size))
          clear hb
          go_wp2_with fail
          (with_reducible refine (C1.out _ HB12.out).mono ?_)
          rintro e w13 ⟨rfl, hb⟩
          have HB13 := Lib.hid (HB12.out.trans (hb.mono HB12.out.size))
          clear hb
          go_wp2_with fail
          (with_reducible refine (C2.out _ HB13.out).mono ?_)
          rintro e w14 ⟨rfl, hb⟩
          have HB14 := Lib.hid (HB13.out.trans (hb.mono HB13.out.size))
          clear hb
          go_wp2
          go_ret
          exact ⟨rfl, HB14.out⟩
        · obtain ⟨e1, e2⟩ := tdiv_up (show y < 0 by omega) hr0
          obtain ⟨q, hq⟩ : ∃ q, x.tdiv y = q := ⟨_, rfl⟩
          obtain ⟨r, hr⟩ : ∃ r, x.tmod y = r := ⟨_, rfl⟩
          rw [hq] at e1 htd
          rw [hr] at e2 hr0 htm
          have hre0 : 0 ≤ r - y := by rw [e2]; exact Int.emod_nonneg _ h0
          rw [← e1, ← e2] at CD2
          have C1 := Lib.hid (fun W hW => CQ.out W hW (q + 1) (by omega) (by omega))
          have C2 := Lib.hid (fun W hW => CQ.out W hW (r - y) (by omega) (by omega))
          obtain ⟨sq, hsq⟩ : ∃ t, str (q + 1) = t := ⟨_, rfl⟩
          obtain ⟨sr, hsr⟩ : ∃ t, str (r - y) = t := ⟨_, rfl⟩
          rw [hsq] at CD2 C1
          rw [hsr] at CD2 C2
          clear hsq hsr e1 e2
          go_wp2_with fail
          (with_reducible refine (CD2.out _ HB11.out).mono ?_)
          rintro e w12 ⟨rfl, hb⟩
          have HB12 := Lib.hid (HB11.out.trans (hb.mono HB11.out.size))
          clear hb
          go_wp2_with fail
          (with_reducible refine (C1.out _ HB12.out).mono ?_)
          rintro e w13 ⟨rfl, hb⟩
          have HB13 := Lib.hid (HB12.out.trans (hb.mono HB12.out.size))
          clear hb
          go_wp2_with fail
          (with_reducible refine (C2.out _ HB13.out).mono ?_)
          rintro e w14 ⟨rfl, hb⟩
          have HB14 := Lib.hid (HB13.out.trans (hb.mono HB13.out.size))
          clear hb
          go_wp2
          go_ret
          exact ⟨rfl, HB14.out⟩
      · obtain ⟨e1, e2⟩ := tdiv_same h0 (show 0 ≤ x.tmod y by omega)
        obtain ⟨q, hq⟩ : ∃ q, x.tdiv y = q := ⟨_, rfl⟩
        obtain ⟨r, hr⟩ : ∃ r, x.tmod y = r := ⟨_, rfl⟩
        rw [hq] at e1 htd
        rw [hr] at e2 hr0 htm
        have hre0 : 0 ≤ r := by rw [e2]; exact Int.emod_nonneg _ h0
        rw [← e1, ← e2] at CD2
        have C1 := Lib.hid (fun W hW => CQ.out W hW (q) (by omega) (by omega))
        have C2 := Lib.hid (fun W hW => CQ.out W hW (r) (by omega) (by omega))
        obtain ⟨sq, hsq⟩ : ∃ t, str (q) = t := ⟨_, rfl⟩
        obtain ⟨sr, hsr⟩ : ∃ t, str (r) = t := ⟨_, rfl⟩
        rw [hsq] at CD2 C1
        rw [hsr] at CD2 C2
        clear hsq hsr e1 e2
        go_wp2_with fail
        (with_reducible refine (CD2.out _ HB11.out).mono ?_)
        rintro e w12 ⟨rfl, hb⟩
        have HB12 := Lib.hid (HB11.out.trans (hb.mono HB11.out.size))
        clear hb
        go_wp2_with fail
        (with_reducible refine (C1.out _ HB12.out).mono ?_)
        rintro e w13 ⟨rfl, hb⟩
        have HB13 := Lib.hid (HB12.out.trans (hb.mono HB12.out.size))
        clear hb
        go_wp2_with fail
        (with_reducible refine (C2.out _ HB13.out).mono ?_)
        rintro e w14 ⟨rfl, hb⟩
        have HB14 := Lib.hid (HB13.out.trans (hb.mono HB13.out.size))
        clear hb
        go_wp2
        go_ret
        exact ⟨rfl, HB14.out⟩
end Go.Proofs.YtebjjgbdiabapaaGreatDoor
