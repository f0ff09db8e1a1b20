/- Division of numbers with signs, walked. -/
import Derived.Test.YtebjjgbdiabapaaGreatDoorNut
namespace Go.Proofs.YtebjjgbdiabapaaGreatDoor
open Go.RowKit

theorem eucl {x y Q R : Int} (h1 : x = R + y * Q) (h2 : 0 ≤ R) (h3 : R < y.natAbs) : x / y = Q ∧ x % y = R := by
  by_cases h : 0 < y
  · exact (Int.ediv_emod_unique h).2 ⟨h1.symm, h2, by omega⟩
  · exact (Int.ediv_emod_unique' (by omega)).2 ⟨h1.symm, h2, by omega⟩
theorem sgn_prod (b1 b2 : Bool) (q d : Nat) : sgn b2 d * sgn (!b1 == b2) q = sgn b1 (d * q) := by
  cases b1 <;> cases b2 <;> simp [sgn, Int.natCast_mul, Int.neg_mul, Int.mul_neg]
theorem sgn_self (x : Int) : sgn (decide (x < 0)) x.natAbs = x := by
  unfold sgn
  by_cases h : x < 0 <;> simp [h] <;> omega
theorem div_plain (x y : Int) (hy : y ≠ 0) (h : ¬ (x < 0 ∧ x.natAbs % y.natAbs ≠ 0)) : sgn (!decide (x < 0) == decide (y < 0)) (x.natAbs / y.natAbs) = x / y ∧ x.natAbs % y.natAbs = (x % y).natAbs := by
  have e := Nat.mod_add_div x.natAbs y.natAbs
  have hm := Nat.mod_lt x.natAbs (show 0 < y.natAbs by omega)
  have hp := sgn_prod (decide (x < 0)) (decide (y < 0)) (x.natAbs / y.natAbs) y.natAbs
  rw [sgn_self y] at hp
  have hx : x = ((x.natAbs % y.natAbs : Nat) : Int) + y * sgn (!decide (x < 0) == decide (y < 0)) (x.natAbs / y.natAbs) := by
    rw [hp]
    unfold sgn
    by_cases hn : x < 0 <;> simp only [hn, decide_true, decide_false, if_true, Bool.false_eq_true, if_false] <;> omega
  obtain ⟨h1, h2⟩ := eucl hx (by omega) (by omega)
  exact ⟨h1.symm, by rw [h2]; rfl⟩
theorem div_more (x y : Int) (hy : y ≠ 0) (hx : x < 0) (hr : x.natAbs % y.natAbs ≠ 0) : sgn (!decide (x < 0) == decide (y < 0)) (x.natAbs / y.natAbs + 1) = x / y ∧ y.natAbs - x.natAbs % y.natAbs = (x % y).natAbs := by
  have e := Nat.mod_add_div x.natAbs y.natAbs
  have hm := Nat.mod_lt x.natAbs (show 0 < y.natAbs by omega)
  have hp := sgn_prod (decide (x < 0)) (decide (y < 0)) (x.natAbs / y.natAbs + 1) y.natAbs
  rw [sgn_self y, Nat.mul_add, Nat.mul_one] at hp
  have hx' : x = ((y.natAbs - x.natAbs % y.natAbs : Nat) : Int) + y * sgn (!decide (x < 0) == decide (y < 0)) (x.natAbs / y.natAbs + 1) := by
    rw [hp]
    unfold sgn
    simp only [hx, decide_true, if_true]; omega
  obtain ⟨h1, h2⟩ := eucl hx' (by omega) (by omega)
  exact ⟨h1.symm, by rw [h2]; rfl⟩

def NdivOut (w : World) (x y : Int) (e : Ending) (w' : World) : Prop := ∃ v1 v2, e = .returned (.tuple #[v1, v2]) ∧ Nm w' v1 (x / y) ∧ Nt w' v2 (x % y).natAbs ∧ Below w.heap.size w w'
theorem ndiv_end {w w1 : World} {B : Nat} {T : TypeId} {b1 : Bool} {al : Option Addr} {L c : Nat} {x y : Int} {v2 : Value} (HK : w1.heap[B]? = some (.cells #[.bool false, .slice none 0 0] T)) (hb : b1 = decide (x / y < 0)) (hs : Nt w1 (.slice al L c) (x / y).natAbs)
    (h2 : Nt w1 v2 (x % y).natAbs) (hB : Below w.heap.size w w1) (hle : w.heap.size ≤ B) : NdivOut w x y (.returned (.tuple #[.agg #[.bool b1, .slice al L c], v2])) ((w1.setCell ⟨B, 0, none⟩ (.bool b1)).setCell ⟨B, 1, none⟩ (.slice al L c)) :=
  ⟨_, _, rfl, nm_mk hb (put2_nt HK hs _ _), put2_nt HK h2 _ _, put2_below hB hle _ _⟩

set_option maxRecDepth 100000 in
set_option maxHeartbeats 2000000 in
theorem ndivided_nm (w : World) (v1 v2 : Value) (x y : Int) (h1 : Nm w v1 x) (h2 : Nm w v2 y) (hx : (dz 10000 x.natAbs).length ≤ 2000) (hy : (dz 10000 y.natAbs).length ≤ 2000) (hy0 : y ≠ 0) :
    Calls Tryz.prog 40 #[v1, v2] w (NdivOut w x y) := by
  have hdp := div_plain x y hy0
  have hdm := div_more x y hy0
  obtain ⟨b1, al1, L1, c1, rfl, hb1, hL1, hs1⟩ := h1.open
  obtain ⟨b2, al2, L2, c2, rfl, hb2, hL2, hs2⟩ := h2.open
  clear h1 h2
  rw [← hb1.out, ← hb2.out] at hdp hdm
  have HB0 := Lib.hid (boxes_below w b1 b2 (.slice al1 L1 c1) (.slice al2 L2 c2))
  have K2 := Lib.hid (two_of w b1 b2 (.slice al1 L1 c1) (.slice al2 L2 c2))
  have K3 := Lib.hid (third_of w b1 b2 (.slice al1 L1 c1) (.slice al2 L2 c2))
  have CD := Lib.hid (dividedBy_nt _ _ _ _ _ (hs1.out.below (Nat.le_refl _) HB0.out) (hs2.out.below (Nat.le_refl _) HB0.out) (show 0 < y.natAbs by omega) (by omega) (by omega))
  have hql : (dz 10000 (x.natAbs / y.natAbs)).length ≤ 2000 := Nat.le_trans (dz_length_mono 10000 (by decide) _ _ (Nat.div_le_self _ _)) hx
  have hrp := dz_length_pos 10000 (by decide) (x.natAbs % y.natAbs)
  by_cases hc : x < 0 ∧ x.natAbs % y.natAbs ≠ 0
  · obtain ⟨hq, hr⟩ := hdm hc.1 hc.2
    have CS := Lib.hid (fun W v bb (hbb : bb = (!b1 == b2)) (h : Nt W v (x.natAbs / y.natAbs + 1)) => show Calls Tryz.prog 55 #[.bool bb, v] W (NmOut W (x / y)) from by rw [hbb, ← hq]; exact signed_nm W _ v _ h)
    obtain rfl : b1 = true := by rw [hb1.out]; simpa using hc.1
    have hL0 : 0 < (dz 10000 (x.natAbs % y.natAbs)).length := by omega
    have hlt := Nat.le_of_lt (Nat.mod_lt x.natAbs (show 0 < y.natAbs by omega))
    have h1l : (dz 10000 1).length ≤ 1 := (len4 1 1).2 (by decide)
    clear hc hdp hdm hrp hq
    go_enter Tryz.func40, Tryz.ntmps40
    go_wp2_with fail
    refine CD.out.mono ?_
    rintro e w3 ⟨v3, v4, rfl, hv3, hv4, hb3⟩
    have CP := Lib.hid (fun W v (hW : Below w3.heap.size w3 W) (hv : Nt W v 1) => plus_nt W _ _ _ _ (hv3.below (Nat.le_refl _) hW) hv (by omega) (by omega))
    have CM := Lib.hid (fun W (hW : Below w3.heap.size w3 W) => minus_nt W _ _ _ _ (hs2.out.below (Nat.le_refl _) (HB0.out.trans ((hb3.mono HB0.out.size).trans (hW.mono (Nat.le_trans HB0.out.size hb3.size))))) (hv4.below (Nat.le_refl _) hW) (by omega) hlt)
    rw [hr] at CM
    obtain ⟨al4, c4, rfl⟩ := hv4.shape
    have HV3 := Lib.hid hv3; have HV4 := Lib.hid hv4; have HB3 := Lib.hid hb3
    have HT := Lib.hid (K2.out _ hb3); have H3 := Lib.hid (K3.out _ hb3)
    obtain ⟨k1, k2, k3, k4⟩ := HT.out
    clear hv3 hv4 hb3 hr K2 K3
    have hlit : Nt (w3.alloc (.cells #[.int .i64 1] 3)).drew (.slice (some ⟨w3.heap.size, 0, none⟩) 1 1) 1 := lit_nt w3 1 (by decide) (by decide)
    have hBl : Below w3.heap.size w3 (w3.alloc (.cells #[.int .i64 1] 3)).drew := ((Below.refl w3.heap.size w3).alloc (Nat.le_refl _) _).drew
    go_upto_region 3 with fail
    clear k1 k2 k3 k4
    go_region_held3 (fun w' => Two w w' true b2 (.slice al1 L1 c1) (.slice al2 L2 c2))
      (first
        | exact two_keep HT.out (Below.refl _ _).drew
        | exact two_keep HT.out ((Below.refl _ _).alloc (Nat.le_refl _) _).drew
        | exact two_keep HT.out hB5
        | exact two_keep HT.out hB6
        | go_keep)
      (first
        | (go_at_call 56; (with_reducible refine (CP.out _ _ hBl hlit).mono ?_); rintro e w5 ⟨v5, rfl, hv5, hb5⟩; have hB5 := hBl.trans (hb5.mono hBl.size))
        | (go_at_call 58; (with_reducible refine (CM.out _ hB5).mono ?_); rintro e w6 ⟨v6, rfl, hv6, hb6⟩; have hB6 := below1 hB5 hb6; have hv7 := hv5.below (Nat.le_refl _) hb6))
    have HB6 := Lib.hid (HB0.out.trans ((HB3.out.trans (hB6.mono HB3.out.size)).mono HB0.out.size))
    have HT6 := Lib.hid (two_keep HT.out hB6)
    have H36 := Lib.hid ((hB6.block _ (Array.getElem?_eq_some_iff.1 H3.out).1).trans H3.out)
    have HV6 := Lib.hid hv6; have HV7 := Lib.hid hv7
    obtain ⟨k1, k2, k3, k4⟩ := HT6.out
    clear hB5 hB6 hb5 hb6 hv5 hv6 hv7
    go_wp2_with fail
    refine (CS.out _ _ _ (by first | rfl | simp) HV7.out).mono ?_
    rintro e w8 ⟨v8, rfl, hv8, hb8⟩
    obtain ⟨b5, al5, L5, c5, rfl, hb5, hL5, hs5⟩ := hv8.open
    have HK := Lib.hid ((hb8.block _ (Array.getElem?_eq_some_iff.1 H36.out).1).trans H36.out)
    have HB := Lib.hid (HB6.out.trans (hb8.mono HB6.out.size))
    have HV9 := Lib.hid (HV6.out.below (Nat.le_refl _) hb8)
    obtain ⟨q1, q2, q3, q4⟩ := box2 HK.out
    clear hb8 hv8
    go_wp2
    obtain ⟨r1, r2, _⟩ := box2 (put2_heap HK.out (.bool b5) (.slice al5 L5 c5))
    exact bodyPost_ret (v := .tuple #[.agg #[.bool b5, .slice al5 L5 c5], v6]) (by simp [results, Tryz.results40, go_sem, r1, r2]) rfl
      (ndiv_end HK.out hb5.out hs5.out HV9.out HB.out (by omega))
  · obtain ⟨hq, hr⟩ := hdp hc
    have CS := Lib.hid (fun W v bb (hbb : bb = (!b1 == b2)) (h : Nt W v (x.natAbs / y.natAbs)) => show Calls Tryz.prog 55 #[.bool bb, v] W (NmOut W (x / y)) from by rw [hbb, ← hq]; exact signed_nm W _ v _ h)
    have hcc : b1 = false ∨ b1 = true ∧ (dz 10000 (x.natAbs % y.natAbs)).length = 0 := by
      rw [hb1.out]
      by_cases h : x < 0
      · right; exact ⟨by simpa using h, by omega⟩
      · left; simpa using h
    clear hc hdp hdm hx hy hrp hq
    go_enter Tryz.func40, Tryz.ntmps40
    go_wp2_with fail
    refine CD.out.mono ?_
    rintro e w3 ⟨v3, v4, rfl, hv3, hv4, hb3⟩
    obtain ⟨al4, c4, rfl⟩ := hv4.shape
    have HV3 := Lib.hid hv3; have HB3 := Lib.hid hb3
    rw [hr] at hv4
    have HV4 := Lib.hid hv4
    rw [hr] at hcc
    obtain ⟨LL, hLL⟩ : ∃ LL, (dz 10000 (x % y).natAbs).length = LL := ⟨_, rfl⟩
    rw [hr, hLL]
    rw [hLL] at HV4 hcc
    obtain ⟨k1, k2, k3, k4⟩ := K2.out _ hb3
    have HC := Lib.hid (K3.out _ hb3)
    clear hv3 hv4 hb3 hr hLL
    rcases hcc with rfl | ⟨rfl, rfl⟩
    all_goals
      go_wp2_with fail
      refine (CS.out _ _ _ (by first | rfl | simp) HV3.out).mono ?_
      rintro e w4 ⟨v5, rfl, hv5, hb5⟩
      obtain ⟨b5, al5, L5, c5, rfl, hb5', hL5, hs5⟩ := hv5.open
      have HK := Lib.hid ((hb5.block _ (Array.getElem?_eq_some_iff.1 HC.out).1).trans HC.out)
      have HB := Lib.hid (HB0.out.trans ((HB3.out.trans (hb5.mono HB3.out.size)).mono HB0.out.size))
      have HV5 := Lib.hid (HV4.out.below (Nat.le_refl _) hb5)
      obtain ⟨q1, q2, q3, q4⟩ := box2 HK.out
      clear hb5 hv5 k1 k2 k3 k4
      go_wp2
      obtain ⟨r1, r2, _⟩ := box2 (put2_heap HK.out (.bool b5) (.slice al5 L5 c5))
      exact bodyPost_ret (v := .tuple #[.agg #[.bool b5, .slice al5 L5 c5], _]) (by simp [results, Tryz.results40, go_sem, r1, r2]) rfl
        (ndiv_end HK.out hb5'.out hs5.out HV5.out HB.out (by omega))
end Go.Proofs.YtebjjgbdiabapaaGreatDoor
