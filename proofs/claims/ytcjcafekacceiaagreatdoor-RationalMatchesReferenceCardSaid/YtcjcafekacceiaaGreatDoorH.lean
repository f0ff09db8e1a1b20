/- Integer layer, merged: Nud, Opa, Opb. -/
import Derived.Test.YtcjcafekacceiaaGreatDoorJ
/-! Division of numbers with signs, walked. -/
namespace Go.Proofs.YtcjcafekacceiaaGreatDoor
open Go.RowKit

theorem eucl {x y Q R : Int} (h1 : x = R + y * Q) (h2 : 0 ≤ R) (h3 : R < y.natAbs) : x / y = Q ∧ x % y = R := by
  by_cases h : 0 < y
  · exact (Int.ediv_emod_unique h).2 ⟨h1.symm, h2, by omega⟩
  · exact (Int.ediv_emod_unique' (by omega)).2 ⟨h1.symm, h2, by omega⟩
theorem sgn_prod (b1 b2 : Bool) (q d : Nat) : sgn b2 d * sgn (!b1 == b2) q = sgn b1 (d * q) := by
  cases b1 <;> cases b2 <;> simp [sgn, Int.natCast_mul, Int.neg_mul, Int.mul_neg]
theorem div_plain (x y : Int) (hy : y ≠ 0) (h : ¬ (x < 0 ∧ x.natAbs % y.natAbs ≠ 0)) : sgn (!decide (x < 0) == decide (y < 0)) (x.natAbs / y.natAbs) = x / y ∧ x.natAbs % y.natAbs = (x % y).natAbs := by
  have e := Nat.mod_add_div x.natAbs y.natAbs
  have hm := Nat.mod_lt x.natAbs (show 0 < y.natAbs by omega)
  have hp := sgn_prod (decide (x < 0)) (decide (y < 0)) (x.natAbs / y.natAbs) y.natAbs
  rw [sgn_self y] at hp
  have hx : x = ((x.natAbs % y.natAbs : Nat) : Int) + y * sgn (!decide (x < 0) == decide (y < 0)) (x.natAbs / y.natAbs) := by
    rw [hp]
    unfold sgn
    by_cases hn : x < 0 <;> simp only [hn, decide_true, decide_false, if_true, Bool.false_eq_true, if_false] <;> omega
  obtain ⟨h1, h2⟩ := eucl hx (by omega) (by omega)
  exact ⟨h1.symm, by rw [h2]; rfl⟩
theorem div_more (x y : Int) (hy : y ≠ 0) (hx : x < 0) (hr : x.natAbs % y.natAbs ≠ 0) : sgn (!decide (x < 0) == decide (y < 0)) (x.natAbs / y.natAbs + 1) = x / y ∧ y.natAbs - x.natAbs % y.natAbs = (x % y).natAbs := by
  have e := Nat.mod_add_div x.natAbs y.natAbs
  have hm := Nat.mod_lt x.natAbs (show 0 < y.natAbs by omega)
  have hp := sgn_prod (decide (x < 0)) (decide (y < 0)) (x.natAbs / y.natAbs + 1) y.natAbs
  rw [sgn_self y, Nat.mul_add, Nat.mul_one] at hp
  have hx' : x = ((y.natAbs - x.natAbs % y.natAbs : Nat) : Int) + y * sgn (!decide (x < 0) == decide (y < 0)) (x.natAbs / y.natAbs + 1) := by
    rw [hp]
    unfold sgn
    simp only [hx, decide_true, if_true]; omega
  obtain ⟨h1, h2⟩ := eucl hx' (by omega) (by omega)
  exact ⟨h1.symm, by rw [h2]; rfl⟩

def NdivOut (w : World) (x y : Int) (e : Ending) (w' : World) : Prop := ∃ v1 v2, e = .returned (.tuple #[v1, v2]) ∧ Nm w' v1 (x / y) ∧ Nt w' v2 (x % y).natAbs ∧ Below w.heap.size w w'
theorem ndiv_end {w w1 : World} {B : Nat} {T : TypeId} {b1 : Bool} {al : Option Addr} {L c : Nat} {x y : Int} {v2 : Value} (HK : w1.heap[B]? = some (.cells #[.bool false, .slice none 0 0] T)) (hb : b1 = decide (x / y < 0)) (hs : Nt w1 (.slice al L c) (x / y).natAbs)
    (h2 : Nt w1 v2 (x % y).natAbs) (hB : Below w.heap.size w w1) (hle : w.heap.size ≤ B) : NdivOut w x y (.returned (.tuple #[.agg #[.bool b1, .slice al L c], v2])) ((w1.setCell ⟨B, 0, none⟩ (.bool b1)).setCell ⟨B, 1, none⟩ (.slice al L c)) :=
  ⟨_, _, rfl, nm_mk hb (put2_nt HK hs _ _), put2_nt HK h2 _ _, put2_below hB hle _ _⟩

set_option maxRecDepth 100000 in
set_option maxHeartbeats 2000000 in
theorem ndivided_nm (w : World) (v1 v2 : Value) (x y : Int) (h1 : Nm w v1 x) (h2 : Nm w v2 y) (hx : (dz 10000 x.natAbs).length ≤ 2000) (hy : (dz 10000 y.natAbs).length ≤ 2000) (hy0 : y ≠ 0) :
    Calls Tryz.prog 79 #[v1, v2] w (NdivOut w x y) := by
  have hdp := div_plain x y hy0
  have hdm := div_more x y hy0
  obtain ⟨b1, al1, L1, c1, rfl, hb1, hL1, hs1⟩ := h1.open
  obtain ⟨b2, al2, L2, c2, rfl, hb2, hL2, hs2⟩ := h2.open
  clear h1 h2
  rw [← hb1.out, ← hb2.out] at hdp hdm
  have HB0 := Lib.hid (boxes_below w b1 b2 (.slice al1 L1 c1) (.slice al2 L2 c2))
  have K2 := Lib.hid (two_of w b1 b2 (.slice al1 L1 c1) (.slice al2 L2 c2))
  have K3 := Lib.hid (third_of w b1 b2 (.slice al1 L1 c1) (.slice al2 L2 c2))
  have CD := Lib.hid (dividedBy_nt _ _ _ _ _ (hs1.out.below (Nat.le_refl _) HB0.out) (hs2.out.below (Nat.le_refl _) HB0.out) (show 0 < y.natAbs by omega) (by omega) (by omega))
  have hql : (dz 10000 (x.natAbs / y.natAbs)).length ≤ 2000 := Nat.le_trans (dz_length_mono 10000 (by decide) _ _ (Nat.div_le_self _ _)) hx
  have hrp := dz_length_pos 10000 (by decide) (x.natAbs % y.natAbs)
  by_cases hc : x < 0 ∧ x.natAbs % y.natAbs ≠ 0
  · obtain ⟨hq, hr⟩ := hdm hc.1 hc.2
    have CS := Lib.hid (fun W v bb (hbb : bb = (!b1 == b2)) (h : Nt W v (x.natAbs / y.natAbs + 1)) => show Calls Tryz.prog 108 #[.bool bb, v] W (NmOut W (x / y)) from by rw [hbb, ← hq]; exact signed_nm W _ v _ h)
    obtain rfl : b1 = true := by rw [hb1.out]; simpa using hc.1
    have hL0 : 0 < (dz 10000 (x.natAbs % y.natAbs)).length := by omega
    have hlt := Nat.le_of_lt (Nat.mod_lt x.natAbs (show 0 < y.natAbs by omega))
    have h1l : (dz 10000 1).length ≤ 1 := (len4 1 1).2 (by decide)
    clear hc hdp hdm hrp hq
    go_enter Tryz.func79, Tryz.ntmps79
    go_wp2_with fail
    refine CD.out.mono ?_
    rintro e w3 ⟨v3, v4, rfl, hv3, hv4, hb3⟩
    have CP := Lib.hid (fun W v (hW : Below w3.heap.size w3 W) (hv : Nt W v 1) => plus_nt W _ _ _ _ (hv3.below (Nat.le_refl _) hW) hv (by omega) (by omega))
    have CM := Lib.hid (fun W (hW : Below w3.heap.size w3 W) => minus_nt W _ _ _ _ (hs2.out.below (Nat.le_refl _) (HB0.out.trans ((hb3.mono HB0.out.size).trans (hW.mono (Nat.le_trans HB0.out.size hb3.size))))) (hv4.below (Nat.le_refl _) hW) (by omega) hlt)
    rw [hr] at CM
    obtain ⟨al4, c4, rfl⟩ := hv4.shape
    have HV3 := Lib.hid hv3; have HV4 := Lib.hid hv4; have HB3 := Lib.hid hb3
    have HT := Lib.hid (K2.out _ hb3); have H3 := Lib.hid (K3.out _ hb3)
    obtain ⟨k1, k2, k3, k4⟩ := HT.out
    clear hv3 hv4 hb3 hr K2 K3
    have hlit : Nt (w3.alloc (.cells #[.int .i64 1] 3)).drew (.slice (some ⟨w3.heap.size, 0, none⟩) 1 1) 1 := lit_nt w3 1 (by decide) (by decide)
    have hBl : Below w3.heap.size w3 (w3.alloc (.cells #[.int .i64 1] 3)).drew := ((Below.refl w3.heap.size w3).alloc (Nat.le_refl _) _).drew
    go_upto_region 3 with fail
    clear k1 k2 k3 k4
    go_region_held3 (fun w' => Two w w' true b2 (.slice al1 L1 c1) (.slice al2 L2 c2))
      (first
        | exact two_keep HT.out (Below.refl _ _).drew
        | exact two_keep HT.out ((Below.refl _ _).alloc (Nat.le_refl _) _).drew
        | exact two_keep HT.out hB5
        | exact two_keep HT.out hB6
        | go_keep)
      (first
        | (go_at_call 106; (with_reducible refine (CP.out _ _ hBl hlit).mono ?_); rintro e w5 ⟨v5, rfl, hv5, hb5⟩; have hB5 := hBl.trans (hb5.mono hBl.size))
        | (go_at_call 107; (with_reducible refine (CM.out _ hB5).mono ?_); rintro e w6 ⟨v6, rfl, hv6, hb6⟩; have hB6 := below1 hB5 hb6; have hv7 := hv5.below (Nat.le_refl _) hb6))
    have HB6 := Lib.hid (HB0.out.trans ((HB3.out.trans (hB6.mono HB3.out.size)).mono HB0.out.size))
    have HT6 := Lib.hid (two_keep HT.out hB6)
    have H36 := Lib.hid ((hB6.block _ (Array.getElem?_eq_some_iff.1 H3.out).1).trans H3.out)
    have HV6 := Lib.hid hv6; have HV7 := Lib.hid hv7
    obtain ⟨k1, k2, k3, k4⟩ := HT6.out
    clear hB5 hB6 hb5 hb6 hv5 hv6 hv7
    go_wp2_with fail
    refine (CS.out _ _ _ (by first | rfl | simp) HV7.out).mono ?_
    rintro e w8 ⟨v8, rfl, hv8, hb8⟩
    obtain ⟨b5, al5, L5, c5, rfl, hb5, hL5, hs5⟩ := hv8.open
    have HK := Lib.hid ((hb8.block _ (Array.getElem?_eq_some_iff.1 H36.out).1).trans H36.out)
    have HB := Lib.hid (HB6.out.trans (hb8.mono HB6.out.size))
    have HV9 := Lib.hid (HV6.out.below (Nat.le_refl _) hb8)
    obtain ⟨q1, q2, q3, q4⟩ := box2 HK.out
    clear hb8 hv8
    go_wp2
    obtain ⟨r1, r2, _⟩ := box2 (put2_heap HK.out (.bool b5) (.slice al5 L5 c5))
    exact bodyPost_ret (v := .tuple #[.agg #[.bool b5, .slice al5 L5 c5], v6]) (by simp [results, Tryz.results79, go_sem, r1, r2]) rfl
      (ndiv_end HK.out hb5.out hs5.out HV9.out HB.out (by omega))
  · obtain ⟨hq, hr⟩ := hdp hc
    have CS := Lib.hid (fun W v bb (hbb : bb = (!b1 == b2)) (h : Nt W v (x.natAbs / y.natAbs)) => show Calls Tryz.prog 108 #[.bool bb, v] W (NmOut W (x / y)) from by rw [hbb, ← hq]; exact signed_nm W _ v _ h)
    have hcc : b1 = false ∨ b1 = true ∧ (dz 10000 (x.natAbs % y.natAbs)).length = 0 := by
      rw [hb1.out]
      by_cases h : x < 0
      · right; exact ⟨by simpa using h, by omega⟩
      · left; simpa using h
    clear hc hdp hdm hx hy hrp hq
    go_enter Tryz.func79, Tryz.ntmps79
    go_wp2_with fail
    refine CD.out.mono ?_
    rintro e w3 ⟨v3, v4, rfl, hv3, hv4, hb3⟩
    obtain ⟨al4, c4, rfl⟩ := hv4.shape
    have HV3 := Lib.hid hv3; have HB3 := Lib.hid hb3
    rw [hr] at hv4
    have HV4 := Lib.hid hv4
    rw [hr] at hcc
    obtain ⟨LL, hLL⟩ : ∃ LL, (dz 10000 (x % y).natAbs).length = LL := ⟨_, rfl⟩
    rw [hr, hLL]
    rw [hLL] at HV4 hcc
    obtain ⟨k1, k2, k3, k4⟩ := K2.out _ hb3
    have HC := Lib.hid (K3.out _ hb3)
    clear hv3 hv4 hb3 hr hLL
    rcases hcc with rfl | ⟨rfl, rfl⟩
    all_goals
      go_wp2_with fail
      refine (CS.out _ _ _ (by first | rfl | simp) HV3.out).mono ?_
      rintro e w4 ⟨v5, rfl, hv5, hb5⟩
      obtain ⟨b5, al5, L5, c5, rfl, hb5', hL5, hs5⟩ := hv5.open
      have HK := Lib.hid ((hb5.block _ (Array.getElem?_eq_some_iff.1 HC.out).1).trans HC.out)
      have HB := Lib.hid (HB0.out.trans ((HB3.out.trans (hb5.mono HB3.out.size)).mono HB0.out.size))
      have HV5 := Lib.hid (HV4.out.below (Nat.le_refl _) hb5)
      obtain ⟨q1, q2, q3, q4⟩ := box2 HK.out
      clear hb5 hv5 k1 k2 k3 k4
      go_wp2
      obtain ⟨r1, r2, _⟩ := box2 (put2_heap HK.out (.bool b5) (.slice al5 L5 c5))
      exact bodyPost_ret (v := .tuple #[.agg #[.bool b5, .slice al5 L5 c5], _]) (by simp [results, Tryz.results79, go_sem, r1, r2]) rfl
        (ndiv_end HK.out hb5'.out hs5.out HV5.out HB.out (by omega))
end Go.Proofs.YtcjcafekacceiaaGreatDoor

/-! calculate at the four operations, and Add, Sub, Mul, Gcd, walked. -/
namespace Go.Proofs.YtcjcafekacceiaaGreatDoor
open Go.RowKit

set_option maxRecDepth 100000 in
set_option maxHeartbeats 1000000 in
theorem calc_add (a b : ByteArray) (w : World) (ha : a.size ≤ 9223372036854775807) (hb : b.size ≤ 9223372036854775807) (ht : Tb w) :
    Calls Tryz.prog 91 #[.string a, .string b, .func (.func 92) #[] #[]] w (ResOut w (opS (fun x y => x + y) a b) (opE (fun x y => x + y) a b)) := by
  have CN := Lib.hid (numbersOf_any a b w ha hb)
  have CO := Lib.hid (fun W v1 v2 (h1 : Nm W v1 (nS a)) (h2 : Nm W v2 (nS b)) => nplus_nm W v1 v2 (nS a) (nS b) h1 h2 (by have := big_len (nS_big a); omega) (by have := big_len (nS_big b); omega))
  have CI := Lib.hid (fun W v (hW : Below w.heap.size w W) (h : Nm W v ((fun x y => x + y) (nS a) (nS b))) => integer_any W v _ h (len_add _ _ (nS_big a) (nS_big b)) (ht.below hW))
  obtain ⟨vv, hvv⟩ : ∃ vv, (vS a && vS b) = vv := ⟨_, rfl⟩
  have hs : Hid (opS (fun x y => x + y) a b = if vv then resS ((fun x y => x + y) (nS a) (nS b)) else ⟨#[]⟩) := by rw [← hvv]; exact Lib.hid rfl
  have he : Hid (opE (fun x y => x + y) a b = if vv then resE ((fun x y => x + y) (nS a) (nS b)) else 30) := by rw [← hvv]; exact Lib.hid rfl
  have HVV := Lib.hid hvv
  have HT := Lib.hid ht
  clear hvv ht
  go_enter Tryz.func91, Tryz.ntmps91
  go_wp2_with fail
  refine CN.out.mono ?_
  rintro e w1 ⟨v1, v2, rfl, hn1, hn2, hb1⟩
  rw [HVV.out]
  obtain ⟨b1, al1, L1, c1, rfl, hb1', hL1, hs1⟩ := hn1.open
  obtain ⟨b2, al2, L2, c2, rfl, hb2', hL2, hs2⟩ := hn2.open
  have hB2 : Below w.heap.size w ((w1.alloc (.cells #[.bool b1, .slice al1 L1 c1] 94)).alloc (.cells #[.bool b2, .slice al2 L2 c2] 94)) := (hb1.alloc hb1.size _).alloc (by have := hb1.size; simp; omega) _
  have HB2 := Lib.hid hB2
  have HN1 := Lib.hid (hn1.below (Nat.le_refl _) (((Below.refl w1.heap.size w1).alloc (Nat.le_refl _) (.cells #[.bool b1, .slice al1 L1 c1] 94)).alloc (by simp) (.cells #[.bool b2, .slice al2 L2 c2] 94)))
  have HN2 := Lib.hid (hn2.below (Nat.le_refl _) (((Below.refl w1.heap.size w1).alloc (Nat.le_refl _) (.cells #[.bool b1, .slice al1 L1 c1] 94)).alloc (by simp) (.cells #[.bool b2, .slice al2 L2 c2] 94)))
  clear hn1 hn2 hb1 hB2
  cases vv
  · go_wp2
    go_ret2
    exact ⟨by rw [hs.out, he.out]; rfl, HB2.out⟩
  · go_wp2_with (first
      | (go_at_call 92; (with_reducible refine (CO.out _ _ _ HN1.out HN2.out).mono ?_); rintro e w3 ⟨v3, rfl, hn3, hb3⟩; have HN3 := Lib.hid hn3; have HB3 := Lib.hid (HB2.out.trans (hb3.mono HB2.out.size)); clear hn3 hb3)
      | (go_at_call 80; (with_reducible refine (CI.out _ _ HB3.out HN3.out).mono ?_); rintro e w4 ⟨rfl, hb4⟩; have HB4 := Lib.hid (HB3.out.trans (hb4.mono HB3.out.size)); clear hb4))
    go_ret2
    exact ⟨by rw [hs.out, he.out]; rfl, HB4.out⟩
set_option maxRecDepth 100000 in
theorem add_any (a b : ByteArray) (w : World) (ha : a.size ≤ 9223372036854775807) (hb : b.size ≤ 9223372036854775807) (ht : Tb w) :
    Calls Tryz.prog 59 #[.string a, .string b] w (ResOut w (opS (fun x y => x + y) a b) (opE (fun x y => x + y) a b)) := by
  have CC := Lib.hid (calc_add a b w ha hb ht)
  generalize opS (fun x y => x + y) a b = r at *
  generalize opE (fun x y => x + y) a b = n at *
  go_enter Tryz.func59, Tryz.ntmps59
  go_wp2_with fail
  refine CC.out.mono ?_
  rintro e w1 ⟨rfl, hb1⟩
  have HB1 := Lib.hid hb1
  clear hb1
  go_wp2
  go_ret2
  exact ⟨rfl, HB1.out⟩

set_option maxRecDepth 100000 in
set_option maxHeartbeats 1000000 in
theorem calc_sub (a b : ByteArray) (w : World) (ha : a.size ≤ 9223372036854775807) (hb : b.size ≤ 9223372036854775807) (ht : Tb w) :
    Calls Tryz.prog 91 #[.string a, .string b, .func (.func 102) #[] #[]] w (ResOut w (opS (fun x y => x - y) a b) (opE (fun x y => x - y) a b)) := by
  have CN := Lib.hid (numbersOf_any a b w ha hb)
  have CO := Lib.hid (fun W v1 v2 (h1 : Nm W v1 (nS a)) (h2 : Nm W v2 (nS b)) => nminus_nm W v1 v2 (nS a) (nS b) h1 h2 (by have := big_len (nS_big a); omega) (by have := big_len (nS_big b); omega))
  have CI := Lib.hid (fun W v (hW : Below w.heap.size w W) (h : Nm W v ((fun x y => x - y) (nS a) (nS b))) => integer_any W v _ h (len_sub _ _ (nS_big a) (nS_big b)) (ht.below hW))
  obtain ⟨vv, hvv⟩ : ∃ vv, (vS a && vS b) = vv := ⟨_, rfl⟩
  have hs : Hid (opS (fun x y => x - y) a b = if vv then resS ((fun x y => x - y) (nS a) (nS b)) else ⟨#[]⟩) := by rw [← hvv]; exact Lib.hid rfl
  have he : Hid (opE (fun x y => x - y) a b = if vv then resE ((fun x y => x - y) (nS a) (nS b)) else 30) := by rw [← hvv]; exact Lib.hid rfl
  have HVV := Lib.hid hvv
  have HT := Lib.hid ht
  clear hvv ht
  go_enter Tryz.func91, Tryz.ntmps91
  go_wp2_with fail
  refine CN.out.mono ?_
  rintro e w1 ⟨v1, v2, rfl, hn1, hn2, hb1⟩
  rw [HVV.out]
  obtain ⟨b1, al1, L1, c1, rfl, hb1', hL1, hs1⟩ := hn1.open
  obtain ⟨b2, al2, L2, c2, rfl, hb2', hL2, hs2⟩ := hn2.open
  have hB2 : Below w.heap.size w ((w1.alloc (.cells #[.bool b1, .slice al1 L1 c1] 94)).alloc (.cells #[.bool b2, .slice al2 L2 c2] 94)) := (hb1.alloc hb1.size _).alloc (by have := hb1.size; simp; omega) _
  have HB2 := Lib.hid hB2
  have HN1 := Lib.hid (hn1.below (Nat.le_refl _) (((Below.refl w1.heap.size w1).alloc (Nat.le_refl _) (.cells #[.bool b1, .slice al1 L1 c1] 94)).alloc (by simp) (.cells #[.bool b2, .slice al2 L2 c2] 94)))
  have HN2 := Lib.hid (hn2.below (Nat.le_refl _) (((Below.refl w1.heap.size w1).alloc (Nat.le_refl _) (.cells #[.bool b1, .slice al1 L1 c1] 94)).alloc (by simp) (.cells #[.bool b2, .slice al2 L2 c2] 94)))
  clear hn1 hn2 hb1 hB2
  cases vv
  · go_wp2
    go_ret2
    exact ⟨by rw [hs.out, he.out]; rfl, HB2.out⟩
  · go_wp2_with (first
      | (go_at_call 102; (with_reducible refine (CO.out _ _ _ HN1.out HN2.out).mono ?_); rintro e w3 ⟨v3, rfl, hn3, hb3⟩; have HN3 := Lib.hid hn3; have HB3 := Lib.hid (HB2.out.trans (hb3.mono HB2.out.size)); clear hn3 hb3)
      | (go_at_call 80; (with_reducible refine (CI.out _ _ HB3.out HN3.out).mono ?_); rintro e w4 ⟨rfl, hb4⟩; have HB4 := Lib.hid (HB3.out.trans (hb4.mono HB3.out.size)); clear hb4))
    go_ret2
    exact ⟨by rw [hs.out, he.out]; rfl, HB4.out⟩
set_option maxRecDepth 100000 in
theorem sub_any (a b : ByteArray) (w : World) (ha : a.size ≤ 9223372036854775807) (hb : b.size ≤ 9223372036854775807) (ht : Tb w) :
    Calls Tryz.prog 71 #[.string a, .string b] w (ResOut w (opS (fun x y => x - y) a b) (opE (fun x y => x - y) a b)) := by
  have CC := Lib.hid (calc_sub a b w ha hb ht)
  generalize opS (fun x y => x - y) a b = r at *
  generalize opE (fun x y => x - y) a b = n at *
  go_enter Tryz.func71, Tryz.ntmps71
  go_wp2_with fail
  refine CC.out.mono ?_
  rintro e w1 ⟨rfl, hb1⟩
  have HB1 := Lib.hid hb1
  clear hb1
  go_wp2
  go_ret2
  exact ⟨rfl, HB1.out⟩

set_option maxRecDepth 100000 in
set_option maxHeartbeats 1000000 in
theorem calc_mul (a b : ByteArray) (w : World) (ha : a.size ≤ 9223372036854775807) (hb : b.size ≤ 9223372036854775807) (ht : Tb w) :
    Calls Tryz.prog 91 #[.string a, .string b, .func (.func 101) #[] #[]] w (ResOut w (opS (fun x y => x * y) a b) (opE (fun x y => x * y) a b)) := by
  have CN := Lib.hid (numbersOf_any a b w ha hb)
  have CO := Lib.hid (fun W v1 v2 (h1 : Nm W v1 (nS a)) (h2 : Nm W v2 (nS b)) => ntimes_nm W v1 v2 (nS a) (nS b) h1 h2 (by have := big_len (nS_big a); omega) (by have := big_len (nS_big b); omega))
  have CI := Lib.hid (fun W v (hW : Below w.heap.size w W) (h : Nm W v ((fun x y => x * y) (nS a) (nS b))) => integer_any W v _ h (len_mul _ _ (nS_big a) (nS_big b)) (ht.below hW))
  obtain ⟨vv, hvv⟩ : ∃ vv, (vS a && vS b) = vv := ⟨_, rfl⟩
  have hs : Hid (opS (fun x y => x * y) a b = if vv then resS ((fun x y => x * y) (nS a) (nS b)) else ⟨#[]⟩) := by rw [← hvv]; exact Lib.hid rfl
  have he : Hid (opE (fun x y => x * y) a b = if vv then resE ((fun x y => x * y) (nS a) (nS b)) else 30) := by rw [← hvv]; exact Lib.hid rfl
  have HVV := Lib.hid hvv
  have HT := Lib.hid ht
  clear hvv ht
  go_enter Tryz.func91, Tryz.ntmps91
  go_wp2_with fail
  refine CN.out.mono ?_
  rintro e w1 ⟨v1, v2, rfl, hn1, hn2, hb1⟩
  rw [HVV.out]
  obtain ⟨b1, al1, L1, c1, rfl, hb1', hL1, hs1⟩ := hn1.open
  obtain ⟨b2, al2, L2, c2, rfl, hb2', hL2, hs2⟩ := hn2.open
  have hB2 : Below w.heap.size w ((w1.alloc (.cells #[.bool b1, .slice al1 L1 c1] 94)).alloc (.cells #[.bool b2, .slice al2 L2 c2] 94)) := (hb1.alloc hb1.size _).alloc (by have := hb1.size; simp; omega) _
  have HB2 := Lib.hid hB2
  have HN1 := Lib.hid (hn1.below (Nat.le_refl _) (((Below.refl w1.heap.size w1).alloc (Nat.le_refl _) (.cells #[.bool b1, .slice al1 L1 c1] 94)).alloc (by simp) (.cells #[.bool b2, .slice al2 L2 c2] 94)))
  have HN2 := Lib.hid (hn2.below (Nat.le_refl _) (((Below.refl w1.heap.size w1).alloc (Nat.le_refl _) (.cells #[.bool b1, .slice al1 L1 c1] 94)).alloc (by simp) (.cells #[.bool b2, .slice al2 L2 c2] 94)))
  clear hn1 hn2 hb1 hB2
  cases vv
  · go_wp2
    go_ret2
    exact ⟨by rw [hs.out, he.out]; rfl, HB2.out⟩
  · go_wp2_with (first
      | (go_at_call 101; (with_reducible refine (CO.out _ _ _ HN1.out HN2.out).mono ?_); rintro e w3 ⟨v3, rfl, hn3, hb3⟩; have HN3 := Lib.hid hn3; have HB3 := Lib.hid (HB2.out.trans (hb3.mono HB2.out.size)); clear hn3 hb3)
      | (go_at_call 80; (with_reducible refine (CI.out _ _ HB3.out HN3.out).mono ?_); rintro e w4 ⟨rfl, hb4⟩; have HB4 := Lib.hid (HB3.out.trans (hb4.mono HB3.out.size)); clear hb4))
    go_ret2
    exact ⟨by rw [hs.out, he.out]; rfl, HB4.out⟩
set_option maxRecDepth 100000 in
theorem mul_any (a b : ByteArray) (w : World) (ha : a.size ≤ 9223372036854775807) (hb : b.size ≤ 9223372036854775807) (ht : Tb w) :
    Calls Tryz.prog 70 #[.string a, .string b] w (ResOut w (opS (fun x y => x * y) a b) (opE (fun x y => x * y) a b)) := by
  have CC := Lib.hid (calc_mul a b w ha hb ht)
  generalize opS (fun x y => x * y) a b = r at *
  generalize opE (fun x y => x * y) a b = n at *
  go_enter Tryz.func70, Tryz.ntmps70
  go_wp2_with fail
  refine CC.out.mono ?_
  rintro e w1 ⟨rfl, hb1⟩
  have HB1 := Lib.hid hb1
  clear hb1
  go_wp2
  go_ret2
  exact ⟨rfl, HB1.out⟩

set_option maxRecDepth 100000 in
set_option maxHeartbeats 1000000 in
theorem calc_gcd (a b : ByteArray) (w : World) (ha : a.size ≤ 9223372036854775807) (hb : b.size ≤ 9223372036854775807) (ht : Tb w) :
    Calls Tryz.prog 91 #[.string a, .string b, .func (.func 95) #[] #[]] w (ResOut w (opS gcdZ a b) (opE gcdZ a b)) := by
  have CN := Lib.hid (numbersOf_any a b w ha hb)
  have CO := Lib.hid (fun W v1 v2 (h1 : Nm W v1 (nS a)) (h2 : Nm W v2 (nS b)) => ngcd_nm W v1 v2 (nS a) (nS b) h1 h2 (by have := big_len (nS_big a); omega) (by have := big_len (nS_big b); omega))
  have CI := Lib.hid (fun W v (hW : Below w.heap.size w W) (h : Nm W v (gcdZ (nS a) (nS b))) => integer_any W v _ h (len_gcd _ _ (nS_big a) (nS_big b)) (ht.below hW))
  obtain ⟨vv, hvv⟩ : ∃ vv, (vS a && vS b) = vv := ⟨_, rfl⟩
  have hs : Hid (opS gcdZ a b = if vv then resS (gcdZ (nS a) (nS b)) else ⟨#[]⟩) := by rw [← hvv]; exact Lib.hid rfl
  have he : Hid (opE gcdZ a b = if vv then resE (gcdZ (nS a) (nS b)) else 30) := by rw [← hvv]; exact Lib.hid rfl
  have HVV := Lib.hid hvv
  have HT := Lib.hid ht
  clear hvv ht
  go_enter Tryz.func91, Tryz.ntmps91
  go_wp2_with fail
  refine CN.out.mono ?_
  rintro e w1 ⟨v1, v2, rfl, hn1, hn2, hb1⟩
  rw [HVV.out]
  obtain ⟨b1, al1, L1, c1, rfl, hb1', hL1, hs1⟩ := hn1.open
  obtain ⟨b2, al2, L2, c2, rfl, hb2', hL2, hs2⟩ := hn2.open
  have hB2 : Below w.heap.size w ((w1.alloc (.cells #[.bool b1, .slice al1 L1 c1] 94)).alloc (.cells #[.bool b2, .slice al2 L2 c2] 94)) := (hb1.alloc hb1.size _).alloc (by have := hb1.size; simp; omega) _
  have HB2 := Lib.hid hB2
  have HN1 := Lib.hid (hn1.below (Nat.le_refl _) (((Below.refl w1.heap.size w1).alloc (Nat.le_refl _) (.cells #[.bool b1, .slice al1 L1 c1] 94)).alloc (by simp) (.cells #[.bool b2, .slice al2 L2 c2] 94)))
  have HN2 := Lib.hid (hn2.below (Nat.le_refl _) (((Below.refl w1.heap.size w1).alloc (Nat.le_refl _) (.cells #[.bool b1, .slice al1 L1 c1] 94)).alloc (by simp) (.cells #[.bool b2, .slice al2 L2 c2] 94)))
  clear hn1 hn2 hb1 hB2
  cases vv
  · go_wp2
    go_ret2
    exact ⟨by rw [hs.out, he.out]; rfl, HB2.out⟩
  · go_wp2_with (first
      | (go_at_call 95; (with_reducible refine (CO.out _ _ _ HN1.out HN2.out).mono ?_); rintro e w3 ⟨v3, rfl, hn3, hb3⟩; have HN3 := Lib.hid hn3; have HB3 := Lib.hid (HB2.out.trans (hb3.mono HB2.out.size)); clear hn3 hb3)
      | (go_at_call 80; (with_reducible refine (CI.out _ _ HB3.out HN3.out).mono ?_); rintro e w4 ⟨rfl, hb4⟩; have HB4 := Lib.hid (HB3.out.trans (hb4.mono HB3.out.size)); clear hb4))
    go_ret2
    exact ⟨by rw [hs.out, he.out]; rfl, HB4.out⟩
set_option maxRecDepth 100000 in
theorem gcd_any (a b : ByteArray) (w : World) (ha : a.size ≤ 9223372036854775807) (hb : b.size ≤ 9223372036854775807) (ht : Tb w) :
    Calls Tryz.prog 63 #[.string a, .string b] w (ResOut w (opS gcdZ a b) (opE gcdZ a b)) := by
  have CC := Lib.hid (calc_gcd a b w ha hb ht)
  generalize opS gcdZ a b = r at *
  generalize opE gcdZ a b = n at *
  go_enter Tryz.func63, Tryz.ntmps63
  go_wp2_with fail
  refine CC.out.mono ?_
  rintro e w1 ⟨rfl, hb1⟩
  have HB1 := Lib.hid hb1
  clear hb1
  go_wp2
  go_ret2
  exact ⟨rfl, HB1.out⟩

end Go.Proofs.YtcjcafekacceiaaGreatDoor

/-! Compare, Div and Root, walked. -/
namespace Go.Proofs.YtcjcafekacceiaaGreatDoor
open Go.RowKit

set_option maxRecDepth 100000 in
set_option maxHeartbeats 1000000 in
theorem compare_any (a b : ByteArray) (w : World) (ha : a.size ≤ 9223372036854775807) (hb : b.size ≤ 9223372036854775807) :
    Calls Tryz.prog 51 #[.string a, .string b] w (IntOut w (cmpS a b)) := by
  have CN := Lib.hid (numbersOf_any a b w ha hb)
  have CO := Lib.hid (fun W v1 v2 (h1 : Nm W v1 (nS a)) (h2 : Nm W v2 (nS b)) => ncompare_any W v1 v2 (nS a) (nS b) h1 h2 (by have := big_len (nS_big a); omega) (by have := big_len (nS_big b); omega))
  obtain ⟨vv, hvv⟩ : ∃ vv, (vS a && vS b) = vv := ⟨_, rfl⟩
  have hs : Hid (cmpS a b = if vv then cmpZ (nS a) (nS b) else 0) := by rw [← hvv]; exact Lib.hid rfl
  have HVV := Lib.hid hvv
  clear hvv
  go_enter Tryz.func51, Tryz.ntmps51
  go_wp2_with fail
  refine CN.out.mono ?_
  rintro e w1 ⟨v1, v2, rfl, hn1, hn2, hb1⟩
  rw [HVV.out]
  obtain ⟨b1, al1, L1, c1, rfl, hb1', hL1, hs1⟩ := hn1.open
  obtain ⟨b2, al2, L2, c2, rfl, hb2', hL2, hs2⟩ := hn2.open
  have hB2 : Below w.heap.size w ((w1.alloc (.cells #[.bool b1, .slice al1 L1 c1] 94)).alloc (.cells #[.bool b2, .slice al2 L2 c2] 94)) := (hb1.alloc hb1.size _).alloc (by have := hb1.size; simp; omega) _
  have HB2 := Lib.hid hB2
  have HN1 := Lib.hid (hn1.below (Nat.le_refl _) (((Below.refl w1.heap.size w1).alloc (Nat.le_refl _) (.cells #[.bool b1, .slice al1 L1 c1] 94)).alloc (by simp) (.cells #[.bool b2, .slice al2 L2 c2] 94)))
  have HN2 := Lib.hid (hn2.below (Nat.le_refl _) (((Below.refl w1.heap.size w1).alloc (Nat.le_refl _) (.cells #[.bool b1, .slice al1 L1 c1] 94)).alloc (by simp) (.cells #[.bool b2, .slice al2 L2 c2] 94)))
  clear hn1 hn2 hb1 hB2
  cases vv
  · go_wp2
    go_ret
    exact ⟨by rw [hs.out]; rfl, HB2.out⟩
  · go_wp2_with (go_at_call 82; (with_reducible refine (CO.out _ _ _ HN1.out HN2.out).mono ?_); rintro e w3 ⟨rfl, hb3⟩; have HB3 := Lib.hid (HB2.out.trans (hb3.mono HB2.out.size)); clear hb3)
    go_ret
    exact ⟨by rw [hs.out]; rfl, HB3.out⟩

set_option maxRecDepth 100000 in
set_option maxHeartbeats 2000000 in
theorem div_any (a b : ByteArray) (w : World) (ha : a.size ≤ 9223372036854775807) (hb : b.size ≤ 9223372036854775807) (ht : Tb w) :
    Calls Tryz.prog 50 #[.string a, .string b] w (DivsOut w (divQ a b) (divR a b) (divE a b)) := by
  have CN := Lib.hid (numbersOf_any a b w ha hb)
  have CZ := Lib.hid (fun W v (h : Nm W v (nS b)) => isZero_any W v _ h)
  have CO := Lib.hid (fun W v1 v2 (h1 : Nm W v1 (nS a)) (h2 : Nm W v2 (nS b)) (h0 : nS b ≠ 0) => ndivided_nm W v1 v2 (nS a) (nS b) h1 h2 (by have := big_len (nS_big a); omega) (by have := big_len (nS_big b); omega) h0)
  have hbq := big_div (nS a) (nS b) (nS_big a)
  have CI := Lib.hid (fun W v (hW : Below w.heap.size w W) (h : Nm W v (nS a / nS b)) => integer_any W v _ h (by have := big_len hbq; omega) (ht.below hW))
  rw [resS_ok hbq, resE_ok hbq] at CI
  have CT := Lib.hid (fun W v (hW : Below w.heap.size w W) (h : Nt W v (nS a % nS b).natAbs) (h0 : nS b ≠ 0) => text_any W v _ h (ht.below hW) (by
    have h1 := big_len (nS_big b)
    have h2 := Int.emod_lt (nS a) h0
    have h3 := Int.emod_nonneg (nS a) h0
    have h4 := dz_length_mono 10000 (by decide) (nS a % nS b).natAbs (nS b).natAbs (by omega)
    omega))
  obtain ⟨vv, hvv⟩ : ∃ vv, (vS a && vS b) = vv := ⟨_, rfl⟩
  have hd : Hid (divV a b = (vv && decide (nS b ≠ 0))) := by rw [← hvv]; exact Lib.hid rfl
  have HVV := Lib.hid hvv
  have HT := Lib.hid ht
  clear hvv ht hbq
  go_enter Tryz.func50, Tryz.ntmps50
  go_wp2_with fail
  refine CN.out.mono ?_
  rintro e w1 ⟨v1, v2, rfl, hn1, hn2, hb1⟩
  rw [HVV.out]
  obtain ⟨b1, al1, L1, c1, rfl, hb1', hL1, hs1⟩ := hn1.open
  obtain ⟨b2, al2, L2, c2, rfl, hb2', hL2, hs2⟩ := hn2.open
  have hA1 : Below w1.heap.size w1 ((w1.alloc (.cells #[.bool b1, .slice al1 L1 c1] 94)).alloc (.cells #[.bool b2, .slice al2 L2 c2] 94)) := ((Below.refl w1.heap.size w1).alloc (Nat.le_refl _) (.cells #[.bool b1, .slice al1 L1 c1] 94)).alloc (by simp) (.cells #[.bool b2, .slice al2 L2 c2] 94)
  have HB2 := Lib.hid (hb1.trans (hA1.mono hb1.size))
  have HN1 := Lib.hid (hn1.below (Nat.le_refl _) hA1)
  have HN2 := Lib.hid (hn2.below (Nat.le_refl _) hA1)
  have HA1 := Lib.hid hA1
  clear hn1 hn2 hb1 hA1
  cases vv
  · go_wp2
    refine bodyPost_ret (v := .tuple #[.string ⟨#[]⟩, .string ⟨#[]⟩, .int .i64 30]) (by simp [results, Tryz.results50, go_sem]) rfl ?_
    have hd' : divV a b = false := by rw [hd.out]; rfl
    exact ⟨by unfold divQ divR divE; rw [hd']; rfl, HB2.out⟩
  · by_cases h0 : nS b = 0
    · have hz : decide (nS b = 0) = true := by simpa using h0
      have hd' : Hid (divV a b = false) := by rw [hd.out]; simp [h0]; exact Lib.hid trivial
      rw [hz] at CZ
      clear hz h0
      go_wp2_with (go_at_call 78; (with_reducible refine (CZ.out _ _ HN2.out).mono ?_); rintro e w3 ⟨rfl, hb3⟩; have HB3 := Lib.hid (HB2.out.trans (hb3.mono HB2.out.size)); clear hb3)
      refine bodyPost_ret (v := .tuple #[.string ⟨#[]⟩, .string ⟨#[]⟩, .int .i64 30]) (by simp [results, Tryz.results50, go_sem]) rfl ?_
      exact ⟨by unfold divQ divR divE; rw [hd'.out]; rfl, HB3.out⟩
    · have hz : decide (nS b = 0) = false := by simpa using h0
      have hd' : Hid (divV a b = true) := by rw [hd.out]; simp [h0]; exact Lib.hid trivial
      rw [hz] at CZ
      have H0 := Lib.hid h0
      clear hz h0
      have KA := Lib.hid ((Below.heap_alloc (w1.alloc (.cells #[.bool b1, .slice al1 L1 c1] 94)) (.cells #[.bool b2, .slice al2 L2 c2] 94) w1.heap.size (by simp)).trans (heap_new' w1 (.cells #[.bool b1, .slice al1 L1 c1] 94) w1.heap.size rfl))
      have KB := Lib.hid (heap_new' (w1.alloc (.cells #[.bool b1, .slice al1 L1 c1] 94)) (.cells #[.bool b2, .slice al2 L2 c2] 94) (w1.heap.size + 1) (by simp))
      go_wp2_with fail
      refine (CZ.out _ _ HN2.out).mono ?_
      rintro e w3 ⟨rfl, hb3⟩
      obtain ⟨q1, q2, _, _⟩ := box2 ((hb3.block w1.heap.size (by simp; omega)).trans KA.out)
      obtain ⟨q5, q6, _, _⟩ := box2 ((hb3.block (w1.heap.size + 1) (by simp)).trans KB.out)
      have HN3 := Lib.hid (HN1.out.below (Nat.le_refl _) hb3)
      have HN4 := Lib.hid (HN2.out.below (Nat.le_refl _) hb3)
      have HB3 := Lib.hid (HB2.out.trans (hb3.mono HB2.out.size))
      clear hb3
      go_wp2_with fail
      refine (CO.out _ _ _ HN3.out HN4.out H0.out).mono ?_
      rintro e w4 ⟨v5, v6, rfl, hn5, hn6, hb4⟩
      obtain ⟨b5, al5, L5, c5, rfl, hb5', hL5, hs5⟩ := hn5.open
      have hA4 : Below w4.heap.size w4 (w4.alloc (.cells #[.bool b5, .slice al5 L5 c5] 94)) := (Below.refl w4.heap.size w4).alloc (Nat.le_refl _) _
      have HB4 := Lib.hid (HB3.out.trans ((hb4.trans (hA4.mono hb4.size)).mono HB3.out.size))
      have HN5 := Lib.hid (hn5.below (Nat.le_refl _) hA4)
      have HN6 := Lib.hid (hn6.below (Nat.le_refl _) hA4)
      clear hb4 hn5 hn6 hA4
      go_wp2_with fail
      refine (CI.out _ _ HB4.out HN5.out).mono ?_
      rintro e w7 ⟨rfl, hb7⟩
      have HB7 := Lib.hid (HB4.out.trans (hb7.mono HB4.out.size))
      have HN7 := Lib.hid (HN6.out.below (Nat.le_refl _) hb7)
      clear hb7
      go_wp2_with fail
      refine (CT.out _ _ HB7.out HN7.out H0.out).mono ?_
      rintro e w8 ⟨rfl, hb8⟩
      have HB8 := Lib.hid (HB7.out.trans (hb8.mono HB7.out.size))
      clear hb8
      go_wp2
      refine bodyPost_ret (v := .tuple #[.string (str (nS a / nS b)), .string ⟨(txt (nS a % nS b).natAbs).toArray⟩, .int .i64 0]) (by simp [results, Tryz.results50, go_sem]) rfl ?_
      exact ⟨by unfold divQ divR divE; rw [hd'.out, rem_nat _ _ H0.out, str_nat]; rfl, HB8.out⟩

end Go.Proofs.YtcjcafekacceiaaGreatDoor
