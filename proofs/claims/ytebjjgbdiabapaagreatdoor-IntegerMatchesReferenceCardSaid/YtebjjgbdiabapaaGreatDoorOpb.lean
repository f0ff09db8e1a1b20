/- Compare, Div and Root, walked. -/
import Derived.Test.YtebjjgbdiabapaaGreatDoorOpa
namespace Go.Proofs.YtebjjgbdiabapaaGreatDoor
open Go.RowKit

def cmpS (a b : ByteArray) : Int := if vS a && vS b then cmpZ (nS a) (nS b) else 0
theorem cmpS_ok {x y : Int} (hx : Big x) (hy : Big y) : cmpS (str x) (str y) = cmpZ x y := by
  unfold cmpS
  rw [(vS_str x).2 hx, (vS_str y).2 hy, nS_str hx, nS_str hy]; rfl

set_option maxRecDepth 100000 in
set_option maxHeartbeats 1000000 in
theorem compare_any (a b : ByteArray) (w : World) (ha : a.size ≤ 9223372036854775807) (hb : b.size ≤ 9223372036854775807) :
    Calls Tryz.prog 25 #[.string a, .string b] w (IntOut w (cmpS a b)) := by
  have CN := Lib.hid (numbersOf_any a b w ha hb)
  have CO := Lib.hid (fun W v1 v2 (h1 : Nm W v1 (nS a)) (h2 : Nm W v2 (nS b)) => ncompare_any W v1 v2 (nS a) (nS b) h1 h2 (by have := big_len (nS_big a); omega) (by have := big_len (nS_big b); omega))
  obtain ⟨vv, hvv⟩ : ∃ vv, (vS a && vS b) = vv := ⟨_, rfl⟩
  have hs : Hid (cmpS a b = if vv then cmpZ (nS a) (nS b) else 0) := by rw [← hvv]; exact Lib.hid rfl
  have HVV := Lib.hid hvv
  clear hvv
  go_enter Tryz.func25, Tryz.ntmps25
  go_wp2_with fail
  refine CN.out.mono ?_
  rintro e w1 ⟨v1, v2, rfl, hn1, hn2, hb1⟩
  rw [HVV.out]
  obtain ⟨b1, al1, L1, c1, rfl, hb1', hL1, hs1⟩ := hn1.open
  obtain ⟨b2, al2, L2, c2, rfl, hb2', hL2, hs2⟩ := hn2.open
  have hB2 : Below w.heap.size w ((w1.alloc (.cells #[.bool b1, .slice al1 L1 c1] 49)).alloc (.cells #[.bool b2, .slice al2 L2 c2] 49)) := (hb1.alloc hb1.size _).alloc (by have := hb1.size; simp; omega) _
  have HB2 := Lib.hid hB2
  have HN1 := Lib.hid (hn1.below (Nat.le_refl _) (((Below.refl w1.heap.size w1).alloc (Nat.le_refl _) (.cells #[.bool b1, .slice al1 L1 c1] 49)).alloc (by simp) (.cells #[.bool b2, .slice al2 L2 c2] 49)))
  have HN2 := Lib.hid (hn2.below (Nat.le_refl _) (((Below.refl w1.heap.size w1).alloc (Nat.le_refl _) (.cells #[.bool b1, .slice al1 L1 c1] 49)).alloc (by simp) (.cells #[.bool b2, .slice al2 L2 c2] 49)))
  clear hn1 hn2 hb1 hB2
  cases vv
  · go_wp2
    go_ret
    exact ⟨by rw [hs.out]; rfl, HB2.out⟩
  · go_wp2_with (go_at_call 53; (with_reducible refine (CO.out _ _ _ HN1.out HN2.out).mono ?_); rintro e w3 ⟨rfl, hb3⟩; have HB3 := Lib.hid (HB2.out.trans (hb3.mono HB2.out.size)); clear hb3)
    go_ret
    exact ⟨by rw [hs.out]; rfl, HB3.out⟩

/-- Can a be divided by b? -/
def divV (a b : ByteArray) : Bool := vS a && vS b && decide (nS b ≠ 0)
def divQ (a b : ByteArray) : ByteArray := if divV a b then str (nS a / nS b) else ⟨#[]⟩
def divR (a b : ByteArray) : ByteArray := if divV a b then str (nS a % nS b) else ⟨#[]⟩
def divE (a b : ByteArray) : Int := if divV a b then 0 else 30
def DivsOut (w : World) (q r : ByteArray) (n : Int) (e : Ending) (w' : World) : Prop := e = .returned (.tuple #[.string q, .string r, .int .i64 n]) ∧ Below w.heap.size w w'
theorem big_div (x y : Int) (hx : Big x) : Big (x / y) := by
  have := Int.natAbs_ediv_le_natAbs x y
  unfold Big at *
  exact Nat.lt_of_le_of_lt this hx
theorem rem_nat (x y : Int) (hy : y ≠ 0) : x % y = ((x % y).natAbs : Int) := by
  have := Int.emod_nonneg x hy
  omega
theorem str_nat (n : Nat) : str (n : Int) = ⟨(txt n).toArray⟩ := by
  unfold str shw
  rw [if_neg (by omega)]
  rfl

set_option maxRecDepth 100000 in
set_option maxHeartbeats 2000000 in
theorem div_any (a b : ByteArray) (w : World) (ha : a.size ≤ 9223372036854775807) (hb : b.size ≤ 9223372036854775807) (ht : Tb w) :
    Calls Tryz.prog 15 #[.string a, .string b] w (DivsOut w (divQ a b) (divR a b) (divE a b)) := by
  have CN := Lib.hid (numbersOf_any a b w ha hb)
  have CZ := Lib.hid (fun W v (h : Nm W v (nS b)) => isZero_any W v _ h)
  have CO := Lib.hid (fun W v1 v2 (h1 : Nm W v1 (nS a)) (h2 : Nm W v2 (nS b)) (h0 : nS b ≠ 0) => ndivided_nm W v1 v2 (nS a) (nS b) h1 h2 (by have := big_len (nS_big a); omega) (by have := big_len (nS_big b); omega) h0)
  have hbq := big_div (nS a) (nS b) (nS_big a)
  have CI := Lib.hid (fun W v (hW : Below w.heap.size w W) (h : Nm W v (nS a / nS b)) => integer_any W v _ h (by have := big_len hbq; omega) (ht.below hW))
  rw [resS_ok hbq, resE_ok hbq] at CI
  have CT := Lib.hid (fun W v (hW : Below w.heap.size w W) (h : Nt W v (nS a % nS b).natAbs) (h0 : nS b ≠ 0) => text_any W v _ h (ht.below hW) (by
    have h1 := big_len (nS_big b)
    have h2 := Int.emod_lt (nS a) h0
    have h3 := Int.emod_nonneg (nS a) h0
    have h4 := dz_length_mono 10000 (by decide) (nS a % nS b).natAbs (nS b).natAbs (by omega)
    omega))
  obtain ⟨vv, hvv⟩ : ∃ vv, (vS a && vS b) = vv := ⟨_, rfl⟩
  have hd : Hid (divV a b = (vv && decide (nS b ≠ 0))) := by rw [← hvv]; exact Lib.hid rfl
  have HVV := Lib.hid hvv
  have HT := Lib.hid ht
  clear hvv ht hbq
  go_enter Tryz.func15, Tryz.ntmps15
  go_wp2_with fail
  refine CN.out.mono ?_
  rintro e w1 ⟨v1, v2, rfl, hn1, hn2, hb1⟩
  rw [HVV.out]
  obtain ⟨b1, al1, L1, c1, rfl, hb1', hL1, hs1⟩ := hn1.open
  obtain ⟨b2, al2, L2, c2, rfl, hb2', hL2, hs2⟩ := hn2.open
  have hA1 : Below w1.heap.size w1 ((w1.alloc (.cells #[.bool b1, .slice al1 L1 c1] 49)).alloc (.cells #[.bool b2, .slice al2 L2 c2] 49)) := ((Below.refl w1.heap.size w1).alloc (Nat.le_refl _) (.cells #[.bool b1, .slice al1 L1 c1] 49)).alloc (by simp) (.cells #[.bool b2, .slice al2 L2 c2] 49)
  have HB2 := Lib.hid (hb1.trans (hA1.mono hb1.size))
  have HN1 := Lib.hid (hn1.below (Nat.le_refl _) hA1)
  have HN2 := Lib.hid (hn2.below (Nat.le_refl _) hA1)
  have HA1 := Lib.hid hA1
  clear hn1 hn2 hb1 hA1
  cases vv
  · go_wp2
    refine bodyPost_ret (v := .tuple #[.string ⟨#[]⟩, .string ⟨#[]⟩, .int .i64 30]) (by simp [results, Tryz.results15, go_sem]) rfl ?_
    have hd' : divV a b = false := by rw [hd.out]; rfl
    exact ⟨by unfold divQ divR divE; rw [hd']; rfl, HB2.out⟩
  · by_cases h0 : nS b = 0
    · have hz : decide (nS b = 0) = true := by simpa using h0
      have hd' : Hid (divV a b = false) := by rw [hd.out]; simp [h0]; exact Lib.hid trivial
      rw [hz] at CZ
      clear hz h0
      go_wp2_with (go_at_call 39; (with_reducible refine (CZ.out _ _ HN2.out).mono ?_); rintro e w3 ⟨rfl, hb3⟩; have HB3 := Lib.hid (HB2.out.trans (hb3.mono HB2.out.size)); clear hb3)
      refine bodyPost_ret (v := .tuple #[.string ⟨#[]⟩, .string ⟨#[]⟩, .int .i64 30]) (by simp [results, Tryz.results15, go_sem]) rfl ?_
      exact ⟨by unfold divQ divR divE; rw [hd'.out]; rfl, HB3.out⟩
    · have hz : decide (nS b = 0) = false := by simpa using h0
      have hd' : Hid (divV a b = true) := by rw [hd.out]; simp [h0]; exact Lib.hid trivial
      rw [hz] at CZ
      have H0 := Lib.hid h0
      clear hz h0
      have KA := Lib.hid ((Below.heap_alloc (w1.alloc (.cells #[.bool b1, .slice al1 L1 c1] 49)) (.cells #[.bool b2, .slice al2 L2 c2] 49) w1.heap.size (by simp)).trans (heap_new' w1 (.cells #[.bool b1, .slice al1 L1 c1] 49) w1.heap.size rfl))
      have KB := Lib.hid (heap_new' (w1.alloc (.cells #[.bool b1, .slice al1 L1 c1] 49)) (.cells #[.bool b2, .slice al2 L2 c2] 49) (w1.heap.size + 1) (by simp))
      go_wp2_with fail
      refine (CZ.out _ _ HN2.out).mono ?_
      rintro e w3 ⟨rfl, hb3⟩
      obtain ⟨q1, q2, _, _⟩ := box2 ((hb3.block w1.heap.size (by simp; omega)).trans KA.out)
      obtain ⟨q5, q6, _, _⟩ := box2 ((hb3.block (w1.heap.size + 1) (by simp)).trans KB.out)
      have HN3 := Lib.hid (HN1.out.below (Nat.le_refl _) hb3)
      have HN4 := Lib.hid (HN2.out.below (Nat.le_refl _) hb3)
      have HB3 := Lib.hid (HB2.out.trans (hb3.mono HB2.out.size))
      clear hb3
      go_wp2_with fail
      refine (CO.out _ _ _ HN3.out HN4.out H0.out).mono ?_
      rintro e w4 ⟨v5, v6, rfl, hn5, hn6, hb4⟩
      obtain ⟨b5, al5, L5, c5, rfl, hb5', hL5, hs5⟩ := hn5.open
      have hA4 : Below w4.heap.size w4 (w4.alloc (.cells #[.bool b5, .slice al5 L5 c5] 49)) := (Below.refl w4.heap.size w4).alloc (Nat.le_refl _) _
      have HB4 := Lib.hid (HB3.out.trans ((hb4.trans (hA4.mono hb4.size)).mono HB3.out.size))
      have HN5 := Lib.hid (hn5.below (Nat.le_refl _) hA4)
      have HN6 := Lib.hid (hn6.below (Nat.le_refl _) hA4)
      clear hb4 hn5 hn6 hA4
      go_wp2_with fail
      refine (CI.out _ _ HB4.out HN5.out).mono ?_
      rintro e w7 ⟨rfl, hb7⟩
      have HB7 := Lib.hid (HB4.out.trans (hb7.mono HB4.out.size))
      have HN7 := Lib.hid (HN6.out.below (Nat.le_refl _) hb7)
      clear hb7
      go_wp2_with fail
      refine (CT.out _ _ HB7.out HN7.out H0.out).mono ?_
      rintro e w8 ⟨rfl, hb8⟩
      have HB8 := Lib.hid (HB7.out.trans (hb8.mono HB7.out.size))
      clear hb8
      go_wp2
      refine bodyPost_ret (v := .tuple #[.string (str (nS a / nS b)), .string ⟨(txt (nS a % nS b).natAbs).toArray⟩, .int .i64 0]) (by simp [results, Tryz.results15, go_sem]) rfl ?_
      exact ⟨by unfold divQ divR divE; rw [hd'.out, rem_nat _ _ H0.out, str_nat]; rfl, HB8.out⟩

/-- Has a a root? -/
def rootV (a : ByteArray) : Bool := vS a && decide (0 ≤ nS a)
noncomputable def sqr (n : Nat) : Nat := Classical.choose (root_ex n)
theorem sqr_le (n : Nat) : sqr n * sqr n ≤ n := (Classical.choose_spec (root_ex n)).1
theorem lt_sqr (n : Nat) : n < (sqr n + 1) * (sqr n + 1) := (Classical.choose_spec (root_ex n)).2
noncomputable def rootS (a : ByteArray) : ByteArray := if rootV a then str (sqr (nS a).natAbs) else ⟨#[]⟩
def rootE (a : ByteArray) : Int := if rootV a then 0 else 30
set_option maxRecDepth 100000 in
set_option maxHeartbeats 2000000 in
theorem root_any (a : ByteArray) (w : World) (ha : a.size ≤ 9223372036854775807) (ht : Tb w) :
    Calls Tryz.prog 19 #[.string a] w (ResOut w (rootS a) (rootE a)) := by
  have CN := Lib.hid (numberOf_any a w ha)
  have CR := Lib.hid (fun W v (h : Nt W v (nS a).natAbs) => root_nt W v _ (sqr (nS a).natAbs) h (by have := big_len (nS_big a); omega) (sqr_le _) (lt_sqr _))
  have hsl : (dz 10000 (sqr (nS a).natAbs)).length ≤ 20000 := by
    have h1 := big_len (nS_big a)
    have h2 := dz_length_mono 10000 (by decide) (sqr (nS a).natAbs) (nS a).natAbs (by
      have h3 := sqr_le (nS a).natAbs
      rcases Nat.eq_zero_or_pos (sqr (nS a).natAbs) with h | h
      · omega
      · exact Nat.le_trans (Nat.le_mul_of_pos_left _ h) h3)
    omega
  have CT := Lib.hid (fun W v (hW : Below w.heap.size w W) (h : Nt W v (sqr (nS a).natAbs)) => text_any W v _ h (ht.below hW) hsl)
  obtain ⟨vv, hvv⟩ : ∃ vv, vS a = vv := ⟨_, rfl⟩
  have hd : Hid (rootV a = (vv && decide (0 ≤ nS a))) := by rw [← hvv]; exact Lib.hid rfl
  have HVV := Lib.hid hvv
  have HT := Lib.hid ht
  clear hvv ht hsl
  go_enter Tryz.func19, Tryz.ntmps19
  go_wp2_with fail
  refine CN.out.mono ?_
  rintro e w1 ⟨v1, rfl, hn1, hb1⟩
  rw [HVV.out]
  obtain ⟨b1, al1, L1, c1, rfl, hb1', hL1, hs1⟩ := hn1.open
  have hA1 : Below w1.heap.size w1 (w1.alloc (.cells #[.bool b1, .slice al1 L1 c1] 49)) := (Below.refl w1.heap.size w1).alloc (Nat.le_refl _) _
  have HB2 := Lib.hid (hb1.trans (hA1.mono hb1.size))
  have HS2 := Lib.hid (hs1.out.below (Nat.le_refl _) hA1)
  clear hn1 hb1 hA1
  cases vv
  · go_wp2
    go_ret2
    have hd' : rootV a = false := by rw [hd.out]; rfl
    exact ⟨by unfold rootS rootE; rw [hd']; rfl, HB2.out⟩
  · cases b1
    · have hd' : Hid (rootV a = true) := by
        have := hb1'.out
        rw [hd.out]; simp at this; simp [this]; exact Lib.hid trivial
      go_wp2_with (first
        | (go_at_call 48; (with_reducible refine (CR.out _ _ HS2.out).mono ?_); rintro e w3 ⟨v3, rfl, hv3, hb3⟩; have HV3 := Lib.hid hv3; have HB3 := Lib.hid (HB2.out.trans (hb3.mono HB2.out.size)); clear hv3 hb3)
        | (go_at_call 42; (with_reducible refine (CT.out _ _ HB3.out HV3.out).mono ?_); rintro e w4 ⟨rfl, hb4⟩; have HB4 := Lib.hid (HB3.out.trans (hb4.mono HB3.out.size)); clear hb4))
      go_ret2
      exact ⟨by unfold rootS rootE; rw [hd'.out, if_pos rfl, if_pos rfl, str_nat]; rfl, HB4.out⟩
    · have hd' : rootV a = false := by
        have := hb1'.out
        rw [hd.out]; simp at this; simp; omega
      have HD := Lib.hid hd'
      clear hd'
      go_wp2
      go_ret2
      exact ⟨by unfold rootS rootE; rw [HD.out]; rfl, HB2.out⟩
end Go.Proofs.YtebjjgbdiabapaaGreatDoor
