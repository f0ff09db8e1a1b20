/- calculate at the four operations, and Add, Sub, Mul, Gcd, walked. -/
import Derived.Test.YtebjjgbdiabapaaGreatDoorNui
namespace Go.Proofs.YtebjjgbdiabapaaGreatDoor
open Go.RowKit

set_option maxRecDepth 100000 in
set_option maxHeartbeats 1000000 in
theorem calc_add (a b : ByteArray) (w : World) (ha : a.size ≤ 9223372036854775807) (hb : b.size ≤ 9223372036854775807) (ht : Tb w) :
    Calls Tryz.prog 30 #[.string a, .string b, .func (.func 31) #[] #[]] w (ResOut w (opS (fun x y => x + y) a b) (opE (fun x y => x + y) a b)) := by
  have CN := Lib.hid (numbersOf_any a b w ha hb)
  have CO := Lib.hid (fun W v1 v2 (h1 : Nm W v1 (nS a)) (h2 : Nm W v2 (nS b)) => nplus_nm W v1 v2 (nS a) (nS b) h1 h2 (by have := big_len (nS_big a); omega) (by have := big_len (nS_big b); omega))
  have CI := Lib.hid (fun W v (hW : Below w.heap.size w W) (h : Nm W v ((fun x y => x + y) (nS a) (nS b))) => integer_any W v _ h (len_add _ _ (nS_big a) (nS_big b)) (ht.below hW))
  obtain ⟨vv, hvv⟩ : ∃ vv, (vS a && vS b) = vv := ⟨_, rfl⟩
  have hs : Hid (opS (fun x y => x + y) a b = if vv then resS ((fun x y => x + y) (nS a) (nS b)) else ⟨#[]⟩) := by rw [← hvv]; exact Lib.hid rfl
  have he : Hid (opE (fun x y => x + y) a b = if vv then resE ((fun x y => x + y) (nS a) (nS b)) else 30) := by rw [← hvv]; exact Lib.hid rfl
  have HVV := Lib.hid hvv
  have HT := Lib.hid ht
  clear hvv ht
  go_enter Tryz.func30, Tryz.ntmps30
  go_wp2_with fail
  refine CN.out.mono ?_
  rintro e w1 ⟨v1, v2, rfl, hn1, hn2, hb1⟩
  rw [HVV.out]
  obtain ⟨b1, al1, L1, c1, rfl, hb1', hL1, hs1⟩ := hn1.open
  obtain ⟨b2, al2, L2, c2, rfl, hb2', hL2, hs2⟩ := hn2.open
  have hB2 : Below w.heap.size w ((w1.alloc (.cells #[.bool b1, .slice al1 L1 c1] 49)).alloc (.cells #[.bool b2, .slice al2 L2 c2] 49)) := (hb1.alloc hb1.size _).alloc (by have := hb1.size; simp; omega) _
  have HB2 := Lib.hid hB2
  have HN1 := Lib.hid (hn1.below (Nat.le_refl _) (((Below.refl w1.heap.size w1).alloc (Nat.le_refl _) (.cells #[.bool b1, .slice al1 L1 c1] 49)).alloc (by simp) (.cells #[.bool b2, .slice al2 L2 c2] 49)))
  have HN2 := Lib.hid (hn2.below (Nat.le_refl _) (((Below.refl w1.heap.size w1).alloc (Nat.le_refl _) (.cells #[.bool b1, .slice al1 L1 c1] 49)).alloc (by simp) (.cells #[.bool b2, .slice al2 L2 c2] 49)))
  clear hn1 hn2 hb1 hB2
  cases vv
  · go_wp2
    go_ret2
    exact ⟨by rw [hs.out, he.out]; rfl, HB2.out⟩
  · go_wp2_with (first
      | (go_at_call 31; (with_reducible refine (CO.out _ _ _ HN1.out HN2.out).mono ?_); rintro e w3 ⟨v3, rfl, hn3, hb3⟩; have HN3 := Lib.hid hn3; have HB3 := Lib.hid (HB2.out.trans (hb3.mono HB2.out.size)); clear hn3 hb3)
      | (go_at_call 41; (with_reducible refine (CI.out _ _ HB3.out HN3.out).mono ?_); rintro e w4 ⟨rfl, hb4⟩; have HB4 := Lib.hid (HB3.out.trans (hb4.mono HB3.out.size)); clear hb4))
    go_ret2
    exact ⟨by rw [hs.out, he.out]; rfl, HB4.out⟩
set_option maxRecDepth 100000 in
theorem add_any (a b : ByteArray) (w : World) (ha : a.size ≤ 9223372036854775807) (hb : b.size ≤ 9223372036854775807) (ht : Tb w) :
    Calls Tryz.prog 9 #[.string a, .string b] w (ResOut w (opS (fun x y => x + y) a b) (opE (fun x y => x + y) a b)) := by
  have CC := Lib.hid (calc_add a b w ha hb ht)
  generalize opS (fun x y => x + y) a b = r at *
  generalize opE (fun x y => x + y) a b = n at *
  go_enter Tryz.func9, Tryz.ntmps9
  go_wp2_with fail
  refine CC.out.mono ?_
  rintro e w1 ⟨rfl, hb1⟩
  have HB1 := Lib.hid hb1
  clear hb1
  go_wp2
  go_ret2
  exact ⟨rfl, HB1.out⟩

set_option maxRecDepth 100000 in
set_option maxHeartbeats 1000000 in
theorem calc_sub (a b : ByteArray) (w : World) (ha : a.size ≤ 9223372036854775807) (hb : b.size ≤ 9223372036854775807) (ht : Tb w) :
    Calls Tryz.prog 30 #[.string a, .string b, .func (.func 34) #[] #[]] w (ResOut w (opS (fun x y => x - y) a b) (opE (fun x y => x - y) a b)) := by
  have CN := Lib.hid (numbersOf_any a b w ha hb)
  have CO := Lib.hid (fun W v1 v2 (h1 : Nm W v1 (nS a)) (h2 : Nm W v2 (nS b)) => nminus_nm W v1 v2 (nS a) (nS b) h1 h2 (by have := big_len (nS_big a); omega) (by have := big_len (nS_big b); omega))
  have CI := Lib.hid (fun W v (hW : Below w.heap.size w W) (h : Nm W v ((fun x y => x - y) (nS a) (nS b))) => integer_any W v _ h (len_sub _ _ (nS_big a) (nS_big b)) (ht.below hW))
  obtain ⟨vv, hvv⟩ : ∃ vv, (vS a && vS b) = vv := ⟨_, rfl⟩
  have hs : Hid (opS (fun x y => x - y) a b = if vv then resS ((fun x y => x - y) (nS a) (nS b)) else ⟨#[]⟩) := by rw [← hvv]; exact Lib.hid rfl
  have he : Hid (opE (fun x y => x - y) a b = if vv then resE ((fun x y => x - y) (nS a) (nS b)) else 30) := by rw [← hvv]; exact Lib.hid rfl
  have HVV := Lib.hid hvv
  have HT := Lib.hid ht
  clear hvv ht
  go_enter Tryz.func30, Tryz.ntmps30
  go_wp2_with fail
  refine CN.out.mono ?_
  rintro e w1 ⟨v1, v2, rfl, hn1, hn2, hb1⟩
  rw [HVV.out]
  obtain ⟨b1, al1, L1, c1, rfl, hb1', hL1, hs1⟩ := hn1.open
  obtain ⟨b2, al2, L2, c2, rfl, hb2', hL2, hs2⟩ := hn2.open
  have hB2 : Below w.heap.size w ((w1.alloc (.cells #[.bool b1, .slice al1 L1 c1] 49)).alloc (.cells #[.bool b2, .slice al2 L2 c2] 49)) := (hb1.alloc hb1.size _).alloc (by have := hb1.size; simp; omega) _
  have HB2 := Lib.hid hB2
  have HN1 := Lib.hid (hn1.below (Nat.le_refl _) (((Below.refl w1.heap.size w1).alloc (Nat.le_refl _) (.cells #[.bool b1, .slice al1 L1 c1] 49)).alloc (by simp) (.cells #[.bool b2, .slice al2 L2 c2] 49)))
  have HN2 := Lib.hid (hn2.below (Nat.le_refl _) (((Below.refl w1.heap.size w1).alloc (Nat.le_refl _) (.cells #[.bool b1, .slice al1 L1 c1] 49)).alloc (by simp) (.cells #[.bool b2, .slice al2 L2 c2] 49)))
  clear hn1 hn2 hb1 hB2
  cases vv
  · go_wp2
    go_ret2
    exact ⟨by rw [hs.out, he.out]; rfl, HB2.out⟩
  · go_wp2_with (first
      | (go_at_call 34; (with_reducible refine (CO.out _ _ _ HN1.out HN2.out).mono ?_); rintro e w3 ⟨v3, rfl, hn3, hb3⟩; have HN3 := Lib.hid hn3; have HB3 := Lib.hid (HB2.out.trans (hb3.mono HB2.out.size)); clear hn3 hb3)
      | (go_at_call 41; (with_reducible refine (CI.out _ _ HB3.out HN3.out).mono ?_); rintro e w4 ⟨rfl, hb4⟩; have HB4 := Lib.hid (HB3.out.trans (hb4.mono HB3.out.size)); clear hb4))
    go_ret2
    exact ⟨by rw [hs.out, he.out]; rfl, HB4.out⟩
set_option maxRecDepth 100000 in
theorem sub_any (a b : ByteArray) (w : World) (ha : a.size ≤ 9223372036854775807) (hb : b.size ≤ 9223372036854775807) (ht : Tb w) :
    Calls Tryz.prog 11 #[.string a, .string b] w (ResOut w (opS (fun x y => x - y) a b) (opE (fun x y => x - y) a b)) := by
  have CC := Lib.hid (calc_sub a b w ha hb ht)
  generalize opS (fun x y => x - y) a b = r at *
  generalize opE (fun x y => x - y) a b = n at *
  go_enter Tryz.func11, Tryz.ntmps11
  go_wp2_with fail
  refine CC.out.mono ?_
  rintro e w1 ⟨rfl, hb1⟩
  have HB1 := Lib.hid hb1
  clear hb1
  go_wp2
  go_ret2
  exact ⟨rfl, HB1.out⟩

set_option maxRecDepth 100000 in
set_option maxHeartbeats 1000000 in
theorem calc_mul (a b : ByteArray) (w : World) (ha : a.size ≤ 9223372036854775807) (hb : b.size ≤ 9223372036854775807) (ht : Tb w) :
    Calls Tryz.prog 30 #[.string a, .string b, .func (.func 35) #[] #[]] w (ResOut w (opS (fun x y => x * y) a b) (opE (fun x y => x * y) a b)) := by
  have CN := Lib.hid (numbersOf_any a b w ha hb)
  have CO := Lib.hid (fun W v1 v2 (h1 : Nm W v1 (nS a)) (h2 : Nm W v2 (nS b)) => ntimes_nm W v1 v2 (nS a) (nS b) h1 h2 (by have := big_len (nS_big a); omega) (by have := big_len (nS_big b); omega))
  have CI := Lib.hid (fun W v (hW : Below w.heap.size w W) (h : Nm W v ((fun x y => x * y) (nS a) (nS b))) => integer_any W v _ h (len_mul _ _ (nS_big a) (nS_big b)) (ht.below hW))
  obtain ⟨vv, hvv⟩ : ∃ vv, (vS a && vS b) = vv := ⟨_, rfl⟩
  have hs : Hid (opS (fun x y => x * y) a b = if vv then resS ((fun x y => x * y) (nS a) (nS b)) else ⟨#[]⟩) := by rw [← hvv]; exact Lib.hid rfl
  have he : Hid (opE (fun x y => x * y) a b = if vv then resE ((fun x y => x * y) (nS a) (nS b)) else 30) := by rw [← hvv]; exact Lib.hid rfl
  have HVV := Lib.hid hvv
  have HT := Lib.hid ht
  clear hvv ht
  go_enter Tryz.func30, Tryz.ntmps30
  go_wp2_with fail
  refine CN.out.mono ?_
  rintro e w1 ⟨v1, v2, rfl, hn1, hn2, hb1⟩
  rw [HVV.out]
  obtain ⟨b1, al1, L1, c1, rfl, hb1', hL1, hs1⟩ := hn1.open
  obtain ⟨b2, al2, L2, c2, rfl, hb2', hL2, hs2⟩ := hn2.open
  have hB2 : Below w.heap.size w ((w1.alloc (.cells #[.bool b1, .slice al1 L1 c1] 49)).alloc (.cells #[.bool b2, .slice al2 L2 c2] 49)) := (hb1.alloc hb1.size _).alloc (by have := hb1.size; simp; omega) _
  have HB2 := Lib.hid hB2
  have HN1 := Lib.hid (hn1.below (Nat.le_refl _) (((Below.refl w1.heap.size w1).alloc (Nat.le_refl _) (.cells #[.bool b1, .slice al1 L1 c1] 49)).alloc (by simp) (.cells #[.bool b2, .slice al2 L2 c2] 49)))
  have HN2 := Lib.hid (hn2.below (Nat.le_refl _) (((Below.refl w1.heap.size w1).alloc (Nat.le_refl _) (.cells #[.bool b1, .slice al1 L1 c1] 49)).alloc (by simp) (.cells #[.bool b2, .slice al2 L2 c2] 49)))
  clear hn1 hn2 hb1 hB2
  cases vv
  · go_wp2
    go_ret2
    exact ⟨by rw [hs.out, he.out]; rfl, HB2.out⟩
  · go_wp2_with (first
      | (go_at_call 35; (with_reducible refine (CO.out _ _ _ HN1.out HN2.out).mono ?_); rintro e w3 ⟨v3, rfl, hn3, hb3⟩; have HN3 := Lib.hid hn3; have HB3 := Lib.hid (HB2.out.trans (hb3.mono HB2.out.size)); clear hn3 hb3)
      | (go_at_call 41; (with_reducible refine (CI.out _ _ HB3.out HN3.out).mono ?_); rintro e w4 ⟨rfl, hb4⟩; have HB4 := Lib.hid (HB3.out.trans (hb4.mono HB3.out.size)); clear hb4))
    go_ret2
    exact ⟨by rw [hs.out, he.out]; rfl, HB4.out⟩
set_option maxRecDepth 100000 in
theorem mul_any (a b : ByteArray) (w : World) (ha : a.size ≤ 9223372036854775807) (hb : b.size ≤ 9223372036854775807) (ht : Tb w) :
    Calls Tryz.prog 13 #[.string a, .string b] w (ResOut w (opS (fun x y => x * y) a b) (opE (fun x y => x * y) a b)) := by
  have CC := Lib.hid (calc_mul a b w ha hb ht)
  generalize opS (fun x y => x * y) a b = r at *
  generalize opE (fun x y => x * y) a b = n at *
  go_enter Tryz.func13, Tryz.ntmps13
  go_wp2_with fail
  refine CC.out.mono ?_
  rintro e w1 ⟨rfl, hb1⟩
  have HB1 := Lib.hid hb1
  clear hb1
  go_wp2
  go_ret2
  exact ⟨rfl, HB1.out⟩

set_option maxRecDepth 100000 in
set_option maxHeartbeats 1000000 in
theorem calc_gcd (a b : ByteArray) (w : World) (ha : a.size ≤ 9223372036854775807) (hb : b.size ≤ 9223372036854775807) (ht : Tb w) :
    Calls Tryz.prog 30 #[.string a, .string b, .func (.func 46) #[] #[]] w (ResOut w (opS gcdZ a b) (opE gcdZ a b)) := by
  have CN := Lib.hid (numbersOf_any a b w ha hb)
  have CO := Lib.hid (fun W v1 v2 (h1 : Nm W v1 (nS a)) (h2 : Nm W v2 (nS b)) => ngcd_nm W v1 v2 (nS a) (nS b) h1 h2 (by have := big_len (nS_big a); omega) (by have := big_len (nS_big b); omega))
  have CI := Lib.hid (fun W v (hW : Below w.heap.size w W) (h : Nm W v (gcdZ (nS a) (nS b))) => integer_any W v _ h (len_gcd _ _ (nS_big a) (nS_big b)) (ht.below hW))
  obtain ⟨vv, hvv⟩ : ∃ vv, (vS a && vS b) = vv := ⟨_, rfl⟩
  have hs : Hid (opS gcdZ a b = if vv then resS (gcdZ (nS a) (nS b)) else ⟨#[]⟩) := by rw [← hvv]; exact Lib.hid rfl
  have he : Hid (opE gcdZ a b = if vv then resE (gcdZ (nS a) (nS b)) else 30) := by rw [← hvv]; exact Lib.hid rfl
  have HVV := Lib.hid hvv
  have HT := Lib.hid ht
  clear hvv ht
  go_enter Tryz.func30, Tryz.ntmps30
  go_wp2_with fail
  refine CN.out.mono ?_
  rintro e w1 ⟨v1, v2, rfl, hn1, hn2, hb1⟩
  rw [HVV.out]
  obtain ⟨b1, al1, L1, c1, rfl, hb1', hL1, hs1⟩ := hn1.open
  obtain ⟨b2, al2, L2, c2, rfl, hb2', hL2, hs2⟩ := hn2.open
  have hB2 : Below w.heap.size w ((w1.alloc (.cells #[.bool b1, .slice al1 L1 c1] 49)).alloc (.cells #[.bool b2, .slice al2 L2 c2] 49)) := (hb1.alloc hb1.size _).alloc (by have := hb1.size; simp; omega) _
  have HB2 := Lib.hid hB2
  have HN1 := Lib.hid (hn1.below (Nat.le_refl _) (((Below.refl w1.heap.size w1).alloc (Nat.le_refl _) (.cells #[.bool b1, .slice al1 L1 c1] 49)).alloc (by simp) (.cells #[.bool b2, .slice al2 L2 c2] 49)))
  have HN2 := Lib.hid (hn2.below (Nat.le_refl _) (((Below.refl w1.heap.size w1).alloc (Nat.le_refl _) (.cells #[.bool b1, .slice al1 L1 c1] 49)).alloc (by simp) (.cells #[.bool b2, .slice al2 L2 c2] 49)))
  clear hn1 hn2 hb1 hB2
  cases vv
  · go_wp2
    go_ret2
    exact ⟨by rw [hs.out, he.out]; rfl, HB2.out⟩
  · go_wp2_with (first
      | (go_at_call 46; (with_reducible refine (CO.out _ _ _ HN1.out HN2.out).mono ?_); rintro e w3 ⟨v3, rfl, hn3, hb3⟩; have HN3 := Lib.hid hn3; have HB3 := Lib.hid (HB2.out.trans (hb3.mono HB2.out.size)); clear hn3 hb3)
      | (go_at_call 41; (with_reducible refine (CI.out _ _ HB3.out HN3.out).mono ?_); rintro e w4 ⟨rfl, hb4⟩; have HB4 := Lib.hid (HB3.out.trans (hb4.mono HB3.out.size)); clear hb4))
    go_ret2
    exact ⟨by rw [hs.out, he.out]; rfl, HB4.out⟩
set_option maxRecDepth 100000 in
theorem gcd_any (a b : ByteArray) (w : World) (ha : a.size ≤ 9223372036854775807) (hb : b.size ≤ 9223372036854775807) (ht : Tb w) :
    Calls Tryz.prog 17 #[.string a, .string b] w (ResOut w (opS gcdZ a b) (opE gcdZ a b)) := by
  have CC := Lib.hid (calc_gcd a b w ha hb ht)
  generalize opS gcdZ a b = r at *
  generalize opE gcdZ a b = n at *
  go_enter Tryz.func17, Tryz.ntmps17
  go_wp2_with fail
  refine CC.out.mono ?_
  rintro e w1 ⟨rfl, hb1⟩
  have HB1 := Lib.hid hb1
  clear hb1
  go_wp2
  go_ret2
  exact ⟨rfl, HB1.out⟩

end Go.Proofs.YtebjjgbdiabapaaGreatDoor
