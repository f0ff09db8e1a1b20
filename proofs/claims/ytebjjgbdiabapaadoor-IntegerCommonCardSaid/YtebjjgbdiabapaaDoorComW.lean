/- The walk of IntegerCommon. -/
import Derived.Test.YtebjjgbdiabapaaDoorOrdW
import Derived.Test.YtebjjgbdiabapaaDoorDvdW
namespace Go.Proofs.YtebjjgbdiabapaaDoor
open Go.RowKit

theorem gcdZ_comm (x y : Int) : gcdZ y x = gcdZ x y := by unfold gcdZ; rw [Nat.gcd_comm]
theorem gcdZ_nonneg (x y : Int) : 0 ≤ gcdZ x y := by unfold gcdZ; omega
theorem gcdZ_pos {x y : Int} (h : ¬ (x = 0 ∧ y = 0)) : 0 < gcdZ x y := by
  unfold gcdZ
  have h2 : Nat.gcd x.natAbs y.natAbs ≠ 0 := fun e => by
    obtain ⟨e1, e2⟩ := Nat.gcd_eq_zero_iff.1 e
    exact h ⟨by omega, by omega⟩
  omega
theorem gcdZ_left (x y : Int) : gcdZ x y ∣ x := by
  rw [← Int.natAbs_dvd_natAbs]; exact Nat.gcd_dvd_left _ _
theorem gcdZ_right (x y : Int) : gcdZ x y ∣ y := by
  rw [← Int.natAbs_dvd_natAbs]; exact Nat.gcd_dvd_right _ _
theorem gcdZ_left0 (x y : Int) : x % gcdZ x y = 0 := Int.emod_eq_zero_of_dvd (gcdZ_left x y)
theorem gcdZ_right0 (x y : Int) : y % gcdZ x y = 0 := Int.emod_eq_zero_of_dvd (gcdZ_right x y)
theorem gcdZ_rest {x y : Int} (h : 0 < gcdZ x y) : gcdZ (x / gcdZ x y) (y / gcdZ x y) = 1 := by
  have h1 : 0 < Nat.gcd x.natAbs y.natAbs := by unfold gcdZ at h; omega
  have h2 := Nat.coprime_div_gcd_div_gcd h1
  have h3 : gcdZ (x / gcdZ x y) (y / gcdZ x y) = ((Nat.gcd (x / gcdZ x y).natAbs (y / gcdZ x y).natAbs : Nat) : Int) := rfl
  rw [h3, Int.natAbs_ediv_of_dvd (gcdZ_left x y), Int.natAbs_ediv_of_dvd (gcdZ_right x y)]
  have h4 : (gcdZ x y).natAbs = Nat.gcd x.natAbs y.natAbs := rfl
  rw [h4]
  exact congrArg Nat.cast h2
theorem gcdZ_mul (x y z : Int) : gcdZ (x * z) (y * z) = gcdZ x y * (z.natAbs : Int) := by
  unfold gcdZ
  rw [Int.natAbs_mul, Int.natAbs_mul, Nat.gcd_mul_right, Int.natCast_mul]
theorem Sm.gcd {k : Nat} {x y : Int} (hx : Sm k x) (hy : Sm k y) : Sm k (gcdZ x y) := by
  unfold Sm at *
  rcases Nat.eq_zero_or_pos x.natAbs with h | h
  · have e : (gcdZ x y).natAbs = y.natAbs := by
      show Nat.gcd x.natAbs y.natAbs = _
      rw [h, Nat.gcd_zero_left]
    rw [e]; exact hy
  · exact Nat.lt_of_le_of_lt (Nat.gcd_le_left _ h) hx
set_option maxRecDepth 100000 in
set_option maxHeartbeats 8000000 in
theorem common_walk (a b c : ByteArray) (hsa : a.size ≤ 9223372036854775807) (hsb : b.size ≤ 9223372036854775807) (hsc : c.size ≤ 9223372036854775807) (w : World) (ht : Tb w) : Calls Tryd.prog 5 #[.string a, .string b, .string c] w fun e w' => e = .returned (.bool true) ∧ Below w.heap.size w w' := by
  have HT := Lib.hid (fun W (hW : Below w.heap.size w W) => ht.below hW)
  have CSN := Lib.hid (sane_any w ht)
  clear ht
  go_enter Tryd.func5, Tryd.ntmps5
  go_wp2_with fail
  (with_reducible refine (CSN.out).mono ?_)
  rintro e w1 ⟨rfl, hb⟩
  have HB1 := Lib.hid ((Below.refl w.heap.size w).trans (hb.mono (Below.refl w.heap.size w).size))
  clear hb
  go_wp2_with fail
  (with_reducible refine (made_at a 40 40 rfl (by decide) _ hsa).mono ?_)
  rintro e w2 ⟨X, hmX, rfl, hb⟩
  have HB2 := Lib.hid (HB1.out.trans (hb.mono HB1.out.size))
  clear hb
  go_wp2_with fail
  (with_reducible refine (made_at b 40 40 rfl (by decide) _ hsb).mono ?_)
  rintro e w3 ⟨Y, hmY, rfl, hb⟩
  have HB3 := Lib.hid (HB2.out.trans (hb.mono HB2.out.size))
  clear hb
  go_wp2_with fail
  (with_reducible refine (made_at c 40 40 rfl (by decide) _ hsc).mono ?_)
  rintro e w4 ⟨Z, hmZ, rfl, hb⟩
  have HB4 := Lib.hid (HB3.out.trans (hb.mono HB3.out.size))
  clear hb
  have sX : Sm 40 X := hmX
  have sY : Sm 40 Y := hmY
  have sZ : Sm 40 Z := hmZ
  by_cases h00 : X = 0 ∧ Y = 0
  · obtain ⟨rfl, rfl⟩ := h00
    have e0 : gcdZ 0 0 = 0 := by decide
    have b0 : Big (gcdZ 0 0) := by rw [e0]; exact big0
    obtain ⟨z, hz⟩ : ∃ ttt, str (Z) = ttt := ⟨_, rfl⟩
    have C1 := Lib.hid (fun W (hW : Below w.heap.size w W) => gcd_str big0 big0 b0 W (HT.out W hW))
    rw [e0, ← str0] at C1
    have C3 := Lib.hid (fun W (hW : Below w.heap.size w W) => cmp_str big0 big0 W)
    rw [← str0, cmpZ_eq] at C3
    rw [hz, ← str0]
    clear hz sX sY sZ e0 b0 hmX hmY hmZ
    go_wp2_with fail
    (with_reducible refine (C1.out _ HB4.out).mono ?_)
    rintro e w5 ⟨rfl, hb⟩
    have HB5 := Lib.hid (HB4.out.trans (hb.mono HB4.out.size))
    clear hb
    go_wp2_with fail
    (with_reducible refine (C1.out _ HB5.out).mono ?_)
    rintro e w6 ⟨rfl, hb⟩
    have HB6 := Lib.hid (HB5.out.trans (hb.mono HB5.out.size))
    clear hb
    go_wp2_with fail
    (with_reducible refine (C3.out _ HB6.out).mono ?_)
    rintro e w7 ⟨rfl, hb⟩
    have HB7 := Lib.hid (HB6.out.trans (hb.mono HB6.out.size))
    clear hb
    go_wp2
    go_ret
    exact ⟨rfl, HB7.out⟩
  · have hg := gcdZ_pos h00
    have eC := gcdZ_comm X Y
    have eL := gcdZ_left0 X Y
    have eR := gcdZ_right0 X Y
    have e1 := gcdZ_rest hg
    have eM := gcdZ_mul X Y Z
    have sG := sX.gcd sY
    have bC : Big (gcdZ Y X) := by rw [eC]; exact sG.big (by decide)
    obtain ⟨G, hG⟩ : ∃ G, gcdZ X Y = G := ⟨_, rfl⟩
    rw [hG] at hg eC eL eR e1 eM sG
    have sP := sX.div G
    have sQ := sY.div G
    have b1 : Big (gcdZ (X / G) (Y / G)) := by rw [e1]; exact big1
    have mX := sX.mul sZ
    have mY := sY.mul sZ
    have mA := mX.gcd mY
    have mG := sG.mul sZ
    have sN : Sm 81 (0 - G * Z) := Sm.sub (k := 80) (x := 0) (by unfold Sm; exact Nat.pow_pos (by decide)) mG
    obtain ⟨x, hx⟩ : ∃ ttt, str (X) = ttt := ⟨_, rfl⟩
    obtain ⟨y, hy⟩ : ∃ ttt, str (Y) = ttt := ⟨_, rfl⟩
    obtain ⟨z, hz⟩ : ∃ ttt, str (Z) = ttt := ⟨_, rfl⟩
    obtain ⟨g, hg'⟩ : ∃ ttt, str (G) = ttt := ⟨_, rfl⟩
    obtain ⟨p, hp⟩ : ∃ ttt, str (X / G) = ttt := ⟨_, rfl⟩
    obtain ⟨q, hq⟩ : ∃ ttt, str (Y / G) = ttt := ⟨_, rfl⟩
    obtain ⟨xz, hxz⟩ : ∃ ttt, str (X * Z) = ttt := ⟨_, rfl⟩
    obtain ⟨yz, hyz⟩ : ∃ ttt, str (Y * Z) = ttt := ⟨_, rfl⟩
    obtain ⟨gz, hgz⟩ : ∃ ttt, str (G * Z) = ttt := ⟨_, rfl⟩
    obtain ⟨ng, hng⟩ : ∃ ttt, str (0 - G * Z) = ttt := ⟨_, rfl⟩
    have hne : (x.toList == [48]) = false ∨ (x.toList == [48]) = true ∧ (y.toList == [48]) = false := by
      rw [← hx, ← hy]
      by_cases h : X = 0
      · right; exact ⟨by rw [h]; decide +kernel, str_ne0 (fun e => h00 ⟨h, e⟩)⟩
      · left; exact str_ne0 h
    obtain ⟨cg, hcg⟩ : ∃ cg, cmpZ G 0 = cg := ⟨_, rfl⟩
    have hcg0 : 0 ≤ cg := by rw [← hcg]; exact cmpZ_ge (by omega)
    have C1 := Lib.hid (fun W (hW : Below w.heap.size w W) => gcd_str (sX.big (by decide)) (sY.big (by decide)) (by rw [hG]; exact (sG.big (by decide))) W (HT.out W hW))
    rw [hG, hx, hy, hg'] at C1
    have C2 := Lib.hid (fun W (hW : Below w.heap.size w W) => gcd_str (sY.big (by decide)) (sX.big (by decide)) bC W (HT.out W hW))
    rw [eC, hx, hy, hg'] at C2
    have C3 := Lib.hid (fun W (hW : Below w.heap.size w W) => cmp_str (sG.big (by decide)) big0 W)
    rw [hg', ← str0, hcg] at C3
    have C4 := Lib.hid (fun W (hW : Below w.heap.size w W) => div_str (sX.big (by decide)) (sG.big (by decide)) (show G ≠ 0 by omega) W (HT.out W hW))
    rw [eL, hx, hg', hp, ← str0] at C4
    have C5 := Lib.hid (fun W (hW : Below w.heap.size w W) => div_str (sY.big (by decide)) (sG.big (by decide)) (show G ≠ 0 by omega) W (HT.out W hW))
    rw [eR, hy, hg', hq, ← str0] at C5
    have C6 := Lib.hid (fun W (hW : Below w.heap.size w W) => gcd_str (sP.big (by decide)) (sQ.big (by decide)) b1 W (HT.out W hW))
    rw [e1, hp, hq, ← str1] at C6
    have C7 := Lib.hid (fun W (hW : Below w.heap.size w W) => mul_str (sX.big (by decide)) (sZ.big (by decide)) (mX.big (by decide)) W (HT.out W hW))
    rw [hx, hz, hxz] at C7
    have C8 := Lib.hid (fun W (hW : Below w.heap.size w W) => mul_str (sY.big (by decide)) (sZ.big (by decide)) (mY.big (by decide)) W (HT.out W hW))
    rw [hy, hz, hyz] at C8
    have C10 := Lib.hid (fun W (hW : Below w.heap.size w W) => mul_str (sG.big (by decide)) (sZ.big (by decide)) (mG.big (by decide)) W (HT.out W hW))
    rw [hg', hz, hgz] at C10
    rcases Int.lt_or_le Z 0 with hz0 | hz0
    · have eA : gcdZ (X * Z) (Y * Z) = 0 - G * Z := by
        rw [eM, show ((Z.natAbs : Nat) : Int) = -Z by omega, Int.mul_neg]; omega
      have hcz := cmpZ_lt (Int.mul_neg_of_pos_of_neg hg hz0)
      have C9 := Lib.hid (fun W (hW : Below w.heap.size w W) => gcd_str (mX.big (by decide)) (mY.big (by decide)) (mA.big (by decide)) W (HT.out W hW))
      rw [eA, hxz, hyz, hng] at C9
      have C11 := Lib.hid (fun W (hW : Below w.heap.size w W) => cmp_str (mG.big (by decide)) big0 W)
      rw [hgz, ← str0, hcz] at C11
      have C12 := Lib.hid (fun W (hW : Below w.heap.size w W) => sub_str big0 (mG.big (by decide)) (sN.big (by decide)) W (HT.out W hW))
      rw [hgz, hng, ← str0] at C12
      rw [hx, hy, hz]
      clear hx hy hz hg' hp hq hxz hyz hgz hng sX sY sZ sG sP sQ b1 mX mY mA mG sN bC eC eL eR e1 eM eA hG hcg hcz hz0 h00 hg hmX hmY hmZ
      rcases hne with hne | ⟨hne, hne2⟩
      all_goals
        go_wp2_with fail
        (with_reducible refine (C1.out _ HB4.out).mono ?_)
        rintro e w5 ⟨rfl, hb⟩
        have HB5 := Lib.hid (HB4.out.trans (hb.mono HB4.out.size))
        clear hb
        go_wp2_with fail
        (with_reducible refine (C2.out _ HB5.out).mono ?_)
        rintro e w6 ⟨rfl, hb⟩
        have HB6 := Lib.hid (HB5.out.trans (hb.mono HB5.out.size))
        clear hb
        go_wp2_with fail
        (with_reducible refine (C3.out _ HB6.out).mono ?_)
        rintro e w7 ⟨rfl, hb⟩
        have HB7 := Lib.hid (HB6.out.trans (hb.mono HB6.out.size))
        clear hb
        go_wp2_with fail
        (with_reducible refine (C4.out _ HB7.out).mono ?_)
        rintro e w8 ⟨rfl, hb⟩
        have HB8 := Lib.hid (HB7.out.trans (hb.mono HB7.out.size))
        clear hb
        go_wp2_with fail
        (with_reducible refine (C5.out _ HB8.out).mono ?_)
        rintro e w9 ⟨rfl, hb⟩
        have HB9 := Lib.hid (HB8.out.trans (hb.mono HB8.out.size))
        clear hb
        go_wp2_with fail
        (with_reducible refine (C6.out _ HB9.out).mono ?_)
        rintro e w10 ⟨rfl, hb⟩
        have HB10 := Lib.hid (HB9.out.trans (hb.mono HB9.out.size))
        clear hb
        go_wp2_with fail
        (with_reducible refine (C7.out _ HB10.out).mono ?_)
        rintro e w11 ⟨rfl, hb⟩
        have HB11 := Lib.hid (HB10.out.trans (hb.mono HB10.out.size))
        clear hb
        go_wp2_with fail
        (with_reducible refine (C8.out _ HB11.out).mono ?_)
        rintro e w12 ⟨rfl, hb⟩
        have HB12 := Lib.hid (HB11.out.trans (hb.mono HB11.out.size))
        clear hb
        go_wp2_with fail
        (with_reducible refine (C9.out _ HB12.out).mono ?_)
        rintro e w13 ⟨rfl, hb⟩
        have HB13 := Lib.hid (HB12.out.trans (hb.mono HB12.out.size))
        clear hb
        go_wp2_with fail
        (with_reducible refine (C10.out _ HB13.out).mono ?_)
        rintro e w14 ⟨rfl, hb⟩
        have HB14 := Lib.hid (HB13.out.trans (hb.mono HB13.out.size))
        clear hb
        go_wp2_with fail
        (with_reducible refine (C11.out _ HB14.out).mono ?_)
        rintro e w15 ⟨rfl, hb⟩
        have HB15 := Lib.hid (HB14.out.trans (hb.mono HB14.out.size))
        clear hb
        go_wp2_with fail
        (with_reducible refine (C12.out _ HB15.out).mono ?_)
        rintro e w16 ⟨rfl, hb⟩
        have HB16 := Lib.hid (HB15.out.trans (hb.mono HB15.out.size))
        clear hb
        go_wp2
        go_ret
        exact ⟨rfl, HB16.out⟩
    · have eA : gcdZ (X * Z) (Y * Z) = G * Z := by
        rw [eM, show ((Z.natAbs : Nat) : Int) = Z by omega]
      obtain ⟨cz, hcz⟩ : ∃ cz, cmpZ (G * Z) 0 = cz := ⟨_, rfl⟩
      have hcz0 : 0 ≤ cz := by rw [← hcz]; exact cmpZ_ge (Int.mul_nonneg (by omega) hz0)
      have C9 := Lib.hid (fun W (hW : Below w.heap.size w W) => gcd_str (mX.big (by decide)) (mY.big (by decide)) (mA.big (by decide)) W (HT.out W hW))
      rw [eA, hxz, hyz, hgz] at C9
      have C11 := Lib.hid (fun W (hW : Below w.heap.size w W) => cmp_str (mG.big (by decide)) big0 W)
      rw [hgz, ← str0, hcz] at C11
      rw [hx, hy, hz]
      clear hx hy hz hg' hp hq hxz hyz hgz hng sX sY sZ sG sP sQ b1 mX mY mA mG sN bC eC eL eR e1 eM eA hG hcg hcz hz0 h00 hg hmX hmY hmZ
      rcases hne with hne | ⟨hne, hne2⟩
      all_goals
        go_wp2_with fail
        (with_reducible refine (C1.out _ HB4.out).mono ?_)
        rintro e w5 ⟨rfl, hb⟩
        have HB5 := Lib.hid (HB4.out.trans (hb.mono HB4.out.size))
        clear hb
        go_wp2_with fail
        (with_reducible refine (C2.out _ HB5.out).mono ?_)
        rintro e w6 ⟨rfl, hb⟩
        have HB6 := Lib.hid (HB5.out.trans (hb.mono HB5.out.size))
        clear hb
        go_wp2_with fail
        (with_reducible refine (C3.out _ HB6.out).mono ?_)
        rintro e w7 ⟨rfl, hb⟩
        have HB7 := Lib.hid (HB6.out.trans (hb.mono HB6.out.size))
        clear hb
        go_wp2_with fail
        (with_reducible refine (C4.out _ HB7.out).mono ?_)
        rintro e w8 ⟨rfl, hb⟩
        have HB8 := Lib.hid (HB7.out.trans (hb.mono HB7.out.size))
        clear hb
        go_wp2_with fail
        (with_reducible refine (C5.out _ HB8.out).mono ?_)
        rintro e w9 ⟨rfl, hb⟩
        have HB9 := Lib.hid (HB8.out.trans (hb.mono HB8.out.size))
        clear hb
        go_wp2_with fail
        (with_reducible refine (C6.out _ HB9.out).mono ?_)
        rintro e w10 ⟨rfl, hb⟩
        have HB10 := Lib.hid (HB9.out.trans (hb.mono HB9.out.size))
        clear hb
        go_wp2_with fail
        (with_reducible refine (C7.out _ HB10.out).mono ?_)
        rintro e w11 ⟨rfl, hb⟩
        have HB11 := Lib.hid (HB10.out.trans (hb.mono HB10.out.size))
        clear hb
        go_wp2_with fail
        (with_reducible refine (C8.out _ HB11.out).mono ?_)
        rintro e w12 ⟨rfl, hb⟩
        have HB12 := Lib.hid (HB11.out.trans (hb.mono HB11.out.size))
        clear hb
        go_wp2_with fail
        (with_reducible refine (C9.out _ HB12.out).mono ?_)
        rintro e w13 ⟨rfl, hb⟩
        have HB13 := Lib.hid (HB12.out.trans (hb.mono HB12.out.size))
        clear hb
        go_wp2_with fail
        (with_reducible refine (C10.out _ HB13.out).mono ?_)
        rintro e w14 ⟨rfl, hb⟩
        have HB14 := Lib.hid (HB13.out.trans (hb.mono HB13.out.size))
        clear hb
        go_wp2_with fail
        (with_reducible refine (C11.out _ HB14.out).mono ?_)
        rintro e w15 ⟨rfl, hb⟩
        have HB15 := Lib.hid (HB14.out.trans (hb.mono HB14.out.size))
        clear hb
        go_wp2
        go_ret
        exact ⟨rfl, HB15.out⟩
end Go.Proofs.YtebjjgbdiabapaaDoor
