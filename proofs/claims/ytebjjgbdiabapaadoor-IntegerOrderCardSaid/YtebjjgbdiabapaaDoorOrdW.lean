/- The walk of IntegerOrder. -/
import Derived.Test.YtebjjgbdiabapaaDoorStr
namespace Go.Proofs.YtebjjgbdiabapaaDoor
open Go.RowKit

theorem str_ne {x y : Int} (h : x ≠ y) : ((str x).toList == (str y).toList) = false := by
  rw [beq_eq_false_iff_ne, ByteArray.toList_eq, ByteArray.toList_eq, str_data, str_data]
  exact fun h2 => h (shw_inj x y h2)
theorem cmpZ_lt {x y : Int} (h : x < y) : cmpZ x y = -1 := by unfold cmpZ; rw [if_pos h]
theorem cmpZ_gt {x y : Int} (h : y < x) : cmpZ x y = 1 := by unfold cmpZ; rw [if_neg (by omega), if_pos h]
theorem cmpZ_eq (x : Int) : cmpZ x x = 0 := by unfold cmpZ; rw [if_neg (by omega), if_neg (by omega)]
theorem cmpZ_le {x y : Int} (h : x ≤ y) : cmpZ x y ≤ 0 := by
  rcases Int.lt_or_eq_of_le h with h | h
  · rw [cmpZ_lt h]; decide
  · subst h; rw [cmpZ_eq]; decide
theorem cmpZ_ge {x y : Int} (h : y ≤ x) : 0 ≤ cmpZ x y := by
  rcases Int.lt_or_eq_of_le h with h | h
  · rw [cmpZ_gt h]; decide
  · subst h; rw [cmpZ_eq]; decide
set_option maxRecDepth 100000 in
set_option maxHeartbeats 8000000 in
theorem order_walk (a b c : ByteArray) (hsa : a.size ≤ 9223372036854775807) (hsb : b.size ≤ 9223372036854775807) (hsc : c.size ≤ 9223372036854775807) (w : World) (ht : Tb w) : Calls Tryd.prog 7 #[.string a, .string b, .string c] w fun e w' => e = .returned (.bool true) ∧ Below w.heap.size w w' := by
  have HT := Lib.hid (fun W (hW : Below w.heap.size w W) => ht.below hW)
  have CSN := Lib.hid (sane_any w ht)
  clear ht
  go_enter Tryd.func7, Tryd.ntmps7
  go_wp2_with fail
  (with_reducible refine (CSN.out).mono ?_)
  rintro e w1 ⟨rfl, hb⟩
  have HB1 := Lib.hid ((Below.refl w.heap.size w).trans (hb.mono (Below.refl w.heap.size w).size))
  clear hb
  go_wp2_with fail
  (with_reducible refine (made_at a 60 60 rfl (by decide) _ hsa).mono ?_)
  rintro e w2 ⟨X, hmX, rfl, hb⟩
  have HB2 := Lib.hid (HB1.out.trans (hb.mono HB1.out.size))
  clear hb
  go_wp2_with fail
  (with_reducible refine (made_at b 60 60 rfl (by decide) _ hsb).mono ?_)
  rintro e w3 ⟨Y, hmY, rfl, hb⟩
  have HB3 := Lib.hid (HB2.out.trans (hb.mono HB2.out.size))
  clear hb
  go_wp2_with fail
  (with_reducible refine (made_at c 60 60 rfl (by decide) _ hsc).mono ?_)
  rintro e w4 ⟨Z, hmZ, rfl, hb⟩
  have HB4 := Lib.hid (HB3.out.trans (hb.mono HB3.out.size))
  clear hb
  have sX : Sm 60 X := hmX
  have sY : Sm 60 Y := hmY
  have sZ : Sm 60 Z := hmZ
  have sD := sX.sub sY
  have sXZ := sX.add sZ
  have sYZ := sY.add sZ
  rcases Int.lt_trichotomy X Y with hxy | hxy | hxy
  · have hne := str_ne (show X ≠ Y by omega)
    obtain ⟨x, hx⟩ : ∃ ttt, str (X) = ttt := ⟨_, rfl⟩
    obtain ⟨y, hy⟩ : ∃ ttt, str (Y) = ttt := ⟨_, rfl⟩
    obtain ⟨z, hz⟩ : ∃ ttt, str (Z) = ttt := ⟨_, rfl⟩
    obtain ⟨d, hd⟩ : ∃ ttt, str (X - Y) = ttt := ⟨_, rfl⟩
    obtain ⟨xz, hxz⟩ : ∃ ttt, str (X + Z) = ttt := ⟨_, rfl⟩
    obtain ⟨yz, hyz⟩ : ∃ ttt, str (Y + Z) = ttt := ⟨_, rfl⟩
    rw [hx, hy] at hne
    have C1 := Lib.hid (fun W (hW : Below w.heap.size w W) => cmp_str (sX.big (by decide)) (sY.big (by decide)) W)
    rw [hx, hy, cmpZ_lt hxy] at C1
    have C2 := Lib.hid (fun W (hW : Below w.heap.size w W) => sub_str (sX.big (by decide)) (sY.big (by decide)) (sD.big (by decide)) W (HT.out W hW))
    rw [hx, hy, hd] at C2
    have C3 := Lib.hid (fun W (hW : Below w.heap.size w W) => add_str (sX.big (by decide)) (sZ.big (by decide)) (sXZ.big (by decide)) W (HT.out W hW))
    rw [hx, hz, hxz] at C3
    have C3b := Lib.hid (fun W (hW : Below w.heap.size w W) => add_str (sY.big (by decide)) (sZ.big (by decide)) (sYZ.big (by decide)) W (HT.out W hW))
    rw [hy, hz, hyz] at C3b
    have C4 := Lib.hid (fun W (hW : Below w.heap.size w W) => cmp_str (sY.big (by decide)) (sX.big (by decide)) W)
    rw [hx, hy, cmpZ_gt hxy] at C4
    have C5 := Lib.hid (fun W (hW : Below w.heap.size w W) => cmp_str (sD.big (by decide)) big0 W)
    rw [hd, ← str0, cmpZ_lt (show X - Y < 0 by omega)] at C5
    have C6 := Lib.hid (fun W (hW : Below w.heap.size w W) => cmp_str (sXZ.big (by decide)) (sYZ.big (by decide)) W)
    rw [hxz, hyz, cmpZ_lt (show X + Z < Y + Z by omega)] at C6
    rcases Int.lt_or_le Z Y with hyz' | hyz'
    · have hc := cmpZ_gt hyz'
      have C7 := Lib.hid (fun W (hW : Below w.heap.size w W) => cmp_str (sY.big (by decide)) (sZ.big (by decide)) W)
      rw [hy, hz, hc] at C7
      rw [hx, hy, hz]
      clear hx hy hz hd hxz hyz sX sY sZ sD sXZ sYZ hmX hmY hmZ hxy hc hyz'
      go_wp2_with fail
      (with_reducible refine (C1.out _ HB4.out).mono ?_)
      rintro e w5 ⟨rfl, hb⟩
      have HB5 := Lib.hid (HB4.out.trans (hb.mono HB4.out.size))
      clear hb
      go_wp2_with fail
      (with_reducible refine (C2.out _ HB5.out).mono ?_)
      rintro e w6 ⟨rfl, hb⟩
      have HB6 := Lib.hid (HB5.out.trans (hb.mono HB5.out.size))
      clear hb
      go_wp2_with fail
      (with_reducible refine (C3.out _ HB6.out).mono ?_)
      rintro e w7 ⟨rfl, hb⟩
      have HB7 := Lib.hid (HB6.out.trans (hb.mono HB6.out.size))
      clear hb
      go_wp2_with fail
      (with_reducible refine (C3b.out _ HB7.out).mono ?_)
      rintro e w8 ⟨rfl, hb⟩
      have HB8 := Lib.hid (HB7.out.trans (hb.mono HB7.out.size))
      clear hb
      go_wp2_with fail
      (with_reducible refine (C4.out _ HB8.out).mono ?_)
      rintro e w9 ⟨rfl, hb⟩
      have HB9 := Lib.hid (HB8.out.trans (hb.mono HB8.out.size))
      clear hb
      go_wp2_with fail
      (with_reducible refine (C5.out _ HB9.out).mono ?_)
      rintro e w10 ⟨rfl, hb⟩
      have HB10 := Lib.hid (HB9.out.trans (hb.mono HB9.out.size))
      clear hb
      go_wp2_with fail
      (with_reducible refine (C6.out _ HB10.out).mono ?_)
      rintro e w11 ⟨rfl, hb⟩
      have HB11 := Lib.hid (HB10.out.trans (hb.mono HB10.out.size))
      clear hb
      go_wp2_with fail
      (with_reducible refine (C7.out _ HB11.out).mono ?_)
      rintro e w12 ⟨rfl, hb⟩
      have HB12 := Lib.hid (HB11.out.trans (hb.mono HB11.out.size))
      clear hb
      go_wp2
      go_ret
      exact ⟨rfl, HB12.out⟩
    · obtain ⟨c7, hc7⟩ : ∃ c7, cmpZ Y Z = c7 := ⟨_, rfl⟩
      have hc7' : ¬ 0 < c7 := by rw [← hc7]; have := cmpZ_le hyz'; omega
      obtain ⟨c8, hc8⟩ : ∃ c8, cmpZ X Z = c8 := ⟨_, rfl⟩
      have hc8' : c8 ≤ 0 := by rw [← hc8]; exact cmpZ_le (by omega)
      have C7 := Lib.hid (fun W (hW : Below w.heap.size w W) => cmp_str (sY.big (by decide)) (sZ.big (by decide)) W)
      rw [hy, hz, hc7] at C7
      have C8 := Lib.hid (fun W (hW : Below w.heap.size w W) => cmp_str (sX.big (by decide)) (sZ.big (by decide)) W)
      rw [hx, hz, hc8] at C8
      rw [hx, hy, hz]
      clear hx hy hz hd hxz hyz sX sY sZ sD sXZ sYZ hmX hmY hmZ hxy hc7 hc8 hyz'
      go_wp2_with fail
      (with_reducible refine (C1.out _ HB4.out).mono ?_)
      rintro e w5 ⟨rfl, hb⟩
      have HB5 := Lib.hid (HB4.out.trans (hb.mono HB4.out.size))
      clear hb
      go_wp2_with fail
      (with_reducible refine (C2.out _ HB5.out).mono ?_)
      rintro e w6 ⟨rfl, hb⟩
      have HB6 := Lib.hid (HB5.out.trans (hb.mono HB5.out.size))
      clear hb
      go_wp2_with fail
      (with_reducible refine (C3.out _ HB6.out).mono ?_)
      rintro e w7 ⟨rfl, hb⟩
      have HB7 := Lib.hid (HB6.out.trans (hb.mono HB6.out.size))
      clear hb
      go_wp2_with fail
      (with_reducible refine (C3b.out _ HB7.out).mono ?_)
      rintro e w8 ⟨rfl, hb⟩
      have HB8 := Lib.hid (HB7.out.trans (hb.mono HB7.out.size))
      clear hb
      go_wp2_with fail
      (with_reducible refine (C4.out _ HB8.out).mono ?_)
      rintro e w9 ⟨rfl, hb⟩
      have HB9 := Lib.hid (HB8.out.trans (hb.mono HB8.out.size))
      clear hb
      go_wp2_with fail
      (with_reducible refine (C5.out _ HB9.out).mono ?_)
      rintro e w10 ⟨rfl, hb⟩
      have HB10 := Lib.hid (HB9.out.trans (hb.mono HB9.out.size))
      clear hb
      go_wp2_with fail
      (with_reducible refine (C6.out _ HB10.out).mono ?_)
      rintro e w11 ⟨rfl, hb⟩
      have HB11 := Lib.hid (HB10.out.trans (hb.mono HB10.out.size))
      clear hb
      go_wp2_with fail
      (with_reducible refine (C7.out _ HB11.out).mono ?_)
      rintro e w12 ⟨rfl, hb⟩
      have HB12 := Lib.hid (HB11.out.trans (hb.mono HB11.out.size))
      clear hb
      go_wp2_with fail
      (with_reducible refine (C8.out _ HB12.out).mono ?_)
      rintro e w13 ⟨rfl, hb⟩
      have HB13 := Lib.hid (HB12.out.trans (hb.mono HB12.out.size))
      clear hb
      go_wp2
      go_ret
      exact ⟨rfl, HB13.out⟩
  · subst hxy
    obtain ⟨x, hx⟩ : ∃ ttt, str (X) = ttt := ⟨_, rfl⟩
    obtain ⟨z, hz⟩ : ∃ ttt, str (Z) = ttt := ⟨_, rfl⟩
    obtain ⟨d, hd⟩ : ∃ ttt, str (X - X) = ttt := ⟨_, rfl⟩
    obtain ⟨xz, hxz⟩ : ∃ ttt, str (X + Z) = ttt := ⟨_, rfl⟩
    have C1 := Lib.hid (fun W (hW : Below w.heap.size w W) => cmp_str (sX.big (by decide)) (sX.big (by decide)) W)
    rw [hx, cmpZ_eq] at C1
    have C2 := Lib.hid (fun W (hW : Below w.heap.size w W) => sub_str (sX.big (by decide)) (sX.big (by decide)) (sD.big (by decide)) W (HT.out W hW))
    rw [hx, hd] at C2
    have C3 := Lib.hid (fun W (hW : Below w.heap.size w W) => add_str (sX.big (by decide)) (sZ.big (by decide)) (sXZ.big (by decide)) W (HT.out W hW))
    rw [hx, hz, hxz] at C3
    have C5 := Lib.hid (fun W (hW : Below w.heap.size w W) => cmp_str (sD.big (by decide)) big0 W)
    rw [hd, ← str0, Int.sub_self, cmpZ_eq] at C5
    have C6 := Lib.hid (fun W (hW : Below w.heap.size w W) => cmp_str (sXZ.big (by decide)) (sXZ.big (by decide)) W)
    rw [hxz, cmpZ_eq] at C6
    rcases Int.lt_or_le Z X with hyz' | hyz'
    · have hc := cmpZ_gt hyz'
      have C7 := Lib.hid (fun W (hW : Below w.heap.size w W) => cmp_str (sX.big (by decide)) (sZ.big (by decide)) W)
      rw [hx, hz, hc] at C7
      rw [hx, hz]
      clear hx hz hd hxz sX sY sZ sD sXZ sYZ hmX hmY hmZ hc hyz'
      go_wp2_with fail
      (with_reducible refine (C1.out _ HB4.out).mono ?_)
      rintro e w5 ⟨rfl, hb⟩
      have HB5 := Lib.hid (HB4.out.trans (hb.mono HB4.out.size))
      clear hb
      go_wp2_with fail
      (with_reducible refine (C2.out _ HB5.out).mono ?_)
      rintro e w6 ⟨rfl, hb⟩
      have HB6 := Lib.hid (HB5.out.trans (hb.mono HB5.out.size))
      clear hb
      go_wp2_with fail
      (with_reducible refine (C3.out _ HB6.out).mono ?_)
      rintro e w7 ⟨rfl, hb⟩
      have HB7 := Lib.hid (HB6.out.trans (hb.mono HB6.out.size))
      clear hb
      go_wp2_with fail
      (with_reducible refine (C3.out _ HB7.out).mono ?_)
      rintro e w8 ⟨rfl, hb⟩
      have HB8 := Lib.hid (HB7.out.trans (hb.mono HB7.out.size))
      clear hb
      go_wp2_with fail
      (with_reducible refine (C1.out _ HB8.out).mono ?_)
      rintro e w9 ⟨rfl, hb⟩
      have HB9 := Lib.hid (HB8.out.trans (hb.mono HB8.out.size))
      clear hb
      go_wp2_with fail
      (with_reducible refine (C5.out _ HB9.out).mono ?_)
      rintro e w10 ⟨rfl, hb⟩
      have HB10 := Lib.hid (HB9.out.trans (hb.mono HB9.out.size))
      clear hb
      go_wp2_with fail
      (with_reducible refine (C6.out _ HB10.out).mono ?_)
      rintro e w11 ⟨rfl, hb⟩
      have HB11 := Lib.hid (HB10.out.trans (hb.mono HB10.out.size))
      clear hb
      go_wp2_with fail
      (with_reducible refine (C7.out _ HB11.out).mono ?_)
      rintro e w12 ⟨rfl, hb⟩
      have HB12 := Lib.hid (HB11.out.trans (hb.mono HB11.out.size))
      clear hb
      go_wp2
      go_ret
      exact ⟨rfl, HB12.out⟩
    · obtain ⟨c7, hc7⟩ : ∃ c7, cmpZ X Z = c7 := ⟨_, rfl⟩
      have hc7' : ¬ 0 < c7 := by rw [← hc7]; have := cmpZ_le hyz'; omega
      obtain ⟨c8, hc8⟩ : ∃ c8, cmpZ X Z = c8 := ⟨_, rfl⟩
      have hc8' : c8 ≤ 0 := by rw [← hc8]; exact cmpZ_le (by omega)
      have C7 := Lib.hid (fun W (hW : Below w.heap.size w W) => cmp_str (sX.big (by decide)) (sZ.big (by decide)) W)
      rw [hx, hz, hc7] at C7
      have C8 := Lib.hid (fun W (hW : Below w.heap.size w W) => cmp_str (sX.big (by decide)) (sZ.big (by decide)) W)
      rw [hx, hz, hc8] at C8
      rw [hx, hz]
      clear hx hz hd hxz sX sY sZ sD sXZ sYZ hmX hmY hmZ hc7 hc8 hyz'
      go_wp2_with fail
      (with_reducible refine (C1.out _ HB4.out).mono ?_)
      rintro e w5 ⟨rfl, hb⟩
      have HB5 := Lib.hid (HB4.out.trans (hb.mono HB4.out.size))
      clear hb
      go_wp2_with fail
      (with_reducible refine (C2.out _ HB5.out).mono ?_)
      rintro e w6 ⟨rfl, hb⟩
      have HB6 := Lib.hid (HB5.out.trans (hb.mono HB5.out.size))
      clear hb
      go_wp2_with fail
      (with_reducible refine (C3.out _ HB6.out).mono ?_)
      rintro e w7 ⟨rfl, hb⟩
      have HB7 := Lib.hid (HB6.out.trans (hb.mono HB6.out.size))
      clear hb
      go_wp2_with fail
      (with_reducible refine (C3.out _ HB7.out).mono ?_)
      rintro e w8 ⟨rfl, hb⟩
      have HB8 := Lib.hid (HB7.out.trans (hb.mono HB7.out.size))
      clear hb
      go_wp2_with fail
      (with_reducible refine (C1.out _ HB8.out).mono ?_)
      rintro e w9 ⟨rfl, hb⟩
      have HB9 := Lib.hid (HB8.out.trans (hb.mono HB8.out.size))
      clear hb
      go_wp2_with fail
      (with_reducible refine (C5.out _ HB9.out).mono ?_)
      rintro e w10 ⟨rfl, hb⟩
      have HB10 := Lib.hid (HB9.out.trans (hb.mono HB9.out.size))
      clear hb
      go_wp2_with fail
      (with_reducible refine (C6.out _ HB10.out).mono ?_)
      rintro e w11 ⟨rfl, hb⟩
      have HB11 := Lib.hid (HB10.out.trans (hb.mono HB10.out.size))
      clear hb
      go_wp2_with fail
      (with_reducible refine (C7.out _ HB11.out).mono ?_)
      rintro e w12 ⟨rfl, hb⟩
      have HB12 := Lib.hid (HB11.out.trans (hb.mono HB11.out.size))
      clear hb
      go_wp2_with fail
      (with_reducible refine (C8.out _ HB12.out).mono ?_)
      rintro e w13 ⟨rfl, hb⟩
      have HB13 := Lib.hid (HB12.out.trans (hb.mono HB12.out.size))
      clear hb
      go_wp2
      go_ret
      exact ⟨rfl, HB13.out⟩
  · have hne := str_ne (show X ≠ Y by omega)
    obtain ⟨x, hx⟩ : ∃ ttt, str (X) = ttt := ⟨_, rfl⟩
    obtain ⟨y, hy⟩ : ∃ ttt, str (Y) = ttt := ⟨_, rfl⟩
    obtain ⟨z, hz⟩ : ∃ ttt, str (Z) = ttt := ⟨_, rfl⟩
    obtain ⟨d, hd⟩ : ∃ ttt, str (X - Y) = ttt := ⟨_, rfl⟩
    obtain ⟨xz, hxz⟩ : ∃ ttt, str (X + Z) = ttt := ⟨_, rfl⟩
    obtain ⟨yz, hyz⟩ : ∃ ttt, str (Y + Z) = ttt := ⟨_, rfl⟩
    rw [hx, hy] at hne
    have C1 := Lib.hid (fun W (hW : Below w.heap.size w W) => cmp_str (sX.big (by decide)) (sY.big (by decide)) W)
    rw [hx, hy, cmpZ_gt hxy] at C1
    have C2 := Lib.hid (fun W (hW : Below w.heap.size w W) => sub_str (sX.big (by decide)) (sY.big (by decide)) (sD.big (by decide)) W (HT.out W hW))
    rw [hx, hy, hd] at C2
    have C3 := Lib.hid (fun W (hW : Below w.heap.size w W) => add_str (sX.big (by decide)) (sZ.big (by decide)) (sXZ.big (by decide)) W (HT.out W hW))
    rw [hx, hz, hxz] at C3
    have C3b := Lib.hid (fun W (hW : Below w.heap.size w W) => add_str (sY.big (by decide)) (sZ.big (by decide)) (sYZ.big (by decide)) W (HT.out W hW))
    rw [hy, hz, hyz] at C3b
    have C4 := Lib.hid (fun W (hW : Below w.heap.size w W) => cmp_str (sY.big (by decide)) (sX.big (by decide)) W)
    rw [hx, hy, cmpZ_lt hxy] at C4
    have C5 := Lib.hid (fun W (hW : Below w.heap.size w W) => cmp_str (sD.big (by decide)) big0 W)
    rw [hd, ← str0, cmpZ_gt (show 0 < X - Y by omega)] at C5
    have C6 := Lib.hid (fun W (hW : Below w.heap.size w W) => cmp_str (sXZ.big (by decide)) (sYZ.big (by decide)) W)
    rw [hxz, hyz, cmpZ_gt (show Y + Z < X + Z by omega)] at C6
    rw [hx, hy, hz]
    clear hx hy hz hd hxz hyz sX sY sZ sD sXZ sYZ hmX hmY hmZ hxy
    go_wp2_with fail
    (with_reducible refine (C1.out _ HB4.out).mono ?_)
    rintro e w5 ⟨rfl, hb⟩
    have HB5 := Lib.hid (HB4.out.trans (hb.mono HB4.out.size))
    clear hb
    go_wp2_with fail
    (with_reducible refine (C2.out _ HB5.out).mono ?_)
    rintro e w6 ⟨rfl, hb⟩
    have HB6 := Lib.hid (HB5.out.trans (hb.mono HB5.out.size))
    clear hb
    go_wp2_with fail
    (with_reducible refine (C3.out _ HB6.out).mono ?_)
    rintro e w7 ⟨rfl, hb⟩
    have HB7 := Lib.hid (HB6.out.trans (hb.mono HB6.out.size))
    clear hb
    go_wp2_with fail
    (with_reducible refine (C3b.out _ HB7.out).mono ?_)
    rintro e w8 ⟨rfl, hb⟩
    have HB8 := Lib.hid (HB7.out.trans (hb.mono HB7.out.size))
    clear hb
    go_wp2_with fail
    (with_reducible refine (C4.out _ HB8.out).mono ?_)
    rintro e w9 ⟨rfl, hb⟩
    have HB9 := Lib.hid (HB8.out.trans (hb.mono HB8.out.size))
    clear hb
    go_wp2_with fail
    (with_reducible refine (C5.out _ HB9.out).mono ?_)
    rintro e w10 ⟨rfl, hb⟩
    have HB10 := Lib.hid (HB9.out.trans (hb.mono HB9.out.size))
    clear hb
    go_wp2_with fail
    (with_reducible refine (C6.out _ HB10.out).mono ?_)
    rintro e w11 ⟨rfl, hb⟩
    have HB11 := Lib.hid (HB10.out.trans (hb.mono HB10.out.size))
    clear hb
    go_wp2
    go_ret
    exact ⟨rfl, HB11.out⟩
end Go.Proofs.YtebjjgbdiabapaaDoor
