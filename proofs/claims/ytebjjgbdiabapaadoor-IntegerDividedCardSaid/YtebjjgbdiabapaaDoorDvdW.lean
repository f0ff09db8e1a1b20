/- The walk of IntegerDivided. -/
import Derived.Test.YtebjjgbdiabapaaDoorStr
namespace Go.Proofs.YtebjjgbdiabapaaDoor
open Go.RowKit

theorem mul_div_self (x y : Int) (h : y ≠ 0) : x * y / y = x := Int.mul_ediv_cancel x h
theorem div_add (x y : Int) : x / y * y + x % y = x := Int.ediv_mul_add_emod x y
theorem Sm.div {k : Nat} {x : Int} (h : Sm k x) (y : Int) : Sm k (x / y) := Nat.lt_of_le_of_lt (Int.natAbs_ediv_le_natAbs x y) h
theorem Sm.mod {k : Nat} {y : Int} (h : Sm k y) (x : Int) (h0 : y ≠ 0) : Sm k (x % y) := by
  have h1 := Int.emod_lt x h0
  have h2 := Int.emod_nonneg x h0
  unfold Sm at *
  omega
theorem str_ne0 {y : Int} (h : y ≠ 0) : ((str y).toList == [48]) = false := by
  rw [beq_eq_false_iff_ne, ByteArray.toList_eq, str_data]
  intro h2
  exact h (shw_inj y 0 (h2.trans (by decide +kernel)))
set_option maxRecDepth 100000 in
set_option maxHeartbeats 8000000 in
theorem divided_walk (a b : ByteArray) (hsa : a.size ≤ 9223372036854775807) (hsb : b.size ≤ 9223372036854775807) (w : World) (ht : Tb w) : Calls Tryd.prog 4 #[.string a, .string b] w fun e w' => e = .returned (.bool true) ∧ Below w.heap.size w w' := by
  have HT := Lib.hid (fun W (hW : Below w.heap.size w W) => ht.below hW)
  have CSN := Lib.hid (sane_any w ht)
  clear ht
  go_enter Tryd.func4, Tryd.ntmps4
  go_wp2_with fail
  (with_reducible refine (CSN.out).mono ?_)
  rintro e w1 ⟨rfl, hb⟩
  have HB1 := Lib.hid ((Below.refl w.heap.size w).trans (hb.mono (Below.refl w.heap.size w).size))
  clear hb
  go_wp2_with fail
  (with_reducible refine (made_at a 90 90 rfl (by decide) _ hsa).mono ?_)
  rintro e w2 ⟨X, hmX, rfl, hb⟩
  have HB2 := Lib.hid (HB1.out.trans (hb.mono HB1.out.size))
  clear hb
  go_wp2_with fail
  (with_reducible refine (made_at b 60 60 rfl (by decide) _ hsb).mono ?_)
  rintro e w3 ⟨Y, hmY, rfl, hb⟩
  have HB3 := Lib.hid (HB2.out.trans (hb.mono HB2.out.size))
  clear hb
  have sX : Sm 90 X := hmX
  have sY : Sm 60 Y := hmY
  by_cases h0 : Y = 0
  · subst h0
    obtain ⟨x, hx⟩ : ∃ ttt, str (X) = ttt := ⟨_, rfl⟩
    have C1 := Lib.hid (fun W (hW : Below w.heap.size w W) => div_none (sX.big (by decide)) W (HT.out W hW))
    rw [hx, ← str0] at C1
    rw [hx, ← str0]
    clear hx hmX hmY sX sY
    go_wp2_with fail
    (with_reducible refine (C1.out _ HB3.out).mono ?_)
    rintro e w4 ⟨rfl, hb⟩
    have HB4 := Lib.hid (HB3.out.trans (hb.mono HB3.out.size))
    clear hb
    go_wp2
    go_ret
    exact ⟨rfl, HB4.out⟩
  · have sQ := sX.div Y
    have sR := sY.mod X h0
    have mP := sQ.mul sY
    have mX := sX.mul sY
    have m1 : Big (Y * 1) := by rw [Int.mul_one]; exact sY.big (by decide)
    have mS : Big (X / Y * Y + X % Y) := by rw [div_add]; exact sX.big (by decide)
    have sN : Big (0 - Y) := by unfold Big; rw [show (0 - Y).natAbs = Y.natAbs by omega]; exact sY.big (by decide)
    have hne := str_ne0 h0
    have hr0 := Int.emod_nonneg X h0
    have hr1 := Int.emod_lt X h0
    obtain ⟨x, hx⟩ : ∃ ttt, str (X) = ttt := ⟨_, rfl⟩
    obtain ⟨y, hy⟩ : ∃ ttt, str (Y) = ttt := ⟨_, rfl⟩
    obtain ⟨q, hq⟩ : ∃ ttt, str (X / Y) = ttt := ⟨_, rfl⟩
    obtain ⟨r, hr⟩ : ∃ ttt, str (X % Y) = ttt := ⟨_, rfl⟩
    obtain ⟨p, hp⟩ : ∃ ttt, str (X / Y * Y) = ttt := ⟨_, rfl⟩
    obtain ⟨m, hm⟩ : ∃ ttt, str (X * Y) = ttt := ⟨_, rfl⟩
    obtain ⟨sz, hsz⟩ : ∃ ttt, str (0 - Y) = ttt := ⟨_, rfl⟩
    rw [hy] at hne
    have C1 := Lib.hid (fun W (hW : Below w.heap.size w W) => div_str (sX.big (by decide)) (sY.big (by decide)) h0 W (HT.out W hW))
    rw [hx, hy, hq, hr] at C1
    have C2 := Lib.hid (fun W (hW : Below w.heap.size w W) => mul_str (sQ.big (by decide)) (sY.big (by decide)) (mP.big (by decide)) W (HT.out W hW))
    rw [hq, hy, hp] at C2
    have C3 := Lib.hid (fun W (hW : Below w.heap.size w W) => add_str (mP.big (by decide)) (sR.big (by decide)) mS W (HT.out W hW))
    rw [div_add, hp, hr, hx] at C3
    have C4 := Lib.hid (fun W (hW : Below w.heap.size w W) => mul_str (sY.big (by decide)) big1 m1 W (HT.out W hW))
    rw [Int.mul_one, hy, ← str1] at C4
    have C7 := Lib.hid (fun W (hW : Below w.heap.size w W) => mul_str (sX.big (by decide)) (sY.big (by decide)) (mX.big (by decide)) W (HT.out W hW))
    rw [hx, hy, hm] at C7
    have C8 := Lib.hid (fun W (hW : Below w.heap.size w W) => div_str (mX.big (by decide)) (sY.big (by decide)) h0 W (HT.out W hW))
    rw [mul_div_self X Y h0, Int.mul_emod_left, hm, hy, hx, ← str0] at C8
    obtain ⟨cz, hcz⟩ : ∃ cz, cmpZ (X % Y) 0 = cz := ⟨_, rfl⟩
    have hcz0 : 0 ≤ cz := by rw [← hcz]; unfold cmpZ; rw [if_neg (by omega)]; split <;> decide
    have C9 := Lib.hid (fun W (hW : Below w.heap.size w W) => cmp_str (sR.big (by decide)) big0 W)
    rw [hr, ← str0, hcz] at C9
    have C11 := Lib.hid (fun W (hW : Below w.heap.size w W) => valid_str (sR.big (by decide)) W)
    rw [hr] at C11
    rcases Int.lt_or_lt_of_ne h0 with hlt | hlt
    · have hc : cmpZ (X % Y) (0 - Y) = -1 := by unfold cmpZ; rw [if_pos (by omega)]
      have hc2 : cmpZ Y 0 = -1 := by unfold cmpZ; rw [if_pos hlt]
      have C5 := Lib.hid (fun W (hW : Below w.heap.size w W) => cmp_str (sY.big (by decide)) big0 W)
      rw [hy, ← str0, hc2] at C5
      have C6 := Lib.hid (fun W (hW : Below w.heap.size w W) => sub_str big0 (sY.big (by decide)) sN W (HT.out W hW))
      rw [hy, hsz, ← str0] at C6
      have C10 := Lib.hid (fun W (hW : Below w.heap.size w W) => cmp_str (sR.big (by decide)) sN W)
      rw [hr, hsz, hc] at C10
      rw [hx, hy]
      clear hx hy hq hr hp hm hsz sX sY sQ sR mP mX m1 mS sN hmX hmY hcz hc hc2 hr0 hr1 hlt h0
      go_wp2_with fail
      (with_reducible refine (C1.out _ HB3.out).mono ?_)
      rintro e w4 ⟨rfl, hb⟩
      have HB4 := Lib.hid (HB3.out.trans (hb.mono HB3.out.size))
      clear hb
      go_wp2_with fail
      (with_reducible refine (C2.out _ HB4.out).mono ?_)
      rintro e w5 ⟨rfl, hb⟩
      have HB5 := Lib.hid (HB4.out.trans (hb.mono HB4.out.size))
      clear hb
      go_wp2_with fail
      (with_reducible refine (C3.out _ HB5.out).mono ?_)
      rintro e w6 ⟨rfl, hb⟩
      have HB6 := Lib.hid (HB5.out.trans (hb.mono HB5.out.size))
      clear hb
      go_wp2_with fail
      (with_reducible refine (C4.out _ HB6.out).mono ?_)
      rintro e w7 ⟨rfl, hb⟩
      have HB7 := Lib.hid (HB6.out.trans (hb.mono HB6.out.size))
      clear hb
      go_wp2_with fail
      (with_reducible refine (C5.out _ HB7.out).mono ?_)
      rintro e w8 ⟨rfl, hb⟩
      have HB8 := Lib.hid (HB7.out.trans (hb.mono HB7.out.size))
      clear hb
      go_wp2_with fail
      (with_reducible refine (C6.out _ HB8.out).mono ?_)
      rintro e w9 ⟨rfl, hb⟩
      have HB9 := Lib.hid (HB8.out.trans (hb.mono HB8.out.size))
      clear hb
      go_wp2_with fail
      (with_reducible refine (C7.out _ HB9.out).mono ?_)
      rintro e w10 ⟨rfl, hb⟩
      have HB10 := Lib.hid (HB9.out.trans (hb.mono HB9.out.size))
      clear hb
      go_wp2_with fail
      (with_reducible refine (C8.out _ HB10.out).mono ?_)
      rintro e w11 ⟨rfl, hb⟩
      have HB11 := Lib.hid (HB10.out.trans (hb.mono HB10.out.size))
      clear hb
      go_wp2_with fail
      (with_reducible refine (C9.out _ HB11.out).mono ?_)
      rintro e w12 ⟨rfl, hb⟩
      have HB12 := Lib.hid (HB11.out.trans (hb.mono HB11.out.size))
      clear hb
      go_wp2_with fail
      (with_reducible refine (C10.out _ HB12.out).mono ?_)
      rintro e w13 ⟨rfl, hb⟩
      have HB13 := Lib.hid (HB12.out.trans (hb.mono HB12.out.size))
      clear hb
      go_wp2_with fail
      (with_reducible refine (C11.out _ HB13.out).mono ?_)
      rintro e w14 ⟨rfl, rfl⟩
      go_wp2
      go_ret
      exact ⟨rfl, HB13.out⟩
    · have hc : cmpZ (X % Y) Y = -1 := by unfold cmpZ; rw [if_pos (by omega)]
      have hc2 : cmpZ Y 0 = 1 := by unfold cmpZ; rw [if_neg (by omega), if_pos hlt]
      have C5 := Lib.hid (fun W (hW : Below w.heap.size w W) => cmp_str (sY.big (by decide)) big0 W)
      rw [hy, ← str0, hc2] at C5
      have C10 := Lib.hid (fun W (hW : Below w.heap.size w W) => cmp_str (sR.big (by decide)) (sY.big (by decide)) W)
      rw [hr, hy, hc] at C10
      rw [hx, hy]
      clear hx hy hq hr hp hm hsz sX sY sQ sR mP mX m1 mS sN hmX hmY hcz hc hc2 hr0 hr1 hlt h0
      go_wp2_with fail
      (with_reducible refine (C1.out _ HB3.out).mono ?_)
      rintro e w4 ⟨rfl, hb⟩
      have HB4 := Lib.hid (HB3.out.trans (hb.mono HB3.out.size))
      clear hb
      go_wp2_with fail
      (with_reducible refine (C2.out _ HB4.out).mono ?_)
      rintro e w5 ⟨rfl, hb⟩
      have HB5 := Lib.hid (HB4.out.trans (hb.mono HB4.out.size))
      clear hb
      go_wp2_with fail
      (with_reducible refine (C3.out _ HB5.out).mono ?_)
      rintro e w6 ⟨rfl, hb⟩
      have HB6 := Lib.hid (HB5.out.trans (hb.mono HB5.out.size))
      clear hb
      go_wp2_with fail
      (with_reducible refine (C4.out _ HB6.out).mono ?_)
      rintro e w7 ⟨rfl, hb⟩
      have HB7 := Lib.hid (HB6.out.trans (hb.mono HB6.out.size))
      clear hb
      go_wp2_with fail
      (with_reducible refine (C5.out _ HB7.out).mono ?_)
      rintro e w8 ⟨rfl, hb⟩
      have HB8 := Lib.hid (HB7.out.trans (hb.mono HB7.out.size))
      clear hb
      go_wp2_with fail
      (with_reducible refine (C7.out _ HB8.out).mono ?_)
      rintro e w9 ⟨rfl, hb⟩
      have HB9 := Lib.hid (HB8.out.trans (hb.mono HB8.out.size))
      clear hb
      go_wp2_with fail
      (with_reducible refine (C8.out _ HB9.out).mono ?_)
      rintro e w10 ⟨rfl, hb⟩
      have HB10 := Lib.hid (HB9.out.trans (hb.mono HB9.out.size))
      clear hb
      go_wp2_with fail
      (with_reducible refine (C9.out _ HB10.out).mono ?_)
      rintro e w11 ⟨rfl, hb⟩
      have HB11 := Lib.hid (HB10.out.trans (hb.mono HB10.out.size))
      clear hb
      go_wp2_with fail
      (with_reducible refine (C10.out _ HB11.out).mono ?_)
      rintro e w12 ⟨rfl, hb⟩
      have HB12 := Lib.hid (HB11.out.trans (hb.mono HB11.out.size))
      clear hb
      go_wp2_with fail
      (with_reducible refine (C11.out _ HB12.out).mono ?_)
      rintro e w13 ⟨rfl, rfl⟩
      go_wp2
      go_ret
      exact ⟨rfl, HB12.out⟩
end Go.Proofs.YtebjjgbdiabapaaDoor
