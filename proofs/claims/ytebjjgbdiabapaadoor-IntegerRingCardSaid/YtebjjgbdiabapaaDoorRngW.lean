/- The walk of IntegerRing. -/
import Derived.Test.YtebjjgbdiabapaaDoorStr
namespace Go.Proofs.YtebjjgbdiabapaaDoor
open Go.RowKit

set_option maxRecDepth 100000 in
set_option maxHeartbeats 8000000 in
theorem ring_walk (a b c : ByteArray) (hsa : a.size ≤ 9223372036854775807) (hsb : b.size ≤ 9223372036854775807) (hsc : c.size ≤ 9223372036854775807) (w : World) (ht : Tb w) : Calls Tryd.prog 3 #[.string a, .string b, .string c] w fun e w' => e = .returned (.bool true) ∧ Below w.heap.size w w' := by
  have HT := Lib.hid (fun W (hW : Below w.heap.size w W) => ht.below hW)
  have CSN := Lib.hid (sane_any w ht)
  clear ht
  go_enter Tryd.func3, Tryd.ntmps3
  go_wp2_with fail
  (with_reducible refine (CSN.out).mono ?_)
  rintro e w1 ⟨rfl, hb⟩
  have HB1 := Lib.hid ((Below.refl w.heap.size w).trans (hb.mono (Below.refl w.heap.size w).size))
  clear hb
  go_wp2_with fail
  (with_reducible refine (made_at a 60 60 rfl (by decide) _ hsa).mono ?_)
  rintro e w2 ⟨X, hmX, rfl, hb⟩
  have HB2 := Lib.hid (HB1.out.trans (hb.mono HB1.out.size))
  clear hb
  go_wp2_with fail
  (with_reducible refine (made_at b 60 60 rfl (by decide) _ hsb).mono ?_)
  rintro e w3 ⟨Y, hmY, rfl, hb⟩
  have HB3 := Lib.hid (HB2.out.trans (hb.mono HB2.out.size))
  clear hb
  go_wp2_with fail
  (with_reducible refine (made_at c 60 60 rfl (by decide) _ hsc).mono ?_)
  rintro e w4 ⟨Z, hmZ, rfl, hb⟩
  have HB4 := Lib.hid (HB3.out.trans (hb.mono HB3.out.size))
  clear hb
  have sX : Sm 60 X := hmX
  have sY : Sm 60 Y := hmY
  have sZ : Sm 60 Z := hmZ
  have sXY := sX.add sY
  have sYX := sY.add sX
  have sXYZ := sXY.add (sZ.mono (show 60 ≤ 60 + 1 by decide))
  have sYZ := sY.add sZ
  have sOt := (sX.mono (show 60 ≤ 60 + 1 by decide)).add sYZ
  have mXY := sX.mul sY
  have mYX := sY.mul sX
  have mXYZ := mXY.mul sZ
  have mYZ := sY.mul sZ
  have mAg := sX.mul mYZ
  have mLe := sXY.mul sZ
  have mXZ := sX.mul sZ
  have mRi := mXZ.add mYZ
  have sD := sX.sub sY
  have sBa := sD.add (sY.mono (show 60 ≤ 60 + 1 by decide))
  have m1 : Big (X * 1) := by rw [Int.mul_one]; exact sX.big (by decide)
  have m0 : Big (X * 0) := by rw [Int.mul_zero]; exact big0
  obtain ⟨x, hx⟩ : ∃ ttt, str (X) = ttt := ⟨_, rfl⟩
  obtain ⟨y, hy⟩ : ∃ ttt, str (Y) = ttt := ⟨_, rfl⟩
  obtain ⟨z, hz⟩ : ∃ ttt, str (Z) = ttt := ⟨_, rfl⟩
  obtain ⟨xy, hxy⟩ : ∃ ttt, str (X + Y) = ttt := ⟨_, rfl⟩
  obtain ⟨yz, hyz⟩ : ∃ ttt, str (Y + Z) = ttt := ⟨_, rfl⟩
  obtain ⟨xyz, hxyz⟩ : ∃ ttt, str (X + Y + Z) = ttt := ⟨_, rfl⟩
  obtain ⟨p, hp⟩ : ∃ ttt, str (X * Y) = ttt := ⟨_, rfl⟩
  obtain ⟨pz, hpz⟩ : ∃ ttt, str (X * Y * Z) = ttt := ⟨_, rfl⟩
  obtain ⟨r, hr⟩ : ∃ ttt, str (Y * Z) = ttt := ⟨_, rfl⟩
  obtain ⟨xz, hxz⟩ : ∃ ttt, str (X * Z) = ttt := ⟨_, rfl⟩
  obtain ⟨le, hle⟩ : ∃ ttt, str ((X + Y) * Z) = ttt := ⟨_, rfl⟩
  obtain ⟨d, hd⟩ : ∃ ttt, str (X - Y) = ttt := ⟨_, rfl⟩
  have C1 := Lib.hid (fun W (hW : Below w.heap.size w W) => add_str (sX.big (by decide)) (sY.big (by decide)) (sXY.big (by decide)) W (HT.out W hW))
  rw [hx, hy, hxy] at C1
  have C2 := Lib.hid (fun W (hW : Below w.heap.size w W) => add_str (sY.big (by decide)) (sX.big (by decide)) (sYX.big (by decide)) W (HT.out W hW))
  rw [Int.add_comm Y X, hx, hy, hxy] at C2
  have C3 := Lib.hid (fun W (hW : Below w.heap.size w W) => add_str (sXY.big (by decide)) (sZ.big (by decide)) (sXYZ.big (by decide)) W (HT.out W hW))
  rw [hxy, hz, hxyz] at C3
  have C4 := Lib.hid (fun W (hW : Below w.heap.size w W) => add_str (sY.big (by decide)) (sZ.big (by decide)) (sYZ.big (by decide)) W (HT.out W hW))
  rw [hy, hz, hyz] at C4
  have C5 := Lib.hid (fun W (hW : Below w.heap.size w W) => add_str (sX.big (by decide)) (sYZ.big (by decide)) (sOt.big (by decide)) W (HT.out W hW))
  rw [← Int.add_assoc, hx, hyz, hxyz] at C5
  have C6 := Lib.hid (fun W (hW : Below w.heap.size w W) => mul_str (sX.big (by decide)) (sY.big (by decide)) (mXY.big (by decide)) W (HT.out W hW))
  rw [hx, hy, hp] at C6
  have C7 := Lib.hid (fun W (hW : Below w.heap.size w W) => mul_str (sY.big (by decide)) (sX.big (by decide)) (mYX.big (by decide)) W (HT.out W hW))
  rw [Int.mul_comm Y X, hx, hy, hp] at C7
  have C8 := Lib.hid (fun W (hW : Below w.heap.size w W) => mul_str (mXY.big (by decide)) (sZ.big (by decide)) (mXYZ.big (by decide)) W (HT.out W hW))
  rw [hp, hz, hpz] at C8
  have C9 := Lib.hid (fun W (hW : Below w.heap.size w W) => mul_str (sY.big (by decide)) (sZ.big (by decide)) (mYZ.big (by decide)) W (HT.out W hW))
  rw [hy, hz, hr] at C9
  have C10 := Lib.hid (fun W (hW : Below w.heap.size w W) => mul_str (sX.big (by decide)) (mYZ.big (by decide)) (mAg.big (by decide)) W (HT.out W hW))
  rw [← Int.mul_assoc, hx, hr, hpz] at C10
  have C11 := Lib.hid (fun W (hW : Below w.heap.size w W) => mul_str (sXY.big (by decide)) (sZ.big (by decide)) (mLe.big (by decide)) W (HT.out W hW))
  rw [hxy, hz, hle] at C11
  have C12 := Lib.hid (fun W (hW : Below w.heap.size w W) => mul_str (sX.big (by decide)) (sZ.big (by decide)) (mXZ.big (by decide)) W (HT.out W hW))
  rw [hx, hz, hxz] at C12
  have C13 := Lib.hid (fun W (hW : Below w.heap.size w W) => add_str (mXZ.big (by decide)) (mYZ.big (by decide)) (mRi.big (by decide)) W (HT.out W hW))
  rw [← Int.add_mul, hxz, hr, hle] at C13
  have C14 := Lib.hid (fun W (hW : Below w.heap.size w W) => sub_str (sX.big (by decide)) (sY.big (by decide)) (sD.big (by decide)) W (HT.out W hW))
  rw [hx, hy, hd] at C14
  have C15 := Lib.hid (fun W (hW : Below w.heap.size w W) => add_str (sD.big (by decide)) (sY.big (by decide)) (sBa.big (by decide)) W (HT.out W hW))
  rw [Int.sub_add_cancel, hd, hy, hx] at C15
  have C16 := Lib.hid (fun W (hW : Below w.heap.size w W) => mul_str (sX.big (by decide)) big1 m1 W (HT.out W hW))
  rw [Int.mul_one, hx, ← str1] at C16
  have C17 := Lib.hid (fun W (hW : Below w.heap.size w W) => mul_str (sX.big (by decide)) big0 m0 W (HT.out W hW))
  rw [Int.mul_zero, hx, ← str0] at C17
  clear hmX hmY hmZ sX sY sZ sXY sYX sXYZ sYZ sOt mXY mYX mXYZ mYZ mAg mLe mXZ mRi sD sBa m1 m0 hxy hyz hxyz hp hpz hr hxz hle hd
  rw [hx, hy, hz]
  clear hx hy hz
  go_wp2_with fail
  (with_reducible refine (C1.out _ HB4.out).mono ?_)
  rintro e w5 ⟨rfl, hb⟩
  have HB5 := Lib.hid (HB4.out.trans (hb.mono HB4.out.size))
  clear hb
  go_wp2_with fail
  (with_reducible refine (C2.out _ HB5.out).mono ?_)
  rintro e w6 ⟨rfl, hb⟩
  have HB6 := Lib.hid (HB5.out.trans (hb.mono HB5.out.size))
  clear hb
  go_wp2_with fail
  (with_reducible refine (C3.out _ HB6.out).mono ?_)
  rintro e w7 ⟨rfl, hb⟩
  have HB7 := Lib.hid (HB6.out.trans (hb.mono HB6.out.size))
  clear hb
  go_wp2_with fail
  (with_reducible refine (C4.out _ HB7.out).mono ?_)
  rintro e w8 ⟨rfl, hb⟩
  have HB8 := Lib.hid (HB7.out.trans (hb.mono HB7.out.size))
  clear hb
  go_wp2_with fail
  (with_reducible refine (C5.out _ HB8.out).mono ?_)
  rintro e w9 ⟨rfl, hb⟩
  have HB9 := Lib.hid (HB8.out.trans (hb.mono HB8.out.size))
  clear hb
  go_wp2_with fail
  (with_reducible refine (C6.out _ HB9.out).mono ?_)
  rintro e w10 ⟨rfl, hb⟩
  have HB10 := Lib.hid (HB9.out.trans (hb.mono HB9.out.size))
  clear hb
  go_wp2_with fail
  (with_reducible refine (C7.out _ HB10.out).mono ?_)
  rintro e w11 ⟨rfl, hb⟩
  have HB11 := Lib.hid (HB10.out.trans (hb.mono HB10.out.size))
  clear hb
  go_wp2_with fail
  (with_reducible refine (C8.out _ HB11.out).mono ?_)
  rintro e w12 ⟨rfl, hb⟩
  have HB12 := Lib.hid (HB11.out.trans (hb.mono HB11.out.size))
  clear hb
  go_wp2_with fail
  (with_reducible refine (C9.out _ HB12.out).mono ?_)
  rintro e w13 ⟨rfl, hb⟩
  have HB13 := Lib.hid (HB12.out.trans (hb.mono HB12.out.size))
  clear hb
  go_wp2_with fail
  (with_reducible refine (C10.out _ HB13.out).mono ?_)
  rintro e w14 ⟨rfl, hb⟩
  have HB14 := Lib.hid (HB13.out.trans (hb.mono HB13.out.size))
  clear hb
  go_wp2_with fail
  (with_reducible refine (C11.out _ HB14.out).mono ?_)
  rintro e w15 ⟨rfl, hb⟩
  have HB15 := Lib.hid (HB14.out.trans (hb.mono HB14.out.size))
  clear hb
  go_wp2_with fail
  (with_reducible refine (C12.out _ HB15.out).mono ?_)
  rintro e w16 ⟨rfl, hb⟩
  have HB16 := Lib.hid (HB15.out.trans (hb.mono HB15.out.size))
  clear hb
  go_wp2_with fail
  (with_reducible refine (C13.out _ HB16.out).mono ?_)
  rintro e w17 ⟨rfl, hb⟩
  have HB17 := Lib.hid (HB16.out.trans (hb.mono HB16.out.size))
  clear hb
  go_wp2_with fail
  (with_reducible refine (C14.out _ HB17.out).mono ?_)
  rintro e w18 ⟨rfl, hb⟩
  have HB18 := Lib.hid (HB17.out.trans (hb.mono HB17.out.size))
  clear hb
  go_wp2_with fail
  (with_reducible refine (C15.out _ HB18.out).mono ?_)
  rintro e w19 ⟨rfl, hb⟩
  have HB19 := Lib.hid (HB18.out.trans (hb.mono HB18.out.size))
  clear hb
  go_wp2_with fail
  (with_reducible refine (C16.out _ HB19.out).mono ?_)
  rintro e w20 ⟨rfl, hb⟩
  have HB20 := Lib.hid (HB19.out.trans (hb.mono HB19.out.size))
  clear hb
  go_wp2_with fail
  (with_reducible refine (C17.out _ HB20.out).mono ?_)
  rintro e w21 ⟨rfl, hb⟩
  have HB21 := Lib.hid (HB20.out.trans (hb.mono HB20.out.size))
  clear hb
  go_wp2
  go_ret
  exact ⟨rfl, HB21.out⟩
end Go.Proofs.YtebjjgbdiabapaaDoor
