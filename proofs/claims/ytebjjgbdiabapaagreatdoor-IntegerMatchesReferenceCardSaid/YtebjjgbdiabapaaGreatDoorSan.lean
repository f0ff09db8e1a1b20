/- The fixed examples of the laws, walked. -/
import Derived.Test.YtebjjgbdiabapaaGreatDoorMad
namespace Go.Proofs.YtebjjgbdiabapaaGreatDoor
open Go.RowKit

theorem sqr99 : sqr 99 = 9 := root_unique 99 _ _ (sqr_le 99) (lt_sqr 99) (by decide) (by decide)
theorem root99 : rootS ⟨#[57, 57]⟩ = ⟨#[57]⟩ := by
  have h : rootV ⟨#[57, 57]⟩ = true := by decide +kernel
  have h2 : (nS ⟨#[57, 57]⟩).natAbs = 99 := by decide +kernel
  unfold rootS
  rw [h, if_pos rfl, h2, sqr99]
  decide +kernel
theorem rootm1 : rootS ⟨#[45, 49]⟩ = ⟨#[]⟩ := by
  have h : rootV ⟨#[45, 49]⟩ = false := by decide +kernel
  unfold rootS
  rw [h]; rfl
set_option maxRecDepth 100000 in
set_option maxHeartbeats 4000000 in
theorem sane_any (w : World) (ht : Tb w) : Calls Tryz.prog 6 #[] w fun e w' => e = .returned (.bool true) ∧ Below w.heap.size w w' := by
  have HT := Lib.hid (fun W (hW : Below w.heap.size w W) => ht.below hW)
  clear ht
  have CC1 := Lib.hid (fun W (hW : Below w.heap.size w W) => add_any ⟨#[57, 57, 57]⟩ ⟨#[49]⟩ W (by decide) (by decide) (HT.out W hW))
  rw [show opS (fun x y => x + y) ⟨#[57, 57, 57]⟩ ⟨#[49]⟩ = ⟨#[49, 48, 48, 48]⟩ from by decide +kernel, show opE (fun x y => x + y) ⟨#[57, 57, 57]⟩ ⟨#[49]⟩ = 0 from by decide +kernel] at CC1
  have CC2 := Lib.hid (fun W (hW : Below w.heap.size w W) => sub_any ⟨#[49]⟩ ⟨#[49, 48, 48, 48]⟩ W (by decide) (by decide) (HT.out W hW))
  rw [show opS (fun x y => x - y) ⟨#[49]⟩ ⟨#[49, 48, 48, 48]⟩ = ⟨#[45, 57, 57, 57]⟩ from by decide +kernel, show opE (fun x y => x - y) ⟨#[49]⟩ ⟨#[49, 48, 48, 48]⟩ = 0 from by decide +kernel] at CC2
  have CC3 := Lib.hid (fun W (hW : Below w.heap.size w W) => mul_any ⟨#[45, 49, 50]⟩ ⟨#[49, 50]⟩ W (by decide) (by decide) (HT.out W hW))
  rw [show opS (fun x y => x * y) ⟨#[45, 49, 50]⟩ ⟨#[49, 50]⟩ = ⟨#[45, 49, 52, 52]⟩ from by decide +kernel, show opE (fun x y => x * y) ⟨#[45, 49, 50]⟩ ⟨#[49, 50]⟩ = 0 from by decide +kernel] at CC3
  have CC4 := Lib.hid (fun W (hW : Below w.heap.size w W) => div_any ⟨#[45, 55]⟩ ⟨#[50]⟩ W (by decide) (by decide) (HT.out W hW))
  rw [show divQ ⟨#[45, 55]⟩ ⟨#[50]⟩ = ⟨#[45, 52]⟩ from by decide +kernel, show divR ⟨#[45, 55]⟩ ⟨#[50]⟩ = ⟨#[49]⟩ from by decide +kernel, show divE ⟨#[45, 55]⟩ ⟨#[50]⟩ = 0 from by decide +kernel] at CC4
  have CC5 := Lib.hid (fun W (hW : Below w.heap.size w W) => div_any ⟨#[45, 55]⟩ ⟨#[45, 50]⟩ W (by decide) (by decide) (HT.out W hW))
  rw [show divQ ⟨#[45, 55]⟩ ⟨#[45, 50]⟩ = ⟨#[52]⟩ from by decide +kernel, show divR ⟨#[45, 55]⟩ ⟨#[45, 50]⟩ = ⟨#[49]⟩ from by decide +kernel, show divE ⟨#[45, 55]⟩ ⟨#[45, 50]⟩ = 0 from by decide +kernel] at CC5
  have CC6 := Lib.hid (fun W (hW : Below w.heap.size w W) => gcd_any ⟨#[49, 50]⟩ ⟨#[45, 49, 56]⟩ W (by decide) (by decide) (HT.out W hW))
  rw [show opS gcdZ ⟨#[49, 50]⟩ ⟨#[45, 49, 56]⟩ = ⟨#[54]⟩ from by decide +kernel, show opE gcdZ ⟨#[49, 50]⟩ ⟨#[45, 49, 56]⟩ = 0 from by decide +kernel] at CC6
  have CC7 := Lib.hid (fun W (hW : Below w.heap.size w W) => root_any ⟨#[57, 57]⟩ W (by decide) (HT.out W hW))
  rw [root99, show rootE ⟨#[57, 57]⟩ = 0 from by decide +kernel] at CC7
  have CC8 := Lib.hid (fun W (hW : Below w.heap.size w W) => root_any ⟨#[45, 49]⟩ W (by decide) (HT.out W hW))
  rw [rootm1, show rootE ⟨#[45, 49]⟩ = 30 from by decide +kernel] at CC8
  have CC9 := Lib.hid (fun W (hW : Below w.heap.size w W) => add_any ⟨#[48, 48, 55]⟩ ⟨#[49]⟩ W (by decide) (by decide) (HT.out W hW))
  rw [show opS (fun x y => x + y) ⟨#[48, 48, 55]⟩ ⟨#[49]⟩ = ⟨#[]⟩ from by decide +kernel, show opE (fun x y => x + y) ⟨#[48, 48, 55]⟩ ⟨#[49]⟩ = 30 from by decide +kernel] at CC9
  have VV1 := Lib.hid (fun W => valid_any ⟨#[45, 55]⟩ W (by decide))
  rw [show vld (⟨#[45, 55]⟩ : ByteArray).data.toList = true from by decide +kernel] at VV1
  have VV2 := Lib.hid (fun W => valid_any ⟨#[45, 48]⟩ W (by decide))
  rw [show vld (⟨#[45, 48]⟩ : ByteArray).data.toList = false from by decide +kernel] at VV2
  have VV3 := Lib.hid (fun W => valid_any ⟨#[]⟩ W (by decide))
  rw [show vld (⟨#[]⟩ : ByteArray).data.toList = false from by decide +kernel] at VV3
  have KK := Lib.hid (fun W => compare_any ⟨#[45, 56]⟩ ⟨#[45, 55]⟩ W (by decide) (by decide))
  rw [show cmpS ⟨#[45, 56]⟩ ⟨#[45, 55]⟩ = -1 from by decide +kernel] at KK
  go_enter Tryz.func6, Tryz.ntmps6
  go_wp2_with fail
  refine (CC1.out _ (Below.refl w.heap.size w)).mono ?_
  rintro e w1 ⟨rfl, hb⟩
  have HB1 := Lib.hid ((Below.refl w.heap.size w).trans (hb.mono (Below.refl w.heap.size w).size))
  clear hb
  go_wp2_with fail
  refine (CC2.out _ HB1.out).mono ?_
  rintro e w2 ⟨rfl, hb⟩
  have HB2 := Lib.hid (HB1.out.trans (hb.mono HB1.out.size))
  clear hb
  go_wp2_with fail
  refine (CC3.out _ HB2.out).mono ?_
  rintro e w3 ⟨rfl, hb⟩
  have HB3 := Lib.hid (HB2.out.trans (hb.mono HB2.out.size))
  clear hb
  go_wp2_with fail
  refine (CC4.out _ HB3.out).mono ?_
  rintro e w4 ⟨rfl, hb⟩
  have HB4 := Lib.hid (HB3.out.trans (hb.mono HB3.out.size))
  clear hb
  go_wp2_with fail
  refine (CC5.out _ HB4.out).mono ?_
  rintro e w5 ⟨rfl, hb⟩
  have HB5 := Lib.hid (HB4.out.trans (hb.mono HB4.out.size))
  clear hb
  go_wp2_with fail
  refine (CC6.out _ HB5.out).mono ?_
  rintro e w6 ⟨rfl, hb⟩
  have HB6 := Lib.hid (HB5.out.trans (hb.mono HB5.out.size))
  clear hb
  go_wp2_with fail
  refine (CC7.out _ HB6.out).mono ?_
  rintro e w7 ⟨rfl, hb⟩
  have HB7 := Lib.hid (HB6.out.trans (hb.mono HB6.out.size))
  clear hb
  go_wp2_with fail
  refine (CC8.out _ HB7.out).mono ?_
  rintro e w8 ⟨rfl, hb⟩
  have HB8 := Lib.hid (HB7.out.trans (hb.mono HB7.out.size))
  clear hb
  go_wp2_with fail
  refine (CC9.out _ HB8.out).mono ?_
  rintro e w9 ⟨rfl, hb⟩
  have HB9 := Lib.hid (HB8.out.trans (hb.mono HB8.out.size))
  clear hb
  go_wp2_with fail
  refine (VV1.out _).mono ?_
  rintro e w10 ⟨rfl, rfl⟩
  go_wp2_with fail
  refine (VV2.out _).mono ?_
  rintro e w11 ⟨rfl, rfl⟩
  go_wp2_with fail
  refine (VV3.out _).mono ?_
  rintro e w12 ⟨rfl, rfl⟩
  go_wp2_with fail
  refine (KK.out _).mono ?_
  rintro e w20 ⟨rfl, hb⟩
  have HB20 := Lib.hid (HB9.out.trans (hb.mono HB9.out.size))
  clear hb
  go_wp2
  go_ret
  exact ⟨rfl, HB20.out⟩
end Go.Proofs.YtebjjgbdiabapaaGreatDoor
