/- shifted, walked. -/
import Derived.Test.YtebjjgbdiabapaaGreatDoorCat
namespace Go.Proofs.YtebjjgbdiabapaaGreatDoor
open Go.RowKit

theorem made_ints (n : Nat) : (madeCells (Value.int .i64 0).cells (n * 1)).toList = (List.replicate n (0 : Int)).map (Value.int .i64) := by
  rw [show (Value.int IntKind.i64 0).cells = #[.int .i64 0] from rfl, toList_madeCells_one, Nat.mul_one, List.map_replicate]

set_option maxRecDepth 100000 in
set_option maxHeartbeats 2000000 in
theorem shifted_nt (w : World) (v : Value) (a z : Nat) (h : Nt w v a) (hN : (dz 10000 a).length ≤ 20000) (hz : z ≤ 20000) :
    Calls Tryz.prog 70 #[v, .int .i64 z] w (NtOut w (a * 10000 ^ z)) := by
  obtain ⟨i0, hi, hz0, hz1, hz2⟩ := info_parts infoInt
  have HS := Lib.hid (show (vz 10000 (List.replicate z 0 ++ dz 10000 a)).toNat = a * 10000 ^ z by
    rw [vz_rep, vz4, show ((10000 : Int) ^ z) = ((10000 ^ z : Nat) : Int) by rw [Int.natCast_pow]; rfl, ← Int.natCast_mul, Int.toNat_natCast, Nat.mul_comm])
  have HD := Lib.hid (dig4 a)
  generalize a * 10000 ^ z = s at *
  unfold Nt at h
  generalize dz 10000 a = xs at *
  obtain ⟨al, c, rfl, _⟩ := h.shape
  have HL := Lib.hid h
  obtain ⟨N, hNe⟩ : ∃ N, xs.length = N := ⟨_, rfl⟩
  have HN := Lib.hid hNe
  rw [hNe] at HL hN
  rw [hNe]
  clear h hNe
  go_enter Tryz.func70, Tryz.ntmps70
  go_wp2_with (at_make
               refine wpList_make_full _ rfl _ _ 40 rfl w.heap.size 3 i0 (.int .i64 0) 1 Tryz.underlying40 hi hz0 hz1 .i64 .i64 _ _ z rfl rfl (by omega) (by omega) (by rw [hz2]; omega) (by unfold maxLen; omega) (Nat.le_refl _) ?_
               intro w1 hown hgrow
               have hb1 : Below w.heap.size w w1 := (Below.refl _ w).grown hgrow (Nat.le_refl _) (fun k e => by cases e)
               rw [made_ints] at hown
               have HZ := Lib.hid (Ls.own hown _ rfl)
               have HB := Lib.hid hb1
               clear hown hgrow hb1
               refine Hid.out ?_)
  refine Lib.hid ?_
  have HL1 := Lib.hid ((HL.out.below (Nat.le_refl _) HB.out).below (Nat.le_refl _) ((Below.refl w1.heap.size w1).alloc (Nat.le_refl _) (.cells #[.slice (some ⟨w.heap.size, 0, none⟩) z z, .slice al N c] 47)))
  have HZ1 := Lib.hid (HZ.out.below (Nat.le_refl _) ((Below.refl w1.heap.size w1).alloc (Nat.le_refl _) (.cells #[.slice (some ⟨w.heap.size, 0, none⟩) z z, .slice al N c] 47)))
  have HB1 := Lib.hid (HB.out.alloc HB.out.size (.cells #[.slice (some ⟨w.heap.size, 0, none⟩) z z, .slice al N c] 47))
  go_wp2_with (first
    | (go_at_call 81; refine (concat_row w1.heap.size _ _ _ (List.replicate z 0) xs HZ1.out HL1.out (by simp; omega) (by rw [HN.out]; omega) (by rw [cell_of_row _ _ 0 _ _ _ (heap_alloc_new w1 _)]; rfl) (by rw [cell_of_row _ _ 1 _ _ _ (heap_alloc_new w1 _)]; rfl)).mono ?_; rintro e w2 ⟨v2, rfl, hown, hb2⟩; have HR := Lib.hid (Ls.own hown _ rfl); have HB2 := Lib.hid (HB1.out.trans (hb2.mono HB1.out.size)); clear hown hb2)
    | (go_at_call 80; refine (trimmed_nt _ _ _ HR.out (by rw [List.length_append, HN.out, List.length_replicate]; omega) (by intro d hd; rw [List.mem_append] at hd; rcases hd with hd | hd; (have := (List.mem_replicate.1 hd).2; omega); exact HD.out d hd)).mono ?_; rintro e w3 ⟨v3, rfl, hnt, rfl⟩; have HNT := Lib.hid hnt; clear hnt))
  go_ret
  exact ⟨_, rfl, by have := HNT.out; rw [HS.out] at this; exact this, HB2.out⟩
end Go.Proofs.YtebjjgbdiabapaaGreatDoor
