/- The reference's text that fills its blocks, and its words of a block, walked. -/
import Derived.Test.YtiilkjonbfllfaaDoorRfM
import Derived.Test.YtiilkjonbfllfaaDoorPad
import Derived.Test.YtiilkjonbfllfaaDoorLit
import Derived.Test.YtiilkjonbfllfaaDoorFew
namespace Go.Proofs.YtiilkjonbfllfaaDoor
open Go.RowKit
theorem info48 : (Tryd.prog.info? 48).map (fun i => (i.zero, i.size, i.bytes)) = some (some (.int .u32 0), 1, 4) := by kernel_rfl
theorem nums_snoc (s : ByteArray) (k : Nat) (h : k < s.size) : (nums s).take (k + 1) = (nums s).take k ++ [s[k].toNat] := by
  unfold nums
  rw [List.take_succ_eq_append_getElem (by rw [List.length_map]; exact h)]
  simp
  rfl
theorem map_u8 (l : List Nat) (x : Nat) : l.map u8V ++ [u8V x] = (l ++ [x]).map u8V := by simp
theorem map_u32 (l : List Nat) (x : Nat) : l.map u32V ++ [u32V x] = (l ++ [x]).map u32V := by simp

set_option maxRecDepth 100000 in
set_option maxHeartbeats 2000000 in
theorem rextended_any (s : ByteArray) (hs : s.size ≤ 900000) (w : World) :
    Calls Tryd.prog 41 #[.string s] w fun e w' => ∃ v, e = .returned v ∧ w'.ownsRow w.heap.size 5 1 v (ext (nums s)).length ((ext (nums s)).map u8V) ∧ Below w.heap.size w w' := by
  obtain ⟨i0, hi, hz0, hz1, hz2⟩ := info_parts info5
  have hnl := nums_length s
  go_enter Tryd.func41, Tryd.ntmps41
  go_wp2
  go_loopw [3, 4] (fun bv iv wr => ∃ k : Nat, iv = .int .i64 k ∧ k ≤ s.size ∧ wr.ownsRow w.heap.size 5 1 bv k (((nums s).take k).map u8V) ∧ Below w.heap.size w wr) (fun _ iv _ => s.size - (intOf iv).toNat)
  case atStart => exact ⟨0, rfl, Nat.zero_le _, World.ownsRow_nil _ _ _ _, Below.refl _ _⟩
  case round =>
    obtain ⟨k, rfl, hk, hown, hb⟩ := hrel
    by_cases hlt : k < s.size
    · have HS := Lib.hid (nums_snoc s k hlt)
      go_wp2_with (at_builtin; refine wpList_append_lit rfl _ _ 43 5 rfl Tryd.underlying43 hi hz0 hz1 hz2 rfl w.heap.size _ k _ rfl hown #[.int .u8 s[k].toNat] 1 rfl (by simp [Value.oneCell']) (by simp; omega) (by decide) hb.size hb ?_; intro v' w' hown' hb')
      refine ⟨⟨k + 1, by go_num, by omega, ?_, hb'⟩, by simp [intOf]; omega⟩
      rw [HS.out, ← map_u8]; exact hown'
    · obtain rfl : k = s.size := by omega
      have hown2 : wr.ownsRow w.heap.size 5 1 u3 (nums s).length ((nums s).map u8V) := by
        rw [List.take_of_length_le (by omega)] at hown; rw [hnl]; exact hown
      have hbl := nums_length s
      obtain ⟨b, hbb⟩ : ∃ b, nums s = b := ⟨_, rfl⟩
      rw [hbb] at hown2 hnl
      have HBB := Lib.hid hbb
      clear hown hbb hbl
      obtain ⟨z, hz⟩ : ∃ z, (119 - b.length % 64) % 64 = z := ⟨_, rfl⟩
      have HL := Lib.hid (exZ_length b); have HLL := Lib.hid (exL_length b); have HS := Lib.hid (exZ_step b)
      have HZ := Lib.hid (show ∀ j, j ≤ z → (b.length + 1 + j) % 64 = 56 → j = z from fun j hj h => by omega)
      have HZ2 := Lib.hid (show (b.length + 1 + z) % 64 = 56 by omega)
      have hzl : z < 64 := by omega
      have hN := Lib.hid hnl
      clear hnl
      go_wp2_with (at_builtin; refine wpList_append_lit rfl _ _ 43 5 rfl Tryd.underlying43 hi hz0 hz1 hz2 rfl w.heap.size _ b.length _ rfl hown2 #[.int .u8 128] 1 rfl (by simp [Value.oneCell']) (by have := hN.out; simp; omega) (by decide) hb.size hb ?_; intro v1 w1 hown1 hb1)
      have hown3 : w1.ownsRow w.heap.size 5 1 v1 (b.length + 1) ((exZ b 0).map u8V) := by rw [exZ_zero, ← map_u8]; exact hown1
      clear hown1 hown2
      go_loopg [3] z (fun gk bv wr => ∃ j N : Nat, gk = z - j ∧ j ≤ z ∧ N = b.length + 1 + j ∧ wr.ownsRow w.heap.size 5 1 bv N ((exZ b j).map u8V) ∧ Below w.heap.size w wr)
      case atStart => exact ⟨0, _, rfl, Nat.zero_le _, rfl, hown3, hb1⟩
      case round =>
        obtain ⟨j, N, hgk, hj, hNj, hown, hb2⟩ := hrel
        have HG := Lib.hid hgk
        obtain ⟨al, c, rfl, r1, r2⟩ := own_form hown
        clear hgk
        by_cases hlt : j < z
        · have HNJ := Lib.hid hNj
          have hne : ¬ ((N : Int) % 64 = 56) := by have := HZ.out j hj; omega
          have hNb : N ≤ 1000000 := by have := hN.out; omega
          clear hNj
          go_wp2_with (at_builtin; refine wpList_append_lit rfl _ _ 43 5 rfl Tryd.underlying43 hi hz0 hz1 hz2 rfl w.heap.size _ N _ rfl hown #[.int .u8 0] 1 rfl (by simp [Value.oneCell']) (by simp; omega) (by decide) hb2.size hb2 ?_; intro v3 w3 hown3 hb3)
          go_roundg (z - (j + 1))
          case measure => have := HG.out; omega
          case rel => exact ⟨j + 1, N + 1, rfl, by omega, by have := HNJ.out; omega, by rw [HS.out, ← map_u8]; exact hown3, hb3⟩
        · obtain rfl : j = z := by omega
          have he : ((N : Int) % 64 = 56) := by have := HZ2.out; omega
          have hNb : N ≤ 1000000 := by have := hN.out; omega
          have HN2 := Lib.hid (show N = (exL b 0).length by rw [HLL.out, hNj, hz]; omega)
          have hown0 : wr.ownsRow w.heap.size 5 1 (.slice al N c) (exL b 0).length ((exL b 0).map u8V) := by
            rw [← HN2.out, exL_zero, hz]; exact hown
          have HSL := Lib.hid (exL_step b); have HE := Lib.hid (exL_end b)
          have HLB := Lib.hid (show ∀ i, i ≤ 8 → (exL b i).length ≤ 1000000 from fun i hi8 => by rw [HLL.out]; have := hN.out; omega)
          have HLS := Lib.hid (show ∀ i, (exL b (i + 1)).length = (exL b i).length + 1 from fun i => by rw [HLL.out, HLL.out]; omega)
          have hbn : b.length ≤ 900000 := by have := hN.out; omega
          clear hown hNj HLL HN2 HZ HZ2 HS HL hown3
          generalize exL b = eL at *
          go_wp2
          go_loopw [3, 5] (fun bv iv wr => ∃ i : Nat, iv = .int .i64 (7 - i) ∧ i ≤ 8 ∧ wr.ownsRow w.heap.size 5 1 bv (eL i).length ((eL i).map u8V) ∧ Below w.heap.size w wr) (fun _ iv _ => ((intOf iv) + 1).toNat)
          case atStart => exact ⟨0, rfl, by omega, hown0, hb2⟩
          case round =>
            obtain ⟨i, rfl, hi8, hown, hb3⟩ := hrel
            by_cases hlt : i < 8
            · have hsh : (8 * (7 - (i : Int))).toNat = 8 * (7 - i) := by omega
              have hsh0 : 0 ≤ 8 * (7 - (i : Int)) := by omega
              have hge : 0 ≤ 7 - (i : Int) := by omega
              go_wp2_with (at_builtin; refine wpList_append_lit rfl _ _ 43 5 rfl Tryd.underlying43 hi hz0 hz1 hz2 rfl w.heap.size _ (eL i).length _ rfl hown #[.int .u8 (8 * (s.size : Int) / 2 ^ (8 * (7 - i)) % 256)] 1 rfl (by simp [Value.oneCell']) (by have := HLB.out i hi8; simp; omega) (by decide) hb3.size hb3 ?_; intro v4 w4 hown4 hb4)
              refine ⟨⟨i + 1, by omega, by omega, ?_⟩, by simp only [intOf]; omega⟩
              rw [HLS.out, HSL.out, hN.out, ← map_u8]; simpa [u8V] using hown4
            · obtain rfl : i = 8 := by omega
              go_wp2
              go_ret
              exact ⟨_, rfl, by rw [HBB.out, ← HE.out]; exact hown, hb3⟩
end Go.Proofs.YtiilkjonbfllfaaDoor
