/- The reference's digest of a text, walked. -/
import Derived.Test.YtiilkjonbfllfaaDoorRfB
namespace Go.Proofs.YtiilkjonbfllfaaDoor
open Go.RowKit
theorem digK_length (s : St) (k : Nat) : (digK s k).length = 4 * k := by simp [digK]
theorem digK_lt (s : St) (k : Nat) : ∀ x ∈ digK s k, x < 256 := by
  intro x hx
  obtain ⟨i, _, rfl⟩ := List.mem_map.1 hx
  exact Nat.mod_lt _ (by decide)
theorem map_u8_4 (l : List Nat) (a b c d : Nat) : l.map u8V ++ [u8V a, u8V b, u8V c, u8V d] = (l ++ [a, b, c, d]).map u8V := by simp

set_option maxRecDepth 100000 in
set_option maxHeartbeats 4000000 in
theorem rsum_any (s : ByteArray) (hs : s.size ≤ 900000) (w : World) :
    Calls Tryd.prog 14 #[.string s] w fun e w' => e = .returned (.string (dg s)) ∧ Below w.heap.size w w' := by
  obtain ⟨i0, hi, hz0, hz1, hz2⟩ := info_parts info5
  have HD := Lib.hid (show dg s = strN (digL (shaSt (nums s))) from rfl)
  have HXT := Lib.hid (rextended_any s hs)
  have hnl := nums_length s
  have hn256 : ∀ x ∈ nums s, x < 256 := fun x hx => by
    obtain ⟨c, _, rfl⟩ := List.mem_map.1 hx
    exact UInt8.toNat_lt c
  generalize nums s = b at *
  have HEL := Lib.hid (ext_lt b hn256)
  have HCL := Lib.hid (chunk_len b); have HCA := Lib.hid (chunk_at b); have HST := Lib.hid (stK_step b); have HEN := Lib.hid (stK_end b); have HOK := Lib.hid (stK_ok b)
  have HS0 := Lib.hid (show (stK b 0).l = [0x6a09e667, 0xbb67ae85, 0x3c6ef372, 0xa54ff53a, 0x510e527f, 0x9b05688c, 0x1f83d9ab, 0x5be0cd19] from rfl)
  obtain ⟨m, hm, hmle⟩ := ext_len64 b
  have hm1 : 1 ≤ m := by
    have := exL_length b 8
    rw [exL_end] at this; omega
  generalize ext b = E at *
  obtain ⟨N, hN⟩ : ∃ N, E.length = N := ⟨_, rfl⟩
  rw [hN] at hm hmle HXT
  have HNE := Lib.hid hN; have HM := Lib.hid hm
  have hN1 : 64 ≤ N := by omega
  have hN2 : N ≤ 900072 := by omega
  clear hN hn256 hnl hmle
  go_enter Tryd.func14, Tryd.ntmps14
  go_wp2_with fail
  have hrow0 := heap_alloc_new w (Obj.cells (((stK b 0).l).map u32V).toArray 48)
  have hb0 : Below w.heap.size w (w.alloc (Obj.cells (((stK b 0).l).map u32V).toArray 48)) := (Below.refl _ _).alloc (Nat.le_refl _) _
  have hsz0 : (w.alloc (Obj.cells (((stK b 0).l).map u32V).toArray 48)).heap.size = w.heap.size + 1 := by simp
  rw [HS0.out] at hrow0 hb0 hsz0
  refine (HXT.out _).mono ?_
  generalize hW0 : (w.alloc (Obj.cells ([0x6a09e667, 0xbb67ae85, 0x3c6ef372, 0xa54ff53a, 0x510e527f, 0x9b05688c, 0x1f83d9ab, 0x5be0cd19].map u32V).toArray 48)) = W0 at hrow0 hb0 hsz0
  rintro e w1 ⟨v1, rfl, hown1, hb1⟩
  have hb1' : Below W0.heap.size W0 w1 := by rw [← hW0]; exact hb1
  obtain ⟨g1, c1, rfl, _, hg1, hcs1⟩ := own_slice hown1 (by omega)
  have hc1 : N ≤ c1 := by obtain ⟨_, _, e, h1, _⟩ := own_form hown1; injection e with _ _ e3; omega
  have HE1 := Lib.hid (show ∀ i, i < N → w1.cell? ⟨g1, i, none⟩ = some (u8V (E.getD i 0)) from fun i hi => by
    refine hcs1 i _ ?_
    rw [List.getElem?_map, List.getD_eq_getElem?_getD, List.getElem?_eq_getElem (by rw [HNE.out]; exact hi)]; rfl)
  have HH0 := Lib.hid (show ∀ j, j < 8 → w1.cell? ⟨w.heap.size, 0 + j, none⟩ = some (u32V ((stK b 0).l.getD j 0)) from fun j hj => by
    refine (hb1'.cell (p := ⟨w.heap.size, 0 + j, none⟩) (by show w.heap.size < _; omega)).trans ?_
    rw [Nat.zero_add, HS0.out]
    refine cells_at hrow0 (f := u32V) ?_
    match j, hj with
    | 0, _ => rfl
    | 1, _ => rfl
    | 2, _ => rfl
    | 3, _ => rfl
    | 4, _ => rfl
    | 5, _ => rfl
    | 6, _ => rfl
    | 7, _ => rfl)
  have HB1 := Lib.hid (hb0.trans (hb1'.mono hb0.size))
  clear hown1 hcs1 hb1 hb1' hrow0 hb0 hsz0 hW0 HXT HS0
  go_wp2_with fail
  go_loopw [3, 5] (fun hv iv wr => ∃ i k gh ch : Nat, iv = .int .i64 i ∧ i = 64 * k ∧ i ≤ N ∧ hv = .slice (some ⟨gh, 0, none⟩) 8 ch ∧ (∀ j, j < 8 → wr.cell? ⟨gh, 0 + j, none⟩ = some (u32V ((stK b k).l.getD j 0))) ∧ Below w1.heap.size w1 wr) (fun _ iv _ => N - (intOf iv).toNat)
  case atStart => exact ⟨0, 0, _, _, rfl, rfl, by omega, rfl, HH0.out, Below.refl _ _⟩
  case round =>
    obtain ⟨i, k, gh, ch, rfl, hik, hiN, rfl, hh, hb⟩ := hrel
    have HM2 := Lib.hid hik
    by_cases hlt : i < N
    · have h64 : i + 64 ≤ N := by have := HM.out; omega
      have hcut := run_cut_both (P := Tryd.prog) 43 5 1 Tryd.underlying43 (by kernel_rfl) g1 0 N c1 i (i + 64) (by omega) (by omega) (by omega)
      rw [show ((i + 64 : Nat) : Int) = (i : Int) + 64 by omega, Nat.mul_one, Nat.zero_add, Nat.add_sub_cancel_left] at hcut
      have HBL := Lib.hid (HCL.out k (by rw [HNE.out]; omega))
      have FB := Lib.hid (rblock_any (stK b k) (HOK.out k) _ HBL.out (fun x hx => HEL.out x (List.mem_of_mem_drop (List.mem_of_mem_take hx))) gh 0 ch g1 i (c1 - i) wr hh (fun j hj => by
        rw [HCA.out k j hj, ← hik]
        exact (hb.cell (p := ⟨g1, i + j, none⟩) hg1).trans (HE1.out (i + j) (by omega))))
      rw [← HST.out] at FB
      clear hik hh
      go_wp2_with fail
      refine (FB.out).mono ?_
      rintro e w2 ⟨v2, rfl, hown2, hb2⟩
      obtain ⟨g2, c2, rfl, _, hg2, hcs2⟩ := own_slice hown2 (by omega)
      have HB2 := Lib.hid (hb.trans (hb2.mono hb.size))
      have HH2 := Lib.hid (show ∀ j, j < 8 → w2.cell? ⟨g2, 0 + j, none⟩ = some (u32V ((stK b (k + 1)).l.getD j 0)) from fun j hj => by
        rw [Nat.zero_add]
        refine hcs2 j _ ?_
        rw [List.getElem?_map, st_at _ j hj]; rfl)
      clear hown2 hb2 hcs2 hb
      go_wp2_with fail
      go_roundw
      case rel => exact ⟨i + 64, k + 1, g2, c2, by go_num, by have := HM2.out; omega, h64, rfl, HH2.out, HB2.out⟩
      case measure => simp [intOf]; omega
    · obtain rfl : i = N := by omega
      have hkm : k = m := by have := HM.out; omega
      have HV := Lib.hid (show stK b k = shaSt b by rw [← HEN.out, HNE.out, hkm, HM.out, Nat.mul_div_cancel_left _ (by decide)])
      rw [HV.out] at hh
      have HC := Lib.hid hh
      have hghs := block_lt_of_cell (hh 0 (by omega))
      have hlt32 : ∀ i, i < 8 → (shaSt b).l.getD i 0 < 4294967296 := by
        have ho := HOK.out k
        rw [HV.out] at ho
        obtain ⟨o0, o1, o2, o3, o4, o5, o6, o7⟩ := ho
        intro i hi
        match i, hi with
        | 0, _ => exact o0
        | 1, _ => exact o1
        | 2, _ => exact o2
        | 3, _ => exact o3
        | 4, _ => exact o4
        | 5, _ => exact o5
        | 6, _ => exact o6
        | 7, _ => exact o7
      have HLT := Lib.hid hlt32
      have HBW := Lib.hid (HB1.out.trans (hb.mono HB1.out.size))
      clear hh hik hkm hlt32 hb HV HM2 HM HEN HOK HCL HCA HST HEL HNE HE1 HH0
      generalize shaSt b = st at *
      rename World => W6
      have hghs6 : gh < W6.heap.size := hghs
      clear hghs
      go_wp2_with fail
      go_loopw [6, 7] (fun ov iv wr => ∃ i : Nat, i ≤ 8 ∧ iv = .int .i64 i ∧ wr.ownsRow W6.heap.size 5 1 ov (4 * i) ((digK st i).map u8V) ∧ Below W6.heap.size W6 wr) (fun _ iv _ => 8 - (intOf iv).toNat)
      case atStart => exact ⟨0, by omega, rfl, World.ownsRow_nil _ _ _ _, Below.refl _ _⟩
      case round =>
        obtain ⟨i, hi8, rfl, hown, hb⟩ := hrel
        by_cases hlt : i < 8
        · obtain ⟨x, hx⟩ : ∃ x, st.l.getD i 0 = x := ⟨_, rfl⟩
          have hxl : x < 4294967296 := by rw [← hx]; exact HLT.out i hlt
          have KC := Lib.hid (show ∀ W, Below W6.heap.size W6 W → W.cell? ⟨gh, i, none⟩ = some (.int .u32 x) from fun W hW => by
            refine (hW.cell (p := ⟨gh, i, none⟩) hghs6).trans ?_
            have := HC.out i hlt
            rw [Nat.zero_add] at this
            rw [this, hx])
          have HS := Lib.hid (digK_step st i)
          rw [hx] at HS
          have hi8' : (i : Int) < 8 := by omega
          clear hx
          go_wp2_with fail
          go_region_held3 (fun w' => w'.cell? ⟨gh, i, none⟩ = some (.int .u32 x))
            (first
              | exact KC.out _ hb.drew
              | exact KC.out _ (hb.alloc hb.size _).drew
              | exact KC.out _ hb5
              | go_keep)
            ((refine step_append_lit (by rfl) _ _ 43 5 (by rfl) Tryd.underlying43 hi hz0 hz1 hz2 rfl W6.heap.size _ (4 * i) _ (by rfl) hown _ 4 (by rfl) (by simp [Value.oneCell']) (by simp) (by simp; omega) (by decide) hb.size hb ?_; intro gg cap w5 hown5 hb5 hat hlt5))
          rw [show IntKind.u8.wrap ((x : Int) / 16777216) = ((x / 16777216 % 256 : Nat) : Int) by rw [IntKind.wrap_u8]; omega, show IntKind.u8.wrap ((x : Int) / 65536) = ((x / 65536 % 256 : Nat) : Int) by rw [IntKind.wrap_u8]; omega,
            show IntKind.u8.wrap ((x : Int) / 256) = ((x / 256 % 256 : Nat) : Int) by rw [IntKind.wrap_u8]; omega, show IntKind.u8.wrap (x : Int) = ((x % 256 : Nat) : Int) by rw [IntKind.wrap_u8]; omega] at hown5
          have HO5 := Lib.hid hown5; have HB5 := Lib.hid hb5
          clear hown5 hb5 hown hb
          go_wp2_with fail
          go_roundw
          case rel => exact ⟨i + 1, by omega, by go_num, by rw [HS.out, ← map_u8_4, Nat.mul_succ]; exact HO5.out, HB5.out⟩
          case measure => simp [intOf]; omega
        · obtain rfl : i = 8 := by omega
          obtain ⟨g, c, rfl, _, hg, hcs⟩ := own_slice hown (by omega)
          rw [digK_end] at hcs
          have hl32 : (digL st).length = 32 := digL_length st
          have hcell : ∀ j, j < 32 → wr.cell? ⟨g, 0 + j, none⟩ = some (.int .u8 (((digL st).map fun n : Nat => (n : Int)).getD j 0)) := fun j hj => by
            have e : (digL st)[j]? = some ((digL st).getD j 0) := by rw [List.getD_eq_getElem?_getD, List.getElem?_eq_getElem (by omega)]; rfl
            rw [Nat.zero_add, hcs j (u8V ((digL st).getD j 0)) (by rw [List.getElem?_map, e]; rfl), getD_cast]
          have hcv := run_convert_bytes_arg (P := Tryd.prog) wr 43 5 Tryd.underlying43 Tryd.underlying5 g 0 (4 * 8) c ((digL st).map fun n : Nat => (n : Int)) (by rw [List.length_map, hl32]) hcell 9 Tryd.underlying9
          rw [strOfNums_nat] at hcv
          clear hcell hcs hown
          have HB := Lib.hid hb
          clear hb
          go_wp2
          go_ret
          exact ⟨congrArg (fun z => Ending.returned (.string z)) HD.out.symm, HBW.out.trans (HB.out.mono HBW.out.size)⟩
end Go.Proofs.YtiilkjonbfllfaaDoor
