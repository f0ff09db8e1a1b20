/- The walk of DigestExtensionAccepted. -/
import Derived.Test.YtiilkjonbfllfaaDoorSplW
namespace Go.Proofs.YtiilkjonbfllfaaDoor
open Go.RowKit

set_option maxRecDepth 100000 in
set_option maxHeartbeats 4000000 in
theorem exa_walk (al1 : Option Addr) (n1 c1 : Nat) (ss1 : List ByteArray) (hm1 : n1 ≤ maxLen) (m : Int) (hm0 : -9223372036854775808 ≤ m)
    (hw1 : ∀ s ∈ ss1, s.size ≤ maxLen) (w : World) (hT : Tab w)
    (hr1 : n1 = 0 ∨ ∃ b o, al1 = some ⟨b, o, none⟩ ∧ ∀ i, i < n1 → w.cell? ⟨b, o + i, none⟩ = some (.string (ss1.getD i ByteArray.empty))) :
    Calls Tryd.prog 7 #[.slice al1 n1 c1, .int .i64 m] w fun e w' => e = .returned (.bool true) ∧ Below w.heap.size w w' := by
  obtain ⟨ps, hps, hpz⟩ := strs_arg hw1 hr1
  clear hr1 hw1
  have hz : 0 < w.heap.size := hT.1
  have HT := Lib.hid (fun W (hB : Below w.heap.size w W) => hT.below hB hz)
  have HP := Lib.hid hps; have HPZ := Lib.hid hpz; have HT0 := Lib.hid hT
  have hPl : (fewL ps 25).length ≤ 25 := by rw [fewL_length]; omega
  have HPS := Lib.hid (fun (x : ByteArray) hx => Nat.le_trans (fewL_size ps 25 x hx) (show 60 ≤ 400000 by decide))
  have FP := Lib.hid (fun W hW => few_any al1 n1 c1 25 ps (by omega) hm1 W hW HPZ.out)
  clear hps hpz hT
  generalize fewL ps 25 = P at *
  obtain ⟨N, hN⟩ : ∃ N, P.length = N := ⟨_, rfl⟩
  have HN := Lib.hid hN
  have hN25 : N ≤ 25 := by omega
  have hDl := digits_le N
  obtain ⟨D, hD⟩ : ∃ D, digits N = D := ⟨_, rfl⟩
  rw [hD] at hDl
  have HD := Lib.hid hD
  have HXL := Lib.hid (fun k (hk : k ≤ N) => ext_len P k (by rw [hN]; exact hk))
  have HVX := Lib.hid (fun k (hk : k ≤ N) => vex_ext P k (by rw [hN]; exact hk))
  rw [hN] at HXL HVX
  rw [hD] at HXL
  have HXT := Lib.hid (fun k (hk : k ≤ N) => ext_texts P k (by rw [hN]; exact hk))
  have hrP := root_size P
  clear hN hPl hD
  go_enter Tryd.func7, Tryd.ntmps7
  go_wp2_with fail
  refine (sane_any _ HT0.out).mono ?_
  rintro e w1 ⟨rfl, hb1⟩
  have HB1 := Lib.hid hb1; clear hb1
  go_wp2_with fail
  refine (FP.out _ (HP.out.below HB1.out)).mono ?_
  rintro e w2 ⟨v2, rfl, a3, c3, rfl, hlc3, hc3, ho3, hb2⟩
  have HB2 := Lib.hid (HB1.out.trans (hb2.mono HB1.out.size)); have HS2 := Lib.hid (strs_of_own ho3)
  clear ho3 hb2 HB1
  rw [HN.out] at HS2 hlc3 ⊢
  go_wp2_with fail
  refine (root_at a3 N c3 P w2 HS2.out (by omega) hlc3 hc3 HPS.out (HT.out _ HB2.out)).mono ?_
  rintro e w3 ⟨rfl, hb3⟩
  have HB3 := Lib.hid (HB2.out.trans (hb3.mono HB2.out.size)); have HS3 := Lib.hid (HS2.out.below hb3)
  clear hb3 HB2 HS2
  go_wp2_with fail
  go_loopw [7] (fun iv wr => ∃ k : Nat, iv = .int .i64 k ∧ k ≤ N + 1 ∧ Below w3.heap.size w3 wr) (fun iv _ => N + 1 - (intOf iv).toNat)
  case atStart => exact ⟨0, rfl, by omega, Below.refl _ _⟩
  case round =>
    obtain ⟨k, rfl, hk, hb⟩ := hrel
    have HBR := Lib.hid hb; clear hb
    have HS := Lib.hid (HS3.out.below HBR.out)
    have HBW := Lib.hid (HB3.out.trans (HBR.out.mono HB3.out.size))
    by_cases hle : k ≤ N
    · have hxl := HXL.out k hle
      have HX := Lib.hid (HXT.out k hle)
      have HV := Lib.hid (HVX.out k hle)
      have hrK := root_size (P.take k)
      have hcut := run_cut_to (P := Tryd.prog) 26 9 1 Tryd.underlying26 (by kernel_rfl) a3 N c3 k (by omega)
      have EX := Lib.hid (ext_at a3 N c3 P (by omega) hlc3 hc3 wr HS.out HPS.out (HT.out _ HBW.out) k hle)
      obtain ⟨X, hXX⟩ : ∃ X, extS P k = X := ⟨_, rfl⟩
      rw [hXX] at hxl HX HV EX
      clear hXX
      go_wp2_with fail
      refine EX.out.mono ?_
      rintro e w6 ⟨v6, rfl, a6, c6, rfl, hlc6, hc6, ho6, hb6⟩
      have HX6 := Lib.hid (strs_of_own ho6); have HBR6 := Lib.hid (HBR.out.trans (hb6.mono HBR.out.size)); have HS6 := Lib.hid (HS.out.below hb6)
      clear ho6 hb6 HBR HS HBW EX
      have hng : ¬ (2 * (D : Int) < X.length) := by omega
      go_wp2_with fail
      refine (binary_any N (by omega) _).mono ?_
      rw [HD.out]
      rintro e w7 ⟨rfl, rfl⟩
      go_wp2_with fail
      refine (root_at a3 k c3 (P.take k) w6 (HS6.out.take hle) (by omega) (by omega) hc3 (fun x hx => HPS.out x (List.mem_of_mem_take hx)) (HT.out _ (HB3.out.trans (HBR6.out.mono HB3.out.size)))).mono ?_
      rintro e w8 ⟨rfl, hb8⟩
      have HBR8 := Lib.hid (HBR6.out.trans (hb8.mono HBR6.out.size)); have HX8 := Lib.hid (HX6.out.below hb8)
      clear hb8 HBR6 HX6 HS6
      go_wp2_with fail
      refine (vex_any (root (P.take k)) (root P) k N (by omega) (by omega) a6 X.length c6 X (by omega) hlc6 hc6 w8 HX8.out HX.out (by rw [hrK]; decide) (by rw [hrP]; decide) (HT.out _ (HB3.out.trans (HBR8.out.mono HB3.out.size)))).mono ?_
      rw [HV.out]
      rintro e w9 ⟨rfl, hb9⟩
      have HBR9 := Lib.hid (HBR8.out.trans (hb9.mono HBR8.out.size))
      clear hb9 HBR8 HX8
      go_wp2_with fail
      go_roundw
      case rel => exact ⟨k + 1, by go_num, by omega, HBR9.out⟩
      case measure => simp [intOf]; omega
    · have hgt : (N : Int) < k := by omega
      by_cases hin : 0 ≤ m ∧ m ≤ N
      · obtain ⟨j, rfl⟩ := Int.eq_ofNat_of_zero_le hin.1
        have hj : j ≤ N := by omega
        have hji : (j : Int) ≤ N := by omega
        have hj0 : (0 : Int) ≤ j := by omega
        clear hin
        have EX := Lib.hid (ext_at a3 N c3 P (by omega) hlc3 hc3 wr HS.out HPS.out (HT.out _ HBW.out) j hj)
        generalize extS P j = X at *
        go_wp2_with fail
        refine EX.out.mono ?_
        rintro e w6 ⟨v6, rfl, a6, c6, rfl, hlc6, hc6, ho6, hb6⟩
        have HBF := Lib.hid (HBW.out.trans (hb6.mono HBW.out.size))
        clear ho6 hb6 HBR HS HBW EX
        go_wp2_with fail
        go_ret
        exact ⟨rfl, HBF.out⟩
      · have hbad : m < 0 ∨ (N : Int) < m := by omega
        have HV := Lib.hid (vex_bad1 (root P) (root P) m N [] hbad)
        have HSN := Lib.hid (show Strs wr none 0 [] from ⟨rfl, .inl rfl⟩)
        go_wp2_with fail
        refine (ext_bad a3 N c3 m hbad wr).mono ?_
        rintro e w6 ⟨rfl, rfl⟩
        by_cases hneg : m < 0
        · have hn0 : ¬ (0 ≤ m) := by omega
          clear hin hbad
          go_wp2_with fail
          refine (vex_any (root P) (root P) m N hm0 (by omega) none 0 0 [] (by omega) (Nat.le_refl _) (by decide) wr HSN.out (by simp) (by rw [hrP]; decide) (by rw [hrP]; decide) (HT.out _ HBW.out)).mono ?_
          rw [HV.out]
          rintro e w9 ⟨rfl, hb9⟩
          have HBF := Lib.hid (HBW.out.trans (hb9.mono HBW.out.size))
          clear hb9
          go_wp2_with fail
          go_ret
          exact ⟨rfl, HBF.out⟩
        · have hn0 : 0 ≤ m := by omega
          have hn1 : decide (m ≤ (N : Int)) = false := by simp; omega
          clear hin hbad
          go_wp2_with fail
          refine (vex_any (root P) (root P) m N hm0 (by omega) none 0 0 [] (by omega) (Nat.le_refl _) (by decide) wr HSN.out (by simp) (by rw [hrP]; decide) (by rw [hrP]; decide) (HT.out _ HBW.out)).mono ?_
          rw [HV.out]
          rintro e w9 ⟨rfl, hb9⟩
          have HBF := Lib.hid (HBW.out.trans (hb9.mono HBW.out.size))
          clear hb9
          go_wp2_with fail
          go_ret
          exact ⟨rfl, HBF.out⟩
end Go.Proofs.YtiilkjonbfllfaaDoor
