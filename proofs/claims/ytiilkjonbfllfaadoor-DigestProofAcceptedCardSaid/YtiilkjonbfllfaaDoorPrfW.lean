/- The walk of DigestProofAccepted. -/
import Derived.Test.YtiilkjonbfllfaaDoorStp
import Derived.Deep.DeepCutAuto
import Derived.Deep.RegionHeld3
namespace Go.Proofs.YtiilkjonbfllfaaDoor
open Go.RowKit

theorem lit1 (w : World) (r : ByteArray) : ((w.alloc (.cells #[.string r] 9)).alloc (.cells #[] 9)).ownsRow w.heap.size 9 1 (.slice (some ⟨w.heap.size + 1, 0, none⟩) 0 0) 0 [] := by
  have h := lit0 (w.alloc (.cells #[.string r] 9))
  rw [show (w.alloc (Obj.cells #[.string r] 9)).heap.size = w.heap.size + 1 by simp] at h
  exact own_mono h (by omega)
theorem cut_tail_strs {w : World} {g o M c : Nat} {X : List ByteArray} (h : Strs w (some ⟨g, o, none⟩) M X) (_h0 : 0 < M) (hc : M ≤ c) :
    ∃ al, (∀ W, (Instr.slice 26 (.slice (some ⟨g, o, none⟩) M c) (some (.int .i64 1)) none none).run Tryd.prog W = .ok (.slice al (M - 1) (c - 1)) W) ∧ Strs w al (M - 1) (X.drop 1) := by
  obtain ⟨al, h1, h2⟩ := run_cut_tail (P := Tryd.prog) 26 9 Tryd.underlying26 (by kernel_rfl) g o M c 1 (by omega) hc
  refine ⟨al, h1, ?_⟩
  by_cases hM : 1 < M
  · rw [h2 hM]
    have := strs_drop h (k := 1) (by omega)
    rwa [Nat.mul_one] at this
  · refine ⟨by rw [List.length_drop, h.1], .inl (by omega)⟩

set_option maxRecDepth 100000 in
set_option maxHeartbeats 8000000 in
theorem prf_walk (al1 : Option Addr) (n1 c1 : Nat) (ss1 : List ByteArray) (hm1 : n1 ≤ maxLen) (i : Int) (hi0 : -9223372036854775808 ≤ i)
    (hw1 : ∀ s ∈ ss1, s.size ≤ maxLen) (w : World) (hT : Tab w)
    (hr1 : n1 = 0 ∨ ∃ b o, al1 = some ⟨b, o, none⟩ ∧ ∀ i, i < n1 → w.cell? ⟨b, o + i, none⟩ = some (.string (ss1.getD i ByteArray.empty))) :
    Calls Tryd.prog 6 #[.slice al1 n1 c1, .int .i64 i] w fun e w' => e = .returned (.bool true) ∧ Below w.heap.size w w' := by
  obtain ⟨ps, hps, hpz⟩ := strs_arg hw1 hr1
  clear hr1 hw1
  have hz : 0 < w.heap.size := hT.1
  have HT := Lib.hid (fun W (hB : Below w.heap.size w W) => hT.below hB hz)
  have HP := Lib.hid hps; have HPZ := Lib.hid hpz; have HT0 := Lib.hid hT
  have hPl : (fewL ps 40).length ≤ 40 := by rw [fewL_length]; omega
  have HPS := Lib.hid (fun (x : ByteArray) hx => Nat.le_trans (fewL_size ps 40 x hx) (show 60 ≤ 400000 by decide))
  have FP := Lib.hid (fun W hW => few_any al1 n1 c1 40 ps (by omega) hm1 W hW HPZ.out)
  clear hps hpz hT
  generalize fewL ps 40 = P at *
  obtain ⟨N, hN⟩ : ∃ N, P.length = N := ⟨_, rfl⟩
  have HN := Lib.hid hN
  have hN40 : N ≤ 40 := by omega
  have hDl := digits_le N
  obtain ⟨D, hD⟩ : ∃ D, digits N = D := ⟨_, rfl⟩
  rw [hD] at hDl
  have HD := Lib.hid hD
  have HQL := Lib.hid (fun k => prf_len P k)
  rw [hN] at HQL
  rw [hD] at HQL
  have HQT := Lib.hid (show ∀ k, ∀ x ∈ prfS P k, x.size ≤ maxLen from fun k x hx => by
    unfold prfS at hx
    exact Nat.le_trans (Nat.le_of_eq (proofR_32 _ P k rfl x (List.mem_reverse.1 hx))) (by decide))
  have HAT := Lib.hid (show ∀ k, k < N → ∃ s : ByteArray, P[k]? = some s ∧ P.getD k ByteArray.empty = s ∧ s.size ≤ 400000 from fun k hk => by
    have e : P[k]? = some (P[k]'(by rw [hN]; exact hk)) := List.getElem?_eq_getElem _
    refine ⟨_, e, by rw [List.getD_eq_getElem?_getD, e]; rfl, HPS.out _ (List.getElem_mem _)⟩)
  have HVP := Lib.hid (fun k s (h : P[k]? = some s) => ver_proof P k s h)
  have HVF := Lib.hid (fun k (hk : k < N) r s ps' hne => ver_far (l := P) (i := k) (by rw [hN]; exact hk) r s (ps := ps') hne)
  rw [hN] at HVP HVF
  have hrP := root_size P
  clear hN hPl hD
  go_enter Tryd.func6, Tryd.ntmps6
  go_wp2_with fail
  refine (sane_any _ HT0.out).mono ?_
  rintro e w1 ⟨rfl, hb1⟩
  have HB1 := Lib.hid hb1; clear hb1
  go_wp2_with fail
  refine (FP.out _ (HP.out.below HB1.out)).mono ?_
  rintro e w2 ⟨v2, rfl, a3, c3, rfl, hlc3, hc3, ho3, hb2⟩
  have HB2 := Lib.hid (HB1.out.trans (hb2.mono HB1.out.size)); have HS2 := Lib.hid (strs_of_own ho3)
  clear ho3 hb2 HB1
  rw [HN.out] at HS2 hlc3 ⊢
  go_wp2_with fail
  refine (root_at a3 N c3 P w2 HS2.out (by omega) hlc3 hc3 HPS.out (HT.out _ HB2.out)).mono ?_
  rintro e w3 ⟨rfl, hb3⟩
  have HB3 := Lib.hid (HB2.out.trans (hb3.mono HB2.out.size)); have HS3 := Lib.hid (HS2.out.below hb3)
  clear hb3 HB2 HS2
  generalize hR : root P = R at *
  have HR := Lib.hid hR; clear hR
  go_wp2_with fail
  go_loopw [7] (fun iv wr => ∃ k : Nat, iv = .int .i64 k ∧ k ≤ N ∧ Below w3.heap.size w3 wr) (fun iv _ => N - (intOf iv).toNat)
  case atStart => exact ⟨0, rfl, by omega, Below.refl _ _⟩
  case round =>
    obtain ⟨k, rfl, hk, hb⟩ := hrel
    have HBR := Lib.hid hb; clear hb
    have HS := Lib.hid (HS3.out.below HBR.out)
    have HBW := Lib.hid (HB3.out.trans (HBR.out.mono HB3.out.size))
    by_cases hlt : k < N
    · have hxl := HQL.out k
      have HX := Lib.hid (HQT.out k)
      obtain ⟨s, hs1, hs2, hs3⟩ := HAT.out k hlt
      have HV := Lib.hid (HVP.out k s hs1)
      obtain ⟨g, o, rfl, hg, hcs⟩ := strs_out HS.out hlt
      have HCX := Lib.hid (show ∀ W, Below wr.heap.size wr W → W.cell? ⟨g, o + k, none⟩ = some (.string s) from fun W hW => by rw [← hs2]; exact (hW.cell (p := ⟨g, o + k, none⟩) hg).trans (hcs k hlt))
      have EX := Lib.hid (proof_at (some ⟨g, o, none⟩) N c3 P (by omega) hlc3 hc3 wr HS.out HPS.out (HT.out _ HBW.out) k hlt)
      obtain ⟨X, hXX⟩ : ∃ X, prfS P k = X := ⟨_, rfl⟩
      rw [hXX] at hxl HX HV EX
      clear hXX hcs hs1 hs2
      have hki : (k : Int) < N := by omega
      go_wp2_with fail
      refine EX.out.mono ?_
      rintro e w6 ⟨v6, rfl, a6, c6, rfl, hlc6, hc6, ho6, hb6⟩
      have HX6 := Lib.hid (strs_of_own ho6); have HBR6 := Lib.hid (HBR.out.trans (hb6.mono HBR.out.size))
      have hcx := HCX.out _ hb6
      clear ho6 hb6 HBR HS HBW EX
      have hng : ¬ ((D : Int) < X.length) := by omega
      go_wp2_with fail
      refine (binary_any N (by omega) _).mono ?_
      rw [HD.out]
      rintro e w7 ⟨rfl, rfl⟩
      go_wp2_with fail
      refine (verify_any R N k (by omega) (by omega) s (by omega) a6 X.length c6 X (by omega) w6 HX6.out HX.out (HT.out _ (HB3.out.trans (HBR6.out.mono HB3.out.size)))).mono ?_
      rw [HV.out]
      rintro e w9 ⟨rfl, hb9⟩
      have HBR9 := Lib.hid (HBR6.out.trans (hb9.mono HBR6.out.size))
      clear hb9 HBR6 HX6 hcx
      go_wp2_with fail
      go_roundw
      case rel => exact ⟨k + 1, by go_num, by omega, HBR9.out⟩
      case measure => simp [intOf]; omega
    · have hge : (N : Int) ≤ k := by omega
      by_cases hin : 0 ≤ i ∧ i < N
      · obtain ⟨I, rfl⟩ := Int.eq_ofNat_of_zero_le hin.1
        have hI : I < N := by omega
        have hIi : (I : Int) < N := by omega
        have hI0 : (0 : Int) ≤ I := by omega
        clear hin
        have hxl := HQL.out I
        have HX := Lib.hid (HQT.out I)
        obtain ⟨s, hs1, hs2, hs3⟩ := HAT.out I hI
        obtain ⟨g, o, rfl, hg, hcs⟩ := strs_out HS.out hI
        have HCX := Lib.hid (show ∀ W, Below wr.heap.size wr W → W.cell? ⟨g, o + I, none⟩ = some (.string s) from fun W hW => by rw [← hs2]; exact (hW.cell (p := ⟨g, o + I, none⟩) hg).trans (hcs I hI))
        have EX := Lib.hid (proof_at (some ⟨g, o, none⟩) N c3 P (by omega) hlc3 hc3 wr HS.out HPS.out (HT.out _ HBW.out) I hI)
        have HVF2 := Lib.hid (fun ps' hne => HVF.out I hI R s ps' hne)
        obtain ⟨X, hXX⟩ : ∃ X, prfS P I = X := ⟨_, rfl⟩
        rw [hXX] at hxl HX EX HVF2
        clear hXX hcs hs1 hs2
        obtain ⟨M, hM⟩ : ∃ M, X.length = M := ⟨_, rfl⟩
        have HM := Lib.hid hM
        rw [hM] at hxl HVF2
        clear hM
        go_wp2_with fail
        refine EX.out.mono ?_
        rintro e w6 ⟨v6, rfl, a6, c6, rfl, hlc6, hc6, ho6, hb6⟩
        rw [HM.out] at hlc6 ho6 ⊢
        have HO6 := Lib.hid ho6; have HBR6 := Lib.hid (HB3.out.trans ((HBR.out.trans (hb6.mono HBR.out.size)).mono HB3.out.size))
        have HX6 := Lib.hid (show Strs w6 a6 M X by rw [← HM.out] at ho6 ⊢; exact strs_of_own ho6)
        have HK6 := Lib.hid (show ∀ W, Below w6.heap.size w6 W → W.cell? ⟨g, o + I, none⟩ = some (.string s) from fun W hW => HCX.out _ (hb6.trans (hW.mono hb6.size)))
        clear ho6 hb6 HBR HS HBW EX HCX
        have hcx := HK6.out _ (Below.refl _ _)
        have HOWN := Lib.hid (show ∀ W, Below w6.heap.size w6 W → W.ownsRow wr.heap.size 9 1 (.slice a6 M c6) M (X.map Value.string) from fun W hW => own_below HO6.out hW)
        have hsR : R.size ≤ maxLen := by rw [hrP]; decide
        have FV1 := Lib.hid (show ∀ W a8 c8, Strs W a8 (M + 1) (X ++ [R]) → M + 1 ≤ c8 → c8 ≤ maxLen → Below w6.heap.size w6 W →
            Calls Tryd.prog 29 #[.string R, .int .i64 N, .int .i64 I, .string s, .slice a8 (M + 1 : Nat) c8] W fun e w' => e = .returned (.bool false) ∧ Below W.heap.size W w' from fun W a8 c8 hs8 h1 h2 hb8 => by
          refine (verify_any R N I (by omega) (by omega) s (by omega) a8 (M + 1) c8 (X ++ [R]) (by omega) W hs8 (fun x hx => ?_) (HT.out _ (HBR6.out.trans (hb8.mono HBR6.out.size)))).mono ?_
          · rcases List.mem_append.1 hx with h | h
            · exact HX.out x h
            · rw [List.mem_singleton.1 h]; exact hsR
          · rintro e w' ⟨rfl, hb⟩
            exact ⟨by rw [HVF2.out _ (by rw [hs8.1]; omega)], hb⟩)
        go_upto_region 16 with fail
        go_cut [13] from 97 to 111 (fun s13 wx => s13 = .bool false ∧ Below w6.heap.size w6 wx)
        case first =>
          go_region_held3 (fun w' => w'.cell? ⟨g, o + I, none⟩ = some (.string s))
            (first
              | exact HK6.out _ hB9
              | exact HK6.out _ (Below.refl _ _).drew
              | exact HK6.out _ ((Below.refl _ _).alloc (Nat.le_refl _) _).drew
              | exact HK6.out _ (((Below.refl _ _).alloc (Nat.le_refl _) _).alloc (by simp) _).drew
              | exact HK6.out _ hB7
              | exact HK6.out _ (hB7.alloc hB7.size _)
              | exact HK6.out _ hB8
              | go_keep)
            (first
              | (refine step_strs (by rfl) _ _ (by rfl) w6.heap.size _ 0 [] (by rfl) ((lit0 w6).drew) wr.heap.size _ M X (by rfl) (HOWN.out _ ((Below.refl _ _).alloc (Nat.le_refl _) _).drew) (by omega) (by simp) ?_; intro v7 w7 hown7 hg7; have hB7 : Below w6.heap.size w6 w7 := (((Below.refl _ _).alloc (Nat.le_refl _) _).drew).grown hg7 (by simp) (by intro k hk; simp [Value.ownBlock] at hk; omega))
              | (refine step_strs (by rfl) _ _ (by rfl) w6.heap.size _ 0 [] (by rfl) (((lit0 w6).alloc _).drew) wr.heap.size _ M X (by rfl) (HOWN.out _ (((Below.refl _ _).alloc (Nat.le_refl _) _).alloc (by simp) _).drew) (by omega) (by simp; omega) ?_; intro v7 w7 hown7 hg7; have hB7 : Below w6.heap.size w6 w7 := ((((Below.refl _ _).alloc (Nat.le_refl _) _).alloc (by simp) _).drew).grown hg7 (by simp; omega) (by intro k hk; simp [Value.ownBlock] at hk; omega); have hone7 : w7.ownsRow w6.heap.size 9 1 (.slice (some ⟨w6.heap.size + 1, 0, none⟩) 1 1) 1 [.string R] := (own_mono (by have h := own_one (w6.alloc (.cells #[] 9)) R; rw [show (w6.alloc (Obj.cells #[] 9)).heap.size = w6.heap.size + 1 by simp] at h; exact h.drew) (by omega)).kept hg7 (by simp [Value.ownBlock]))
              | (refine step_strs (by rfl) _ _ (by rfl) w6.heap.size _ 0 [] (by rfl) ((lit1 w6 R).drew) wr.heap.size _ M X (by rfl) (HOWN.out _ (((Below.refl _ _).alloc (Nat.le_refl _) _).alloc (by simp) _).drew) (by omega) (by simp; omega) ?_; intro v7 w7 hown7 hg7; have hB7 : Below w6.heap.size w6 w7 := ((((Below.refl _ _).alloc (Nat.le_refl _) _).alloc (by simp) _).drew).grown hg7 (by simp; omega) (by intro k hk; simp [Value.ownBlock] at hk; omega); have hone7 : w7.ownsRow w6.heap.size 9 1 (.slice (some ⟨w6.heap.size, 0, none⟩) 1 1) 1 [.string R] := (((own_one w6 R).alloc _).drew).kept hg7 (by simp [Value.ownBlock]))
              | (refine step_strs (by rfl) _ _ (by rfl) w6.heap.size _ _ _ (by rfl) hown7 w6.heap.size _ 1 [R] (by rfl) hone7 (by omega) hB7.size ?_; intro v8 w8 hown8 hg8; have hB8 : Below w6.heap.size w6 w8 := hB7.grown hg8 hB7.size (own_lt hown7); obtain ⟨a8, c8, rfl, q1, q2, hs8⟩ := strs_snoc hown8 HM.out)
              | (refine step_strs (by rfl) _ _ (by rfl) w6.heap.size _ _ _ (by rfl) (hown7.alloc _) w7.heap.size _ 1 [R] (by rfl) (own_one w7 R) (by omega) (by have := hB7.size; simp; omega) ?_; intro v8 w8 hown8 hg8; have hB8 : Below w6.heap.size w6 w8 := (hB7.alloc hB7.size _).grown hg8 (by have := hB7.size; simp; omega) (own_lt hown7); obtain ⟨a8, c8, rfl, q1, q2, hs8⟩ := strs_snoc hown8 HM.out)
              | (go_at_call 29; (with_reducible refine (FV1.out _ _ _ hs8 q1 q2 hB8).mono ?_); rintro e w9 ⟨rfl, hb9⟩; have hB9 := hB8.trans (hb9.mono hB8.size)))
          all_goals go_wp2_with fail
          all_goals go_meet
          all_goals exact ⟨rfl, hB9⟩
        case rest =>
          obtain ⟨rfl, hB9⟩ := hcut
          have HB9 := Lib.hid hB9
          have HK9 := Lib.hid (show ∀ W, Below wc.heap.size wc W → W.cell? ⟨g, o + I, none⟩ = some (.string s) from fun W hW => HK6.out _ (hB9.trans (hW.mono hB9.size)))
          have hcx9 := HK9.out _ (Below.refl _ _)
          clear hB9 hcx
          by_cases hM0 : M = 0
          · subst hM0
            go_wp2_with fail
            go_quiet (fail)
            go_wp2
            go_ret
            exact ⟨rfl, below_drewN (HBR6.out.trans (HB9.out.mono HBR6.out.size)) _⟩
          · have hMp : (0 : Int) < M := by omega
            have hMn : 0 < M := by omega
            obtain ⟨g6, o6, rfl, hg6, _⟩ := strs_out HX6.out (show 0 < M by omega)
            obtain ⟨al7, hcut7, hst7⟩ := cut_tail_strs HX6.out (by omega) hlc6
            have HS7 := Lib.hid hst7
            clear hst7
            have FV2 := Lib.hid (show ∀ W, Below w6.heap.size w6 W →
                Calls Tryd.prog 29 #[.string R, .int .i64 N, .int .i64 I, .string s, .slice al7 (M - 1) (c6 - 1)] W fun e w' => e = .returned (.bool false) ∧ Below W.heap.size W w' from fun W hb8 => by
              refine (verify_any R N I (by omega) (by omega) s (by omega) al7 (M - 1) (c6 - 1) (X.drop 1) (by omega) W (HS7.out.below hb8) (fun x hx => HX.out x (List.mem_of_mem_drop hx)) (HT.out _ (HBR6.out.trans (hb8.mono HBR6.out.size)))).mono ?_
              rintro e w' ⟨rfl, hb⟩
              exact ⟨by rw [HVF2.out _ (by rw [HS7.out.1]; omega)], hb⟩)
            have hbd : Below w6.heap.size w6 wc.drew := HB9.out.drew
            go_wp2_with fail
            go_region_held3 (fun w' => w'.cell? ⟨g, o + I, none⟩ = some (.string s))
              (first
                | exact HK9.out _ (Below.refl _ _).drew
                | exact HK6.out _ hB11
                | go_keep)
              (first
                | (go_at_call 29; (with_reducible refine (FV2.out _ hbd).mono ?_); rintro e w11 ⟨rfl, hb11⟩; have hB11 := hbd.trans (hb11.mono hbd.size)))
            all_goals go_wp2_with fail
            all_goals go_ret
            all_goals exact ⟨rfl, HBR6.out.trans (hB11.mono HBR6.out.size)⟩
      · have hbad : i < 0 ∨ (N : Int) ≤ i := by omega
        have HV := Lib.hid (show verS R N i ⟨#[]⟩ [] = false by
          unfold verS
          rcases hbad with h | h
          · simp [show ¬ 0 ≤ i by omega]
          · simp [show ¬ i < N by omega])
        have HSN := Lib.hid (show Strs wr none 0 [] from ⟨rfl, .inl rfl⟩)
        go_wp2_with fail
        refine (proof_bad a3 N c3 i hbad wr).mono ?_
        rintro e w6 ⟨rfl, rfl⟩
        by_cases hneg : i < 0
        · have hn0 : ¬ (0 ≤ i) := by omega
          clear hin hbad
          go_wp2_with fail
          refine (verify_any R N i (by omega) hi0 ⟨#[]⟩ (by decide) none 0 0 [] (by omega) wr HSN.out (by simp) (HT.out _ HBW.out)).mono ?_
          rw [HV.out]
          rintro e w9 ⟨rfl, hb9⟩
          have HBF := Lib.hid (HBW.out.trans (hb9.mono HBW.out.size))
          clear hb9
          go_wp2_with fail
          go_ret
          exact ⟨rfl, HBF.out⟩
        · have hn0 : 0 ≤ i := by omega
          have hn1 : decide (i < (N : Int)) = false := by simp; omega
          clear hin hbad
          go_wp2_with fail
          refine (verify_any R N i (by omega) hi0 ⟨#[]⟩ (by decide) none 0 0 [] (by omega) wr HSN.out (by simp) (HT.out _ HBW.out)).mono ?_
          rw [HV.out]
          rintro e w9 ⟨rfl, hb9⟩
          have HBF := Lib.hid (HBW.out.trans (hb9.mono HBW.out.size))
          clear hb9
          go_wp2_with fail
          go_ret
          exact ⟨rfl, HBF.out⟩
end Go.Proofs.YtiilkjonbfllfaaDoor
