/- The walk of DigestSplit. -/
import Derived.Test.YtiilkjonbfllfaaDoorAt
import Derived.Deep.RegionHeld3
namespace Go.Proofs.YtiilkjonbfllfaaDoor
open Go.RowKit

theorem ext_texts (l : List ByteArray) (k : Nat) (hkl : k ≤ l.length) : ∀ x ∈ extS l k, x.size ≤ maxLen := by
  intro x hx
  unfold extS at hx
  by_cases h0 : k = 0
  · rw [if_pos h0] at hx; cases hx
  · rw [if_neg h0] at hx
    by_cases hk : k ≤ l.length
    · exact Nat.le_trans (Nat.le_of_eq (partR_32 _ l k true rfl (by omega) hk x (List.mem_reverse.1 hx))) (by decide)
    · exact absurd hk (by omega)

set_option maxRecDepth 100000 in
set_option maxHeartbeats 4000000 in
theorem split_walk (al1 : Option Addr) (n1 c1 : Nat) (ss1 : List ByteArray) (hm1 : n1 ≤ maxLen)
    (hw1 : ∀ s ∈ ss1, s.size ≤ maxLen) (s : ByteArray) (w : World) (hT : Tab w)
    (hr1 : n1 = 0 ∨ ∃ b o, al1 = some ⟨b, o, none⟩ ∧ ∀ i, i < n1 → w.cell? ⟨b, o + i, none⟩ = some (.string (ss1.getD i ByteArray.empty))) :
    Calls Tryd.prog 11 #[.slice al1 n1 c1, .string s] w fun e w' => e = .returned (.bool true) ∧ Below w.heap.size w w' := by
  obtain ⟨ps, hps, hpz⟩ := strs_arg hw1 hr1
  clear hr1 hw1
  obtain ⟨ks, hks1, hks2, hks3⟩ := cut_of s
  have hz : 0 < w.heap.size := hT.1
  have HT := Lib.hid (fun W (hB : Below w.heap.size w W) => hT.below hB hz)
  have HP := Lib.hid hps; have HPZ := Lib.hid hpz; have HT0 := Lib.hid hT
  have hPl : (fewL ps 40).length ≤ 40 := by rw [fewL_length]; omega
  have HPS := Lib.hid (fewL_size ps 40)
  have FP := Lib.hid (fun W hW => few_any al1 n1 c1 40 ps (by omega) hm1 W hW HPZ.out)
  have hS := cut60_size s
  clear hps hpz hT
  generalize fewL ps 40 = P at *
  generalize cut60 s = S at *
  go_enter Tryd.func11, Tryd.ntmps11
  go_wp2_with fail
  refine (sane_any _ HT0.out).mono ?_
  rintro e w1 ⟨rfl, hb1⟩
  have HB1 := Lib.hid hb1; clear hb1
  go_wp2_with fail
  refine (FP.out _ (HP.out.below HB1.out)).mono ?_
  rintro e w2 ⟨v2, rfl, a3, c3, rfl, hlc3, hc3, ho3, hb2⟩
  have HB2 := Lib.hid (HB1.out.trans (hb2.mono HB1.out.size))
  have HO0 := Lib.hid (strs_of_own ho3)
  have HOA := Lib.hid (own_below ho3 (show Below w2.heap.size w2 (w2.alloc (.cells #[] 9)) from (Below.refl _ _).alloc (Nat.le_refl _) _))
  have HBA := Lib.hid ((Below.refl w2.heap.size w2).alloc (Nat.le_refl _) (.cells #[] 9))
  have ho00 : (w2.alloc (.cells #[] 9)).ownsRow w2.heap.size 9 1 (.slice (some ⟨w2.heap.size, 0, none⟩) 0 0) 0 (([] : List ByteArray).map Value.string) :=
    ⟨rfl, .inr ⟨w2.heap.size, 0, #[], rfl, Nat.le_refl _, heap_new' _ _ _ rfl, Nat.le_refl _, by decide, rfl, rfl⟩⟩
  have HO00 := Lib.hid ho00
  clear ho3 hb2 ho00
  go_wp2_with (first
    | (at_builtin; refine wpList_append_strs rfl _ _ rfl w2.heap.size _ 0 _ (by rfl) HO00.out w1.heap.size _ P.length P rfl HOA.out (by omega) HBA.out.size HBA.out ?_; intro v4 w4 hown4 hb4; have HO4 := Lib.hid hown4; have HB4 := Lib.hid hb4; clear hown4 hb4)
    | (at_builtin; refine wpList_append_strs rfl _ _ rfl w2.heap.size _ _ _ (by rfl) (own_below HO4.out (show Below w4.heap.size w4 (w4.alloc (.cells #[.string S] 9)) from (Below.refl _ _).alloc (Nat.le_refl _) _)) w4.heap.size _ 1 [S] rfl (own_one w4 S) (by omega) (HB4.out.alloc HB4.out.size _).size (HB4.out.alloc HB4.out.size _) ?_; intro v5 w5 hown5 hb5; have HO5 := Lib.hid hown5; have HB5 := Lib.hid hb5; clear hown5 hb5))
  obtain ⟨M, hM⟩ : ∃ M, P ++ [S] = M := ⟨_, rfl⟩
  have hMl : M.length = P.length + 1 := by rw [← hM]; simp
  obtain ⟨N, hN⟩ : ∃ N, M.length = N := ⟨_, rfl⟩
  have HNM := Lib.hid hN
  have HN1 := Lib.hid (show N = P.length + 1 by omega)
  have hPN : P.length ≤ N := by omega
  have hN41 : N ≤ 41 := by omega
  have hO6 : w5.ownsRow w2.heap.size 9 1 v5 N (M.map Value.string) := by
    have h := HO5.out
    rw [show 0 + P.length + 1 = N from by have := HN1.out; omega, show (List.map Value.string [] ++ List.map Value.string P) ++ List.map Value.string [S] = List.map Value.string M by rw [← hM]; simp] at h
    exact h
  have HMP := Lib.hid (show M.take P.length = P by rw [← hM]; simp)
  have HM0 := Lib.hid (show P.length = 0 → P = [] ∧ M = [S] from fun h => by
    have := List.eq_nil_of_length_eq_zero h
    exact ⟨this, by rw [← hM, this]; rfl⟩)
  have HMS := Lib.hid (show ∀ x ∈ M, x.size ≤ 60 from fun x hx => by
    rw [← hM] at hx
    rcases List.mem_append.1 hx with h | h
    · exact HPS.out x h
    · rw [List.mem_singleton.1 h]; exact hS)
  obtain ⟨al5, c5, rfl, r1, r2⟩ := own_form hO6
  have hSM : Strs w5 al5 N M := by rw [← hN] at hO6 ⊢; exact strs_of_own hO6
  clear hN hMl
  obtain ⟨g, o, rfl, _, _⟩ := strs_out hSM (show 0 < N by have := HN1.out; omega)
  have HSM := Lib.hid hSM
  have HSP := Lib.hid (HO0.out.below HB5.out)
  have HBW := Lib.hid (HB2.out.trans (HB5.out.mono HB2.out.size))
  clear hM hO6 hSM HO0 HOA HBA HO00 HO4 HB4 HO5 HB5 HB1 HB2
  have HV := Lib.hid (vex_ext M P.length (by rw [HNM.out]; exact hPN))
  rw [HMP.out, HNM.out] at HV
  have hrP := root_size P
  have hrM := root_size M
  have HXL := Lib.hid (ext_len M P.length (by rw [HNM.out]; exact hPN))
  rw [HNM.out] at HXL
  have HDL := digits_le N
  refine (ext_at (some ⟨g, o, none⟩) N c5 M (by omega) r1 r2 w5 HSM.out (fun x hx => Nat.le_trans (HMS.out x hx) (by decide)) (HT.out _ HBW.out) P.length (by omega)).mono ?_
  rintro e w6 ⟨v6, rfl, a6, c6, rfl, hlc6, hc6, ho6, hb6⟩
  have HX := Lib.hid (strs_of_own ho6); have HBW6 := Lib.hid (HBW.out.trans (hb6.mono HBW.out.size)); have HSM6 := Lib.hid (HSM.out.below hb6); have HSP6 := Lib.hid (HSP.out.below hb6)
  have HXS := Lib.hid (show ∀ x ∈ extS M P.length, x.size ≤ maxLen from ext_texts M P.length (by rw [HNM.out]; exact hPN))
  clear ho6 hb6 HSM HSP HBW
  have hxl : (extS M P.length).length ≤ 82 := by have := HXL.out; omega
  generalize extS M P.length = X at *
  go_wp2_with fail
  refine (root_at a3 P.length c3 P w6 HSP6.out (by omega) hlc3 hc3 (fun x hx => Nat.le_trans (HPS.out x hx) (by decide)) (HT.out _ HBW6.out)).mono ?_
  rintro e w7 ⟨rfl, hb7⟩
  have HBW7 := Lib.hid (HBW6.out.trans (hb7.mono HBW6.out.size)); have HSM7 := Lib.hid (HSM6.out.below hb7); have HSP7 := Lib.hid (HSP6.out.below hb7); have HX7 := Lib.hid (HX.out.below hb7)
  clear hb7 HSM6 HSP6 HBW6 HX
  go_wp2_with fail
  refine (root_at (some ⟨g, o, none⟩) N c5 M w7 HSM7.out (by omega) r1 r2 (fun x hx => Nat.le_trans (HMS.out x hx) (by decide)) (HT.out _ HBW7.out)).mono ?_
  rintro e w8 ⟨rfl, hb8⟩
  have HBW8 := Lib.hid (HBW7.out.trans (hb8.mono HBW7.out.size)); have HSM8 := Lib.hid (HSM7.out.below hb8); have HSP8 := Lib.hid (HSP7.out.below hb8); have HX8 := Lib.hid (HX7.out.below hb8)
  clear hb8 HSM7 HSP7 HBW7 HX7
  go_wp2_with fail
  refine (vex_any (root P) (root M) P.length N (by omega) (by omega) a6 X.length c6 X (by omega) hlc6 hc6 w8 HX8.out HXS.out (by rw [hrP]; decide) (by rw [hrM]; decide) (HT.out _ HBW8.out)).mono ?_
  rw [HV.out]
  rintro e w9 ⟨rfl, hb9⟩
  have HBW9 := Lib.hid (HBW8.out.trans (hb9.mono HBW8.out.size)); have HSM9 := Lib.hid (HSM8.out.below hb9); have HSP9 := Lib.hid (HSP8.out.below hb9)
  clear hb9 HSM8 HSP8 HBW8 HX8
  by_cases hP0 : P.length = 0
  · obtain ⟨e1, e2⟩ := HM0.out hP0
    have hp0 : ((P.length : Int) == 0) = true := by rw [hP0]; rfl
    have HRM := Lib.hid (show root M = leaf S by rw [e2]; rfl)
    have HRP := Lib.hid (show root P = dg ⟨#[]⟩ by rw [e1]; rfl)
    clear e1 e2 hP0
    go_wp2_with fail
    refine (root_at (some ⟨g, o, none⟩) N c5 M w9 HSM9.out (by omega) r1 r2 (fun x hx => Nat.le_trans (HMS.out x hx) (by decide)) (HT.out _ HBW9.out)).mono ?_
    rintro e w10 ⟨rfl, hb10⟩
    have HBW10 := Lib.hid (HBW9.out.trans (hb10.mono HBW9.out.size)); have HSP10 := Lib.hid (HSP9.out.below hb10)
    clear hb10
    go_wp2_with fail
    refine (leaf_any S (by omega) w10 (HT.out _ HBW10.out)).mono ?_
    rw [HRM.out]
    rintro e w11 ⟨rfl, hb11⟩
    have HBW11 := Lib.hid (HBW10.out.trans (hb11.mono HBW10.out.size)); have HSP11 := Lib.hid (HSP10.out.below hb11)
    clear hb11
    have hee : ((leaf S).toList == (leaf S).toList) = true := by simp
    go_wp2_with fail
    refine (root_at a3 P.length c3 P w11 HSP11.out (by omega) hlc3 hc3 (fun x hx => Nat.le_trans (HPS.out x hx) (by decide)) (HT.out _ HBW11.out)).mono ?_
    rw [HRP.out]
    rintro e w12 ⟨rfl, hb12⟩
    have HBW12 := Lib.hid (HBW11.out.trans (hb12.mono HBW11.out.size))
    clear hb12
    go_wp2_with fail
    refine (sum_any ⟨#[]⟩ (by decide) w12 (HT.out _ HBW12.out)).mono ?_
    rintro e w13 ⟨rfl, hb13⟩
    have HBW13 := Lib.hid (HBW12.out.trans (hb13.mono HBW12.out.size))
    clear hb13
    have hee2 : ((dg ⟨#[]⟩).toList == (dg ⟨#[]⟩).toList) = true := by simp
    go_wp2_with fail
    go_ret
    exact ⟨rfl, HBW13.out⟩
  · have hp0 : ((P.length : Int) == 0) = false := by rw [beq_eq_false_iff_ne]; omega
    have h2 : 2 ≤ N := by have := HN1.out; omega
    have HSPL := Lib.hid (root_split M (by rw [HNM.out]; exact h2))
    rw [HNM.out] at HSPL
    have hlt := half_lt h2
    have hh0 := half_pos N
    have LA := Lib.hid (left_any N h2 (by omega))
    clear hP0
    obtain ⟨k, hk⟩ : ∃ k, half N = k := ⟨_, rfl⟩
    rw [hk] at HSPL hlt hh0 LA
    clear hk
    have hcut1 := run_cut_to (P := Tryd.prog) 26 9 1 Tryd.underlying26 (by kernel_rfl) (some ⟨g, o, none⟩) N c5 k (by omega)
    have hcut2 := run_cut_from (P := Tryd.prog) 26 9 1 Tryd.underlying26 (by kernel_rfl) g o N c5 k (by omega) (by omega)
    go_wp2_with fail
    refine (LA.out w9).mono ?_
    rintro e w10 ⟨rfl, rfl⟩
    have FR1 := Lib.hid (fun W (hW : Below w9.heap.size w9 W) => root_at (some ⟨g, o, none⟩) N c5 M W (HSM9.out.below hW) (by omega) r1 r2 (fun x hx => Nat.le_trans (HMS.out x hx) (by decide)) (HT.out _ (HBW9.out.trans (hW.mono HBW9.out.size))))
    have FR2 := Lib.hid (fun W (hW : Below w9.heap.size w9 W) => root_at (some ⟨g, o, none⟩) k c5 (M.take k) W ((HSM9.out.take (by omega)).below hW) (by omega) (by omega) r2 (fun x hx => Nat.le_trans (HMS.out x (List.mem_of_mem_take hx)) (by decide)) (HT.out _ (HBW9.out.trans (hW.mono HBW9.out.size))))
    have FR3 := Lib.hid (fun W (hW : Below w9.heap.size w9 W) => root_at (some ⟨g, o + k * 1, none⟩) (N - k) (c5 - k) (M.drop k) W ((strs_drop HSM9.out (by omega)).below hW) (by omega) (by omega) (by omega) (fun x hx => Nat.le_trans (HMS.out x (List.mem_of_mem_drop hx)) (by decide)) (HT.out _ (HBW9.out.trans (hW.mono HBW9.out.size))))
    have FN := Lib.hid (fun W (hW : Below w9.heap.size w9 W) => node_any (root (M.take k)) (root (M.drop k)) (by rw [root_size]; decide) (by rw [root_size]; decide) W (HT.out _ (HBW9.out.trans (hW.mono HBW9.out.size))))
    have BD := Lib.hid (show Below w9.heap.size w9 w9.drew from (Below.refl _ _).drew)
    rw [Nat.mul_one] at FR3 hcut2
    go_wp2_with fail
    go_region_held3 (fun _ => True)
      (trivial)
      (first
        | (go_at_call 27; (with_reducible refine (FR1.out _ BD.out).mono ?_); rintro e y1 ⟨rfl, hy1⟩; have hB1 := below1 BD.out hy1)
        | (go_at_call 27; (with_reducible refine (FR2.out _ hB1).mono ?_); rintro e y2 ⟨rfl, hy2⟩; have hB2 := below1 hB1 hy2)
        | (go_at_call 27; (with_reducible refine (FR3.out _ hB2).mono ?_); rintro e y3 ⟨rfl, hy3⟩; have hB3 := below1 hB2 hy3)
        | (go_at_call 17; (with_reducible refine (FN.out _ hB3).mono ?_); rintro e y4 ⟨rfl, hy4⟩; have hB4 := below1 hB3 hy4))
    all_goals go_wp2_with fail
    all_goals go_ret
    all_goals exact ⟨by rw [HSPL.out]; simp, HBW9.out.trans (hB4.mono HBW9.out.size)⟩
end Go.Proofs.YtiilkjonbfllfaaDoor
