/- The walk of DigestExtensionBinding. -/
import Derived.Test.YtiilkjonbfllfaaDoorSid
import Derived.Test.YtiilkjonbfllfaaDoorBinW
namespace Go.Proofs.YtiilkjonbfllfaaDoor
open Go.RowKit

theorem vex_two {a b r : ByteArray} {m n : Int} {p q : List ByteArray} (h1 : vexS a m r n p = true) (h2 : vexS b m r n q = true) (hne : a ≠ b) :
    1 ≤ m ∧ m ≤ n ∧ a.size = 32 ∧ b.size = 32 := by
  unfold vexS at h1 h2
  simp only [Bool.and_eq_true, decide_eq_true_eq, beq_iff_eq] at h1 h2
  obtain ⟨⟨⟨⟨⟨a1, a2⟩, a3⟩, a4⟩, a5⟩, a6⟩ := h1
  obtain ⟨⟨⟨⟨_, b3⟩, b4⟩, _⟩, b6⟩ := h2
  by_cases h0 : m = 0
  · rw [if_pos h0] at a6 b6
    simp only [Bool.and_eq_true, decide_eq_true_eq] at a6 b6
    exact absurd (a6.2.trans b6.2.symm) hne
  · exact ⟨by omega, a2, a4, b4⟩

set_option maxRecDepth 100000 in
set_option maxHeartbeats 4000000 in
theorem extb_walk (a b root : ByteArray) (ha : a.size ≤ maxLen) (hb : b.size ≤ maxLen) (hr : root.size ≤ maxLen) (m n : Int) (hm0 : -9223372036854775808 ≤ m) (hn : n ≤ 9223372036854775807) (al1 al2 : Option Addr) (n1 n2 c1 c2 : Nat) (ss1 ss2 : List ByteArray) (hm1 : n1 ≤ maxLen) (hm2 : n2 ≤ maxLen)
    (hw1 : ∀ s ∈ ss1, s.size ≤ maxLen) (hw2 : ∀ s ∈ ss2, s.size ≤ maxLen) (w : World) (hT : Tab w)
    (hr1 : n1 = 0 ∨ ∃ b o, al1 = some ⟨b, o, none⟩ ∧ ∀ i, i < n1 → w.cell? ⟨b, o + i, none⟩ = some (.string (ss1.getD i ByteArray.empty)))
    (hr2 : n2 = 0 ∨ ∃ b o, al2 = some ⟨b, o, none⟩ ∧ ∀ i, i < n2 → w.cell? ⟨b, o + i, none⟩ = some (.string (ss2.getD i ByteArray.empty))) :
    Calls Tryd.prog 10 #[.string a, .slice al1 n1 c1, .string b, .slice al2 n2 c2, .int .i64 m, .string root, .int .i64 n] w fun e w' => e = .returned (.bool true) ∧ Below w.heap.size w w' := by
  obtain ⟨ps, hps, hpz⟩ := strs_arg hw1 hr1
  obtain ⟨qs, hqs, hqz⟩ := strs_arg hw2 hr2
  clear hr1 hr2 hw1 hw2
  have hz : 0 < w.heap.size := hT.1
  have HT := Lib.hid (fun W (hB : Below w.heap.size w W) => hT.below hB hz)
  have HP := Lib.hid hps; have HQ := Lib.hid hqs; have HPZ := Lib.hid hpz; have HQZ := Lib.hid hqz; have HT0 := Lib.hid hT
  have hPl : (fewL ps 70).length ≤ 70 := by rw [fewL_length]; omega
  have hQl : (fewL qs 70).length ≤ 70 := by rw [fewL_length]; omega
  have HPS := Lib.hid (fewL_size ps 70); have HQS := Lib.hid (fewL_size qs 70)
  have FP := Lib.hid (fun W hW => few_any al1 n1 c1 70 ps (by omega) hm1 W hW HPZ.out)
  have FQ := Lib.hid (fun W hW => few_any al2 n2 c2 70 qs (by omega) hm2 W hW HQZ.out)
  clear hps hqs hpz hqz hT
  generalize fewL ps 70 = P at *
  generalize fewL qs 70 = Q at *
  go_enter Tryd.func10, Tryd.ntmps10
  go_wp2_with fail
  refine (sane_any _ HT0.out).mono ?_
  rintro e w1 ⟨rfl, hb1⟩
  have HB1 := Lib.hid hb1; clear hb1
  go_wp2_with fail
  refine (FP.out _ (HP.out.below HB1.out)).mono ?_
  rintro e w2 ⟨v2, rfl, a3, c3, rfl, hlc3, hc3, ho3, hb2⟩
  have HB2 := Lib.hid (HB1.out.trans (hb2.mono HB1.out.size)); have HO3 := Lib.hid (strs_of_own ho3)
  clear ho3 hb2
  go_wp2_with fail
  refine (FQ.out _ (HQ.out.below HB2.out)).mono ?_
  rintro e w3 ⟨v3, rfl, a4, c4, rfl, hlc4, hc4, ho4, hb3⟩
  have HB3 := Lib.hid (HB2.out.trans (hb3.mono HB2.out.size)); have HO4 := Lib.hid (strs_of_own ho4); have HO5 := Lib.hid (HO3.out.below hb3)
  clear ho4 hb3 HO3 HB1 HB2
  go_wp2_with fail
  refine (vex_any a root m n hm0 hn a3 P.length c3 P (by omega) hlc3 hc3 _ HO5.out (fun s hs => Nat.le_trans (HPS.out s hs) (by decide)) ha hr (HT.out _ HB3.out)).mono ?_
  cases hV1 : vexS a m root n P with
  | false =>
    rintro e w4 ⟨rfl, hb4⟩
    have HB4 := Lib.hid (HB3.out.trans (hb4.mono HB3.out.size)); have HO6 := Lib.hid (HO4.out.below hb4)
    clear hb4 hV1
    go_wp2_with fail
    refine (vex_any b root m n hm0 hn a4 Q.length c4 Q (by omega) hlc4 hc4 _ HO6.out (fun s hs => Nat.le_trans (HQS.out s hs) (by decide)) hb hr (HT.out _ HB4.out)).mono ?_
    rintro e w5 ⟨rfl, hb5⟩
    have HB5 := Lib.hid (HB4.out.trans (hb5.mono HB4.out.size))
    clear hb5
    go_wp2_with fail
    go_ret
    exact ⟨rfl, HB5.out⟩
  | true =>
    have HV1 := Lib.hid hV1; clear hV1
    rintro e w4 ⟨rfl, hb4⟩
    have HB4 := Lib.hid (HB3.out.trans (hb4.mono HB3.out.size)); have HO6 := Lib.hid (HO4.out.below hb4); have HO7 := Lib.hid (HO5.out.below hb4)
    clear hb4 HO4 HO5
    go_wp2_with fail
    refine (vex_any b root m n hm0 hn a4 Q.length c4 Q (by omega) hlc4 hc4 _ HO6.out (fun s hs => Nat.le_trans (HQS.out s hs) (by decide)) hb hr (HT.out _ HB4.out)).mono ?_
    cases hV2 : vexS b m root n Q with
    | false =>
      rintro e w5 ⟨rfl, hb5⟩
      have HB5 := Lib.hid (HB4.out.trans (hb5.mono HB4.out.size))
      clear hb5 hV2
      go_wp2_with fail
      go_ret
      exact ⟨rfl, HB5.out⟩
    | true =>
      have HV2 := Lib.hid hV2; clear hV2
      rintro e w5 ⟨rfl, hb5⟩
      have HB5 := Lib.hid (HB4.out.trans (hb5.mono HB4.out.size)); have HO8 := Lib.hid (HO6.out.below hb5); have HO9 := Lib.hid (HO7.out.below hb5)
      clear hb5 HO6 HO7
      by_cases hne : a = b
      · have hh : (a.toList == b.toList) = true := by rw [str_eq]; simpa using hne
        clear hne
        go_wp2_with fail
        go_ret
        exact ⟨rfl, HB5.out⟩
      · have hh : (a.toList == b.toList) = false := by rw [str_eq]; simpa using hne
        have HNE := Lib.hid hne; clear hne
        obtain ⟨q1, q2, q3, q4⟩ := vex_two HV1.out HV2.out HNE.out
        obtain ⟨M, rfl⟩ := Int.eq_ofNat_of_zero_le (show 0 ≤ m by omega)
        obtain ⟨N, rfl⟩ := Int.eq_ofNat_of_zero_le (show 0 ≤ n by omega)
        have hMN : M ≤ N := by omega
        have HC := Lib.hid (show collB (sidesR a M N P.reverse true).1 (sidesR b M N Q.reverse true).1 = true from vex_bind a b M root N P Q HV1.out HV2.out HNE.out)
        have l1 := sides_len a P.reverse M N true
        have l2 := sides_len b Q.reverse M N true
        rw [List.length_reverse] at l1 l2
        have W1 := Lib.hid (fun W hW hTW => sides_any P.reverse M N true a a3 P.length c3 P W (by rw [List.reverse_reverse]) hW (by omega) hlc3 hc3 HPS.out (by omega) (by omega) hMN (by omega) hTW)
        have W2 := Lib.hid (fun W hW hTW => sides_any Q.reverse M N true b a4 Q.length c4 Q W (by rw [List.reverse_reverse]) hW (by omega) hlc4 hc4 HQS.out (by omega) (by omega) hMN (by omega) hTW)
        have Z1 := Lib.hid (sides_texts a (by omega) P.reverse M N true (fun x hx => HPS.out x (List.mem_reverse.1 hx)))
        have Z2 := Lib.hid (sides_texts b (by omega) Q.reverse M N true (fun x hx => HQS.out x (List.mem_reverse.1 hx)))
        generalize sidesR a M N P.reverse true = A at *
        generalize sidesR b M N Q.reverse true = B at *
        obtain ⟨A1, A2⟩ := A
        obtain ⟨B1, B2⟩ := B
        dsimp only at HC l1 l2 W1 W2 Z1 Z2
        go_wp2_with fail
        refine (W1.out _ HO9.out (HT.out _ HB5.out)).mono ?_
        rintro e w6 ⟨v6, rfl, a6, c6, rfl, hlc6, hc6, ho6, hb6⟩
        have HB6 := Lib.hid (HB5.out.trans (hb6.mono HB5.out.size)); have HS6 := Lib.hid (strs_of_own ho6); have HOA := Lib.hid (HO8.out.below hb6)
        clear ho6 hb6 HO8 HO9
        go_wp2_with fail
        refine (W2.out _ HOA.out (HT.out _ HB6.out)).mono ?_
        rintro e w7 ⟨v7, rfl, a7, c7, rfl, hlc7, hc7, ho7, hb7⟩
        have HB7 := Lib.hid (HB6.out.trans (hb7.mono HB6.out.size)); have HS7 := Lib.hid (strs_of_own ho7); have HS8 := Lib.hid (HS6.out.below hb7)
        clear ho7 hb7 HOA HS6
        go_wp2_with fail
        refine (collide_any a6 a7 A1.length B1.length c6 c7 A1 B1 (by omega) (by omega) _ HS8.out HS7.out Z1.out Z2.out (HT.out _ HB7.out)).mono ?_
        rw [HC.out]
        rintro e w8 ⟨rfl, hb8⟩
        have HB8 := Lib.hid (HB7.out.trans (hb8.mono HB7.out.size))
        clear hb8
        go_wp2_with fail
        go_ret
        exact ⟨rfl, HB8.out⟩
end Go.Proofs.YtiilkjonbfllfaaDoor
