/- The walk of DigestBinding. -/
import Derived.Test.YtiilkjonbfllfaaDoorWay
namespace Go.Proofs.YtiilkjonbfllfaaDoor
open Go.RowKit

/-- A slice of texts that came in, as a list of its length. -/
theorem strs_arg {w : World} {al : Option Addr} {n : Nat} {ss : List ByteArray} (hw : ∀ s ∈ ss, s.size ≤ maxLen)
    (h : n = 0 ∨ ∃ b o, al = some ⟨b, o, none⟩ ∧ ∀ i, i < n → w.cell? ⟨b, o + i, none⟩ = some (.string (ss.getD i ByteArray.empty))) :
    ∃ ps, Strs w al n ps ∧ ∀ s ∈ ps, s.size ≤ maxLen := by
  refine ⟨(List.range n).map fun i => ss.getD i ByteArray.empty, ⟨by simp, ?_⟩, ?_⟩
  · rcases h with h | ⟨b, o, e, hc⟩
    · exact .inl h
    · rcases Nat.eq_zero_or_pos n with h0 | h0
      · exact .inl h0
      · refine .inr ⟨b, o, e, block_lt_of_cell (hc 0 h0), fun i hi => ?_⟩
        rw [hc i hi, List.getD_eq_getElem?_getD (l := List.map _ _), List.getElem?_map, List.getElem?_range hi]; rfl
  · intro s hs
    obtain ⟨i, _, rfl⟩ := List.mem_map.1 hs
    rw [List.getD_eq_getElem?_getD]
    cases he : ss[i]? with
    | none => exact Nat.zero_le _
    | some x => exact hw _ (List.mem_of_getElem? he)
theorem cut_of (s : ByteArray) : ∃ k : Nat, min (s.size : Int) 60 = k ∧ (k : Int) ≤ s.size ∧ s.extract 0 k = cut60 s := ⟨min s.size 60, by omega, by omega, rfl⟩
theorem ver_range {r : ByteArray} {n i : Int} {s : ByteArray} {p : List ByteArray} (h : verS r n i s p = true) : 0 ≤ i ∧ i < n := by
  unfold verS at h
  simp only [Bool.and_eq_true, decide_eq_true_eq] at h
  exact h.1.1.1

theorem node_text {a b : ByteArray} (ha : a.size ≤ 60) (hb : b.size ≤ 60) : (nodeB a b).size ≤ 800000 := by
  unfold nodeB; rw [size_app, size_app]; show 1 + a.size + b.size ≤ _; omega
theorem way_texts : ∀ (q : List ByteArray) (n i : Nat) (s : ByteArray), s.size ≤ 60 → (∀ x ∈ q, x.size ≤ 60) → ∀ x ∈ (wayR n i s q).1, x.size ≤ 800000
  | [], n, i, s, hs, _, x, hx => by
    rw [wayR] at hx
    obtain rfl := List.mem_singleton.1 hx
    unfold leafB; rw [size_app]; show 1 + s.size ≤ _; omega
  | y :: q, n, i, s, hs, hq, x, hx => by
    rw [wayR] at hx
    by_cases h : n ≤ 1
    · rw [if_pos h] at hx
      obtain rfl := List.mem_singleton.1 hx
      unfold leafB; rw [size_app]; show 1 + s.size ≤ _; omega
    · rw [if_neg h] at hx
      have hy := hq y (List.mem_cons_self ..)
      have hq' := fun z hz => hq z (List.mem_cons_of_mem y hz)
      by_cases hk : i < half n
      · rw [if_pos hk] at hx
        have h32 := way_size q (half n) i s
        rcases List.mem_cons.1 hx with rfl | hx
        · exact node_text (by omega) hy
        · exact way_texts q _ _ s hs hq' x hx
      · rw [if_neg hk] at hx
        have h32 := way_size q (n - half n) (i - half n) s
        rcases List.mem_cons.1 hx with rfl | hx
        · exact node_text hy (by omega)
        · exact way_texts q _ _ s hs hq' x hx

set_option maxRecDepth 100000 in
set_option maxHeartbeats 4000000 in
theorem binding_walk (root : ByteArray) (n i : Int) (hn : n ≤ 9223372036854775807) (hi : -9223372036854775808 ≤ i) (s t : ByteArray) (al1 al2 : Option Addr) (n1 n2 c1 c2 : Nat) (ss1 ss2 : List ByteArray) (hm1 : n1 ≤ maxLen) (hm2 : n2 ≤ maxLen)
    (hw1 : ∀ s ∈ ss1, s.size ≤ maxLen) (hw2 : ∀ s ∈ ss2, s.size ≤ maxLen) (w : World) (hT : Tab w)
    (hr1 : n1 = 0 ∨ ∃ b o, al1 = some ⟨b, o, none⟩ ∧ ∀ i, i < n1 → w.cell? ⟨b, o + i, none⟩ = some (.string (ss1.getD i ByteArray.empty)))
    (hr2 : n2 = 0 ∨ ∃ b o, al2 = some ⟨b, o, none⟩ ∧ ∀ i, i < n2 → w.cell? ⟨b, o + i, none⟩ = some (.string (ss2.getD i ByteArray.empty))) :
    Calls Tryd.prog 8 #[.string root, .int .i64 n, .int .i64 i, .string s, .slice al1 n1 c1, .string t, .slice al2 n2 c2] w fun e w' => e = .returned (.bool true) ∧ Below w.heap.size w w' := by
  obtain ⟨ps, hps, hpz⟩ := strs_arg hw1 hr1
  obtain ⟨qs, hqs, hqz⟩ := strs_arg hw2 hr2
  clear hr1 hr2 hw1 hw2
  obtain ⟨ks, hks1, hks2, hks3⟩ := cut_of s
  obtain ⟨kt, hkt1, hkt2, hkt3⟩ := cut_of t
  have hz : 0 < w.heap.size := hT.1
  have HT := Lib.hid (fun W (hB : Below w.heap.size w W) => hT.below hB hz)
  have HP := Lib.hid hps; have HQ := Lib.hid hqs; have HPZ := Lib.hid hpz; have HQZ := Lib.hid hqz; have HKS := Lib.hid hks3; have HKT := Lib.hid hkt3; have HT0 := Lib.hid hT
  have hPl : (fewL ps 70).length ≤ 70 := by rw [fewL_length]; omega
  have hQl : (fewL qs 70).length ≤ 70 := by rw [fewL_length]; omega
  have HPS := Lib.hid (fewL_size ps 70); have HQS := Lib.hid (fewL_size qs 70)
  have hS := cut60_size s
  have hU := cut60_size t
  have FP := Lib.hid (fun W hW => few_any al1 n1 c1 70 ps (by omega) hm1 W hW HPZ.out)
  have FQ := Lib.hid (fun W hW => few_any al2 n2 c2 70 qs (by omega) hm2 W hW HQZ.out)
  clear hps hqs hpz hqz hks3 hkt3 hT
  generalize fewL ps 70 = P at *
  generalize fewL qs 70 = Q at *
  generalize cut60 s = S at *
  generalize cut60 t = U at *
  go_enter Tryd.func8, Tryd.ntmps8
  go_wp2_with fail
  refine (sane_any _ HT0.out).mono ?_
  rintro e w1 ⟨rfl, hb1⟩
  have HB1 := Lib.hid hb1; clear hb1
  go_wp2_with fail
  refine (FP.out _ (HP.out.below HB1.out)).mono ?_
  rintro e w2 ⟨v2, rfl, a3, c3, rfl, hlc3, hc3, ho3, hb2⟩
  have HB2 := Lib.hid (HB1.out.trans (hb2.mono HB1.out.size)); have HO3 := Lib.hid (strs_of_own ho3)
  clear ho3 hb2
  go_wp2_with fail
  refine (FQ.out _ (HQ.out.below HB2.out)).mono ?_
  rintro e w3 ⟨v3, rfl, a4, c4, rfl, hlc4, hc4, ho4, hb3⟩
  have HB3 := Lib.hid (HB2.out.trans (hb3.mono HB2.out.size)); have HO4 := Lib.hid (strs_of_own ho4); have HO5 := Lib.hid (HO3.out.below hb3)
  clear ho4 hb3 HO3 HB1 HB2
  go_wp2_with fail
  rw [HKS.out, HKT.out]
  refine (verify_any root n i hn hi S (by omega) a3 P.length c3 P (by omega) _ HO5.out (fun s hs => Nat.le_trans (HPS.out s hs) (by decide)) (HT.out _ HB3.out)).mono ?_
  cases hV1 : verS root n i S P with
  | false =>
    rintro e w4 ⟨rfl, hb4⟩
    have HB4 := Lib.hid (HB3.out.trans (hb4.mono HB3.out.size)); have HO6 := Lib.hid (HO4.out.below hb4)
    clear hb4 hV1
    go_wp2_with fail
    refine (verify_any root n i hn hi U (by omega) a4 Q.length c4 Q (by omega) _ HO6.out (fun s hs => Nat.le_trans (HQS.out s hs) (by decide)) (HT.out _ HB4.out)).mono ?_
    rintro e w5 ⟨rfl, hb5⟩
    have HB5 := Lib.hid (HB4.out.trans (hb5.mono HB4.out.size))
    clear hb5
    go_wp2_with fail
    go_ret
    exact ⟨rfl, HB5.out⟩
  | true =>
    have HV1 := Lib.hid hV1; clear hV1
    rintro e w4 ⟨rfl, hb4⟩
    have HB4 := Lib.hid (HB3.out.trans (hb4.mono HB3.out.size)); have HO6 := Lib.hid (HO4.out.below hb4); have HO7 := Lib.hid (HO5.out.below hb4)
    clear hb4 HO4 HO5
    go_wp2_with fail
    refine (verify_any root n i hn hi U (by omega) a4 Q.length c4 Q (by omega) _ HO6.out (fun s hs => Nat.le_trans (HQS.out s hs) (by decide)) (HT.out _ HB4.out)).mono ?_
    cases hV2 : verS root n i U Q with
    | false =>
      rintro e w5 ⟨rfl, hb5⟩
      have HB5 := Lib.hid (HB4.out.trans (hb5.mono HB4.out.size))
      clear hb5 hV2
      go_wp2_with fail
      go_ret
      exact ⟨rfl, HB5.out⟩
    | true =>
      have HV2 := Lib.hid hV2; clear hV2
      rintro e w5 ⟨rfl, hb5⟩
      have HB5 := Lib.hid (HB4.out.trans (hb5.mono HB4.out.size)); have HO8 := Lib.hid (HO6.out.below hb5); have HO9 := Lib.hid (HO7.out.below hb5)
      clear hb5 HO6 HO7
      by_cases hne : S = U
      · have hh : (S.toList == U.toList) = true := by rw [str_eq]; simpa using hne
        clear hne
        go_wp2_with fail
        go_ret
        exact ⟨rfl, HB5.out⟩
      · have hh : (S.toList == U.toList) = false := by rw [str_eq]; simpa using hne
        have HNE := Lib.hid hne; clear hne
        obtain ⟨q1, q2⟩ := ver_range HV1.out
        obtain ⟨I, rfl⟩ := Int.eq_ofNat_of_zero_le q1
        obtain ⟨N, rfl⟩ := Int.eq_ofNat_of_zero_le (show 0 ≤ n by omega)
        have hIN : I < N := by omega
        have HC := Lib.hid (show collB (wayR N I S P.reverse).1 (wayR N I U Q.reverse).1 = true from ver_bind root N I S U P Q HV1.out HV2.out HNE.out)
        have l1 := way_len P.reverse N I S
        have l2 := way_len Q.reverse N I U
        rw [List.length_reverse] at l1 l2
        have W1 := Lib.hid (fun W hW hTW => way_any P.reverse N I S a3 P.length c3 P W (by rw [List.reverse_reverse]) hW (by omega) hlc3 hc3 HPS.out hS hIN (by omega) hTW)
        have W2 := Lib.hid (fun W hW hTW => way_any Q.reverse N I U a4 Q.length c4 Q W (by rw [List.reverse_reverse]) hW (by omega) hlc4 hc4 HQS.out hU hIN (by omega) hTW)
        have Z1 := Lib.hid (way_texts P.reverse N I S hS (fun x hx => HPS.out x (List.mem_reverse.1 hx)))
        have Z2 := Lib.hid (way_texts Q.reverse N I U hU (fun x hx => HQS.out x (List.mem_reverse.1 hx)))
        generalize wayR N I S P.reverse = A at *
        generalize wayR N I U Q.reverse = B at *
        obtain ⟨A1, A2⟩ := A
        obtain ⟨B1, B2⟩ := B
        dsimp only at HC l1 l2 W1 W2 Z1 Z2
        go_wp2_with fail
        refine (W1.out _ HO9.out (HT.out _ HB5.out)).mono ?_
        rintro e w6 ⟨v6, rfl, a6, c6, rfl, hlc6, hc6, ho6, hb6⟩
        have HB6 := Lib.hid (HB5.out.trans (hb6.mono HB5.out.size)); have HS6 := Lib.hid (strs_of_own ho6); have HOA := Lib.hid (HO8.out.below hb6)
        clear ho6 hb6 HO8 HO9
        go_wp2_with fail
        refine (W2.out _ HOA.out (HT.out _ HB6.out)).mono ?_
        rintro e w7 ⟨v7, rfl, a7, c7, rfl, hlc7, hc7, ho7, hb7⟩
        have HB7 := Lib.hid (HB6.out.trans (hb7.mono HB6.out.size)); have HS7 := Lib.hid (strs_of_own ho7); have HS8 := Lib.hid (HS6.out.below hb7)
        clear ho7 hb7 HOA HS6
        go_wp2_with fail
        refine (collide_any a6 a7 A1.length B1.length c6 c7 A1 B1 (by omega) (by omega) _ HS8.out HS7.out Z1.out Z2.out (HT.out _ HB7.out)).mono ?_
        rw [HC.out]
        rintro e w8 ⟨rfl, hb8⟩
        have HB8 := Lib.hid (HB7.out.trans (hb8.mono HB7.out.size))
        clear hb8
        go_wp2_with fail
        go_ret
        exact ⟨rfl, HB8.out⟩
end Go.Proofs.YtiilkjonbfllfaaDoor
