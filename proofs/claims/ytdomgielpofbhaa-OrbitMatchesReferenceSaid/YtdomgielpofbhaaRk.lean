/- The reference's Track. -/
import Derived.Test.YtdomgielpofbhaaLt
import Derived.Test.YtdomgielpofbhaaRr
namespace Go.Proofs.Ytdomgielpofbhaa
open Go.RowKit Go.Shelf Go.Maps
set_option linter.unusedSimpArgs false
set_option linter.unusedVariables false
theorem rtk_no {o : Orb} {f u late : Int} (h : (okB o && trkOK f u late) = false) : okB o = false ∨ (okB o = true ∧ isIn f 0 1000000 = false) ∨ (okB o = true ∧ isIn f 0 1000000 = true ∧ isIn u f 1000000 = false) ∨
    (okB o = true ∧ isIn f 0 1000000 = true ∧ isIn u f 1000000 = true ∧ 3000 < u - f) ∨ (okB o = true ∧ isIn f 0 1000000 = true ∧ isIn u f 1000000 = true ∧ u - f ≤ 3000 ∧ isIn late (-10) 10 = false) := by
  by_cases h1 : okB o = true
  · rw [h1, Bool.true_and] at h
    have hn : ¬ trkOK f u late = true := by rw [h]; decide
    rw [trkOK_iff] at hn
    right
    by_cases h2 : isIn f 0 1000000 = true
    · right
      by_cases h3 : isIn u f 1000000 = true
      · right
        by_cases h4 : 3000 < u - f
        · exact .inl ⟨h1, h2, h3, h4⟩
        · refine .inr ⟨h1, h2, h3, by omega, ?_⟩
          rw [← Bool.not_eq_true]
          intro h5
          rw [isIn_iff] at h2 h3 h5
          exact hn ⟨by omega, by omega, by omega, by omega, by omega⟩
      · exact .inl ⟨h1, h2, by simpa using h3⟩
    · exact .inl ⟨h1, by simpa using h2⟩
  · exact .inl (by simpa using h1)
set_option maxRecDepth 100000 in
set_option maxHeartbeats 4000000 in
theorem rtrack_no (o : Orb) (f u late : Int) (h : (okB o && trkOK f u late) = false) (w : World) :
    Calls Try.prog 27 #[OV o, .agg #[.int .i64 f, .int .i64 u], .int .i64 late] w (OutL w [] 70) := by
  obtain ⟨V, B, hV, hBn, hb, hk⟩ := box1 w (OC o) 24
  obtain ⟨X, C, hX, hCn, hb2, hk2⟩ := box1 V #[.int .i64 f, .int .i64 u] 26
  have HP := Lib.hid (show BX X B (OC o) 24 from BX.next hk hb2)
  have HC := Lib.hid (show BX X C #[.int .i64 f, .int .i64 u] 26 from hk2)
  have HB := Lib.hid (below_tr hb hb2)
  have CV := Lib.hid (fun W => rvalid_any o W)
  have c0 := BX.cell HP.out 0; have c1 := BX.cell HP.out 1; have c2 := BX.cell HP.out 2; have c3 := BX.cell HP.out 3; have c4 := BX.cell HP.out 4; have c5 := BX.cell HP.out 5; have c6 := BX.cell HP.out 6
  clear hb hk hb2 hk2
  rcases rtk_no h with e1 | ⟨e1, e2⟩ | ⟨e1, e2, e3⟩ | ⟨e1, e2, e3, e4⟩ | ⟨e1, e2, e3, e4, e5⟩
  all_goals
    clear h
    rw [e1] at CV
    try have b0 := isIn_iff.1 e2
    try have b1 := isIn_iff.1 e3
    try obtain ⟨b2, b3⟩ := b0
    try obtain ⟨b4, b5⟩ := b1
    go_enter Try.func27, Try.ntmps27
    go_wp2_with (first
      | (go_at_call 13; (with_reducible refine (CV.out _).mono ?_); rintro e w1 ⟨rfl, hb⟩; have HB1 := Lib.hid (below_tr HB.out hb); have HC1 := Lib.hid (BX.next HC.out hb); have r0 := BX.cell HC1.out 0; have r1 := BX.cell HC1.out 1; clear hb c0 c1 c2 c3 c4 c5 c6)
      | (go_at_call 30; (with_reducible refine (in_any _ _ _ _).mono ?_); rintro e w' ⟨rfl, rfl⟩))
    go_ret2
    exact ⟨none, 0, rfl, ⟨rfl, by decide, .inl rfl⟩, HB1.out⟩
set_option maxRecDepth 100000 in
set_option maxHeartbeats 4000000 in
theorem rtrack_yes (o : Orb) (f u late : Int) (ho : okO o) (h : trkOK f u late = true) (w : World) :
    Calls Try.prog 27 #[OV o, .agg #[.int .i64 f, .int .i64 u], .int .i64 late] w (OutL w (trk o (f - late) (u - f).toNat) 0) := by
  obtain ⟨⟨l0, l1⟩, ⟨f0, f1⟩, ⟨u0, u1⟩, fu, du⟩ := trkOK_iff.1 h
  have e1 : okB o = true := okB_iff.2 ho
  have e2 : isIn f 0 1000000 = true := isIn_iff.2 ⟨f0, f1⟩
  have e3 : isIn u f 1000000 = true := isIn_iff.2 ⟨fu, u1⟩
  have e5 : isIn late (-10) 10 = true := isIn_iff.2 ⟨l0, l1⟩
  obtain ⟨V, B, hV, hBn, hb, hk⟩ := box1 w (OC o) 24
  obtain ⟨X, C, hX, hCn, hb2, hk2⟩ := box1 V #[.int .i64 f, .int .i64 u] 26
  have HP := Lib.hid (show BX X B (OC o) 24 from BX.next hk hb2)
  have HC := Lib.hid (show BX X C #[.int .i64 f, .int .i64 u] 26 from hk2)
  have HB := Lib.hid (below_tr hb hb2)
  have CV := Lib.hid (fun W => rvalid_any o W)
  rw [e1] at CV
  have HO := Lib.hid ho
  have c0 := BX.cell HP.out 0; have c1 := BX.cell HP.out 1; have c2 := BX.cell HP.out 2; have c3 := BX.cell HP.out 3; have c4 := BX.cell HP.out 4; have c5 := BX.cell HP.out 5; have c6 := BX.cell HP.out 6
  clear hb hk hb2 hk2 h ho
  obtain ⟨N, hN⟩ : ∃ N, (u - f).toNat = N := ⟨_, rfl⟩
  have N0 : (N : Int) = u - f := by omega
  rw [hN]
  clear hN
  go_enter Try.func27, Try.ntmps27
  go_wp2_with (first
    | (go_at_call 13; (with_reducible refine (CV.out _).mono ?_); rintro e w1 ⟨rfl, hb⟩; have HB1 := Lib.hid (below_tr HB.out hb); have HP1 := Lib.hid (BX.next HP.out hb); have HC1 := Lib.hid (BX.next HC.out hb); have r0 := BX.cell HC1.out 0; have r1 := BX.cell HC1.out 1; clear hb c0 c1 c2 c3 c4 c5 c6)
    | (go_at_call 30; (with_reducible refine (in_any _ _ _ _).mono ?_); rintro e w' ⟨rfl, rfl⟩))
  clear r0 r1
  go_loopw [8, 9] (fun v tv wr => ∃ k : Nat, k ≤ N ∧ tv = .int .i64 (f + (k : Int)) ∧ wr.ownsRow w1.heap.size 38 2 v (trk o (f - late) k).length (cvs (trk o (f - late) k)) ∧ Below w1.heap.size w1 wr) (fun _ tv _ => (u - intOf tv).toNat)
  case atStart => exact ⟨0, by omega, ret_i (by omega), World.ownsRow_nil _ _ _ _, Below.refl _ _⟩
  case round =>
    obtain ⟨k, hk, rfl, hO, hB⟩ := hrel
    have HOW := Lib.hid hO
    have HBB := Lib.hid hB
    clear hO hB
    rename World => wr
    have k0 : (0 : Int) ≤ k := by omega
    have k1 : (k : Int) ≤ N := by omega
    obtain ⟨T, hT⟩ : ∃ T, f + (k : Int) = T := ⟨_, rfl⟩
    have HT := Lib.hid hT
    rw [hT]
    have T0 : f ≤ T := by omega
    have T1 : T ≤ u := by omega
    clear hT
    have hp := BX.below HP1.out HBB.out (HP1.out : BX w1 B _ _).lt
    have hc := BX.below HC1.out HBB.out (HC1.out : BX w1 C _ _).lt
    have c0 := BX.cell hp 0; have c1 := BX.cell hp 1; have c2 := BX.cell hp 2; have c3 := BX.cell hp 3; have c4 := BX.cell hp 4; have c5 := BX.cell hp 5; have c6 := BX.cell hp 6
    have r1 := BX.cell hc 1
    clear hp hc
    by_cases hlt : T < u
    · have hd : decide (T < u) = true := by simpa using hlt
      go_wp2_with fail
      (with_reducible refine (rat_yes o T late (asked_iff.2 ⟨HO.out, ⟨by omega, by omega⟩, ⟨l0, l1⟩⟩) _).mono ?_)
      rintro e w2 ⟨rfl, hb⟩
      have HB2 := Lib.hid (HBB.out.trans (hb.mono HBB.out.size))
      have HO2 := Lib.hid (row_keep HOW.out hb)
      obtain ⟨x, hx⟩ : ∃ x, celO o (T - late) = x := ⟨_, rfl⟩
      have HXX := Lib.hid hx
      rw [hx]
      clear hx hb c0 c1 c2 c3 c4 c5 c6 r1
      obtain ⟨x3, D, ex3, eb3, hbD, hkD⟩ := box1 w2 #[iV x.1.1, iV x.1.2] 38
      have kD0 : x3.cell? ⟨D, 0, none⟩ = some (iV x.1.1) := row_cell hkD 0
      have kD1 : x3.cell? ⟨D, 1, none⟩ = some (iV x.1.2) := row_cell hkD 1
      have HB3 := Lib.hid (HB2.out.trans (hbD.mono HB2.out.size))
      have HO3 := Lib.hid (row_keep HO2.out hbD)
      clear hbD hkD
      obtain ⟨x4, E, ex4, eb4, hbE, hkE⟩ := box1 x3 #[iV x.1.1, iV x.1.2] 38
      have HB4 := Lib.hid (HB3.out.trans (hbE.mono HB3.out.size))
      have HO4 := Lib.hid (row_keep HO3.out hbE)
      have HS := Lib.hid (show VC (some ⟨E, 0, none⟩) [x] x4 from ⟨rfl, by simp, .inr ⟨E, rfl, BX.lt (show BX x4 E _ _ from hkE), fun i p hi => by
        rcases i with _ | i
        · simp at hi
          subst hi
          exact ⟨row_cell hkE 0, row_cell hkE 1⟩
        · simp at hi⟩⟩)
      clear hbE hkE
      go_wp2_with (at_builtin
                   refine wpList_appC rfl (.tmp 60) (.tmp 62) rfl w1.heap.size _ (trk o (f - late) k) [x] (some ⟨E, 0, none⟩) 1 rfl rfl HO4.out HS.out (by rw [trk_len]; omega) HB4.out.size ?_
                   intro v1 y1 h1 h2 h3
                   have HY := Lib.hid (show Below w1.heap.size w1 y1 from HB4.out.grown h2 HB4.out.size (fun q hq => (HO4.out.lt q hq).1))
                   have HR := Lib.hid h1
                   clear h1 h2 h3)
      have e := HT.out
      have hxx := HXX.out
      have hE : trk o (f - late) k ++ [x] = trk o (f - late) (k + 1) := by rw [trk_succ, show f - late + (k : Int) = T - late by omega, hxx]
      exact ⟨⟨k + 1, by omega, ret_i (by omega), by rw [← hE]; exact HR.out, HY.out⟩, by simp [intOf]; omega⟩
    · obtain rfl : T = u := by omega
      have hd : decide (T < T) = false := by simp
      obtain rfl : k = N := by have := HT.out; omega
      go_wp2
      go_ret2
      obtain ⟨al, c, rfl, hcs⟩ := Cs.of_row HOW.out (by rw [trk_len]; omega)
      exact ⟨al, c, rfl, hcs, below_tr HB1.out HBB.out⟩
end Go.Proofs.Ytdomgielpofbhaa
