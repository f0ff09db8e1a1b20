/- SunNext, walked. -/
import Derived.Test.YtbgdlfkeimaaiaaDoorLn
namespace Go.Proofs.YtbgdlfkeimaaiaaDoor
open Go.RowKit
set_option linter.unusedSimpArgs false
set_option linter.unusedVariables false
theorem firstN_cases (p : Nat → Bool) : ∀ (n t : Nat), (firstN p t n = -1 ∧ ∀ m, t ≤ m → m < t + n → p m = false) ∨ ∃ j, j < n ∧ firstN p t n = ((t + j : Nat) : Int) ∧ (∀ m, t ≤ m → m < t + j → p m = false) ∧ p (t + j) = true
  | 0, t => .inl ⟨rfl, fun m h1 h2 => by omega⟩
  | n + 1, t => by
    by_cases h : p t = true
    · exact .inr ⟨0, by omega, by rw [firstN, if_pos h]; rfl, fun m h1 h2 => by omega, h⟩
    · have hf : p t = false := by simpa using h
      rcases firstN_cases p n (t + 1) with ⟨h1, h2⟩ | ⟨j, h1, h2, h3, h4⟩
      · refine .inl ⟨by rw [firstN, if_neg h]; exact h1, fun m a b => ?_⟩
        by_cases e : m = t
        · rw [e]; exact hf
        · exact h2 m (by omega) (by omega)
      · refine .inr ⟨j + 1, by omega, by rw [firstN, if_neg h, h2]; omega, fun m a b => ?_, by rw [show t + (j + 1) = t + 1 + j by omega]; exact h4⟩
        by_cases e : m = t
        · rw [e]; exact hf
        · exact h3 m (by omega) (by omega)
set_option maxRecDepth 100000 in
set_option maxHeartbeats 4000000 in
theorem next_any (a b c : Int) (lit : Bool) (a0 : -9223372036854775808 ≤ a) (a1 : a ≤ 9223372036854775807) (b0 : -9223372036854775808 ≤ b) (b1 : b ≤ 9223372036854775807) (c0 : -9223372036854775808 ≤ c) (c1 : c ≤ 9223372036854775807) (w : World) (hT : Tab w) :
    Calls Tryd.prog 8 #[.int .i64 a, .int .i64 b, .int .i64 c, .bool lit] w (OutV w (.bool true)) := by
  have HU := Lib.hid (up_vb (Below.refl w.heap.size w) hT : Up w (VB w))
  obtain ⟨x, y, hx, hy, CC⟩ := lcV a b a0 a1 b0 b1
  obtain ⟨t, ht, CT⟩ := lpV c c0 c1 1000001 (by decide) (by decide) 1000001 rfl
  have HC := Lib.hid CC; have HT := Lib.hid CT
  have HL := Lib.hid (show (x < 48 ∧ y < 24) ∧ t ≤ 1000000 from ⟨⟨hx, hy⟩, by omega⟩)
  have HN := Lib.hid (searchN_le t (by omega))
  have HS := Lib.hid (show searchN t = min (t + 1440) 1000000 + 1 - t from rfl)
  have t0 : (0 : Int) ≤ t := by omega
  have t1 : (t : Int) ≤ 1000000 := by omega
  clear CC CT hx hy ht a0 a1 b0 b1 c0 c1 hT
  go_enter Tryd.func8, Tryd.ntmps8
  go_wp2_with fail
  (with_reducible refine (sane_any _ HU.out.now.2).mono ?_)
  rintro e v1 ⟨rfl, hb⟩
  replace HU := Lib.hid (HU.out.next hb)
  clear hb
  go_wp2_with fail
  (with_reducible refine (HC.out _).mono ?_)
  rintro e v2 ⟨rfl, hb⟩
  replace HU := Lib.hid (HU.out.next hb)
  clear hb
  obtain ⟨x2, B, ex2, eb2, hb, hk⟩ := box1 v2 #[.int .i64 (x : Int), .int .i64 (y : Int)] 23
  replace HU := Lib.hid (HU.out.next hb)
  have UB := Lib.hid (up_vr hk : Up x2 (VR B #[.int .i64 (x : Int), .int .i64 (y : Int)] 23))
  clear hb hk
  go_wp2_with fail
  clear ex2 eb2
  (with_reducible refine (HT.out _).mono ?_)
  rintro e v3 ⟨rfl, hb⟩
  replace HU := Lib.hid (HU.out.next hb)
  replace UB := Lib.hid (UB.out.next hb)
  clear hb
  have cB0 : v3.cell? ⟨B, 0, none⟩ = some (.int .i64 (x : Int)) := row_cell UB.out.now 0
  have cB1 : v3.cell? ⟨B, 1, none⟩ = some (.int .i64 (y : Int)) := row_cell UB.out.now 1
  go_wp2_with fail
  clear cB0 cB1
  (with_reducible refine (nextS_yes x y t lit HL.out.1.1 HL.out.1.2 HL.out.2 _ HU.out.now.2).mono ?_)
  rintro e v4 ⟨rfl, hb⟩
  replace HU := Lib.hid (HU.out.next hb)
  replace UB := Lib.hid (UB.out.next hb)
  clear hb
  rcases firstN_cases (asked x y lit) (searchN t) t with ⟨hn, hp⟩ | ⟨j, hj, hn, hp, hq⟩
  · rw [show nextZ x y t lit = -1 from hn]
    have HP := Lib.hid hp
    clear hn hp
    go_wp2
    go_loopw [13] (fun i wr => ∃ k : Nat, k ≤ searchN t ∧ i = iV (t + k) ∧ Below v4.heap.size v4 wr) (fun i _ => t + searchN t - (intOf i).toNat)
    case atStart => exact ⟨0, by omega, rfl, Below.refl _ _⟩
    case round =>
      obtain ⟨k, hk, rfl, hB⟩ := hrel
      have HB := Lib.hid hB
      have hUB := UB.out.next hB
      have hU := HU.out.next hB
      replace UB := Lib.hid hUB
      replace HU := Lib.hid hU
      clear hB hU hUB
      obtain ⟨s, hs⟩ : ∃ s, t + k = s := ⟨_, rfl⟩
      rw [hs]
      have HSS := Lib.hid hs
      clear hs
      have s0 : (0 : Int) ≤ s := by omega
      by_cases hlt : k < searchN t
      · skip
        have hs1 : s ≤ 1000000 := by have := HSS.out; have := HN.out; have := HL.out; omega
        have b1 : (s : Int) ≤ 1000000 := by omega
        have b2 : decide ((s : Int) ≤ t + 1440) = true := by have := HSS.out; have := HS.out; have := HN.out; simp <;> omega
        have HH1 := Lib.hid hs1
        clear hs1
        have n1 : ((s : Int) == -1) = false := by simp <;> omega
        have HA := Lib.hid (HP.out s (by have := HSS.out; omega) (by have := HSS.out; omega))
        have cB0 : wr.cell? ⟨B, 0, none⟩ = some (.int .i64 (x : Int)) := row_cell UB.out.now 0
        have cB1 : wr.cell? ⟨B, 1, none⟩ = some (.int .i64 (y : Int)) := row_cell UB.out.now 1
        go_wp2_with fail
        clear cB0 cB1
        (with_reducible refine (litS_yes x y s HL.out.1.1 HL.out.1.2 HH1.out _ HU.out.now.2).mono ?_)
        rintro e v5 ⟨rfl, hb⟩
        have HBF := Lib.hid (below_tr HB.out hb)
        replace HU := Lib.hid (HU.out.next hb)
        replace UB := Lib.hid (UB.out.next hb)
        clear hb
        have hv' : (decide (0 < hgt x y s) == lit) = false := HA.out
        go_wp2
        clear hv'
        refine ⟨⟨k + 1, by omega, ret_i (by have := HSS.out; omega), ?_⟩, by have := HSS.out; simp only [intOf]; omega⟩
        exact HBF.out
      · skip
        by_cases hc : t + 1440 ≤ 1000000
        · have b2 : decide ((s : Int) ≤ t + 1440) = false := by have := HSS.out; have := HS.out; simp <;> omega
          clear hlt hc hk
          go_wp2
          go_ret
          exact ⟨rfl, HU.out.now.1⟩
        · have b2 : decide ((s : Int) ≤ t + 1440) = true := by have := HSS.out; have := HS.out; simp <;> omega
          have b3 : decide ((s : Int) ≤ 1000000) = false := by have := HSS.out; have := HS.out; simp <;> omega
          clear hlt hc hk
          go_wp2
          go_ret
          exact ⟨rfl, HU.out.now.1⟩
  · obtain ⟨u, hu⟩ : ∃ u, t + j = u := ⟨_, rfl⟩
    rw [show nextZ x y t lit = (u : Int) from by rw [← hu]; exact hn]
    have HP := Lib.hid hp
    have HQ := Lib.hid (show asked x y lit u = true from by rw [← hu]; exact hq)
    have HJ := Lib.hid (And.intro hj hu)
    have u0 : (0 : Int) ≤ u := by omega
    have u1 : (u : Int) ≤ 1000000 := by have := HN.out; omega
    have e1 : ((u : Int) == -1) = false := by simp <;> omega
    have e1' : ((u : Int) != -1) = true := by simp <;> omega
    have e2 : decide ((u : Int) < t) = false := by simp <;> omega
    have e2' : decide (u < t) = false := by simp <;> omega
    have e3 : decide ((t : Int) + 1440 < u) = false := by have := HN.out; have := HS.out; simp <;> omega
    have e4 : decide (1000000 < (u : Int)) = false := by simp <;> omega
    clear hn hp hq hj hu
    go_wp2
    clear e1 e1' e2 e2' e3 e4
    go_loopw [13] (fun i wr => ∃ k : Nat, k ≤ j ∧ i = iV (t + k) ∧ Below v4.heap.size v4 wr) (fun i _ => t + j + 1 - (intOf i).toNat)
    case atStart => exact ⟨0, by omega, rfl, Below.refl _ _⟩
    case round =>
      obtain ⟨k, hk, rfl, hB⟩ := hrel
      have HB := Lib.hid hB
      have hUB := UB.out.next hB
      have hU := HU.out.next hB
      replace UB := Lib.hid hUB
      replace HU := Lib.hid hU
      clear hB hU hUB
      obtain ⟨s, hs⟩ : ∃ s, t + k = s := ⟨_, rfl⟩
      rw [hs]
      have HSS := Lib.hid hs
      clear hs
      have s0 : (0 : Int) ≤ s := by omega
      by_cases hlt : k < j
      · skip
        have hs1 : s ≤ 1000000 := by have := HJ.out; have := HSS.out; have := HN.out; have := HL.out; omega
        have b1 : (s : Int) ≤ 1000000 := by omega
        have b2 : decide ((s : Int) ≤ t + 1440) = true := by have := HJ.out; have := HSS.out; have := HS.out; have := HN.out; simp <;> omega
        have HH1 := Lib.hid hs1
        clear hs1
        have n1 : ((s : Int) == (u : Int)) = false := by have := HJ.out; have := HSS.out; simp <;> omega
        have n1' : (s == u) = false := by have := HJ.out; have := HSS.out; simp <;> omega
        have HA := Lib.hid (HP.out s (by have := HSS.out; omega) (by have := HSS.out; omega))
        have cB0 : wr.cell? ⟨B, 0, none⟩ = some (.int .i64 (x : Int)) := row_cell UB.out.now 0
        have cB1 : wr.cell? ⟨B, 1, none⟩ = some (.int .i64 (y : Int)) := row_cell UB.out.now 1
        go_wp2_with fail
        clear cB0 cB1
        (with_reducible refine (litS_yes x y s HL.out.1.1 HL.out.1.2 HH1.out _ HU.out.now.2).mono ?_)
        rintro e v5 ⟨rfl, hb⟩
        have HBF := Lib.hid (below_tr HB.out hb)
        replace HU := Lib.hid (HU.out.next hb)
        replace UB := Lib.hid (UB.out.next hb)
        clear hb
        have hv' : (decide (0 < hgt x y s) == lit) = false := HA.out
        go_wp2
        clear hv'
        refine ⟨⟨k + 1, by omega, ret_i (by have := HSS.out; omega), ?_⟩, by have := HSS.out; simp only [intOf]; omega⟩
        exact HBF.out
      · skip
        have hs1 : s ≤ 1000000 := by have := HJ.out; have := HSS.out; have := HN.out; have := HL.out; omega
        have b1 : (s : Int) ≤ 1000000 := by omega
        have b2 : decide ((s : Int) ≤ t + 1440) = true := by have := HJ.out; have := HSS.out; have := HS.out; have := HN.out; simp <;> omega
        have HH1 := Lib.hid hs1
        clear hs1
        have hsu : s = u := by have := HJ.out; have := HSS.out; omega
        subst hsu
        have HA := Lib.hid HQ.out
        have cB0 : wr.cell? ⟨B, 0, none⟩ = some (.int .i64 (x : Int)) := row_cell UB.out.now 0
        have cB1 : wr.cell? ⟨B, 1, none⟩ = some (.int .i64 (y : Int)) := row_cell UB.out.now 1
        go_wp2_with fail
        clear cB0 cB1
        (with_reducible refine (litS_yes x y s HL.out.1.1 HL.out.1.2 HH1.out _ HU.out.now.2).mono ?_)
        rintro e v5 ⟨rfl, hb⟩
        have HBF := Lib.hid (below_tr HB.out hb)
        replace HU := Lib.hid (HU.out.next hb)
        replace UB := Lib.hid (UB.out.next hb)
        clear hb
        have hv' : (decide (0 < hgt x y s) == lit) = true := HA.out
        go_wp2
        go_ret
        exact ⟨rfl, HU.out.now.1⟩
end Go.Proofs.YtbgdlfkeimaaiaaDoor
