/- The reference's Valid, Make, Of, walked. -/
import Derived.Test.YtcjcafekacceiaaGreatDoorRdc
import Derived.Test.YtcjcafekacceiaaGreatDoorLw
namespace Go.Proofs.YtcjcafekacceiaaGreatDoor
open Go.RowKit
set_option linter.unusedVariables false

theorem le0 {z : Int} : decide (cmpZ z 0 ≤ 0) = !decide (0 < z) := by
  unfold cmpZ
  rcases Int.lt_trichotomy z 0 with h | h | h
  · rw [if_pos h]; simp; omega
  · rw [h]; rfl
  · rw [if_neg (by omega), if_pos h]; simp [h]
theorem lt0 {z : Int} : decide (cmpZ z 0 < 0) = decide (z < 0) := by
  unfold cmpZ
  rcases Int.lt_trichotomy z 0 with h | h | h
  · rw [if_pos h]; simp [h]
  · rw [h]; rfl
  · rw [if_neg (by omega), if_pos h]; simp; omega

set_option maxRecDepth 100000 in
set_option maxHeartbeats 2000000 in
theorem rqvalid_any (a b : ByteArray) (w : World) (ha : a.size ≤ 9223372036854775807) (hb : b.size ≤ 9223372036854775807) :
    Calls Tryz.prog 30 #[.agg #[.string a, .string b]] w (BOut w (fV a b)) := by
  obtain ⟨W, hW⟩ : ∃ W, w.alloc (.cells #[.string a, .string b] 23) = W := ⟨_, rfl⟩
  have hbW : Below w.heap.size w W := by rw [← hW]; exact (Below.refl w.heap.size w).alloc (Nat.le_refl _) _
  have hk : W.heap[w.heap.size]? = some (.cells #[.string a, .string b] 23) := by rw [← hW]; exact heap_new' _ _ _ rfl
  obtain ⟨k0, k1, _, _⟩ := box2 hk
  have HK := Lib.hid (fun W' (h : Below W.heap.size W W') => box2 (bl_up hk h))
  have HBW := Lib.hid hbW
  have CA := Lib.hid (fun W => rvalid_any a W ha)
  have CB := Lib.hid (fun W => rvalid_any b W hb)
  have CC := Lib.hid (fun W => rcmp_any b ⟨#[48]⟩ W hb (by decide))
  have CG := Lib.hid (fun W => rgcd_any a b W ha hb)
  clear hbW hk
  obtain ⟨va, hva⟩ : ∃ v, vS a = v := ⟨_, rfl⟩
  obtain ⟨vb, hvb⟩ : ∃ v, vS b = v := ⟨_, rfl⟩
  cases va with
  | false =>
    rw [show fV a b = false from by unfold fV; rw [hva]; rfl]
    rw [hva] at CA
    rw [hvb] at CB
    clear hva hvb
    go_enter Tryz.func30, Tryz.ntmps30
    go_wp2_with fail
    (with_reducible refine (CA.out _).mono ?_)
    rintro e w1 ⟨rfl, rfl⟩
    go_wp2_with fail
    (with_reducible refine (CB.out _).mono ?_)
    rintro e w1 ⟨rfl, rfl⟩
    go_wp2
    go_ret
    exact ⟨rfl, HBW.out⟩
  | true =>
    cases vb with
    | false =>
      rw [show fV a b = false from by unfold fV; rw [hva, hvb]; rfl]
      rw [hva] at CA
      rw [hvb] at CB
      clear hva hvb
      go_enter Tryz.func30, Tryz.ntmps30
      go_wp2_with fail
      (with_reducible refine (CA.out _).mono ?_)
      rintro e w1 ⟨rfl, rfl⟩
      go_wp2_with fail
      (with_reducible refine (CB.out _).mono ?_)
      rintro e w1 ⟨rfl, rfl⟩
      go_wp2
      go_ret
      exact ⟨rfl, HBW.out⟩
    | true =>
      rw [hva] at CA
      rw [hvb] at CB
      have hv : (vS a && vS b) = true := by rw [hva, hvb]; rfl
      have hgb := big_gcd (nS_big a) (nS_big b)
      rw [show opS gcdZ a b = str (gcdZ (nS a) (nS b)) from by unfold opS; rw [hv, if_pos rfl, resS_ok hgb], show opE gcdZ a b = 0 from by unfold opE; rw [hv, if_pos rfl, resE_ok hgb]] at CG
      rw [cmp_zero hvb] at CC
      have hf : fV a b = (decide (gcdZ (nS a) (nS b) = 1) && decide (0 < nS b)) := by unfold fV; rw [hva, hvb]; rfl
      have hi := isOne (z := gcdZ (nS a) (nS b))
      have hl := le0 (z := nS b)
      obtain ⟨q1, hq1⟩ : ∃ q, decide (gcdZ (nS a) (nS b) = 1) = q := ⟨_, rfl⟩
      obtain ⟨q2, hq2⟩ : ∃ q, decide (0 < nS b) = q := ⟨_, rfl⟩
      rw [hq1] at hf hi
      rw [hq2] at hf hl
      rw [hf]
      generalize str (gcdZ (nS a) (nS b)) = g at *
      generalize cmpZ (nS b) 0 = k at *
      clear hva hvb hv hgb hf hq1 hq2
      cases q2 with
      | false =>
        have hl' : decide (k ≤ 0) = true := hl
        have HI := Lib.hid hi
        clear hl hi
        rw [Bool.and_false]
        go_enter Tryz.func30, Tryz.ntmps30
        go_wp2_with fail
        (with_reducible refine (CA.out _).mono ?_)
        rintro e w1 ⟨rfl, rfl⟩
        go_wp2_with fail
        (with_reducible refine (CB.out _).mono ?_)
        rintro e w1 ⟨rfl, rfl⟩
        go_wp2_with fail
        (with_reducible refine (CC.out _).mono ?_)
        rintro e w2 ⟨rfl, hb2⟩
        have HB2 := Lib.hid (below1 HBW.out hb2)
        clear hb2
        go_wp2
        go_ret
        exact ⟨rfl, HB2.out⟩
      | true =>
        have hl' : decide (k ≤ 0) = false := hl
        clear hl
        rw [Bool.and_true]
        go_enter Tryz.func30, Tryz.ntmps30
        go_wp2_with fail
        (with_reducible refine (CA.out _).mono ?_)
        rintro e w1 ⟨rfl, rfl⟩
        go_wp2_with fail
        (with_reducible refine (CB.out _).mono ?_)
        rintro e w1 ⟨rfl, rfl⟩
        go_wp2_with fail
        (with_reducible refine (CC.out _).mono ?_)
        rintro e w2 ⟨rfl, hb2⟩
        have HB2 := Lib.hid (below1 HBW.out hb2)
        clear k0 k1
        obtain ⟨k0, k1, _, _⟩ := HK.out _ hb2
        clear hb2
        go_wp2_with fail
        (with_reducible refine (CG.out _).mono ?_)
        rintro e w3 ⟨rfl, hb3⟩
        have HB3 := Lib.hid (below1 HB2.out hb3)
        clear hb3
        go_wp2
        go_ret
        exact ⟨rfl, HB3.out⟩

set_option maxRecDepth 100000 in
set_option maxHeartbeats 4000000 in
theorem rmake_any (a b : ByteArray) (w : World) (ha : a.size ≤ 9223372036854775807) (hb : b.size ≤ 9223372036854775807) :
    Calls Tryz.prog 28 #[.string a, .string b] w (QOut w (mkS a b)) := by
  obtain ⟨W, hW⟩ : ∃ W, w.alloc (.cells #[.string ⟨#[]⟩, .string ⟨#[]⟩] 23) = W := ⟨_, rfl⟩
  have hbW : Below w.heap.size w W := by rw [← hW]; exact (Below.refl w.heap.size w).alloc (Nat.le_refl _) _
  have hk : W.heap[w.heap.size]? = some (.cells #[.string ⟨#[]⟩, .string ⟨#[]⟩] 23) := by rw [← hW]; exact heap_new' _ _ _ rfl
  have HK := Lib.hid (fun W' (h : Below W.heap.size W W') => bl_up hk h)
  have HBW := Lib.hid hbW
  obtain ⟨r1, r2, r3, r4⟩ := box2 hk
  obtain ⟨s1, s2, _, _⟩ := box2 (put2_heap hk (.string ⟨#[]⟩) (.string ⟨#[]⟩))
  have HPN := Lib.hid (show QOut w none (.returned (.tuple #[.agg #[.string ⟨#[]⟩, .string ⟨#[]⟩], .int .i64 40])) (put2 W w.heap.size (.string ⟨#[]⟩) (.string ⟨#[]⟩)) from ⟨rfl, put2_below hbW (Nat.le_refl _) _ _⟩)
  have CA := Lib.hid (fun W => rvalid_any a W ha)
  have CB := Lib.hid (fun W => rvalid_any b W hb)
  clear hbW hk
  obtain ⟨va, hva⟩ : ∃ v, vS a = v := ⟨_, rfl⟩
  obtain ⟨vb, hvb⟩ : ∃ v, vS b = v := ⟨_, rfl⟩
  by_cases hno : va = false ∨ vb = false ∨ nS b = 0
  · have hm : mkS a b = none := by
      unfold mkS; rw [hva, hvb]
      rcases hno with h | h | h
      · rw [h]; rfl
      · rw [h, Bool.and_false]; rfl
      · rw [h]; simp
    rw [hm]
    rw [hva] at CA
    rw [hvb] at CB
    have hz : (va = false) ∨ (va = true ∧ vb = false) ∨ (va = true ∧ vb = true ∧ (b.toList == [48]) = true) := by
      cases va with
      | false => exact .inl rfl
      | true =>
        cases vb with
        | false => exact .inr (.inl ⟨rfl, rfl⟩)
        | true =>
          refine .inr (.inr ⟨rfl, rfl, is0 hvb ?_⟩)
          rcases hno with h | h | h
          · cases h
          · cases h
          · exact h
    clear hva hvb hno hm
    rcases hz with rfl | ⟨rfl, rfl⟩ | ⟨rfl, rfl, hz⟩
    all_goals
      go_enter Tryz.func28, Tryz.ntmps28
      go_wp2_with fail
      (with_reducible refine (CA.out _).mono ?_)
      rintro e w1 ⟨rfl, rfl⟩
      go_wp2_with fail
      (with_reducible refine (CB.out _).mono ?_)
      rintro e w1 ⟨rfl, rfl⟩
      go_wp2
      refine bodyPost_ret (v := .tuple #[.agg #[.string ⟨#[]⟩, .string ⟨#[]⟩], .int .i64 40]) (by simp [results, Tryz.results28, go_sem, s1, s2]) rfl ?_
      exact HPN.out
  · obtain rfl : va = true := by
      cases va with
      | true => rfl
      | false => exact absurd (.inl rfl) hno
    obtain rfl : vb = true := by
      cases vb with
      | true => rfl
      | false => exact absurd (.inr (.inl rfl)) hno
    have hb0 : nS b ≠ 0 := fun h => hno (.inr (.inr h))
    have hbz := no0 hvb hb0
    rw [hva] at CA
    rw [hvb] at CB
    clear s1 s2 HPN
    have hm : mkS a b = some (Rat.divInt (nS a) (nS b)) := by unfold mkS; rw [hva, hvb]; simp [hb0]
    rw [hm]
    have ea := str_nS hva
    have eb := str_nS hvb
    have CC := Lib.hid (fun W => rcmp_any b ⟨#[48]⟩ W hb (by decide))
    rw [cmp_zero hvb] at CC
    have hl := lt0 (z := nS b)
    have hgb := big_gcd (nS_big a) (nS_big b)
    have hgn : gcdZ (nS a) (nS b) ≠ 0 := by have := gcdZ_pos' (n := nS a) hb0; omega
    -- the two quotients, whatever sign is taken
    have QN : ∀ x y : Int, Big x → Big y → ∀ W, Calls Tryz.prog 62 #[.string (str x), .string (str y)] W (ResOut W (str (gcdZ x y)) 0) := fun x y hx hy W => by
      have := rgcd_any (str x) (str y) W (str_size hx) (str_size hy)
      rw [opS_ok hx hy, opE_ok hx hy, resS_ok (big_gcd hx hy), resE_ok (big_gcd hx hy)] at this
      exact this
    have QD : ∀ x y : Int, Big x → Big y → y ≠ 0 → ∀ W, Calls Tryz.prog 52 #[.string (str x), .string (str y)] W (DivsOut W (str (x / y)) (str (x % y)) 0) := fun x y hx hy h0 W => by
      have := rdiv_any (str x) (str y) W (str_size hx) (str_size hy)
      have hv : divV (str x) (str y) = true := by unfold divV; rw [(vS_str x).2 hx, (vS_str y).2 hy, nS_str hy]; simpa using h0
      unfold divQ divR divE at this
      rw [hv, nS_str hx, nS_str hy] at this
      exact this
    have QS : ∀ y : Int, Big y → ∀ W, Calls Tryz.prog 49 #[.string ⟨#[48]⟩, .string (str y)] W (ResOut W (str (0 - y)) 0) := fun y hy W => by
      have := rsub_any (str 0) (str y) W (str_size big0) (str_size hy)
      rw [opS_ok big0 hy, opE_ok big0 hy, resS_ok (big_sub0 hy), resE_ok (big_sub0 hy), ← str0] at this
      exact this
    obtain ⟨q, hq⟩ : ∃ q, Rat.divInt (nS a) (nS b) = q := ⟨_, rfl⟩
    rw [hq]
    have hrn := red_num (nS a) (nS b) hb0
    have hrd := red_den (nS a) (nS b) hb0
    rw [hq] at hrn hrd
    have hbA := nS_big a
    have hbB := nS_big b
    obtain ⟨x, hx⟩ : ∃ x, nS a = x := ⟨_, rfl⟩
    obtain ⟨y, hy⟩ : ∃ y, nS b = y := ⟨_, rfl⟩
    rw [hx] at ea hgb hgn hrn hbA hrd
    rw [hy] at eb hgb hgn hrn hrd hbB hl CC hb0
    obtain ⟨q2, hq2⟩ : ∃ q2, decide (y < 0) = q2 := ⟨_, rfl⟩
    have HQ2 := Lib.hid hq2
    rw [hq2] at hl
    obtain ⟨G, hG⟩ : ∃ G, gcdZ x y = G := ⟨_, rfl⟩
    have HE : ∀ W', Below w.heap.size w W' → QOut w (some q) (.returned (.tuple #[.agg #[.string (str q.num), .string (str (q.den : Int))], .int .i64 0])) (put2 W' w.heap.size (.string (str q.num)) (.string (str (q.den : Int)))) := fun W' h => ⟨rfl, put2_below h (Nat.le_refl _) _ _⟩
    have HEH := Lib.hid HE
    clear HE hm hva hvb hx hy hq hno hq2
    cases q2 with
    | true =>
      have hyn : y < 0 := of_decide_eq_true HQ2.out
      have eg : gcdZ (0 - x) (0 - y) = G := by rw [← hG]; unfold gcdZ; congr 2 <;> omega
      rw [show sgz x y = 0 - G from by unfold sgz; rw [if_pos hyn, hG]] at hrn hrd
      have e1 : (0 - x) / G = q.num := by
        have hd := gcdZ_dl x y
        rw [hG] at hd
        rw [← hrn, show (0 : Int) - G = -G by omega, Int.ediv_neg, show (0 : Int) - x = -x by omega, Int.neg_ediv_of_dvd hd]
      have e2 : (0 - y) / G = (q.den : Int) := by
        have hd := gcdZ_dr x y
        rw [hG] at hd
        rw [← hrd, show (0 : Int) - G = -G by omega, Int.ediv_neg, show (0 : Int) - y = -y by omega, Int.neg_ediv_of_dvd hd]
      rw [hG] at hgb hgn
      have S1 := Lib.hid (QS x hbA)
      have S2 := Lib.hid (QS y hbB)
      have G1 := Lib.hid (QN (0 - x) (0 - y) (big_sub0 hbA) (big_sub0 hbB))
      rw [eg] at G1
      have D1 := Lib.hid (QD (0 - x) G (big_sub0 hbA) hgb hgn)
      have D2 := Lib.hid (QD (0 - y) G (big_sub0 hbB) hgb hgn)
      rw [e1] at D1
      rw [e2] at D2
      rw [← ea] at S1
      rw [← eb] at S2
      generalize str (0 - x) = a2 at *
      generalize str (0 - y) = b2 at *
      generalize str ((0 - x) % G) = m1 at *
      generalize str ((0 - y) % G) = m2 at *
      generalize str G = g at *
      generalize cmpZ y 0 = k at *
      generalize str q.num = u at *
      generalize str (q.den : Int) = v at *
      have hl' : decide (k < 0) = true := hl
      clear hl HQ2 hyn ea eb hgb hgn hrn hrd hbA hbB hb0 hG QN QD QS eg e1 e2 r1 r2 r3 r4
      go_enter Tryz.func28, Tryz.ntmps28
      go_wp2_with fail
      (with_reducible refine (CA.out _).mono ?_)
      rintro e w1 ⟨rfl, rfl⟩
      go_wp2_with fail
      (with_reducible refine (CB.out _).mono ?_)
      rintro e w1 ⟨rfl, rfl⟩
      go_wp2_with fail
      (with_reducible refine (CC.out _).mono ?_)
      rintro e w2 ⟨rfl, hb2⟩
      have HB2 := Lib.hid (below1 HBW.out hb2)
      have HX2 := Lib.hid (hb2)
      clear hb2
      go_wp2_with fail
      (with_reducible refine (S1.out _).mono ?_)
      rintro e w3 ⟨rfl, hb3⟩
      have HB3 := Lib.hid (below1 HB2.out hb3)
      have HX3 := Lib.hid (below1 HX2.out hb3)
      clear hb3
      go_wp2_with fail
      (with_reducible refine (S2.out _).mono ?_)
      rintro e w4 ⟨rfl, hb4⟩
      have HB4 := Lib.hid (below1 HB3.out hb4)
      have HX4 := Lib.hid (below1 HX3.out hb4)
      clear hb4
      go_wp2_with fail
      (with_reducible refine (G1.out _).mono ?_)
      rintro e w5 ⟨rfl, hb5⟩
      have HB5 := Lib.hid (below1 HB4.out hb5)
      have HX5 := Lib.hid (below1 HX4.out hb5)
      clear hb5
      go_wp2_with fail
      (with_reducible refine (D1.out _).mono ?_)
      rintro e w6 ⟨rfl, hb6⟩
      have HB6 := Lib.hid (below1 HB5.out hb6)
      have HX6 := Lib.hid (below1 HX5.out hb6)
      clear hb6
      go_wp2_with fail
      (with_reducible refine (D2.out _).mono ?_)
      rintro e w7 ⟨rfl, hb7⟩
      have HB7 := Lib.hid (below1 HB6.out hb7)
      have HX7 := Lib.hid (below1 HX6.out hb7)
      clear hb7
      have HR := HK.out _ HX7.out
      obtain ⟨r1, r2, r3, r4⟩ := box2 HR
      obtain ⟨s1, s2, _, _⟩ := box2 (put2_heap HR (.string u) (.string v))
      have HF := Lib.hid (HEH.out _ HB7.out)
      clear HR
      go_wp2
      refine bodyPost_ret (v := .tuple #[.agg #[.string u, .string v], .int .i64 0]) (by simp [results, Tryz.results28, go_sem, s1, s2]) rfl ?_
      exact HF.out
    | false =>
      have hyn : ¬ y < 0 := of_decide_eq_false HQ2.out
      rw [show sgz x y = G from by unfold sgz; rw [if_neg hyn, hG]] at hrn hrd
      rw [hG] at hgb hgn
      have G1 := Lib.hid (QN x y hbA hbB)
      rw [hG] at G1
      have D1 := Lib.hid (QD x G hbA hgb hgn)
      have D2 := Lib.hid (QD y G hbB hgb hgn)
      rw [hrn] at D1
      rw [hrd] at D2
      rw [← ea, ← eb] at G1
      rw [← ea] at D1
      rw [← eb] at D2
      generalize str (x % G) = m1 at *
      generalize str (y % G) = m2 at *
      generalize str G = g at *
      generalize cmpZ y 0 = k at *
      generalize str q.num = u at *
      generalize str (q.den : Int) = v at *
      have hl' : decide (k < 0) = false := hl
      clear hl HQ2 hyn ea eb hgb hgn hrn hrd hbA hbB hb0 hG QN QD QS r1 r2 r3 r4
      go_enter Tryz.func28, Tryz.ntmps28
      go_wp2_with fail
      (with_reducible refine (CA.out _).mono ?_)
      rintro e w1 ⟨rfl, rfl⟩
      go_wp2_with fail
      (with_reducible refine (CB.out _).mono ?_)
      rintro e w1 ⟨rfl, rfl⟩
      go_wp2_with fail
      (with_reducible refine (CC.out _).mono ?_)
      rintro e w2 ⟨rfl, hb2⟩
      have HB2 := Lib.hid (below1 HBW.out hb2)
      have HX2 := Lib.hid (hb2)
      clear hb2
      go_wp2_with fail
      (with_reducible refine (G1.out _).mono ?_)
      rintro e w3 ⟨rfl, hb3⟩
      have HB3 := Lib.hid (below1 HB2.out hb3)
      have HX3 := Lib.hid (below1 HX2.out hb3)
      clear hb3
      go_wp2_with fail
      (with_reducible refine (D1.out _).mono ?_)
      rintro e w4 ⟨rfl, hb4⟩
      have HB4 := Lib.hid (below1 HB3.out hb4)
      have HX4 := Lib.hid (below1 HX3.out hb4)
      clear hb4
      go_wp2_with fail
      (with_reducible refine (D2.out _).mono ?_)
      rintro e w5 ⟨rfl, hb5⟩
      have HB5 := Lib.hid (below1 HB4.out hb5)
      have HX5 := Lib.hid (below1 HX4.out hb5)
      clear hb5
      have HR := HK.out _ HX5.out
      obtain ⟨r1, r2, r3, r4⟩ := box2 HR
      obtain ⟨s1, s2, _, _⟩ := box2 (put2_heap HR (.string u) (.string v))
      have HF := Lib.hid (HEH.out _ HB5.out)
      clear HR
      go_wp2
      refine bodyPost_ret (v := .tuple #[.agg #[.string u, .string v], .int .i64 0]) (by simp [results, Tryz.results28, go_sem, s1, s2]) rfl ?_
      exact HF.out

set_option maxRecDepth 100000 in
set_option maxHeartbeats 1000000 in
theorem rof_any (n d : Int) (hn0 : -9223372036854775808 ≤ n) (hn1 : n ≤ 9223372036854775807) (hd0 : -9223372036854775808 ≤ d) (hd1 : d ≤ 9223372036854775807) (w : World) :
    Calls Tryz.prog 32 #[.int .i64 n, .int .i64 d] w (QOut w (mkS (str n) (str d))) := by
  have hbn : Big n := by unfold Big; exact Nat.lt_of_lt_of_le (show n.natAbs < 10 ^ 20 by omega) (Nat.pow_le_pow_right (by decide) (by decide))
  have hbd : Big d := by unfold Big; exact Nat.lt_of_lt_of_le (show d.natAbs < 10 ^ 20 by omega) (Nat.pow_le_pow_right (by decide) (by decide))
  obtain ⟨wA, hwA⟩ : ∃ wA, (w.alloc (.cells #[.string ⟨#[]⟩, .string ⟨#[]⟩] 23)) = wA := ⟨_, rfl⟩
  have hbA : Below w.heap.size w wA := by rw [← hwA]; exact (Below.refl w.heap.size w).alloc (Nat.le_refl _) _
  have h0 : wA.heap[w.heap.size]? = some (.cells #[.string ⟨#[]⟩, .string ⟨#[]⟩] 23) := by
    rw [← hwA]; exact heap_new' _ _ _ rfl
  have C1 := Lib.hid (fun W => rfromInt_any n hn0 hn1 W)
  have C2 := Lib.hid (fun W => rfromInt_any d hd0 hd1 W)
  have C3 := Lib.hid (fun W => rmake_any (str n) (str d) W (str_size hbn) (str_size hbd))
  have HBA := Lib.hid hbA; have H0 := Lib.hid h0
  generalize mkS (str n) (str d) = o at *
  generalize str n = a at *
  generalize str d = b at *
  clear hbA h0 hbn hbd
  go_enter Tryz.func32, Tryz.ntmps32
  go_wp2_with fail
  (with_reducible refine (C1.out _).mono ?_)
  rintro e w1 ⟨rfl, hb1⟩
  have HB1 := Lib.hid (below1 HBA.out hb1)
  have H1 := Lib.hid (bl_up H0.out hb1)
  clear hb1
  go_wp2_with fail
  (with_reducible refine (C2.out _).mono ?_)
  rintro e w2 ⟨rfl, hb2⟩
  have HB2 := Lib.hid (below1 HB1.out hb2)
  have H2 := Lib.hid (bl_up H1.out hb2)
  clear hb2
  go_wp2_with fail
  (with_reducible refine (C3.out _).mono ?_)
  rintro e w3 ⟨rfl, hb3⟩
  have HB3 := Lib.hid (below1 HB2.out hb3)
  have H3 := bl_up H2.out hb3
  clear hb3
  obtain ⟨r1, r2, r3, r4⟩ := box2 H3
  obtain ⟨s1, s2, _, _⟩ := box2 (put2_heap H3 (.string (oN o)) (.string (oD o)))
  have HP := Lib.hid (show QOut w o (.returned (.tuple #[.agg #[.string (oN o), .string (oD o)], .int .i64 (oE o)])) (put2 w3 w.heap.size (.string (oN o)) (.string (oD o))) from ⟨rfl, put2_below HB3.out (Nat.le_refl _) _ _⟩)
  clear H3
  generalize oN o = x at *
  generalize oD o = y at *
  generalize oE o = k at *
  go_wp2
  refine bodyPost_ret (v := .tuple #[.agg #[.string x, .string y], .int .i64 k]) (by simp [results, Tryz.results32, go_sem, s1, s2]) rfl ?_
  exact HP.out
end Go.Proofs.YtcjcafekacceiaaGreatDoor
