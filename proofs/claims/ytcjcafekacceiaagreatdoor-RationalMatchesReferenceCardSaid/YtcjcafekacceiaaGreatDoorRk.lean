/- The reference's Compare, walked: by whole parts, and what is left upside down, with a sign. -/
import Derived.Test.YtcjcafekacceiaaGreatDoorRg
namespace Go.Proofs.YtcjcafekacceiaaGreatDoor
open Go.RowKit
set_option linter.unusedVariables false
set_option linter.unusedSimpArgs false

def ZoOut (w : World) (s : ByteArray) (e : Ending) (w' : World) : Prop := e = .returned (.string s) ∧ w = w'
theorem rzero_yes (s : ByteArray) (h : (s.toList == [48]) = true) (w : World) : Calls Tryz.prog 54 #[.string s] w (ZoOut w s) := by
  go_enter Tryz.func54, Tryz.ntmps54
  go_wp2
  go_ret
  exact ⟨rfl, rfl⟩
theorem rzero_no (s : ByteArray) (h : (s.toList == [48]) = false) (w : World) : Calls Tryz.prog 54 #[.string s] w (ZoOut w ⟨#[49]⟩) := by
  go_enter Tryz.func54, Tryz.ntmps54
  go_wp2
  go_ret
  exact ⟨rfl, rfl⟩
/-- What is compared of two remainders, one of which is 0. -/
def zo (r : Int) : ByteArray := if r = 0 then ⟨#[48]⟩ else ⟨#[49]⟩
theorem zo_cmp {r s : Int} (hr : 0 ≤ r) (hs : 0 ≤ s) (h : r = 0 ∨ s = 0) : cmpS (zo r) (zo s) = cmpZ r s := by
  have e : ∀ z : Int, zo z = str (if z = 0 then 0 else 1) := fun z => by unfold zo; split; exact str0; exact str1
  have b : ∀ z : Int, Big (if z = 0 then 0 else 1) := fun z => by split; exact big0; exact big1
  rw [e, e, cmpS_ok (b r) (b s)]
  unfold cmpZ
  by_cases h1 : r = 0
  · rw [if_pos h1]
    by_cases h2 : s = 0
    · rw [if_pos h2, h1, h2]
    · rw [if_neg h2, if_pos (by omega), if_pos (by omega)]
  · rw [if_neg h1]
    by_cases h2 : s = 0
    · rw [if_pos h2, if_neg (by omega), if_pos (by omega), if_neg (by omega), if_pos (by omega)]
    · omega
theorem zo_size (z : Int) : (zo z).size ≤ 9223372036854775807 := by unfold zo; split <;> decide
theorem rzero_z {z : Int} (W : World) : Calls Tryz.prog 54 #[.string (str z)] W (ZoOut W (zo z)) := by
  have h := str0_eq (z := z)
  by_cases hz : z = 0
  · rw [decide_eq_true hz] at h
    have := rzero_yes (str z) h W
    unfold zo
    rw [if_pos hz]
    rw [show (⟨#[48]⟩ : ByteArray) = str z from by rw [hz]; exact str0]
    exact this
  · rw [decide_eq_false hz] at h
    have := rzero_no (str z) h W
    unfold zo
    rw [if_neg hz]; exact this
theorem ret_i {k : IntKind} {a b : Int} (h : a = b) : Ending.returned (.int k a) = .returned (.int k b) := by rw [h]
theorem cmpZ_r (x y : Int) : -1 ≤ cmpZ x y ∧ cmpZ x y ≤ 1 := by unfold cmpZ; split <;> (try split) <;> omega
/-- What the loop holds. -/
def CkR (w : World) (z : Int) (sg vn vd vm vc : Value) (wr : World) : Prop :=
  ∃ n d m c k : Int, (sg = .int .i64 k ∧ vn = .string (str n) ∧ vd = .string (str d) ∧ vm = .string (str m) ∧ vc = .string (str c)) ∧ (k = 1 ∨ k = -1) ∧ (Big n ∧ Big d ∧ Big m ∧ Big c) ∧ (0 < d ∧ 0 < c) ∧ Below w.heap.size w wr ∧ k * cmpZ (n * c) (m * d) = z
def denV (v : Value) : Nat := match v with | .string s => (nS s).toNat | _ => 0
theorem denV_eq {d : Int} (h : Big d) : denV (.string (str d)) = d.toNat := by show (nS (str d)).toNat = _; rw [nS_str h]
theorem cmpZ_flip (x y : Int) : cmpZ x y = -cmpZ y x := by unfold cmpZ; split <;> split <;> (try split) <;> omega

set_option maxRecDepth 100000 in
set_option maxHeartbeats 4000000 in
theorem rqcmp_no (p q : Pr) (w : World) (hsp : p.1.size ≤ 9223372036854775807 ∧ p.2.size ≤ 9223372036854775807) (hsq : q.1.size ≤ 9223372036854775807 ∧ q.2.size ≤ 9223372036854775807) (hno : (fVp p && fVp q) = false) :
    Calls Tryz.prog 21 #[.agg #[.string p.1, .string p.2], .agg #[.string q.1, .string q.2]] w (IntOut w 0) := by
  have CA := Lib.hid (fun W => rqvalid_any p.1 p.2 W hsp.1 hsp.2)
  have CB := Lib.hid (fun W => rqvalid_any q.1 q.2 W hsq.1 hsq.2)
  have hw : fVp p = false ∨ (fVp p = true ∧ fVp q = false) := by
    cases h1 : fVp p with
    | false => exact .inl rfl
    | true => rw [h1] at hno; exact .inr ⟨rfl, hno⟩
  unfold fVp at hw
  clear hno hsp hsq
  obtain ⟨pa, pb⟩ := p
  obtain ⟨qa, qb⟩ := q
  simp only at CA CB hw ⊢
  generalize fV pa pb = va at *
  generalize fV qa qb = vb at *
  obtain ⟨wA, hwA⟩ : ∃ wA, ((w).alloc (.cells #[.string pa, .string pb] 23)).alloc (.cells #[.string qa, .string qb] 23) = wA := ⟨_, rfl⟩
  have B0 := Lib.hid (show Below w.heap.size w wA by rw [← hwA]; exact ((Below.refl w.heap.size w).alloc (Nat.le_refl _) _).alloc (by simp <;> omega) _)
  have Ka := Lib.hid (show wA.heap[w.heap.size]? = some (.cells #[.string pa, .string pb] 23) by rw [← hwA]; exact (Below.heap_alloc _ _ _ (by simp <;> omega)).trans (heap_new' _ _ _ rfl))
  have Kb := Lib.hid (show wA.heap[w.heap.size + 1]? = some (.cells #[.string qa, .string qb] 23) by rw [← hwA]; exact heap_new' _ _ _ (by simp))
  rcases hw with rfl | ⟨rfl, rfl⟩
  ·
    go_enter Tryz.func21, Tryz.ntmps21
    obtain ⟨a_1, a_2, _, _⟩ := box2 Ka.out
    go_wp2_with fail
    (with_reducible refine (CA.out _).mono ?_)
    rintro e w1 ⟨rfl, hb⟩
    replace B0 := Lib.hid (below1 B0.out hb)
    replace Ka := Lib.hid (bl_up Ka.out hb)
    replace Kb := Lib.hid (bl_up Kb.out hb)
    clear hb
    clear a_1 a_2
    obtain ⟨b_1, b_2, _, _⟩ := box2 Kb.out
    go_wp2_with fail
    (with_reducible refine (CB.out _).mono ?_)
    rintro e w2 ⟨rfl, hb⟩
    replace B0 := Lib.hid (below1 B0.out hb)
    replace Ka := Lib.hid (bl_up Ka.out hb)
    replace Kb := Lib.hid (bl_up Kb.out hb)
    clear hb
    clear b_1 b_2
    have HF := Lib.hid B0.out
    clear Ka Kb
    go_wp2
    go_ret
    exact ⟨rfl, HF.out⟩
  ·
    go_enter Tryz.func21, Tryz.ntmps21
    obtain ⟨a_1, a_2, _, _⟩ := box2 Ka.out
    go_wp2_with fail
    (with_reducible refine (CA.out _).mono ?_)
    rintro e w1 ⟨rfl, hb⟩
    replace B0 := Lib.hid (below1 B0.out hb)
    replace Ka := Lib.hid (bl_up Ka.out hb)
    replace Kb := Lib.hid (bl_up Kb.out hb)
    clear hb
    clear a_1 a_2
    obtain ⟨b_1, b_2, _, _⟩ := box2 Kb.out
    go_wp2_with fail
    (with_reducible refine (CB.out _).mono ?_)
    rintro e w2 ⟨rfl, hb⟩
    replace B0 := Lib.hid (below1 B0.out hb)
    replace Ka := Lib.hid (bl_up Ka.out hb)
    replace Kb := Lib.hid (bl_up Kb.out hb)
    clear hb
    clear b_1 b_2
    have HF := Lib.hid B0.out
    clear Ka Kb
    go_wp2
    go_ret
    exact ⟨rfl, HF.out⟩
set_option maxRecDepth 100000 in
set_option maxHeartbeats 4000000 in
theorem rqcmp_q (p q : Rat) (hp : BQ p) (hq : BQ q) (w : World) :
    Calls Tryz.prog 21 #[.agg #[.string (str p.num), .string (str (p.den : Int))], .agg #[.string (str q.num), .string (str (q.den : Int))]] w (IntOut w (cmpQ p q)) := by
  have CA := Lib.hid (fun W => rqvalid_any (str p.num) (str (p.den : Int)) W (str_size hp.1) (str_size hp.2))
  have CB := Lib.hid (fun W => rqvalid_any (str q.num) (str (q.den : Int)) W (str_size hq.1) (str_size hq.2))
  rw [fV_str hp] at CA
  rw [fV_str hq] at CB
  have hzz := cmpQ_cross p q
  obtain ⟨z, hz⟩ : ∃ z, cmpQ p q = z := ⟨_, rfl⟩
  rw [hz] at hzz
  rw [hz]
  have CJ := Lib.hid (fun W (hW : Below w.heap.size w W) => show CkR w z (.int .i64 1) (.string (str p.num)) (.string (str (p.den : Int))) (.string (str q.num)) (.string (str (q.den : Int))) W from ⟨p.num, (p.den : Int), q.num, (q.den : Int), 1, ⟨rfl, rfl, rfl, rfl, rfl⟩, .inl rfl, ⟨hp.1, hp.2, hq.1, hq.2⟩, ⟨q_den_pos p, q_den_pos q⟩, hW, by rw [Int.one_mul, ← hzz]⟩)
  generalize str p.num = pa at *
  generalize str (p.den : Int) = pb at *
  generalize str q.num = qa at *
  generalize str (q.den : Int) = qb at *
  clear hp hq hzz hz
  obtain ⟨wA, hwA⟩ : ∃ wA, ((w).alloc (.cells #[.string pa, .string pb] 23)).alloc (.cells #[.string qa, .string qb] 23) = wA := ⟨_, rfl⟩
  have B0 := Lib.hid (show Below w.heap.size w wA by rw [← hwA]; exact ((Below.refl w.heap.size w).alloc (Nat.le_refl _) _).alloc (by simp <;> omega) _)
  have Ka := Lib.hid (show wA.heap[w.heap.size]? = some (.cells #[.string pa, .string pb] 23) by rw [← hwA]; exact (Below.heap_alloc _ _ _ (by simp <;> omega)).trans (heap_new' _ _ _ rfl))
  have Kb := Lib.hid (show wA.heap[w.heap.size + 1]? = some (.cells #[.string qa, .string qb] 23) by rw [← hwA]; exact heap_new' _ _ _ (by simp))
  go_enter Tryz.func21, Tryz.ntmps21
  obtain ⟨a_1, a_2, _, _⟩ := box2 Ka.out
  go_wp2_with fail
  (with_reducible refine (CA.out _).mono ?_)
  rintro e w3 ⟨rfl, hb⟩
  replace B0 := Lib.hid (below1 B0.out hb)
  replace Ka := Lib.hid (bl_up Ka.out hb)
  replace Kb := Lib.hid (bl_up Kb.out hb)
  clear hb
  clear a_1 a_2
  obtain ⟨b_1, b_2, _, _⟩ := box2 Kb.out
  go_wp2_with fail
  (with_reducible refine (CB.out _).mono ?_)
  rintro e w4 ⟨rfl, hb⟩
  replace B0 := Lib.hid (below1 B0.out hb)
  replace Ka := Lib.hid (bl_up Ka.out hb)
  replace Kb := Lib.hid (bl_up Kb.out hb)
  clear hb
  clear b_1 b_2
  clear CA CB
  obtain ⟨a_1, a_2, _, _⟩ := box2 Ka.out
  obtain ⟨b_1, b_2, _, _⟩ := box2 Kb.out
  have HI := CJ.out _ B0.out
  clear Ka Kb CJ hwA
  go_wp2
  go_loopw [7, 8, 9, 10, 11] (fun sg vn vd vm vc wr => CkR w z sg vn vd vm vc wr) (fun _ _ vd _ vc _ => denV vd + denV vc)
  case atStart => exact HI
  case round =>
    clear HI a_1 a_2 b_1 b_2 B0
    obtain ⟨n, d, m, c, k, ⟨rfl, rfl, rfl, rfl, rfl⟩, hk, ⟨bn, bd, bm, bc⟩, ⟨hd, hc⟩, hB, hcz⟩ := hrel
    have HB := Lib.hid hB
    obtain ⟨f1, f2⟩ := cf_step (n := n) (m := m) hd hc
    have hr0 := Int.emod_nonneg n (show d ≠ 0 by omega)
    have hr1 := Int.emod_lt_of_pos n hd
    have hs0 := Int.emod_nonneg m (show c ≠ 0 by omega)
    have hs1 := Int.emod_lt_of_pos m hc
    have br := big_mod (x := n) bd hd
    have bs := big_mod (x := m) bc hc
    have QD : ∀ x y : Int, Big x → Big y → y ≠ 0 → ∀ W, Calls Tryz.prog 52 #[.string (str x), .string (str y)] W (DivsOut W (str (x / y)) (str (x % y)) 0) := fun x y hx hy h0 W => by
      have := rdiv_any (str x) (str y) W (str_size hx) (str_size hy)
      have hv : divV (str x) (str y) = true := by unfold divV; rw [(vS_str x).2 hx, (vS_str y).2 hy, nS_str hy]; simpa using h0
      unfold divQ divR divE at this
      rw [hv, nS_str hx, nS_str hy] at this
      exact this
    have D1 := Lib.hid (QD n d bn bd (by omega))
    have D2 := Lib.hid (QD m c bm bc (by omega))
    have C1 := Lib.hid (fun W => rcmp_any (str (n / d)) (str (m / c)) W (str_size (big_div n d bn)) (str_size (big_div m c bm)))
    rw [cmpS_ok (big_div n d bn) (big_div m c bm)] at C1
    have C2 := Lib.hid (fun W => rcmp_any (zo (n % d)) (zo (m % c)) W (zo_size _) (zo_size _))
    have Z1 := Lib.hid (fun W => rzero_z (z := n % d) W)
    have Z2 := Lib.hid (fun W => rzero_z (z := m % c) W)
    have zr := str0_eq (z := n % d)
    have zs := str0_eq (z := m % c)
    have g1 := denV_eq bd; have g2 := denV_eq bc; have g3 := denV_eq br; have g4 := denV_eq bs
    obtain ⟨r, hr⟩ : ∃ r, n % d = r := ⟨_, rfl⟩
    obtain ⟨s, hs⟩ : ∃ s, m % c = s := ⟨_, rfl⟩
    obtain ⟨Q, hQ⟩ : ∃ Q, n / d = Q := ⟨_, rfl⟩
    obtain ⟨M, hM⟩ : ∃ M, m / c = M := ⟨_, rfl⟩
    rw [hr] at f2 zr hr0 hr1 D1 br C2 Z1 g3
    rw [hs] at f2 zs hs0 hs1 D2 bs C2 Z2 g4
    rw [hQ] at f1 f2 C1 D1
    rw [hM] at f1 f2 C1 D2
    have hend := fun h => (zo_cmp hr0 hs0 h).trans (cf_end (r := r) (s := s) hd hc hr0 hs0 h).symm
    have hfl := cmpZ_flip (s * d) (r * c)
    have hflip : cmpZ (d * s) (c * r) = -cmpZ (r * c) (s * d) := by rw [Int.mul_comm d s, Int.mul_comm c r]; exact hfl
    have BR := Lib.hid br; have BS := Lib.hid bs; have BD := Lib.hid bd; have BC := Lib.hid bc
    have rg := cmpZ_r Q M
    have rg2 := cmpZ_r (n * c) (m * d)
    -- what is left, as the loop wants it
    have NX := Lib.hid (fun (k' : Int) (W : World) (hW : Below w.heap.size w W) (hQM : Q = M) (hrn : r ≠ 0) (hsn : s ≠ 0) (hk' : k' = -k) =>
      show CkR w z (.int .i64 k') (.string (str d)) (.string (str r)) (.string (str c)) (.string (str s)) W from
        ⟨d, r, c, s, k', ⟨rfl, rfl, rfl, rfl, rfl⟩, by rcases hk with h | h <;> omega, ⟨BD.out, BR.out, BC.out, BS.out⟩, ⟨by omega, by omega⟩, hW, by rw [hk', hflip, ← f2 hQM, Int.neg_mul_neg]; exact hcz⟩)
    have MU := Lib.hid (show denV (.string (str r)) + denV (.string (str s)) < denV (.string (str d)) + denV (.string (str c)) by rw [g1, g2, g3, g4]; omega)
    obtain ⟨k1, hk1⟩ : ∃ k1, cmpZ Q M = k1 := ⟨_, rfl⟩
    obtain ⟨k2, hk2⟩ : ∃ k2, cmpS (zo r) (zo s) = k2 := ⟨_, rfl⟩
    rw [hk1] at C1 rg f1
    rw [hk2] at C2 hend
    have hkz : k1 = 0 ↔ Q = M := by rw [← hk1]; exact cmpZ_zero
    have E1 := Lib.hid (fun h : Q ≠ M => show k * k1 = z by rw [← f1 h]; exact hcz)
    have E2 := Lib.hid (fun (h : r = 0 ∨ s = 0) (h2 : Q = M) => show k * k2 = z by rw [hend h, ← f2 h2]; exact hcz)
    have rg3 : -1 ≤ k2 ∧ k2 ≤ 1 := by rw [← hk2]; unfold cmpS; split; exact cmpZ_r _ _; decide
    obtain ⟨b1, hb1⟩ : ∃ b1, decide (r = 0) = b1 := ⟨_, rfl⟩
    obtain ⟨b2, hb2⟩ : ∃ b2, decide (s = 0) = b2 := ⟨_, rfl⟩
    rw [hb1] at zr
    rw [hb2] at zs
    obtain ⟨tn, htn⟩ : ∃ t, str n = t := ⟨_, rfl⟩
    obtain ⟨td, htd⟩ : ∃ t, str d = t := ⟨_, rfl⟩
    obtain ⟨tm, htm⟩ : ∃ t, str m = t := ⟨_, rfl⟩
    obtain ⟨tc, htc⟩ : ∃ t, str c = t := ⟨_, rfl⟩
    obtain ⟨tr, htr⟩ : ∃ t, str r = t := ⟨_, rfl⟩
    obtain ⟨ts, hts⟩ : ∃ t, str s = t := ⟨_, rfl⟩
    obtain ⟨tQ, htQ⟩ : ∃ t, str Q = t := ⟨_, rfl⟩
    obtain ⟨tM, htM⟩ : ∃ t, str M = t := ⟨_, rfl⟩
    obtain ⟨zor, hzr⟩ : ∃ t, zo r = t := ⟨_, rfl⟩
    obtain ⟨zos, hzs⟩ : ∃ t, zo s = t := ⟨_, rfl⟩
    rw [htn, htd, htQ, htr] at D1
    rw [htm, htc, htM, hts] at D2
    rw [htQ, htM] at C1
    rw [hzr, hzs] at C2
    rw [htr, hzr] at Z1
    rw [hts, hzs] at Z2
    rw [htr] at zr
    rw [hts] at zs
    rw [htc, hts, htd, htr] at NX MU
    rw [htn, htd, htm, htc]
    have HKZ := Lib.hid hkz; have HB1 := Lib.hid hb1; have HB2 := Lib.hid hb2
    have ZR := Lib.hid zr; have ZS := Lib.hid zs; have HK := Lib.hid hk
    have r1 := rg.1; have r2 := rg.2; have r3 := rg3.1; have r4 := rg3.2
    clear hB f1 f2 hend br bs bn bm bd bc hd hc hr0 hr1 hs0 hs1 hr hs hQ hM hcz htn htd htm htc htr hts htQ htM hk1 hk2 hkz hb1 hb2 zr zs g1 g2 g3 g4 hfl hflip rg rg2 rg3 hzr hzs QD
    rcases HK.out with rfl | rfl
    all_goals
      go_wp2_with fail
      (with_reducible refine (D1.out _).mono ?_)
      rintro e w1 ⟨rfl, hb1⟩
      replace HB := Lib.hid (below1 HB.out hb1)
      clear hb1
      go_wp2_with fail
      (with_reducible refine (D2.out _).mono ?_)
      rintro e w2 ⟨rfl, hb1⟩
      replace HB := Lib.hid (below1 HB.out hb1)
      clear hb1
      go_wp2_with fail
      (with_reducible refine (C1.out _).mono ?_)
      rintro e w3 ⟨rfl, hb1⟩
      replace HB := Lib.hid (below1 HB.out hb1)
      clear hb1
      by_cases hk0 : k1 = 0
      · subst hk0
        have HQM := Lib.hid (HKZ.out.1 rfl)
        have hway : b1 = true ∨ (b1 = false ∧ b2 = true) ∨ (b1 = false ∧ b2 = false) := by cases b1 <;> cases b2 <;> simp
        rcases hway with rfl | ⟨rfl, rfl⟩ | ⟨rfl, rfl⟩
        · have z1 := ZR.out
          go_wp2_with fail
          (with_reducible refine (Z1.out _).mono ?_)
          rintro e w4 ⟨rfl, rfl⟩
          go_wp2_with fail
          (with_reducible refine (Z2.out _).mono ?_)
          rintro e w4 ⟨rfl, rfl⟩
          go_wp2_with fail
          (with_reducible refine (C2.out _).mono ?_)
          rintro e w4 ⟨rfl, hb1⟩
          have HF := Lib.hid (below1 HB.out hb1)
          have HE := E2.out (.inl (of_decide_eq_true HB1.out)) HQM.out
          have HEH := Lib.hid HE
          clear hb1 HE
          go_wp2
          go_ret
          exact ⟨ret_i (by have := HEH.out; omega), HF.out⟩
        · have z1 := ZR.out
          have z2 := ZS.out
          go_wp2_with fail
          (with_reducible refine (Z1.out _).mono ?_)
          rintro e w4 ⟨rfl, rfl⟩
          go_wp2_with fail
          (with_reducible refine (Z2.out _).mono ?_)
          rintro e w4 ⟨rfl, rfl⟩
          go_wp2_with fail
          (with_reducible refine (C2.out _).mono ?_)
          rintro e w4 ⟨rfl, hb1⟩
          have HF := Lib.hid (below1 HB.out hb1)
          have HE := E2.out (.inr (of_decide_eq_true HB2.out)) HQM.out
          have HEH := Lib.hid HE
          clear hb1 HE
          go_wp2
          go_ret
          exact ⟨ret_i (by have := HEH.out; omega), HF.out⟩
        · have z1 := ZR.out
          have z2 := ZS.out
          go_wp2
          go_roundw
          case rel => exact NX.out _ _ HB.out HQM.out (of_decide_eq_false HB1.out) (of_decide_eq_false HB2.out) (by omega)
          case measure => exact MU.out
      · have hne : Q ≠ M := fun h => hk0 (HKZ.out.2 h)
        have HEH := Lib.hid (E1.out hne)
        have hkb : (k1 != 0) = true := by simpa using hk0
        clear hk0 hne
        go_wp2
        go_ret
        exact ⟨ret_i (by have := HEH.out; omega), HB.out⟩
theorem rqcmp_any (p q : Pr) (w : World) (hsp : p.1.size ≤ 9223372036854775807 ∧ p.2.size ≤ 9223372036854775807) (hsq : q.1.size ≤ 9223372036854775807 ∧ q.2.size ≤ 9223372036854775807) :
    Calls Tryz.prog 21 #[.agg #[.string p.1, .string p.2], .agg #[.string q.1, .string q.2]] w (IntOut w (cmpO p q)) := by
  cases hv : (fVp p && fVp q) with
  | false =>
    rw [show cmpO p q = 0 from by unfold cmpO; rw [hv]; rfl]
    exact rqcmp_no p q w hsp hsq hv
  | true =>
    have h1 : fVp p = true := by cases h : fVp p with | true => rfl | false => rw [h] at hv; cases hv
    have h2 : fVp q = true := by rw [h1] at hv; exact hv
    obtain ⟨x, bx, hx1, hx2⟩ := fV_q h1
    obtain ⟨y, yb, hy1, hy2⟩ := fV_q h2
    obtain ⟨p1, p2⟩ := p
    obtain ⟨q1, q2⟩ := q
    simp only at hx1 hx2 hy1 hy2
    subst hx1 hx2 hy1 hy2
    rw [cmpO_q bx yb]
    exact rqcmp_q x y bx yb w
end Go.Proofs.YtcjcafekacceiaaGreatDoor
