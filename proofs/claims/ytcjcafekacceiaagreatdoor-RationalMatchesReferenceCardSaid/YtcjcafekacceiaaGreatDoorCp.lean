/- Compare, walked: by whole parts, and what is left upside down. -/
import Derived.ScopeJumps
import Derived.WalkMore
import Derived.Test.YtcjcafekacceiaaGreatDoorRn
namespace Go.Proofs.YtcjcafekacceiaaGreatDoor
open Go.RowKit

section
variable {P : Program} {a : Act} {w : World} {Q : Exit → Act → World → Prop}
theorem wp_skip_seq {r : Code} (h : r.wp P Q a w) : (Code.skip.seq r).wp P Q a w := wp_seq (wp_skip h)
theorem wp_scope_jumps2 {c rest : Code} (l : Nat) (J : Act → World → Prop) (μ : Act → World → Nat) (hf : findLabel c l = some (Code.skip.seq rest))
    (pass : ∀ a w, J a w → rest.wp P (Exit.jump l (fun a' w' => J a' w' ∧ μ a' w' < μ a w) Q) a w)
    (first : (∀ a w, J a w → rest.wp P (Exit.jump l J Q) a w) → c.wp P (Exit.jump l J Q) a w) : (Code.scope c).wp P Q a w :=
  wp_scope_jumps l J μ hf (first (fun a w h => wp_mono (pass a w h) (fun e a w he => by
    cases e with
    | goto l' => exact ⟨he.1, he.2.1⟩
    | normal => exact he
    | exit _ => exact he
    | ret => exact he
    | panic _ => exact he
    | outgrown => exact he))) (fun a w h => wp_skip_seq (pass a w h))
end
/-- What the blocks hold at the label. -/
def CpR (w : World) (n0 : Nat) (z : Int) (wr : World) : Prop :=
  ∃ n d m c : Int, (Big n ∧ Big d ∧ Big m ∧ Big c) ∧ (0 < d ∧ 0 < c) ∧ wr.heap[n0]? = some (.cells #[.string (str n), .string (str d)] 23) ∧ wr.heap[n0 + 1]? = some (.cells #[.string (str m), .string (str c)] 23) ∧
    Below w.heap.size w wr ∧ cmpZ (n * c) (m * d) = z
def CpJ (w : World) (n0 : Nat) (z : Int) (a' : Act) (w' : World) : Prop := ∃ u0 u1 u4 u5 u6 u7 u8 u9 u10 u11 u12 u13 u14 u15 u16 u17 u18 u19 u20 u21 u22 u23 u24 u25 u26 u27 u28 u29 u30 u31 u32 u33 u34 u35 u36 u37 u38 u39 u40 u41 u42 u43 u44 u45 u46 u47 u48 u49 u50 u51 u52 u53 u54 u55 u56 u57 u58 u59 u60 : Value, a' = { tmps := #[u0, u1, .pointer (some ⟨n0, 0, none⟩), .pointer (some ⟨n0 + 1, 0, none⟩), u4, u5, u6, u7, u8, u9, u10, u11, u12, u13, u14, u15, u16, u17, u18, u19, u20, u21, u22, u23, u24, u25, u26, u27, u28, u29, u30, u31, u32, u33, u34, u35, u36, u37, u38, u39, u40, u41, u42, u43, u44, u45, u46, u47, u48, u49, u50, u51, u52, u53, u54, u55, u56, u57, u58, u59, u60], defers := [] } ∧ CpR w n0 z w'
def denOf (W : World) (b : Nat) : Nat := match W.cell? ⟨b, 1, none⟩ with | some (.string s) => (nS s).toNat | _ => 0
theorem denOf_eq {W : World} {b : Nat} {n d : Int} {T : TypeId} (h : W.heap[b]? = some (.cells #[.string (str n), .string (str d)] T)) (hd : Big d) : denOf W b = d.toNat := by
  obtain ⟨_, q2, _, _⟩ := box2 h
  unfold denOf
  rw [q2]
  show (nS (str d)).toNat = _
  rw [nS_str hd]
theorem str0_eq {z : Int} : ((str z).toList == [48]) = decide (z = 0) := by
  rw [ByteArray.toList_eq, str_data, show ([48] : List UInt8) = shw 0 from by decide +kernel]
  by_cases h : z = 0
  · subst h; simp
  · simp only [h, decide_false, beq_eq_false_iff_ne]
    exact fun e => h (shw_inj _ _ e)
theorem big_mod {x y : Int} (hy : Big y) (h : 0 < y) : Big (x % y) := by
  have h1 := Int.emod_nonneg x (show y ≠ 0 by omega)
  have h2 := Int.emod_lt_of_pos x h
  unfold Big at *
  omega
theorem cmpZ_zero {x y : Int} : cmpZ x y = 0 ↔ x = y := by
  unfold cmpZ
  split
  · constructor
    · intro h; cases h
    · intro h; omega
  · split
    · constructor
      · intro h; cases h
      · intro h; omega
    · constructor
      · intro _; omega
      · intro _; rfl

set_option maxRecDepth 100000 in
set_option maxHeartbeats 4000000 in
theorem qcmp_any (p q : Rat) (hp : BQ p) (hq : BQ q) (w : World) (ht : Tb w) :
    Calls Tryz.prog 20 #[.agg #[.string (str p.num), .string (str (p.den : Int))], .agg #[.string (str q.num), .string (str (q.den : Int))]] w (IntOut w (cmpQ p q)) := by
  obtain ⟨wA, hwA⟩ : ∃ wA, (w.alloc (.cells #[.string (str p.num), .string (str (p.den : Int))] 23)).alloc (.cells #[.string (str q.num), .string (str (q.den : Int))] 23) = wA := ⟨_, rfl⟩
  have hbA : Below w.heap.size w wA := by rw [← hwA]; exact ((Below.refl w.heap.size w).alloc (Nat.le_refl _) _).alloc (by simp) _
  have h0 : wA.heap[w.heap.size]? = some (.cells #[.string (str p.num), .string (str (p.den : Int))] 23) := by
    rw [← hwA]; exact (Below.heap_alloc _ _ _ (by simp)).trans (heap_new' _ _ _ rfl)
  have h1 : wA.heap[w.heap.size + 1]? = some (.cells #[.string (str q.num), .string (str (q.den : Int))] 23) := by
    rw [← hwA]; exact heap_new' _ _ _ (by simp)
  have HT := Lib.hid (fun W (hW : Below w.heap.size w W) => ht.below hW)
  have hzz := cmpQ_cross p q
  obtain ⟨z, hz⟩ : ∃ z, cmpQ p q = z := ⟨_, rfl⟩
  rw [hz] at hzz
  rw [hz]
  have HZ := Lib.hid hzz.symm
  have V1 := Lib.hid (fun W (hW : Below w.heap.size w W) => qvalid_any (str p.num) (str (p.den : Int)) W (str_size hp.1) (str_size hp.2) (ht.below hW))
  rw [fV_str hp] at V1
  have V2 := Lib.hid (fun W (hW : Below w.heap.size w W) => qvalid_any (str q.num) (str (q.den : Int)) W (str_size hq.1) (str_size hq.2) (ht.below hW))
  rw [fV_str hq] at V2
  have HP := Lib.hid hp; have HQ := Lib.hid hq; have HBA := Lib.hid hbA; have H0 := Lib.hid h0; have H1 := Lib.hid h1
  obtain ⟨k0, k1, _, _⟩ := box2 h0
  have PD := Lib.hid (q_den_pos p); have QD := Lib.hid (q_den_pos q)
  have CJ := Lib.hid (show CpR w w.heap.size z wA from ⟨p.num, (p.den : Int), q.num, (q.den : Int), ⟨HP.out.1, HP.out.2, HQ.out.1, HQ.out.2⟩, ⟨PD.out, QD.out⟩, h0, h1, hbA, hzz.symm⟩)
  have CJ2 := Lib.hid (fun W (hW : Below wA.heap.size wA W) => show CpR w w.heap.size z W from ⟨p.num, (p.den : Int), q.num, (q.den : Int), ⟨HP.out.1, HP.out.2, HQ.out.1, HQ.out.2⟩, ⟨PD.out, QD.out⟩, bl_up H0.out hW, bl_up H1.out hW, below1 HBA.out hW, HZ.out⟩)
  have BQ1 := Lib.hid (fun W (hW : Below wA.heap.size wA W) => box2 (bl_up H1.out hW))
  generalize str p.num = pn at *
  generalize str (p.den : Int) = pd at *
  generalize str q.num = qn at *
  generalize str (q.den : Int) = qd at *
  clear hp hq hbA h0 h1 hzz hz ht
  go_enter Tryz.func20, Tryz.ntmps20
  go_wp2
  obtain ⟨n0, hn0⟩ : ∃ n0, w.heap.size = n0 := ⟨_, rfl⟩
  refine wp_scope_jumps2 0 (CpJ w w.heap.size z) (fun _ W => denOf W w.heap.size + denOf W (w.heap.size + 1)) rfl ?_ ?_
  · clear CJ CJ2 V1 V2 BQ1 k0 k1
    rintro a' wr ⟨u0, u1, u4, u5, u6, u7, u8, u9, u10, u11, u12, u13, u14, u15, u16, u17, u18, u19, u20, u21, u22, u23, u24, u25, u26, u27, u28, u29, u30, u31, u32, u33, u34, u35, u36, u37, u38, u39, u40, u41, u42, u43, u44, u45, u46, u47, u48, u49, u50, u51, u52, u53, u54, u55, u56, u57, u58, u59, u60, rfl, n, d, m, c, ⟨bn, bd, bm, bc⟩, ⟨hd, hc⟩, e0, e1, hB, hcz⟩
    have B0 := e0; have B1 := e1
    have K0 := Lib.hid (fun W (hW : Below wr.heap.size wr W) => bl_up e0 hW)
    have K1 := Lib.hid (fun W (hW : Below wr.heap.size wr W) => bl_up e1 hW)
    have HB := Lib.hid hB; have HN := Lib.hid hn0
    have ND := Lib.hid (denOf_eq e0 bd); have MC := Lib.hid (denOf_eq e1 bc)
    obtain ⟨x1, x2, _, _⟩ := box2 e0
    obtain ⟨f1, f2⟩ := cf_step (n := n) (m := m) hd hc
    rw [hcz] at f1 f2
    have hr0 := Int.emod_nonneg n (show d ≠ 0 by omega)
    have hr1 := Int.emod_lt_of_pos n hd
    have hs0 := Int.emod_nonneg m (show c ≠ 0 by omega)
    have hs1 := Int.emod_lt_of_pos m hc
    have br := big_mod (x := n) bd hd
    have bs := big_mod (x := m) bc hc
    have D1 := Lib.hid (fun W (hW : Below w.heap.size w W) => div_str bn bd (show d ≠ 0 by omega) W (HT.out W hW))
    have D2 := Lib.hid (fun W (hW : Below w.heap.size w W) => div_str bm bc (show c ≠ 0 by omega) W (HT.out W hW))
    have C1 := Lib.hid (fun W => cmp_str (big_div n d bn) (big_div m c bm) W)
    have C2 := Lib.hid (fun W => cmp_str br bs W)
    have zr := str0_eq (z := n % d)
    have zs := str0_eq (z := m % c)
    obtain ⟨r, hr⟩ : ∃ r, n % d = r := ⟨_, rfl⟩
    obtain ⟨s, hs⟩ : ∃ s, m % c = s := ⟨_, rfl⟩
    obtain ⟨Q, hQ⟩ : ∃ Q, n / d = Q := ⟨_, rfl⟩
    obtain ⟨M, hM⟩ : ∃ M, m / c = M := ⟨_, rfl⟩
    rw [hr, hs] at f2 C2
    rw [hr] at zr hr0 hr1 D1 br
    rw [hs] at zs hs0 hs1 D2 bs
    rw [hQ, hM] at f1 f2 C1
    rw [hQ] at D1
    rw [hM] at D2
    have hend := fun h => cf_end (r := r) (s := s) hd hc hr0 hs0 h
    have F1 := Lib.hid f1; have F2 := Lib.hid f2; have HE := Lib.hid hend
    have BR := Lib.hid br; have BS := Lib.hid bs; have BD := Lib.hid bd; have BC := Lib.hid bc
    -- what is left, as the label wants it
    have NX := Lib.hid (fun (W : World) (hW : Below w.heap.size w W) (g0 : W.heap[w.heap.size]? = some (.cells #[.string (str c), .string (str s)] 23)) (g1 : W.heap[w.heap.size + 1]? = some (.cells #[.string (str d), .string (str r)] 23)) (hQM : Q = M) (hrn : r ≠ 0) (hsn : s ≠ 0) =>
      show CpR w w.heap.size z W from ⟨c, s, d, r, ⟨BC.out, BS.out, BD.out, BR.out⟩, ⟨by omega, by omega⟩, g0, g1, hW, by rw [F2.out hQM, Int.mul_comm c r, Int.mul_comm d s]⟩)
    have MU := Lib.hid (fun (W : World) (g0 : W.heap[w.heap.size]? = some (.cells #[.string (str c), .string (str s)] 23)) (g1 : W.heap[w.heap.size + 1]? = some (.cells #[.string (str d), .string (str r)] 23)) =>
      show denOf W w.heap.size + denOf W (w.heap.size + 1) < denOf wr w.heap.size + denOf wr (w.heap.size + 1) from by
        rw [denOf_eq g0 BS.out, denOf_eq g1 BR.out, ND.out, MC.out]; omega)
    obtain ⟨k1, hk1⟩ : ∃ k1, cmpZ Q M = k1 := ⟨_, rfl⟩
    obtain ⟨k2, hk2⟩ : ∃ k2, cmpZ r s = k2 := ⟨_, rfl⟩
    rw [hk1] at C1
    rw [hk2] at C2
    have HK1 := Lib.hid hk1; have HK2 := Lib.hid hk2
    obtain ⟨tn, htn⟩ : ∃ t, str n = t := ⟨_, rfl⟩
    obtain ⟨td, htd⟩ : ∃ t, str d = t := ⟨_, rfl⟩
    obtain ⟨tm, htm⟩ : ∃ t, str m = t := ⟨_, rfl⟩
    obtain ⟨tc, htc⟩ : ∃ t, str c = t := ⟨_, rfl⟩
    obtain ⟨tr, htr⟩ : ∃ t, str r = t := ⟨_, rfl⟩
    obtain ⟨ts, hts⟩ : ∃ t, str s = t := ⟨_, rfl⟩
    obtain ⟨tQ, htQ⟩ : ∃ t, str Q = t := ⟨_, rfl⟩
    obtain ⟨tM, htM⟩ : ∃ t, str M = t := ⟨_, rfl⟩
    rw [htn] at x1 K0
    rw [htd] at x2 K0
    rw [htm, htc] at K1
    rw [htn, htd, htQ, htr] at D1
    rw [htm, htc, htM, hts] at D2
    rw [htQ, htM] at C1
    rw [htr, hts] at C2
    rw [htr] at zr
    rw [hts] at zs
    rw [htc, hts, htd, htr] at NX MU
    have hkz : k1 = 0 ↔ Q = M := by rw [← hk1]; exact cmpZ_zero
    obtain ⟨b1, hb1⟩ : ∃ b1, decide (r = 0) = b1 := ⟨_, rfl⟩
    obtain ⟨b2, hb2⟩ : ∃ b2, decide (s = 0) = b2 := ⟨_, rfl⟩
    rw [hb1] at zr
    rw [hb2] at zs
    have HKZ := Lib.hid hkz; have HB1 := Lib.hid hb1; have HB2 := Lib.hid hb2
    have ZR := Lib.hid zr; have ZS := Lib.hid zs
    clear B0 B1 e0 e1 hB f1 f2 hend br bs bn bm bd bc hd hc hr0 hr1 hs0 hs1 hr hs hQ hM hcz htn htd htm htc htr hts htQ htM hk1 hk2 hkz hb1 hb2 hn0 zr zs
    go_wp2_with fail
    (with_reducible refine (D1.out _ HB.out).mono ?_)
    rintro e w1 ⟨rfl, hb1⟩
    have W1 := Lib.hid hb1
    obtain ⟨y1, y2, _, _⟩ := box2 (K1.out _ hb1)
    clear hb1 x1 x2
    go_wp2_with fail
    (with_reducible refine (D2.out _ (below1 HB.out W1.out)).mono ?_)
    rintro e w2 ⟨rfl, hb2⟩
    have W2 := Lib.hid (below1 W1.out hb2)
    clear hb2 y1 y2
    go_wp2_with fail
    (with_reducible refine (C1.out _).mono ?_)
    rintro e w3 ⟨rfl, hb3⟩
    have W3 := Lib.hid (below1 W2.out hb3)
    clear hb3
    by_cases hk : k1 = 0
    · subst hk
      have HQM := Lib.hid (HKZ.out.1 rfl)
      cases b1 with
      | true =>
        have z1 := ZR.out
        go_wp2_with fail
        (with_reducible refine (C2.out _).mono ?_)
        rintro e w4 ⟨rfl, hb4⟩
        have W4 := Lib.hid (below1 W3.out hb4)
        clear hb4
        go_wp2
        simp only [Exit.jump]
        go_ret
        exact ⟨by show Ending.returned (Value.int .i64 k2) = _; rw [F2.out HQM.out, HE.out (.inl (of_decide_eq_true HB1.out)), HK2.out], below1 HB.out W4.out⟩
      | false =>
        have z1 := ZR.out
        cases b2 with
        | true =>
          have z2 := ZS.out
          go_wp2_with fail
          (with_reducible refine (C2.out _).mono ?_)
          rintro e w4 ⟨rfl, hb4⟩
          have W4 := Lib.hid (below1 W3.out hb4)
          clear hb4
          go_wp2
          simp only [Exit.jump]
          go_ret
          exact ⟨by show Ending.returned (Value.int .i64 k2) = _; rw [F2.out HQM.out, HE.out (.inr (of_decide_eq_true HB2.out)), HK2.out], below1 HB.out W4.out⟩
        | false =>
          have z2 := ZS.out
          have A0 := K0.out _ W3.out
          have A1 := K1.out _ W3.out
          obtain ⟨x1, x2, x3, x4⟩ := box2 A0
          obtain ⟨y1, y2, y3, y4⟩ := box2 A1
          have P0 := put2_heap A0 (.string tc) (.string ts)
          have P1 : (put2 w3 w.heap.size (.string tc) (.string ts)).heap[w.heap.size + 1]? = some (.cells #[.string tm, .string tc] 23) := (put2_other _ _ (by omega)).trans A1
          obtain ⟨v1, v2, v3, v4⟩ := box2 P1
          have P2 := put2_heap P1 (.string td) (.string tr)
          have P3 : (put2 (put2 w3 w.heap.size (.string tc) (.string ts)) (w.heap.size + 1) (.string td) (.string tr)).heap[w.heap.size]? = some (.cells #[.string tc, .string ts] 23) := (put2_other _ _ (by omega)).trans P0
          have HP2 := Lib.hid P2; have HP3 := Lib.hid P3
          have HBX := Lib.hid (put2_below (put2_below (below1 HB.out W3.out) (Nat.le_refl _) (.string tc) (.string ts)) (show w.heap.size ≤ w.heap.size + 1 by omega) (.string td) (.string tr))
          clear A0 A1 P0 P1 P2 P3
          go_wp2
          go_step3
          refine ⟨rfl, ⟨_, _, _, _, _, _, _, _, _, _, _, _, _, _, _, _, _, _, _, _, _, _, _, _, _, _, _, _, _, _, _, _, _, _, _, _, _, _, _, _, _, _, _, _, _, _, _, _, _, _, _, _, _, _, _, _, _, _, _, rfl, NX.out _ HBX.out HP3.out HP2.out HQM.out (of_decide_eq_false HB1.out) (of_decide_eq_false HB2.out)⟩, MU.out _ HP3.out HP2.out⟩
    · have hne : Q ≠ M := fun h => hk (HKZ.out.2 h)
      have HNE := Lib.hid hne
      have hkb : (k1 != 0) = true := by simpa using hk
      clear hk hne
      go_wp2
      simp only [Exit.jump]
      go_ret
      exact ⟨by show Ending.returned (Value.int .i64 k1) = _; rw [F1.out HNE.out, HK1.out], below1 HB.out W3.out⟩
  · intro hfirst
    have HFI := Lib.hid hfirst
    clear hfirst hn0
    go_wp2_with fail
    (with_reducible refine (V1.out _ HBA.out).mono ?_)
    rintro e w1 ⟨rfl, hb1⟩
    have HB1 := Lib.hid hb1; have HB1w := Lib.hid (below1 HBA.out hb1)
    obtain ⟨k2, k3, _, _⟩ := BQ1.out _ hb1
    clear hb1
    go_wp2_with fail
    (with_reducible refine (V2.out _ HB1w.out).mono ?_)
    rintro e w2 ⟨rfl, hb2⟩
    have HC := Lib.hid (CJ2.out _ (below1 HB1.out hb2))
    clear hb2 k2 k3
    go_wp2
    go_step3
    rename_i hK
    exact hK _ _ (HFI.out _ _ ⟨_, _, _, _, _, _, _, _, _, _, _, _, _, _, _, _, _, _, _, _, _, _, _, _, _, _, _, _, _, _, _, _, _, _, _, _, _, _, _, _, _, _, _, _, _, _, _, _, _, _, _, _, _, _, _, _, _, _, _, rfl, HC.out⟩)
end Go.Proofs.YtcjcafekacceiaaGreatDoor
