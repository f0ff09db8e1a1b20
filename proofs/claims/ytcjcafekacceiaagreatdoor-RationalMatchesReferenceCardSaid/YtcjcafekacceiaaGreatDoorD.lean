/- Integer layer, merged: Src, Hld, Dvm, Div. -/
import Derived.Deep.RegionHeld3
import Derived.Deep.QuietTactic
import Derived.BigQuiet
import Derived.RangeFuncBox
import Derived.Deep.DeepCutAuto
import Derived.Sort.CutIn
import Derived.Shelf.RegionOpen
import Derived.Deep.OwnRows
import Derived.Stop.RegionWithIn
import Derived.Test.YtcjcafekacceiaaGreatDoorC
/-! sort.Search and the closure of holds, walked. -/
namespace Go.Proofs.YtcjcafekacceiaaGreatDoor
open Go.RowKit

theorem wrap_in (x : Int) (h : -9223372036854775808 ≤ x ∧ x < 9223372036854775808) : IntKind.i64.wrap x = x := by
  rw [IntKind.wrap_i64]; omega
theorem below1 {w W W' : World} (h : Below w.heap.size w W) (h' : Below W.heap.size W W') : Below w.heap.size w W' := h.trans (h'.mono h.size)
theorem dz_len_mul (d m : Nat) (hm : m < 10000) : (dz 10000 (d * m)).length ≤ (dz 10000 d).length + 1 := by
  rw [len4, Nat.pow_succ]
  have h1 := dz_lt 10000 (by decide) d
  rcases Nat.eq_zero_or_pos m with h | h
  · subst h; rw [Nat.mul_zero]; exact Nat.mul_pos (Nat.pow_pos (by decide)) (by decide)
  · calc d * m < 10000 ^ (dz 10000 d).length * m := Nat.mul_lt_mul_of_pos_right h1 h
      _ ≤ 10000 ^ (dz 10000 d).length * 10000 := Nat.mul_le_mul_left _ (by omega)
theorem cmpN_gt (m n : Nat) : decide (0 < cmpN m n) = decide (n < m) := by
  unfold cmpN
  rcases Nat.lt_trichotomy m n with h | h | h
  · rw [if_pos h]; simp; omega
  · subst h; simp
  · rw [if_neg (by omega), if_pos h]; simp; omega

set_option maxRecDepth 100000 in
set_option maxHeartbeats 2000000 in
theorem over_any (Bm Bl Bn : Nat) (vn vd : Value) (n d l i : Nat) (hn : (dz 10000 n).length ≤ 10000) (hd : (dz 10000 d).length ≤ 10000) (hi : l + i + 1 < 10000) (w : World)
    (hm : w.cell? ⟨Bm, 0, none⟩ = some (.func (.func 134) #[vd] #[])) (hl : w.cell? ⟨Bl, 0, none⟩ = some (.int .i64 l)) (hv : w.cell? ⟨Bn, 0, none⟩ = some vn) (h1 : Nt w vn n) (h2 : Nt w vd d) :
    Calls Tryz.prog 162 #[.int .i64 i, .pointer (some ⟨Bm, 0, none⟩), .pointer (some ⟨Bl, 0, none⟩), .pointer (some ⟨Bn, 0, none⟩)] w fun e w' => e = .returned (.bool (decide (n < d * (l + i + 1)))) ∧ Below w.heap.size w w' := by
  have hlen := dz_len_mul d (l + i + 1) hi
  have HG := Lib.hid (cmpN_gt (d * (l + i + 1)) n)
  have C1 := Lib.hid (fun W (hW : Below w.heap.size w W) => timesGroup_nt W vd d (l + i + 1) (h2.below (Nat.le_refl _) hW) hi (by omega))
  have C2 := Lib.hid (fun W (hW : Below w.heap.size w W) v' (h' : Nt W v' (d * (l + i + 1))) => compare_nt W v' vn _ n h' (h1.below (Nat.le_refl _) hW) (by omega) (by omega))
  have KC := Lib.hid (fun W (hW : Below w.heap.size w W) => And.intro ((hW.cell (p := ⟨Bm, 0, none⟩) (block_lt_of_cell hm)).trans hm) (And.intro ((hW.cell (p := ⟨Bl, 0, none⟩) (block_lt_of_cell hl)).trans hl) ((hW.cell (p := ⟨Bn, 0, none⟩) (block_lt_of_cell hv)).trans hv)))
  have HLI := Lib.hid (show ((l + i + 1 : Nat) : Int) = (l : Int) + i + 1 by omega)
  obtain ⟨al, c, hvn, _⟩ := h1.shape
  subst hvn
  generalize d * (l + i + 1) = p at *
  generalize (dz 10000 n).length = ln at *
  clear hm hl hv h1 h2 hlen
  have hlI : (l : Int) ≤ 9999 := by omega
  have hiI : (i : Int) ≤ 9999 := by omega
  rw [HLI.out] at C1
  have hw1 := wrap_in ((l : Int) + i) ⟨by omega, by omega⟩
  have hw2 := wrap_in ((l : Int) + i + 1) ⟨by omega, by omega⟩
  go_enter Tryz.func162, Tryz.ntmps162
  go_wp2_with fail
  go_region_held3 (fun w' => w'.cell? ⟨Bm, 0, none⟩ = some (.func (.func 134) #[vd] #[]) ∧ w'.cell? ⟨Bl, 0, none⟩ = some (.int .i64 l) ∧ w'.cell? ⟨Bn, 0, none⟩ = some (.slice al ln c))
    (first
      | exact KC.out _ hB2
      | exact KC.out _ hB1
      | exact KC.out _ (Below.refl _ _).drew
      | go_keep)
    (first
      | (go_at_call 134; (with_reducible refine (C1.out _ ((Below.refl _ _).drew)).mono ?_); rintro e w1 ⟨v1, rfl, hv1, hb1⟩; have hB1 := below1 (Below.refl _ w).drew hb1)
      | (go_at_call 114; (with_reducible refine (C2.out _ hB1 _ hv1).mono ?_); rintro e w2 ⟨rfl, hb2⟩; have hB2 := below1 hB1 hb2))
  have HB2 := Lib.hid hB2
  clear hB2 hB1 hb1 hb2
  go_wp2
  go_ret
  exact ⟨by rw [HG.out]; rfl, HB2.out⟩

set_option maxRecDepth 100000 in
set_option maxHeartbeats 2000000 in
theorem search_any (P1 P2 P3 : Value) (n k : Nat) (hk : k ≤ n) (hn : n ≤ 100000) (w : World)
    (hf : ∀ W, Below w.heap.size w W → ∀ i : Nat, i < n → Calls Tryz.prog 162 #[.int .i64 i, P1, P2, P3] W fun e w' => e = .returned (.bool (decide (k ≤ i))) ∧ Below W.heap.size W w') :
    Calls Tryz.prog 161 #[.int .i64 n, .func (.func 162) #[] #[P1, P2, P3]] w fun e w' => e = .returned (.int .i64 k) ∧ Below w.heap.size w w' := by
  have HF := Lib.hid hf
  clear hf
  go_enter Tryz.func161, Tryz.ntmps161
  go_wp2
  go_loopw [5, 6] (fun iv jv wr => ∃ i j : Nat, iv = .int .i64 i ∧ jv = .int .i64 j ∧ i ≤ k ∧ k ≤ j ∧ j ≤ n ∧ Below w.heap.size w wr) (fun iv jv _ => (intOf jv).toNat - (intOf iv).toNat)
  case atStart => exact ⟨0, n, rfl, rfl, Nat.zero_le _, hk, Nat.le_refl _, Below.refl _ _⟩
  case round =>
    obtain ⟨i, j, rfl, rfl, hik, hkj, hjn, hB⟩ := hrel
    have HB := Lib.hid hB
    clear hB
    by_cases hij : i < j
    · obtain ⟨h, hh⟩ : ∃ h, (i + j) / 2 = h := ⟨_, rfl⟩
      have hb1 : i ≤ h := by omega
      have hb2 : h < j := by omega
      have hI : ((i : Int) + j) / 2 = h := by omega
      clear hh
      by_cases hkh : k ≤ h
      · have hd : decide (k ≤ h) = true := by simp [hkh]
        go_wp2_with (go_at_call 162; refine (HF.out _ HB.out h (by omega)).mono ?_; rintro e w2 ⟨rfl, hb2⟩; have HB2 := Lib.hid (below1 HB.out hb2); clear hb2)
        go_roundw
        case rel => exact ⟨i, h, rfl, rfl, hik, hkh, by omega, HB2.out⟩
        case measure => simp [intOf]; omega
      · have hd : decide (k ≤ h) = false := by simp; omega
        go_wp2_with (go_at_call 162; refine (HF.out _ HB.out h (by omega)).mono ?_; rintro e w2 ⟨rfl, hb2⟩; have HB2 := Lib.hid (below1 HB.out hb2); clear hb2)
        go_roundw
        case rel => exact ⟨h + 1, j, by go_num, rfl, by omega, hkj, hjn, HB2.out⟩
        case measure => simp [intOf]; omega
    · have hkk : i = k := by omega
      subst hkk
      go_wp2
      go_ret
      exact ⟨rfl, HB.out⟩
end Go.Proofs.YtcjcafekacceiaaGreatDoor

/-! holds, walked. -/
namespace Go.Proofs.YtcjcafekacceiaaGreatDoor
open Go.RowKit

/-- What holds reckons with. -/
structure HldN (n d low top div least most q : Nat) : Prop where
  eTop : n / 10000 ^ low = top
  eDiv : d / 10000 ^ low = div
  topLt : top < 10000 ^ 3
  divLt : div < 10000 ^ 2
  divPos : 0 < div
  eLeast : top / (div + 1) = least
  eMost : min (top / div) 9999 = most
  le1 : least ≤ q
  le2 : q ≤ most
theorem hld_of (n d : Nat) (hd : 0 < d) (h : n < d * 10000) : ∃ top div least most, HldN n d ((dz 10000 d).length - 2) top div least most (n / d) := by
  obtain ⟨L, hL⟩ : ∃ L, (dz 10000 d).length = L := ⟨_, rfl⟩
  have hdl := dz_lt 10000 (by decide) d
  have hdp : (dz 10000 d).length ≠ 0 := by have := (dz_length_pos 10000 (by decide) d).2 (by omega); omega
  have hge : 10000 ^ (L - 2) ≤ d := pow_le_of_len 10000 (by decide) d (L - 2) (by omega)
  rw [hL] at hdl hdp ⊢
  have hP : 0 < 10000 ^ (L - 2) := Nat.pow_pos (by decide)
  have hdP : 0 < d / 10000 ^ (L - 2) := Nat.div_pos hge hP
  have hd2 : d < 10000 ^ 2 * 10000 ^ (L - 2) := by
    rw [← Nat.pow_add]
    exact Nat.lt_of_lt_of_le hdl (Nat.pow_le_pow_right (by decide) (by omega))
  refine ⟨_, _, _, _, ⟨rfl, rfl, ?_, ?_, hdP, rfl, rfl, least_le n d _ hd hP, ?_⟩⟩
  · rw [Nat.div_lt_iff_lt_mul hP]
    refine Nat.lt_of_lt_of_le h ?_
    calc d * 10000 ≤ (10000 ^ 2 * 10000 ^ (L - 2)) * 10000 := Nat.mul_le_mul_right _ (Nat.le_of_lt hd2)
      _ = 10000 ^ 3 * 10000 ^ (L - 2) := by rw [Nat.mul_right_comm]
  · rw [Nat.div_lt_iff_lt_mul hP]; exact hd2
  · have h1 := le_most n d _ hdP hP
    have h2 : n / d < 10000 := by rw [Nat.div_lt_iff_lt_mul hd, Nat.mul_comm]; exact h
    omega

/-- The same, as the walk meets it. -/
structure HldF (top div least most t2 q : Nat) : Prop where
  topI : (top : Int) < 1000000000000
  divI : (div : Int) < 100000000
  divP : (0 : Int) < (div : Int)
  d1 : ¬ ((div : Int) + 1 = 0)
  d2 : ¬ (div = 0)
  e1 : (top : Int) / ((div : Int) + 1) = (least : Int)
  e2 : (top : Int) / (div : Int) = (t2 : Int)
  wd : IntKind.i64.wrap ((div : Int) + 1) = (div : Int) + 1
  wl : IntKind.i64.wrap (least : Int) = (least : Int)
  wt : IntKind.i64.wrap (t2 : Int) = (t2 : Int)
  wt' : wrap64 (t2 : Int) = (t2 : Int)
  mn : (if (9999 : Int) < (t2 : Int) then (9999 : Int) else (t2 : Int)) = (most : Int)
  mI : (most : Int) ≤ 9999
  lm : (least : Int) ≤ (most : Int)
  lq : least ≤ q
  qm : q ≤ most
  ws : IntKind.i64.wrap ((most : Int) - (least : Int)) = ((most - least : Nat) : Int)
  wq : IntKind.i64.wrap ((least : Int) + ((q - least : Nat) : Int)) = (q : Int)
theorem small_wrap (x : Nat) (h : x < 1000000000000000) : IntKind.i64.wrap (x : Int) = (x : Int) := wrap_in _ ⟨by omega, by omega⟩
theorem hld_facts {n d low top div least most q : Nat} (h : HldN n d low top div least most q) : ∃ t2, HldF top div least most t2 q := by
  obtain ⟨_, _, h1, h2, h3, h4, h5, h6, h7⟩ := h
  have h1' : top < 1000000000000 := h1
  have h2' : div < 100000000 := h2
  clear h1 h2
  obtain ⟨t2, ht⟩ : ∃ t2, top / div = t2 := ⟨_, rfl⟩
  have hb : t2 ≤ top := by rw [← ht]; exact Nat.div_le_self _ _
  have hlb : least ≤ top := by rw [← h4]; exact Nat.div_le_self _ _
  rw [ht] at h5
  have e1 : (top : Int) / ((div : Int) + 1) = (least : Int) := by rw [← h4, Int.natCast_ediv]; rfl
  have e2 : (top : Int) / (div : Int) = (t2 : Int) := by rw [← ht, Int.natCast_ediv]
  clear h4 ht
  have ws : (most : Int) - (least : Int) = ((most - least : Nat) : Int) := by omega
  have wq : (least : Int) + ((q - least : Nat) : Int) = (q : Int) := by omega
  have hmt : most ≤ t2 := by omega
  have hm9 : most ≤ 9999 := by omega
  have wd : ((div : Int) + 1) = ((div + 1 : Nat) : Int) := by omega
  refine ⟨t2, ⟨by omega, by omega, by omega, by omega, by omega, e1, e2, ?_, small_wrap _ (by omega), small_wrap _ (by omega), IntWalk.wrap64_in _ ⟨by omega, by omega⟩, ?_, by omega, by omega, h6, h7, ?_, ?_⟩⟩
  · rw [wd]; exact small_wrap _ (by omega)
  · clear e1 e2 ws wq wd
    by_cases h9 : (9999 : Int) < (t2 : Int)
    · rw [if_pos h9]; omega
    · rw [if_neg h9]; omega
  · rw [ws]; exact small_wrap _ (by omega)
  · rw [wq]; exact small_wrap _ (by omega)

set_option maxRecDepth 100000 in
set_option maxHeartbeats 4000000 in
theorem holds_nt (w : World) (v1 v2 : Value) (n d : Nat) (h1 : Nt w v1 n) (h2 : Nt w v2 d) (hd : 0 < d) (hnd : n < d * 10000) (hln : (dz 10000 n).length ≤ 9000) (hld : (dz 10000 d).length ≤ 9000) :
    Calls Tryz.prog 133 #[v1, v2] w (IntOut w ((n / d : Nat) : Int)) := by
  obtain ⟨top, div, least, most, HH⟩ := hld_of n d hd hnd
  obtain ⟨t2, HF⟩ := hld_facts HH
  obtain ⟨q, hq⟩ : ∃ q, n / d = q := ⟨_, rfl⟩
  have HQ := Lib.hid hq
  rw [hq] at HH HF ⊢
  obtain ⟨low, hlow⟩ : ∃ low, (dz 10000 d).length - 2 = low := ⟨_, rfl⟩
  rw [hlow] at HH
  have A1 := Lib.hid (fun W v (hv : Nt W v n) => above_nt W v n low hv (by omega) (by omega) (by rw [HH.eTop]; exact HH.topLt))
  have A2 := Lib.hid (fun W v (hv : Nt W v d) => above_nt W v d low hv (by omega) (by omega) (by rw [HH.eDiv]; exact Nat.lt_of_lt_of_le HH.divLt (by decide)))
  rw [HH.eTop] at A1
  rw [HH.eDiv] at A2
  clear HH
  have hdI := HF.divP; have h01 := HF.d1; have h02 := HF.d2; have e1 := HF.e1; have e2 := HF.e2; have hwd := HF.wd; have hwl := HF.wl; have hwt := HF.wt; have hwt' := HF.wt'; have hif := HF.mn
  have hd1 : ∀ (W : World), (binOp .quo 3 (.int .i64 (top : Int)) (.int .i64 ((div : Int) + 1))).run Tryz.prog W = .ok (.int .i64 (least : Int)) W := fun W => by
    simp [binOp, go_sem, e1, h01, hwl]
  have hd2 : ∀ (W : World), (binOp .quo 3 (.int .i64 (top : Int)) (.int .i64 (div : Int))).run Tryz.prog W = .ok (.int .i64 (t2 : Int)) W := fun W => by
    simp [binOp, go_sem, e2, h02, hwt]
  have hmn : ∀ (ts : Array TypeId) (t : TypeId) (W : World), (Builtin.min_ ts t #[.int .i64 (t2 : Int), .int .i64 9999]).run Tryz.prog W = .ok (.int .i64 (most : Int)) W := fun ts t W => by
    rw [run_min_int2, hif]
  have hws := HF.ws; have hwq := HF.wq
  have HFH := Lib.hid HF
  clear HF
  have H1 := Lib.hid h1; have H2 := Lib.hid h2
  have HLN := Lib.hid hln; have HLD := Lib.hid hld
  obtain ⟨al1, c1, rfl, _⟩ := h1.shape
  obtain ⟨al2, c2, rfl, _⟩ := h2.shape
  obtain ⟨N, hNe⟩ : ∃ N, (dz 10000 n).length = N := ⟨_, rfl⟩
  obtain ⟨M, hMe⟩ : ∃ M, (dz 10000 d).length = M := ⟨_, rfl⟩
  rw [hNe] at H1 hln ⊢; rw [hMe] at H2 hlow hld ⊢
  have hmx : ∀ (ts : Array TypeId) (t : TypeId) (W : World), (Builtin.max_ ts t #[.int .i64 0, .int .i64 ((M : Int) - 2)]).run Tryz.prog W = .ok (.int .i64 (low : Int)) W := fun ts t W => by
    rw [run_max_int2]
    congr 2
    clear e1 e2 hd1 hd2 hmn hif hwd hwl hwt hwt' hws hwq
    split <;> omega
  clear hNe hMe h1 h2 hnd hlow hq
  have HB0 := Lib.hid ((Below.refl w.heap.size w).alloc (Nat.le_refl _) (.cells #[.slice al1 N c1] 92))
  go_enter Tryz.func133, Tryz.ntmps133
  go_wp2_with (first
    | (go_at_call 160; (with_reducible refine (A1.out _ _ (Nt.below H1.out (Nat.le_refl _) HB0.out)).mono ?_); rintro e w1 ⟨rfl, hb1⟩; have HB1 := Lib.hid (HB0.out.trans (hb1.mono HB0.out.size)); have HC1 := Lib.hid (hb1.cell (p := ⟨w.heap.size, 0, none⟩) (by simp)); have HS1 := Lib.hid hb1.size; clear hb1)
    | (go_at_call 160; (with_reducible refine (A2.out _ _ (Nt.below H2.out (Nat.le_refl _) HB1.out)).mono ?_); rintro e w2 ⟨rfl, hb2⟩; have HB2 := Lib.hid (HB1.out.trans (hb2.mono HB1.out.size)); have hcn := (hb2.cell (p := ⟨w.heap.size, 0, none⟩) (by have h := HS1.out; rw [World.size_alloc] at h; exact h)).trans (HC1.out.trans (Boxed.new w _ _).cell); have HS2 := Lib.hid (show w.heap.size < w2.heap.size by have h := HS1.out; rw [World.size_alloc] at h; have := hb2.size; omega); clear hb2; refine Hid.out ?_))
  refine Lib.hid ?_
  have bL : Boxed (w2.alloc (.cells #[.int .i64 (least : Int)] 3)) w2.heap.size 3 (.int .i64 (least : Int)) := Boxed.new w2 3 _
  have HBL := Lib.hid bL
  have HCN := Lib.hid hcn
  clear bL hcn
  go_upto_region 3 with fail
  go_cut [8, 9] from 21 to 28 (fun s8 s9 wx => s8 = .pointer (some ⟨w2.heap.size, 0, none⟩) ∧ s9 = .int .i64 (most : Int) ∧ Below w2.heap.size w2 wx ∧ Boxed wx w2.heap.size 3 (.int .i64 (least : Int)))
  case first =>
    go_region_held3 (fun w' => True) (first | trivial) (first | fail)
    all_goals go_wp2_with fail
    all_goals go_meet
    all_goals exact ⟨rfl, rfl, ((Below.refl _ _).alloc (Nat.le_refl _) _).drew, HBL.out⟩
  case rest =>
    obtain ⟨rfl, rfl, hb3, hL⟩ := hcut
    have HB3 := Lib.hid (HB2.out.trans (hb3.mono HB2.out.size))
    have hcn3 : wc.cell? ⟨w.heap.size, 0, none⟩ = some (.slice al1 N c1) := (hb3.cell (p := ⟨w.heap.size, 0, none⟩) HS2.out).trans HCN.out
    have hlt3 : w2.heap.size < wc.heap.size := hL.lt
    have hlt4 : w.heap.size < wc.heap.size := by have := HS2.out; omega
    obtain ⟨W4, hW4⟩ : ∃ W4, wc.alloc (.cells #[.func (.func 134) #[.slice al2 M c2] #[]] 145) = W4 := ⟨_, rfl⟩
    have hb4 : Below wc.heap.size wc W4 := by rw [← hW4]; exact (Below.refl _ _).alloc (Nat.le_refl _) _
    have HB4 := Lib.hid (HB3.out.trans (hb4.mono HB3.out.size))
    have hm4 : W4.cell? ⟨wc.heap.size, 0, none⟩ = some (.func (.func 134) #[.slice al2 M c2] #[]) := by rw [← hW4]; exact (Boxed.new wc _ _).cell
    have hl4 : W4.cell? ⟨w2.heap.size, 0, none⟩ = some (.int .i64 (least : Int)) := (hb4.cell (p := ⟨w2.heap.size, 0, none⟩) hlt3).trans hL.cell
    have hn4 : W4.cell? ⟨w.heap.size, 0, none⟩ = some (.slice al1 N c1) := (hb4.cell (p := ⟨w.heap.size, 0, none⟩) hlt4).trans hcn3
    have KC := Lib.hid (fun W (hW : Below W4.heap.size W4 W) => (hW.cell (p := ⟨w2.heap.size, 0, none⟩) (block_lt_of_cell hl4)).trans hl4)
    have HSR := Lib.hid (fun W (hW : Below W4.heap.size W4 W) => search_any (.pointer (some ⟨wc.heap.size, 0, none⟩)) (.pointer (some ⟨w2.heap.size, 0, none⟩)) (.pointer (some ⟨w.heap.size, 0, none⟩)) (most - least) (q - least) (by have := HFH.out.qm; omega) (by have := HFH.out.mI; omega) W (fun W5 hW5 i hi => by
      have h5 := hW.trans (hW5.mono hW.size)
      refine (over_any wc.heap.size w2.heap.size w.heap.size (.slice al1 N c1) (.slice al2 M c2) n d least i (by have := HLN.out; omega) (by have := HLD.out; omega) (by have := HFH.out.mI; omega) W5
        ((h5.cell (p := ⟨wc.heap.size, 0, none⟩) (block_lt_of_cell hm4)).trans hm4) ((h5.cell (p := ⟨w2.heap.size, 0, none⟩) (block_lt_of_cell hl4)).trans hl4) ((h5.cell (p := ⟨w.heap.size, 0, none⟩) (block_lt_of_cell hn4)).trans hn4)
        (Nt.below (Nt.below H1.out (Nat.le_refl _) HB4.out) (Nat.le_refl _) h5) (Nt.below (Nt.below H2.out (Nat.le_refl _) HB4.out) (Nat.le_refl _) h5)).mono ?_
      rintro e w' ⟨rfl, hb⟩
      refine ⟨?_, hb⟩
      congr 2
      rw [Nat.mul_comm, decide_eq_decide, over_iff _ _ _ hd, HQ.out]
      have := HFH.out.lq
      omega))
    have hcl := hL.cell
    have HB4s := HB4.out.size
    clear hb3 hL hcn3 hb4 hm4 hn4 hlt4 hcl
    have hsf := fun (W : World) (a : Addr) (c : Array Value) => run_store Tryz.prog W a (.func (.func 134) #[.slice al2 M c2] c) .plain rfl
    go_upto_region 5 with fail
    have HW4 := Lib.hid hW4
    clear hW4 hsf e1 e2 hd1 hd2 hmn hif hwd hwl hwt hwt' hmx
    have HL4 := Lib.hid hl4
    go_region_held3 (fun w' => w'.cell? ⟨w2.heap.size, 0, none⟩ = some (.int .i64 (least : Int)))
      (first
        | exact KC.out _ hB6
        | exact KC.out _ (Below.refl _ _).drew
        | go_keep)
      (first
        | (go_at_call 161; (with_reducible refine (HSR.out _ ((Below.refl _ _).drew)).mono ?_); rintro e w6 ⟨rfl, hb6⟩; have hB6 := below1 (Below.refl _ W4).drew hb6))
    all_goals
      have HB6 := Lib.hid (HB4.out.trans (hB6.mono HB4.out.size))
      go_wp2
      go_ret
      exact ⟨rfl, HB6.out⟩
end Go.Proofs.YtcjcafekacceiaaGreatDoor

/-! The steps of a division, group by group: of no program. -/
namespace Go.Proofs.YtcjcafekacceiaaGreatDoor
open Go.RowKit

/-- The rest and the quotient's groups behind one more group. -/
def dvStep (d : Nat) (zs : List Int) (s : Nat × List Int) (x : Fin zs.length) : Nat × List Int :=
  ((zs[x.val].toNat + 10000 * s.1) % d, s.2.set x.val (((zs[x.val].toNat + 10000 * s.1) / d : Nat) : Int))
def dvSt (d : Nat) (zs : List Int) (r0 : Nat) (pre : List (Fin zs.length)) : Nat × List Int := pre.foldl (dvStep d zs) (r0, List.replicate zs.length 0)
theorem dvSt_snoc (d : Nat) (zs : List Int) (r0 : Nat) (pre : List (Fin zs.length)) (x : Fin zs.length) : dvSt d zs r0 (pre ++ [x]) = dvStep d zs (dvSt d zs r0 pre) x := by
  unfold dvSt; rw [List.foldl_append]; rfl
theorem foldl_inv {α β : Type} (f : β → α → β) (p : β → Prop) (hf : ∀ s x, p s → p (f s x)) : ∀ (l : List α) (s : β), p s → p (l.foldl f s)
  | [], s, h => h
  | x :: l, s, h => by rw [List.foldl_cons]; exact foldl_inv f p hf l _ (hf s x h)
theorem dvSt_inv (d : Nat) (hd : 0 < d) (zs : List Int) (hz : ∀ z ∈ zs, 0 ≤ z ∧ z < 10000) (r0 : Nat) (hr : r0 < d) (pre : List (Fin zs.length)) :
    (dvSt d zs r0 pre).1 < d ∧ (dvSt d zs r0 pre).2.length = zs.length ∧ ∀ q ∈ (dvSt d zs r0 pre).2, 0 ≤ q ∧ q < 10000 := by
  refine foldl_inv (dvStep d zs) (fun s => s.1 < d ∧ s.2.length = zs.length ∧ ∀ q ∈ s.2, 0 ≤ q ∧ q < 10000) ?_ pre _ ⟨hr, by simp, fun q hq => by have := (List.mem_replicate.1 hq).2; omega⟩
  rintro ⟨r, qs⟩ x ⟨h1, h2, h3⟩
  refine ⟨Nat.mod_lt _ hd, by simp [dvStep, h2], fun q hq => ?_⟩
  simp only [dvStep] at hq
  rcases List.mem_or_eq_of_mem_set hq with hq | rfl
  · exact h3 q hq
  · have hzx := hz _ (List.getElem_mem x.isLt)
    have h4 := next_lt 10000 r zs[x.val].toNat d h1 (by omega)
    have h5 : (zs[x.val].toNat + 10000 * r) / d < 10000 := by rw [Nat.div_lt_iff_lt_mul hd, Nat.mul_comm 10000 d]; omega
    generalize (zs[x.val].toNat + 10000 * r) / d = y at *
    omega
/-- What the groups from the top down give. -/
theorem dvSt_dn (n d S : Nat) (hd : 0 < d) (zs : List Int) (hS : zs.length = S) (hz : ∀ i, i < S → zs[i]?.getD 0 = ((n / 10000 ^ i % 10000 : Nat) : Int)) (hr : n / 10000 ^ S < d) :
    (dvSt d zs (n / 10000 ^ S) (dn zs.length (Nat.le_refl _))).1 = n % d ∧ vz 10000 (dvSt d zs (n / 10000 ^ S) (dn zs.length (Nat.le_refl _))).2 = ((n / d : Nat) : Int) := by
  have key : ∀ (i : Nat) (hi : i ≤ zs.length) (pre : List (Fin zs.length)), (dvSt d zs (n / 10000 ^ S) pre).1 = n / 10000 ^ i % d → (dvSt d zs (n / 10000 ^ S) pre).2.length = zs.length →
      vz 10000 ((dvSt d zs (n / 10000 ^ S) pre).2.drop i) = ((n / 10000 ^ i / d : Nat) : Int) → (∀ j, j < i → (dvSt d zs (n / 10000 ^ S) pre).2[j]?.getD 0 = 0) →
      (dvSt d zs (n / 10000 ^ S) (pre ++ dn i hi)).1 = n % d ∧ vz 10000 (dvSt d zs (n / 10000 ^ S) (pre ++ dn i hi)).2 = ((n / d : Nat) : Int) := by
    intro i
    induction i with
    | zero => intro hi pre h1 h2 h3 h4; rw [dn, List.append_nil]; exact ⟨by simpa using h1, by simpa using h3⟩
    | succ i ih =>
      intro hi pre h1 h2 h3 h4
      rw [dn, show pre ++ (⟨i, hi⟩ :: dn i (Nat.le_of_succ_le hi)) = (pre ++ [⟨i, hi⟩]) ++ dn i (Nat.le_of_succ_le hi) by simp]
      have hstep := above_step 10000 (by decide) n i
      have hzi := hz i (by omega)
      rw [List.getElem?_eq_getElem hi, Option.getD_some] at hzi
      generalize n / 10000 ^ i = A at *
      generalize n / 10000 ^ (i + 1) = m at *
      have hA : A = 10000 * m + A % 10000 := by omega
      generalize A % 10000 = g at *
      have e1 : A / d = 10000 * (m / d) + (10000 * (m % d) + g) / d := by rw [hA]; exact (div_step 10000 m g d).resolve_right (by omega)
      have e2 : A % d = (10000 * (m % d) + g) % d := by rw [hA]; exact mod_step 10000 m g d
      have hst : dvSt d zs (n / 10000 ^ S) (pre ++ [⟨i, hi⟩]) = ((10000 * (m % d) + g) % d, (dvSt d zs (n / 10000 ^ S) pre).2.set i (((10000 * (m % d) + g) / d : Nat) : Int)) := by
        rw [dvSt_snoc, dvStep, h1]
        simp only [hzi, Int.toNat_natCast]
        rw [Nat.add_comm g]
      apply ih
      · rw [hst, e2]
      · rw [hst]; simpa using h2
      · rw [hst]
        simp only
        rw [List.drop_eq_getElem_cons (by simp; omega), List.getElem_set_self, List.drop_set_of_lt (by omega), vz, h3, e1]
        omega
      · intro j hj
        rw [hst]
        simp only
        rw [List.getElem?_set_ne (by omega)]
        exact h4 j (by omega)
  have := key zs.length (Nat.le_refl _) [] (by
      show n / 10000 ^ S = _
      rw [hS, Nat.mod_eq_of_lt hr]) (by simp [dvSt]) (by
      show vz 10000 ((List.replicate zs.length 0).drop zs.length) = _
      rw [hS, Nat.div_eq_of_lt hr, List.drop_eq_nil_of_le (by simp), vz]; rfl) (fun j hj => by
      show (List.replicate zs.length (0 : Int))[j]?.getD 0 = 0
      rw [List.getElem?_replicate, if_pos hj]; rfl)
  simpa using this
/-- Where a division begins: what is left above is less than the divisor. -/
theorem start_lt (n d : Nat) (hd : 0 < d) : n / 10000 ^ ((dz 10000 n).length - ((dz 10000 d).length - 1)) < d := by
  have h1 := dz_lt 10000 (by decide) n
  have hdp : (dz 10000 d).length ≠ 0 := by have := (dz_length_pos 10000 (by decide) d).2 (by omega); omega
  have h2 := pow_le_of_len 10000 (by decide) d ((dz 10000 d).length - 1) (by omega)
  refine Nat.lt_of_lt_of_le ?_ h2
  rw [Nat.div_lt_iff_lt_mul (Nat.pow_pos (by decide)), ← Nat.pow_add]
  exact Nat.lt_of_lt_of_le h1 (Nat.pow_le_pow_right (by decide) (by omega))
theorem take_digits (n S : Nat) (i : Nat) (hi : i < S) : ((dz 10000 n).take S)[i]?.getD 0 = ((n / 10000 ^ i % 10000 : Nat) : Int) := by
  rw [List.getElem?_take, if_pos hi, dz_getD 10000 (by decide)]
theorem cons_dz (g r : Nat) (_hg : g < 10000) : vz 10000 (((g : Nat) : Int) :: dz 10000 r) = ((g + 10000 * r : Nat) : Int) := by
  rw [vz, vz4]; omega
theorem mod_sub (x d : Nat) : x - d * (x / d) = x % d := by
  have := Nat.mod_add_div x d
  omega
end Go.Proofs.YtcjcafekacceiaaGreatDoor

/-! dividedBy, walked. -/
namespace Go.Proofs.YtcjcafekacceiaaGreatDoor
open Go.RowKit Go.Shelf
attribute [local go_sem] Oper.semAt_some

/-- Whatever lay lies as it lay, but for two blocks. -/
def Kb (b l : Nat) (W W' : World) : Prop := W.heap.size ≤ W'.heap.size ∧ ∀ k, k < W.heap.size → k ≠ b → k ≠ l → W'.heap[k]? = W.heap[k]?
def DivOut (w : World) (n d : Nat) (e : Ending) (w' : World) : Prop := ∃ v1 v2, e = .returned (.tuple #[v1, v2]) ∧ Nt w' v1 (n / d) ∧ Nt w' v2 (n % d) ∧ Below w.heap.size w w'
theorem run_cut_start (v : Value) (zs : List Int) (w : World) (S : Nat) (hl : Ls w v zs) (hS : S ≤ zs.length) :
    ∃ vr vt, (∀ W, (Instr.slice 92 v (some (.int .i64 S)) none none).run Tryz.prog W = .ok vr W) ∧ (∀ W, (Instr.slice 92 v none (some (.int .i64 S)) none).run Tryz.prog W = .ok vt W) ∧ Ls w vr (zs.drop S) ∧ Ls w vt (zs.take S) := by
  obtain ⟨vr, h1, h2⟩ := cut_from_ls w v zs S hl hS
  obtain ⟨vt, h3, h4⟩ := cut_to_ls w v zs S hl hS
  exact ⟨vr, vt, h1, h3, h2, h4⟩

/-- Behind the declarations: the quotient's row, its variable and the rest's. -/
def DivAt (w : World) (vd vr : Value) (S : Nat) (s7 s8 : Value) (wx : World) : Prop :=
  ∃ gq Bq Br, s7 = .pointer (some ⟨Bq, 0, none⟩) ∧ s8 = .pointer (some ⟨Br, 0, none⟩) ∧ w.heap.size < gq ∧ w.heap.size < Bq ∧ w.heap.size < Br ∧ gq ≠ Bq ∧ gq ≠ Br ∧ Bq ≠ Br ∧
    Boxed wx w.heap.size 92 vd ∧ Boxed wx Bq 40 (.slice (some ⟨gq, 0, none⟩) S S) ∧ Boxed wx Br 92 vr ∧ wx.heap[gq]? = some (.cells (madeCells #[.int .i64 0] S) 3 (0, 0)) ∧ Below w.heap.size w wx
theorem heap4 (w : World) (o0 o1 o2 o3 : Obj) : ((((w.alloc o0).alloc o1).alloc o2).alloc o3).drew.heap[w.heap.size]? = some o0 ∧ ((((w.alloc o0).alloc o1).alloc o2).alloc o3).drew.heap[w.heap.size + 1]? = some o1 ∧
    ((((w.alloc o0).alloc o1).alloc o2).alloc o3).drew.heap[w.heap.size + 1 + 1]? = some o2 ∧ ((((w.alloc o0).alloc o1).alloc o2).alloc o3).drew.heap[w.heap.size + 1 + 1 + 1]? = some o3 ∧ Below w.heap.size w ((((w.alloc o0).alloc o1).alloc o2).alloc o3).drew := by
  have e : ∀ W : World, W.drew.heap = W.heap := fun _ => rfl
  rw [e]
  have a1 := heap_new' w o0 w.heap.size rfl
  have a2 := heap_new' (w.alloc o0) o1 (w.heap.size + 1) (by simp)
  have a3 := heap_new' ((w.alloc o0).alloc o1) o2 (w.heap.size + 1 + 1) (by simp)
  have a4 := heap_new' (((w.alloc o0).alloc o1).alloc o2) o3 (w.heap.size + 1 + 1 + 1) (by simp)
  refine ⟨?_, ?_, ?_, a4, ?_⟩
  · rw [Below.heap_alloc _ _ _ (by simp; omega), Below.heap_alloc _ _ _ (by first | (simp; done) | (simp; omega)), Below.heap_alloc _ _ _ (by simp), a1]
  · rw [Below.heap_alloc _ _ _ (by first | (simp; done) | (simp; omega)), Below.heap_alloc _ _ _ (by simp), a2]
  · rw [Below.heap_alloc _ _ _ (by simp), a3]
  · exact ((((Below.refl w.heap.size w).alloc (Nat.le_refl _) _).alloc (by simp) _).alloc (by simp; omega) _ |>.alloc (by simp; omega) _).drew

theorem ls_setBox {W : World} {v : Value} {zs : List Int} {B : Nat} {t : TypeId} {al : Option Addr} {n c : Nat} (h : Ls W v zs) (hb : Boxed W B t (.slice al n c)) (u : Value) : Ls (W.setCell ⟨B, 0, none⟩ u) v zs := by
  rcases h with h | ⟨b, o, c', rfl, hc, hlt, hcell⟩
  · exact .inl h
  · refine .inr ⟨b, o, c', rfl, hc, by simp; omega, fun i hi => ?_⟩
    have h1 := hcell i hi
    have hne : b ≠ B := by
      intro e
      subst e
      rw [World.cell?] at h1
      simp only [show W.heap[b]? = _ from hb] at h1
      rcases Nat.eq_zero_or_pos (o + i) with h0 | h0
      · rw [h0] at h1; simp at h1
      · simp at h1
        rw [List.getElem?_eq_none (by simp; omega)] at h1
        cases h1
    exact (World.cell?_of_block (Below.heap_setCell _ _ _ _ (by exact hne))).trans h1
theorem lit_ls (W : World) (g : Int) (o : Obj) : Ls ((W.alloc (.cells #[.int .i64 g] 3)).alloc o) (.slice (some ⟨W.heap.size, 0, none⟩) 1 1) [g] := by
  refine .inr ⟨W.heap.size, 0, 1, rfl, Nat.le_refl _, by simp; omega, fun i hi => ?_⟩
  obtain rfl : i = 0 := by simpa using hi
  exact ((Boxed.new W 3 (.int .i64 g)).alloc o).cell
theorem lit_ls1 (W : World) (g : Int) : Ls (W.alloc (.cells #[.int .i64 g] 3)) (.slice (some ⟨W.heap.size, 0, none⟩) 1 1) [g] := by
  refine .inr ⟨W.heap.size, 0, 1, rfl, Nat.le_refl _, by simp, fun i hi => ?_⟩
  obtain rfl : i = 0 := by simpa using hi
  exact (Boxed.new W 3 (.int .i64 g)).cell
/-- Behind the group of the quotient; behind the rest. -/
def Cut7 (W5 : World) (gq x : Nat) (q : Nat) (wx : World) : Prop := ∃ w6, Below W5.heap.size W5 w6 ∧ wx = w6.setCell ⟨gq, x, none⟩ (.int .i64 (q : Int))
def Cut8 (W7 : World) (Br : Nat) (s : Nat) (wx : World) : Prop := ∃ w8 v8, Below W7.heap.size W7 w8 ∧ Nt w8 v8 s ∧ wx = w8.setCell ⟨Br, 0, none⟩ v8
/-- Between two groups. -/
structure DivS (w : World) (vd : Value) (d : Nat) (zs : List Int) (r0 gq Bq Br S : Nat) (pre : List (Fin zs.length)) (W : World) (vr : Value) : Prop where
  bd : Boxed W w.heap.size 92 vd
  bq : Boxed W Bq 40 (.slice (some ⟨gq, 0, none⟩) S S)
  br : Boxed W Br 92 vr
  row : W.heap[gq]? = some (.cells ((dvSt d zs r0 pre).2.map (Value.int .i64)).toArray 3 (0, 0))
  nr : Nt W vr (dvSt d zs r0 pre).1
  below : Below w.heap.size w W
def DivI (w : World) (vd : Value) (d : Nat) (zs : List Int) (r0 gq Bq Br S : Nat) (pre : List (Fin zs.length)) (W : World) : Prop :=
  ∃ vr, DivS w vd d zs r0 gq Bq Br S pre W vr
theorem ls_grown {W W' : World} {row : Option Nat} {v : Value} {zs : List Int} (h : Ls W v zs) (hg : W.grownBy W' row) (hr : ∀ r, row = some r → ∃ o : Obj, W.heap[r]? = some o ∧ o.isCells = false) : Ls W' v zs := by
  rcases h with h | ⟨b, o, c, rfl, hc, hlt, hcell⟩
  · exact .inl h
  · refine .inr ⟨b, o, c, rfl, hc, by have := hg.size; omega, fun i hi => ?_⟩
    have h1 := hcell i hi
    refine (World.cell?_of_block (hg.block b hlt (fun e => ?_))).trans h1
    obtain ⟨ob, ho, hcl⟩ := hr b e.symm
    rw [World.cell?] at h1
    simp only [ho] at h1
    cases ob <;> simp [Obj.isCells] at hcl h1
theorem divI_own (w : World) (vd : Value) (d : Nat) (zs : List Int) (r0 gq Bq Br S B' : Nat) (hB' : w.heap.size ≤ B') : OwnFrom B' (DivI w vd d zs r0 gq Bq Br S) := by
  rintro s X Y row ⟨vr, h⟩ hg hr
  have hr' := fun r e => (hr r e).2
  refine ⟨vr, ⟨boxed_own (β := Unit) _ _ (fun _ => vd) () X Y row h.bd hg hr', boxed_own (β := Unit) _ _ (fun _ => .slice (some ⟨gq, 0, none⟩) S S) () X Y row h.bq hg hr', boxed_own (β := Unit) _ _ (fun _ => vr) () X Y row h.br hg hr', ?_, ls_grown h.nr hg hr', ?_⟩⟩
  · refine (hg.block gq (Array.getElem?_eq_some_iff.1 h.row).1 (fun e => ?_)).trans h.row
    obtain ⟨ob, ho, hcl⟩ := hr' gq e.symm
    rw [h.row] at ho; cases ho; cases hcl
  · exact ownFrom_below (β := Unit) (Nat.le_refl _) hB' () X Y row h.below hg hr

set_option maxRecDepth 100000 in
set_option maxHeartbeats 4000000 in
theorem dividedBy_nt (w : World) (v1 v2 : Value) (n d : Nat) (h1 : Nt w v1 n) (h2 : Nt w v2 d) (hd : 0 < d) (hln : (dz 10000 n).length ≤ 8000) (hld : (dz 10000 d).length ≤ 8000) :
    Calls Tryz.prog 105 #[v1, v2] w (DivOut w n d) := by
  obtain ⟨i0, hi, hz0, hz1, hz2⟩ := info_parts infoInt
  have hdp : (dz 10000 d).length ≠ 0 := by have := (dz_length_pos 10000 (by decide) d).2 (by omega); omega
  obtain ⟨S, hSe⟩ : ∃ S, (dz 10000 n).length - ((dz 10000 d).length - 1) = S := ⟨_, rfl⟩
  have hr0 := start_lt n d hd
  rw [hSe] at hr0
  obtain ⟨vr, vt, hcf, hct, hlr, hlt⟩ := run_cut_start v1 _ w S h1 (by omega)
  rw [dz_drop 10000 (by decide)] at hlr
  obtain ⟨zs, hzs⟩ : ∃ zs, (dz 10000 n).take S = zs := ⟨_, rfl⟩
  have hzl : zs.length = S := by rw [← hzs, List.length_take]; omega
  have HZI := Lib.hid (show ∀ i, i < S → zs[i]?.getD 0 = ((n / 10000 ^ i % 10000 : Nat) : Int) from fun i hi => by rw [← hzs]; exact take_digits n S i hi)
  have HZD := Lib.hid (show ∀ z ∈ zs, 0 ≤ z ∧ z < 10000 from fun z hz => dig4 n z (by rw [← hzs] at hz; exact List.mem_of_mem_take hz))
  rw [hzs] at hlt
  have HDN := Lib.hid (dvSt_dn n d S hd zs hzl HZI.out hr0)
  have HIN := Lib.hid (dvSt_inv d hd zs HZD.out (n / 10000 ^ S) hr0)
  have HR0 := Lib.hid (show Nt w vr (n / 10000 ^ S) from hlr)
  generalize n / 10000 ^ S = r0 at *
  obtain ⟨al1, c1, rfl, _⟩ := h1.shape
  obtain ⟨al2, c2, rfl, _⟩ := h2.shape
  obtain ⟨alr, cr, rfl, _⟩ := hlr.shape
  obtain ⟨alt, ct, rfl, _⟩ := hlt.shape
  have H2 := Lib.hid h2
  obtain ⟨N, hNe⟩ : ∃ N, (dz 10000 n).length = N := ⟨_, rfl⟩
  obtain ⟨M, hMe⟩ : ∃ M, (dz 10000 d).length = M := ⟨_, rfl⟩
  obtain ⟨R, hRe⟩ : ∃ R, (dz 10000 r0).length = R := ⟨_, rfl⟩
  rw [hRe] at hcf HR0
  rw [hzl] at hct hlt
  have HLT := Lib.hid hlt
  have HZL := Lib.hid hzl
  have HLD := Lib.hid hld
  rw [hNe] at hcf hct hln hSe ⊢; rw [hMe] at H2 hSe hdp hld ⊢
  have hmx : ∀ (ts : Array TypeId) (t : TypeId) (W : World), (Builtin.max_ ts t #[.int .i64 0, .int .i64 ((N : Int) - ((M : Int) - 1))]).run Tryz.prog W = .ok (.int .i64 (S : Int)) W := fun ts t W => by
    rw [run_max_int2]
    congr 2
    split <;> omega
  have hSb : S ≤ 8000 := by omega
  clear hNe hMe hRe h1 h2 hlr hlt hzs hzl hSe hr0
  refine (callsIn_wide (n := 3)).1 ?_
  refine callsIn_of_wp_marks Tryz.func105 rfl trivial ?_ rfl
  simp only [Tryz.ntmps105, List.size_toArray, List.length_cons, List.length_nil, Nat.reduceAdd, Nat.reduceSub, Array.replicate_succ, Array.replicate_zero, List.push_toArray, List.append_toArray, List.nil_append, List.cons_append]
  have hmk : ∀ W : World, (Instr.makeSlice 40 (.int .i64 S) (.int .i64 S)).run Tryz.prog W = .ok (.slice (some ⟨W.heap.size, 0, none⟩) S S) (W.alloc (.cells (madeCells #[.int .i64 0] S) 3)) := fun W => run_make_row' (P := Tryz.prog) 40 3 (.int .i64 0) 8 Tryz.underlying40 infoInt rfl .i64 .i64 S (by omega) (by omega) W
  gi_wp2
  gi_cut [7, 8] from 18 (fun s7 s8 wx => DivAt w (.slice al2 M c2) (.slice alr R cr) S s7 s8 wx)
  case first =>
    gi_region
    all_goals gi_wp2
    all_goals gi_meet
    all_goals
      obtain ⟨h0, h1, h2, h3, hb⟩ := heap4 w _ _ _ _
      first
        | exact ⟨w.heap.size + 1, _, _, rfl, rfl, by omega, by omega, by omega, by omega, by omega, by omega, h0, by first | exact h2 | exact h3, by first | exact h2 | exact h3, h1, hb⟩
        | exact ⟨w.heap.size + 1 + 1, _, _, rfl, rfl, by omega, by omega, by omega, by omega, by omega, by omega, h0, by first | exact h1 | exact h3, by first | exact h1 | exact h3, h2, hb⟩
        | exact ⟨w.heap.size + 1 + 1 + 1, _, _, rfl, rfl, by omega, by omega, by omega, by omega, by omega, by omega, h0, by first | exact h1 | exact h2, by first | exact h1 | exact h2, h3, hb⟩
        | trace_state
  case rest =>
    obtain ⟨gq, Bq, Br, rfl, rfl, hq0, hq1, hq2, hn1, hn2, hn3, bD, bQ, bR, hrow, hB⟩ := hcut
    have HB := Lib.hid hB
    have hBs := hB.size
    have hlz := Lib.hid (HLT.out.below (Nat.le_refl _) (hB.trans (((Below.refl wc.heap.size wc).alloc (Nat.le_refl _) (.cells #[.slice alt S ct] 92)).mono hBs)))
    have hnr := Lib.hid (Nt.below HR0.out (Nat.le_refl _) (hB.trans (((Below.refl wc.heap.size wc).alloc (Nat.le_refl _) (.cells #[.slice alt S ct] 92)).mono hBs)))
    have bS := Boxed.new wc 92 (.slice alt S ct)
    have HB1 := Lib.hid (hB.alloc hBs (.cells #[.slice alt S ct] 92))
    have bD1 := bD.alloc (.cells #[.slice alt S ct] 92); have bQ1 := bQ.alloc (.cells #[.slice alt S ct] 92); have bR1 := bR.alloc (.cells #[.slice alt S ct] 92)
    have hrow1 : (wc.alloc (.cells #[.slice alt S ct] 92)).heap[gq]? = some (.cells (((dvSt d zs r0 []).2).map (Value.int .i64)).toArray 3 (0, 0)) := by
      rw [Below.heap_alloc _ _ _ (Array.getElem?_eq_some_iff.1 hrow).1, hrow]
      have := made_ints S
      rw [Nat.mul_one] at this
      show _ = some (Obj.cells ((List.replicate zs.length 0).map (Value.int .i64)).toArray _ _)
      rw [HZL.out, ← this]; rfl
    have HI0 := Lib.hid (show DivI w (.slice al2 M c2) d zs r0 gq Bq Br S [] (wc.alloc (.cells #[.slice alt S ct] 92)) from ⟨_, bD1, bQ1, bR1, hrow1, hnr.out, HB1.out⟩)
    have hblk : blkOf wc.heap.size (.slice alt S ct) ≠ gq ∧ blkOf wc.heap.size (.slice alt S ct) ≠ Bq ∧ blkOf wc.heap.size (.slice alt S ct) ≠ Br := by
      have l1 := bQ.lt; have l2 := bR.lt; have l3 := (Array.getElem?_eq_some_iff.1 hrow).1
      rcases HLT.out with ⟨h1, _⟩ | ⟨b, o, c9, h1, _, hlt2, _⟩
      · rw [h1]; simp only [blkOf]; omega
      · rw [h1]; simp only [blkOf]; omega
    have l1 := bQ.lt; have l2 := bR.lt; have l3 := (Array.getElem?_eq_some_iff.1 hrow).1
    clear hB bD bQ bR hrow bD1 bQ1 bR1 hrow1 hcf hmx hmk
    gi_wp2_with (refine ⟨trivial, ?_⟩; gi_at_call 109; refine (backward_in Fence.wide _ trivial rfl _ _ _ _ rfl _).mono ?_; rintro e w' ⟨rfl, rfl⟩)
    clear hct
    refine wpIn_rangeFunc_ownG rfl (by decide) (gf := 137) (lb := #[.pointer (some ⟨wc.heap.size, 0, none⟩)]) rfl trivial (enters_of Tryz.func137 (by kernel_rfl) rfl)
      (backward_stops Fence.wide _ trivial rfl (by decide) wc.heap.size _ zs (by rw [HZL.out]; omega) _ bS.cell hlz.out) kq_t (kq_b (by simp) (by have := blk_lt hlz.out (Bs := wc.heap.size) (by simp); exact this)) (Below.refl _ _) (fun _ => rfl)
      (fun pre W => DivI w (.slice al2 M c2) d zs r0 gq Bq Br S pre W)
      (fun _ _ _ => False)
      (divI_own _ _ _ _ _ _ _ _ _ _ (by simp; omega))
      (fun _ _ _ _ _ hs _ _ => hs)
      HI0.out
      ?a1 ?assign ?body ?done ?stop
    case assign =>
      intro l x W K hK
      gi_wp2
      exact hK
    case body =>
      rintro l pre x W ⟨vr, hS⟩ hlt'
      obtain ⟨hr1, hr2, hr3⟩ := HIN.out pre
      have hsn := Lib.hid (dvSt_snoc d zs r0 pre x)
      obtain ⟨hD, hQ, hR, hrow, hnr', hB'⟩ := hS
      generalize hst : dvSt d zs r0 pre = st at *
      obtain ⟨r, qs⟩ := st
      simp only at hr1 hr2 hr3 hrow hnr'
      clear hst
      have hgx := HZD.out _ (List.getElem_mem x.isLt)
      have hxS : x.val < S := by have := x.isLt; have h9 := HZL.out; omega
      obtain ⟨g, hg⟩ : ∃ g : Nat, zs[x.val] = (g : Int) := Int.eq_ofNat_of_zero_le hgx.1
      rw [hg] at hgx
      have hg9 : g < 10000 := by omega
      have hsn2 := Lib.hid (show dvSt d zs r0 (pre ++ [x]) = ((g + 10000 * r) % d, qs.set x.val (((g + 10000 * r) / d : Nat) : Int)) by
        rw [hsn.out, dvStep, hg]; rfl)
      have hnl := next_lt 10000 r g d hr1 hg9
      have hcons := cons_dz g r hg9
      obtain ⟨alv, cv, rfl, _⟩ := Ls.shape hnr'
      obtain ⟨R', hR'⟩ : ∃ R', (dz 10000 r).length = R' := ⟨_, rfl⟩
      have hRM : R' ≤ 8000 := by rw [← hR']; exact Nat.le_trans (dz_length_mono 10000 (by decide) r d (by omega)) HLD.out
      have hxl : Hid ((dz 10000 (g + 10000 * r)).length ≤ 8500) := by
        have : (dz 10000 (g + 10000 * r)).length ≤ (dz 10000 d).length + 1 := by
          rw [len4, Nat.pow_succ]
          have := dz_lt 10000 (by decide) d
          omega
        have h9 := HLD.out
        exact Nat.le_trans this (by omega)
      have hml : Hid ((dz 10000 (d * ((g + 10000 * r) / d))).length ≤ 8500) := by
        exact Nat.le_trans (dz_length_mono 10000 (by decide) _ _ (Nat.mul_div_le _ _)) hxl.out
      have hcr := hR.cell; have hfr := hR.frozen; have hcd := hD.cell; have hcq := hQ.cell
      rw [hR'] at hnr' hcr hR
      have HNR := Lib.hid hnr'; have HD' := Lib.hid hD; have HQ' := Lib.hid hQ; have HR' := Lib.hid hR; have HROW := Lib.hid hrow; have HBW := Lib.hid hB'; have HRL := Lib.hid hR'
      clear hnr' hD hQ hR hrow hB' hR' hlt'
      have hWs := HBW.out.size
      have hlR := HR'.out.lt
      have HW2 := Lib.hid (((Below.refl W.heap.size W).alloc (Nat.le_refl _) (.cells #[.int .i64 (g : Int)] 3)).alloc (by simp) (.cells #[.slice (some ⟨W.heap.size, 0, none⟩) 1 1, .slice alv R' cv] 92))
      have bG := Lib.hid (lit_ls W (g : Int) (.cells #[.slice (some ⟨W.heap.size, 0, none⟩) 1 1, .slice alv R' cv] 92))
      have bP := Lib.hid (heap_alloc_new (W.alloc (.cells #[.int .i64 (g : Int)] 3)) (.cells #[.slice (some ⟨W.heap.size, 0, none⟩) 1 1, .slice alv R' cv] 92))
      rw [World.size_alloc] at bP
      gi_wp2_with (first
        | (refine ⟨trivial, ?_⟩; gi_at_call 132; refine (CallsIn.inRound l (callsIn_wide.2 (concat_row (W.heap.size + 1) _ _ _ [(g : Int)] (dz 10000 r) bG.out (Ls.below HNR.out (Nat.le_refl _) HW2.out) (by simp) (by rw [HRL.out]; omega) (by rw [cell_of_row _ _ 0 _ _ _ bP.out]; rfl) (by rw [cell_of_row _ _ 1 _ _ _ bP.out]; rfl)))).mono ?_; rintro e w3 ⟨v3, rfl, hown, hb3⟩; have HL3 := Lib.hid (Ls.own hown _ rfl); have HA3 := Lib.hid (own_atLeast hown); have HB3 := Lib.hid (HW2.out.trans (hb3.mono HW2.out.size)); clear hown hb3)
        | (refine ⟨trivial, ?_⟩; gi_at_call 131; refine (CallsIn.inRound l (callsIn_wide.2 (trimmed_far _ _ _ HL3.out (by simp only [List.length_append, List.length_cons, List.length_nil]; rw [HRL.out]; omega) (by intro z hz; rw [List.singleton_append, List.mem_cons] at hz; rcases hz with rfl | hz; (constructor <;> omega); exact dig4 r z hz)))).mono ?_; rintro e w4 ⟨v4, rfl, hnt4, ha4, rfl⟩; have HNT4 := Lib.hid hnt4; have HA4 := Lib.hid (ha4 _ HA3.out); clear hnt4 ha4; refine Hid.out ?_))
      refine Lib.hid ?_
      have hn4 := HNT4.out
      rw [List.singleton_append, hcons, Int.toNat_natCast] at hn4
      obtain ⟨p, hp⟩ : ∃ p, g + 10000 * r = p := ⟨_, rfl⟩
      have HP := Lib.hid hp
      rw [hp] at hn4 hsn2 hxl hml hcons
      obtain ⟨q, hq⟩ : ∃ q, p / d = q := ⟨_, rfl⟩
      have HQE := Lib.hid hq
      have hq9 : q < 10000 := by rw [← hq, Nat.div_lt_iff_lt_mul hd, Nat.mul_comm 10000 d]; omega
      have hdq : d * q ≤ p := by rw [← hq]; exact Nat.mul_div_le _ _
      have hpd : p < d * 10000 := by omega
      rw [hq] at hsn2 hml
      obtain ⟨al4, c4, rfl, _⟩ := Ls.shape hn4
      obtain ⟨L4, hL4⟩ : ∃ L4, (dz 10000 p).length = L4 := ⟨_, rfl⟩
      rw [hL4] at hn4 ⊢
      have HL4 := Lib.hid hL4
      obtain ⟨W5, hW5⟩ : ∃ W5, w4.setCell ⟨Br, 0, none⟩ (.slice al4 L4 c4) = W5 := ⟨_, rfl⟩
      have bR4 := HR'.out.kept (W' := w4) (row := none) ⟨HB3.out.os, HB3.out.tape, HB3.out.output, HB3.out.size, fun k hk _ => HB3.out.block k hk⟩ (by simp)
      have hcr4 := bR4.cell; have hfr4 := bR4.frozen
      have bR5 : Boxed W5 Br 92 (.slice al4 L4 c4) := by rw [← hW5]; exact bR4.set _
      have kb5 : Kb gq Br W W5 := by
        rw [← hW5]
        refine ⟨Nat.le_trans HB3.out.size (by simp), fun k hk h1 h2 => ?_⟩
        rw [Below.heap_setCell _ _ _ _ h2]
        exact HB3.out.block k hk
      have n5 : Hid (Nt W5 (.slice al4 L4 c4) p) := by
        rw [← hW5]
        exact ls_setBox hn4 bR4 _
      have bD5 : Boxed W5 w.heap.size 92 (.slice al2 M c2) := (kb5.2 _ HD'.out.lt (by omega) (by omega)).trans HD'.out
      have bQ5 : Boxed W5 Bq 40 (.slice (some ⟨gq, 0, none⟩) S S) := (kb5.2 _ HQ'.out.lt (by omega) (by omega)).trans HQ'.out
      have row5 : W5.heap[gq]? = some (.cells (qs.map (Value.int .i64)).toArray 3 (0, 0)) := by
        rw [← hW5, Below.heap_setCell _ _ _ _ (by exact hn2), HB3.out.block gq (Array.getElem?_eq_some_iff.1 HROW.out).1]
        exact HROW.out
      have hb5 : Hid (Below w.heap.size w W5) := by
        rw [← hW5]
        exact (HBW.out.trans (HB3.out.mono HBW.out.size)).setCell (p := ⟨Br, 0, none⟩) (by simp; omega) _
      clear hn4 hL4 hp hq bR4 hcr hfr hcd hcq hcons
      have hxq : x.val < qs.length := by have h9 := HZL.out; omega
      obtain ⟨old, hold⟩ : ∃ old, qs[x.val]? = some old := ⟨qs[x.val], List.getElem?_eq_getElem hxq⟩
      have hcx5 : W5.cell? ⟨gq, x.val, none⟩ = some (.int .i64 old) := by
        rw [cell_of_row _ _ _ _ _ _ row5]; simp [hold]
      have hfx5 : W5.frozen? ⟨gq, x.val, none⟩ = false := frozen_of_row _ _ _ _ _ row5
      have hcd5 := bD5.cell; have hcq5 := bQ5.cell; have hcr5 := bR5.cell; have hfr5 := bR5.frozen
      have hgl5 : gq < W5.heap.size := (Array.getElem?_eq_some_iff.1 row5).1
      have hdl5 : w.heap.size < W5.heap.size := bD5.lt
      have hql5 : Bq < W5.heap.size := bQ5.lt
      have hrl5 : Br < W5.heap.size := bR5.lt
      have KC5 := Lib.hid (fun W' (hW : Below W5.heap.size W5 W') => And.intro ((hW.cell (p := ⟨w.heap.size, 0, none⟩) hdl5).trans hcd5) (And.intro ((hW.cell (p := ⟨Bq, 0, none⟩) hql5).trans hcq5) (And.intro ((hW.cell (p := ⟨Br, 0, none⟩) hrl5).trans hcr5) (And.intro ((hW.cell (p := ⟨gq, x.val, none⟩) hgl5).trans hcx5) ((hW.frozen (p := ⟨gq, x.val, none⟩) hgl5).trans hfx5)))))
      have C7 := Lib.hid (fun W' (hW : Below W5.heap.size W5 W') => holds_nt W' (.slice al4 L4 c4) (.slice al2 M c2) p d (Nt.below n5.out (Nat.le_refl _) hW) (Nt.below (Nt.below H2.out (Nat.le_refl _) hb5.out) (Nat.le_refl _) hW) hd hpd (by have := hxl.out; omega) (by have := HLD.out; omega))
      rw [HQE.out] at C7
      have hxI : (x.val : Int) < (S : Int) := by omega
      have hxI0 : (0 : Int) ≤ (x.val : Int) := by omega
      have hmx : Tryz.prog.follows .mixedOrders = true := by kernel_rfl
      gi_wp2
      have HW5 := Lib.hid hW5
      have BD5 := Lib.hid bD5; have BQ5 := Lib.hid bQ5; have BR5 := Lib.hid bR5; have ROW5 := Lib.hid row5
      clear hW5 bD5 bQ5 bR5 row5 hold
      gi_cut [39] from 35 (fun s39 wx => Cut7 W5 gq x.val q wx)
      case first =>
        gi_region_with_o (refine ⟨trivial, ?_⟩; gi_at_call 133; refine (CallsIn.inRound l (callsIn_wide.2 (C7.out _ ((Below.refl _ _).drew)))).mono ?_; rintro e w6 ⟨rfl, hb6⟩; have hB6 := Lib.hid (below1 (Below.refl _ W5).drew hb6); obtain ⟨k1, k2, k3, k4, k5⟩ := KC5.out _ hB6.out; clear hb6)
        all_goals gi_wp2
        all_goals gi_meet
        all_goals exact ⟨w6, hB6.out, rfl⟩
      case rest =>
        rename World => W7
        obtain ⟨w6, hB6, hW7⟩ := hcut
        have far : ∀ k, k ≠ gq → W7.heap[k]? = w6.heap[k]? := fun k hk => by rw [hW7]; exact Below.heap_setCell _ _ _ _ hk
        have bD7 : Boxed W7 w.heap.size 92 (.slice al2 M c2) := (far _ (by omega)).trans ((hB6.block _ hdl5).trans BD5.out)
        have bQ7 : Boxed W7 Bq 40 (.slice (some ⟨gq, 0, none⟩) S S) := (far _ (by omega)).trans ((hB6.block _ hql5).trans BQ5.out)
        have bR7 : Boxed W7 Br 92 (.slice al4 L4 c4) := (far _ (by omega)).trans ((hB6.block _ hrl5).trans BR5.out)
        have row7 : W7.heap[gq]? = some (.cells ((qs.set x.val (q : Int)).map (Value.int .i64)).toArray 3 (0, 0)) := by
          rw [hW7, heap_setCell_same _ _ _ _ _ _ ((hB6.block gq hgl5).trans ROW5.out), ← map_set]
          simp
        have hs7 : W5.heap.size ≤ W7.heap.size := by rw [hW7]; exact Nat.le_trans hB6.size (by simp)
        have n7 : Hid (Nt W7 (.slice al4 L4 c4) p) := by
          rw [hW7]
          exact ls_setFar (Nt.below n5.out (Nat.le_refl _) hB6) (by have h9 := HA4.out; have h8 := (Array.getElem?_eq_some_iff.1 HROW.out).1; simp only [World.size_alloc] at h9; cases al4 with | none => trivial | some a4 => exact Nat.le_trans (show gq + 1 ≤ W.heap.size + 1 + 1 by omega) h9) _ _
        have hb7 : Hid (Below w.heap.size w W7) := by
          rw [hW7]; exact (hb5.out.trans (hB6.mono hb5.out.size)).setCell (p := ⟨gq, x.val, none⟩) (by simp; omega) _
        have kb7 : Kb gq Br W W7 := ⟨Nat.le_trans kb5.1 hs7, fun k hk h1 h2 => (far k h1).trans ((hB6.block k (by have := kb5.1; omega)).trans (kb5.2 k hk h1 h2))⟩
        have HKB7 := Lib.hid kb7
        have hcx7 : W7.cell? ⟨gq, x.val, none⟩ = some (.int .i64 (q : Int)) := by
          rw [cell_of_row _ _ _ _ _ _ row7]; simp; rw [List.getElem?_set_self (by simpa using hxq)]
        clear far hW7 hB6 KC5 C7 kb5 hcx5 hfx5 hcd5 hcq5 hcr5 hfr5 kb7 hrl5 hql5 hdl5 hgl5
        have hcd7 := bD7.cell; have hcq7 := bQ7.cell; have hcr7 := bR7.cell; have hfr7 := bR7.frozen
        have hgl7 : gq < W7.heap.size := (Array.getElem?_eq_some_iff.1 row7).1
        have KC7 := Lib.hid (fun W' (hW : Below W7.heap.size W7 W') => And.intro ((hW.cell (p := ⟨w.heap.size, 0, none⟩) bD7.lt).trans hcd7) (And.intro ((hW.cell (p := ⟨Bq, 0, none⟩) bQ7.lt).trans hcq7) (And.intro ((hW.cell (p := ⟨Br, 0, none⟩) bR7.lt).trans hcr7) (And.intro ((hW.cell (p := ⟨gq, x.val, none⟩) hgl7).trans hcx7) ((hW.frozen (p := ⟨Br, 0, none⟩) bR7.lt).trans hfr7)))))
        have C8 := Lib.hid (fun W' (hW : Below W7.heap.size W7 W') => timesGroup_nt W' (.slice al2 M c2) d q (Nt.below (Nt.below H2.out (Nat.le_refl _) hb7.out) (Nat.le_refl _) hW) hq9 (by have := HLD.out; omega))
        have C9 := Lib.hid (fun W' v' (hW : Below W7.heap.size W7 W') (hv : Nt W' v' (d * q)) => minus_nt W' (.slice al4 L4 c4) v' p (d * q) (Nt.below n7.out (Nat.le_refl _) hW) hv (by have := hxl.out; omega) hdq)
        have BD7 := Lib.hid bD7; have BQ7 := Lib.hid bQ7; have BR7 := Lib.hid bR7; have ROW7 := Lib.hid row7
        clear bD7 bQ7 bR7 row7
        have hps : p - d * q = p % d := by rw [← HQE.out]; exact mod_sub p d
        rw [hps] at C9
        have FIN := Lib.hid (fun (w8 : World) (v8 : Value) (hb8 : Below W7.heap.size W7 w8) (hn8 : Nt w8 v8 (p % d)) => show
            (KeepsFrom (wc.alloc (.cells #[.slice alt S ct] 92)).heap.size W (w8.setCell ⟨Br, 0, none⟩ v8) ∧ Kq wc.heap.size (.slice alt S ct) W (w8.setCell ⟨Br, 0, none⟩ v8) ∧ DivI w (.slice al2 M c2) d zs r0 gq Bq Br S (pre ++ [x]) (w8.setCell ⟨Br, 0, none⟩ v8)) by
          have kb : Kb gq Br W (w8.setCell ⟨Br, 0, none⟩ v8) := ⟨Nat.le_trans HKB7.out.1 (Nat.le_trans hb8.size (by simp)), fun k hk h1 h2 => by
            rw [Below.heap_setCell _ _ _ _ (by exact h2), hb8.block k (by have := HKB7.out.1; omega)]
            exact HKB7.out.2 k hk h1 h2⟩
          have br8 : Boxed w8 Br 92 (.slice al4 L4 c4) := (hb8.block _ BR7.out.lt).trans BR7.out
          refine ⟨⟨kb.1, fun k o hB hk ho => ?_⟩, fun k hk hlt => ?_, v8, ⟨?_, ?_, br8.set _, ?_, ?_, ?_⟩⟩
          · have hlt := (Array.getElem?_eq_some_iff.1 hk).1
            rw [World.size_alloc] at hB
            rw [kb.2 k hlt (by omega) (by omega)]
            exact hk
          · have := hblk
            exact kb.2 k hlt (by rcases hk with rfl | rfl; omega; exact this.1) (by rcases hk with rfl | rfl; omega; exact this.2.2)
          · exact (kb.2 _ HD'.out.lt (by omega) (by omega)).trans HD'.out
          · exact (kb.2 _ HQ'.out.lt (by omega) (by omega)).trans HQ'.out
          · rw [Below.heap_setCell _ _ _ _ (by exact hn2), hb8.block gq hgl7, ROW7.out, hsn2.out]
          · rw [hsn2.out]; exact ls_setBox hn8 br8 _
          · exact (hb7.out.trans (hb8.mono hb7.out.size)).setCell (p := ⟨Br, 0, none⟩) (by simp; omega) _)
        clear hps
        gi_wp2
        gi_region_with_o (first
          | (refine ⟨trivial, ?_⟩; gi_at_call 134; refine (CallsIn.inRound l (callsIn_wide.2 (C8.out _ ((Below.refl _ _).drew)))).mono ?_; rintro e w8 ⟨v8, rfl, hv8, hb8⟩; have hB8 := Lib.hid (below1 (Below.refl _ W7).drew hb8); have hV8 := Lib.hid hv8; obtain ⟨k1, k2, k3, k4, k5⟩ := KC7.out _ hB8.out; clear hb8 hv8)
          | (refine ⟨trivial, ?_⟩; gi_at_call 107; refine (CallsIn.inRound l (callsIn_wide.2 (C9.out _ _ hB8.out hV8.out))).mono ?_; rintro e w9 ⟨v9, rfl, hv9, hb9⟩; have hB9 := Lib.hid (below1 hB8.out hb9); have hV9 := Lib.hid hv9; obtain ⟨k6, k7, k8, k9, k10⟩ := KC7.out _ hB9.out; clear hb9; obtain ⟨al9, c9, rfl, _⟩ := Ls.shape hv9; clear hv9))
        all_goals gi_wp2
        all_goals exact FIN.out _ _ hB9.out hV9.out
    case done =>
      rintro D ys W hD rfl ⟨vr, hS⟩ hK
      obtain ⟨hD', hQ, hR, hrow, hnr', hB'⟩ := hS
      obtain ⟨hd1, hd2⟩ := HDN.out
      obtain ⟨hi1, hi2, hi3⟩ := HIN.out (dn zs.length (Nat.le_refl _))
      generalize dvSt d zs r0 (dn zs.length (Nat.le_refl _)) = st at *
      obtain ⟨r, qs⟩ := st
      simp only at hd1 hd2 hi1 hi2 hi3 hrow hnr'
      subst hd1
      have hql : qs.length = S := by rw [hi2, HZL.out]
      have lsq : Hid (Ls W (.slice (some ⟨gq, 0, none⟩) S S) qs) := .inr ⟨gq, 0, S, by rw [hql], by omega, (Array.getElem?_eq_some_iff.1 hrow).1, fun i hi => by
        rw [cell_of_row _ _ _ _ _ _ hrow, Nat.zero_add]
        simp [List.getElem?_eq_getElem hi]⟩
      have CT := Lib.hid (fun Wy (hy : Below W.heap.size W Wy) => trimmed_nt Wy (.slice (some ⟨gq, 0, none⟩) S S) qs (lsq.out.below (Nat.le_refl _) hy) (by omega) hi3)
      rw [hd2, Int.toNat_natCast] at CT
      have HNR := Lib.hid hnr'; have HBW := Lib.hid hB'
      obtain ⟨alv, cv, rfl, _⟩ := Ls.shape hnr'
      have hcq := hQ.cell; have hcr := hR.cell
      have hmx : Tryz.prog.follows .mixedOrders = true := by kernel_rfl
      have hK0 := Lib.hid hK
      clear hnr' hB' hrow hQ hR hD' hi1 hi2 hi3 hd2 hql lsq
      gi_wp2
      refine wpIn_wide.2 ?_
      go_region_held3 (fun w' => w'.cell? ⟨Bq, 0, none⟩ = some (.slice (some ⟨gq, 0, none⟩) S S) ∧ w'.cell? ⟨Br, 0, none⟩ = some (.slice alv (dz 10000 (n % d)).length cv))
        (first
          | exact ⟨hcq, hcr⟩
          | go_keep)
        (first
          | (go_at_call 131; (with_reducible refine (CT.out _ (Below.refl _ _).drew).mono ?_); rintro e w8 ⟨v8, rfl, hv8, rfl⟩; have hV8 := Lib.hid hv8; clear hv8))
      all_goals gi_wp2
      have hK' : W.drew.heap[D]? = some (.deferred (some [])) := hK0.out
      have hby : Below w.heap.size w (W.drew.putObj D (.deferred none)) := HBW.out.drew.trans (belowK_b (w := w) (Nat.le_refl _) _ D _ _ (by simp at hD; omega) hK' rfl rfl)
      refine ⟨by simp, .inl ⟨_, _, rfl, run_takeDeferred hK', ?_⟩⟩
      have hrk : ∀ r, some D = some r → ∃ o : Obj, W.drew.heap[r]? = some o ∧ o.isCells = false := fun r e => by cases e; exact ⟨_, hK', rfl⟩
      have r1 : Nt (W.drew.putObj D (.deferred none)) v8 (n / d) := ls_grown hV8.out (grownBy_putObj' _ D (.deferred none)) hrk
      have r2 : Nt (W.drew.putObj D (.deferred none)) (.slice alv (dz 10000 (n % d)).length cv) (n % d) := ls_grown (Nt.below HNR.out (Nat.le_refl _) (Below.refl _ _).drew) (grownBy_putObj' _ D (.deferred none)) hrk
      exact ⟨_, results_tmp2 rfl _ _ _, v8, _, rfl, r1, r2, hby⟩
    case stop =>
      rintro D c pre W _ _ h _
      exact h.elim
end Go.Proofs.YtcjcafekacceiaaGreatDoor
