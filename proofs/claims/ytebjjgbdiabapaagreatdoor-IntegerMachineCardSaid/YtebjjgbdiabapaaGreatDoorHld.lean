/- holds, walked. -/
import Derived.Test.YtebjjgbdiabapaaGreatDoorSrc
import Derived.RangeFuncBox
import Derived.Deep.DeepCutAuto
namespace Go.Proofs.YtebjjgbdiabapaaGreatDoor
open Go.RowKit

/-- What holds reckons with. -/
structure HldN (n d low top div least most q : Nat) : Prop where
  eTop : n / 10000 ^ low = top
  eDiv : d / 10000 ^ low = div
  topLt : top < 10000 ^ 3
  divLt : div < 10000 ^ 2
  divPos : 0 < div
  eLeast : top / (div + 1) = least
  eMost : min (top / div) 9999 = most
  le1 : least ≤ q
  le2 : q ≤ most
theorem hld_of (n d : Nat) (hd : 0 < d) (h : n < d * 10000) : ∃ top div least most, HldN n d ((dz 10000 d).length - 2) top div least most (n / d) := by
  obtain ⟨L, hL⟩ : ∃ L, (dz 10000 d).length = L := ⟨_, rfl⟩
  have hdl := dz_lt 10000 (by decide) d
  have hdp : (dz 10000 d).length ≠ 0 := by have := (dz_length_pos 10000 (by decide) d).2 (by omega); omega
  have hge : 10000 ^ (L - 2) ≤ d := pow_le_of_len 10000 (by decide) d (L - 2) (by omega)
  rw [hL] at hdl hdp ⊢
  have hP : 0 < 10000 ^ (L - 2) := Nat.pow_pos (by decide)
  have hdP : 0 < d / 10000 ^ (L - 2) := Nat.div_pos hge hP
  have hd2 : d < 10000 ^ 2 * 10000 ^ (L - 2) := by
    rw [← Nat.pow_add]
    exact Nat.lt_of_lt_of_le hdl (Nat.pow_le_pow_right (by decide) (by omega))
  refine ⟨_, _, _, _, ⟨rfl, rfl, ?_, ?_, hdP, rfl, rfl, least_le n d _ hd hP, ?_⟩⟩
  · rw [Nat.div_lt_iff_lt_mul hP]
    refine Nat.lt_of_lt_of_le h ?_
    calc d * 10000 ≤ (10000 ^ 2 * 10000 ^ (L - 2)) * 10000 := Nat.mul_le_mul_right _ (Nat.le_of_lt hd2)
      _ = 10000 ^ 3 * 10000 ^ (L - 2) := by rw [Nat.mul_right_comm]
  · rw [Nat.div_lt_iff_lt_mul hP]; exact hd2
  · have h1 := le_most n d _ hdP hP
    have h2 : n / d < 10000 := by rw [Nat.div_lt_iff_lt_mul hd, Nat.mul_comm]; exact h
    omega

/-- The same, as the walk meets it. -/
structure HldF (top div least most t2 q : Nat) : Prop where
  topI : (top : Int) < 1000000000000
  divI : (div : Int) < 100000000
  divP : (0 : Int) < (div : Int)
  d1 : ¬ ((div : Int) + 1 = 0)
  d2 : ¬ (div = 0)
  e1 : (top : Int) / ((div : Int) + 1) = (least : Int)
  e2 : (top : Int) / (div : Int) = (t2 : Int)
  wd : IntKind.i64.wrap ((div : Int) + 1) = (div : Int) + 1
  wl : IntKind.i64.wrap (least : Int) = (least : Int)
  wt : IntKind.i64.wrap (t2 : Int) = (t2 : Int)
  wt' : wrap64 (t2 : Int) = (t2 : Int)
  mn : (if (9999 : Int) < (t2 : Int) then (9999 : Int) else (t2 : Int)) = (most : Int)
  mI : (most : Int) ≤ 9999
  lm : (least : Int) ≤ (most : Int)
  lq : least ≤ q
  qm : q ≤ most
  ws : IntKind.i64.wrap ((most : Int) - (least : Int)) = ((most - least : Nat) : Int)
  wq : IntKind.i64.wrap ((least : Int) + ((q - least : Nat) : Int)) = (q : Int)
theorem small_wrap (x : Nat) (h : x < 1000000000000000) : IntKind.i64.wrap (x : Int) = (x : Int) := wrap_in _ ⟨by omega, by omega⟩
theorem hld_facts {n d low top div least most q : Nat} (h : HldN n d low top div least most q) : ∃ t2, HldF top div least most t2 q := by
  obtain ⟨_, _, h1, h2, h3, h4, h5, h6, h7⟩ := h
  have h1' : top < 1000000000000 := h1
  have h2' : div < 100000000 := h2
  clear h1 h2
  obtain ⟨t2, ht⟩ : ∃ t2, top / div = t2 := ⟨_, rfl⟩
  have hb : t2 ≤ top := by rw [← ht]; exact Nat.div_le_self _ _
  have hlb : least ≤ top := by rw [← h4]; exact Nat.div_le_self _ _
  rw [ht] at h5
  have e1 : (top : Int) / ((div : Int) + 1) = (least : Int) := by rw [← h4, Int.natCast_ediv]; rfl
  have e2 : (top : Int) / (div : Int) = (t2 : Int) := by rw [← ht, Int.natCast_ediv]
  clear h4 ht
  have ws : (most : Int) - (least : Int) = ((most - least : Nat) : Int) := by omega
  have wq : (least : Int) + ((q - least : Nat) : Int) = (q : Int) := by omega
  have hmt : most ≤ t2 := by omega
  have hm9 : most ≤ 9999 := by omega
  have wd : ((div : Int) + 1) = ((div + 1 : Nat) : Int) := by omega
  refine ⟨t2, ⟨by omega, by omega, by omega, by omega, by omega, e1, e2, ?_, small_wrap _ (by omega), small_wrap _ (by omega), IntWalk.wrap64_in _ ⟨by omega, by omega⟩, ?_, by omega, by omega, h6, h7, ?_, ?_⟩⟩
  · rw [wd]; exact small_wrap _ (by omega)
  · clear e1 e2 ws wq wd
    by_cases h9 : (9999 : Int) < (t2 : Int)
    · rw [if_pos h9]; omega
    · rw [if_neg h9]; omega
  · rw [ws]; exact small_wrap _ (by omega)
  · rw [wq]; exact small_wrap _ (by omega)

set_option maxRecDepth 100000 in
set_option maxHeartbeats 4000000 in
theorem holds_nt (w : World) (v1 v2 : Value) (n d : Nat) (h1 : Nt w v1 n) (h2 : Nt w v2 d) (hd : 0 < d) (hnd : n < d * 10000) (hln : (dz 10000 n).length ≤ 9000) (hld : (dz 10000 d).length ≤ 9000) :
    Calls Tryz.prog 82 #[v1, v2] w (IntOut w ((n / d : Nat) : Int)) := by
  obtain ⟨top, div, least, most, HH⟩ := hld_of n d hd hnd
  obtain ⟨t2, HF⟩ := hld_facts HH
  obtain ⟨q, hq⟩ : ∃ q, n / d = q := ⟨_, rfl⟩
  have HQ := Lib.hid hq
  rw [hq] at HH HF ⊢
  obtain ⟨low, hlow⟩ : ∃ low, (dz 10000 d).length - 2 = low := ⟨_, rfl⟩
  rw [hlow] at HH
  have A1 := Lib.hid (fun W v (hv : Nt W v n) => above_nt W v n low hv (by omega) (by omega) (by rw [HH.eTop]; exact HH.topLt))
  have A2 := Lib.hid (fun W v (hv : Nt W v d) => above_nt W v d low hv (by omega) (by omega) (by rw [HH.eDiv]; exact Nat.lt_of_lt_of_le HH.divLt (by decide)))
  rw [HH.eTop] at A1
  rw [HH.eDiv] at A2
  clear HH
  have hdI := HF.divP; have h01 := HF.d1; have h02 := HF.d2; have e1 := HF.e1; have e2 := HF.e2; have hwd := HF.wd; have hwl := HF.wl; have hwt := HF.wt; have hwt' := HF.wt'; have hif := HF.mn
  have hd1 : ∀ (W : World), (binOp .quo 3 (.int .i64 (top : Int)) (.int .i64 ((div : Int) + 1))).run Tryz.prog W = .ok (.int .i64 (least : Int)) W := fun W => by
    simp [binOp, go_sem, e1, h01, hwl]
  have hd2 : ∀ (W : World), (binOp .quo 3 (.int .i64 (top : Int)) (.int .i64 (div : Int))).run Tryz.prog W = .ok (.int .i64 (t2 : Int)) W := fun W => by
    simp [binOp, go_sem, e2, h02, hwt]
  have hmn : ∀ (ts : Array TypeId) (t : TypeId) (W : World), (Builtin.min_ ts t #[.int .i64 (t2 : Int), .int .i64 9999]).run Tryz.prog W = .ok (.int .i64 (most : Int)) W := fun ts t W => by
    rw [run_min_int2, hif]
  have hws := HF.ws; have hwq := HF.wq
  have HFH := Lib.hid HF
  clear HF
  have H1 := Lib.hid h1; have H2 := Lib.hid h2
  have HLN := Lib.hid hln; have HLD := Lib.hid hld
  obtain ⟨al1, c1, rfl, _⟩ := h1.shape
  obtain ⟨al2, c2, rfl, _⟩ := h2.shape
  obtain ⟨N, hNe⟩ : ∃ N, (dz 10000 n).length = N := ⟨_, rfl⟩
  obtain ⟨M, hMe⟩ : ∃ M, (dz 10000 d).length = M := ⟨_, rfl⟩
  rw [hNe] at H1 hln ⊢; rw [hMe] at H2 hlow hld ⊢
  have hmx : ∀ (ts : Array TypeId) (t : TypeId) (W : World), (Builtin.max_ ts t #[.int .i64 0, .int .i64 ((M : Int) - 2)]).run Tryz.prog W = .ok (.int .i64 (low : Int)) W := fun ts t W => by
    rw [run_max_int2]
    congr 2
    clear e1 e2 hd1 hd2 hmn hif hwd hwl hwt hwt' hws hwq
    split <;> omega
  clear hNe hMe h1 h2 hnd hlow hq
  have HB0 := Lib.hid ((Below.refl w.heap.size w).alloc (Nat.le_refl _) (.cells #[.slice al1 N c1] 47))
  go_enter Tryz.func82, Tryz.ntmps82
  go_wp2_with (first
    | (go_at_call 101; (with_reducible refine (A1.out _ _ (Nt.below H1.out (Nat.le_refl _) HB0.out)).mono ?_); rintro e w1 ⟨rfl, hb1⟩; have HB1 := Lib.hid (HB0.out.trans (hb1.mono HB0.out.size)); have HC1 := Lib.hid (hb1.cell (p := ⟨w.heap.size, 0, none⟩) (by simp)); have HS1 := Lib.hid hb1.size; clear hb1)
    | (go_at_call 101; (with_reducible refine (A2.out _ _ (Nt.below H2.out (Nat.le_refl _) HB1.out)).mono ?_); rintro e w2 ⟨rfl, hb2⟩; have HB2 := Lib.hid (HB1.out.trans (hb2.mono HB1.out.size)); have hcn := (hb2.cell (p := ⟨w.heap.size, 0, none⟩) (by have h := HS1.out; rw [World.size_alloc] at h; exact h)).trans (HC1.out.trans (Boxed.new w _ _).cell); have HS2 := Lib.hid (show w.heap.size < w2.heap.size by have h := HS1.out; rw [World.size_alloc] at h; have := hb2.size; omega); clear hb2; refine Hid.out ?_))
  refine Lib.hid ?_
  have bL : Boxed (w2.alloc (.cells #[.int .i64 (least : Int)] 3)) w2.heap.size 3 (.int .i64 (least : Int)) := Boxed.new w2 3 _
  have HBL := Lib.hid bL
  have HCN := Lib.hid hcn
  clear bL hcn
  go_upto_region 3 with fail
  go_cut [8, 9] from 21 to 28 (fun s8 s9 wx => s8 = .pointer (some ⟨w2.heap.size, 0, none⟩) ∧ s9 = .int .i64 (most : Int) ∧ Below w2.heap.size w2 wx ∧ Boxed wx w2.heap.size 3 (.int .i64 (least : Int)))
  case first =>
    go_region_held3 (fun w' => True) (first | trivial) (first | fail)
    all_goals go_wp2_with fail
    all_goals go_meet
    all_goals exact ⟨rfl, rfl, ((Below.refl _ _).alloc (Nat.le_refl _) _).drew, HBL.out⟩
  case rest =>
    obtain ⟨rfl, rfl, hb3, hL⟩ := hcut
    have HB3 := Lib.hid (HB2.out.trans (hb3.mono HB2.out.size))
    have hcn3 : wc.cell? ⟨w.heap.size, 0, none⟩ = some (.slice al1 N c1) := (hb3.cell (p := ⟨w.heap.size, 0, none⟩) HS2.out).trans HCN.out
    have hlt3 : w2.heap.size < wc.heap.size := hL.lt
    have hlt4 : w.heap.size < wc.heap.size := by have := HS2.out; omega
    obtain ⟨W4, hW4⟩ : ∃ W4, wc.alloc (.cells #[.func (.func 78) #[.slice al2 M c2] #[]] 89) = W4 := ⟨_, rfl⟩
    have hb4 : Below wc.heap.size wc W4 := by rw [← hW4]; exact (Below.refl _ _).alloc (Nat.le_refl _) _
    have HB4 := Lib.hid (HB3.out.trans (hb4.mono HB3.out.size))
    have hm4 : W4.cell? ⟨wc.heap.size, 0, none⟩ = some (.func (.func 78) #[.slice al2 M c2] #[]) := by rw [← hW4]; exact (Boxed.new wc _ _).cell
    have hl4 : W4.cell? ⟨w2.heap.size, 0, none⟩ = some (.int .i64 (least : Int)) := (hb4.cell (p := ⟨w2.heap.size, 0, none⟩) hlt3).trans hL.cell
    have hn4 : W4.cell? ⟨w.heap.size, 0, none⟩ = some (.slice al1 N c1) := (hb4.cell (p := ⟨w.heap.size, 0, none⟩) hlt4).trans hcn3
    have KC := Lib.hid (fun W (hW : Below W4.heap.size W4 W) => (hW.cell (p := ⟨w2.heap.size, 0, none⟩) (block_lt_of_cell hl4)).trans hl4)
    have HSR := Lib.hid (fun W (hW : Below W4.heap.size W4 W) => search_any (.pointer (some ⟨wc.heap.size, 0, none⟩)) (.pointer (some ⟨w2.heap.size, 0, none⟩)) (.pointer (some ⟨w.heap.size, 0, none⟩)) (most - least) (q - least) (by have := HFH.out.qm; omega) (by have := HFH.out.mI; omega) W (fun W5 hW5 i hi => by
      have h5 := hW.trans (hW5.mono hW.size)
      refine (over_any wc.heap.size w2.heap.size w.heap.size (.slice al1 N c1) (.slice al2 M c2) n d least i (by have := HLN.out; omega) (by have := HLD.out; omega) (by have := HFH.out.mI; omega) W5
        ((h5.cell (p := ⟨wc.heap.size, 0, none⟩) (block_lt_of_cell hm4)).trans hm4) ((h5.cell (p := ⟨w2.heap.size, 0, none⟩) (block_lt_of_cell hl4)).trans hl4) ((h5.cell (p := ⟨w.heap.size, 0, none⟩) (block_lt_of_cell hn4)).trans hn4)
        (Nt.below (Nt.below H1.out (Nat.le_refl _) HB4.out) (Nat.le_refl _) h5) (Nt.below (Nt.below H2.out (Nat.le_refl _) HB4.out) (Nat.le_refl _) h5)).mono ?_
      rintro e w' ⟨rfl, hb⟩
      refine ⟨?_, hb⟩
      congr 2
      rw [Nat.mul_comm, decide_eq_decide, over_iff _ _ _ hd, HQ.out]
      have := HFH.out.lq
      omega))
    have hcl := hL.cell
    have HB4s := HB4.out.size
    clear hb3 hL hcn3 hb4 hm4 hn4 hlt4 hcl
    have hsf := fun (W : World) (a : Addr) (c : Array Value) => run_store Tryz.prog W a (.func (.func 78) #[.slice al2 M c2] c) .plain rfl
    go_upto_region 5 with fail
    have HW4 := Lib.hid hW4
    clear hW4 hsf e1 e2 hd1 hd2 hmn hif hwd hwl hwt hwt' hmx
    have HL4 := Lib.hid hl4
    go_region_held3 (fun w' => w'.cell? ⟨w2.heap.size, 0, none⟩ = some (.int .i64 (least : Int)))
      (first
        | exact KC.out _ hB6
        | exact KC.out _ (Below.refl _ _).drew
        | go_keep)
      (first
        | (go_at_call 102; (with_reducible refine (HSR.out _ ((Below.refl _ _).drew)).mono ?_); rintro e w6 ⟨rfl, hb6⟩; have hB6 := below1 (Below.refl _ W4).drew hb6))
    all_goals
      have HB6 := Lib.hid (HB4.out.trans (hB6.mono HB4.out.size))
      go_wp2
      go_ret
      exact ⟨rfl, HB6.out⟩
end Go.Proofs.YtebjjgbdiabapaaGreatDoor
