/- Integer layer, merged: Tim, Nup, Nut, Nuo, Nui. -/
import Derived.Deep.OwnRows
import Derived.Deep.RegionHeld3
import Derived.Deep.RegionLaw
import Derived.Test.YtcjcafekacceiaaGreatDoorG
import Derived.Test.YtcjcafekacceiaaGreatDoorF
/-! times and the fold of its rows, walked. -/
namespace Go.Proofs.YtcjcafekacceiaaGreatDoor
open Go.RowKit

theorem infoNat : (Tryz.prog.info? 92).map (fun i => (i.zero, i.size, i.bytes)) = some (some (.slice none 0 0), 1, 24) := by kernel_rfl
/-- The row of a product that one group gives. -/
def rowT (n m i : Nat) : Nat := n * (m / 10000 ^ i % 10000) * 10000 ^ i
theorem rowT_sum (n m k : Nat) : n * (m % 10000 ^ (k + 1)) = n * (m % 10000 ^ k) + rowT n m k := by
  unfold rowT
  rw [Nat.mod_pow_succ, Nat.mul_add, Nat.mul_assoc, Nat.mul_comm (10000 ^ k)]
theorem mul_len (n m a b : Nat) (hn : (dz 10000 n).length ≤ a) (hm : (dz 10000 m).length ≤ b) : (dz 10000 (n * m)).length ≤ a + b := by
  rw [len4] at *
  rw [Nat.pow_add]
  exact Nat.mul_lt_mul'' hn hm
theorem rowT_le (n m i : Nat) : rowT n m i ≤ n * m := by
  unfold rowT
  rw [Nat.mul_assoc]
  refine Nat.mul_le_mul_left _ ?_
  exact Nat.le_trans (Nat.mul_le_mul_right _ (Nat.mod_le _ _)) (Nat.div_mul_le_self _ _)
theorem ls_setRow {W : World} {v : Value} {zs : List Int} {B i : Nat} {t : TypeId} {vs : List Value} (h : Ls W v zs) (hb : W.heap[B]? = some (.cells vs.toArray t (0, 0))) (hvs : ∀ x ∈ vs, ∃ al n c, x = .slice al n c) (u : Value) : Ls (W.setCell ⟨B, i, none⟩ u) v zs := by
  rcases h with h | ⟨b, o, c', rfl, hc, hlt, hcell⟩
  · exact .inl h
  · refine .inr ⟨b, o, c', rfl, hc, by simp; omega, fun j hj => ?_⟩
    have h1 := hcell j hj
    have hne : b ≠ B := by
      intro e
      subst e
      rw [cell_of_row _ _ _ _ _ _ hb] at h1
      have h2 : vs[o + j]? = some (.int .i64 (zs[j]?.getD 0)) := by simpa using h1
      obtain ⟨al, n, c, h3⟩ := hvs _ (List.mem_of_getElem? h2)
      cases h3
    exact (World.cell?_of_block (Below.heap_setCell _ _ _ _ (by exact hne))).trans h1

set_option maxRecDepth 100000 in
set_option maxHeartbeats 2000000 in
theorem fold_nt (w : World) (gr M c : Nat) (vs : List Value) (f S : Nat → Nat) (hM : vs.length = M) (hMb : M ≤ 100000) (hg : w.heap[gr]? = some (.cells vs.toArray 92 (0, 0))) (hv : ∀ i, i < M → ∃ v, vs[i]? = some v ∧ Nt w v (f i))
    (h0 : S 0 = 0) (hS : ∀ k, S (k + 1) = S k + f k) (hf : ∀ k, k < M → (dz 10000 (f k)).length ≤ 15000) (hSl : ∀ k, k ≤ M → (dz 10000 (S k)).length ≤ 15000) :
    Calls Tryz.prog 154 #[.slice (some ⟨gr, 0, none⟩) M c, .slice none 0 0, .func (.func 106) #[] #[]] w (NtOut w (S M)) := by
  have hgl : gr < w.heap.size := (Array.getElem?_eq_some_iff.1 hg).1
  have HG := Lib.hid hg; have HV := Lib.hid hv; have HS := Lib.hid hS; have HF := Lib.hid hf; have HSL := Lib.hid hSl; have H0 := Lib.hid h0; have HM := Lib.hid hM
  clear hg hv hS hf hSl h0 hM
  go_enter Tryz.func154, Tryz.ntmps154
  go_wp2
  go_loopw [7, 13] (fun u iv wr => ∃ k : Nat, k ≤ M ∧ iv = .int .i64 k ∧ (Nt wr u (S k) ∧ Below w.heap.size w wr)) (fun _ iv _ => M - (intOf iv).toNat)
  case atStart => exact ⟨0, Nat.zero_le _, rfl, by rw [H0.out]; exact Nt.zero _, Below.refl _ _⟩
  case round =>
    obtain ⟨k, hk, rfl, hu, hB⟩ := hrel
    obtain ⟨alu, cu, rfl⟩ := hu.shape
    have HU := Lib.hid hu; have HB := Lib.hid hB
    clear hu hB
    by_cases hkM : k < M
    · obtain ⟨v, hv1, hv2⟩ := HV.out k hkM
      obtain ⟨alv, cv, rfl⟩ := hv2.shape
      have hcell : wr.cell? ⟨gr, k, none⟩ = some (.slice alv (dz 10000 (f k)).length cv) := by
        rw [HB.out.cell (p := ⟨gr, k, none⟩) hgl, cell_of_row _ _ _ _ _ _ HG.out]
        simpa using hv1
      have CP := Lib.hid (plus_nt wr _ _ (S k) (f k) HU.out (Nt.below hv2 (Nat.le_refl _) HB.out) (by have := HSL.out k (by omega); omega) (by have := HF.out k hkM; omega))
      obtain ⟨Lv, hLv⟩ : ∃ Lv, (dz 10000 (f k)).length = Lv := ⟨_, rfl⟩
      obtain ⟨Lu, hLu⟩ : ∃ Lu, (dz 10000 (S k)).length = Lu := ⟨_, rfl⟩
      rw [hLv] at hcell CP; rw [hLu] at CP ⊢
      clear hv1 hv2 hLv hLu HU
      go_wp2_with (go_at_call 106; refine CP.out.mono ?_; rintro e w2 ⟨v2, rfl, hv2, hb2⟩; have HV2 := Lib.hid hv2; have HB2 := Lib.hid hb2; clear hv2 hb2)
      go_roundw
      case rel => exact ⟨k + 1, by omega, by go_num, by rw [HS.out]; exact HV2.out, HB.out.trans (HB2.out.mono HB.out.size)⟩
      case measure => simp [intOf]; omega
    · have hkk : k = M := by omega
      subst hkk
      go_wp2
      go_ret
      exact ⟨_, rfl, HU.out, HB.out⟩

/-- The rows when k of them are laid. -/
def TimR (w : World) (gr n m M k : Nat) (wr : World) : Prop :=
  ∃ vs : List Value, vs.length = M ∧ wr.heap[gr]? = some (.cells vs.toArray 92 (0, 0)) ∧ (∀ i, i < k → ∃ v, vs[i]? = some v ∧ Nt wr v (rowT n m i)) ∧ (∀ x ∈ vs, ∃ al n c, x = .slice al n c) ∧ Below w.heap.size w wr

set_option maxRecDepth 100000 in
set_option maxHeartbeats 2000000 in
theorem times_nt (w : World) (v1 v2 : Value) (n m : Nat) (h1 : Nt w v1 n) (h2 : Nt w v2 m) (hn : (dz 10000 n).length ≤ 3000) (hm : (dz 10000 m).length ≤ 3000) :
    Calls Tryz.prog 126 #[v1, v2] w (NtOut w (n * m)) := by
  have hnm := mul_len n m 3000 3000 hn hm
  have HRL := Lib.hid (show ∀ i, (dz 10000 (rowT n m i)).length ≤ 6000 from fun i => Nat.le_trans (dz_length_mono 10000 (by decide) _ _ (rowT_le n m i)) hnm)
  have HSL := Lib.hid (show ∀ k, (dz 10000 (n * (m % 10000 ^ k))).length ≤ 6000 from fun k => Nat.le_trans (dz_length_mono 10000 (by decide) _ _ (Nat.mul_le_mul_left _ (Nat.mod_le _ _))) hnm)
  have HGL := Lib.hid (show ∀ g, g < 10000 → (dz 10000 (n * g)).length ≤ 3001 from fun g hg => Nat.le_trans (dz_len_mul n g hg) (by omega))
  obtain ⟨M, hMe⟩ : ∃ M, (dz 10000 m).length = M := ⟨_, rfl⟩
  have HTOP := Lib.hid (show m % 10000 ^ M = m from Nat.mod_eq_of_lt (by rw [← hMe]; exact dz_lt 10000 (by decide) m))
  obtain ⟨al1, c1, rfl⟩ := h1.shape
  have H1 := Lib.hid h1; have H2 := Lib.hid h2; have HN := Lib.hid hn
  obtain ⟨N, hNe⟩ : ∃ N, (dz 10000 n).length = N := ⟨_, rfl⟩
  have hdig := Lib.hid (fun i => dz_getD 10000 (by decide) m i)
  have hmk : ∀ W : World, (Instr.makeSlice 163 (.int .i64 M) (.int .i64 M)).run Tryz.prog W = .ok (.slice (some ⟨W.heap.size, 0, none⟩) M M) (W.alloc (.cells (madeCells #[.slice none 0 0] M) 92)) := fun W => run_make_row' (P := Tryz.prog) 163 92 (.slice none 0 0) 24 Tryz.underlying163 infoNat rfl .i64 .i64 M (by omega) (by omega) W
  have HMC := Lib.hid (show (madeCells #[Value.slice none 0 0] M).toList = List.replicate M (Value.slice none 0 0) from toList_madeCells_one ..)
  rw [hNe] at H1 ⊢
  have HC := Lib.hid (show ∀ i, i < M → ∃ b o c, v2 = .slice (some ⟨b, o, none⟩) M c ∧ b < w.heap.size ∧ w.cell? ⟨b, o + i, none⟩ = some (.int .i64 ((dz 10000 m)[i]?.getD 0)) from fun i hi => by
    rcases h2 with ⟨_, h0⟩ | ⟨b2, o2, c2, h0, _, hlt2, hcell2⟩
    · rw [← hMe, h0] at hi; simp at hi
    · exact ⟨b2, o2, c2, by rw [h0, hMe], hlt2, hcell2 i (by rw [hMe]; exact hi)⟩)
  obtain ⟨al2, c2, rfl⟩ := h2.shape
  have HME := Lib.hid hMe
  rw [hMe] at HC hm ⊢
  clear h1 h2 hn hMe hNe hnm
  go_enter Tryz.func126, Tryz.ntmps126
  go_wp2
  go_loopw [13] (fun iv wr => ∃ k : Nat, k ≤ M ∧ iv = .int .i64 k ∧ TimR w w.heap.size n m M k wr) (fun iv _ => M - (intOf iv).toNat)
  case atStart =>
    refine ⟨0, Nat.zero_le _, rfl, List.replicate M (.slice none 0 0), by simp, ?_, fun i hi => by omega, fun x hx => ⟨_, _, _, (List.mem_replicate.1 hx).2⟩, (Below.refl _ _).alloc (Nat.le_refl _) _⟩
    rw [heap_new' _ _ _ rfl, ← HMC.out]
  case round =>
    obtain ⟨k, hk, rfl, vs, hvl, hrow, hvs, hsl, hB⟩ := hrel
    have HROW := Lib.hid hrow; have HVS := Lib.hid hvs; have HSH := Lib.hid hsl; have HB := Lib.hid hB; have HVL := Lib.hid hvl
    have hgl : w.heap.size < wr.heap.size := (Array.getElem?_eq_some_iff.1 hrow).1
    clear hrow hvs hsl hB hvl
    by_cases hkM : k < M
    · obtain ⟨g, hg⟩ : ∃ g, m / 10000 ^ k % 10000 = g := ⟨_, rfl⟩
      have hg9 : g < 10000 := by rw [← hg]; exact Nat.mod_lt _ (by decide)
      obtain ⟨b2, o2, c9, hv9, hlt2, hc9⟩ := HC.out k hkM
      simp only [Value.slice.injEq] at hv9
      obtain ⟨rfl, -, rfl⟩ := hv9
      have hcell := (HB.out.cell (p := ⟨b2, o2 + k, none⟩) hlt2).trans hc9
      clear hc9
      rw [hdig.out, hg] at hcell
      have C1 := Lib.hid (timesGroup_nt wr _ n g (Nt.below H1.out (Nat.le_refl _) HB.out) hg9 (by have := HN.out; omega))
      have C2 := Lib.hid (fun W v (hv : Nt W v (n * g)) => shifted_nt W v (n * g) k hv (by have := HGL.out g hg9; omega) (by omega))
      have hrt : n * g * 10000 ^ k = rowT n m k := by unfold rowT; rw [hg]
      rw [hrt] at C2
      have HRT := Lib.hid hrt
      clear hrt hg
      have hkI : (k : Int) < (M : Int) := by omega
      obtain ⟨old, hold⟩ : ∃ old, vs[k]? = some old := ⟨vs[k]'(by rw [HVL.out]; exact hkM), List.getElem?_eq_getElem _⟩
      have HOLD := Lib.hid hold
      clear hold
      go_wp2_with (first
        | (go_at_call 134; (with_reducible refine C1.out.mono ?_); rintro e w2 ⟨v2, rfl, hv2, hb2⟩; have HV2 := Lib.hid hv2; have HB2 := Lib.hid hb2; clear hv2 hb2)
        | (go_at_call 153; (with_reducible refine (C2.out _ _ HV2.out).mono ?_); rintro e w3 ⟨v3, rfl, hv3, hb3⟩; have HV3 := Lib.hid hv3; have HB3 := Lib.hid (HB2.out.trans (hb3.mono HB2.out.size)); clear hb3; obtain ⟨al3, c3, rfl⟩ := hv3.shape; clear hv3; have hrow3 := Lib.hid ((HB3.out.block _ hgl).trans HROW.out); have hc3 : w3.cell? ⟨w.heap.size, k, none⟩ = some old := (by rw [cell_of_row _ _ _ _ _ _ hrow3.out]; simpa using HOLD.out); have hf3 := frozen_of_row _ _ k _ _ hrow3.out))
      go_roundw
      case rel =>
        refine ⟨k + 1, by omega, by go_num, vs.set k (.slice al3 (dz 10000 (rowT n m k)).length c3), by rw [List.length_set, HVL.out], ?_, ?_, ?_, (HB.out.trans (HB3.out.mono HB.out.size)).setCell (p := ⟨w.heap.size, k, none⟩) (Nat.le_refl _) _⟩
        · rw [heap_setCell_same _ _ _ _ _ _ hrow3.out]; simp
        · intro i hi
          by_cases hik : i = k
          · subst hik
            exact ⟨_, List.getElem?_set_self (by rw [HVL.out]; exact hkM), ls_setRow HV3.out hrow3.out HSH.out _⟩
          · obtain ⟨v, hv1, hv2⟩ := HVS.out i (by omega)
            exact ⟨v, by rw [List.getElem?_set_ne (by omega)]; exact hv1, ls_setRow (Nt.below hv2 (Nat.le_refl _) HB3.out) hrow3.out HSH.out _⟩
        · intro x hx
          rcases List.mem_or_eq_of_mem_set hx with hx | rfl
          · exact HSH.out x hx
          · exact ⟨_, _, _, rfl⟩
      case measure => simp [intOf]; omega
    · have hkk : k = M := by omega
      subst hkk
      have CF := Lib.hid (fold_nt wr w.heap.size k k vs (rowT n m) (fun j => n * (m % 10000 ^ j)) HVL.out (by omega) HROW.out HVS.out (by simp [Nat.mod_one]) (fun j => rowT_sum n m j) (fun j _ => Nat.le_trans (HRL.out j) (by decide)) (fun j _ => Nat.le_trans (HSL.out j) (by decide)))
      go_wp2_with (go_at_call 154; (with_reducible refine CF.out.mono ?_); rintro e w4 ⟨v4, rfl, hv4, hb4⟩; have HV4 := Lib.hid hv4; have HB4 := Lib.hid hb4; clear hv4 hb4)
      go_ret
      refine ⟨_, rfl, ?_, HB.out.trans (HB4.out.mono HB.out.size)⟩
      have := HV4.out
      rw [HTOP.out] at this
      exact this
end Go.Proofs.YtcjcafekacceiaaGreatDoor

/-! The sum of two numbers with signs, walked. -/
namespace Go.Proofs.YtcjcafekacceiaaGreatDoor
open Go.RowKit

/-- Three blocks of two cells that a call makes first: two numbers, and the place of its result. -/
abbrev boxes (w : World) (b1 b2 : Bool) (s1 s2 : Value) : World :=
  ((w.alloc (.cells #[.bool b1, s1] 94)).alloc (.cells #[.bool b2, s2] 94)).alloc (.cells #[.bool false, .slice none 0 0] 94)
theorem boxes_below (w : World) (b1 b2 : Bool) (s1 s2 : Value) : Below w.heap.size w (boxes w b1 b2 s1 s2) := (((Below.refl w.heap.size w).alloc (Nat.le_refl _) _).alloc (by simp) _).alloc (by simp; omega) _
theorem boxes_heap (w : World) (b1 b2 : Bool) (s1 s2 : Value) : (boxes w b1 b2 s1 s2).heap[w.heap.size]? = some (.cells #[.bool b1, s1] 94) ∧ (boxes w b1 b2 s1 s2).heap[w.heap.size + 1]? = some (.cells #[.bool b2, s2] 94) ∧
    (boxes w b1 b2 s1 s2).heap[w.heap.size + 1 + 1]? = some (.cells #[.bool false, .slice none 0 0] 94) := by
  refine ⟨?_, ?_, heap_new' _ _ _ (by simp)⟩
  · exact (Below.heap_alloc _ _ _ (by simp; omega)).trans ((Below.heap_alloc _ _ _ (by simp)).trans (heap_new' _ _ _ rfl))
  · exact (Below.heap_alloc _ _ _ (by simp)).trans (heap_new' _ _ _ (by simp))
theorem boxes_size (w : World) (b1 b2 : Bool) (s1 s2 : Value) : (boxes w b1 b2 s1 s2).heap.size = w.heap.size + 3 := by simp
/-- What the first two blocks hold, in a world that has kept them. -/
abbrev Two (w w' : World) (b1 b2 : Bool) (s1 s2 : Value) : Prop :=
  w'.cell? ⟨w.heap.size, 0, none⟩ = some (.bool b1) ∧ w'.cell? ⟨w.heap.size, 1, none⟩ = some s1 ∧ w'.cell? ⟨w.heap.size + 1, 0, none⟩ = some (.bool b2) ∧ w'.cell? ⟨w.heap.size + 1, 1, none⟩ = some s2
theorem two_of (w : World) (b1 b2 : Bool) (s1 s2 : Value) (w' : World) (h : Below (boxes w b1 b2 s1 s2).heap.size (boxes w b1 b2 s1 s2) w') : Two w w' b1 b2 s1 s2 := by
  obtain ⟨h0, h1, _⟩ := boxes_heap w b1 b2 s1 s2
  have hz := boxes_size w b1 b2 s1 s2
  obtain ⟨a1, a2, _⟩ := box2 ((h.block _ (by omega)).trans h0)
  obtain ⟨a3, a4, _⟩ := box2 ((h.block _ (by omega)).trans h1)
  exact ⟨a1, a2, a3, a4⟩
theorem two_put {w w' : World} {b1 b2 : Bool} {s1 s2 : Value} (h : Two w w' b1 b2 s1 s2) (x y : Value) : Two w ((w'.setCell ⟨w.heap.size + 1 + 1, 0, none⟩ x).setCell ⟨w.heap.size + 1 + 1, 1, none⟩ y) b1 b2 s1 s2 := by
  obtain ⟨h1, h2, h3, h4⟩ := h
  have e0 := put2_other (W := w') (B := w.heap.size + 1 + 1) (k := w.heap.size) x y (by omega)
  have e1 := put2_other (W := w') (B := w.heap.size + 1 + 1) (k := w.heap.size + 1) x y (by omega)
  exact ⟨(World.cell?_of_block (a := ⟨w.heap.size, 0, none⟩) e0).trans h1, (World.cell?_of_block (a := ⟨w.heap.size, 1, none⟩) e0).trans h2, (World.cell?_of_block (a := ⟨w.heap.size + 1, 0, none⟩) e1).trans h3, (World.cell?_of_block (a := ⟨w.heap.size + 1, 1, none⟩) e1).trans h4⟩
theorem third_of (w : World) (b1 b2 : Bool) (s1 s2 : Value) (w' : World) (h : Below (boxes w b1 b2 s1 s2).heap.size (boxes w b1 b2 s1 s2) w') : w'.heap[w.heap.size + 1 + 1]? = some (.cells #[.bool false, .slice none 0 0] 94) :=
  (h.block _ (by simp)).trans (boxes_heap w b1 b2 s1 s2).2.2

set_option maxRecDepth 100000 in
set_option maxHeartbeats 2000000 in
theorem nplus_same (w : World) (v1 v2 : Value) (x y : Int) (h1 : Nm w v1 x) (h2 : Nm w v2 y) (hx : (dz 10000 x.natAbs).length ≤ 2000) (hy : (dz 10000 y.natAbs).length ≤ 2000) (hsg : decide (x < 0) = decide (y < 0)) :
    Calls Tryz.prog 92 #[v1, v2] w (NmOut w (x + y)) := by
  obtain ⟨b1, al1, L1, c1, rfl, hb1, hL1, hs1⟩ := h1.open
  obtain ⟨b2, al2, L2, c2, rfl, hb2, hL2, hs2⟩ := h2.open
  clear h1 h2
  obtain rfl : b1 = b2 := by rw [hb1.out, hb2.out, hsg]
  have hsum : sgn b1 (x.natAbs + y.natAbs) = x + y := by
    rw [hb1.out]
    unfold sgn
    rw [decide_eq_decide] at hsg
    by_cases h : x < 0 <;> simp [h] <;> omega
  have HB0 := Lib.hid (boxes_below w b1 b1 (.slice al1 L1 c1) (.slice al2 L2 c2))
  have K2 := Lib.hid (two_of w b1 b1 (.slice al1 L1 c1) (.slice al2 L2 c2))
  have K3 := Lib.hid (third_of w b1 b1 (.slice al1 L1 c1) (.slice al2 L2 c2))
  have CP := Lib.hid (fun W (hW : Below w.heap.size w W) => plus_nt W _ _ _ _ (hs1.out.below (Nat.le_refl _) hW) (hs2.out.below (Nat.le_refl _) hW) (by omega) (by omega))
  have CS := Lib.hid (fun W v (h : Nt W v (x.natAbs + y.natAbs)) => signed_nm W b1 v _ h)
  rw [hsum] at CS
  clear hsum hsg hx hy
  go_enter Tryz.func92, Tryz.ntmps92
  go_wp2_with fail
  go_region_held3 (fun w' => Two w w' b1 b1 (.slice al1 L1 c1) (.slice al2 L2 c2))
    (first
      | exact K2.out _ (Below.refl _ _).drew
      | exact K2.out _ hB3
      | exact two_put (K2.out _ hB4) _ _
      | exact K2.out _ hB4
      | go_keep)
    (first
      | (go_at_call 106; (with_reducible refine (CP.out _ HB0.out.drew).mono ?_); rintro e w3 ⟨v3, rfl, hv3, hb3⟩; have hB3 := below1 (Below.refl _ (boxes w b1 b1 (.slice al1 L1 c1) (.slice al2 L2 c2))).drew hb3)
      | (go_at_call 108; (with_reducible refine (CS.out _ _ hv3).mono ?_); rintro e w4 ⟨v4, rfl, hv4, hb4⟩; have hB4 := below1 hB3 hb4; obtain ⟨b5, al5, L5, c5, rfl, hb5, hL5, hs5⟩ := hv4.open; obtain ⟨q1, q2, q3, q4⟩ := box2 (K3.out _ hB4)))
  have HB := Lib.hid (HB0.out.trans (hB4.mono HB0.out.size))
  have HK := Lib.hid (K3.out _ hB4)
  clear hB4 hB3 hb4 hb3
  go_wp2
  obtain ⟨r1, r2, _⟩ := box2 (put2_heap HK.out (.bool b5) (.slice al5 L5 c5))
  exact bodyPost_ret (v := .agg #[.bool b5, .slice al5 L5 c5]) (by simp [results, Tryz.results92, go_sem, r1, r2]) rfl
    (nm_end HK.out hb5.out hs5.out HB.out (by omega))

theorem two_keep {w W W' : World} {b1 b2 : Bool} {s1 s2 : Value} (h : Two w W b1 b2 s1 s2) (hb : Below W.heap.size W W') : Two w W' b1 b2 s1 s2 := by
  obtain ⟨h1, h2, h3, h4⟩ := h
  have k0 := block_lt_of_cell h1
  have k1 := block_lt_of_cell h3
  exact ⟨(hb.cell (p := ⟨w.heap.size, 0, none⟩) k0).trans h1, (hb.cell (p := ⟨w.heap.size, 1, none⟩) k0).trans h2, (hb.cell (p := ⟨w.heap.size + 1, 0, none⟩) k1).trans h3, (hb.cell (p := ⟨w.heap.size + 1, 1, none⟩) k1).trans h4⟩
theorem cmpN_lt {m n : Nat} (h : m < n) : cmpN m n = -1 := by unfold cmpN; rw [if_pos h]
theorem cmpN_ge {m n : Nat} (h : ¬ m < n) : 0 ≤ cmpN m n := by unfold cmpN; rw [if_neg h]; split <;> decide

set_option maxRecDepth 100000 in
set_option maxHeartbeats 2000000 in
theorem nplus_far (w : World) (v1 v2 : Value) (x y : Int) (h1 : Nm w v1 x) (h2 : Nm w v2 y) (hx : (dz 10000 x.natAbs).length ≤ 2000) (hy : (dz 10000 y.natAbs).length ≤ 2000) (hsg : decide (x < 0) ≠ decide (y < 0)) :
    Calls Tryz.prog 92 #[v1, v2] w (NmOut w (x + y)) := by
  obtain ⟨b1, al1, L1, c1, rfl, hb1, hL1, hs1⟩ := h1.open
  obtain ⟨b2, al2, L2, c2, rfl, hb2, hL2, hs2⟩ := h2.open
  clear h1 h2
  have hne : (b1 == b2) = false := by
    rw [hb1.out, hb2.out]
    simpa using hsg
  have hsum : (y.natAbs ≤ x.natAbs → sgn b1 (x.natAbs - y.natAbs) = x + y) ∧ (x.natAbs < y.natAbs → sgn b2 (y.natAbs - x.natAbs) = x + y) := by
    rw [hb1.out, hb2.out]
    unfold sgn
    rw [Ne, decide_eq_decide] at hsg
    by_cases h : x < 0 <;> by_cases h' : y < 0 <;> simp [h, h'] at hsg ⊢ <;> omega
  have HB0 := Lib.hid (boxes_below w b1 b2 (.slice al1 L1 c1) (.slice al2 L2 c2))
  have K2 := Lib.hid (two_of w b1 b2 (.slice al1 L1 c1) (.slice al2 L2 c2))
  have K3 := Lib.hid (third_of w b1 b2 (.slice al1 L1 c1) (.slice al2 L2 c2))
  have KH := Lib.hid (boxes_heap w b1 b2 (.slice al1 L1 c1) (.slice al2 L2 c2))
  have CC := Lib.hid (compare_nt (boxes w b1 b2 (.slice al1 L1 c1) (.slice al2 L2 c2)) _ _ _ _ (hs1.out.below (Nat.le_refl _) HB0.out) (hs2.out.below (Nat.le_refl _) HB0.out) (by omega) (by omega))
  by_cases hlt : x.natAbs < y.natAbs
  · have hs := hsum.2 hlt
    have CM := Lib.hid (fun W (hW : Below w.heap.size w W) => minus_nt W _ _ _ _ (hs2.out.below (Nat.le_refl _) hW) (hs1.out.below (Nat.le_refl _) hW) (by omega) (by omega))
    have CS := Lib.hid (fun W v (h : Nt W v (y.natAbs - x.natAbs)) => signed_nm W b2 v _ h)
    rw [hs] at CS
    rw [cmpN_lt hlt] at CC
    clear hs hsum hsg hx hy hlt
    go_enter Tryz.func92, Tryz.ntmps92
    go_wp2_with fail
    refine CC.out.mono ?_
    rintro e w1 ⟨rfl, hbc⟩
    obtain ⟨k1, k2, k3, k4⟩ := K2.out _ hbc
    obtain ⟨_, _, f1, f2⟩ := box2 ((hbc.block _ (by simp; omega)).trans KH.out.1)
    obtain ⟨_, _, f3, f4⟩ := box2 ((hbc.block _ (by simp)).trans KH.out.2.1)
    have HBC := Lib.hid hbc
    clear hbc
    go_upto_region 5 with fail
    obtain ⟨W2, hW2⟩ : ∃ W2, put2 (put2 w1 w.heap.size (.bool b2) (.slice al2 L2 c2)) (w.heap.size + 1) (.bool b1) (.slice al1 L1 c1) = W2 := ⟨_, rfl⟩
    have hA := put2_heap ((HBC.out.block _ (by simp; omega)).trans KH.out.1) (.bool b2) (.slice al2 L2 c2)
    have hB := put2_heap ((put2_other (W := w1) (B := w.heap.size) (k := w.heap.size + 1) (.bool b2) (.slice al2 L2 c2) (by omega)).trans ((HBC.out.block _ (by simp)).trans KH.out.2.1)) (.bool b1) (.slice al1 L1 c1)
    have hA2 := (put2_other (B := w.heap.size + 1) (k := w.heap.size) (.bool b1) (.slice al1 L1 c1) (by omega)).trans hA
    have hC := (put2_other (B := w.heap.size + 1) (k := w.heap.size + 1 + 1) (.bool b1) (.slice al1 L1 c1) (by omega)).trans ((put2_other (B := w.heap.size) (k := w.heap.size + 1 + 1) (.bool b2) (.slice al2 L2 c2) (by omega)).trans (K3.out _ HBC.out))
    have hBW := put2_below (B := w.heap.size + 1) (put2_below (B := w.heap.size) (HB0.out.trans (HBC.out.mono HB0.out.size)) (by omega) (.bool b2) (.slice al2 L2 c2)) (by omega) (.bool b1) (.slice al1 L1 c1)
    have hW3 := hW2
    unfold put2 at hW3
    rw [hW2] at hA2 hB hC hBW
    rw [hW3]
    clear hW3
    have HBW := Lib.hid hBW; have HC := Lib.hid hC
    obtain ⟨g1, g2, _⟩ := box2 hA2
    obtain ⟨g3, g4, _⟩ := box2 hB
    have HT := Lib.hid (show Two w W2 b2 b1 (.slice al2 L2 c2) (.slice al1 L1 c1) from ⟨g1, g2, g3, g4⟩)
    clear hW2 hA hA2 hB hC hBW k1 k2 k3 k4 f1 f2 f3 f4 CC K2 K3 KH
    go_region_held3 (fun w' => Two w w' b2 b1 (.slice al2 L2 c2) (.slice al1 L1 c1))
      (first
        | exact two_keep HT.out (Below.refl _ _).drew
        | exact two_keep HT.out hB3
        | exact two_put (two_keep HT.out hB4) _ _
        | exact two_keep HT.out hB4
        | go_keep)
      (first
        | (go_at_call 107; (with_reducible refine (CM.out _ HBW.out.drew).mono ?_); rintro e w3 ⟨v3, rfl, hv3, hb3⟩; have hB3 := below1 (Below.refl _ W2).drew hb3)
        | (go_at_call 108; (with_reducible refine (CS.out _ _ hv3).mono ?_); rintro e w4 ⟨v4, rfl, hv4, hb4⟩; have hB4 := below1 hB3 hb4; obtain ⟨b5, al5, L5, c5, rfl, hb5, hL5, hs5⟩ := hv4.open; obtain ⟨q1, q2, q3, q4⟩ := box2 ((hB4.block _ (Array.getElem?_eq_some_iff.1 HC.out).1).trans HC.out)))
    have HB := Lib.hid (HBW.out.trans (hB4.mono HBW.out.size))
    have HK := Lib.hid ((hB4.block _ (Array.getElem?_eq_some_iff.1 HC.out).1).trans HC.out)
    clear hB4 hB3 hb4 hb3
    go_wp2
    obtain ⟨r1, r2, _⟩ := box2 (put2_heap HK.out (.bool b5) (.slice al5 L5 c5))
    exact bodyPost_ret (v := .agg #[.bool b5, .slice al5 L5 c5]) (by simp [results, Tryz.results92, go_sem, r1, r2]) rfl
      (nm_end HK.out hb5.out hs5.out HB.out (by omega))
  · have hs := hsum.1 (by omega)
    have CM := Lib.hid (fun W (hW : Below w.heap.size w W) => minus_nt W _ _ _ _ (hs1.out.below (Nat.le_refl _) hW) (hs2.out.below (Nat.le_refl _) hW) (by omega) (by omega))
    have CS := Lib.hid (fun W v (h : Nt W v (x.natAbs - y.natAbs)) => signed_nm W b1 v _ h)
    rw [hs] at CS
    have hcz := cmpN_ge hlt
    generalize cmpN x.natAbs y.natAbs = cz at *
    clear hs hsum hsg hx hy hlt
    go_enter Tryz.func92, Tryz.ntmps92
    go_wp2_with fail
    refine CC.out.mono ?_
    rintro e w1 ⟨rfl, hbc⟩
    have HT := Lib.hid (K2.out _ hbc)
    have HC := Lib.hid (K3.out _ hbc)
    have HBW := Lib.hid (HB0.out.trans (hbc.mono HB0.out.size))
    clear hbc CC K2 K3 KH
    go_upto_region 5 with fail
    go_region_held3 (fun w' => Two w w' b1 b2 (.slice al1 L1 c1) (.slice al2 L2 c2))
      (first
        | exact two_keep HT.out (Below.refl _ _).drew
        | exact two_keep HT.out hB3
        | exact two_put (two_keep HT.out hB4) _ _
        | exact two_keep HT.out hB4
        | go_keep)
      (first
        | (go_at_call 107; (with_reducible refine (CM.out _ HBW.out.drew).mono ?_); rintro e w3 ⟨v3, rfl, hv3, hb3⟩; have hB3 := below1 (Below.refl _ w1).drew hb3)
        | (go_at_call 108; (with_reducible refine (CS.out _ _ hv3).mono ?_); rintro e w4 ⟨v4, rfl, hv4, hb4⟩; have hB4 := below1 hB3 hb4; obtain ⟨b5, al5, L5, c5, rfl, hb5, hL5, hs5⟩ := hv4.open; obtain ⟨q1, q2, q3, q4⟩ := box2 ((hB4.block _ (Array.getElem?_eq_some_iff.1 HC.out).1).trans HC.out)))
    have HB := Lib.hid (HBW.out.trans (hB4.mono HBW.out.size))
    have HK := Lib.hid ((hB4.block _ (Array.getElem?_eq_some_iff.1 HC.out).1).trans HC.out)
    clear hB4 hB3 hb4 hb3
    go_wp2
    obtain ⟨r1, r2, _⟩ := box2 (put2_heap HK.out (.bool b5) (.slice al5 L5 c5))
    exact bodyPost_ret (v := .agg #[.bool b5, .slice al5 L5 c5]) (by simp [results, Tryz.results92, go_sem, r1, r2]) rfl
      (nm_end HK.out hb5.out hs5.out HB.out (by omega))
theorem nplus_nm (w : World) (v1 v2 : Value) (x y : Int) (h1 : Nm w v1 x) (h2 : Nm w v2 y) (hx : (dz 10000 x.natAbs).length ≤ 2000) (hy : (dz 10000 y.natAbs).length ≤ 2000) :
    Calls Tryz.prog 92 #[v1, v2] w (NmOut w (x + y)) := by
  by_cases h : decide (x < 0) = decide (y < 0)
  · exact nplus_same w v1 v2 x y h1 h2 hx hy h
  · exact nplus_far w v1 v2 x y h1 h2 hx hy h
end Go.Proofs.YtcjcafekacceiaaGreatDoor

/-! compare, minus, times and gcd of numbers with signs, walked. -/
namespace Go.Proofs.YtcjcafekacceiaaGreatDoor
open Go.RowKit

theorem cmpZ_both {x y : Int} (hx : x < 0) (hy : y < 0) : cmpZ x y = cmpN y.natAbs x.natAbs := by
  unfold cmpZ cmpN
  by_cases h : x < y
  · rw [if_pos h, if_pos (by omega)]
  · by_cases h2 : y < x
    · rw [if_neg h, if_pos h2, if_neg (by omega), if_pos (by omega)]
    · rw [if_neg h, if_neg h2, if_neg (by omega), if_neg (by omega)]
theorem cmpZ_none {x y : Int} (hx : ¬ x < 0) (hy : ¬ y < 0) : cmpZ x y = cmpN x.natAbs y.natAbs := by
  unfold cmpZ cmpN
  by_cases h : x < y
  · rw [if_pos h, if_pos (by omega)]
  · by_cases h2 : y < x
    · rw [if_neg h, if_pos h2, if_neg (by omega), if_pos (by omega)]
    · rw [if_neg h, if_neg h2, if_neg (by omega), if_neg (by omega)]

set_option maxRecDepth 100000 in
set_option maxHeartbeats 2000000 in
theorem ncompare_any (w : World) (v1 v2 : Value) (x y : Int) (h1 : Nm w v1 x) (h2 : Nm w v2 y) (hx : (dz 10000 x.natAbs).length ≤ 2000) (hy : (dz 10000 y.natAbs).length ≤ 2000) :
    Calls Tryz.prog 82 #[v1, v2] w (IntOut w (cmpZ x y)) := by
  obtain ⟨b1, al1, L1, c1, rfl, hb1, hL1, hs1⟩ := h1.open
  obtain ⟨b2, al2, L2, c2, rfl, hb2, hL2, hs2⟩ := h2.open
  clear h1 h2
  have HB0 := Lib.hid (((Below.refl w.heap.size w).alloc (Nat.le_refl _) (.cells #[.bool b1, .slice al1 L1 c1] 94)).alloc (by simp) (.cells #[.bool b2, .slice al2 L2 c2] 94))
  have H1 := Lib.hid (hs1.out.below (Nat.le_refl _) HB0.out)
  have H2 := Lib.hid (hs2.out.below (Nat.le_refl _) HB0.out)
  by_cases hxn : x < 0
  · obtain rfl : b1 = true := by rw [hb1.out]; simpa using hxn
    by_cases hyn : y < 0
    · obtain rfl : b2 = true := by rw [hb2.out]; simpa using hyn
      have CC := Lib.hid (compare_nt _ _ _ _ _ H2.out H1.out (by omega) (by omega))
      rw [cmpZ_both hxn hyn]
      clear hxn hyn hx hy
      go_enter Tryz.func82, Tryz.ntmps82
      go_wp2_with (go_at_call 114; (with_reducible refine CC.out.mono ?_); rintro e w1 ⟨rfl, hb⟩)
      go_ret
      exact ⟨rfl, HB0.out.trans (hb.mono HB0.out.size)⟩
    · obtain rfl : b2 = false := by rw [hb2.out]; simpa using hyn
      have e : cmpZ x y = -1 := by unfold cmpZ; rw [if_pos (by omega)]
      rw [e]
      clear hxn hyn hx hy e
      go_enter Tryz.func82, Tryz.ntmps82
      go_wp2
      go_ret
      exact ⟨rfl, HB0.out⟩
  · obtain rfl : b1 = false := by rw [hb1.out]; simpa using hxn
    by_cases hyn : y < 0
    · obtain rfl : b2 = true := by rw [hb2.out]; simpa using hyn
      have e : cmpZ x y = 1 := by unfold cmpZ; rw [if_neg (by omega), if_pos (by omega)]
      rw [e]
      clear hxn hyn hx hy e
      go_enter Tryz.func82, Tryz.ntmps82
      go_wp2
      go_ret
      exact ⟨rfl, HB0.out⟩
    · obtain rfl : b2 = false := by rw [hb2.out]; simpa using hyn
      have CC := Lib.hid (compare_nt _ _ _ _ _ H1.out H2.out (by omega) (by omega))
      rw [cmpZ_none hxn hyn]
      clear hxn hyn hx hy
      go_enter Tryz.func82, Tryz.ntmps82
      go_wp2_with (go_at_call 114; (with_reducible refine CC.out.mono ?_); rintro e w1 ⟨rfl, hb⟩)
      go_ret
      exact ⟨rfl, HB0.out.trans (hb.mono HB0.out.size)⟩

set_option maxRecDepth 100000 in
set_option maxHeartbeats 2000000 in
theorem nminus_nm (w : World) (v1 v2 : Value) (x y : Int) (h1 : Nm w v1 x) (h2 : Nm w v2 y) (hx : (dz 10000 x.natAbs).length ≤ 2000) (hy : (dz 10000 y.natAbs).length ≤ 2000) :
    Calls Tryz.prog 102 #[v1, v2] w (NmOut w (x - y)) := by
  have CN := Lib.hid (fun W (hW : Below w.heap.size w W) => negated_nm W v2 y (h2.below (Nat.le_refl _) hW))
  have CP := Lib.hid (fun W v (hW : Below w.heap.size w W) (hv : Nm W v (-y)) => nplus_nm W v1 v x (-y) (h1.below (Nat.le_refl _) hW) hv hx (by rw [Int.natAbs_neg]; exact hy))
  rw [show x + -y = x - y by omega] at CP
  obtain ⟨b1, al1, L1, c1, rfl, hb1, hL1, hs1⟩ := h1.open
  obtain ⟨b2, al2, L2, c2, rfl, hb2, hL2, hs2⟩ := h2.open
  clear h1 h2 hx hy
  have HB0 := Lib.hid (boxes_below w b1 b2 (.slice al1 L1 c1) (.slice al2 L2 c2))
  have K2 := Lib.hid (two_of w b1 b2 (.slice al1 L1 c1) (.slice al2 L2 c2))
  have K3 := Lib.hid (third_of w b1 b2 (.slice al1 L1 c1) (.slice al2 L2 c2))
  go_enter Tryz.func102, Tryz.ntmps102
  go_wp2_with fail
  go_region_held3 (fun w' => Two w w' b1 b2 (.slice al1 L1 c1) (.slice al2 L2 c2))
    (first
      | exact K2.out _ (Below.refl _ _).drew
      | exact K2.out _ hB3
      | exact two_put (K2.out _ hB4) _ _
      | exact K2.out _ hB4
      | go_keep)
    (first
      | (go_at_call 127; (with_reducible refine (CN.out _ HB0.out.drew).mono ?_); rintro e w3 ⟨v3, rfl, hv3, hb3⟩; have hB3 := below1 (Below.refl _ (boxes w b1 b2 (.slice al1 L1 c1) (.slice al2 L2 c2))).drew hb3)
      | (go_at_call 92; (with_reducible refine (CP.out _ _ (HB0.out.trans (hB3.mono HB0.out.size)) hv3).mono ?_); rintro e w4 ⟨v4, rfl, hv4, hb4⟩; have hB4 := below1 hB3 hb4; obtain ⟨b5, al5, L5, c5, rfl, hb5, hL5, hs5⟩ := hv4.open; obtain ⟨q1, q2, q3, q4⟩ := box2 (K3.out _ hB4)))
  have HB := Lib.hid (HB0.out.trans (hB4.mono HB0.out.size))
  have HK := Lib.hid (K3.out _ hB4)
  clear hB4 hB3 hb4 hb3
  go_wp2
  obtain ⟨r1, r2, _⟩ := box2 (put2_heap HK.out (.bool b5) (.slice al5 L5 c5))
  exact bodyPost_ret (v := .agg #[.bool b5, .slice al5 L5 c5]) (by simp [results, Tryz.results102, go_sem, r1, r2]) rfl
    (nm_end HK.out hb5.out hs5.out HB.out (by omega))

theorem sgn_mul (x y : Int) : sgn (!decide (x < 0) == decide (y < 0)) (x.natAbs * y.natAbs) = x * y := by
  have h : ((x.natAbs * y.natAbs : Nat) : Int) = ((x * y).natAbs : Int) := by rw [Int.natAbs_mul]
  unfold sgn
  rw [h]
  by_cases hx : x < 0
  · by_cases hy : y < 0
    · have := Int.mul_nonneg_of_nonpos_of_nonpos (Int.le_of_lt hx) (Int.le_of_lt hy)
      simp [hx, hy]; omega
    · have := Int.mul_nonpos_of_nonpos_of_nonneg (Int.le_of_lt hx) (show 0 ≤ y by omega)
      simp [hx, hy]; omega
  · by_cases hy : y < 0
    · have := Int.mul_nonpos_of_nonneg_of_nonpos (show 0 ≤ x by omega) (Int.le_of_lt hy)
      simp [hx, hy]; omega
    · have := Int.mul_nonneg (show 0 ≤ x by omega) (show 0 ≤ y by omega)
      simp [hx, hy]; omega

set_option maxRecDepth 100000 in
set_option maxHeartbeats 2000000 in
theorem ntimes_nm (w : World) (v1 v2 : Value) (x y : Int) (h1 : Nm w v1 x) (h2 : Nm w v2 y) (hx : (dz 10000 x.natAbs).length ≤ 2000) (hy : (dz 10000 y.natAbs).length ≤ 2000) :
    Calls Tryz.prog 101 #[v1, v2] w (NmOut w (x * y)) := by
  have hsm := sgn_mul x y
  obtain ⟨b1, al1, L1, c1, rfl, hb1, hL1, hs1⟩ := h1.open
  obtain ⟨b2, al2, L2, c2, rfl, hb2, hL2, hs2⟩ := h2.open
  clear h1 h2
  rw [← hb1.out, ← hb2.out] at hsm
  have HB0 := Lib.hid (boxes_below w b1 b2 (.slice al1 L1 c1) (.slice al2 L2 c2))
  have K2 := Lib.hid (two_of w b1 b2 (.slice al1 L1 c1) (.slice al2 L2 c2))
  have K3 := Lib.hid (third_of w b1 b2 (.slice al1 L1 c1) (.slice al2 L2 c2))
  have CP := Lib.hid (fun W (hW : Below w.heap.size w W) => times_nt W _ _ _ _ (hs1.out.below (Nat.le_refl _) hW) (hs2.out.below (Nat.le_refl _) hW) (by omega) (by omega))
  have CS := Lib.hid (fun W v (h : Nt W v (x.natAbs * y.natAbs)) => signed_nm W (!b1 == b2) v _ h)
  rw [hsm] at CS
  clear hsm hx hy
  go_enter Tryz.func101, Tryz.ntmps101
  go_wp2_with fail
  go_region_held3 (fun w' => Two w w' b1 b2 (.slice al1 L1 c1) (.slice al2 L2 c2))
    (first
      | exact K2.out _ (Below.refl _ _).drew
      | exact K2.out _ hB3
      | exact two_put (K2.out _ hB4) _ _
      | exact K2.out _ hB4
      | go_keep)
    (first
      | (go_at_call 126; (with_reducible refine (CP.out _ HB0.out.drew).mono ?_); rintro e w3 ⟨v3, rfl, hv3, hb3⟩; have hB3 := below1 (Below.refl _ (boxes w b1 b2 (.slice al1 L1 c1) (.slice al2 L2 c2))).drew hb3)
      | (go_at_call 108; (with_reducible refine (CS.out _ _ hv3).mono ?_); rintro e w4 ⟨v4, rfl, hv4, hb4⟩; have hB4 := below1 hB3 hb4; obtain ⟨b5, al5, L5, c5, rfl, hb5, hL5, hs5⟩ := hv4.open; obtain ⟨q1, q2, q3, q4⟩ := box2 (K3.out _ hB4)))
  have HB := Lib.hid (HB0.out.trans (hB4.mono HB0.out.size))
  have HK := Lib.hid (K3.out _ hB4)
  clear hB4 hB3 hb4 hb3
  go_wp2
  obtain ⟨r1, r2, _⟩ := box2 (put2_heap HK.out (.bool b5) (.slice al5 L5 c5))
  exact bodyPost_ret (v := .agg #[.bool b5, .slice al5 L5 c5]) (by simp [results, Tryz.results101, go_sem, r1, r2]) rfl
    (nm_end HK.out hb5.out hs5.out HB.out (by omega))

set_option maxRecDepth 100000 in
set_option maxHeartbeats 2000000 in
theorem ngcd_nm (w : World) (v1 v2 : Value) (x y : Int) (h1 : Nm w v1 x) (h2 : Nm w v2 y) (hx : (dz 10000 x.natAbs).length ≤ 2000) (hy : (dz 10000 y.natAbs).length ≤ 2000) :
    Calls Tryz.prog 95 #[v1, v2] w (NmOut w ((Nat.gcd x.natAbs y.natAbs : Nat) : Int)) := by
  obtain ⟨b1, al1, L1, c1, rfl, hb1, hL1, hs1⟩ := h1.open
  obtain ⟨b2, al2, L2, c2, rfl, hb2, hL2, hs2⟩ := h2.open
  clear h1 h2
  have HB0 := Lib.hid (boxes_below w b1 b2 (.slice al1 L1 c1) (.slice al2 L2 c2))
  have K2 := Lib.hid (two_of w b1 b2 (.slice al1 L1 c1) (.slice al2 L2 c2))
  have K3 := Lib.hid (third_of w b1 b2 (.slice al1 L1 c1) (.slice al2 L2 c2))
  have CP := Lib.hid (gcd_nt _ _ _ _ _ (hs1.out.below (Nat.le_refl _) HB0.out) (hs2.out.below (Nat.le_refl _) HB0.out) (by omega) (by omega))
  have CS := Lib.hid (fun W v (h : Nt W v (Nat.gcd x.natAbs y.natAbs)) => signed_nm W false v _ h)
  rw [show sgn false (Nat.gcd x.natAbs y.natAbs) = ((Nat.gcd x.natAbs y.natAbs : Nat) : Int) from rfl] at CS
  clear hx hy
  generalize Nat.gcd x.natAbs y.natAbs = g at *
  go_enter Tryz.func95, Tryz.ntmps95
  go_wp2_with fail
  refine CP.out.mono ?_
  rintro e w3 ⟨v3, rfl, hv3, hb3⟩
  have HV3 := Lib.hid hv3; have HB3 := Lib.hid hb3
  clear hv3 hb3
  go_wp2_with fail
  refine (CS.out _ _ HV3.out).mono ?_
  rintro e w4 ⟨v4, rfl, hv4, hb4⟩
  have hB4 := below1 HB3.out hb4
  obtain ⟨b5, al5, L5, c5, rfl, hb5, hL5, hs5⟩ := hv4.open
  obtain ⟨q1, q2, q3, q4⟩ := box2 (K3.out _ hB4)
  have HB := Lib.hid (HB0.out.trans (hB4.mono HB0.out.size))
  have HK := Lib.hid (K3.out _ hB4)
  clear hB4 hb4 hv4
  go_wp2
  obtain ⟨r1, r2, _⟩ := box2 (put2_heap HK.out (.bool b5) (.slice al5 L5 c5))
  exact bodyPost_ret (v := .agg #[.bool b5, .slice al5 L5 c5]) (by simp [results, Tryz.results95, go_sem, r1, r2]) rfl
    (nm_end HK.out hb5.out hs5.out HB.out (by omega))
end Go.Proofs.YtcjcafekacceiaaGreatDoor

/-! numberOf, numbersOf and integer, walked. -/
namespace Go.Proofs.YtcjcafekacceiaaGreatDoor
open Go.RowKit

/-- Is the text valid, and which number is read: 0 if it is not. -/
def vS (s : ByteArray) : Bool := vld s.data.toList
def nS (s : ByteArray) : Int := if vS s then num s.data.toList else 0
theorem nS_big (s : ByteArray) : Big (nS s) := by
  unfold nS
  split
  · next h => exact (shw_num _ h).2
  · unfold Big; exact Nat.pow_pos (by decide)
theorem vS_str (z : Int) : vS (str z) = true ↔ Big z := by unfold vS; rw [str_data]; exact shw_vld z
theorem nS_str {z : Int} (h : Big z) : nS (str z) = z := by
  unfold nS
  rw [if_pos ((vS_str z).2 h), str_data, num_shw]
theorem str_nS {s : ByteArray} (h : vS s = true) : s = str (nS s) := by
  have := (shw_num _ h).1
  unfold nS
  rw [if_pos h]
  apply ByteArray.ext
  apply Array.ext'
  rw [str_data]
  exact this
theorem big_len {z : Int} (h : Big z) : (dz 10000 z.natAbs).length ≤ 50 := by
  rw [len4]
  unfold Big at h
  have e : 10000 ^ 50 = 10 ^ 200 := by rw [show (10000 : Nat) = 10 ^ 4 from rfl, ← Nat.pow_mul]
  rw [e]; exact h
def NoOut (w : World) (s : ByteArray) (e : Ending) (w' : World) : Prop := ∃ v, e = .returned (.tuple #[v, .bool (vS s)]) ∧ Nm w' v (nS s) ∧ Below w.heap.size w w'
theorem no_end {w w1 : World} {B : Nat} {T : TypeId} {q0 : Bool} {al0 : Option Addr} {n0 c0 : Nat} {b1 : Bool} {al : Option Addr} {L c : Nat} {s : ByteArray} {bb : Bool} (HK : w1.heap[B]? = some (.cells #[.bool q0, .slice al0 n0 c0] T)) (hb : b1 = decide (nS s < 0)) (hs : Nt w1 (.slice al L c) (nS s).natAbs)
    (hB : Below w.heap.size w w1) (hle : w.heap.size ≤ B) (hbb : bb = vS s) : NoOut w s (.returned (.tuple #[.agg #[.bool b1, .slice al L c], .bool bb])) ((w1.setCell ⟨B, 0, none⟩ (.bool b1)).setCell ⟨B, 1, none⟩ (.slice al L c)) :=
  ⟨_, by rw [hbb], nm_mk hb (put2_nt HK hs _ _), put2_below hB hle _ _⟩
theorem vS_body {s : ByteArray} (h : vS s = true) : (body s.data.toList).all isD = true ∧ (body s.data.toList).length ≤ 200 := by
  unfold vS vld at h
  simp only [Bool.and_eq_true, decide_eq_true_eq] at h
  exact ⟨h.1.2, h.1.1.2⟩
theorem vS_num {s : ByteArray} (h : vS s = true) : (vz 10 (digN (body s.data.toList))).toNat = (nS s).natAbs ∧ decide (s.data.toList.head? = some 45) = decide (nS s < 0) := by
  have hs := str_nS h
  obtain ⟨z, hz⟩ : ∃ z, nS s = z := ⟨_, rfl⟩
  rw [hz] at hs ⊢
  rw [hs, str_data, body_shw, decide_eq_decide]
  exact ⟨by rw [digN_txt]; rfl, head_shw z⟩

set_option maxRecDepth 100000 in
set_option maxHeartbeats 2000000 in
theorem numberOf_any (s : ByteArray) (w : World) (hs : s.size ≤ 9223372036854775807) : Calls Tryz.prog 104 #[.string s] w (NoOut w s) := by
  have CV := Lib.hid (fun W => valid_any s W hs)
  rw [show vld s.data.toList = vS s from rfl] at CV
  cases hv : vS s with
  | false =>
    rw [hv] at CV
    have hn : nS s = 0 := by unfold nS; rw [hv]; rfl
    have HN := Lib.hid hn; have HV := Lib.hid hv
    clear hn hv
    go_enter Tryz.func104, Tryz.ntmps104
    go_wp2_with (go_at_call 128; (with_reducible refine (CV.out _).mono ?_); rintro e w2 ⟨rfl, rfl⟩)
    refine bodyPost_ret (v := .tuple #[.agg #[.bool false, .slice none 0 0], .bool false]) (by simp [results, Tryz.results104, go_sem]) rfl ?_
    exact ⟨_, by rw [HV.out], nm_mk (by rw [HN.out]; rfl) (by rw [HN.out]; exact Nt.zero _), (Below.refl _ _).alloc (Nat.le_refl _) _⟩
  | true =>
    rw [hv] at CV
    obtain ⟨hall, hlen⟩ := vS_body hv
    obtain ⟨hnum, hsg⟩ := vS_num hv
    have CC := Lib.hid (Tryz.strings_CutPrefix s ⟨#[45]⟩)
    rw [show (⟨#[45]⟩ : ByteArray).data.toList = [45] from rfl, trim_body, has_body, hsg] at CC
    have CN := Lib.hid (fun W => naturalOf_nt ⟨(body s.data.toList).toArray⟩ (by simpa using hall) (by show (body s.data.toList).toArray.size ≤ _; rw [List.size_toArray]; omega) W)
    rw [show (⟨(body s.data.toList).toArray⟩ : ByteArray).data.toList = body s.data.toList from by simp, hnum] at CN
    have HV := Lib.hid hv
    clear hv hall hlen hnum hsg
    generalize body s.data.toList = bd at *
    obtain ⟨q, hq⟩ : ∃ q, decide (nS s < 0) = q := ⟨_, rfl⟩
    rw [hq] at CC
    have HQ := Lib.hid hq
    clear hq
    go_enter Tryz.func104, Tryz.ntmps104
    go_wp2_with (first
      | (go_at_call 128; (with_reducible refine (CV.out _).mono ?_); rintro e w2 ⟨rfl, rfl⟩)
      | (go_at_call 129; (with_reducible refine (CC.out _).mono ?_); rintro e w3 ⟨rfl, rfl⟩)
      | (go_at_call 130; (with_reducible refine (CN.out _).mono ?_); rintro e w4 ⟨v4, rfl, hv4, hb4⟩; obtain ⟨al4, c4, rfl⟩ := hv4.shape; have HV4 := Lib.hid hv4; have HB4 := Lib.hid hb4; have HK := Lib.hid ((hb4.block w.heap.size (by simp)).trans (heap_new' w (.cells #[.bool false, .slice none 0 0] 94) w.heap.size rfl)); obtain ⟨q1, q2, q3, q4⟩ := box2 HK.out; clear hv4 hb4))
    obtain ⟨r1, r2, _⟩ := box2 (put2_heap HK.out (.bool q) (.slice al4 (dz 10000 (nS s).natAbs).length c4))
    exact bodyPost_ret (v := .tuple #[.agg #[.bool q, .slice al4 (dz 10000 (nS s).natAbs).length c4], .bool true]) (by simp [results, Tryz.results104, go_sem, r1, r2]) rfl
      (no_end HK.out HQ.out.symm HV4.out (((Below.refl w.heap.size w).alloc (Nat.le_refl _) _).trans (HB4.out.mono (by simp))) (Nat.le_refl _) HV.out.symm)

/-- Both numbers, and whether both texts are valid. -/
def No2Out (w : World) (a b : ByteArray) (e : Ending) (w' : World) : Prop := ∃ v1 v2, e = .returned (.tuple #[v1, v2, .bool (vS a && vS b)]) ∧ Nm w' v1 (nS a) ∧ Nm w' v2 (nS b) ∧ Below w.heap.size w w'
theorem nt_drew {w : World} {v : Value} {n : Nat} (h : Nt w v n) : Nt w.drew v n := h
theorem no2_end {w w1 : World} {B C : Nat} {T : TypeId} {p1 p2 bb : Bool} {al1 al2 : Option Addr} {L1 c1 L2 c2 : Nat} {a b : ByteArray} (HA : w1.heap[B]? = some (.cells #[.bool p1, .slice al1 L1 c1] T)) (HC : w1.heap[C]? = some (.cells #[.bool p2, .slice al2 L2 c2] T)) (hne : B ≠ C)
    (h1 : p1 = decide (nS a < 0)) (h2 : p2 = decide (nS b < 0)) (hs1 : Nt w1 (.slice al1 L1 c1) (nS a).natAbs) (hs2 : Nt w1 (.slice al2 L2 c2) (nS b).natAbs) (hB : Below w.heap.size w w1) (hlB : w.heap.size ≤ B) (hlC : w.heap.size ≤ C) (hbb : bb = (vS a && vS b)) :
    No2Out w a b (.returned (.tuple #[.agg #[.bool p1, .slice al1 L1 c1], .agg #[.bool p2, .slice al2 L2 c2], .bool bb]))
      (((((w1.setCell ⟨B, 0, none⟩ (.bool p1)).setCell ⟨B, 1, none⟩ (.slice al1 L1 c1)).setCell ⟨C, 0, none⟩ (.bool p2)).setCell ⟨C, 1, none⟩ (.slice al2 L2 c2)).drew) := by
  have hC2 := (put2_other (W := w1) (B := B) (k := C) (.bool p1) (.slice al1 L1 c1) (fun e => hne e.symm)).trans HC
  refine ⟨_, _, by rw [hbb], nm_mk h1 ?_, nm_mk h2 ?_, (put2_below (put2_below hB hlB _ _) hlC _ _).drew⟩
  · exact nt_drew (put2_nt hC2 (put2_nt HA hs1 _ _) _ _)
  · exact nt_drew (put2_nt hC2 (put2_nt HA hs2 _ _) _ _)

set_option maxRecDepth 100000 in
set_option maxHeartbeats 2000000 in
theorem numbersOf_any (a b : ByteArray) (w : World) (ha : a.size ≤ 9223372036854775807) (hb : b.size ≤ 9223372036854775807) : Calls Tryz.prog 77 #[.string a, .string b] w (No2Out w a b) := by
  have HB0 := Lib.hid (((Below.refl w.heap.size w).alloc (Nat.le_refl _) (.cells #[.bool false, .slice none 0 0] 94)).alloc (by simp) (.cells #[.bool false, .slice none 0 0] 94))
  have H00 := Lib.hid ((Below.heap_alloc (w.alloc (.cells #[.bool false, .slice none 0 0] 94)) (.cells #[.bool false, .slice none 0 0] 94) w.heap.size (by simp)).trans (heap_new' w (.cells #[.bool false, .slice none 0 0] 94) w.heap.size rfl))
  have H01 := Lib.hid (heap_new' (w.alloc (.cells #[.bool false, .slice none 0 0] 94)) (.cells #[.bool false, .slice none 0 0] 94) (w.heap.size + 1) (by simp))
  have hlt : w.heap.size + 1 < ((w.alloc (.cells #[.bool false, .slice none 0 0] 94)).alloc (.cells #[.bool false, .slice none 0 0] 94)).heap.size := by simp
  have CA := Lib.hid (numberOf_any a ((w.alloc (.cells #[.bool false, .slice none 0 0] 94)).alloc (.cells #[.bool false, .slice none 0 0] 94)) ha)
  have CB := Lib.hid (fun W => numberOf_any b W hb)
  go_enter Tryz.func77, Tryz.ntmps77
  go_wp2_with fail
  refine CA.out.mono ?_
  rintro e w1 ⟨v1, rfl, hn1, hb1⟩
  obtain ⟨p1, al1, L1, c1, rfl, hp1, hL1, hs1⟩ := hn1.open
  have K0 := Lib.hid ((hb1.block w.heap.size (by omega)).trans H00.out)
  have K1 := Lib.hid ((hb1.block (w.heap.size + 1) hlt).trans H01.out)
  obtain ⟨q1, q2, q3, q4⟩ := box2 K0.out
  have HB1 := Lib.hid (HB0.out.trans (hb1.mono HB0.out.size))
  clear hn1 hb1 hlt
  obtain ⟨xa, hxa⟩ : ∃ xa, vS a = xa := ⟨_, rfl⟩
  rw [hxa]
  have HXA := Lib.hid hxa
  clear hxa
  go_wp2_with fail
  obtain ⟨W2, hW2⟩ : ∃ W2, put2 w1 w.heap.size (.bool p1) (.slice al1 L1 c1) = W2 := ⟨_, rfl⟩
  have hA := put2_heap K0.out (.bool p1) (.slice al1 L1 c1)
  have hB := (put2_other (W := w1) (B := w.heap.size) (k := w.heap.size + 1) (.bool p1) (.slice al1 L1 c1) (by omega)).trans K1.out
  have hS := put2_nt K0.out hs1.out (.bool p1) (.slice al1 L1 c1)
  have hBW := put2_below HB1.out (Nat.le_refl _) (.bool p1) (.slice al1 L1 c1)
  have hW3 := hW2
  unfold put2 at hW3
  rw [hW2] at hA hB hS hBW
  rw [hW3]
  have HA := Lib.hid hA; have HB := Lib.hid hB; have HS := Lib.hid hS; have HBW := Lib.hid hBW
  clear hW2 hW3 hA hB hS hBW q1 q2 q3 q4
  refine (CB.out W2).mono ?_
  rintro e w4 ⟨v4, rfl, hn4, hb4⟩
  obtain ⟨p2, al2, L2, c2, rfl, hp2, hL2, hs2⟩ := hn4.open
  have K0' := Lib.hid ((hb4.block w.heap.size (Array.getElem?_eq_some_iff.1 HA.out).1).trans HA.out)
  have K1' := Lib.hid ((hb4.block (w.heap.size + 1) (Array.getElem?_eq_some_iff.1 HB.out).1).trans HB.out)
  have HS' := Lib.hid (HS.out.below (Nat.le_refl _) hb4)
  have HBW' := Lib.hid (HBW.out.trans (hb4.mono HBW.out.size))
  clear hn4 hb4
  obtain ⟨xb, hxb⟩ : ∃ xb, vS b = xb := ⟨_, rfl⟩
  rw [hxb]
  have HXB := Lib.hid hxb
  clear hxb
  obtain ⟨q1, q2, q3, q4⟩ := box2 K1'.out
  go_upto_region 3 with fail
  obtain ⟨W5, hW5⟩ : ∃ W5, put2 w4 (w.heap.size + 1) (.bool p2) (.slice al2 L2 c2) = W5 := ⟨_, rfl⟩
  have hA := (put2_other (W := w4) (B := w.heap.size + 1) (k := w.heap.size) (.bool p2) (.slice al2 L2 c2) (by omega)).trans K0'.out
  have hB := put2_heap K1'.out (.bool p2) (.slice al2 L2 c2)
  have hS1 := put2_nt K1'.out HS'.out (.bool p2) (.slice al2 L2 c2)
  have hS2 := put2_nt K1'.out hs2.out (.bool p2) (.slice al2 L2 c2)
  have hBW := put2_below HBW'.out (show w.heap.size ≤ w.heap.size + 1 by omega) (.bool p2) (.slice al2 L2 c2)
  have hW3 := hW5
  unfold put2 at hW3
  rw [hW5] at hA hB hS1 hS2 hBW
  rw [hW3]
  have HA5 := Lib.hid hA; have HB5 := Lib.hid hB; have HS5 := Lib.hid hS1; have HT5 := Lib.hid hS2; have HBW5 := Lib.hid hBW
  clear hW5 hW3 hA hB hS1 hS2 hBW q1 q2 q3 q4
  obtain ⟨g1, g2, g3, g4⟩ := box2 HA5.out
  obtain ⟨g5, g6, g7, g8⟩ := box2 HB5.out
  cases xa
  all_goals
    go_region
    go_wp2
    have hC2 := (put2_other (W := W5) (B := w.heap.size) (k := w.heap.size + 1) (.bool p1) (.slice al1 L1 c1) (by omega)).trans HB5.out
    have hf2 := put2_heap hC2 (.bool p2) (.slice al2 L2 c2)
    have hf1 := (put2_other (B := w.heap.size + 1) (k := w.heap.size) (.bool p2) (.slice al2 L2 c2) (by omega)).trans (put2_heap HA5.out (.bool p1) (.slice al1 L1 c1))
    obtain ⟨r1, r2, _⟩ := box2 hf1
    obtain ⟨r3, r4, _⟩ := box2 hf2
    first
      | exact bodyPost_ret (v := .tuple #[.agg #[.bool p1, .slice al1 L1 c1], .agg #[.bool p2, .slice al2 L2 c2], .bool false]) (by simp [results, Tryz.results77, go_sem, r1, r2, r3, r4]) rfl
          (no2_end HA5.out HB5.out (by omega) hp1.out hp2.out HS5.out HT5.out HBW5.out (Nat.le_refl _) (by omega) (by rw [HXA.out, HXB.out]; rfl))
      | exact bodyPost_ret (v := .tuple #[.agg #[.bool p1, .slice al1 L1 c1], .agg #[.bool p2, .slice al2 L2 c2], .bool xb]) (by simp [results, Tryz.results77, go_sem, r1, r2, r3, r4]) rfl
          (no2_end HA5.out HB5.out (by omega) hp1.out hp2.out HS5.out HT5.out HBW5.out (Nat.le_refl _) (by omega) (by rw [HXA.out, HXB.out]; rfl))
end Go.Proofs.YtcjcafekacceiaaGreatDoor

/-! A number's text with its sign, and calculate, walked. -/
namespace Go.Proofs.YtcjcafekacceiaaGreatDoor
open Go.RowKit

def bigB (z : Int) : Bool := decide (z.natAbs < 10 ^ 200)
theorem bigB_iff (z : Int) : bigB z = true ↔ Big z := by unfold bigB Big; exact decide_eq_true_iff
/-- What is answered where the result is z. -/
def resS (z : Int) : ByteArray := if bigB z then str z else ⟨#[]⟩
def resE (z : Int) : Int := if bigB z then 0 else 30
theorem resS_ok {z : Int} (h : Big z) : resS z = str z := by unfold resS; rw [if_pos ((bigB_iff z).2 h)]
theorem resE_ok {z : Int} (h : Big z) : resE z = 0 := by unfold resE; rw [if_pos ((bigB_iff z).2 h)]
theorem resS_no {z : Int} (h : ¬ Big z) : resS z = ⟨#[]⟩ := by unfold resS; rw [if_neg (by rw [bigB_iff]; exact h)]
theorem resE_no {z : Int} (h : ¬ Big z) : resE z = 30 := by unfold resE; rw [if_neg (by rw [bigB_iff]; exact h)]
def ResOut (w : World) (s : ByteArray) (n : Int) (e : Ending) (w' : World) : Prop := e = .returned (.tuple #[.string s, .int .i64 n]) ∧ Below w.heap.size w w'
theorem txt_big (n : Nat) : (txt n).length ≤ 200 ↔ n < 10 ^ 200 := txt_length n 200 (by decide)
theorem minus_app (l : List UInt8) : (⟨#[45]⟩ : ByteArray) ++ (⟨l.toArray⟩ : ByteArray) = ⟨(45 :: l).toArray⟩ := by
  apply ByteArray.ext
  apply Array.ext'
  simp [ByteArray.data_append]
set_option maxRecDepth 100000 in
set_option maxHeartbeats 1000000 in
theorem integer_any (w : World) (v : Value) (z : Int) (h : Nm w v z) (hl : (dz 10000 z.natAbs).length ≤ 5000) (ht : Tb w) : Calls Tryz.prog 80 #[v] w (ResOut w (resS z) (resE z)) := by
  obtain ⟨b, al, L, c, rfl, hb, hL, hs⟩ := h.open
  clear h
  have HB0 := Lib.hid ((Below.refl w.heap.size w).alloc (Nat.le_refl _) (.cells #[.bool b, .slice al L c] 94))
  have CT := Lib.hid (text_any (w.alloc (.cells #[.bool b, .slice al L c] 94)) _ _ (hs.out.below (Nat.le_refl _) HB0.out) (Tb.below ht HB0.out) (by omega))
  have hbig := txt_big z.natAbs
  have hshw : Hid (shw z = if b then 45 :: txt z.natAbs else txt z.natAbs) := by
    show shw z = _
    rw [hb.out]; unfold shw; by_cases h : z < 0 <;> simp [h]
  have HT := Lib.hid ht
  clear ht hl
  generalize hl : txt z.natAbs = l at *
  by_cases h200 : Big z
  · rw [resS_ok h200, resE_ok h200]
    have hll : (l.length : Int) ≤ 200 := by have := hbig.2 h200; omega
    unfold str
    rw [hshw.out]
    clear hbig h200 hl hshw
    cases b
    · go_enter Tryz.func80, Tryz.ntmps80
      go_wp2_with fail
      refine CT.out.mono ?_
      rintro e w1 ⟨rfl, hb1⟩
      obtain ⟨q1, q2, q3, q4⟩ := box2 ((hb1.block w.heap.size (by simp)).trans (heap_new' w (.cells #[.bool false, .slice al L c] 94) w.heap.size rfl))
      have HB1 := Lib.hid (HB0.out.trans (hb1.mono HB0.out.size))
      clear hb1
      go_wp2
      go_ret2
      exact ⟨rfl, HB1.out⟩
    · have hma := minus_app l
      go_enter Tryz.func80, Tryz.ntmps80
      go_wp2_with fail
      refine CT.out.mono ?_
      rintro e w1 ⟨rfl, hb1⟩
      obtain ⟨q1, q2, q3, q4⟩ := box2 ((hb1.block w.heap.size (by simp)).trans (heap_new' w (.cells #[.bool true, .slice al L c] 94) w.heap.size rfl))
      have HB1 := Lib.hid (HB0.out.trans (hb1.mono HB0.out.size))
      clear hb1
      go_wp2
      go_ret2
      exact ⟨rfl, HB1.out⟩
  · rw [resS_no h200, resE_no h200]
    have hll : (200 : Int) < l.length := by have : ¬ l.length ≤ 200 := fun h => h200 (hbig.1 h); omega
    clear hbig h200 hl hshw
    go_enter Tryz.func80, Tryz.ntmps80
    go_wp2_with fail
    refine CT.out.mono ?_
    rintro e w1 ⟨rfl, hb1⟩
    have HB1 := Lib.hid (HB0.out.trans (hb1.mono HB0.out.size))
    clear hb1
    go_wp2
    go_ret2
    exact ⟨rfl, HB1.out⟩

/-- What an operation on two texts answers. -/
def opS (f : Int → Int → Int) (a b : ByteArray) : ByteArray := if vS a && vS b then resS (f (nS a) (nS b)) else ⟨#[]⟩
def opE (f : Int → Int → Int) (a b : ByteArray) : Int := if vS a && vS b then resE (f (nS a) (nS b)) else 30
theorem opS_ok {f : Int → Int → Int} {x y : Int} (hx : Big x) (hy : Big y) : opS f (str x) (str y) = resS (f x y) := by
  unfold opS
  rw [(vS_str x).2 hx, (vS_str y).2 hy, nS_str hx, nS_str hy]; rfl
theorem opE_ok {f : Int → Int → Int} {x y : Int} (hx : Big x) (hy : Big y) : opE f (str x) (str y) = resE (f x y) := by
  unfold opE
  rw [(vS_str x).2 hx, (vS_str y).2 hy, nS_str hx, nS_str hy]; rfl
def gcdZ (x y : Int) : Int := ((Nat.gcd x.natAbs y.natAbs : Nat) : Int)
theorem len_add (x y : Int) (hx : Big x) (hy : Big y) : (dz 10000 (x + y).natAbs).length ≤ 5000 := by
  have h1 := big_len hx
  have h2 := big_len hy
  have h3 := sum_len x.natAbs y.natAbs 50 h1 h2
  have h4 := dz_length_mono 10000 (by decide) (x + y).natAbs (x.natAbs + y.natAbs) (by omega)
  omega
theorem len_sub (x y : Int) (hx : Big x) (hy : Big y) : (dz 10000 (x - y).natAbs).length ≤ 5000 := by
  have h1 := big_len hx
  have h2 := big_len hy
  have h3 := sum_len x.natAbs y.natAbs 50 h1 h2
  have h4 := dz_length_mono 10000 (by decide) (x - y).natAbs (x.natAbs + y.natAbs) (by omega)
  omega
theorem len_mul (x y : Int) (hx : Big x) (hy : Big y) : (dz 10000 (x * y).natAbs).length ≤ 5000 := by
  have h1 := big_len hx
  have h2 := big_len hy
  rw [Int.natAbs_mul]
  have h3 := mul_len x.natAbs y.natAbs 50 50 h1 h2
  omega
theorem gcd_le_add (a b : Nat) : Nat.gcd a b ≤ a + b := by
  rcases Nat.eq_zero_or_pos a with h | h
  · subst h; rw [Nat.gcd_zero_left]; omega
  · have := Nat.gcd_le_left b h; omega
theorem len_gcd (x y : Int) (hx : Big x) (hy : Big y) : (dz 10000 (gcdZ x y).natAbs).length ≤ 5000 := by
  have h1 := big_len hx
  have h2 := big_len hy
  have h3 := sum_len x.natAbs y.natAbs 50 h1 h2
  have h5 := gcd_le_add x.natAbs y.natAbs
  have h4 := dz_length_mono 10000 (by decide) (gcdZ x y).natAbs (x.natAbs + y.natAbs) (by unfold gcdZ; omega)
  omega
end Go.Proofs.YtcjcafekacceiaaGreatDoor
