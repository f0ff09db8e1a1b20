/- times and the fold of its rows, walked. -/
import Derived.Deep.OwnRows
import Derived.Test.YtebjjgbdiabapaaGreatDoorGcd
namespace Go.Proofs.YtebjjgbdiabapaaGreatDoor
open Go.RowKit

theorem infoNat : (Tryz.prog.info? 47).map (fun i => (i.zero, i.size, i.bytes)) = some (some (.slice none 0 0), 1, 24) := by kernel_rfl
/-- The row of a product that one group gives. -/
def rowT (n m i : Nat) : Nat := n * (m / 10000 ^ i % 10000) * 10000 ^ i
theorem rowT_sum (n m k : Nat) : n * (m % 10000 ^ (k + 1)) = n * (m % 10000 ^ k) + rowT n m k := by
  unfold rowT
  rw [Nat.mod_pow_succ, Nat.mul_add, Nat.mul_assoc, Nat.mul_comm (10000 ^ k)]
theorem mul_len (n m a b : Nat) (hn : (dz 10000 n).length ≤ a) (hm : (dz 10000 m).length ≤ b) : (dz 10000 (n * m)).length ≤ a + b := by
  rw [len4] at *
  rw [Nat.pow_add]
  exact Nat.mul_lt_mul'' hn hm
theorem rowT_le (n m i : Nat) : rowT n m i ≤ n * m := by
  unfold rowT
  rw [Nat.mul_assoc]
  refine Nat.mul_le_mul_left _ ?_
  exact Nat.le_trans (Nat.mul_le_mul_right _ (Nat.mod_le _ _)) (Nat.div_mul_le_self _ _)
theorem ls_setRow {W : World} {v : Value} {zs : List Int} {B i : Nat} {t : TypeId} {vs : List Value} (h : Ls W v zs) (hb : W.heap[B]? = some (.cells vs.toArray t (0, 0))) (hvs : ∀ x ∈ vs, ∃ al n c, x = .slice al n c) (u : Value) : Ls (W.setCell ⟨B, i, none⟩ u) v zs := by
  rcases h with h | ⟨b, o, c', rfl, hc, hlt, hcell⟩
  · exact .inl h
  · refine .inr ⟨b, o, c', rfl, hc, by simp; omega, fun j hj => ?_⟩
    have h1 := hcell j hj
    have hne : b ≠ B := by
      intro e
      subst e
      rw [cell_of_row _ _ _ _ _ _ hb] at h1
      have h2 : vs[o + j]? = some (.int .i64 (zs[j]?.getD 0)) := by simpa using h1
      obtain ⟨al, n, c, h3⟩ := hvs _ (List.mem_of_getElem? h2)
      cases h3
    exact (World.cell?_of_block (Below.heap_setCell _ _ _ _ (by exact hne))).trans h1

set_option maxRecDepth 100000 in
set_option maxHeartbeats 2000000 in
theorem fold_nt (w : World) (gr M c : Nat) (vs : List Value) (f S : Nat → Nat) (hM : vs.length = M) (hMb : M ≤ 100000) (hg : w.heap[gr]? = some (.cells vs.toArray 47 (0, 0))) (hv : ∀ i, i < M → ∃ v, vs[i]? = some v ∧ Nt w v (f i))
    (h0 : S 0 = 0) (hS : ∀ k, S (k + 1) = S k + f k) (hf : ∀ k, k < M → (dz 10000 (f k)).length ≤ 15000) (hSl : ∀ k, k ≤ M → (dz 10000 (S k)).length ≤ 15000) :
    Calls Tryz.prog 79 #[.slice (some ⟨gr, 0, none⟩) M c, .slice none 0 0, .func (.func 56) #[] #[]] w (NtOut w (S M)) := by
  have hgl : gr < w.heap.size := (Array.getElem?_eq_some_iff.1 hg).1
  have HG := Lib.hid hg; have HV := Lib.hid hv; have HS := Lib.hid hS; have HF := Lib.hid hf; have HSL := Lib.hid hSl; have H0 := Lib.hid h0; have HM := Lib.hid hM
  clear hg hv hS hf hSl h0 hM
  go_enter Tryz.func79, Tryz.ntmps79
  go_wp2
  go_loopw [7, 13] (fun u iv wr => ∃ k : Nat, k ≤ M ∧ iv = .int .i64 k ∧ (Nt wr u (S k) ∧ Below w.heap.size w wr)) (fun _ iv _ => M - (intOf iv).toNat)
  case atStart => exact ⟨0, Nat.zero_le _, rfl, by rw [H0.out]; exact Nt.zero _, Below.refl _ _⟩
  case round =>
    obtain ⟨k, hk, rfl, hu, hB⟩ := hrel
    obtain ⟨alu, cu, rfl⟩ := hu.shape
    have HU := Lib.hid hu; have HB := Lib.hid hB
    clear hu hB
    by_cases hkM : k < M
    · obtain ⟨v, hv1, hv2⟩ := HV.out k hkM
      obtain ⟨alv, cv, rfl⟩ := hv2.shape
      have hcell : wr.cell? ⟨gr, k, none⟩ = some (.slice alv (dz 10000 (f k)).length cv) := by
        rw [HB.out.cell (p := ⟨gr, k, none⟩) hgl, cell_of_row _ _ _ _ _ _ HG.out]
        simpa using hv1
      have CP := Lib.hid (plus_nt wr _ _ (S k) (f k) HU.out (Nt.below hv2 (Nat.le_refl _) HB.out) (by have := HSL.out k (by omega); omega) (by have := HF.out k hkM; omega))
      obtain ⟨Lv, hLv⟩ : ∃ Lv, (dz 10000 (f k)).length = Lv := ⟨_, rfl⟩
      obtain ⟨Lu, hLu⟩ : ∃ Lu, (dz 10000 (S k)).length = Lu := ⟨_, rfl⟩
      rw [hLv] at hcell CP; rw [hLu] at CP ⊢
      clear hv1 hv2 hLv hLu HU
      go_wp2_with (go_at_call 56; refine CP.out.mono ?_; rintro e w2 ⟨v2, rfl, hv2, hb2⟩; have HV2 := Lib.hid hv2; have HB2 := Lib.hid hb2; clear hv2 hb2)
      go_roundw
      case rel => exact ⟨k + 1, by omega, by go_num, by rw [HS.out]; exact HV2.out, HB.out.trans (HB2.out.mono HB.out.size)⟩
      case measure => simp [intOf]; omega
    · have hkk : k = M := by omega
      subst hkk
      go_wp2
      go_ret
      exact ⟨_, rfl, HU.out, HB.out⟩

/-- The rows when k of them are laid. -/
def TimR (w : World) (gr n m M k : Nat) (wr : World) : Prop :=
  ∃ vs : List Value, vs.length = M ∧ wr.heap[gr]? = some (.cells vs.toArray 47 (0, 0)) ∧ (∀ i, i < k → ∃ v, vs[i]? = some v ∧ Nt wr v (rowT n m i)) ∧ (∀ x ∈ vs, ∃ al n c, x = .slice al n c) ∧ Below w.heap.size w wr

set_option maxRecDepth 100000 in
set_option maxHeartbeats 2000000 in
theorem times_nt (w : World) (v1 v2 : Value) (n m : Nat) (h1 : Nt w v1 n) (h2 : Nt w v2 m) (hn : (dz 10000 n).length ≤ 3000) (hm : (dz 10000 m).length ≤ 3000) :
    Calls Tryz.prog 60 #[v1, v2] w (NtOut w (n * m)) := by
  have hnm := mul_len n m 3000 3000 hn hm
  have HRL := Lib.hid (show ∀ i, (dz 10000 (rowT n m i)).length ≤ 6000 from fun i => Nat.le_trans (dz_length_mono 10000 (by decide) _ _ (rowT_le n m i)) hnm)
  have HSL := Lib.hid (show ∀ k, (dz 10000 (n * (m % 10000 ^ k))).length ≤ 6000 from fun k => Nat.le_trans (dz_length_mono 10000 (by decide) _ _ (Nat.mul_le_mul_left _ (Nat.mod_le _ _))) hnm)
  have HGL := Lib.hid (show ∀ g, g < 10000 → (dz 10000 (n * g)).length ≤ 3001 from fun g hg => Nat.le_trans (dz_len_mul n g hg) (by omega))
  obtain ⟨M, hMe⟩ : ∃ M, (dz 10000 m).length = M := ⟨_, rfl⟩
  have HTOP := Lib.hid (show m % 10000 ^ M = m from Nat.mod_eq_of_lt (by rw [← hMe]; exact dz_lt 10000 (by decide) m))
  obtain ⟨al1, c1, rfl⟩ := h1.shape
  have H1 := Lib.hid h1; have H2 := Lib.hid h2; have HN := Lib.hid hn
  obtain ⟨N, hNe⟩ : ∃ N, (dz 10000 n).length = N := ⟨_, rfl⟩
  have hdig := Lib.hid (fun i => dz_getD 10000 (by decide) m i)
  have hmk : ∀ W : World, (Instr.makeSlice 93 (.int .i64 M) (.int .i64 M)).run Tryz.prog W = .ok (.slice (some ⟨W.heap.size, 0, none⟩) M M) (W.alloc (.cells (madeCells #[.slice none 0 0] M) 47)) := fun W => run_make_row' (P := Tryz.prog) 93 47 (.slice none 0 0) 24 Tryz.underlying93 infoNat rfl .i64 .i64 M (by omega) (by omega) W
  have HMC := Lib.hid (show (madeCells #[Value.slice none 0 0] M).toList = List.replicate M (Value.slice none 0 0) from toList_madeCells_one ..)
  rw [hNe] at H1 ⊢
  have HC := Lib.hid (show ∀ i, i < M → ∃ b o c, v2 = .slice (some ⟨b, o, none⟩) M c ∧ b < w.heap.size ∧ w.cell? ⟨b, o + i, none⟩ = some (.int .i64 ((dz 10000 m)[i]?.getD 0)) from fun i hi => by
    rcases h2 with ⟨_, h0⟩ | ⟨b2, o2, c2, h0, _, hlt2, hcell2⟩
    · rw [← hMe, h0] at hi; simp at hi
    · exact ⟨b2, o2, c2, by rw [h0, hMe], hlt2, hcell2 i (by rw [hMe]; exact hi)⟩)
  obtain ⟨al2, c2, rfl⟩ := h2.shape
  have HME := Lib.hid hMe
  rw [hMe] at HC hm ⊢
  clear h1 h2 hn hMe hNe hnm
  go_enter Tryz.func60, Tryz.ntmps60
  go_wp2
  go_loopw [13] (fun iv wr => ∃ k : Nat, k ≤ M ∧ iv = .int .i64 k ∧ TimR w w.heap.size n m M k wr) (fun iv _ => M - (intOf iv).toNat)
  case atStart =>
    refine ⟨0, Nat.zero_le _, rfl, List.replicate M (.slice none 0 0), by simp, ?_, fun i hi => by omega, fun x hx => ⟨_, _, _, (List.mem_replicate.1 hx).2⟩, (Below.refl _ _).alloc (Nat.le_refl _) _⟩
    rw [heap_new' _ _ _ rfl, ← HMC.out]
  case round =>
    obtain ⟨k, hk, rfl, vs, hvl, hrow, hvs, hsl, hB⟩ := hrel
    have HROW := Lib.hid hrow; have HVS := Lib.hid hvs; have HSH := Lib.hid hsl; have HB := Lib.hid hB; have HVL := Lib.hid hvl
    have hgl : w.heap.size < wr.heap.size := (Array.getElem?_eq_some_iff.1 hrow).1
    clear hrow hvs hsl hB hvl
    by_cases hkM : k < M
    · obtain ⟨g, hg⟩ : ∃ g, m / 10000 ^ k % 10000 = g := ⟨_, rfl⟩
      have hg9 : g < 10000 := by rw [← hg]; exact Nat.mod_lt _ (by decide)
      obtain ⟨b2, o2, c9, hv9, hlt2, hc9⟩ := HC.out k hkM
      simp only [Value.slice.injEq] at hv9
      obtain ⟨rfl, -, rfl⟩ := hv9
      have hcell := (HB.out.cell (p := ⟨b2, o2 + k, none⟩) hlt2).trans hc9
      clear hc9
      rw [hdig.out, hg] at hcell
      have C1 := Lib.hid (timesGroup_nt wr _ n g (Nt.below H1.out (Nat.le_refl _) HB.out) hg9 (by have := HN.out; omega))
      have C2 := Lib.hid (fun W v (hv : Nt W v (n * g)) => shifted_nt W v (n * g) k hv (by have := HGL.out g hg9; omega) (by omega))
      have hrt : n * g * 10000 ^ k = rowT n m k := by unfold rowT; rw [hg]
      rw [hrt] at C2
      have HRT := Lib.hid hrt
      clear hrt hg
      have hkI : (k : Int) < (M : Int) := by omega
      obtain ⟨old, hold⟩ : ∃ old, vs[k]? = some old := ⟨vs[k]'(by rw [HVL.out]; exact hkM), List.getElem?_eq_getElem _⟩
      have HOLD := Lib.hid hold
      clear hold
      go_wp2_with (first
        | (go_at_call 78; (with_reducible refine C1.out.mono ?_); rintro e w2 ⟨v2, rfl, hv2, hb2⟩; have HV2 := Lib.hid hv2; have HB2 := Lib.hid hb2; clear hv2 hb2)
        | (go_at_call 70; (with_reducible refine (C2.out _ _ HV2.out).mono ?_); rintro e w3 ⟨v3, rfl, hv3, hb3⟩; have HV3 := Lib.hid hv3; have HB3 := Lib.hid (HB2.out.trans (hb3.mono HB2.out.size)); clear hb3; obtain ⟨al3, c3, rfl⟩ := hv3.shape; clear hv3; have hrow3 := Lib.hid ((HB3.out.block _ hgl).trans HROW.out); have hc3 : w3.cell? ⟨w.heap.size, k, none⟩ = some old := (by rw [cell_of_row _ _ _ _ _ _ hrow3.out]; simpa using HOLD.out); have hf3 := frozen_of_row _ _ k _ _ hrow3.out))
      go_roundw
      case rel =>
        refine ⟨k + 1, by omega, by go_num, vs.set k (.slice al3 (dz 10000 (rowT n m k)).length c3), by rw [List.length_set, HVL.out], ?_, ?_, ?_, (HB.out.trans (HB3.out.mono HB.out.size)).setCell (p := ⟨w.heap.size, k, none⟩) (Nat.le_refl _) _⟩
        · rw [heap_setCell_same _ _ _ _ _ _ hrow3.out]; simp
        · intro i hi
          by_cases hik : i = k
          · subst hik
            exact ⟨_, List.getElem?_set_self (by rw [HVL.out]; exact hkM), ls_setRow HV3.out hrow3.out HSH.out _⟩
          · obtain ⟨v, hv1, hv2⟩ := HVS.out i (by omega)
            exact ⟨v, by rw [List.getElem?_set_ne (by omega)]; exact hv1, ls_setRow (Nt.below hv2 (Nat.le_refl _) HB3.out) hrow3.out HSH.out _⟩
        · intro x hx
          rcases List.mem_or_eq_of_mem_set hx with hx | rfl
          · exact HSH.out x hx
          · exact ⟨_, _, _, rfl⟩
      case measure => simp [intOf]; omega
    · have hkk : k = M := by omega
      subst hkk
      have CF := Lib.hid (fold_nt wr w.heap.size k k vs (rowT n m) (fun j => n * (m % 10000 ^ j)) HVL.out (by omega) HROW.out HVS.out (by simp [Nat.mod_one]) (fun j => rowT_sum n m j) (fun j _ => Nat.le_trans (HRL.out j) (by decide)) (fun j _ => Nat.le_trans (HSL.out j) (by decide)))
      go_wp2_with (go_at_call 79; (with_reducible refine CF.out.mono ?_); rintro e w4 ⟨v4, rfl, hv4, hb4⟩; have HV4 := Lib.hid hv4; have HB4 := Lib.hid hb4; clear hv4 hb4)
      go_ret
      refine ⟨_, rfl, ?_, HB.out.trans (HB4.out.mono HB.out.size)⟩
      have := HV4.out
      rw [HTOP.out] at this
      exact this
end Go.Proofs.YtebjjgbdiabapaaGreatDoor
