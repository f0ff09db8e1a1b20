/- sort.Search and the closure of holds, walked. -/
import Derived.Deep.RegionHeld3
import Derived.Deep.QuietTactic
import Derived.BigQuiet
import Derived.Test.YtebjjgbdiabapaaGreatDoorCmp
namespace Go.Proofs.YtebjjgbdiabapaaGreatDoor
open Go.RowKit

theorem wrap_in (x : Int) (h : -9223372036854775808 ≤ x ∧ x < 9223372036854775808) : IntKind.i64.wrap x = x := by
  rw [IntKind.wrap_i64]; omega
theorem below1 {w W W' : World} (h : Below w.heap.size w W) (h' : Below W.heap.size W W') : Below w.heap.size w W' := h.trans (h'.mono h.size)
theorem dz_len_mul (d m : Nat) (hm : m < 10000) : (dz 10000 (d * m)).length ≤ (dz 10000 d).length + 1 := by
  rw [len4, Nat.pow_succ]
  have h1 := dz_lt 10000 (by decide) d
  rcases Nat.eq_zero_or_pos m with h | h
  · subst h; rw [Nat.mul_zero]; exact Nat.mul_pos (Nat.pow_pos (by decide)) (by decide)
  · calc d * m < 10000 ^ (dz 10000 d).length * m := Nat.mul_lt_mul_of_pos_right h1 h
      _ ≤ 10000 ^ (dz 10000 d).length * 10000 := Nat.mul_le_mul_left _ (by omega)
theorem cmpN_gt (m n : Nat) : decide (0 < cmpN m n) = decide (n < m) := by
  unfold cmpN
  rcases Nat.lt_trichotomy m n with h | h | h
  · rw [if_pos h]; simp; omega
  · subst h; simp
  · rw [if_neg (by omega), if_pos h]; simp; omega

set_option maxRecDepth 100000 in
set_option maxHeartbeats 2000000 in
theorem over_any (Bm Bl Bn : Nat) (vn vd : Value) (n d l i : Nat) (hn : (dz 10000 n).length ≤ 10000) (hd : (dz 10000 d).length ≤ 10000) (hi : l + i + 1 < 10000) (w : World)
    (hm : w.cell? ⟨Bm, 0, none⟩ = some (.func (.func 78) #[vd] #[])) (hl : w.cell? ⟨Bl, 0, none⟩ = some (.int .i64 l)) (hv : w.cell? ⟨Bn, 0, none⟩ = some vn) (h1 : Nt w vn n) (h2 : Nt w vd d) :
    Calls Tryz.prog 103 #[.int .i64 i, .pointer (some ⟨Bm, 0, none⟩), .pointer (some ⟨Bl, 0, none⟩), .pointer (some ⟨Bn, 0, none⟩)] w fun e w' => e = .returned (.bool (decide (n < d * (l + i + 1)))) ∧ Below w.heap.size w w' := by
  have hlen := dz_len_mul d (l + i + 1) hi
  have HG := Lib.hid (cmpN_gt (d * (l + i + 1)) n)
  have C1 := Lib.hid (fun W (hW : Below w.heap.size w W) => timesGroup_nt W vd d (l + i + 1) (h2.below (Nat.le_refl _) hW) hi (by omega))
  have C2 := Lib.hid (fun W (hW : Below w.heap.size w W) v' (h' : Nt W v' (d * (l + i + 1))) => compare_nt W v' vn _ n h' (h1.below (Nat.le_refl _) hW) (by omega) (by omega))
  have KC := Lib.hid (fun W (hW : Below w.heap.size w W) => And.intro ((hW.cell (p := ⟨Bm, 0, none⟩) (block_lt_of_cell hm)).trans hm) (And.intro ((hW.cell (p := ⟨Bl, 0, none⟩) (block_lt_of_cell hl)).trans hl) ((hW.cell (p := ⟨Bn, 0, none⟩) (block_lt_of_cell hv)).trans hv)))
  have HLI := Lib.hid (show ((l + i + 1 : Nat) : Int) = (l : Int) + i + 1 by omega)
  obtain ⟨al, c, hvn, _⟩ := h1.shape
  subst hvn
  generalize d * (l + i + 1) = p at *
  generalize (dz 10000 n).length = ln at *
  clear hm hl hv h1 h2 hlen
  have hlI : (l : Int) ≤ 9999 := by omega
  have hiI : (i : Int) ≤ 9999 := by omega
  rw [HLI.out] at C1
  have hw1 := wrap_in ((l : Int) + i) ⟨by omega, by omega⟩
  have hw2 := wrap_in ((l : Int) + i + 1) ⟨by omega, by omega⟩
  go_enter Tryz.func103, Tryz.ntmps103
  go_wp2_with fail
  go_region_held3 (fun w' => w'.cell? ⟨Bm, 0, none⟩ = some (.func (.func 78) #[vd] #[]) ∧ w'.cell? ⟨Bl, 0, none⟩ = some (.int .i64 l) ∧ w'.cell? ⟨Bn, 0, none⟩ = some (.slice al ln c))
    (first
      | exact KC.out _ hB2
      | exact KC.out _ hB1
      | exact KC.out _ (Below.refl _ _).drew
      | go_keep)
    (first
      | (go_at_call 78; (with_reducible refine (C1.out _ ((Below.refl _ _).drew)).mono ?_); rintro e w1 ⟨v1, rfl, hv1, hb1⟩; have hB1 := below1 (Below.refl _ w).drew hb1)
      | (go_at_call 57; (with_reducible refine (C2.out _ hB1 _ hv1).mono ?_); rintro e w2 ⟨rfl, hb2⟩; have hB2 := below1 hB1 hb2))
  have HB2 := Lib.hid hB2
  clear hB2 hB1 hb1 hb2
  go_wp2
  go_ret
  exact ⟨by rw [HG.out]; rfl, HB2.out⟩

set_option maxRecDepth 100000 in
set_option maxHeartbeats 2000000 in
theorem search_any (P1 P2 P3 : Value) (n k : Nat) (hk : k ≤ n) (hn : n ≤ 100000) (w : World)
    (hf : ∀ W, Below w.heap.size w W → ∀ i : Nat, i < n → Calls Tryz.prog 103 #[.int .i64 i, P1, P2, P3] W fun e w' => e = .returned (.bool (decide (k ≤ i))) ∧ Below W.heap.size W w') :
    Calls Tryz.prog 102 #[.int .i64 n, .func (.func 103) #[] #[P1, P2, P3]] w fun e w' => e = .returned (.int .i64 k) ∧ Below w.heap.size w w' := by
  have HF := Lib.hid hf
  clear hf
  go_enter Tryz.func102, Tryz.ntmps102
  go_wp2
  go_loopw [5, 6] (fun iv jv wr => ∃ i j : Nat, iv = .int .i64 i ∧ jv = .int .i64 j ∧ i ≤ k ∧ k ≤ j ∧ j ≤ n ∧ Below w.heap.size w wr) (fun iv jv _ => (intOf jv).toNat - (intOf iv).toNat)
  case atStart => exact ⟨0, n, rfl, rfl, Nat.zero_le _, hk, Nat.le_refl _, Below.refl _ _⟩
  case round =>
    obtain ⟨i, j, rfl, rfl, hik, hkj, hjn, hB⟩ := hrel
    have HB := Lib.hid hB
    clear hB
    by_cases hij : i < j
    · obtain ⟨h, hh⟩ : ∃ h, (i + j) / 2 = h := ⟨_, rfl⟩
      have hb1 : i ≤ h := by omega
      have hb2 : h < j := by omega
      have hI : ((i : Int) + j) / 2 = h := by omega
      clear hh
      by_cases hkh : k ≤ h
      · have hd : decide (k ≤ h) = true := by simp [hkh]
        go_wp2_with (go_at_call 103; refine (HF.out _ HB.out h (by omega)).mono ?_; rintro e w2 ⟨rfl, hb2⟩; have HB2 := Lib.hid (below1 HB.out hb2); clear hb2)
        go_roundw
        case rel => exact ⟨i, h, rfl, rfl, hik, hkh, by omega, HB2.out⟩
        case measure => simp [intOf]; omega
      · have hd : decide (k ≤ h) = false := by simp; omega
        go_wp2_with (go_at_call 103; refine (HF.out _ HB.out h (by omega)).mono ?_; rintro e w2 ⟨rfl, hb2⟩; have HB2 := Lib.hid (below1 HB.out hb2); clear hb2)
        go_roundw
        case rel => exact ⟨h + 1, j, by go_num, rfl, by omega, hkj, hjn, HB2.out⟩
        case measure => simp [intOf]; omega
    · have hkk : i = k := by omega
      subst hkk
      go_wp2
      go_ret
      exact ⟨rfl, HB.out⟩
end Go.Proofs.YtebjjgbdiabapaaGreatDoor
