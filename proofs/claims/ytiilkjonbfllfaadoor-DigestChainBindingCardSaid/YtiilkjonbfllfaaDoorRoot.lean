/- The first half and the root of a list, walked. -/
import Derived.Test.YtiilkjonbfllfaaDoorNode
import Derived.Test.YtiilkjonbfllfaaDoorShelf
import Derived.Test.YtiilkjonbfllfaaDoorSlic
import Derived.Lib.BitFns
import Derived.Deep.RegionWith
namespace Go.Proofs.YtiilkjonbfllfaaDoor
open Go.RowKit

theorem bitLen_log2 : ∀ x : Nat, 1 ≤ x → x < 2 ^ 64 → Lib.bitLen x = Nat.log2 x + 1 := by
  intro x
  induction x using Nat.strongRecOn with
  | _ x ih =>
    intro h1 h2
    rw [Lib.bitLen_half x (by omega) h2]
    by_cases h : x < 2
    · obtain rfl : x = 1 := by omega
      decide
    · rw [ih (x / 2) (by omega) (by omega) (by omega), Nat.log2_def x, if_pos (by omega)]; omega

theorem firstHalf_any (n : Nat) (h2 : 2 ≤ n) (hm : n ≤ 9223372036854775807) (w : World) :
    Calls Tryd.prog 49 #[.int .i64 n] w fun e w' => e = .returned (.int .i64 (half n : Nat)) ∧ w = w' := by
  obtain ⟨k, hk⟩ : ∃ k, Nat.log2 (n - 1) = k := ⟨_, rfl⟩
  have hb := bitLen_log2 (n - 1) (by omega) (by omega)
  have hk62 : k < 63 := by rw [← hk]; exact (Nat.log2_lt (by omega)).2 (by omega)
  have HB := Lib.hid (show (Lib.bitLen ((n : Int) - 1).toNat : Int) = (k : Int) + 1 by rw [show ((n : Int) - 1).toNat = n - 1 by omega, hb, hk]; omega)
  have HH := Lib.hid (show half n = 2 ^ k by rw [half, hk])
  have hp : 2 ^ k < 2 ^ 63 := (Nat.pow_lt_pow_iff_right (by decide)).2 hk62
  have HP := Lib.hid (show wrap64 ((2 : Int) ^ k) = ((2 ^ k : Nat) : Int) by
    have e : ((2 ^ k : Nat) : Int) = (2 : Int) ^ k := by simp
    rw [← e]
    generalize 2 ^ k = z at hp
    exact IntWalk.wrap64_in _ ⟨by omega, by omega⟩)
  clear hk hb hp
  go_enter Tryd.func49, Tryd.ntmps49
  go_wp2_with fail
  refine (Tryd.bits_Len _ _ (by omega) (by omega)).mono ?_
  rw [HB.out]
  rintro e w' ⟨rfl, hw⟩
  obtain rfl := hw.symm; clear hw
  go_wp2_with fail
  rw [HP.out, ← HH.out]
  go_ret
  exact ⟨rfl, rfl⟩

set_option maxHeartbeats 1000000 in
theorem root_any (k : Nat) : ∀ (l : List ByteArray) (g o n c : Nat) (al : Option Addr) (w : World), n ≤ k → l.length = n → n ≤ 1000 → n ≤ c → c ≤ maxLen → (∀ s ∈ l, s.size ≤ 400000) → Tab w →
    (n = 0 ∨ (al = some ⟨g, o, none⟩ ∧ ∀ i, i < n → w.cell? ⟨g, o + i, none⟩ = some (.string (l.getD i ByteArray.empty)))) →
    Calls Tryd.prog 27 #[.slice al n c] w fun e w' => e = .returned (.string (root l)) ∧ Below w.heap.size w w' := by
  induction k with
  | zero =>
    intro l g o n c al w hk hl hn hnc hc hs hT hcell
    obtain rfl : n = 0 := by omega
    obtain rfl : l = [] := List.length_eq_zero_iff.1 hl
    go_enter Tryd.func27, Tryd.ntmps27
    go_wp2_with (go_at_call 13; refine (sum_any ⟨#[]⟩ (by decide) _ hT).mono ?_; rintro e w' ⟨rfl, hb⟩)
    go_ret
    exact ⟨rfl, hb⟩
  | succ k ih =>
    intro l g o n c al w hk hl hn hnc hc hs hT hcell
    rcases Nat.lt_or_ge n 2 with h2 | h2
    · by_cases h0 : n = 0
      · subst h0
        obtain rfl : l = [] := List.length_eq_zero_iff.1 hl
        go_enter Tryd.func27, Tryd.ntmps27
        go_wp2_with (go_at_call 13; refine (sum_any ⟨#[]⟩ (by decide) _ hT).mono ?_; rintro e w' ⟨rfl, hb⟩)
        go_ret
        exact ⟨rfl, hb⟩
      · obtain rfl : n = 1 := by omega
        obtain ⟨rfl, hcs⟩ := hcell.resolve_left (by omega)
        obtain ⟨s, rfl⟩ : ∃ s, l = [s] := List.length_eq_one_iff.1 hl
        have hc0 := hcs 0 (by omega)
        have hsz := hs s (List.mem_singleton.2 rfl)
        simp only [Nat.add_zero, List.getD_cons_zero] at hc0
        clear hcs hs hl
        go_enter Tryd.func27, Tryd.ntmps27
        go_wp2_with (go_at_call 15; refine (leaf_any s (by omega) _ hT).mono ?_; rintro e w' ⟨rfl, hb⟩)
        go_ret
        exact ⟨rfl, hb⟩
    · obtain ⟨rfl, hcs⟩ := hcell.resolve_left (by omega)
      have hlt := half_lt h2
      have hp := half_pos n
      have HL := Lib.hid hl; have HC := Lib.hid hcs; have HS := Lib.hid hs
      have HR := Lib.hid (root_split l (by omega))
      rw [hl] at HR
      have hT0 := hT
      clear hl hcs hs hcell
      have hdef := Lib.hid (show half n = half n from rfl)
      generalize hh : half n = h at *
      have HH := Lib.hid hh; clear hh hdef
      unfold maxLen at hc
      go_enter Tryd.func27, Tryd.ntmps27
      go_wp2_with fail
      refine (firstHalf_any n h2 (by omega) _).mono ?_
      rw [HH.out]
      rintro e w' ⟨rfl, rfl⟩
      have hz : 0 < w.heap.size := hT.1
      have get : ∀ W, Below w.heap.size w W → ∀ i, i < n → W.cell? ⟨g, o + i, none⟩ = some (.string (l.getD i ByteArray.empty)) := fun W hB i hi =>
        (hB.cell (p := ⟨g, o + i, none⟩) (block_lt_of_cell (HC.out i hi))).trans (HC.out i hi)
      have C1 := Lib.hid (show ∀ W, Below w.heap.size w W → Calls Tryd.prog 27 #[.slice (some ⟨g, o, none⟩) h c] W fun e w' => e = .returned (.string (root (l.take h))) ∧ Below W.heap.size W w' from fun W hB =>
        ih (l.take h) g o h c _ W (by omega) (by rw [List.length_take, HL.out]; omega) (by omega) (by omega) (by unfold maxLen; omega) (fun s hs => HS.out s (List.mem_of_mem_take hs)) (hT.below hB hz)
          (.inr ⟨rfl, fun i hi => by rw [get W hB i (by omega), List.getD_eq_getElem?_getD, List.getD_eq_getElem?_getD, List.getElem?_take, if_pos hi]⟩))
      have C2 := Lib.hid (show ∀ W, Below w.heap.size w W → Calls Tryd.prog 27 #[.slice (some ⟨g, o + h, none⟩) (n - h) (c - h)] W fun e w' => e = .returned (.string (root (l.drop h))) ∧ Below W.heap.size W w' from fun W hB =>
        ih (l.drop h) g (o + h) (n - h) (c - h) _ W (by omega) (by rw [List.length_drop, HL.out]) (by omega) (by omega) (by unfold maxLen; omega) (fun s hs => HS.out s (List.mem_of_mem_drop hs)) (hT.below hB hz)
          (.inr ⟨rfl, fun i hi => by rw [Nat.add_assoc, get W hB (h + i) (by omega), List.getD_eq_getElem?_getD, List.getD_eq_getElem?_getD, List.getElem?_drop]⟩))
      have r1 := root_size (l.take h)
      have r2 := root_size (l.drop h)
      have R1 := Lib.hid (show (root (l.take h)).size ≤ 400000 by omega)
      have R2 := Lib.hid (show (root (l.drop h)).size ≤ 400000 by omega)
      have HT := Lib.hid (show ∀ W, Below w.heap.size w W → Tab W from fun W hB => hT.below hB hz)
      have e1 := run_cut_to (P := Tryd.prog) 26 9 1 Tryd.underlying26 (by kernel_rfl) (some ⟨g, o, none⟩) n c h (by omega)
      have e2 := run_cut_from (P := Tryd.prog) 26 9 1 Tryd.underlying26 (by kernel_rfl) g o n c h (by omega) (by omega)
      rw [Nat.mul_one] at e2
      clear get r1 r2 ih
      go_wp2_with fail
      go_region_with (first
        | (go_at_call 27; (with_reducible refine (C1.out _ ((Below.refl _ _).drew)).mono ?_); rintro e w1 ⟨rfl, hb1⟩; have hB1 := below1 (Below.refl _ w).drew hb1)
        | (go_at_call 27; (with_reducible refine (C2.out _ hB1).mono ?_); rintro e w2 ⟨rfl, hb2⟩; have hB2 := below1 hB1 hb2)
        | (go_at_call 17; refine (node_any _ _ R1.out R2.out _ (HT.out _ hB2)).mono ?_; rintro e w3 ⟨rfl, hb3⟩; have hB3 := below1 hB2 hb3))
      rw [← HR.out]
      go_wp2
      go_ret
      exact ⟨rfl, hB3⟩
end Go.Proofs.YtiilkjonbfllfaaDoor
