/- Extension and Proof, their lists given as lists of the call's own; binary, walked. -/
import Derived.Test.YtiilkjonbfllfaaDoorAps
import Derived.Test.YtiilkjonbfllfaaDoorBinW
namespace Go.Proofs.YtiilkjonbfllfaaDoor
open Go.RowKit

theorem digits_le : ∀ n : Nat, digits n ≤ n := by
  intro n
  induction n using Nat.strongRecOn with
  | _ n ih =>
    rcases Nat.eq_zero_or_pos n with rfl | h
    · exact Nat.le_refl _
    · rw [digits_step h]
      have := ih (n / 2) (by omega)
      omega
theorem strown_of_out {w w' : World} {ps : List ByteArray} {v : Value} (h : StrOut w ps v w') (hl : ps.length ≤ 100000) : StrOwn w ps v w' := by
  have ho := own_of_out h (by unfold maxLen; omega)
  obtain ⟨g, rfl, _, _, hb⟩ := h
  exact ⟨_, _, rfl, Nat.le_refl _, by unfold maxLen; omega, ho, hb⟩
theorem strown_nil (w : World) : StrOwn w [] (.slice none 0 0) w := ⟨none, 0, rfl, Nat.le_refl _, by decide, own_nil w _, Below.refl _ _⟩
theorem ext_at (al : Option Addr) (n c : Nat) (l : List ByteArray) (hn : n ≤ 1000) (hnc : n ≤ c) (hc : c ≤ maxLen) (w : World) (hl : Strs w al n l) (hls : ∀ s ∈ l, s.size ≤ 400000) (hT : Tab w) (k : Nat) (hk : k ≤ n) :
    Calls Tryd.prog 24 #[.slice al n c, .int .i64 k] w fun e w' => ∃ v, e = .returned (.tuple #[v, .int .i64 0]) ∧ StrOwn w (extS l k) v w' := by
  cases k with
  | zero =>
    refine (ext_zero al n c w).mono ?_
    rintro e w' ⟨rfl, rfl⟩
    refine ⟨_, rfl, ?_⟩
    rw [extS, if_pos rfl]
    exact strown_nil w
  | succ i =>
    have hll := ext_len l (i + 1) (by rw [hl.1]; exact hk)
    have hdl := digits_le l.length
    have h1 := hl.1
    refine (ext_ok al n c l hn hnc hc w hl hls hT i hk).mono ?_
    rintro e w' ⟨v', rfl, ho⟩
    exact ⟨v', rfl, strown_of_out ho (by omega)⟩
theorem proof_at (al : Option Addr) (n c : Nat) (l : List ByteArray) (hn : n ≤ 1000) (hnc : n ≤ c) (hc : c ≤ maxLen) (w : World) (hl : Strs w al n l) (hls : ∀ s ∈ l, s.size ≤ 400000) (hT : Tab w) (k : Nat) (hk : k < n) :
    Calls Tryd.prog 22 #[.slice al n c, .int .i64 k] w fun e w' => ∃ v, e = .returned (.tuple #[v, .int .i64 0]) ∧ StrOwn w (prfS l k) v w' := by
  have hll := prf_len l k
  have hdl := digits_le l.length
  have h1 := hl.1
  refine (proof_ok al n c l hn hnc hc w hl hls hT k hk).mono ?_
  rintro e w' ⟨v', rfl, ho⟩
  exact ⟨v', rfl, strown_of_out ho (by omega)⟩
theorem strs_drop {w : World} {g o n : Nat} {ps : List ByteArray} (h : Strs w (some ⟨g, o, none⟩) n ps) {k : Nat} (hk : k ≤ n) : Strs w (some ⟨g, o + k * 1, none⟩) (n - k) (ps.drop k) := by
  refine ⟨by rw [List.length_drop, h.1], ?_⟩
  rcases Nat.eq_zero_or_pos (n - k) with h0 | h0
  · exact .inl h0
  · obtain ⟨g', o', e, hg, hc⟩ := strs_out h (show 0 < n by omega)
    simp only [Option.some.injEq, Addr.mk.injEq, and_true] at e
    obtain ⟨rfl, rfl⟩ := e
    refine .inr ⟨g, o + k * 1, rfl, hg, fun i hi => ?_⟩
    rw [show o + k * 1 + i = o + (k + i) by omega, hc (k + i) (by omega), List.getD_eq_getElem?_getD, List.getD_eq_getElem?_getD, List.getElem?_drop]
theorem root_sz (l : List ByteArray) : (root l).size = 32 := root_size l

theorem binary_any (n : Nat) (hm : n ≤ 1000000) (w : World) :
    Calls Tryd.prog 33 #[.int .i64 n] w fun e w' => e = .returned (.int .i64 (digits n : Nat)) ∧ w = w' := by
  go_enter Tryd.func33, Tryd.ntmps33
  go_wp2
  go_loop [0, 3] (fun nv kv => ∃ m k : Nat, nv = .int .i64 m ∧ kv = .int .i64 k ∧ m ≤ n ∧ k ≤ n ∧ k + digits m = digits n) (fun nv _ => (intOf nv).toNat)
  case atStart => exact ⟨n, 0, rfl, rfl, Nat.le_refl _, Nat.zero_le _, by omega⟩
  case round =>
    obtain ⟨m, k, rfl, rfl, hmn, hk, hs⟩ := hrel
    have HS := Lib.hid hs; clear hs
    by_cases h0 : 0 < m
    · have hd : (0 : Int) < m := by omega
      have HST := Lib.hid (digits_step h0)
      have hdl := digits_le n
      go_wp2
      go_round
      case rel => exact ⟨m / 2, k + 1, by go_num, by go_num, by omega, by have := HS.out; have := HST.out; omega, by have := HS.out; have := HST.out; omega⟩
      case measure => simp [intOf]; omega
    · obtain rfl : m = 0 := by omega
      go_wp2
      go_ret
      exact ⟨by have h := HS.out; rw [show digits 0 = 0 from rfl, Nat.add_zero] at h; rw [h]; rfl, rfl⟩
end Go.Proofs.YtiilkjonbfllfaaDoor
