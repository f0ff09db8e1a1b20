/- naturalOf, walked. -/
import Derived.Lib.ConvBytes
import Derived.Lib.AtoiErrMem
import Derived.Test.YtebjjgbdiabapaaGreatDoorTex
namespace Go.Proofs.YtebjjgbdiabapaaGreatDoor
open Go.RowKit

/-- The number that digits spell. -/
def dgv (l : List UInt8) : Nat := l.foldl (fun v c => 10 * v + (c.toNat - 48)) 0
theorem dgv_snoc (l : List UInt8) (c : UInt8) : dgv (l ++ [c]) = 10 * dgv l + (c.toNat - 48) := by unfold dgv; rw [List.foldl_append]; rfl
theorem digN_append (a b : List UInt8) : digN (a ++ b) = digN b ++ digN a := by simp [digN]
theorem dgv_eq (l : List UInt8) : l.all isD = true → ((dgv l : Nat) : Int) = vz 10 (digN l) := by
  refine snoc_ind (p := fun l => l.all isD = true → ((dgv l : Nat) : Int) = vz 10 (digN l)) (fun _ => rfl) ?_ l
  intro l c ih h
  rw [List.all_append, Bool.and_eq_true] at h
  have hc : isD c = true := by simpa using h.2
  simp [isD] at hc
  rw [dgv_snoc, digN_append, show digN [c] = [(c.toNat : Int) - 48] from rfl, List.singleton_append, vz, ← ih h.1]
  omega
theorem dgv_lt (l : List UInt8) (h : l.all isD = true) (h4 : l.length ≤ 4) : dgv l < 10000 := by
  have h1 := vz_lt 10 (digN l) (digN_digit l h)
  rw [digN_length] at h1
  have h2 := dgv_eq l h
  have h3 : 10 ^ l.length ≤ 10 ^ 4 := Nat.pow_le_pow_right (by decide) h4
  have h5 : vz 10 (digN l) < ((10 ^ l.length : Nat) : Int) := h1
  have : (10 : Nat) ^ 4 = 10000 := by decide
  omega
theorem dgv_take_le (l : List UInt8) (h : l.all isD = true) (h4 : l.length ≤ 4) (k : Nat) : dgv (l.take k) < 10000 :=
  dgv_lt _ (by rw [List.all_eq_true] at h ⊢; exact fun c hc => h c (List.mem_of_mem_take hc)) (by rw [List.length_take]; omega)

set_option maxRecDepth 100000 in
theorem digit_any (v : Nat) (c : UInt8) (hv : v < 10000) (hc : isD c = true) (w : World) :
    Calls Tryz.prog 91 #[.int .i64 v, .int .u8 c.toNat] w fun e w' => e = .returned (.int .i64 ((10 * v + (c.toNat - 48) : Nat) : Int)) ∧ w' = w := by
  simp [isD] at hc
  have hc0 : (48 : Int) ≤ (c.toNat : Int) := by omega
  have hc1 : (c.toNat : Int) ≤ 57 := by omega
  have hv1 : (v : Int) < 10000 := by omega
  have e : ((10 * v + (c.toNat - 48) : Nat) : Int) = 10 * (v : Int) + ((c.toNat : Int) - 48) := by omega
  rw [e]
  clear e
  generalize (c.toNat : Int) = x at *
  go_enter Tryz.func91, Tryz.ntmps91
  go_wp2
  go_ret
  exact ⟨rfl, rfl⟩

set_option maxRecDepth 100000 in
set_option maxHeartbeats 1000000 in
theorem foldDigits (g n c : Nat) (l : List UInt8) (hl : l.length = n) (hn : n ≤ 4) (hall : l.all isD = true) (w : World) (hcell : ∀ i, i < n → w.cell? ⟨g, i, none⟩ = some (.int .u8 (l[i]?.getD 0).toNat)) :
    Calls Tryz.prog 90 #[.slice (some ⟨g, 0, none⟩) n c, .int .i64 0, .func (.func 91) #[] #[]] w fun e w' => e = .returned (.int .i64 (dgv l : Nat)) ∧ w' = w := by
  have HC := Lib.hid hcell; have HL := Lib.hid hl; have HA := Lib.hid hall
  clear hcell hl hall
  go_enter Tryz.func90, Tryz.ntmps90
  go_wp2
  go_loop [7, 13] (fun vv iv => ∃ k : Nat, k ≤ n ∧ iv = .int .i64 k ∧ vv = .int .i64 (dgv (l.take k) : Nat)) (fun _ iv => n - (intOf iv).toNat)
  case atStart => exact ⟨0, Nat.zero_le _, rfl, rfl⟩
  case round =>
    obtain ⟨k, hk, rfl, rfl⟩ := hrel
    by_cases hkn : k < n
    · have hcc := HC.out k hkn
      have hlt : k < l.length := by rw [HL.out]; exact hkn
      have hdc := Lib.hid (digit_any (dgv (l.take k)) (l[k]?.getD 0) (dgv_take_le l HA.out (by rw [HL.out]; exact hn) k) (by rw [List.getElem?_eq_getElem hlt]; exact List.all_eq_true.1 HA.out _ (List.getElem_mem hlt)))
      have hst := Lib.hid (show dgv (l.take (k + 1)) = 10 * dgv (l.take k) + ((l[k]?.getD 0).toNat - 48) by
        rw [List.take_succ_eq_append_getElem hlt, dgv_snoc, List.getElem?_eq_getElem hlt]; rfl)
      obtain ⟨q, hq⟩ : ∃ q, 10 * dgv (l.take k) + ((l[k]?.getD 0).toNat - 48) = q := ⟨_, rfl⟩
      rw [hq] at hdc hst
      generalize l[k]?.getD 0 = ch at *
      generalize dgv (l.take k) = v at *
      clear hq hlt
      go_wp2_with (go_at_call 91; refine (hdc.out _).mono ?_; rintro e w2 ⟨rfl, rfl⟩)
      go_round
      case rel => exact ⟨k + 1, by omega, by go_num, by rw [hst.out]⟩
      case measure => simp [intOf]; omega
    · have hkk : k = n := by omega
      subst hkk
      have hst := Lib.hid (show dgv (l.take k) = dgv l by rw [List.take_of_length_le (by rw [HL.out]; exact Nat.le_refl _)])
      go_wp2
      go_ret
      exact ⟨by rw [← hst.out]; rfl, rfl⟩
end Go.Proofs.YtebjjgbdiabapaaGreatDoor
