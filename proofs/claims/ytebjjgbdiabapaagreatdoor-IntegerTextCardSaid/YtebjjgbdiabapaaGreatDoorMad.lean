/- The reference's Made, walked. -/
import Derived.Deep.RegionHeld3
import Derived.Deep.QuietTactic
import Derived.BigQuiet
import Derived.Test.YtebjjgbdiabapaaGreatDoorRfx
namespace Go.Proofs.YtebjjgbdiabapaaGreatDoor
open Go.RowKit

/-- Some integer of at most m digits. -/
def MadeOut (w : World) (m : Nat) (e : Ending) (w' : World) : Prop := ∃ z : Int, z.natAbs < 10 ^ m ∧ e = .returned (.string (str z)) ∧ Below w.heap.size w w'
def MadR (w : World) (k : Nat) (v : Value) (wr : World) : Prop :=
  ∃ zs : List Int, zs.length = k ∧ (∀ d ∈ zs, 0 ≤ d ∧ d < 10) ∧ wr.ownsRow w.heap.size 3 1 v k (zs.map (Value.int .i64)) ∧ Below w.heap.size w wr
theorem vz_bound (zs : List Int) (m : Nat) (hd : ∀ d ∈ zs, 0 ≤ d ∧ d < 10) (hl : zs.length ≤ m) : (vz 10 zs).toNat < 10 ^ m := by
  have h1 : vz 10 zs < ((10 ^ zs.length : Nat) : Int) := vz_lt 10 zs hd
  have h2 : 10 ^ zs.length ≤ 10 ^ m := Nat.pow_le_pow_right (by decide) hl
  have h3 := vz_nonneg 10 (by decide) zs (fun d h => (hd d h).1)
  have h4 : (((vz 10 zs).toNat : Nat) : Int) = vz 10 zs := Int.toNat_of_nonneg h3
  omega

theorem below_drawn {B : Nat} {a w : World} (h : Below B a w) (n : Nat) : Below B a (w.drewN n) := ⟨h.os, h.tape, h.output, h.size, h.block⟩
set_option maxRecDepth 100000 in
set_option maxHeartbeats 2000000 in
theorem made_pos (s : ByteArray) (m : Nat) (hm : m ≤ 1000) (w : World) (hs : s.size ≤ 9223372036854775807) (h0 : 0 < s.size) :
    Calls Tryz.prog 7 #[.string s, .int .i64 m] w (MadeOut w m) := by
  obtain ⟨i0, hi, hz0, hz1, hz2⟩ := info_parts infoInt
  have hmI : (m : Int) ≤ 1000 := by omega
  go_enter Tryz.func7, Tryz.ntmps7
  go_wp2
  go_loopw [5, 6] (fun v iv wr => ∃ k : Nat, k ≤ s.size ∧ k ≤ m ∧ iv = .int .i64 k ∧ MadR w k v wr) (fun _ iv _ => s.size - (intOf iv).toNat)
  case atStart => exact ⟨0, by omega, by omega, rfl, [], rfl, by simp, World.ownsRow_nil _ _ _ _, Below.refl _ _⟩
  case round =>
    obtain ⟨k, hks, hkm, rfl, zs, hzl, hzd, hrow, hB⟩ := hrel
    have HB := Lib.hid hB
    have hBs := hB.size
    have HZD := Lib.hid hzd; have HZL := Lib.hid hzl
    clear hB hzd hzl
    by_cases hgo : k < s.size ∧ k < m
    · obtain ⟨h1, h2⟩ := hgo
      have h1I : (k : Int) < (s.size : Int) := by omega
      have h2I : (k : Int) < (m : Int) := by omega
      obtain ⟨c, hc⟩ : ∃ c, s[k] = c := ⟨_, rfl⟩
      have hcb : c.toNat < 256 := c.toNat_lt
      go_wp2_with (at_builtin; refine wpList_append_lit rfl _ _ 40 3 rfl Tryz.underlying40 hi hz0 hz1 hz2 rfl w.heap.size _ _ _ rfl hrow #[.int .i64 ((c.toNat : Int) % 10)] 1 rfl (by simp [Value.oneCell']) (by simp; omega) (by decide) hBs HB.out ?_; intro v' w1 hown' hb1)
      go_roundw
      case rel => exact ⟨k + 1, by omega, by omega, by go_num, zs ++ [(c.toNat : Int) % 10], by simp [HZL.out], (by
        intro d hd
        rw [List.mem_append, List.mem_singleton] at hd
        rcases hd with hd | rfl
        · exact HZD.out d hd
        · omega), by simpa using hown', hb1⟩
      case measure => simp [intOf]; omega
    · have hls := Lib.hid (Ls.own hrow zs rfl)
      have CT := Lib.hid (fun W (hW : Below wr.heap.size wr W) => rtrim_dt W u5 zs (hls.out.below (Nat.le_refl _) hW) (by rw [HZL.out]; omega) HZD.out)
      have HVB := Lib.hid (vz_bound zs m HZD.out (by rw [HZL.out]; exact hkm))
      have hlen : (dz 10 (vz 10 zs).toNat).length ≤ 100000 := by
        have := (len10 (vz 10 zs).toNat m).2 HVB.out
        omega
      have CX := Lib.hid (fun W b v (h : Dt W v (vz 10 zs).toNat) => rtext_any W b v _ h hlen)
      have HE := Lib.hid (fun b => (sgn_abs b (vz 10 zs).toNat))
      generalize (vz 10 zs).toNat = n at *
      have HT := Lib.hid (fun W z (hz : z.natAbs = n) (hW : Below wr.heap.size wr W) => show MadeOut w m (.returned (.string (str z))) W from ⟨z, by rw [hz]; exact HVB.out, rfl, HB.out.trans (hW.mono hBs)⟩)
      have hgo1 : decide (k < s.size) = false ∨ decide (k < s.size) = true ∧ decide (k < m) = false := by
        simp only [decide_eq_false_iff_not, decide_eq_true_eq]; omega
      obtain ⟨c, hc⟩ : ∃ c, s[0] = c := ⟨_, rfl⟩
      obtain ⟨q, hq⟩ : ∃ q, decide (128 ≤ (c.toNat : Int)) = q := ⟨_, rfl⟩
      have h0I : (0 : Int) < (s.size : Int) := by omega
      have h0d : decide ((0 : Int) < (s.size : Int)) = true := decide_eq_true h0I
      have h0b : decide (0 < s.size) = true := decide_eq_true h0
      clear hgo hls
      rcases hgo1 with hg | ⟨hg1, hg2⟩
      all_goals
        go_upto_region 6 with fail
        go_region_held3 (fun _ => True) (trivial)
          (first
            | (go_at_call 29; (with_reducible refine (CT.out _ (Below.refl _ _).drew).mono ?_); rintro e w3 ⟨v3, rfl, hv3, rfl⟩)
            | (go_at_call 28; (with_reducible refine (CX.out _ _ _ hv3).mono ?_); rintro e w4 ⟨rfl, hb4⟩; have HB4 := Lib.hid ((Below.refl wr.heap.size wr).drew.trans (hb4.mono (Nat.le_refl _)))))
        all_goals
          go_wp2
          go_ret
          exact HT.out _ _ (HE.out _) HB4.out

set_option maxRecDepth 100000 in
set_option maxHeartbeats 2000000 in
theorem made_nil (m : Nat) (w : World) :
    Calls Tryz.prog 7 #[.string ⟨#[]⟩, .int .i64 m] w (MadeOut w m) := by
  go_enter Tryz.func7, Tryz.ntmps7
  go_wp2
  go_loopw [5, 6] (fun v iv wr => v = .slice none 0 0 ∧ iv = .int .i64 0 ∧ wr = w) (fun _ _ _ => 0)
  case atStart => exact ⟨rfl, rfl, rfl⟩
  case round =>
    obtain ⟨rfl, rfl, rfl⟩ := hrel
    go_upto_region 6 with fail
    go_quiet ((first
      | (go_at_call 29; exact Calls.quiet_of_same (rtrim_nil _))
      | (go_at_call 28; exact Calls.quiet_of_same (rtext_zero _ _ _ (Dt.zero _)))))
    go_wp2
    go_ret
    exact ⟨0, Nat.pow_pos (by decide), rfl, below_drawn (Below.refl _ _) _⟩
theorem made_any (s : ByteArray) (m : Nat) (hm : m ≤ 1000) (w : World) (hs : s.size ≤ 9223372036854775807) :
    Calls Tryz.prog 7 #[.string s, .int .i64 m] w (MadeOut w m) := by
  rcases Nat.eq_zero_or_pos s.size with h0 | h0
  · obtain ⟨⟨l⟩⟩ := s
    obtain rfl : l = [] := List.length_eq_zero_iff.1 h0
    exact made_nil m w
  · exact made_pos s m hm w hs h0
end Go.Proofs.YtebjjgbdiabapaaGreatDoor
