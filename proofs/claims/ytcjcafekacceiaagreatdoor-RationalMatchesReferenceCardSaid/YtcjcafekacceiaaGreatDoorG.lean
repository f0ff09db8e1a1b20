/- Integer layer, merged: Gcd. -/
import Derived.Deep.LoopGhost
import Derived.Test.YtcjcafekacceiaaGreatDoorD
import Derived.Test.YtcjcafekacceiaaGreatDoorN
/-! gcd and root, walked. -/
namespace Go.Proofs.YtcjcafekacceiaaGreatDoor
open Go.RowKit

theorem gcd_step (n m : Nat) : Nat.gcd n m = Nat.gcd m (n % m) := by rw [Nat.gcd_comm n m, Nat.gcd_rec, Nat.gcd_comm]
def GcdR (w : World) (g k : Nat) (u v : Value) (wr : World) : Prop :=
  ∃ a, Nt wr u a ∧ Nt wr v k ∧ Nat.gcd a k = g ∧ (dz 10000 a).length ≤ 5000 ∧ (dz 10000 k).length ≤ 5000 ∧ Below w.heap.size w wr

set_option maxRecDepth 100000 in
set_option maxHeartbeats 2000000 in
theorem gcd_nt (w : World) (v1 v2 : Value) (n m : Nat) (h1 : Nt w v1 n) (h2 : Nt w v2 m) (hn : (dz 10000 n).length ≤ 5000) (hm : (dz 10000 m).length ≤ 5000) :
    Calls Tryz.prog 122 #[v1, v2] w (NtOut w (Nat.gcd n m)) := by
  have H1 := Lib.hid h1; have H2 := Lib.hid h2; have HN := Lib.hid hn; have HM := Lib.hid hm
  clear h1 h2 hn hm
  go_enter Tryz.func122, Tryz.ntmps122
  go_wp2
  go_loopg [0, 1] m (fun k u v wr => GcdR w (Nat.gcd n m) k u v wr)
  case atStart => exact ⟨n, H1.out, H2.out, rfl, HN.out, HM.out, Below.refl _ _⟩
  case round =>
    obtain ⟨a, ha, hb, hg, hla, hlb, hB⟩ := hrel
    obtain ⟨al, c, rfl⟩ := ha.shape
    obtain ⟨al2, c2, rfl⟩ := hb.shape
    have HA := Lib.hid ha; have HBn := Lib.hid hb; have HG := Lib.hid hg; have HB := Lib.hid hB; have HLA := Lib.hid hla; have HLB := Lib.hid hlb
    by_cases hk : gk = 0
    · have hl0 : (dz 10000 gk).length = 0 := by rw [hk, dz_zero]; rfl
      rw [hl0] at *
      clear ha hb hg hB hla hlb
      go_wp2
      go_ret
      refine ⟨_, rfl, ?_, HB.out⟩
      have := HG.out
      rw [hk, Nat.gcd_zero_right] at this
      rw [← this]; exact HA.out
    · have hl0 : 0 < (dz 10000 gk).length := (dz_length_pos 10000 (by decide) gk).2 hk
      have hD := Lib.hid (dividedBy_nt wr _ _ a gk ha hb (by omega) (by omega) (by omega))
      obtain ⟨L, hL⟩ : ∃ L, (dz 10000 gk).length = L := ⟨_, rfl⟩
      obtain ⟨L1, hL1⟩ : ∃ L1, (dz 10000 a).length = L1 := ⟨_, rfl⟩
      rw [hL] at hD hl0 hlb HBn ⊢
      rw [hL1] at hD hla HA ⊢
      have HLL := Lib.hid hL
      clear ha hb hg hB hL hL1
      go_wp2_with (go_at_call 105; refine hD.out.mono ?_; rintro e w2 ⟨v1, v2, rfl, hq, hr, hb2⟩; have HQ := Lib.hid hq; have HR := Lib.hid hr; have HB2 := Lib.hid hb2; clear hq hr hb2)
      go_roundg (a % gk)
      case measure => exact Nat.mod_lt _ (by omega)
      case rel => exact ⟨gk, Nt.below HBn.out (Nat.le_refl _) HB2.out, HR.out, by rw [← gcd_step]; exact HG.out, HLB.out, Nat.le_trans (dz_length_mono 10000 (by decide) _ _ (Nat.le_of_lt (Nat.mod_lt _ (by omega)))) HLB.out, HB.out.trans (HB2.out.mono HB.out.size)⟩

/-- Newton's guesses. -/
theorem pow_len (k : Nat) : (dz 10000 (1 * 10000 ^ k)).length ≤ k + 1 := by
  rw [len4, Nat.one_mul]
  exact Nat.pow_lt_pow_right (by decide) (by omega)
theorem sum_len (a b L : Nat) (ha : (dz 10000 a).length ≤ L) (hb : (dz 10000 b).length ≤ L) : (dz 10000 (a + b)).length ≤ L + 1 := by
  rw [len4] at *
  rw [Nat.pow_succ]
  have : 0 < 10000 ^ L := Nat.pow_pos (by decide)
  omega
theorem lit_nt (W : World) (g : Nat) (h : 0 < g) (h9 : g < 10000) : Nt (W.alloc (.cells #[.int .i64 (g : Int)] 3)) (.slice (some ⟨W.heap.size, 0, none⟩) 1 1) g := by
  have e : dz 10000 g = [(g : Int)] := by
    rw [dz_pos 10000 (by decide) g (by omega), Nat.div_eq_of_lt h9, dz_zero, Nat.mod_eq_of_lt h9]
  unfold Nt
  rw [e]
  exact lit_ls1 W g

end Go.Proofs.YtcjcafekacceiaaGreatDoor
