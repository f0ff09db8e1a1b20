/- gcd and root, walked. -/
import Derived.Deep.LoopGhost
import Derived.Test.YtebjjgbdiabapaaGreatDoorDiv
namespace Go.Proofs.YtebjjgbdiabapaaGreatDoor
open Go.RowKit

theorem gcd_step (n m : Nat) : Nat.gcd n m = Nat.gcd m (n % m) := by rw [Nat.gcd_comm n m, Nat.gcd_rec, Nat.gcd_comm]
theorem Nt.shape {w : World} {v : Value} {n : Nat} (h : Nt w v n) : ∃ al c, v = .slice al (dz 10000 n).length c := by
  obtain ⟨al, c, h, _⟩ := Ls.shape h
  exact ⟨al, c, h⟩

def GcdR (w : World) (g k : Nat) (u v : Value) (wr : World) : Prop :=
  ∃ a, Nt wr u a ∧ Nt wr v k ∧ Nat.gcd a k = g ∧ (dz 10000 a).length ≤ 5000 ∧ (dz 10000 k).length ≤ 5000 ∧ Below w.heap.size w wr

set_option maxRecDepth 100000 in
set_option maxHeartbeats 2000000 in
theorem gcd_nt (w : World) (v1 v2 : Value) (n m : Nat) (h1 : Nt w v1 n) (h2 : Nt w v2 m) (hn : (dz 10000 n).length ≤ 5000) (hm : (dz 10000 m).length ≤ 5000) :
    Calls Tryz.prog 67 #[v1, v2] w (NtOut w (Nat.gcd n m)) := by
  have H1 := Lib.hid h1; have H2 := Lib.hid h2; have HN := Lib.hid hn; have HM := Lib.hid hm
  clear h1 h2 hn hm
  go_enter Tryz.func67, Tryz.ntmps67
  go_wp2
  go_loopg [0, 1] m (fun k u v wr => GcdR w (Nat.gcd n m) k u v wr)
  case atStart => exact ⟨n, H1.out, H2.out, rfl, HN.out, HM.out, Below.refl _ _⟩
  case round =>
    obtain ⟨a, ha, hb, hg, hla, hlb, hB⟩ := hrel
    obtain ⟨al, c, rfl⟩ := ha.shape
    obtain ⟨al2, c2, rfl⟩ := hb.shape
    have HA := Lib.hid ha; have HBn := Lib.hid hb; have HG := Lib.hid hg; have HB := Lib.hid hB; have HLA := Lib.hid hla; have HLB := Lib.hid hlb
    by_cases hk : gk = 0
    · have hl0 : (dz 10000 gk).length = 0 := by rw [hk, dz_zero]; rfl
      rw [hl0] at *
      clear ha hb hg hB hla hlb
      go_wp2
      go_ret
      refine ⟨_, rfl, ?_, HB.out⟩
      have := HG.out
      rw [hk, Nat.gcd_zero_right] at this
      rw [← this]; exact HA.out
    · have hl0 : 0 < (dz 10000 gk).length := (dz_length_pos 10000 (by decide) gk).2 hk
      have hD := Lib.hid (dividedBy_nt wr _ _ a gk ha hb (by omega) (by omega) (by omega))
      obtain ⟨L, hL⟩ : ∃ L, (dz 10000 gk).length = L := ⟨_, rfl⟩
      obtain ⟨L1, hL1⟩ : ∃ L1, (dz 10000 a).length = L1 := ⟨_, rfl⟩
      rw [hL] at hD hl0 hlb HBn ⊢
      rw [hL1] at hD hla HA ⊢
      have HLL := Lib.hid hL
      clear ha hb hg hB hL hL1
      go_wp2_with (go_at_call 61; refine hD.out.mono ?_; rintro e w2 ⟨v1, v2, rfl, hq, hr, hb2⟩; have HQ := Lib.hid hq; have HR := Lib.hid hr; have HB2 := Lib.hid hb2; clear hq hr hb2)
      go_roundg (a % gk)
      case measure => exact Nat.mod_lt _ (by omega)
      case rel => exact ⟨gk, Nt.below HBn.out (Nat.le_refl _) HB2.out, HR.out, by rw [← gcd_step]; exact HG.out, HLB.out, Nat.le_trans (dz_length_mono 10000 (by decide) _ _ (Nat.le_of_lt (Nat.mod_lt _ (by omega)))) HLB.out, HB.out.trans (HB2.out.mono HB.out.size)⟩

/-- Newton's guesses. -/
def RootR (w : World) (v : Value) (n s k : Nat) (u : Value) (wr : World) : Prop :=
  Nt wr v n ∧ Nt wr u k ∧ s ≤ k ∧ 0 < k ∧ (dz 10000 k).length ≤ 2100 ∧ Below w.heap.size w wr

theorem root_start (n s L : Nat) (hL : (dz 10000 n).length = L) (hs1 : s * s ≤ n) : s ≤ 10000 ^ ((L + 1) / 2) := by
  have h1 := dz_lt 10000 (by decide) n
  rw [hL] at h1
  by_cases h : s ≤ 10000 ^ ((L + 1) / 2)
  · exact h
  · exfalso
    have h2 : 10000 ^ ((L + 1) / 2) * 10000 ^ ((L + 1) / 2) ≤ s * s := Nat.mul_le_mul (by omega) (by omega)
    rw [← Nat.pow_add] at h2
    have h3 : 10000 ^ L ≤ 10000 ^ ((L + 1) / 2 + (L + 1) / 2) := Nat.pow_le_pow_right (by decide) (by omega)
    omega
theorem pow_len (k : Nat) : (dz 10000 (1 * 10000 ^ k)).length ≤ k + 1 := by
  rw [len4, Nat.one_mul]
  exact Nat.pow_lt_pow_right (by decide) (by omega)
theorem sum_len (a b L : Nat) (ha : (dz 10000 a).length ≤ L) (hb : (dz 10000 b).length ≤ L) : (dz 10000 (a + b)).length ≤ L + 1 := by
  rw [len4] at *
  rw [Nat.pow_succ]
  have : 0 < 10000 ^ L := Nat.pow_pos (by decide)
  omega
theorem lit_nt (W : World) (g : Nat) (h : 0 < g) (h9 : g < 10000) : Nt (W.alloc (.cells #[.int .i64 (g : Int)] 3)) (.slice (some ⟨W.heap.size, 0, none⟩) 1 1) g := by
  have e : dz 10000 g = [(g : Int)] := by
    rw [dz_pos 10000 (by decide) g (by omega), Nat.div_eq_of_lt h9, dz_zero, Nat.mod_eq_of_lt h9]
  unfold Nt
  rw [e]
  exact lit_ls1 W g

set_option maxRecDepth 100000 in
set_option maxHeartbeats 2000000 in
theorem root_nt (w : World) (v1 : Value) (n s : Nat) (h1 : Nt w v1 n) (hn : (dz 10000 n).length ≤ 2000) (hs1 : s * s ≤ n) (hs2 : n < (s + 1) * (s + 1)) :
    Calls Tryz.prog 48 #[v1] w (NtOut w s) := by
  by_cases hn0 : n = 0
  · have hs0 : s = 0 := by
      rcases Nat.eq_zero_or_pos s with h | h
      · exact h
      · have := Nat.mul_pos h h; omega
    have hl0 : (dz 10000 n).length = 0 := by rw [hn0, dz_zero]; rfl
    obtain ⟨al, c, rfl⟩ := h1.shape
    rw [hl0, hs0]
    clear h1 hn hs1 hs2 hl0
    go_enter Tryz.func48, Tryz.ntmps48
    go_wp2
    go_ret
    exact ⟨_, rfl, Nt.zero _, Below.refl _ _⟩
  · have hs0 : 0 < s := by
      rcases Nat.eq_zero_or_pos s with h | h
      · subst h; omega
      · exact h
    have hl0 : 0 < (dz 10000 n).length := (dz_length_pos 10000 (by decide) n).2 hn0
    obtain ⟨L, hL⟩ : ∃ L, (dz 10000 n).length = L := ⟨_, rfl⟩
    obtain ⟨kk, hkk⟩ : ∃ kk, (L + 1) / 2 = kk := ⟨_, rfl⟩
    have HST := Lib.hid (root_start n s L hL hs1)
    rw [hkk] at HST
    have hkb : kk ≤ 1001 := by omega
    have hLe : ((L : Int) + 1) / 2 = (kk : Int) := by omega
    clear hkk
    have HS1 := Lib.hid hs1; have HS2 := Lib.hid hs2; have HL := Lib.hid hL; have HNN := Lib.hid hn
    obtain ⟨al, c, rfl⟩ := h1.shape
    have H1 := Lib.hid h1
    rw [hL] at hn hl0 H1 ⊢
    have C1 := Lib.hid (shifted_nt (w.alloc (.cells #[.int .i64 1] 3)) (.slice (some ⟨w.heap.size, 0, none⟩) 1 1) 1 kk (lit_nt w 1 (by decide) (by decide)) (by have : (dz 10000 1).length ≤ 1 := (len4 1 1).2 (by decide); omega) (by omega))
    have HB0 := Lib.hid ((Below.refl w.heap.size w).alloc (Nat.le_refl _) (.cells #[.int .i64 1] 3))
    clear h1 hL hs1 hs2 hn0
    go_enter Tryz.func48, Tryz.ntmps48
    go_wp2_with (go_at_call 70; refine C1.out.mono ?_; rintro e w1 ⟨v1, rfl, hv1, hb1⟩; have HV1 := Lib.hid hv1; have HB1 := Lib.hid (HB0.out.trans (hb1.mono HB0.out.size)); clear hv1 hb1)
    go_loopg [3] (1 * 10000 ^ kk) (fun k u wr => RootR w (.slice al L c) n s k u wr)
    case atStart => exact ⟨Nt.below H1.out (Nat.le_refl _) HB1.out, HV1.out, by rw [Nat.one_mul]; exact HST.out, Nat.mul_pos (by decide) (Nat.pow_pos (by decide)), by have := pow_len kk; omega, HB1.out⟩
    case round =>
      obtain ⟨ha, hk, hsk, hk0, hlk, hB⟩ := hrel
      obtain ⟨alk, ck, rfl⟩ := hk.shape
      have HA := Lib.hid ha; have HK := Lib.hid hk; have HB := Lib.hid hB; have HLK := Lib.hid hlk
      have hql : (dz 10000 (n / gk)).length ≤ 2100 := Nat.le_trans (dz_length_mono 10000 (by decide) _ _ (Nat.div_le_self _ _)) (by have := HNN.out; omega)
      have hsl := sum_len gk (n / gk) 2100 hlk hql
      have hnl : (dz 10000 ((gk + n / gk) / 2)).length ≤ 2101 := Nat.le_trans (dz_length_mono 10000 (by decide) _ _ (Nat.div_le_self _ _)) hsl
      have HNG := Lib.hid (newton_ge n gk s HS1.out hk0)
      have HNE := Lib.hid (newton_end n gk s HS2.out hk0 hsk)
      have C2 := Lib.hid (dividedBy_nt wr _ _ n gk ha hk hk0 (by have := HNN.out; omega) (by omega))
      have C3 := Lib.hid (fun W v (hW : Below wr.heap.size wr W) (hv : Nt W v (n / gk)) => plus_nt W _ v gk (n / gk) (Nt.below hk (Nat.le_refl _) hW) hv (by omega) (by omega))
      have C4 := Lib.hid (fun W v1 v2 (h1 : Nt W v1 (gk + n / gk)) (h2 : Nt W v2 2) => dividedBy_nt W v1 v2 (gk + n / gk) 2 h1 h2 (by decide) (by omega) (by have : (dz 10000 2).length ≤ 1 := (len4 2 1).2 (by decide); omega))
      have C5 := Lib.hid (fun W v (hW : Below wr.heap.size wr W) (hv : Nt W v ((gk + n / gk) / 2)) => compare_nt W v _ ((gk + n / gk) / 2) gk hv (Nt.below hk (Nat.le_refl _) hW) (by omega) (by omega))
      obtain ⟨nx, hnx⟩ : ∃ nx, (gk + n / gk) / 2 = nx := ⟨_, rfl⟩
      rw [hnx] at HNG HNE C5 hnl
      have HNX := Lib.hid hnx
      obtain ⟨K, hK⟩ : ∃ K, (dz 10000 gk).length = K := ⟨_, rfl⟩
      have HKK := Lib.hid hK
      rw [hK] at C2 C3 C5 HK ⊢
      obtain ⟨q, hq⟩ : ∃ q, n / gk = q := ⟨_, rfl⟩
      have HQ := Lib.hid hq
      rw [hq] at C3 C4
      clear ha hk hB hlk hnx hK hql hsl hq HV1 C1
      have hbs := HB.out.size
      have HSX := Lib.hid (show (gk + q) / 2 = nx by rw [← HQ.out]; exact HNX.out)
      by_cases hlt : nx < gk
      · have hcmp : cmpN nx gk = -1 := by unfold cmpN; rw [if_pos hlt]
        rw [hcmp] at C5
        go_wp2_with (first
          | (go_at_call 61; (with_reducible refine C2.out.mono ?_); rintro e w2 ⟨v2, v3, rfl, hv2, hv3, hb2⟩; have HV2 := Lib.hid hv2; have HB2 := Lib.hid hb2; have HB3 := Lib.hid (HB.out.trans (hb2.mono HB.out.size)); clear hv2 hv3 hb2)
          | (go_at_call 56; (with_reducible refine (C3.out _ _ HB2.out (by rw [HQ.out] at HV2; exact HV2.out)).mono ?_); rintro e w3 ⟨v4, rfl, hv4, hb4⟩; have HB4 := Lib.hid (HB2.out.trans (hb4.mono HB2.out.size)); have HV5 := Lib.hid (Nt.below hv4 (Nat.le_refl _) ((Below.refl w3.heap.size w3).alloc (Nat.le_refl _) (.cells #[.int .i64 2] 3))); have HB5 := Lib.hid (HB4.out.trans (((Below.refl w3.heap.size w3).alloc (Nat.le_refl _) (.cells #[.int .i64 2] 3)).mono HB4.out.size)); clear hv4 hb4)
          | (go_at_call 61; (with_reducible refine (C4.out _ _ _ HV5.out (lit_nt w3 2 (by decide) (by decide))).mono ?_); rintro e w6 ⟨v6, v7, rfl, hv6, hv7, hb6⟩; rw [HSX.out] at hv6; have HV6 := Lib.hid hv6; have HB6 := Lib.hid (HB5.out.trans (hb6.mono HB5.out.size)); clear hv6 hv7 hb6)
          | (go_at_call 57; (with_reducible refine (C5.out _ _ HB6.out HV6.out).mono ?_); rintro e w7 ⟨rfl, hb7⟩; have HV7 := Lib.hid (Nt.below HV6.out (Nat.le_refl _) hb7); have HB7 := Lib.hid (HB6.out.trans (hb7.mono HB6.out.size)); clear hb7))
        go_roundg nx
        case measure => exact hlt
        case rel => exact ⟨Nt.below HA.out (Nat.le_refl _) HB7.out, HV7.out, HNG.out, by have := HNG.out; omega, by rw [len4]; have h9 := HLK.out; rw [len4] at h9; omega, HB.out.trans (HB7.out.mono HB.out.size)⟩
      · obtain ⟨cz, hcz⟩ : ∃ cz, cmpN nx gk = cz := ⟨_, rfl⟩
        have hc0 : 0 ≤ cz := by rw [← hcz]; unfold cmpN; rw [if_neg hlt]; split <;> decide
        rw [hcz] at C5
        clear hcz
        go_wp2_with (first
          | (go_at_call 61; (with_reducible refine C2.out.mono ?_); rintro e w2 ⟨v2, v3, rfl, hv2, hv3, hb2⟩; have HV2 := Lib.hid hv2; have HB2 := Lib.hid hb2; have HB3 := Lib.hid (HB.out.trans (hb2.mono HB.out.size)); clear hv2 hv3 hb2)
          | (go_at_call 56; (with_reducible refine (C3.out _ _ HB2.out (by rw [HQ.out] at HV2; exact HV2.out)).mono ?_); rintro e w3 ⟨v4, rfl, hv4, hb4⟩; have HB4 := Lib.hid (HB2.out.trans (hb4.mono HB2.out.size)); have HV5 := Lib.hid (Nt.below hv4 (Nat.le_refl _) ((Below.refl w3.heap.size w3).alloc (Nat.le_refl _) (.cells #[.int .i64 2] 3))); have HB5 := Lib.hid (HB4.out.trans (((Below.refl w3.heap.size w3).alloc (Nat.le_refl _) (.cells #[.int .i64 2] 3)).mono HB4.out.size)); clear hv4 hb4)
          | (go_at_call 61; (with_reducible refine (C4.out _ _ _ HV5.out (lit_nt w3 2 (by decide) (by decide))).mono ?_); rintro e w6 ⟨v6, v7, rfl, hv6, hv7, hb6⟩; rw [HSX.out] at hv6; have HV6 := Lib.hid hv6; have HB6 := Lib.hid (HB5.out.trans (hb6.mono HB5.out.size)); clear hv6 hv7 hb6)
          | (go_at_call 57; (with_reducible refine (C5.out _ _ HB6.out HV6.out).mono ?_); rintro e w7 ⟨rfl, hb7⟩; have HV7 := Lib.hid (Nt.below HV6.out (Nat.le_refl _) hb7); have HB7 := Lib.hid (HB6.out.trans (hb7.mono HB6.out.size)); clear hb7))
        go_ret
        have hgs : gk = s := HNE.out (by omega)
        refine ⟨_, rfl, ?_, HB.out.trans (HB7.out.mono HB.out.size)⟩
        rw [← hgs]
        exact Nt.below HK.out (Nat.le_refl _) HB7.out
end Go.Proofs.YtebjjgbdiabapaaGreatDoor
