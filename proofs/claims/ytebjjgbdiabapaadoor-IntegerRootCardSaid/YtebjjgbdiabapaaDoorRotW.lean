/- The walk of IntegerRoot. -/
import Derived.Test.YtebjjgbdiabapaaDoorOrdW
namespace Go.Proofs.YtebjjgbdiabapaaDoor
open Go.RowKit

theorem sqr_sq (n : Nat) : sqr (n * n) = n := root_unique (n * n) _ _ (sqr_le _) (lt_sqr _) (Nat.le_refl _) (by rw [Nat.add_mul, Nat.mul_add]; omega)
theorem sqr_self_le (n : Nat) : sqr n ≤ n := by
  have h3 := sqr_le n
  rcases Nat.eq_zero_or_pos (sqr n) with h | h
  · omega
  · exact Nat.le_trans (Nat.le_mul_of_pos_left _ h) h3
set_option maxRecDepth 100000 in
set_option maxHeartbeats 8000000 in
theorem root_walk (a : ByteArray) (hsa : a.size ≤ 9223372036854775807) (w : World) (ht : Tb w) : Calls Tryd.prog 6 #[.string a] w fun e w' => e = .returned (.bool true) ∧ Below w.heap.size w w' := by
  have HT := Lib.hid (fun W (hW : Below w.heap.size w W) => ht.below hW)
  have CSN := Lib.hid (sane_any w ht)
  clear ht
  go_enter Tryd.func6, Tryd.ntmps6
  go_wp2_with fail
  (with_reducible refine (CSN.out).mono ?_)
  rintro e w1 ⟨rfl, hb⟩
  have HB1 := Lib.hid ((Below.refl w.heap.size w).trans (hb.mono (Below.refl w.heap.size w).size))
  clear hb
  go_wp2_with fail
  (with_reducible refine (made_at a 80 80 rfl (by decide) _ hsa).mono ?_)
  rintro e w2 ⟨X, hmX, rfl, hb⟩
  have HB2 := Lib.hid (HB1.out.trans (hb.mono HB1.out.size))
  clear hb
  have sX : Sm 80 X := hmX
  have mX := sX.mul sX
  have hsq : sqr (X * X).natAbs = X.natAbs := by rw [Int.natAbs_mul]; exact sqr_sq _
  have hxx : 0 ≤ X * X := by
    rcases Int.le_total 0 X with h | h
    · exact Int.mul_nonneg h h
    · exact Int.mul_nonneg_of_nonpos_of_nonpos h h
  rcases Int.lt_or_le X 0 with h0 | h0
  · have hne := str_ne (show ((X.natAbs : Nat) : Int) ≠ X by omega)
    have hne2 : ((str ((X.natAbs : Nat) : Int)).toList != (str X).toList) = true := by unfold bne; rw [hne]; rfl
    have sA : Sm 80 ((X.natAbs : Nat) : Int) := hmX
    have b0 : Big (((X.natAbs : Nat) : Int) + X) := by rw [show ((X.natAbs : Nat) : Int) + X = 0 by omega]; exact big0
    have e0 : ((X.natAbs : Nat) : Int) + X = 0 := by omega
    obtain ⟨x, hx⟩ : ∃ ttt, str (X) = ttt := ⟨_, rfl⟩
    obtain ⟨m, hm⟩ : ∃ ttt, str (X * X) = ttt := ⟨_, rfl⟩
    obtain ⟨sz, hsz⟩ : ∃ ttt, str (((X.natAbs : Nat) : Int)) = ttt := ⟨_, rfl⟩
    rw [hx, hsz] at hne hne2
    have C1 := Lib.hid (fun W (hW : Below w.heap.size w W) => root_none (sX.big (by decide)) h0 W (HT.out W hW))
    rw [hx] at C1
    have C2 := Lib.hid (fun W (hW : Below w.heap.size w W) => mul_str (sX.big (by decide)) (sX.big (by decide)) (mX.big (by decide)) W (HT.out W hW))
    rw [hx, hm] at C2
    have C3 := Lib.hid (fun W (hW : Below w.heap.size w W) => root_str (mX.big (by decide)) hxx W (HT.out W hW))
    rw [hm, hsq, hsz] at C3
    have C4 := Lib.hid (fun W (hW : Below w.heap.size w W) => add_str (sA.big (by decide)) (sX.big (by decide)) b0 W (HT.out W hW))
    rw [hx, hsz, e0, ← str0] at C4
    have C5 := Lib.hid (fun W (hW : Below w.heap.size w W) => cmp_str (sX.big (by decide)) big0 W)
    rw [hx, ← str0, cmpZ_lt h0] at C5
    rw [hx]
    clear hx hm hsz sX mX hsq hxx sA b0 e0 h0 hmX
    go_wp2_with fail
    (with_reducible refine (C1.out _ HB2.out).mono ?_)
    rintro e w3 ⟨rfl, hb⟩
    have HB3 := Lib.hid (HB2.out.trans (hb.mono HB2.out.size))
    clear hb
    go_wp2_with fail
    (with_reducible refine (C2.out _ HB3.out).mono ?_)
    rintro e w4 ⟨rfl, hb⟩
    have HB4 := Lib.hid (HB3.out.trans (hb.mono HB3.out.size))
    clear hb
    go_wp2_with fail
    (with_reducible refine (C3.out _ HB4.out).mono ?_)
    rintro e w5 ⟨rfl, hb⟩
    have HB5 := Lib.hid (HB4.out.trans (hb.mono HB4.out.size))
    clear hb
    go_wp2_with fail
    (with_reducible refine (C4.out _ HB5.out).mono ?_)
    rintro e w6 ⟨rfl, hb⟩
    have HB6 := Lib.hid (HB5.out.trans (hb.mono HB5.out.size))
    clear hb
    go_wp2_with fail
    (with_reducible refine (C5.out _ HB6.out).mono ?_)
    rintro e w7 ⟨rfl, hb⟩
    have HB7 := Lib.hid (HB6.out.trans (hb.mono HB6.out.size))
    clear hb
    go_wp2
    go_ret
    exact ⟨rfl, HB7.out⟩
  · have hab : ((X.natAbs : Nat) : Int) = X := by omega
    obtain ⟨s, hs⟩ : ∃ s, sqr X.natAbs = s := ⟨_, rfl⟩
    have hs1 := sqr_le X.natAbs
    have hs2 := lt_sqr X.natAbs
    have hs3 := sqr_self_le X.natAbs
    rw [hs] at hs1 hs2 hs3
    have sS : Sm 80 ((s : Nat) : Int) := by unfold Sm at *; omega
    have sAd := sX.add sX
    have sLo := sS.mul sS
    have sNx : Sm 81 (((s : Nat) : Int) + 1) := by unfold Sm at *; omega
    have sHi := sNx.mul sNx
    have hdn : ((s : Nat) : Int) * s ≤ X := by rw [← Int.natCast_mul]; omega
    have hup : X < (((s : Nat) : Int) + 1) * (((s : Nat) : Int) + 1) := by rw [show ((s : Nat) : Int) + 1 = ((s + 1 : Nat) : Int) from rfl, ← Int.natCast_mul]; omega
    obtain ⟨x, hx⟩ : ∃ ttt, str (X) = ttt := ⟨_, rfl⟩
    obtain ⟨m, hm⟩ : ∃ ttt, str (X * X) = ttt := ⟨_, rfl⟩
    obtain ⟨r, hr⟩ : ∃ ttt, str (((s : Nat) : Int)) = ttt := ⟨_, rfl⟩
    obtain ⟨ad, had⟩ : ∃ ttt, str (X + X) = ttt := ⟨_, rfl⟩
    obtain ⟨lo, hlo⟩ : ∃ ttt, str (((s : Nat) : Int) * s) = ttt := ⟨_, rfl⟩
    obtain ⟨nx, hnx⟩ : ∃ ttt, str (((s : Nat) : Int) + 1) = ttt := ⟨_, rfl⟩
    obtain ⟨hi, hhi⟩ : ∃ ttt, str ((((s : Nat) : Int) + 1) * (((s : Nat) : Int) + 1)) = ttt := ⟨_, rfl⟩
    obtain ⟨cz, hcz⟩ : ∃ cz, cmpZ X 0 = cz := ⟨_, rfl⟩
    have hcz0 : 0 ≤ cz := by rw [← hcz]; exact cmpZ_ge h0
    obtain ⟨cl, hcl⟩ : ∃ cl, cmpZ (((s : Nat) : Int) * s) X = cl := ⟨_, rfl⟩
    have hcl0 : cl ≤ 0 := by rw [← hcl]; exact cmpZ_le hdn
    have C1 := Lib.hid (fun W (hW : Below w.heap.size w W) => root_str (sX.big (by decide)) h0 W (HT.out W hW))
    rw [hx, hs, hr] at C1
    have C2 := Lib.hid (fun W (hW : Below w.heap.size w W) => mul_str (sX.big (by decide)) (sX.big (by decide)) (mX.big (by decide)) W (HT.out W hW))
    rw [hx, hm] at C2
    have C3 := Lib.hid (fun W (hW : Below w.heap.size w W) => root_str (mX.big (by decide)) hxx W (HT.out W hW))
    rw [hm, hsq, hab, hx] at C3
    have C4 := Lib.hid (fun W (hW : Below w.heap.size w W) => add_str (sX.big (by decide)) (sX.big (by decide)) (sAd.big (by decide)) W (HT.out W hW))
    rw [hx, had] at C4
    have C5 := Lib.hid (fun W (hW : Below w.heap.size w W) => cmp_str (sX.big (by decide)) big0 W)
    rw [hx, ← str0, hcz] at C5
    have C6 := Lib.hid (fun W (hW : Below w.heap.size w W) => mul_str (sS.big (by decide)) (sS.big (by decide)) (sLo.big (by decide)) W (HT.out W hW))
    rw [hr, hlo] at C6
    have C7 := Lib.hid (fun W (hW : Below w.heap.size w W) => add_str (sS.big (by decide)) big1 (sNx.big (by decide)) W (HT.out W hW))
    rw [hr, hnx, ← str1] at C7
    have C8 := Lib.hid (fun W (hW : Below w.heap.size w W) => mul_str (sNx.big (by decide)) (sNx.big (by decide)) (sHi.big (by decide)) W (HT.out W hW))
    rw [hnx, hhi] at C8
    have C9 := Lib.hid (fun W (hW : Below w.heap.size w W) => cmp_str (sLo.big (by decide)) (sX.big (by decide)) W)
    rw [hlo, hx, hcl] at C9
    have C10 := Lib.hid (fun W (hW : Below w.heap.size w W) => cmp_str (sHi.big (by decide)) (sX.big (by decide)) W)
    rw [hhi, hx, cmpZ_gt hup] at C10
    rw [hx]
    clear hx hm hr had hlo hnx hhi hdn hup sX mX hsq hxx sS sAd sLo sNx sHi hab hs hs1 hs2 hs3 hcz hcl h0 hmX
    go_wp2_with fail
    (with_reducible refine (C1.out _ HB2.out).mono ?_)
    rintro e w3 ⟨rfl, hb⟩
    have HB3 := Lib.hid (HB2.out.trans (hb.mono HB2.out.size))
    clear hb
    go_wp2_with fail
    (with_reducible refine (C2.out _ HB3.out).mono ?_)
    rintro e w4 ⟨rfl, hb⟩
    have HB4 := Lib.hid (HB3.out.trans (hb.mono HB3.out.size))
    clear hb
    go_wp2_with fail
    (with_reducible refine (C3.out _ HB4.out).mono ?_)
    rintro e w5 ⟨rfl, hb⟩
    have HB5 := Lib.hid (HB4.out.trans (hb.mono HB4.out.size))
    clear hb
    go_wp2_with fail
    (with_reducible refine (C4.out _ HB5.out).mono ?_)
    rintro e w6 ⟨rfl, hb⟩
    have HB6 := Lib.hid (HB5.out.trans (hb.mono HB5.out.size))
    clear hb
    go_wp2_with fail
    (with_reducible refine (C5.out _ HB6.out).mono ?_)
    rintro e w7 ⟨rfl, hb⟩
    have HB7 := Lib.hid (HB6.out.trans (hb.mono HB6.out.size))
    clear hb
    go_wp2_with fail
    (with_reducible refine (C6.out _ HB7.out).mono ?_)
    rintro e w8 ⟨rfl, hb⟩
    have HB8 := Lib.hid (HB7.out.trans (hb.mono HB7.out.size))
    clear hb
    go_wp2_with fail
    (with_reducible refine (C7.out _ HB8.out).mono ?_)
    rintro e w9 ⟨rfl, hb⟩
    have HB9 := Lib.hid (HB8.out.trans (hb.mono HB8.out.size))
    clear hb
    go_wp2_with fail
    (with_reducible refine (C8.out _ HB9.out).mono ?_)
    rintro e w10 ⟨rfl, hb⟩
    have HB10 := Lib.hid (HB9.out.trans (hb.mono HB9.out.size))
    clear hb
    go_wp2_with fail
    (with_reducible refine (C9.out _ HB10.out).mono ?_)
    rintro e w11 ⟨rfl, hb⟩
    have HB11 := Lib.hid (HB10.out.trans (hb.mono HB10.out.size))
    clear hb
    go_wp2_with fail
    (with_reducible refine (C10.out _ HB11.out).mono ?_)
    rintro e w12 ⟨rfl, hb⟩
    have HB12 := Lib.hid (HB11.out.trans (hb.mono HB11.out.size))
    clear hb
    go_wp2
    go_ret
    exact ⟨rfl, HB12.out⟩
end Go.Proofs.YtebjjgbdiabapaaDoor
