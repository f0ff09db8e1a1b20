/- Integer layer, merged: Rdc. -/
import Derived.Test.YtcjcafekacceiaaGreatDoorRdb
import Derived.Test.YtcjcafekacceiaaGreatDoorH
/-! Merged of Rxd, Rxr, Rxi. -/
/-! The reference's Div, walked. -/
namespace Go.Proofs.YtcjcafekacceiaaGreatDoor
open Go.RowKit

theorem is0 {b : ByteArray} (h : vS b = true) (h0 : nS b = 0) : (b.toList == [48]) = true := by
  have e := str_nS h
  rw [h0] at e
  rw [e, ByteArray.toList_eq, str_data]; decide +kernel
theorem no0 {b : ByteArray} (h : vS b = true) (h0 : nS b ≠ 0) : (b.toList == [48]) = false := by
  have e := str_nS h
  rw [beq_eq_false_iff_ne, ByteArray.toList_eq]
  intro h2
  refine h0 (shw_inj _ 0 ?_)
  rw [← str_data, ← e, h2]; decide +kernel
theorem dz_one10 : dz 10 1 = [1] := by decide +kernel
theorem lit_dt (w : World) : Dt (w.alloc (.cells #[.int .i64 1] 3)) (.slice (some ⟨w.heap.size, 0, none⟩) 1 1) 1 := by
  unfold Dt
  rw [dz_one10]
  exact Ls.own (lit_row w 1) [1] rfl

set_option maxRecDepth 100000 in
set_option maxHeartbeats 4000000 in
theorem rdiv_any (a b : ByteArray) (w : World) (ha : a.size ≤ 9223372036854775807) (hb : b.size ≤ 9223372036854775807) :
    Calls Tryz.prog 52 #[.string a, .string b] w (DivsOut w (divQ a b) (divR a b) (divE a b)) := by
  have CA := Lib.hid (fun W => rvalid_any a W ha)
  have CB := Lib.hid (fun W => rvalid_any b W hb)
  cases hva : vS a with
  | false =>
    rw [hva] at CA
    rw [show divQ a b = ⟨#[]⟩ from by unfold divQ divV; rw [hva]; rfl, show divR a b = ⟨#[]⟩ from by unfold divR divV; rw [hva]; rfl, show divE a b = 30 from by unfold divE divV; rw [hva]; rfl]
    clear hva
    go_enter Tryz.func52, Tryz.ntmps52
    go_wp2_with fail
    (with_reducible refine (CA.out _).mono ?_)
    rintro e w1 ⟨rfl, rfl⟩
    go_wp2
    refine bodyPost_ret (v := .tuple #[.string ⟨#[]⟩, .string ⟨#[]⟩, .int .i64 30]) (by simp [results, Tryz.results52, go_sem]) rfl ?_
    exact ⟨rfl, Below.refl _ _⟩
  | true =>
    cases hvb : vS b with
    | false =>
      rw [hva] at CA
      rw [hvb] at CB
      rw [show divQ a b = ⟨#[]⟩ from by unfold divQ divV; rw [hva, hvb]; rfl, show divR a b = ⟨#[]⟩ from by unfold divR divV; rw [hva, hvb]; rfl, show divE a b = 30 from by unfold divE divV; rw [hva, hvb]; rfl]
      clear hva hvb
      go_enter Tryz.func52, Tryz.ntmps52
      go_wp2_with fail
      (with_reducible refine (CA.out _).mono ?_)
      rintro e w1 ⟨rfl, rfl⟩
      go_wp2_with fail
      (with_reducible refine (CB.out _).mono ?_)
      rintro e w2 ⟨rfl, rfl⟩
      go_wp2
      refine bodyPost_ret (v := .tuple #[.string ⟨#[]⟩, .string ⟨#[]⟩, .int .i64 30]) (by simp [results, Tryz.results52, go_sem]) rfl ?_
      exact ⟨rfl, Below.refl _ _⟩
    | true =>
      by_cases h0 : nS b = 0
      · have hbz := is0 hvb h0
        rw [hva] at CA
        rw [hvb] at CB
        rw [show divQ a b = ⟨#[]⟩ from by unfold divQ divV; rw [hva, hvb, h0]; rfl, show divR a b = ⟨#[]⟩ from by unfold divR divV; rw [hva, hvb, h0]; rfl, show divE a b = 30 from by unfold divE divV; rw [hva, hvb, h0]; rfl]
        clear hva hvb h0
        go_enter Tryz.func52, Tryz.ntmps52
        go_wp2_with fail
        (with_reducible refine (CA.out _).mono ?_)
        rintro e w1 ⟨rfl, rfl⟩
        go_wp2_with fail
        (with_reducible refine (CB.out _).mono ?_)
        rintro e w2 ⟨rfl, rfl⟩
        go_wp2
        refine bodyPost_ret (v := .tuple #[.string ⟨#[]⟩, .string ⟨#[]⟩, .int .i64 30]) (by simp [results, Tryz.results52, go_sem]) rfl ?_
        exact ⟨rfl, Below.refl _ _⟩
      · have hbz := no0 hvb h0
        have CD1 := Lib.hid (fun W => rdigits_at a hva W)
        have CD2 := Lib.hid (fun W => rdigits_at b hvb W)
        rw [hva] at CA
        rw [hvb] at CB
        have hdv : divV a b = true := by unfold divV; rw [hva, hvb]; simp [h0]
        rw [show divQ a b = str (nS a / nS b) from by unfold divQ; rw [hdv]; rfl, show divR a b = str (nS a % nS b) from by unfold divR; rw [hdv]; rfl, show divE a b = 0 from by unfold divE; rw [hdv]; rfl]
        have hbq := big_div (nS a) (nS b) (nS_big a)
        clear hva hvb hdv
        have hx := big_len10 (nS_big a)
        have hy := big_len10 (nS_big b)
        obtain ⟨x, hxx⟩ : ∃ x, nS a = x := ⟨_, rfl⟩
        obtain ⟨y, hyy⟩ : ∃ y, nS b = y := ⟨_, rfl⟩
        rw [hxx] at CD1 hx hbq
        rw [hyy] at CD2 hy hbq h0
        rw [hxx, hyy]
        clear hxx hyy
        have hy1 : 0 < y.natAbs := by omega
        have CV := Lib.hid (fun W v1 v2 (h1 : Dt W v1 x.natAbs) (h2 : Dt W v2 y.natAbs) => rdivided_dt W v1 v2 _ _ h1 h2 hy1 (by omega) (by omega))
        have hql : (dz 10 (x.natAbs / y.natAbs)).length ≤ 200 := Nat.le_trans (len_mono10 (Nat.div_le_self _ _)) hx
        have hrl : (dz 10 (x.natAbs % y.natAbs)).length ≤ 200 := Nat.le_trans (len_mono10 (Nat.le_of_lt (Nat.mod_lt _ hy1))) hy
        have hrp := dz_length_pos 10 (by decide) (x.natAbs % y.natAbs)
        have hre := rem_nat x y h0
        have hsr : sgn false (x % y).natAbs = x % y := by unfold sgn; simpa using hre.symm
        have CT := Lib.hid (fun W v (h : Dt W v (x % y).natAbs) => rtext_any W false v _ h (by
          have h2 := Int.emod_lt x h0
          have h3 := Int.emod_nonneg x h0
          have h4 := len_mono10 (show (x % y).natAbs ≤ y.natAbs by omega)
          omega))
        rw [hsr] at CT
        by_cases hc : x < 0 ∧ x.natAbs % y.natAbs ≠ 0
        · obtain ⟨hq, hr⟩ := div_more x y h0 hc.1 hc.2
          have hL0 := hrp.2 hc.2
          have hle : x.natAbs % y.natAbs ≤ y.natAbs := Nat.le_of_lt (Nat.mod_lt _ hy1)
          have hl1 := len_add10 (x.natAbs / y.natAbs) 1 200 hql (by rw [dz_one10]; decide)
          have CK := Lib.hid (fun W v (h : Dt W v (x.natAbs / y.natAbs + 1)) => rchecked_any W (!decide (x < 0) == decide (y < 0)) v _ h (by omega))
          rw [hq, resS_ok hbq, resE_ok hbq] at CK
          have CP := Lib.hid (fun W v (h : Dt W v (x.natAbs / y.natAbs)) => rplus_dt (W.alloc (.cells #[.int .i64 1] 3)) v (.slice (some ⟨W.heap.size, 0, none⟩) 1 1) _ 1 (h.below (Nat.le_refl _) ((Below.refl W.heap.size W).alloc (Nat.le_refl _) _)) (lit_dt W) (by omega) (by rw [dz_one10]; decide))
          have CM := Lib.hid (fun W v1 v2 (h1 : Dt W v1 y.natAbs) (h2 : Dt W v2 (x.natAbs % y.natAbs)) => rminus_dt W v1 v2 _ _ h1 h2 (by omega) hle)
          rw [hr] at CM
          have hbx' : decide (x < 0) = true := by simpa using hc.1
          have H0X := Lib.hid hbx'
          clear hq hr hle hl1 hrl hql hre hsr hbq hrp hc hbx' h0 hy1
          go_enter Tryz.func52, Tryz.ntmps52
          go_wp2_with fail
          (with_reducible refine (CA.out _).mono ?_)
          rintro e w1 ⟨rfl, rfl⟩
          go_wp2_with fail
          (with_reducible refine (CB.out _).mono ?_)
          rintro e w2 ⟨rfl, rfl⟩
          go_wp2_with fail
          (with_reducible refine (CD1.out _).mono ?_)
          rintro e w3 ⟨v3, rfl, hv3, hb3⟩
          have HV3 := Lib.hid hv3; have HB3 := Lib.hid hb3
          clear hv3 hb3
          go_wp2_with fail
          (with_reducible refine (CD2.out _).mono ?_)
          rintro e w4 ⟨v4, rfl, hv4, hb4⟩
          have HV4 := Lib.hid hv4; have HV3' := Lib.hid (HV3.out.below (Nat.le_refl _) hb4); have HB4 := Lib.hid (HB3.out.trans (hb4.mono HB3.out.size))
          clear hv4 hb4
          obtain ⟨bx, hbx⟩ : ∃ bx, decide (x < 0) = bx := ⟨_, rfl⟩
          obtain ⟨by', hby⟩ : ∃ by', decide (y < 0) = by' := ⟨_, rfl⟩
          rw [hbx, hby] at CK
          rw [hby]
          obtain rfl : bx = true := by rw [← hbx]; exact H0X.out
          rw [show (!(true == by')) = !by' from by cases by' <;> rfl] at CK
          clear hby
          go_wp2_with fail
          clear hbx
          (with_reducible refine (CV.out _ _ _ HV3'.out HV4.out).mono ?_)
          rintro e w5 ⟨q5, r5, rfl, hq5, hr5, hb5⟩
          have HQ5 := Lib.hid hq5; have HR5 := Lib.hid hr5; have HV4' := Lib.hid (HV4.out.below (Nat.le_refl _) hb5); have HB5 := Lib.hid (HB4.out.trans (hb5.mono HB4.out.size))
          clear hq5 hr5 hb5
          obtain ⟨alr, cr, rfl⟩ := HR5.out.shape
          obtain ⟨LR, hLR⟩ : ∃ LR, (dz 10 (x.natAbs % y.natAbs)).length = LR := ⟨_, rfl⟩
          rw [hLR] at hL0 HR5 ⊢
          clear hLR
          go_wp2_with fail
          have HA := Lib.hid ((Below.refl w5.heap.size w5).alloc (Nat.le_refl _) (.cells #[.int .i64 1] 3))
          have HB5' := Lib.hid (HB5.out.trans (HA.out.mono HB5.out.size))
          (with_reducible refine (CP.out _ _ HQ5.out).mono ?_)
          rintro e w6 ⟨q6, rfl, hq6, hb6⟩
          have HQ6 := Lib.hid hq6; have HB6 := Lib.hid (HB5'.out.trans (hb6.mono HB5'.out.size)); have HV6 := Lib.hid ((HV4'.out.below (Nat.le_refl _) HA.out).below (Nat.le_refl _) hb6); have HR6 := Lib.hid ((HR5.out.below (Nat.le_refl _) HA.out).below (Nat.le_refl _) hb6)
          clear hq6 hb6
          go_wp2_with fail
          (with_reducible refine (CM.out _ _ _ HV6.out HR6.out).mono ?_)
          rintro e w7 ⟨r7, rfl, hr7, hb7⟩
          have HR7 := Lib.hid hr7; have HQ7 := Lib.hid (HQ6.out.below (Nat.le_refl _) hb7); have HB7 := Lib.hid (HB6.out.trans (hb7.mono HB6.out.size))
          clear hr7 hb7
          go_wp2_with fail
          (with_reducible refine (CK.out _ _ HQ7.out).mono ?_)
          rintro e w8 ⟨rfl, hb8⟩
          have HR8 := Lib.hid (HR7.out.below (Nat.le_refl _) hb8); have HB8 := Lib.hid (HB7.out.trans (hb8.mono HB7.out.size))
          clear hb8
          go_wp2_with fail
          (with_reducible refine (CT.out _ _ HR8.out).mono ?_)
          rintro e w9 ⟨rfl, hb9⟩
          have HB9 := Lib.hid (HB8.out.trans (hb9.mono HB8.out.size))
          clear hb9
          go_wp2
          refine bodyPost_ret (v := .tuple #[.string (str (x / y)), .string (str (x % y)), .int .i64 0]) (by simp [results, Tryz.results52, go_sem]) rfl ?_
          exact ⟨rfl, HB9.out⟩
        · obtain ⟨hq, hr⟩ := div_plain x y h0 hc
          have CK := Lib.hid (fun W v (h : Dt W v (x.natAbs / y.natAbs)) => rchecked_any W (!decide (x < 0) == decide (y < 0)) v _ h (by omega))
          rw [hq, resS_ok hbq, resE_ok hbq] at CK
          have hor : decide (x < 0) = false ∨ (dz 10 (x.natAbs % y.natAbs)).length = 0 := by
            by_cases hx0 : x < 0
            · right
              have : x.natAbs % y.natAbs = 0 := by
                by_cases hz : x.natAbs % y.natAbs = 0
                · exact hz
                · exact absurd ⟨hx0, hz⟩ hc
              rw [this, dz_zero]; rfl
            · left; simpa using hx0
          have HOR := Lib.hid hor
          have HRR := Lib.hid hr
          clear hq hr hrl hql hre hsr hbq hrp hc h0 hy1 hor
          go_enter Tryz.func52, Tryz.ntmps52
          go_wp2_with fail
          (with_reducible refine (CA.out _).mono ?_)
          rintro e w1 ⟨rfl, rfl⟩
          go_wp2_with fail
          (with_reducible refine (CB.out _).mono ?_)
          rintro e w2 ⟨rfl, rfl⟩
          go_wp2_with fail
          (with_reducible refine (CD1.out _).mono ?_)
          rintro e w3 ⟨v3, rfl, hv3, hb3⟩
          have HV3 := Lib.hid hv3; have HB3 := Lib.hid hb3
          clear hv3 hb3
          go_wp2_with fail
          (with_reducible refine (CD2.out _).mono ?_)
          rintro e w4 ⟨v4, rfl, hv4, hb4⟩
          have HV4 := Lib.hid hv4; have HV3' := Lib.hid (HV3.out.below (Nat.le_refl _) hb4); have HB4 := Lib.hid (HB3.out.trans (hb4.mono HB3.out.size))
          clear hv4 hb4
          obtain ⟨bx, hbx⟩ : ∃ bx, decide (x < 0) = bx := ⟨_, rfl⟩
          obtain ⟨by', hby⟩ : ∃ by', decide (y < 0) = by' := ⟨_, rfl⟩
          rw [hbx, hby] at CK
          rw [hby]
          have hor : bx = false ∨ (dz 10 (x.natAbs % y.natAbs)).length = 0 := by rw [← hbx]; exact HOR.out
          clear hby
          go_wp2_with fail
          clear hbx
          (with_reducible refine (CV.out _ _ _ HV3'.out HV4.out).mono ?_)
          rintro e w5 ⟨q5, r5, rfl, hq5, hr5, hb5⟩
          have HQ5 := Lib.hid hq5; have HR5 := Lib.hid hr5; have HV4' := Lib.hid (HV4.out.below (Nat.le_refl _) hb5); have HB5 := Lib.hid (HB4.out.trans (hb5.mono HB4.out.size))
          clear hq5 hr5 hb5
          obtain ⟨alr, cr, rfl⟩ := HR5.out.shape
          obtain ⟨LR, hLR⟩ : ∃ LR, (dz 10 (x.natAbs % y.natAbs)).length = LR := ⟨_, rfl⟩
          rw [hLR] at hor HR5 ⊢
          rw [HRR.out] at HR5
          clear hLR
          cases bx
          · clear hor
            rw [show (!(false == by')) = by' from by cases by' <;> rfl] at CK
            go_wp2_with fail
            (with_reducible refine (CK.out _ _ HQ5.out).mono ?_)
            rintro e w8 ⟨rfl, hb8⟩
            have HR8 := Lib.hid (HR5.out.below (Nat.le_refl _) hb8); have HB8 := Lib.hid (HB5.out.trans (hb8.mono HB5.out.size))
            clear hb8
            go_wp2_with fail
            (with_reducible refine (CT.out _ _ HR8.out).mono ?_)
            rintro e w9 ⟨rfl, hb9⟩
            have HB9 := Lib.hid (HB8.out.trans (hb9.mono HB8.out.size))
            clear hb9
            go_wp2
            refine bodyPost_ret (v := .tuple #[.string (str (x / y)), .string (str (x % y)), .int .i64 0]) (by simp [results, Tryz.results52, go_sem]) rfl ?_
            exact ⟨rfl, HB9.out⟩
          · obtain rfl : LR = 0 := hor.resolve_left (by decide)
            clear hor
            rw [show (!(true == by')) = !by' from by cases by' <;> rfl] at CK
            go_wp2_with fail
            (with_reducible refine (CK.out _ _ HQ5.out).mono ?_)
            rintro e w8 ⟨rfl, hb8⟩
            have HR8 := Lib.hid (HR5.out.below (Nat.le_refl _) hb8); have HB8 := Lib.hid (HB5.out.trans (hb8.mono HB5.out.size))
            clear hb8
            go_wp2_with fail
            (with_reducible refine (CT.out _ _ HR8.out).mono ?_)
            rintro e w9 ⟨rfl, hb9⟩
            have HB9 := Lib.hid (HB8.out.trans (hb9.mono HB8.out.size))
            clear hb9
            go_wp2
            refine bodyPost_ret (v := .tuple #[.string (str (x / y)), .string (str (x % y)), .int .i64 0]) (by simp [results, Tryz.results52, go_sem]) rfl ?_
            exact ⟨rfl, HB9.out⟩
end Go.Proofs.YtcjcafekacceiaaGreatDoor

namespace Go.Proofs.YtcjcafekacceiaaGreatDoor
open Go.RowKit
theorem head_minus {a : ByteArray} (h : vS a = true) : ∃ hS0 : 0 < a.size, (((a[0]'hS0).toNat : Int) == 45) = decide (nS a < 0) := by
  have e := str_nS h
  have hsd : a.data.toList = shw (nS a) := by rw [← str_data, ← e]
  have hsz : a.size = (shw (nS a)).length := by rw [← hsd]; rfl
  have hS0 : 0 < a.size := by rw [hsz]; exact shw_pos _
  refine ⟨hS0, ?_⟩
  rw [get_data a _ hsd 0 hS0 (shw_pos _)]
  by_cases hneg : nS a < 0
  · have esh : shw (nS a) = 45 :: txt (nS a).natAbs := by unfold shw; rw [if_pos hneg]
    simp [esh, hneg]
  · have esh : shw (nS a) = txt (nS a).natAbs := by unfold shw; rw [if_neg hneg]
    have h45 := txt_not_minus (nS a).natAbs
    rw [← esh, List.head?_eq_getElem?, List.getElem?_eq_getElem (shw_pos _)] at h45
    obtain ⟨c0, hc0⟩ : ∃ c0, (shw (nS a))[0]'(shw_pos _) = c0 := ⟨_, rfl⟩
    rw [hc0] at h45 ⊢
    have h46 : c0 ≠ 45 := fun e => h45 (by rw [e])
    have : c0.toNat ≠ 45 := fun e => h46 (UInt8.toNat_inj.1 e)
    simp [hneg]; omega

end Go.Proofs.YtcjcafekacceiaaGreatDoor

/-! The reference's FromInt and ToInt, walked. -/
namespace Go.Proofs.YtcjcafekacceiaaGreatDoor
open Go.RowKit

def FiR (w : World) (z m : Int) (k : Nat) (v : Value) (wr : World) : Prop :=
  ∃ gs : List Int, gs ++ dz 10 m.natAbs = dz 10 z.natAbs ∧ wr.ownsRow w.heap.size 3 1 v k (gs.map (Value.int .i64)) ∧ Below w.heap.size w wr
set_option maxRecDepth 100000 in
set_option maxHeartbeats 2000000 in
theorem rfromInt_any (z : Int) (h0 : -9223372036854775808 ≤ z) (h1 : z ≤ 9223372036854775807) (w : World) :
    Calls Tryz.prog 43 #[.int .i64 z] w fun e w' => e = .returned (.string (str z)) ∧ Below w.heap.size w w' := by
  obtain ⟨i0, hi, hz0, hz1, hz2⟩ := info_parts infoInt
  have hlen : (dz 10 z.natAbs).length ≤ 19 := (len10 _ _).2 (by omega)
  have HLEN := Lib.hid hlen
  have CT := Lib.hid (fun W v (h : Dt W v z.natAbs) => rtext_any W (decide (z < 0)) v _ h (by omega))
  rw [sgn_self] at CT
  clear hlen
  go_enter Tryz.func43, Tryz.ntmps43
  go_wp2
  go_loopw [3, 4] (fun v mv wr => ∃ (m : Int) (k : Nat), mv = .int .i64 m ∧ -9223372036854775808 ≤ m ∧ m ≤ 9223372036854775807 ∧ FiR w z m k v wr) (fun _ mv _ => (intOf mv).natAbs)
  case atStart => exact ⟨z, 0, rfl, h0, h1, [], rfl, World.ownsRow_nil _ _ _ _, Below.refl _ _⟩
  case round =>
    obtain ⟨m, k, rfl, hm0, hm1, gs, hgs, hrow, hB⟩ := hrel
    have HGS := Lib.hid hgs; have HB := Lib.hid hB
    have hBs := hB.size
    have hkl : gs.length = k := by have := hrow.1; simpa using this
    have hk19 : k ≤ 19 := by
      have := HLEN.out
      rw [← hgs, List.length_append] at this
      omega
    clear hgs hB
    by_cases hmz : m = 0
    · subst hmz
      have hDt := HGS.out
      rw [show (0 : Int).natAbs = 0 from rfl, dz_zero, List.append_nil] at hDt
      have hls := Lib.hid (show Dt wr u3 z.natAbs from by unfold Dt; rw [← hDt]; exact Ls.own hrow gs rfl)
      obtain ⟨al, c, rfl⟩ := hls.out.shape
      obtain ⟨L, hL⟩ : ∃ L, (dz 10 z.natAbs).length = L := ⟨_, rfl⟩
      rw [hL] at hls ⊢
      have CT2 := Lib.hid (CT.out _ _ hls.out)
      clear hDt hrow hkl hL
      go_wp2_with fail
      (with_reducible refine CT2.out.mono ?_)
      rintro e w2 ⟨rfl, hb2⟩
      have HB2 := Lib.hid (HB.out.trans (hb2.mono HB.out.size))
      clear hb2
      go_wp2
      go_ret
      exact ⟨rfl, HB2.out⟩
    · have hst := from_round m hmz gs _ HGS.out
      have hd9 : (m.tmod 10).natAbs < 10 := by rw [Int.natAbs_tmod]; exact Nat.mod_lt _ (by decide)
      have hql : (m.tdiv 10).natAbs ≤ m.natAbs / 10 := by rw [Int.natAbs_tdiv]; exact Nat.le_refl _
      obtain ⟨r, hr⟩ : ∃ r, m.tmod 10 = r := ⟨_, rfl⟩
      obtain ⟨q, hq⟩ : ∃ q, m.tdiv 10 = q := ⟨_, rfl⟩
      rw [hr] at hst hd9
      rw [hq] at hst hql
      have hqb : -9223372036854775808 ≤ q ∧ q ≤ 9223372036854775807 := by omega
      have hqm : q.natAbs < m.natAbs := by omega
      have HQM := Lib.hid hqm; have HST := Lib.hid hst
      clear hst hkl hql hqm
      by_cases hneg : r < 0
      · have hre : ((r.natAbs : Nat) : Int) = -r := by omega
        rw [hre] at HST
        go_wp2_with (at_builtin; refine wpList_append_lit rfl _ _ 40 3 rfl Tryz.underlying40 hi hz0 hz1 hz2 rfl w.heap.size _ _ _ rfl hrow #[.int .i64 (-r)] 1 rfl (by simp [Value.oneCell']) (by simp; omega) (by decide) hBs HB.out ?_; intro v' w1 hown' hb1)
        go_roundw
        case rel => exact ⟨q, k + 1, rfl, hqb.1, hqb.2, _, HST.out, by simpa using hown', hb1⟩
        case measure => simpa [intOf] using HQM.out
      · have hre : ((r.natAbs : Nat) : Int) = r := by omega
        rw [hre] at HST
        go_wp2_with (at_builtin; refine wpList_append_lit rfl _ _ 40 3 rfl Tryz.underlying40 hi hz0 hz1 hz2 rfl w.heap.size _ _ _ rfl hrow #[.int .i64 r] 1 rfl (by simp [Value.oneCell']) (by simp; omega) (by decide) hBs HB.out ?_; intro v' w1 hown' hb1)
        go_roundw
        case rel => exact ⟨q, k + 1, rfl, hqb.1, hqb.2, _, HST.out, by simpa using hown', hb1⟩
        case measure => simpa [intOf] using HQM.out

theorem dgv_take_all (l : List UInt8) (j : Nat) : dgv (l.take j) ≤ dgv l := by
  conv => rhs; rw [← List.take_append_drop j l]
  rw [← dgF_zero, ← dgF_zero]
  unfold dgF
  rw [List.foldl_append]
  exact dgF_ge _ _
theorem dgv_next (l : List UInt8) (j : Nat) (h : j < l.length) : dgv (l.take (j + 1)) = 10 * dgv (l.take j) + (l[j].toNat - 48) := by
  rw [List.take_succ_eq_append_getElem h, dgv_snoc]
theorem txt_digit (n j : Nat) (h : j < (txt n).length) : 48 ≤ (txt n)[j].toNat ∧ (txt n)[j].toNat ≤ 57 := by
  have h1 := List.all_eq_true.1 (txt_all n) _ (List.getElem_mem h)
  simpa [isD] using h1
/-- What has been read ahead of each place. -/
theorem toi_facts {a : ByteArray} (h : vS a = true) : ∃ A : Nat → Nat, A 0 = 0 ∧ A a.size = (nS a).natAbs ∧
    ∀ i (hi : i < a.size), (a[i]'hi = 45 ∧ A (i + 1) = A i) ∨ (48 ≤ (a[i]'hi).toNat ∧ (a[i]'hi).toNat ≤ 57 ∧ A (i + 1) = 10 * A i + ((a[i]'hi).toNat - 48) ∧ A (i + 1) ≤ (nS a).natAbs) := by
  have e := str_nS h
  have hsd : a.data.toList = shw (nS a) := by rw [← str_data, ← e]
  have hsz : a.size = (shw (nS a)).length := by rw [← hsd]; rfl
  have hget : ∀ i (hi : i < a.size), a[i]'hi = (shw (nS a))[i]'(by omega) := fun i hi => get_data a _ hsd i hi (by omega)
  by_cases hneg : nS a < 0
  · have esh : shw (nS a) = 45 :: txt (nS a).natAbs := by unfold shw; rw [if_pos hneg]
    refine ⟨fun i => dgv ((txt (nS a).natAbs).take (i - 1)), rfl, ?_, ?_⟩
    · show dgv ((txt (nS a).natAbs).take (a.size - 1)) = _
      rw [hsz, esh, List.length_cons, Nat.add_sub_cancel, List.take_length, dgv_txt]
    · intro i hi
      rw [hget i hi]
      cases i with
      | zero => exact .inl ⟨by simp [esh], rfl⟩
      | succ j =>
        have hj : j < (txt (nS a).natAbs).length := by rw [hsz, esh, List.length_cons] at hi; omega
        have hd := txt_digit _ j hj
        have hg : (shw (nS a))[j + 1]'(by omega) = (txt (nS a).natAbs)[j] := by simp [esh]
        rw [hg]
        refine .inr ⟨hd.1, hd.2, dgv_next _ j hj, ?_⟩
        have := dgv_take_all (txt (nS a).natAbs) (j + 1)
        rwa [dgv_txt] at this
  · have esh : shw (nS a) = txt (nS a).natAbs := by unfold shw; rw [if_neg hneg]
    refine ⟨fun i => dgv ((txt (nS a).natAbs).take i), rfl, ?_, ?_⟩
    · show dgv ((txt (nS a).natAbs).take a.size) = _
      rw [hsz, esh, List.take_length, dgv_txt]
    · intro i hi
      rw [hget i hi]
      have hj : i < (txt (nS a).natAbs).length := by rw [hsz, esh] at hi; exact hi
      have hd := txt_digit _ i hj
      have hg : (shw (nS a))[i]'(by omega) = (txt (nS a).natAbs)[i] := by simp [esh]
      rw [hg]
      refine .inr ⟨hd.1, hd.2, dgv_next _ i hj, ?_⟩
      have := dgv_take_all (txt (nS a).natAbs) (i + 1)
      rwa [dgv_txt] at this
theorem cmpS_at {a : ByteArray} (h : vS a = true) {y : Int} (hy : Big y) : cmpS a (str y) = cmpZ (nS a) y := by
  have e := str_nS h
  have := cmpS_ok (nS_big a) hy
  rwa [← e] at this
theorem lit_low : (⟨#[45, 57, 50, 50, 51, 51, 55, 50, 48, 51, 54, 56, 53, 52, 55, 55, 53, 56, 48, 56]⟩ : ByteArray) = str (-9223372036854775808) := by decide +kernel
theorem lit_up : (⟨#[57, 50, 50, 51, 51, 55, 50, 48, 51, 54, 56, 53, 52, 55, 55, 53, 56, 48, 55]⟩ : ByteArray) = str 9223372036854775807 := by decide +kernel
theorem big_low : Big (-9223372036854775808) := by unfold Big; decide +kernel
theorem big_up : Big 9223372036854775807 := by unfold Big; decide +kernel

set_option maxRecDepth 100000 in
set_option maxHeartbeats 4000000 in
theorem rtoInt_any (a : ByteArray) (w : World) (ha : a.size ≤ 9223372036854775807) :
    Calls Tryz.prog 37 #[.string a] w (TiOut w (tiV a) (tiE a)) := by
  have CA := Lib.hid (fun W => rvalid_any a W ha)
  cases hva : vS a with
  | false =>
    rw [hva] at CA
    rw [show tiV a = 0 from by unfold tiV; rw [hva]; rfl, show tiE a = 30 from by unfold tiE; rw [hva]; rfl]
    clear hva
    go_enter Tryz.func37, Tryz.ntmps37
    go_wp2_with fail
    (with_reducible refine (CA.out _).mono ?_)
    rintro e w1 ⟨rfl, rfl⟩
    go_wp2
    go_ret2
    exact ⟨rfl, Below.refl _ _⟩
  | true =>
    have CL := Lib.hid (fun W => rcmp_any a (str (-9223372036854775808)) W ha (by decide +kernel))
    have CU := Lib.hid (fun W => rcmp_any a (str 9223372036854775807) W ha (by decide +kernel))
    rw [cmpS_at hva big_low, ← lit_low] at CL
    rw [cmpS_at hva big_up, ← lit_up] at CU
    obtain ⟨A, hA0, hAE, hAF⟩ := toi_facts hva
    obtain ⟨hS0, hhd⟩ := head_minus hva
    obtain ⟨c0, hc0⟩ : ∃ c0, a[0]'hS0 = c0 := ⟨_, rfl⟩
    rw [hc0] at hhd
    have hS0I : (0 : Int) < (a.size : Int) := by omega
    have HA0 := Lib.hid hA0; have HAF := Lib.hid hAF
    rw [hva] at CA
    have hV : tiV a = if inR (nS a) then nS a else 0 := by unfold tiV; rw [hva]; rfl
    have hE : tiE a = if inR (nS a) then 0 else 30 := by unfold tiE; rw [hva]; rfl
    rw [hV, hE]
    obtain ⟨z, hz⟩ : ∃ z, nS a = z := ⟨_, rfl⟩
    rw [hz] at CL CU hAE HAF hhd ⊢
    clear hva hA0 hAF hV hE hz
    by_cases hlow : z < -9223372036854775808
    · have hlo : cmpZ z (-9223372036854775808) = -1 := by unfold cmpZ; rw [if_pos hlow]
      have hn : inR z = false := by rw [← Bool.not_eq_true, inR_iff]; omega
      rw [hn]
      rw [hlo] at CL
      clear hlow hlo hn hAE hhd
      go_enter Tryz.func37, Tryz.ntmps37
      go_wp2_with fail
      (with_reducible refine (CA.out _).mono ?_)
      rintro e w1 ⟨rfl, rfl⟩
      go_wp2_with fail
      (with_reducible refine (CL.out _).mono ?_)
      rintro e w2 ⟨rfl, hb2⟩
      have HB2 := Lib.hid hb2
      clear hb2
      go_wp2
      go_ret2
      exact ⟨rfl, HB2.out⟩
    · by_cases hupp : 9223372036854775807 < z
      · have hup : cmpZ z 9223372036854775807 = 1 := by unfold cmpZ; rw [if_neg (by omega), if_pos hupp]
        have hlo : cmpZ z (-9223372036854775808) = 1 := by unfold cmpZ; rw [if_neg (by omega), if_pos (by omega)]
        have hn : inR z = false := by rw [← Bool.not_eq_true, inR_iff]; omega
        rw [hn]
        rw [hlo] at CL
        rw [hup] at CU
        clear hlow hupp hlo hup hn hAE hhd
        go_enter Tryz.func37, Tryz.ntmps37
        go_wp2_with fail
        (with_reducible refine (CA.out _).mono ?_)
        rintro e w1 ⟨rfl, rfl⟩
        go_wp2_with fail
        (with_reducible refine (CL.out _).mono ?_)
        rintro e w2 ⟨rfl, hb2⟩
        have HB2 := Lib.hid hb2
        clear hb2
        go_wp2_with fail
        (with_reducible refine (CU.out _).mono ?_)
        rintro e w3 ⟨rfl, hb3⟩
        have HB3 := Lib.hid (HB2.out.trans (hb3.mono HB2.out.size))
        clear hb3
        go_wp2
        go_ret2
        exact ⟨rfl, HB3.out⟩
      · have hn : inR z = true := (inR_iff z).2 ⟨by omega, by omega⟩
        rw [hn]
        have hlo' : 0 ≤ cmpZ z (-9223372036854775808) := by unfold cmpZ; rw [if_neg (by omega)]; split <;> decide
        have hup' : cmpZ z 9223372036854775807 ≤ 0 := by
          unfold cmpZ
          by_cases h : z < 9223372036854775807
          · rw [if_pos h]; decide
          · rw [if_neg h, if_neg hupp]; decide
        obtain ⟨lo, hlo2⟩ : ∃ lo, cmpZ z (-9223372036854775808) = lo := ⟨_, rfl⟩
        obtain ⟨up, hup2⟩ : ∃ up, cmpZ z 9223372036854775807 = up := ⟨_, rfl⟩
        rw [hlo2] at CL hlo'
        rw [hup2] at CU hup'
        have hlo := hlo'
        have hup := hup'
        clear hlo2 hup2 hn hlo' hup'
        by_cases hneg : z < 0
        · rw [decide_eq_true hneg] at hhd
          have HN := Lib.hid (show z.natAbs ≤ 9223372036854775808 by omega)
          have HAE := Lib.hid (show -((A a.size : Nat) : Int) = z by omega)
          clear hneg hAE hlow hupp
          go_enter Tryz.func37, Tryz.ntmps37
          go_wp2_with fail
          (with_reducible refine (CA.out _).mono ?_)
          rintro e w1 ⟨rfl, rfl⟩
          go_wp2_with fail
          (with_reducible refine (CL.out _).mono ?_)
          rintro e w2 ⟨rfl, hb2⟩
          have HB2 := Lib.hid hb2
          clear hb2
          go_wp2_with fail
          (with_reducible refine (CU.out _).mono ?_)
          rintro e w3 ⟨rfl, hb3⟩
          have HB3 := Lib.hid (HB2.out.trans (hb3.mono HB2.out.size))
          clear hb3
          go_wp2
          clear hlo hup
          go_loopw [4, 5] (fun nv iv wr => ∃ i : Nat, i ≤ a.size ∧ iv = .int .i64 i ∧ nv = .int .i64 (-((A i : Nat) : Int)) ∧ wr = w3) (fun _ iv _ => a.size - (intOf iv).toNat)
          case atStart => exact ⟨0, Nat.zero_le _, rfl, by rw [HA0.out]; rfl, rfl⟩
          case round =>
            obtain ⟨i, hi, rfl, rfl, rfl⟩ := hrel
            by_cases hlt : i < a.size
            · have hF := HAF.out i hlt
              have hiI : (i : Int) < (a.size : Int) := by omega
              obtain ⟨m, hm⟩ : ∃ m, A i = m := ⟨_, rfl⟩
              obtain ⟨m2, hm2⟩ : ∃ m2, A (i + 1) = m2 := ⟨_, rfl⟩
              obtain ⟨c, hc⟩ : ∃ c, a[i]'hlt = c := ⟨_, rfl⟩
              rw [hc, hm, hm2] at hF
              have HM2 := Lib.hid hm2
              rw [hm]
              clear hm hm2
              rcases hF with ⟨h45, hA⟩ | ⟨h48, h57, hA, hle⟩
              · have hq : ((c.toNat : Int) == 45) = true := by rw [h45]; rfl
                have HA := Lib.hid hA
                clear h45 hA
                go_wp2
                go_roundw
                case rel => exact ⟨i + 1, by omega, by go_num, by rw [HM2.out, HA.out], trivial⟩
                case measure => simp [intOf]; omega
              · have hq : ((c.toNat : Int) == 45) = false := by simp; omega
                have hmb : 10 * m + (c.toNat - 48) ≤ 9223372036854775808 := by have := HN.out; omega
      
                have HA := Lib.hid hA
                clear hA hle
                go_wp2
                go_roundw
                case rel => exact ⟨i + 1, by omega, by go_num, by rw [HM2.out, HA.out]; go_num, trivial⟩
                case measure => simp [intOf]; omega
            · obtain rfl : i = a.size := by omega
              obtain ⟨m, hm⟩ : ∃ m, A a.size = m := ⟨_, rfl⟩
              have hz := HAE.out
              rw [hm] at hz ⊢
              clear hm
              go_wp2
              go_ret2
              exact ⟨rfl, HB3.out⟩
        · rw [decide_eq_false hneg] at hhd
          have HN := Lib.hid (show z.natAbs ≤ 9223372036854775807 by omega)
          have HAE := Lib.hid (show ((A a.size : Nat) : Int) = z by omega)
          clear hneg hAE hlow hupp
          go_enter Tryz.func37, Tryz.ntmps37
          go_wp2_with fail
          (with_reducible refine (CA.out _).mono ?_)
          rintro e w1 ⟨rfl, rfl⟩
          go_wp2_with fail
          (with_reducible refine (CL.out _).mono ?_)
          rintro e w2 ⟨rfl, hb2⟩
          have HB2 := Lib.hid hb2
          clear hb2
          go_wp2_with fail
          (with_reducible refine (CU.out _).mono ?_)
          rintro e w3 ⟨rfl, hb3⟩
          have HB3 := Lib.hid (HB2.out.trans (hb3.mono HB2.out.size))
          clear hb3
          go_wp2
          clear hlo hup
          go_loopw [4, 5] (fun nv iv wr => ∃ i : Nat, i ≤ a.size ∧ iv = .int .i64 i ∧ nv = .int .i64 (((A i : Nat) : Int)) ∧ wr = w3) (fun _ iv _ => a.size - (intOf iv).toNat)
          case atStart => exact ⟨0, Nat.zero_le _, rfl, by rw [HA0.out]; rfl, rfl⟩
          case round =>
            obtain ⟨i, hi, rfl, rfl, rfl⟩ := hrel
            by_cases hlt : i < a.size
            · have hF := HAF.out i hlt
              have hiI : (i : Int) < (a.size : Int) := by omega
              obtain ⟨m, hm⟩ : ∃ m, A i = m := ⟨_, rfl⟩
              obtain ⟨m2, hm2⟩ : ∃ m2, A (i + 1) = m2 := ⟨_, rfl⟩
              obtain ⟨c, hc⟩ : ∃ c, a[i]'hlt = c := ⟨_, rfl⟩
              rw [hc, hm, hm2] at hF
              have HM2 := Lib.hid hm2
              rw [hm]
              clear hm hm2
              rcases hF with ⟨h45, hA⟩ | ⟨h48, h57, hA, hle⟩
              · have hq : ((c.toNat : Int) == 45) = true := by rw [h45]; rfl
                have HA := Lib.hid hA
                clear h45 hA
                go_wp2
                go_roundw
                case rel => exact ⟨i + 1, by omega, by go_num, by rw [HM2.out, HA.out], trivial⟩
                case measure => simp [intOf]; omega
              · have hq : ((c.toNat : Int) == 45) = false := by simp; omega
                have hmb : 10 * m + (c.toNat - 48) ≤ 9223372036854775808 := by have := HN.out; omega
                have hmb : 10 * m + (c.toNat - 48) ≤ 9223372036854775807 := by have := HN.out; omega
                have HA := Lib.hid hA
                clear hA hle
                go_wp2
                go_roundw
                case rel => exact ⟨i + 1, by omega, by go_num, by rw [HM2.out, HA.out]; go_num, trivial⟩
                case measure => simp [intOf]; omega
            · obtain rfl : i = a.size := by omega
              obtain ⟨m, hm⟩ : ∃ m, A a.size = m := ⟨_, rfl⟩
              have hz := HAE.out
              rw [hm] at hz ⊢
              clear hm
              go_wp2
              go_ret2
              exact ⟨rfl, HB3.out⟩
end Go.Proofs.YtcjcafekacceiaaGreatDoor
