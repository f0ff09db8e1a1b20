/- Integer layer, merged: Rdb. -/
import Derived.Test.YtcjcafekacceiaaGreatDoorRda
/-! Merged of Rva, Rdg, Rop, Roq. -/
/-! The reference's Valid and digits, walked. -/
namespace Go.Proofs.YtcjcafekacceiaaGreatDoor
open Go.RowKit

theorem ext1 (c : UInt8) (d : List UInt8) (n : Nat) (hn : n = d.length + 1) : (⟨(c :: d).toArray⟩ : ByteArray).extract 1 n = ⟨d.toArray⟩ := by subst hn; exact ext_cons c d
theorem mk_list (s : ByteArray) : s = ⟨s.data.toList.toArray⟩ := by cases s; rfl
theorem beq48 (d : List UInt8) : ((⟨d.toArray⟩ : ByteArray).toList == [48]) = (d == [48]) := by rw [ByteArray.toList_eq]

set_option maxRecDepth 100000 in
set_option maxHeartbeats 4000000 in
theorem rvalid_any (s : ByteArray) (w : World) (hs : s.size ≤ 9223372036854775807) : Calls Tryz.prog 61 #[.string s] w (BoolOut w (vS s)) := by
  obtain ⟨L, hL⟩ : ∃ L, s.data.toList = L := ⟨_, rfl⟩
  have hsz : s.size = L.length := by rw [← hL]; rfl
  have hvl : Hid (vS s = (!(body L).isEmpty && decide ((body L).length ≤ 200) && (body L).all isD && ((body L).head? != some 48 || L == [48]))) := by rw [← hL]; exact Lib.hid rfl
  cases hLL : L with
  | nil =>
    subst hLL
    have e : vS s = false := by rw [hvl.out]; rfl
    rw [e]
    obtain rfl : s = ⟨#[]⟩ := by rw [mk_list s, hL]
    clear e hvl hL hsz hs
    go_enter Tryz.func61, Tryz.ntmps61
    go_wp2
    go_loopw [3] (fun iv wr => iv = .int .i64 0 ∧ wr = w) (fun _ _ => 0)
    case atStart => exact ⟨rfl, rfl⟩
    case round =>
      obtain ⟨rfl, rfl⟩ := hrel
      go_wp2
      go_ret
      exact ⟨rfl, rfl⟩
  | cons c d =>
    subst hLL
    have hS0 : 0 < s.size := by rw [hsz]; simp
    have hc0 : s[0]'hS0 = c := by
      rw [get_data s (c :: d) hL 0 hS0 (by simp)]; rfl
    have hS0I : (0 : Int) < (s.size : Int) := by omega
    have hsd : s.size = d.length + 1 := by rw [hsz]; rfl
    by_cases hc : c = 45
    · have hct : ((c.toNat : Int) == 45) = true := by rw [hc]; decide
      have hbd : body (c :: d) = d := by unfold body; simp [hc]
      rw [hbd] at hvl
      obtain ⟨D, hD⟩ : ∃ D : ByteArray, ⟨d.toArray⟩ = D := ⟨_, rfl⟩
      have hex : s.extract 1 s.size = D := by
        rw [← hD]
        conv => lhs; rw [mk_list s, hL]
        exact ext1 c d _ (by rw [← hL, ← mk_list s]; exact hsd)
      obtain ⟨l, hl⟩ : ∃ l, d = l := ⟨_, rfl⟩
      have hDd : D.data.toList = l := by rw [← hD, ← hl]
      have hqd : (D.toList == [48]) = (l == [48]) := by rw [ByteArray.toList_eq, hDd]
      have hlz : l.length + 1 = s.size := by rw [← hl]; exact hsd.symm
      by_cases h48 : l = [48]
      · have e : vS s = false := by rw [hvl.out, hl, h48, hc]; rfl
        have hq : (D.toList == [48]) = true := by rw [hqd, h48]; rfl
        rw [e]
        clear e hvl hL hsz hs hbd h48 hqd hDd hl hD hlz hsd hc
        go_enter Tryz.func61, Tryz.ntmps61
        go_wp2
        go_ret
        exact ⟨rfl, rfl⟩
      · have hl48 : (l == [48]) = false := by simpa using h48
        have hq : (D.toList == [48]) = false := by rw [hqd]; exact hl48
        have HLQ := Lib.hid hl48
        have HVL : Hid (vS s = (!l.isEmpty && decide (l.length ≤ 200) && l.all isD && (l.head? != some 48 || l == [48]))) := by
          rw [hvl.out, hl, hl48, show ((c :: l) == [48]) = false from by rw [hc]; simp]; exact Lib.hid rfl
        have hlen : l.length ≤ 9223372036854775806 := by omega
        have HDS := Lib.hid (show D.size = l.length from by rw [← hDd]; rfl)
        have HGET := Lib.hid (fun k h h2 => get_data D l hDd k h h2)
        have HDD := Lib.hid hDd
        have hDz : D.size ≤ 9223372036854775807 := by have := HDS.out; omega
        have hDzI : (D.size : Int) ≤ 9223372036854775807 := by omega
        generalize vS s = b at *
        clear hvl hL hsz hs hbd h48 hqd hDd hl hD hlz hsd hc hl48
        go_enter Tryz.func61, Tryz.ntmps61
        go_wp2
        go_loopw [3] (fun iv wr => ∃ k : Nat, k ≤ D.size ∧ iv = .int .i64 k ∧ ((l.take k).all isD = true ∧ wr = w)) (fun iv _ => D.size - (intOf iv).toNat)
        case atStart => exact ⟨0, Nat.zero_le _, rfl, rfl, rfl⟩
        case round =>
          obtain ⟨k, hk, rfl, hall, rfl⟩ := hrel
          have HALL := Lib.hid hall
          clear hall
          have hDs := HDS.out
          by_cases hkN : k < D.size
          · have hkd : k < l.length := by omega
            have hstep := Lib.hid (show ∀ b, isD l[k] = b → (l.take (k + 1)).all isD = b from fun b hb => by
              rw [List.take_succ_eq_append_getElem hkd, List.all_append, HALL.out]; simpa using hb)
            have hc := HGET.out k hkN hkd
            obtain ⟨x, hx⟩ : ∃ x, l[k] = x := ⟨_, rfl⟩
            rw [hx] at hc hstep
            have HX := Lib.hid hx
            have hkI : (k : Int) < (D.size : Int) := by omega
            by_cases hxd : isD x = true
            · have hxx := hxd
              simp [isD] at hxx
              have hx1 : ¬ ((x.toNat : Int) < 48) := by omega
              have hx2 : ¬ ((57 : Int) < (x.toNat : Int)) := by omega
              have hxD := Lib.hid hxd
              clear hxd hxx hx hDs
              go_wp2
              go_roundw
              case rel => exact ⟨k + 1, by omega, by go_num, hstep.out _ hxD.out, by first | rfl | trivial⟩
              case measure => simp [intOf]; omega
            · have hb : Hid (b = false) := by
                rw [HVL.out]
                have : l.all isD = false := by
                  rw [List.all_eq_false]
                  exact ⟨l[k], List.getElem_mem hkd, by rw [HX.out]; exact hxd⟩
                rw [this]; simp
                exact Lib.hid trivial
              have hxx := hxd
              simp [isD] at hxx
              by_cases h48 : x.toNat < 48
              · have hx1 : (x.toNat : Int) < 48 := by omega
                clear hxx hxd hx hDs
                go_wp2
                go_ret
                exact ⟨by rw [hb.out]; rfl, rfl⟩
              · have hx1 : ¬ ((x.toNat : Int) < 48) := by omega
                have hx2 : (57 : Int) < (x.toNat : Int) := by have := hxx (by omega); omega
                clear hxx hxd hx hDs
                go_wp2
                go_ret
                exact ⟨by rw [hb.out]; rfl, rfl⟩
          · have hkk : k = D.size := by omega
            have hall : l.all isD = true := by
              have := HALL.out
              rwa [List.take_of_length_le (by omega)] at this
            have HAL := Lib.hid hall
            subst hkk
            clear hall
            rcases Nat.eq_zero_or_pos l.length with hl0 | hl0
            · have hb : Hid (b = false) := by
                rw [HVL.out, List.length_eq_zero_iff.1 hl0]; exact Lib.hid rfl
              have hz : decide (0 < D.size) = false := decide_eq_false (by omega)
              have hz2 : ¬ (0 < D.size) := by omega
              clear hl0 hDs
              go_wp2
              go_ret
              exact ⟨by rw [hb.out]; rfl, rfl⟩
            · have hd0 : 0 < D.size := by omega
              have hd0I : (0 : Int) < (D.size : Int) := by omega
 
              have hcx := HGET.out 0 hd0 hl0
              have hhead : l.head? = some l[0] := by rw [List.head?_eq_getElem?, List.getElem?_eq_getElem hl0]
              obtain ⟨x, hx⟩ : ∃ x, l[0] = x := ⟨_, rfl⟩
              rw [hx] at hcx hhead
              have hne : l.isEmpty = false := by simpa using fun e => by rw [e] at hl0; simp at hl0
              by_cases h200 : l.length ≤ 200
              · have hs2 : (D.size : Int) ≤ 200 := by omega
                have hb : Hid (b = (x != 48)) := by
                  rw [HVL.out, hne, HAL.out, hhead, HLQ.out]
                  simp [h200]
                  exact Lib.hid rfl
                clear hx hDs hl0 hhead hne h200
                by_cases hx48 : x = 48
                · subst hx48
                  go_wp2
                  go_ret
                  exact ⟨by rw [hb.out]; rfl, rfl⟩
                · have hxi : ((x.toNat : Int) != 48) = true := toNat_ne48 x hx48
                  have hxb : (x != 48) = true := by simpa using hx48
                  go_wp2
                  go_ret
                  exact ⟨by rw [hb.out, hxb]; rfl, rfl⟩
              · have hb : Hid (b = false) := by
                  rw [HVL.out, hne, HAL.out]
                  simp [h200]
                  exact Lib.hid trivial
                have hs2 : (200 : Int) < (D.size : Int) := by omega
                clear hx hDs hl0 hhead hne h200
                go_wp2
                go_ret
                exact ⟨by rw [hb.out]; rfl, rfl⟩
    · have hct : ((c.toNat : Int) == 45) = false := by
        have : c.toNat ≠ 45 := fun e => hc (UInt8.toNat_inj.1 e)
        simp; omega
      have hbd : body (c :: d) = c :: d := by unfold body; simp [hc]
      rw [hbd] at hvl
      obtain ⟨l, hl⟩ : ∃ l, c :: d = l := ⟨_, rfl⟩
      have hDd : s.data.toList = l := by rw [← hl]; exact hL
      have HVL : Hid (vS s = (!l.isEmpty && decide (l.length ≤ 200) && l.all isD && (l.head? != some 48 || l == [48]))) := by
        rw [hvl.out, hl]; exact Lib.hid rfl
      have HHD := Lib.hid (show l.head? = some c from by rw [← hl]; rfl)
      obtain ⟨q, hq⟩ : ∃ q, (s.toList == [48]) = q := ⟨_, rfl⟩
      have HLQ := Lib.hid (show (l == [48]) = q from by rw [← hq, ByteArray.toList_eq, hDd])
      have hlen : l.length ≤ 9223372036854775807 := by rw [← hl, ← hsz]; exact hs
      have HDS := Lib.hid (show s.size = l.length from by rw [← hDd]; rfl)
      have HGET := Lib.hid (fun k h h2 => get_data s l hDd k h h2)
      have HDD := Lib.hid hDd
      have hDz : s.size ≤ 9223372036854775807 := by have := HDS.out; omega
      have hDzI : (s.size : Int) ≤ 9223372036854775807 := by omega
      generalize vS s = b at *
      clear hvl hL hsz hs hbd hDd hl hsd hc
      go_enter Tryz.func61, Tryz.ntmps61
      go_wp2
      go_loopw [3] (fun iv wr => ∃ k : Nat, k ≤ s.size ∧ iv = .int .i64 k ∧ ((l.take k).all isD = true ∧ wr = w)) (fun iv _ => s.size - (intOf iv).toNat)
      case atStart => exact ⟨0, Nat.zero_le _, rfl, rfl, rfl⟩
      case round =>
        obtain ⟨k, hk, rfl, hall, rfl⟩ := hrel
        have HALL := Lib.hid hall
        clear hall
        have hDs := HDS.out
        by_cases hkN : k < s.size
        · have hkd : k < l.length := by omega
          have hstep := Lib.hid (show ∀ b, isD l[k] = b → (l.take (k + 1)).all isD = b from fun b hb => by
            rw [List.take_succ_eq_append_getElem hkd, List.all_append, HALL.out]; simpa using hb)
          have hc := HGET.out k hkN hkd
          obtain ⟨x, hx⟩ : ∃ x, l[k] = x := ⟨_, rfl⟩
          rw [hx] at hc hstep
          have HX := Lib.hid hx
          have hkI : (k : Int) < (s.size : Int) := by omega
          by_cases hxd : isD x = true
          · have hxx := hxd
            simp [isD] at hxx
            have hx1 : ¬ ((x.toNat : Int) < 48) := by omega
            have hx2 : ¬ ((57 : Int) < (x.toNat : Int)) := by omega
            have hxD := Lib.hid hxd
            clear hxd hxx hx hDs
            go_wp2
            go_roundw
            case rel => exact ⟨k + 1, by omega, by go_num, hstep.out _ hxD.out, by first | rfl | trivial⟩
            case measure => simp [intOf]; omega
          · have hb : Hid (b = false) := by
              rw [HVL.out]
              have : l.all isD = false := by
                rw [List.all_eq_false]
                exact ⟨l[k], List.getElem_mem hkd, by rw [HX.out]; exact hxd⟩
              rw [this]; simp
              exact Lib.hid trivial
            have hxx := hxd
            simp [isD] at hxx
            by_cases h48 : x.toNat < 48
            · have hx1 : (x.toNat : Int) < 48 := by omega
              clear hxx hxd hx hDs
              go_wp2
              go_ret
              exact ⟨by rw [hb.out]; rfl, rfl⟩
            · have hx1 : ¬ ((x.toNat : Int) < 48) := by omega
              have hx2 : (57 : Int) < (x.toNat : Int) := by have := hxx (by omega); omega
              clear hxx hxd hx hDs
              go_wp2
              go_ret
              exact ⟨by rw [hb.out]; rfl, rfl⟩
        · have hkk : k = s.size := by omega
          have hall : l.all isD = true := by
            have := HALL.out
            rwa [List.take_of_length_le (by omega)] at this
          have HAL := Lib.hid hall
          subst hkk
          clear hall
          rcases Nat.eq_zero_or_pos l.length with hl0 | hl0
          · exfalso; omega
          · have hd0 : 0 < s.size := by omega
            have hd0I : (0 : Int) < (s.size : Int) := by omega

            have hne : l.isEmpty = false := by simpa using fun e => by rw [e] at hl0; simp at hl0
            by_cases h200 : l.length ≤ 200
            · have hs2 : (s.size : Int) ≤ 200 := by omega
              have hb : Hid (b = ((c != 48) || q)) := by
                rw [HVL.out, hne, HAL.out, HHD.out, HLQ.out]
                simp [h200]
                exact Lib.hid rfl
              clear hDs hl0 hne h200
              by_cases hx48 : c = 48
              · subst hx48
                cases q
                all_goals
                  go_wp2
                  go_ret
                  exact ⟨by rw [hb.out]; rfl, rfl⟩
              · have hxi : ((c.toNat : Int) != 48) = true := toNat_ne48 c hx48
                have hxb : (c != 48) = true := by simpa using hx48
                cases q
                all_goals
                  go_wp2
                  go_ret
                  exact ⟨by rw [hb.out, hxb]; rfl, rfl⟩
            · have hb : Hid (b = false) := by
                rw [HVL.out, hne, HAL.out]
                simp [h200]
                exact Lib.hid trivial
              have hs2 : (200 : Int) < (s.size : Int) := by omega
              clear hDs hl0 hne h200
              go_wp2
              go_ret
              exact ⟨by rw [hb.out]; rfl, rfl⟩
end Go.Proofs.YtcjcafekacceiaaGreatDoor

/-! The reference's digits, walked. -/
namespace Go.Proofs.YtcjcafekacceiaaGreatDoor
open Go.RowKit

theorem rev_get {l : List UInt8} {zs : List Int} (h : l = (zs.map chr).reverse) (i : Nat) (hi : i < l.length) : l[i] = chr (zs[zs.length - 1 - i]?.getD 0) := by
  subst h
  have hlen : i < zs.length := by simpa using hi
  rw [List.getElem_reverse, List.getElem_map, List.getElem?_eq_getElem (by omega)]
  congr 1
  simp
def DgsOut (w : World) (z : Int) (e : Ending) (w' : World) : Prop := ∃ v, e = .returned (.tuple #[.bool (decide (z < 0)), v]) ∧ Dt w' v z.natAbs ∧ Below w.heap.size w w'
def DgR (w : World) (zs : List Int) (m : Nat) (v : Value) (wr : World) : Prop := wr.ownsRow w.heap.size 3 1 v m ((zs.take m).map (Value.int .i64)) ∧ Below w.heap.size w wr
theorem txt_zs {n : Nat} (h : n ≠ 0) : txt n = ((dz 10 n).map chr).reverse := by unfold txt; rw [if_neg h]; rfl

set_option maxRecDepth 100000 in
set_option maxHeartbeats 4000000 in
theorem rdigits_any (z : Int) (hz : Big z) (w : World) : Calls Tryz.prog 73 #[.string (str z)] w (DgsOut w z) := by
  obtain ⟨i0, hi, hz0, hz1, hz2⟩ := info_parts infoInt
  have hssz := str_size hz
  have hlen200 := (txt_length z.natAbs 200 (by decide)).2 hz
  obtain ⟨s, hs⟩ : ∃ ttt, str z = ttt := ⟨_, rfl⟩
  have hsd : s.data.toList = shw z := by rw [← hs, str_data]
  rw [hs] at hssz ⊢
  have hsz : s.size = (shw z).length := by rw [← hsd]; rfl
  by_cases hneg : z < 0
  · have hn0 : z.natAbs ≠ 0 := by omega
    have hdec : decide (z < 0) = true := by simpa using hneg
    have esh : shw z = 45 :: txt z.natAbs := by unfold shw; rw [if_pos hneg]
    have hzs := txt_zs hn0
    have hdg := dig10_at z.natAbs
    have hDt : ∀ W v, Ls W v (dz 10 z.natAbs) → Dt W v z.natAbs := fun _ _ h => h
    have hS0 : 0 < s.size := by rw [hsz, esh]; simp
    have hc0 : s[0]'hS0 = 45 := by rw [get_data s _ hsd 0 hS0 (by rw [esh]; simp)]; simp [esh]
    have hS0I : (0 : Int) < (s.size : Int) := by omega
    obtain ⟨l, hl⟩ : ∃ l, txt z.natAbs = l := ⟨_, rfl⟩
    rw [hl] at hzs esh hlen200
    generalize dz 10 z.natAbs = zs at *
    obtain ⟨D, hD⟩ : ∃ D : ByteArray, ⟨l.toArray⟩ = D := ⟨_, rfl⟩
    have hDd : D.data.toList = l := by rw [← hD]
    have hex : s.extract 1 s.size = D := by
      rw [← hD]
      conv => lhs; rw [mk_list s, hsd, esh]
      exact ext1 45 l _ (by rw [← esh, ← hsd, ← mk_list s, hsz, esh]; rfl)
    have hq : (D.toList == [48]) = false := by
      rw [ByteArray.toList_eq, hDd, beq_eq_false_iff_ne]
      intro e
      rw [← hl] at e
      have := digN_txt z.natAbs
      rw [e] at this
      have h2 : vz 10 (digN [48]) = 0 := by decide
      omega
    have hll : l.length = zs.length := by rw [hzs]; simp
    have HDS := Lib.hid (show D.size = l.length from by rw [← hDd]; rfl)
    have HGET := Lib.hid (fun k h h2 => get_data D l hDd k h h2)
    have HRV := Lib.hid (fun i h => rev_get hzs i h)
    obtain ⟨L, hL⟩ : ∃ L, zs.length = L := ⟨_, rfl⟩
    have hDL : D.size = L := by rw [HDS.out, hll, hL]
    have HLL := Lib.hid hll; have HL := Lib.hid hL; have HDL := Lib.hid hDL; have HDT := Lib.hid hDt; have HDG := Lib.hid hdg; have HDEC := Lib.hid hdec; have HQ := Lib.hid hq
    have hLp : D.size ≤ 200 := by rw [HDS.out]; exact hlen200
    clear hDt hdg hzs esh hsd hsz hs hneg hn0 hl hD hDd hll hL hDL hlen200 hz hdec
    go_enter Tryz.func73, Tryz.ntmps73
    go_wp2
    go_loopw [5, 6] (fun v iv wr => ∃ j : Nat, j ≤ D.size ∧ iv = .int .i64 ((j : Int) - 1) ∧ DgR w zs (D.size - j) v wr) (fun _ iv _ => (intOf iv + 1).toNat)
    case atStart => exact ⟨D.size, Nat.le_refl _, rfl, by rw [Nat.sub_self]; exact World.ownsRow_nil _ _ _ _, Below.refl _ _⟩
    case round =>
      obtain ⟨j, hj, rfl, hrow, hB⟩ := hrel
      have HB := Lib.hid hB
      have hBs := hB.size
      clear hB
      by_cases hj0 : j = 0
      · subst hj0
        have hls := Lib.hid (Ls.own hrow (zs.take (D.size - 0)) rfl)
        have htk : zs.take (D.size - 0) = zs := List.take_of_length_le (by rw [HL.out, HDL.out]; omega)
        have HTK := Lib.hid htk
        clear htk hrow
        go_wp2
        go_ret2
        refine ⟨_, by rw [HDEC.out]; rfl, HDT.out _ _ ?_, HB.out⟩
        have := hls.out
        rwa [HTK.out] at this
      · obtain ⟨i, rfl⟩ : ∃ i, j = i + 1 := ⟨j - 1, by omega⟩
        have hiD : i < D.size := by omega
        have hil : i < l.length := by rw [← HDS.out]; exact hiD
        have hget := (HGET.out i hiD hil).trans (HRV.out i hil)
        obtain ⟨m, hm⟩ : ∃ m, D.size - (i + 1) = m := ⟨_, rfl⟩
        have hmz : zs.length - 1 - i = m := by rw [HL.out, ← HDL.out]; omega
        have hmn : D.size - i = m + 1 := by omega
        rw [hmz] at hget
        have hd := HDG.out m
        have hst := Lib.hid (show zs.take (m + 1) = zs.take m ++ [zs[m]?.getD 0] from by
          have hlt : m < zs.length := by rw [HL.out, ← HDL.out]; omega
          rw [List.take_succ_eq_append_getElem hlt, List.getElem?_eq_getElem hlt]; rfl)
        obtain ⟨x, hx⟩ : ∃ x, zs[m]?.getD 0 = x := ⟨_, rfl⟩
        rw [hx] at hget hd hst
        have hch := chr_toNat x hd.1 hd.2
        obtain ⟨c, hc⟩ : ∃ c, chr x = c := ⟨_, rfl⟩
        rw [hc] at hget hch
        have hcb : 48 ≤ c.toNat ∧ c.toNat ≤ 57 := by omega
        have hcx : (c.toNat : Int) - 48 = x := by omega
        rw [hm] at hrow
        have HM := Lib.hid hm; have HMN := Lib.hid hmn
        have hiI : (i : Int) < (D.size : Int) := by omega
        have hm2 : m ≤ 200 := by omega
        clear hx hc hch hm hmn hmz hj0
        go_wp2_with (at_builtin; refine wpList_append_lit rfl _ _ 40 3 rfl Tryz.underlying40 hi hz0 hz1 hz2 rfl w.heap.size _ _ _ rfl hrow #[.int .i64 x] 1 rfl (by simp [Value.oneCell']) (by simp; omega) (by decide) hBs HB.out ?_; intro v' w1 hown' hb1)
        go_roundw
        case rel => exact ⟨i, by omega, rfl, by rw [HMN.out, hst.out, List.map_append]; exact hown', hb1⟩
        case measure => simp [intOf]
  · have hdec : decide (z < 0) = false := by simpa using hneg
    have esh : shw z = txt z.natAbs := by unfold shw; rw [if_neg hneg]
    by_cases hn0 : z = 0
    · subst hn0
      obtain rfl : s = ⟨#[48]⟩ := by rw [← hs]; decide +kernel
      have HDEC := Lib.hid hdec
      clear hs hsd hssz hsz hdec esh hneg hlen200 hz
      go_enter Tryz.func73, Tryz.ntmps73
      go_wp2
      go_loopw [5, 6] (fun v iv wr => v = .slice none 0 0 ∧ iv = .int .i64 0 ∧ wr = w) (fun _ _ _ => 0)
      case atStart => exact ⟨rfl, rfl, rfl⟩
      case round =>
        obtain ⟨rfl, rfl, rfl⟩ := hrel
        go_wp2
        go_ret2
        exact ⟨_, by rw [HDEC.out]; rfl, Dt.zero _, Below.refl _ _⟩
    · have hn1 : z.natAbs ≠ 0 := by omega
      have hzs := txt_zs hn1
      have hdg := dig10_at z.natAbs
      have hDt : ∀ W v, Ls W v (dz 10 z.natAbs) → Dt W v z.natAbs := fun _ _ h => h
      have hS0 : 0 < s.size := by rw [hsz]; exact shw_pos z
      obtain ⟨c0, hc0⟩ : ∃ c0, s[0]'hS0 = c0 := ⟨_, rfl⟩
      have hct : ((c0.toNat : Int) == 45) = false := by
        have h45 := txt_not_minus z.natAbs
        rw [get_data s _ hsd 0 hS0 (shw_pos z)] at hc0
        rw [← esh, List.head?_eq_getElem?, List.getElem?_eq_getElem (shw_pos z), hc0] at h45
        have h46 : c0 ≠ 45 := fun e => h45 (by rw [e])
        have : c0.toNat ≠ 45 := fun e => h46 (UInt8.toNat_inj.1 e)
        simp; omega
      have hS0I : (0 : Int) < (s.size : Int) := by omega
      obtain ⟨l, hl⟩ : ∃ l, txt z.natAbs = l := ⟨_, rfl⟩
      rw [hl] at hzs esh hlen200
      generalize dz 10 z.natAbs = zs at *
      have hDd : s.data.toList = l := by rw [hsd, esh]
      have hq : (s.toList == [48]) = false := by
        rw [ByteArray.toList_eq, hDd, beq_eq_false_iff_ne]
        intro e
        rw [← hl] at e
        have := digN_txt z.natAbs
        rw [e] at this
        have h2 : vz 10 (digN [48]) = 0 := by decide
        omega
      have hll : l.length = zs.length := by rw [hzs]; simp
      have HDS := Lib.hid (show s.size = l.length from by rw [← hDd]; rfl)
      have HGET := Lib.hid (fun k h h2 => get_data s l hDd k h h2)
      have HRV := Lib.hid (fun i h => rev_get hzs i h)
      obtain ⟨L, hL⟩ : ∃ L, zs.length = L := ⟨_, rfl⟩
      have hDL : s.size = L := by rw [HDS.out, hll, hL]
      have HLL := Lib.hid hll; have HL := Lib.hid hL; have HDL := Lib.hid hDL; have HDT := Lib.hid hDt; have HDG := Lib.hid hdg; have HDEC := Lib.hid hdec; have HQ := Lib.hid hq
      have hLp : s.size ≤ 200 := by rw [HDS.out]; exact hlen200
      clear hDt hdg hzs esh hsd hsz hs hneg hn0 hn1 hl hDd hll hL hDL hlen200 hz hdec
      go_enter Tryz.func73, Tryz.ntmps73
      go_wp2
      go_loopw [5, 6] (fun v iv wr => ∃ j : Nat, j ≤ s.size ∧ iv = .int .i64 ((j : Int) - 1) ∧ DgR w zs (s.size - j) v wr) (fun _ iv _ => (intOf iv + 1).toNat)
      case atStart => exact ⟨s.size, Nat.le_refl _, rfl, by rw [Nat.sub_self]; exact World.ownsRow_nil _ _ _ _, Below.refl _ _⟩
      case round =>
        obtain ⟨j, hj, rfl, hrow, hB⟩ := hrel
        have HB := Lib.hid hB
        have hBs := hB.size
        clear hB
        by_cases hj0 : j = 0
        · subst hj0
          have hls := Lib.hid (Ls.own hrow (zs.take (s.size - 0)) rfl)
          have htk : zs.take (s.size - 0) = zs := List.take_of_length_le (by rw [HL.out, HDL.out]; omega)
          have HTK := Lib.hid htk
          clear htk hrow
          go_wp2
          go_ret2
          refine ⟨_, by rw [HDEC.out]; rfl, HDT.out _ _ ?_, HB.out⟩
          have := hls.out
          rwa [HTK.out] at this
        · obtain ⟨i, rfl⟩ : ∃ i, j = i + 1 := ⟨j - 1, by omega⟩
          have hiD : i < s.size := by omega
          have hil : i < l.length := by rw [← HDS.out]; exact hiD
          have hget := (HGET.out i hiD hil).trans (HRV.out i hil)
          obtain ⟨m, hm⟩ : ∃ m, s.size - (i + 1) = m := ⟨_, rfl⟩
          have hmz : zs.length - 1 - i = m := by rw [HL.out, ← HDL.out]; omega
          have hmn : s.size - i = m + 1 := by omega
          rw [hmz] at hget
          have hd := HDG.out m
          have hst := Lib.hid (show zs.take (m + 1) = zs.take m ++ [zs[m]?.getD 0] from by
            have hlt : m < zs.length := by rw [HL.out, ← HDL.out]; omega
            rw [List.take_succ_eq_append_getElem hlt, List.getElem?_eq_getElem hlt]; rfl)
          obtain ⟨x, hx⟩ : ∃ x, zs[m]?.getD 0 = x := ⟨_, rfl⟩
          rw [hx] at hget hd hst
          have hch := chr_toNat x hd.1 hd.2
          obtain ⟨c, hc⟩ : ∃ c, chr x = c := ⟨_, rfl⟩
          rw [hc] at hget hch
          have hcb : 48 ≤ c.toNat ∧ c.toNat ≤ 57 := by omega
          have hcx : (c.toNat : Int) - 48 = x := by omega
          rw [hm] at hrow
          have HM := Lib.hid hm; have HMN := Lib.hid hmn
          have hiI : (i : Int) < (s.size : Int) := by omega
          have hm2 : m ≤ 200 := by omega
          clear hx hc hch hm hmn hmz hj0
          go_wp2_with (at_builtin; refine wpList_append_lit rfl _ _ 40 3 rfl Tryz.underlying40 hi hz0 hz1 hz2 rfl w.heap.size _ _ _ rfl hrow #[.int .i64 x] 1 rfl (by simp [Value.oneCell']) (by simp; omega) (by decide) hBs HB.out ?_; intro v' w1 hown' hb1)
          go_roundw
          case rel => exact ⟨i, by omega, rfl, by rw [HMN.out, hst.out, List.map_append]; exact hown', hb1⟩
          case measure => simp [intOf]
end Go.Proofs.YtcjcafekacceiaaGreatDoor

/-! The reference's sum, and Add, Sub, Mul, Compare, walked. -/
namespace Go.Proofs.YtcjcafekacceiaaGreatDoor
open Go.RowKit

theorem rdigits_at (a : ByteArray) (h : vS a = true) (w : World) : Calls Tryz.prog 73 #[.string a] w (DgsOut w (nS a)) := by
  have e := str_nS h
  have := rdigits_any (nS a) (nS_big a) w
  rwa [← e] at this
theorem big_len10 {z : Int} (h : Big z) : (dz 10 z.natAbs).length ≤ 200 := by
  rw [len10]; exact h
set_option maxHeartbeats 1000000 in
theorem rchecked_any (w : World) (b : Bool) (v : Value) (n : Nat) (h : Dt w v n) (hN : (dz 10 n).length ≤ 100000) : Calls Tryz.prog 74 #[.bool b, v] w (ResOut w (resS (sgn b n)) (resE (sgn b n))) := by
  have CT := Lib.hid (rtext_any w b v n h hN)
  generalize sgn b n = z at *
  obtain ⟨al, c, rfl⟩ := h.shape
  generalize (dz 10 n).length = L at *
  clear h hN
  cases hb : bigB z with
  | true =>
    have e1 := resS_ok ((bigB_iff z).1 hb)
    have e2 := resE_ok ((bigB_iff z).1 hb)
    unfold RtxOut at CT
    rw [hb] at CT
    rw [e1, e2]
    generalize str z = s at *
    clear e1 e2 hb
    go_enter Tryz.func74, Tryz.ntmps74
    go_wp2_with fail
    refine CT.out.mono ?_
    rintro e w1 ⟨rfl, hb1⟩
    have HB1 := Lib.hid hb1
    clear hb1
    go_wp2
    go_ret2
    exact ⟨rfl, HB1.out⟩
  | false =>
    have hn : ¬ Big z := fun h => by rw [(bigB_iff z).2 h] at hb; cases hb
    have e1 := resS_no hn
    have e2 := resE_no hn
    unfold RtxOut at CT
    rw [hb] at CT
    rw [e1, e2]
    generalize str z = s at *
    clear e1 e2 hb hn
    go_enter Tryz.func74, Tryz.ntmps74
    go_wp2_with fail
    refine CT.out.mono ?_
    rintro e w1 ⟨rfl, hb1⟩
    have HB1 := Lib.hid hb1
    clear hb1
    go_wp2
    go_ret2
    exact ⟨rfl, HB1.out⟩

theorem sgn_sum_same (b : Bool) (n m : Nat) : sgn b (n + m) = sgn b n + sgn b m := by cases b <;> simp [sgn] <;> omega
theorem sgn_sum_ge (b1 b2 : Bool) (n m : Nat) (h : m ≤ n) (hb : b1 ≠ b2) : sgn b1 (n - m) = sgn b1 n + sgn b2 m := by cases b1 <;> cases b2 <;> simp [sgn] at * <;> omega
theorem sgn_sum_lt (b1 b2 : Bool) (n m : Nat) (h : n < m) (hb : b1 ≠ b2) : sgn b2 (m - n) = sgn b1 n + sgn b2 m := by cases b1 <;> cases b2 <;> simp [sgn] at * <;> omega
theorem len_mono10 {a b : Nat} (h : a ≤ b) : (dz 10 a).length ≤ (dz 10 b).length := dz_length_mono 10 (by decide) a b h
theorem len_add10 (n m L : Nat) (hn : (dz 10 n).length ≤ L) (hm : (dz 10 m).length ≤ L) : (dz 10 (n + m)).length ≤ L + 1 := by
  rw [len10] at *
  rw [Nat.pow_succ]; omega

set_option maxHeartbeats 2000000 in
theorem rsum_any (w : World) (b1 b2 : Bool) (v1 v2 : Value) (n m : Nat) (h1 : Dt w v1 n) (h2 : Dt w v2 m) (hn : (dz 10 n).length ≤ 5000) (hm : (dz 10 m).length ≤ 5000) :
    Calls Tryz.prog 76 #[.bool b1, v1, .bool b2, v2] w (ResOut w (resS (sgn b1 n + sgn b2 m)) (resE (sgn b1 n + sgn b2 m))) := by
  have CP := Lib.hid (rplus_dt w v1 v2 n m h1 h2 (by omega) (by omega))
  have CO := Lib.hid (rorder_any w v1 v2 n m h1 h2 (by omega) (by omega))
  have CM1 := Lib.hid (fun W (hW : Below w.heap.size w W) => rminus_dt W v1 v2 n m (h1.below (Nat.le_refl _) hW) (h2.below (Nat.le_refl _) hW) (by omega))
  have CM2 := Lib.hid (fun W (hW : Below w.heap.size w W) => rminus_dt W v2 v1 m n (h2.below (Nat.le_refl _) hW) (h1.below (Nat.le_refl _) hW) (by omega))
  have hl := len_add10 n m 5000 hn hm
  have C1 := Lib.hid (fun W v (h : Dt W v (n + m)) => rchecked_any W b1 v _ h (by omega))
  have C2 := Lib.hid (fun W v (h : Dt W v (n - m)) => rchecked_any W b1 v _ h (by have := len_mono10 (show n - m ≤ n by omega); omega))
  have C3 := Lib.hid (fun W v (h : Dt W v (m - n)) => rchecked_any W b2 v _ h (by have := len_mono10 (show m - n ≤ m by omega); omega))
  obtain ⟨al1, c1, rfl⟩ := h1.shape
  obtain ⟨al2, c2, rfl⟩ := h2.shape
  generalize (dz 10 n).length = L1 at *
  generalize (dz 10 m).length = L2 at *
  clear h1 h2 hn hm hl
  by_cases hb : b1 = b2
  · subst hb
    have hbb : (b1 == b1) = true := by simp
    rw [sgn_sum_same b1 n m] at C1
    generalize sgn b1 n + sgn b1 m = z at *
    go_enter Tryz.func76, Tryz.ntmps76
    go_wp2_with fail
    refine CP.out.mono ?_
    rintro e w1 ⟨v3, rfl, hv3, hb1⟩
    have HV3 := Lib.hid hv3; have HB1 := Lib.hid hb1
    clear hv3 hb1
    go_wp2_with fail
    refine (C1.out _ _ HV3.out).mono ?_
    rintro e w2 ⟨rfl, hb2⟩
    have HB2 := Lib.hid (HB1.out.trans (hb2.mono HB1.out.size))
    clear hb2
    go_wp2
    go_ret2
    exact ⟨rfl, HB2.out⟩
  · have hbb : (b1 == b2) = false := by simpa using hb
    by_cases hge : m ≤ n
    · have hc0 := cmpN_ge (show ¬ n < m by omega)
      have hs := sgn_sum_ge b1 b2 n m hge hb
      rw [hs] at C2
      generalize sgn b1 n + sgn b2 m = z at *
      generalize cmpN n m = cz at *
      clear hb hs
      go_enter Tryz.func76, Tryz.ntmps76
      go_wp2_with fail
      refine CO.out.mono ?_
      rintro e w1 ⟨rfl, hb1⟩
      have HB1 := Lib.hid hb1
      clear hb1
      go_wp2_with fail
      refine (CM1.out _ HB1.out hge).mono ?_
      rintro e w2 ⟨v3, rfl, hv3, hb2⟩
      have HV3 := Lib.hid hv3; have HB2 := Lib.hid (HB1.out.trans (hb2.mono HB1.out.size))
      clear hv3 hb2
      go_wp2_with fail
      refine (C2.out _ _ HV3.out).mono ?_
      rintro e w3 ⟨rfl, hb3⟩
      have HB3 := Lib.hid (HB2.out.trans (hb3.mono HB2.out.size))
      clear hb3
      go_wp2
      go_ret2
      exact ⟨rfl, HB3.out⟩
    · have hc0 := cmpN_lt (show n < m by omega)
      have hs := sgn_sum_lt b1 b2 n m (by omega) hb
      rw [hs] at C3
      rw [hc0] at CO
      have hle : n ≤ m := by omega
      generalize sgn b1 n + sgn b2 m = z at *
      clear hb hs hc0
      go_enter Tryz.func76, Tryz.ntmps76
      go_wp2_with fail
      refine CO.out.mono ?_
      rintro e w1 ⟨rfl, hb1⟩
      have HB1 := Lib.hid hb1
      clear hb1
      go_wp2_with fail
      refine (CM2.out _ HB1.out hle).mono ?_
      rintro e w2 ⟨v3, rfl, hv3, hb2⟩
      have HV3 := Lib.hid hv3; have HB2 := Lib.hid (HB1.out.trans (hb2.mono HB1.out.size))
      clear hv3 hb2
      go_wp2_with fail
      refine (C3.out _ _ HV3.out).mono ?_
      rintro e w3 ⟨rfl, hb3⟩
      have HB3 := Lib.hid (HB2.out.trans (hb3.mono HB2.out.size))
      clear hb3
      go_wp2
      go_ret2
      exact ⟨rfl, HB3.out⟩
theorem sgn_neg_self (y : Int) : sgn (!decide (y < 0)) y.natAbs = -y := by
  unfold sgn
  by_cases h : y < 0 <;> simp [h] <;> omega

set_option maxRecDepth 100000 in
set_option maxHeartbeats 2000000 in
theorem radd_any (a b : ByteArray) (w : World) (ha : a.size ≤ 9223372036854775807) (hb : b.size ≤ 9223372036854775807) :
    Calls Tryz.prog 48 #[.string a, .string b] w (ResOut w (opS (fun x y => x + y) a b) (opE (fun x y => x + y) a b)) := by
  have CA := Lib.hid (fun W => rvalid_any a W ha)
  have CB := Lib.hid (fun W => rvalid_any b W hb)
  cases hva : vS a with
  | false =>
    rw [hva] at CA
    rw [show opS (fun x y => x + y) a b = ⟨#[]⟩ from by unfold opS; rw [hva]; rfl, show opE (fun x y => x + y) a b = 30 from by unfold opE; rw [hva]; rfl]
    clear hva
    go_enter Tryz.func48, Tryz.ntmps48
    go_wp2_with fail
    refine (CA.out _).mono ?_
    rintro e w1 ⟨rfl, rfl⟩
    go_wp2
    go_ret2
    exact ⟨rfl, Below.refl _ _⟩
  | true =>
    cases hvb : vS b with
    | false =>
      rw [hva] at CA
      rw [hvb] at CB
      rw [show opS (fun x y => x + y) a b = ⟨#[]⟩ from by unfold opS; rw [hva, hvb]; rfl, show opE (fun x y => x + y) a b = 30 from by unfold opE; rw [hva, hvb]; rfl]
      clear hva hvb
      go_enter Tryz.func48, Tryz.ntmps48
      go_wp2_with fail
      refine (CA.out _).mono ?_
      rintro e w1 ⟨rfl, rfl⟩
      go_wp2_with fail
      refine (CB.out _).mono ?_
      rintro e w2 ⟨rfl, rfl⟩
      go_wp2
      go_ret2
      exact ⟨rfl, Below.refl _ _⟩
    | true =>
      have CD1 := Lib.hid (fun W => rdigits_at a hva W)
      have CD2 := Lib.hid (fun W => rdigits_at b hvb W)
      rw [hva] at CA
      rw [hvb] at CB
      rw [show opS (fun x y => x + y) a b = resS ((fun x y => x + y) (nS a) (nS b)) from by unfold opS; rw [hva, hvb]; rfl, show opE (fun x y => x + y) a b = resE ((fun x y => x + y) (nS a) (nS b)) from by unfold opE; rw [hva, hvb]; rfl]
      clear hva hvb
      have hx := big_len10 (nS_big a)
      have hy := big_len10 (nS_big b)
      obtain ⟨x, hxx⟩ : ∃ x, nS a = x := ⟨_, rfl⟩
      obtain ⟨y, hyy⟩ : ∃ y, nS b = y := ⟨_, rfl⟩
      rw [hxx] at CD1 hx
      rw [hyy] at CD2 hy
      rw [hxx, hyy]
      clear hxx hyy
      go_enter Tryz.func48, Tryz.ntmps48
      go_wp2_with fail
      refine (CA.out _).mono ?_
      rintro e w1 ⟨rfl, rfl⟩
      go_wp2_with fail
      refine (CB.out _).mono ?_
      rintro e w2 ⟨rfl, rfl⟩
      go_wp2_with fail
      refine (CD1.out _).mono ?_
      rintro e w3 ⟨v3, rfl, hv3, hb3⟩
      have HV3 := Lib.hid hv3; have HB3 := Lib.hid hb3
      clear hv3 hb3
      go_wp2_with fail
      refine (CD2.out _).mono ?_
      rintro e w4 ⟨v4, rfl, hv4, hb4⟩
      have HV4 := Lib.hid hv4; have HV3' := Lib.hid (HV3.out.below (Nat.le_refl _) hb4); have HB4 := Lib.hid (HB3.out.trans (hb4.mono HB3.out.size))
      clear hv4 hb4
      have CS := Lib.hid (fun W (h1 : Dt W v3 x.natAbs) (h2 : Dt W v4 y.natAbs) => rsum_any W (decide (x < 0)) (decide (y < 0)) v3 v4 _ _ h1 h2 (by omega) (by omega))
      rw [sgn_self, sgn_self] at CS
      go_wp2_with fail
      refine (CS.out _ HV3'.out HV4.out).mono ?_
      rintro e w5 ⟨rfl, hb5⟩
      have HB5 := Lib.hid (HB4.out.trans (hb5.mono HB4.out.size))
      clear hb5
      go_wp2
      go_ret2
      exact ⟨rfl, HB5.out⟩

set_option maxRecDepth 100000 in
set_option maxHeartbeats 2000000 in
theorem rsub_any (a b : ByteArray) (w : World) (ha : a.size ≤ 9223372036854775807) (hb : b.size ≤ 9223372036854775807) :
    Calls Tryz.prog 49 #[.string a, .string b] w (ResOut w (opS (fun x y => x - y) a b) (opE (fun x y => x - y) a b)) := by
  have CA := Lib.hid (fun W => rvalid_any a W ha)
  have CB := Lib.hid (fun W => rvalid_any b W hb)
  cases hva : vS a with
  | false =>
    rw [hva] at CA
    rw [show opS (fun x y => x - y) a b = ⟨#[]⟩ from by unfold opS; rw [hva]; rfl, show opE (fun x y => x - y) a b = 30 from by unfold opE; rw [hva]; rfl]
    clear hva
    go_enter Tryz.func49, Tryz.ntmps49
    go_wp2_with fail
    refine (CA.out _).mono ?_
    rintro e w1 ⟨rfl, rfl⟩
    go_wp2
    go_ret2
    exact ⟨rfl, Below.refl _ _⟩
  | true =>
    cases hvb : vS b with
    | false =>
      rw [hva] at CA
      rw [hvb] at CB
      rw [show opS (fun x y => x - y) a b = ⟨#[]⟩ from by unfold opS; rw [hva, hvb]; rfl, show opE (fun x y => x - y) a b = 30 from by unfold opE; rw [hva, hvb]; rfl]
      clear hva hvb
      go_enter Tryz.func49, Tryz.ntmps49
      go_wp2_with fail
      refine (CA.out _).mono ?_
      rintro e w1 ⟨rfl, rfl⟩
      go_wp2_with fail
      refine (CB.out _).mono ?_
      rintro e w2 ⟨rfl, rfl⟩
      go_wp2
      go_ret2
      exact ⟨rfl, Below.refl _ _⟩
    | true =>
      have CD1 := Lib.hid (fun W => rdigits_at a hva W)
      have CD2 := Lib.hid (fun W => rdigits_at b hvb W)
      rw [hva] at CA
      rw [hvb] at CB
      rw [show opS (fun x y => x - y) a b = resS ((fun x y => x - y) (nS a) (nS b)) from by unfold opS; rw [hva, hvb]; rfl, show opE (fun x y => x - y) a b = resE ((fun x y => x - y) (nS a) (nS b)) from by unfold opE; rw [hva, hvb]; rfl]
      clear hva hvb
      have hx := big_len10 (nS_big a)
      have hy := big_len10 (nS_big b)
      obtain ⟨x, hxx⟩ : ∃ x, nS a = x := ⟨_, rfl⟩
      obtain ⟨y, hyy⟩ : ∃ y, nS b = y := ⟨_, rfl⟩
      rw [hxx] at CD1 hx
      rw [hyy] at CD2 hy
      rw [hxx, hyy]
      clear hxx hyy
      go_enter Tryz.func49, Tryz.ntmps49
      go_wp2_with fail
      refine (CA.out _).mono ?_
      rintro e w1 ⟨rfl, rfl⟩
      go_wp2_with fail
      refine (CB.out _).mono ?_
      rintro e w2 ⟨rfl, rfl⟩
      go_wp2_with fail
      refine (CD1.out _).mono ?_
      rintro e w3 ⟨v3, rfl, hv3, hb3⟩
      have HV3 := Lib.hid hv3; have HB3 := Lib.hid hb3
      clear hv3 hb3
      go_wp2_with fail
      refine (CD2.out _).mono ?_
      rintro e w4 ⟨v4, rfl, hv4, hb4⟩
      have HV4 := Lib.hid hv4; have HV3' := Lib.hid (HV3.out.below (Nat.le_refl _) hb4); have HB4 := Lib.hid (HB3.out.trans (hb4.mono HB3.out.size))
      clear hv4 hb4
      have CS := Lib.hid (fun W (h1 : Dt W v3 x.natAbs) (h2 : Dt W v4 y.natAbs) => rsum_any W (decide (x < 0)) (!decide (y < 0)) v3 v4 _ _ h1 h2 (by omega) (by omega))
      rw [sgn_self, sgn_neg_self, show x + -y = x - y by omega] at CS
      obtain ⟨by', hby⟩ : ∃ by', decide (y < 0) = by' := ⟨_, rfl⟩
      rw [hby] at CS ⊢
      clear hby
      go_wp2_with fail
      refine (CS.out _ HV3'.out HV4.out).mono ?_
      rintro e w5 ⟨rfl, hb5⟩
      have HB5 := Lib.hid (HB4.out.trans (hb5.mono HB4.out.size))
      clear hb5
      go_wp2
      go_ret2
      exact ⟨rfl, HB5.out⟩

set_option maxRecDepth 100000 in
set_option maxHeartbeats 2000000 in
theorem rmul_any (a b : ByteArray) (w : World) (ha : a.size ≤ 9223372036854775807) (hb : b.size ≤ 9223372036854775807) :
    Calls Tryz.prog 44 #[.string a, .string b] w (ResOut w (opS (fun x y => x * y) a b) (opE (fun x y => x * y) a b)) := by
  have CA := Lib.hid (fun W => rvalid_any a W ha)
  have CB := Lib.hid (fun W => rvalid_any b W hb)
  cases hva : vS a with
  | false =>
    rw [hva] at CA
    rw [show opS (fun x y => x * y) a b = ⟨#[]⟩ from by unfold opS; rw [hva]; rfl, show opE (fun x y => x * y) a b = 30 from by unfold opE; rw [hva]; rfl]
    clear hva
    go_enter Tryz.func44, Tryz.ntmps44
    go_wp2_with fail
    refine (CA.out _).mono ?_
    rintro e w1 ⟨rfl, rfl⟩
    go_wp2
    go_ret2
    exact ⟨rfl, Below.refl _ _⟩
  | true =>
    cases hvb : vS b with
    | false =>
      rw [hva] at CA
      rw [hvb] at CB
      rw [show opS (fun x y => x * y) a b = ⟨#[]⟩ from by unfold opS; rw [hva, hvb]; rfl, show opE (fun x y => x * y) a b = 30 from by unfold opE; rw [hva, hvb]; rfl]
      clear hva hvb
      go_enter Tryz.func44, Tryz.ntmps44
      go_wp2_with fail
      refine (CA.out _).mono ?_
      rintro e w1 ⟨rfl, rfl⟩
      go_wp2_with fail
      refine (CB.out _).mono ?_
      rintro e w2 ⟨rfl, rfl⟩
      go_wp2
      go_ret2
      exact ⟨rfl, Below.refl _ _⟩
    | true =>
      have CD1 := Lib.hid (fun W => rdigits_at a hva W)
      have CD2 := Lib.hid (fun W => rdigits_at b hvb W)
      rw [hva] at CA
      rw [hvb] at CB
      rw [show opS (fun x y => x * y) a b = resS ((fun x y => x * y) (nS a) (nS b)) from by unfold opS; rw [hva, hvb]; rfl, show opE (fun x y => x * y) a b = resE ((fun x y => x * y) (nS a) (nS b)) from by unfold opE; rw [hva, hvb]; rfl]
      clear hva hvb
      have hx := big_len10 (nS_big a)
      have hy := big_len10 (nS_big b)
      obtain ⟨x, hxx⟩ : ∃ x, nS a = x := ⟨_, rfl⟩
      obtain ⟨y, hyy⟩ : ∃ y, nS b = y := ⟨_, rfl⟩
      rw [hxx] at CD1 hx
      rw [hyy] at CD2 hy
      rw [hxx, hyy]
      clear hxx hyy
      go_enter Tryz.func44, Tryz.ntmps44
      go_wp2_with fail
      refine (CA.out _).mono ?_
      rintro e w1 ⟨rfl, rfl⟩
      go_wp2_with fail
      refine (CB.out _).mono ?_
      rintro e w2 ⟨rfl, rfl⟩
      go_wp2_with fail
      refine (CD1.out _).mono ?_
      rintro e w3 ⟨v3, rfl, hv3, hb3⟩
      have HV3 := Lib.hid hv3; have HB3 := Lib.hid hb3
      clear hv3 hb3
      go_wp2_with fail
      refine (CD2.out _).mono ?_
      rintro e w4 ⟨v4, rfl, hv4, hb4⟩
      have HV4 := Lib.hid hv4; have HV3' := Lib.hid (HV3.out.below (Nat.le_refl _) hb4); have HB4 := Lib.hid (HB3.out.trans (hb4.mono HB3.out.size))
      clear hv4 hb4
      have CM := Lib.hid (fun W (h1 : Dt W v3 x.natAbs) (h2 : Dt W v4 y.natAbs) => rtimes_dt W v3 v4 _ _ h1 h2 (by omega) (by omega))
      have hml : (dz 10 (x.natAbs * y.natAbs)).length ≤ 400 := by
        have h1 := dz_lt 10 (by decide) x.natAbs
        have h2 := dz_lt 10 (by decide) y.natAbs
        have h3 : x.natAbs * y.natAbs < 10 ^ ((dz 10 x.natAbs).length + (dz 10 y.natAbs).length) := by rw [Nat.pow_add]; exact Nat.mul_lt_mul'' h1 h2
        have h4 := (len10 _ _).2 h3
        omega
      have CS := Lib.hid (fun W v (h : Dt W v (x.natAbs * y.natAbs)) => rchecked_any W (!decide (x < 0) == decide (y < 0)) v _ h (by omega))
      rw [sgn_mul] at CS
      obtain ⟨bx, hbx⟩ : ∃ bx, decide (x < 0) = bx := ⟨_, rfl⟩
      obtain ⟨by', hby⟩ : ∃ by', decide (y < 0) = by' := ⟨_, rfl⟩
      rw [hbx, hby] at CS
      rw [hby]
      have HBX := Lib.hid hbx
      clear hby hml
      go_wp2_with fail
      clear hbx
      refine (CM.out _ HV3'.out HV4.out).mono ?_
      rintro e w5 ⟨v5, rfl, hv5, hb5⟩
      have HV5 := Lib.hid hv5; have HB5 := Lib.hid (HB4.out.trans (hb5.mono HB4.out.size))
      clear hv5 hb5
      go_wp2_with fail
      refine (CS.out _ _ HV5.out).mono ?_
      rintro e w6 ⟨rfl, hb6⟩
      have HB6 := Lib.hid (HB5.out.trans (hb6.mono HB5.out.size))
      clear hb6
      go_wp2
      go_ret2
      exact ⟨rfl, HB6.out⟩

end Go.Proofs.YtcjcafekacceiaaGreatDoor

/-! The reference's Compare and Gcd, walked. -/
namespace Go.Proofs.YtcjcafekacceiaaGreatDoor
open Go.RowKit

set_option maxRecDepth 100000 in
set_option maxHeartbeats 2000000 in
theorem rcmp_any (a b : ByteArray) (w : World) (ha : a.size ≤ 9223372036854775807) (hb : b.size ≤ 9223372036854775807) :
    Calls Tryz.prog 53 #[.string a, .string b] w (IntOut w (cmpS a b)) := by
  have CA := Lib.hid (fun W => rvalid_any a W ha)
  have CB := Lib.hid (fun W => rvalid_any b W hb)
  cases hva : vS a with
  | false =>
    rw [hva] at CA
    rw [show cmpS a b = 0 from by unfold cmpS; rw [hva]; rfl]
    clear hva
    go_enter Tryz.func53, Tryz.ntmps53
    go_wp2_with fail
    refine (CA.out _).mono ?_
    rintro e w1 ⟨rfl, rfl⟩
    go_wp2
    go_ret
    exact ⟨rfl, Below.refl _ _⟩
  | true =>
    cases hvb : vS b with
    | false =>
      rw [hva] at CA
      rw [hvb] at CB
      rw [show cmpS a b = 0 from by unfold cmpS; rw [hva, hvb]; rfl]
      clear hva hvb
      go_enter Tryz.func53, Tryz.ntmps53
      go_wp2_with fail
      refine (CA.out _).mono ?_
      rintro e w1 ⟨rfl, rfl⟩
      go_wp2_with fail
      refine (CB.out _).mono ?_
      rintro e w2 ⟨rfl, rfl⟩
      go_wp2
      go_ret
      exact ⟨rfl, Below.refl _ _⟩
    | true =>
      have CD1 := Lib.hid (fun W => rdigits_at a hva W)
      have CD2 := Lib.hid (fun W => rdigits_at b hvb W)
      rw [hva] at CA
      rw [hvb] at CB
      rw [show cmpS a b = cmpZ (nS a) (nS b) from by unfold cmpS; rw [hva, hvb]; rfl]
      clear hva hvb
      have hx := big_len10 (nS_big a)
      have hy := big_len10 (nS_big b)
      obtain ⟨x, hxx⟩ : ∃ x, nS a = x := ⟨_, rfl⟩
      obtain ⟨y, hyy⟩ : ∃ y, nS b = y := ⟨_, rfl⟩
      rw [hxx] at CD1 hx
      rw [hyy] at CD2 hy
      rw [hxx, hyy]
      clear hxx hyy
      by_cases hx0 : x < 0
      · have hdx : decide (x < 0) = true := by simpa using hx0
        unfold DgsOut at CD1
        rw [hdx] at CD1
        clear hdx
        by_cases hy0 : y < 0
        · have hdy : decide (y < 0) = true := by simpa using hy0
          unfold DgsOut at CD2
          rw [hdy] at CD2
          clear hdy
          go_enter Tryz.func53, Tryz.ntmps53
          go_wp2_with fail
          refine (CA.out _).mono ?_
          rintro e w1 ⟨rfl, rfl⟩
          go_wp2_with fail
          refine (CB.out _).mono ?_
          rintro e w2 ⟨rfl, rfl⟩
          go_wp2_with fail
          refine (CD1.out _).mono ?_
          rintro e w3 ⟨v3, rfl, hv3, hb3⟩
          have HV3 := Lib.hid hv3; have HB3 := Lib.hid hb3
          clear hv3 hb3
          go_wp2_with fail
          refine (CD2.out _).mono ?_
          rintro e w4 ⟨v4, rfl, hv4, hb4⟩
          have HV4 := Lib.hid hv4; have HV3' := Lib.hid (HV3.out.below (Nat.le_refl _) hb4); have HB4 := Lib.hid (HB3.out.trans (hb4.mono HB3.out.size))
          clear hv4 hb4
          have CO := Lib.hid (rorder_any w4 v4 v3 y.natAbs x.natAbs HV4.out HV3'.out (by omega) (by omega))
          rw [← cmpZ_both (x := x) (y := y) (by omega) (by omega)] at CO
          clear hx0 hy0
          go_wp2_with fail
          refine CO.out.mono ?_
          rintro e w5 ⟨rfl, hb5⟩
          have HB5 := Lib.hid (HB4.out.trans (hb5.mono HB4.out.size))
          clear hb5
          go_wp2
          go_ret
          exact ⟨rfl, HB5.out⟩
        · have hdy : decide (y < 0) = false := by simpa using hy0
          unfold DgsOut at CD2
          rw [hdy] at CD2
          clear hdy
          go_enter Tryz.func53, Tryz.ntmps53
          go_wp2_with fail
          refine (CA.out _).mono ?_
          rintro e w1 ⟨rfl, rfl⟩
          go_wp2_with fail
          refine (CB.out _).mono ?_
          rintro e w2 ⟨rfl, rfl⟩
          go_wp2_with fail
          refine (CD1.out _).mono ?_
          rintro e w3 ⟨v3, rfl, hv3, hb3⟩
          have HV3 := Lib.hid hv3; have HB3 := Lib.hid hb3
          clear hv3 hb3
          go_wp2_with fail
          refine (CD2.out _).mono ?_
          rintro e w4 ⟨v4, rfl, hv4, hb4⟩
          have HV4 := Lib.hid hv4; have HV3' := Lib.hid (HV3.out.below (Nat.le_refl _) hb4); have HB4 := Lib.hid (HB3.out.trans (hb4.mono HB3.out.size))
          clear hv4 hb4
          have hcz : cmpZ x y = -1 := by unfold cmpZ; rw [if_pos (by omega)]
          have HCZ := Lib.hid hcz
          clear hx0 hy0 hcz
          go_wp2
          go_ret
          exact ⟨by rw [HCZ.out]; rfl, HB4.out⟩
      · have hdx : decide (x < 0) = false := by simpa using hx0
        unfold DgsOut at CD1
        rw [hdx] at CD1
        clear hdx
        by_cases hy0 : y < 0
        · have hdy : decide (y < 0) = true := by simpa using hy0
          unfold DgsOut at CD2
          rw [hdy] at CD2
          clear hdy
          go_enter Tryz.func53, Tryz.ntmps53
          go_wp2_with fail
          refine (CA.out _).mono ?_
          rintro e w1 ⟨rfl, rfl⟩
          go_wp2_with fail
          refine (CB.out _).mono ?_
          rintro e w2 ⟨rfl, rfl⟩
          go_wp2_with fail
          refine (CD1.out _).mono ?_
          rintro e w3 ⟨v3, rfl, hv3, hb3⟩
          have HV3 := Lib.hid hv3; have HB3 := Lib.hid hb3
          clear hv3 hb3
          go_wp2_with fail
          refine (CD2.out _).mono ?_
          rintro e w4 ⟨v4, rfl, hv4, hb4⟩
          have HV4 := Lib.hid hv4; have HV3' := Lib.hid (HV3.out.below (Nat.le_refl _) hb4); have HB4 := Lib.hid (HB3.out.trans (hb4.mono HB3.out.size))
          clear hv4 hb4
          have hcz : cmpZ x y = 1 := by unfold cmpZ; rw [if_neg (by omega), if_pos (by omega)]
          have HCZ := Lib.hid hcz
          clear hx0 hy0 hcz
          go_wp2
          go_ret
          exact ⟨by rw [HCZ.out]; rfl, HB4.out⟩
        · have hdy : decide (y < 0) = false := by simpa using hy0
          unfold DgsOut at CD2
          rw [hdy] at CD2
          clear hdy
          go_enter Tryz.func53, Tryz.ntmps53
          go_wp2_with fail
          refine (CA.out _).mono ?_
          rintro e w1 ⟨rfl, rfl⟩
          go_wp2_with fail
          refine (CB.out _).mono ?_
          rintro e w2 ⟨rfl, rfl⟩
          go_wp2_with fail
          refine (CD1.out _).mono ?_
          rintro e w3 ⟨v3, rfl, hv3, hb3⟩
          have HV3 := Lib.hid hv3; have HB3 := Lib.hid hb3
          clear hv3 hb3
          go_wp2_with fail
          refine (CD2.out _).mono ?_
          rintro e w4 ⟨v4, rfl, hv4, hb4⟩
          have HV4 := Lib.hid hv4; have HV3' := Lib.hid (HV3.out.below (Nat.le_refl _) hb4); have HB4 := Lib.hid (HB3.out.trans (hb4.mono HB3.out.size))
          clear hv4 hb4
          have CO := Lib.hid (rorder_any w4 v3 v4 x.natAbs y.natAbs HV3'.out HV4.out (by omega) (by omega))
          rw [← cmpZ_none (x := x) (y := y) (by omega) (by omega)] at CO
          clear hx0 hy0
          go_wp2_with fail
          refine CO.out.mono ?_
          rintro e w5 ⟨rfl, hb5⟩
          have HB5 := Lib.hid (HB4.out.trans (hb5.mono HB4.out.size))
          clear hb5
          go_wp2
          go_ret
          exact ⟨rfl, HB5.out⟩

set_option maxRecDepth 100000 in
set_option maxHeartbeats 2000000 in
theorem rgcd_any (a b : ByteArray) (w : World) (ha : a.size ≤ 9223372036854775807) (hb : b.size ≤ 9223372036854775807) :
    Calls Tryz.prog 62 #[.string a, .string b] w (ResOut w (opS gcdZ a b) (opE gcdZ a b)) := by
  have CA := Lib.hid (fun W => rvalid_any a W ha)
  have CB := Lib.hid (fun W => rvalid_any b W hb)
  cases hva : vS a with
  | false =>
    rw [hva] at CA
    rw [show opS gcdZ a b = ⟨#[]⟩ from by unfold opS; rw [hva]; rfl, show opE gcdZ a b = 30 from by unfold opE; rw [hva]; rfl]
    clear hva
    go_enter Tryz.func62, Tryz.ntmps62
    go_wp2_with fail
    refine (CA.out _).mono ?_
    rintro e w1 ⟨rfl, rfl⟩
    go_wp2
    go_ret2
    exact ⟨rfl, Below.refl _ _⟩
  | true =>
    cases hvb : vS b with
    | false =>
      rw [hva] at CA
      rw [hvb] at CB
      rw [show opS gcdZ a b = ⟨#[]⟩ from by unfold opS; rw [hva, hvb]; rfl, show opE gcdZ a b = 30 from by unfold opE; rw [hva, hvb]; rfl]
      clear hva hvb
      go_enter Tryz.func62, Tryz.ntmps62
      go_wp2_with fail
      refine (CA.out _).mono ?_
      rintro e w1 ⟨rfl, rfl⟩
      go_wp2_with fail
      refine (CB.out _).mono ?_
      rintro e w2 ⟨rfl, rfl⟩
      go_wp2
      go_ret2
      exact ⟨rfl, Below.refl _ _⟩
    | true =>
      have CD1 := Lib.hid (fun W => rdigits_at a hva W)
      have CD2 := Lib.hid (fun W => rdigits_at b hvb W)
      rw [hva] at CA
      rw [hvb] at CB
      rw [show opS gcdZ a b = resS (gcdZ (nS a) (nS b)) from by unfold opS; rw [hva, hvb]; rfl, show opE gcdZ a b = resE (gcdZ (nS a) (nS b)) from by unfold opE; rw [hva, hvb]; rfl]
      clear hva hvb
      have hx := big_len10 (nS_big a)
      have hy := big_len10 (nS_big b)
      obtain ⟨x, hxx⟩ : ∃ x, nS a = x := ⟨_, rfl⟩
      obtain ⟨y, hyy⟩ : ∃ y, nS b = y := ⟨_, rfl⟩
      rw [hxx] at CD1 hx
      rw [hyy] at CD2 hy
      rw [hxx, hyy]
      clear hxx hyy
      obtain ⟨z, hz⟩ : ∃ z, gcdZ x y = z := ⟨_, rfl⟩
      rw [hz]
      have HZ := Lib.hid (show ((Nat.gcd x.natAbs y.natAbs : Nat) : Int) = z from hz)
      clear hz
      go_enter Tryz.func62, Tryz.ntmps62
      go_wp2_with fail
      refine (CA.out _).mono ?_
      rintro e w1 ⟨rfl, rfl⟩
      go_wp2_with fail
      refine (CB.out _).mono ?_
      rintro e w2 ⟨rfl, rfl⟩
      go_wp2_with fail
      refine (CD1.out _).mono ?_
      rintro e w3 ⟨v3, rfl, hv3, hb3⟩
      have HV3 := Lib.hid hv3; have HB3 := Lib.hid hb3
      clear hv3 hb3
      go_wp2_with fail
      refine (CD2.out _).mono ?_
      rintro e w4 ⟨v4, rfl, hv4, hb4⟩
      have HV4 := Lib.hid hv4; have HV3' := Lib.hid (HV3.out.below (Nat.le_refl _) hb4); have HB4 := Lib.hid (HB3.out.trans (hb4.mono HB3.out.size))
      clear hv4 hb4
      obtain ⟨bx, hbx⟩ : ∃ bx, decide (x < 0) = bx := ⟨_, rfl⟩
      obtain ⟨by', hby⟩ : ∃ by', decide (y < 0) = by' := ⟨_, rfl⟩
      rw [hby]
      obtain ⟨al3, c3, rfl⟩ := HV3.out.shape
      obtain ⟨al4, c4, rfl⟩ := HV4.out.shape
      generalize x.natAbs = p at *
      generalize y.natAbs = r at *
      have hxl : (dz 10 p).length ≤ 200 := hx
      have hyl : (dz 10 r).length ≤ 200 := hy
      clear hbx hby hx hy
      go_wp2_with fail
      go_loopg [7, 9] r (fun k u v wr => ∃ q, Dt wr u q ∧ Dt wr v k ∧ Nat.gcd q k = Nat.gcd p r ∧ (dz 10 q).length ≤ 200 ∧ (dz 10 k).length ≤ 200 ∧ Below w2.heap.size w2 wr)
      case atStart => exact ⟨p, HV3'.out, HV4.out, rfl, hxl, hyl, HB4.out⟩
      case round =>
        obtain ⟨q, hq, hk, hg, hql, hkl, hB⟩ := hrel
        obtain ⟨alq, cq, rfl⟩ := hq.shape
        obtain ⟨alk, ck, rfl⟩ := hk.shape
        have HQ := Lib.hid hq; have HK := Lib.hid hk; have HG := Lib.hid hg; have HB := Lib.hid hB
        clear hq hk hg hB
        by_cases hk0 : gk = 0
        · have hl0 : (dz 10 gk).length = 0 := by rw [hk0, dz_zero]; rfl
          have CC := Lib.hid (rchecked_any wr false _ q HQ.out (by omega))
          have hgg : q = Nat.gcd p r := by have := HG.out; rw [hk0, Nat.gcd_zero_right] at this; exact this
          rw [show sgn false q = z from by rw [← HZ.out, hgg]; rfl] at CC
          generalize (dz 10 q).length = LQ at *
          rw [hl0]
          clear hk0 hl0 hgg
          go_wp2_with fail
          refine CC.out.mono ?_
          rintro e w5 ⟨rfl, hb5⟩
          have HB5 := Lib.hid (HB.out.trans (hb5.mono HB.out.size))
          clear hb5
          go_wp2
          go_ret2
          exact ⟨rfl, HB5.out⟩
        · have hpos := (dz_length_pos 10 (by decide) gk).2 hk0
          have CD := Lib.hid (rdivided_dt wr _ _ q gk HQ.out HK.out (by omega) (by omega) (by omega))
          have hml := len_mono10 (Nat.le_of_lt (Nat.mod_lt q (show 0 < gk by omega)))
          obtain ⟨LQ, hLQ⟩ : ∃ LQ, (dz 10 q).length = LQ := ⟨_, rfl⟩
          obtain ⟨LK, hLK⟩ : ∃ LK, (dz 10 gk).length = LK := ⟨_, rfl⟩
          rw [hLQ] at CD
          rw [hLK] at CD HK hpos
          rw [hLQ, hLK]
          have HLK := Lib.hid hLK
          clear hLQ hLK
          go_wp2_with fail
          refine CD.out.mono ?_
          rintro e w5 ⟨v5, v6, rfl, hv5, hv6, hb5⟩
          have HV6 := Lib.hid hv6; have HK5 := Lib.hid (HK.out.below (Nat.le_refl _) hb5); have HB5 := Lib.hid (HB.out.trans (hb5.mono HB.out.size))
          clear hv5 hv6 hb5
          go_wp2
          go_roundg (q % gk)
          case measure => exact Nat.mod_lt _ (by omega)
          case rel => exact ⟨gk, HK5.out, HV6.out, by rw [← gcd_step]; exact HG.out, hkl, by omega, HB5.out⟩

end Go.Proofs.YtcjcafekacceiaaGreatDoor
