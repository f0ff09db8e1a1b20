/- The walk of IntegerText. -/
import Derived.Test.YtebjjgbdiabapaaGreatDoorRdc
namespace Go.Proofs.YtebjjgbdiabapaaGreatDoor
open Go.RowKit

theorem big_i64 {n : Int} (h0 : -9223372036854775808 ≤ n) (h1 : n ≤ 9223372036854775807) : Big n := by
  unfold Big
  exact Nat.lt_of_le_of_lt (show n.natAbs ≤ 9223372036854775808 by omega) (by decide +kernel)
theorem ti_at {n : Int} (h0 : -9223372036854775808 ≤ n) (h1 : n ≤ 9223372036854775807) : tiV (str n) = n ∧ tiE (str n) = 0 := by
  have hb := big_i64 h0 h1
  have hv : (vS (str n) && inR (nS (str n))) = true := by
    rw [(vS_str n).2 hb, nS_str hb, (inR_iff n).2 ⟨h0, h1⟩]; rfl
  unfold tiV tiE
  rw [hv, nS_str hb]; exact ⟨rfl, rfl⟩
theorem cutn (s : ByteArray) (m : Nat) : ∃ k : Nat, min (s.size : Int) (m : Int) = k ∧ (k : Int) ≤ s.size ∧ (s.extract 0 k).size ≤ m := by
  refine ⟨min s.size m, by omega, by omega, ?_⟩
  rw [ByteArray.size_extract]; omega
theorem str_small0 {z : Int} (h : Big z) : (str z).size ≤ 300 := by
  have h1 := shw_length z h
  have h2 : (str z).size = (shw z).length := by rw [← str_data]; rfl
  omega
set_option maxRecDepth 100000 in
set_option maxHeartbeats 8000000 in
theorem text_walk (n : Int) (h0 : -9223372036854775808 ≤ n) (h1 : n ≤ 9223372036854775807) (s : ByteArray) (w : World) (ht : Tb w) (he : Er w) :
    Calls Tryz.prog 5 #[.int .i64 n, .string s] w fun e w' => e = .returned (.bool true) ∧ Below w.heap.size w w' := by
  have HT := Lib.hid (fun W (hW : Below w.heap.size w W) => ht.below hW)
  have HE := Lib.hid (fun W (hW : Below w.heap.size w W) => he.below hW)
  have CSN := Lib.hid (sane_any w ht)
  clear ht he
  have hbn := big_i64 h0 h1
  have hss := str_size hbn
  obtain ⟨k, hk1, hk2, hk3⟩ := cutn s 30
  rw [show ((30 : Nat) : Int) = 30 from rfl] at hk1
  have hti := ti_at h0 h1
  have CF := Lib.hid (fun W (hW : Below w.heap.size w W) => fromInt_any n h0 h1 W (HT.out W hW))
  have CT := Lib.hid (fun W (hW : Below w.heap.size w W) => toInt_any (str n) W (by have := str_small0 hbn; omega) (HE.out W hW))
  rw [hti.1, hti.2] at CT
  have CV := Lib.hid (fun W => valid_str hbn W)
  obtain ⟨t, htt⟩ : ∃ t, str n = t := ⟨_, rfl⟩
  rw [htt] at CF CT CV hss
  obtain ⟨u, hu⟩ : ∃ u, s.extract 0 k = u := ⟨_, rfl⟩
  rw [hu] at hk3
  have CU := Lib.hid (fun W (hW : Below w.heap.size w W) => toInt_any u W (by omega) (HE.out W hW))
  have CVU := Lib.hid (fun W => valid_any u W (by omega))
  rw [show vld u.data.toList = vS u from rfl] at CVU
  clear htt hti hbn
  by_cases hv : (vS u && inR (nS u)) = true
  · have hvu : vS u = true := by
      rw [Bool.and_eq_true] at hv; exact hv.1
    have hin : inR (nS u) = true := by
      rw [Bool.and_eq_true] at hv; exact hv.2
    have hr := (inR_iff _).1 hin
    have e1 : tiV u = nS u := by unfold tiV; rw [hv]; rfl
    have e2 : tiE u = 0 := by unfold tiE; rw [hv]; rfl
    have CFU := Lib.hid (fun W (hW : Below w.heap.size w W) => fromInt_any (nS u) hr.1 hr.2 W (HT.out W hW))
    rw [← str_nS hvu] at CFU
    rw [hvu] at CVU
    rw [e1, e2] at CU
    obtain ⟨z, hz⟩ : ∃ z, nS u = z := ⟨_, rfl⟩
    rw [hz] at CU CFU
    clear e1 e2 hvu hin hr hz hv
    go_enter Tryz.func5, Tryz.ntmps5
    go_wp2_with fail
    (with_reducible refine CSN.out.mono ?_)
    rintro e w1 ⟨rfl, hb⟩
    have HB1 := Lib.hid hb
    clear hb
    go_wp2_with fail
    (with_reducible refine (CF.out _ HB1.out).mono ?_)
    rintro e w2 ⟨rfl, hb⟩
    have HB2 := Lib.hid (HB1.out.trans (hb.mono HB1.out.size))
    clear hb
    go_wp2_with fail
    (with_reducible refine (CT.out _ HB2.out).mono ?_)
    rintro e w3 ⟨rfl, hb⟩
    have HB3 := Lib.hid (HB2.out.trans (hb.mono HB2.out.size))
    clear hb
    go_wp2_with fail
    (with_reducible refine (CU.out _ HB3.out).mono ?_)
    rintro e w4 ⟨rfl, hb⟩
    have HB4 := Lib.hid (HB3.out.trans (hb.mono HB3.out.size))
    clear hb
    go_wp2_with fail
    (with_reducible refine (CV.out _).mono ?_)
    rintro e w5 ⟨rfl, rfl⟩
    go_wp2_with fail
    (with_reducible refine (CVU.out _).mono ?_)
    rintro e w6 ⟨rfl, rfl⟩
    go_wp2_with fail
    (with_reducible refine (CFU.out _ HB4.out).mono ?_)
    rintro e w7 ⟨rfl, hb⟩
    have HB7 := Lib.hid (HB4.out.trans (hb.mono HB4.out.size))
    clear hb
    go_wp2
    go_ret
    exact ⟨rfl, HB7.out⟩
  · have hv' : (vS u && inR (nS u)) = false := by simpa using hv
    have e1 : tiV u = 0 := by unfold tiV; rw [hv']; rfl
    have e2 : tiE u = 30 := by unfold tiE; rw [hv']; rfl
    rw [e1, e2] at CU
    clear e1 e2 hv hv' CVU
    go_enter Tryz.func5, Tryz.ntmps5
    go_wp2_with fail
    (with_reducible refine CSN.out.mono ?_)
    rintro e w1 ⟨rfl, hb⟩
    have HB1 := Lib.hid hb
    clear hb
    go_wp2_with fail
    (with_reducible refine (CF.out _ HB1.out).mono ?_)
    rintro e w2 ⟨rfl, hb⟩
    have HB2 := Lib.hid (HB1.out.trans (hb.mono HB1.out.size))
    clear hb
    go_wp2_with fail
    (with_reducible refine (CT.out _ HB2.out).mono ?_)
    rintro e w3 ⟨rfl, hb⟩
    have HB3 := Lib.hid (HB2.out.trans (hb.mono HB2.out.size))
    clear hb
    go_wp2_with fail
    (with_reducible refine (CU.out _ HB3.out).mono ?_)
    rintro e w4 ⟨rfl, hb⟩
    have HB4 := Lib.hid (HB3.out.trans (hb.mono HB3.out.size))
    clear hb
    go_wp2_with fail
    (with_reducible refine (CV.out _).mono ?_)
    rintro e w5 ⟨rfl, rfl⟩
    go_wp2
    go_ret
    exact ⟨rfl, HB4.out⟩
end Go.Proofs.YtebjjgbdiabapaaGreatDoor
