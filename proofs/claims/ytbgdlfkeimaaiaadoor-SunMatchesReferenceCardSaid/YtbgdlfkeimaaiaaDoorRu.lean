/- The reference's Next, walked. -/
import Derived.Test.YtbgdlfkeimaaiaaDoorRt
import Derived.Test.YtbgdlfkeimaaiaaDoorSg
namespace Go.Proofs.YtbgdlfkeimaaiaaDoor
open Go.RowKit
set_option linter.unusedSimpArgs false
set_option linter.unusedVariables false
set_option maxRecDepth 100000 in
set_option maxHeartbeats 1000000 in
theorem rnext_yes (x y t : Nat) (lit : Bool) (hx : x < 48) (hy : y < 24) (ht : t ≤ 1000000) (w : World) :
    Calls Tryd.prog 21 #[CV x y, iV t, .bool lit] w fun e w' => e = .returned (.tuple #[.int .i64 (nextZ x y t lit), .int .i64 0]) ∧ Below w.heap.size w w' := by
  have hm : isMin t = true := isMin_iff.2 (by omega)
  have hv : onG x y = true := by unfold onG; simp; omega
  obtain ⟨V, hV, hb, hz, hg⟩ := box_cell w x y
  have HB := Lib.hid hb; have HG := Lib.hid hg
  have c0 := (row_cell hg 0).trans (show _ = some (.int .i64 (x : Int)) from rfl)
  have c1 := (row_cell hg 1).trans (show _ = some (.int .i64 (y : Int)) from rfl)
  clear hb hg hz
  go_enter Tryd.func21, Tryd.ntmps21
  go_wp2_with fail
  (with_reducible refine (rvalidCell_any _ _ _).mono ?_)
  rintro e w1 ⟨rfl, hb1⟩
  have HB1 := Lib.hid (HB.out.trans (hb1.mono HB.out.size))
  have HG1 := Lib.hid (show BX w1 w.heap.size #[.int .i64 (x : Int), .int .i64 (y : Int)] 23 from BX.next (show BX V w.heap.size _ _ from HG.out) hb1)
  clear hb1 c0 c1 hV HB HG
  have i0 : (0 : Int) ≤ t := by omega
  have i1 : (t : Int) ≤ 1000000 := by omega
  go_wp2_with (go_at_call 35; (with_reducible refine (rminute_any _ _).mono ?_); rintro e w' ⟨rfl, rfl⟩)
  have HN := Lib.hid (searchN_le t ht)
  go_loopw [8] (fun i wr => ∃ k : Nat, k ≤ searchN t ∧ i = iV k ∧ (∀ m, t ≤ m → m < t + k → asked x y lit m = false) ∧ BX wr w.heap.size #[.int .i64 (x : Int), .int .i64 (y : Int)] 23 ∧ Below w.heap.size w wr) (fun i _ => searchN t - (intOf i).toNat)
  case atStart => exact ⟨0, by omega, rfl, fun m h1 h2 => by omega, HG1.out, HB1.out⟩
  case round =>
    obtain ⟨k, hk, rfl, hp, hG, hB⟩ := hrel
    have HP := Lib.hid hp; have HG := Lib.hid hG; have HB := Lib.hid hB; have HK := Lib.hid hk
    have c0 : wr.cell? ⟨w.heap.size, 0, none⟩ = some (.int .i64 (x : Int)) := hG.cell 0
    have c1 : wr.cell? ⟨w.heap.size, 1, none⟩ = some (.int .i64 (y : Int)) := hG.cell 1
    clear hp hG hB HB1 HG1
    have k0 : (0 : Int) ≤ k := by omega
    have k1 : (k : Int) ≤ 1441 := by have := HN.out; omega
    by_cases hlt : k < searchN t
    · have d1 : decide ((k : Int) ≤ 1440) = true := by have := HN.out; simp; omega
      have d2 : decide ((t : Int) + k ≤ 1000000) = true := by have := HN.out; simp; omega
      have hsum : t + k ≤ 1000000 := by have := HN.out; omega
      obtain ⟨s, hs⟩ : ∃ s, t + k = s := ⟨_, rfl⟩
      have hs' : (t : Int) + k = (s : Int) := by omega
      have HS := Lib.hid hs
      obtain ⟨v, hvv⟩ : ∃ v, asked x y lit s = v := ⟨_, rfl⟩
      have HV := Lib.hid hvv
      have hv' : (decide (0 < hgt x y s) == lit) = v := hvv
      have hs1 : s ≤ 1000000 := by omega
      clear hk hvv hs hsum
      go_wp2_with fail
      (with_reducible refine (rlit_yes x y s hx hy hs1 _).mono ?_)
      rintro e w5 ⟨rfl, hb5⟩
      have HB5 := Lib.hid (below_tr HB.out hb5)
      have HG5 := Lib.hid (HG.out.next hb5)
      clear hb5 c0 c1
      cases v with
      | true =>
        go_wp2
        go_ret2
        have e : nextZ x y t lit = ((t + k : Nat) : Int) := firstN_some _ _ _ k hlt HP.out (by rw [HS.out]; exact HV.out)
        exact ⟨ret_two (by rw [e, ← HS.out]), HB5.out⟩
      | false =>
        go_wp2
        go_roundw
        case rel => exact ⟨k + 1, by omega, ret_i (by omega), fun m h1 h2 => by
          by_cases e : m = t + k
          · rw [e, HS.out]; exact HV.out
          · exact HP.out m h1 (by omega), HG5.out, HB5.out⟩
        case measure => simp only [intOf]; omega
    · have e : nextZ x y t lit = -1 := firstN_none _ _ _ (fun m h1 h2 => HP.out m h1 (by have := HK.out; omega))
      have HE := Lib.hid e
      clear e
      by_cases hc : t + 1440 ≤ 1000000
      · have d1 : decide ((k : Int) ≤ 1440) = false := by have := HK.out; have := HN.out; unfold searchN at *; simp; omega
        clear hlt hk hc c0 c1
        go_wp2
        go_ret2
        exact ⟨ret_two HE.out.symm, HB.out⟩
      · have d1 : decide ((k : Int) ≤ 1440) = true := by have := HK.out; have := HN.out; unfold searchN at *; simp; omega
        have d2 : decide ((t : Int) + k ≤ 1000000) = false := by have := HK.out; have := HN.out; unfold searchN at *; simp; omega
        clear hlt hk hc c0 c1
        go_wp2
        go_ret2
        exact ⟨ret_two HE.out.symm, HB.out⟩
set_option maxRecDepth 100000 in
theorem rnext_no (x y t : Int) (lit : Bool) (h : isSun x y t = false) (w : World) :
    Calls Tryd.prog 21 #[CV x y, .int .i64 t, .bool lit] w fun e w' => e = .returned (.tuple #[.int .i64 0, .int .i64 60]) ∧ Below w.heap.size w w' := by
  obtain ⟨V, hV, hb, hz, hg⟩ := box_cell w x y
  have HB := Lib.hid hb
  have c0 := (row_cell hg 0).trans (show _ = some (.int .i64 (x : Int)) from rfl)
  have c1 := (row_cell hg 1).trans (show _ = some (.int .i64 (y : Int)) from rfl)
  clear hb hg hz
  by_cases hv : onG x y = true
  · have hm : isMin t = false := by unfold isSun at h; rw [hv] at h; simpa using h
    clear h
    go_enter Tryd.func21, Tryd.ntmps21
    go_wp2_with fail
    (with_reducible refine (rvalidCell_any _ _ _).mono ?_)
    rintro e w1 ⟨rfl, hb1⟩
    have HB1 := Lib.hid (HB.out.trans (hb1.mono HB.out.size))
    clear hb1 c0 c1 hV
    go_wp2_with (go_at_call 35; (with_reducible refine (rminute_any _ _).mono ?_); rintro e w' ⟨rfl, rfl⟩)
    go_ret2
    exact ⟨rfl, HB1.out⟩
  · have hv : onG x y = false := by simpa using hv
    clear h
    go_enter Tryd.func21, Tryd.ntmps21
    go_wp2_with fail
    (with_reducible refine (rvalidCell_any _ _ _).mono ?_)
    rintro e w1 ⟨rfl, hb1⟩
    have HB1 := Lib.hid (HB.out.trans (hb1.mono HB.out.size))
    clear hb1 c0 c1 hV
    go_wp2
    go_ret2
    exact ⟨rfl, HB1.out⟩
theorem rnext_any (x y t : Int) (lit : Bool) (w : World) :
    Calls Tryd.prog 21 #[CV x y, .int .i64 t, .bool lit] w fun e w' => e = .returned (.tuple #[.int .i64 (nxtZ x y t lit), .int .i64 (erxZ x y t)]) ∧ Below w.heap.size w w' := by
  by_cases h : isSun x y t = true
  · obtain ⟨a, b, s, ha, hb, hs, rfl, rfl, rfl⟩ := isSun_nat h
    have e1 : nxtZ a b s lit = nextZ a b s lit := by unfold nxtZ; rw [if_pos h]; rfl
    have e2 : erxZ a b s = 0 := by unfold erxZ; rw [if_pos h]
    rw [e1, e2]
    exact rnext_yes a b s lit ha hb hs w
  · have h' : isSun x y t = false := by simpa using h
    have e1 : nxtZ x y t lit = 0 := by unfold nxtZ; rw [if_neg h]
    have e2 : erxZ x y t = 60 := by unfold erxZ; rw [if_neg h]
    rw [e1, e2]
    exact rnext_no x y t lit h' w
end Go.Proofs.YtbgdlfkeimaaiaaDoor
