/- plus, minus and timesGroup, walked. -/
import Derived.RangeFuncBox
import Derived.Test.YtebjjgbdiabapaaGreatDoorCln
namespace Go.Proofs.YtebjjgbdiabapaaGreatDoor
open Go.RowKit

/-- The columns behind k rounds. -/
def RelZ (B : Nat) (w : World) (f : Int → Int → Int) (xs ys : List Int) (g cap N k : Nat) (wr : World) : Prop :=
  wr.ownsRow B 3 1 (.slice (some ⟨g, 0, none⟩) N cap) N ((zipL f xs (ys.take k)).map (Value.int .i64)) ∧ Below B w wr
theorem relZ_block {B : Nat} {w : World} {f : Int → Int → Int} {xs ys : List Int} {g cap N k : Nat} {wr : World} (h : RelZ B w f xs ys g cap N k wr) : B ≤ g := by
  rcases h.1.2 with ⟨h1, _⟩ | ⟨g', cap', cur, h1, hb, _⟩
  · simp at h1
  · simp at h1
    omega
theorem relZ_cell {B : Nat} {w : World} {f : Int → Int → Int} {xs ys : List Int} {g cap N k : Nat} {wr : World} (h : RelZ B w f xs ys g cap N k wr) (hx : xs.length = N) (hy : ys.length ≤ N) (hk : k < ys.length) :
    wr.cell? ⟨g, k, none⟩ = some (.int .i64 (xs[k]?.getD 0)) := by
  rw [h.1.cellAt k (by omega), List.getElem?_map]
  have hg := zipL_get f xs (ys.take k) k (by rw [List.length_take]; omega)
  rw [List.length_take, Nat.min_eq_left (by omega), if_neg (by omega)] at hg
  rw [List.getElem?_eq_getElem (by rw [zipL_length]; omega)] at hg ⊢
  simpa using hg
theorem relZ_step {B : Nat} {w : World} {f : Int → Int → Int} {xs ys : List Int} {g cap N k : Nat} {wr : World} (h : RelZ B w f xs ys g cap N k wr) (hx : xs.length = N) (hy : ys.length ≤ N) (hk : k < ys.length) (z : Int) (hz : z = f (xs[k]?.getD 0) (ys[k]?.getD 0)) :
    RelZ B w f xs ys g cap N (k + 1) (wr.setCell ⟨g, k, none⟩ (.int .i64 z)) := by
  refine ⟨?_, h.2.setCell (p := ⟨g, k, none⟩) (relZ_block h) _⟩
  have := (h.1.stored k (.int .i64 z)).1
  rw [zipL_take f xs ys k (by omega) hk, ← map_set, ← hz]
  exact this
theorem relZ_end {B : Nat} {w : World} {f : Int → Int → Int} {xs ys : List Int} {g cap N k : Nat} {wr : World} (h : RelZ B w f xs ys g cap N k wr) (hk : ys.length = k) : Ls wr (.slice (some ⟨g, 0, none⟩) N cap) (zipL f xs ys) := by
  have := h.1
  rw [List.take_of_length_le (by omega)] at this
  exact Ls.own this _ rfl
theorem cols_add (a b : Nat) : (∀ d ∈ zipL (· + ·) (dz 10000 a) (dz 10000 b), -99980001 ≤ d ∧ d ≤ 99980001) := by
  apply zipL_mem (p := fun d => -99980001 ≤ d ∧ d ≤ 99980001)
  · intro d hd; have := dig4 a d hd; omega
  · intro d hd e he; have := dig4 a d hd; have := dig4 b e he; omega
theorem cols_sub (a b : Nat) : (∀ d ∈ zipL (· - ·) (dz 10000 a) (dz 10000 b), -99980001 ≤ d ∧ d ≤ 99980001) := by
  apply zipL_mem (p := fun d => -99980001 ≤ d ∧ d ≤ 99980001)
  · intro d hd; have := dig4 a d hd; omega
  · intro d hd e he; have := dig4 a d hd; have := dig4 b e he; omega
theorem cols_mul (a n : Nat) (g : Int) (h0 : 0 ≤ g) (h1 : g < 10000) : (∀ d ∈ zipL (· * ·) (dz 10000 a) (List.replicate n g), -99980001 ≤ d ∧ d ≤ 99980001) := by
  apply zipL_mem (p := fun d => -99980001 ≤ d ∧ d ≤ 99980001)
  · intro d hd; have := dig4 a d hd; omega
  · intro d hd e he
    have := dig4 a d hd
    have he' := (List.mem_replicate.1 he).2
    subst he'
    have h2 := Int.mul_nonneg this.1 h0
    have h3 : d * e ≤ 9999 * 9999 := Int.mul_le_mul (by omega) (by omega) h0 (by omega)
    omega
theorem vz_rep_mul (b g : Int) : ∀ x : List Int, vz b (zipL (· * ·) x (List.replicate x.length g)) = vz b x * g
  | [] => by simp [zipL, vz]
  | a :: x => by rw [List.length_cons, List.replicate_succ, zipL, vz, vz, vz_rep_mul b g x, Int.add_mul, Int.mul_assoc]
/-- A non-empty row has a shape. -/
theorem row_shape {w : World} {B : Nat} {v : Value} {n : Nat} {xs : List Value} (h : w.ownsRow B 3 1 v n xs) (hn : 0 < n) : ∃ g cap, v = .slice (some ⟨g, 0, none⟩) n cap := by
  obtain ⟨k, rfl⟩ : ∃ k, n = k + 1 := ⟨n - 1, by omega⟩
  exact ownsRow_succ h

set_option maxRecDepth 100000 in
set_option maxHeartbeats 2000000 in
theorem minus_nt (w : World) (v1 v2 : Value) (a b : Nat) (h1 : Nt w v1 a) (h2 : Nt w v2 b) (hN : (dz 10000 a).length ≤ 20000) (hl : b ≤ a) :
    Calls Tryz.prog 58 #[v1, v2] w (NtOut w (a - b)) := by
  have hlen := dz_length_mono 10000 (by decide) b a hl
  have HV := Lib.hid (vz_sub 10000 (dz 10000 a) (dz 10000 b) hlen)
  have HCL := Lib.hid (cols_sub a b)
  have hva := vz4 a
  have hvb := vz4 b
  have HS := Lib.hid (show vz 10000 (zipL (· - ·) (dz 10000 a) (dz 10000 b)) = ((a - b : Nat) : Int) by rw [HV.out]; omega)
  have HXD := Lib.hid (dig4_at a); have HYD := Lib.hid (dig4_at b)
  have HCLN := Lib.hid (clone_row w v1 (dz 10000 a) h1 (by omega))
  have HL1 := Lib.hid h1
  clear hva hvb
  unfold Nt at h1 h2
  generalize a - b = s at *
  generalize hxs : dz 10000 a = xs at *
  generalize hys : dz 10000 b = ys at *
  obtain ⟨N, hNe⟩ : ∃ N, xs.length = N := ⟨_, rfl⟩
  obtain ⟨M, hMe⟩ : ∃ M, ys.length = M := ⟨_, rfl⟩
  have HN := Lib.hid hNe; have HM := Lib.hid hMe
  have hMN : M ≤ N := by omega
  have hNb : N ≤ 20000 := by omega
  have HNM : M ≤ N := by omega
  obtain ⟨al, c, hv1, hal⟩ : ∃ al c, v1 = .slice al N c ∧ (al = none → N = 0) := by
    rcases h1 with ⟨r1, r2⟩ | ⟨b1, o1, c1, r1, _⟩
    · exact ⟨none, 0, by rw [r1, ← hNe, r2]; rfl, fun _ => by rw [← hNe, r2]; rfl⟩
    · exact ⟨_, _, by rw [r1, hNe], fun h => by cases h⟩
  have HV1 := Lib.hid hv1
  rcases h2 with ⟨rfl, hy0⟩ | ⟨b2, o2, c2, rfl, hc2, hlt2, hcell2⟩
  · -- the second number is 0: the columns stand as they were cloned
    have hM0 : M = 0 := by rw [← hMe, hy0]; rfl
    have HY0 := Lib.hid hy0
    clear hxs hys hNe hMe hy0 hlen hl HV h1
    subst hM0
    subst hv1
    go_enter Tryz.func58, Tryz.ntmps58
    go_wp2_with (go_at_call 75; refine HCLN.out.mono ?_; rintro e w1 ⟨v', rfl, hown, hb⟩; have HL := Lib.hid (Ls.own hown _ rfl); have HB := Lib.hid hb; clear hown hb)
    all_goals
      go_loopw [12] (fun iv wr => iv = .int .i64 0 ∧ wr = w1) (fun _ _ => 0)
      case atStart => exact ⟨rfl, rfl⟩
      case round =>
        obtain ⟨rfl, rfl⟩ := hrel
        go_wp2_with (go_at_call 76; refine (carried_nt _ _ xs HL.out (by rw [HN.out]; omega) (by have := HCL.out; rw [HY0.out, zipL_nil] at this; exact this) (by have := HS.out; rw [HY0.out, zipL_nil] at this; omega)).mono ?_; rintro e w2 ⟨v2, rfl, hnt, hb2⟩; have HNT := Lib.hid hnt; have HB2 := Lib.hid hb2; clear hnt hb2)
        go_ret
        refine ⟨_, rfl, ?_, HB.out.trans (HB2.out.mono HB.out.size)⟩
        have h1 := HNT.out
        have h2 := HS.out
        rw [HY0.out, zipL_nil] at h2
        rw [h2] at h1
        simpa using h1
  · have HC := Lib.hid hcell2
    have hNpos : M = 0 ∨ 0 < N := by omega
    rw [hMe] at hc2
    rw [hMe]
    clear hxs hys hNe hMe hlen hl HV h1 hcell2
    subst hv1
    go_enter Tryz.func58, Tryz.ntmps58
    go_wp2_with (go_at_call 75; refine HCLN.out.mono ?_; rintro e w1 ⟨v', rfl, hown, hb⟩; rw [HN.out] at hown; have HO := Lib.hid hown; have HB := Lib.hid hb; clear hown hb)
    rcases Nat.eq_zero_or_pos M with hM0 | hMpos
    · have HY0 := Lib.hid (List.length_eq_zero_iff.1 (HM.out.trans hM0))
      subst hM0
      have HL := Lib.hid (Ls.own HO.out xs rfl)
      all_goals
        go_loopw [12] (fun iv wr => iv = .int .i64 0 ∧ wr = w1) (fun _ _ => 0)
        case atStart => exact ⟨rfl, rfl⟩
        case round =>
          obtain ⟨rfl, rfl⟩ := hrel
          go_wp2_with (go_at_call 76; refine (carried_nt _ _ xs HL.out (by rw [HN.out]; omega) (by have := HCL.out; rw [HY0.out, zipL_nil] at this; exact this) (by have := HS.out; rw [HY0.out, zipL_nil] at this; omega)).mono ?_; rintro e w2 ⟨v2, rfl, hnt, hb2⟩; have HNT := Lib.hid hnt; have HB2 := Lib.hid hb2; clear hnt hb2)
          go_ret
          refine ⟨_, rfl, ?_, HB.out.trans (HB2.out.mono HB.out.size)⟩
          have h1 := HNT.out
          have h2 := HS.out
          rw [HY0.out, zipL_nil] at h2
          rw [h2] at h1
          simpa using h1
    · obtain ⟨g, cap, rfl⟩ := row_shape HO.out (by omega)
      go_loopw [12] (fun iv wr => ∃ k : Nat, k ≤ M ∧ iv = .int .i64 k ∧ RelZ w.heap.size w (· - ·) xs ys g cap N k wr) (fun iv _ => M - (intOf iv).toNat)
      case atStart => exact ⟨0, Nat.zero_le _, rfl, by simpa [zipL_nil] using HO.out, HB.out⟩
      case round =>
        obtain ⟨k, hk, rfl, hR⟩ := hrel
        have HR := Lib.hid hR
        clear hR
        by_cases hkM : k < M
        · have hcy := (HR.out.2.cell (p := ⟨b2, o2 + k, none⟩) hlt2).trans (HC.out k (by rw [HM.out]; exact hkM))
          have hcx := relZ_cell HR.out HN.out (by rw [HM.out]; exact hMN) (by rw [HM.out]; exact hkM)
          have hfx := HR.out.1.frozenAt k
          have hxd := HXD.out k
          have hyd := HYD.out k
          have HST := Lib.hid (relZ_step HR.out HN.out (by rw [HM.out]; exact hMN) (by rw [HM.out]; exact hkM))
          obtain ⟨x, hx⟩ : ∃ x, xs[k]?.getD 0 = x := ⟨_, rfl⟩
          obtain ⟨y, hy⟩ : ∃ y, ys[k]?.getD 0 = y := ⟨_, rfl⟩
          rw [hx] at hcx hxd
          rw [hy] at hcy hyd
          have HX := Lib.hid hx; have HY := Lib.hid hy
          clear hx hy
          go_wp2
          go_roundw
          case rel => exact ⟨k + 1, by omega, by go_num, HST.out _ (by rw [HX.out, HY.out])⟩
          case measure => simp [intOf]; omega
        · have hkk : k = M := by omega
          subst hkk
          have HL := Lib.hid (relZ_end HR.out HM.out)
          go_wp2_with (go_at_call 76; refine (carried_nt _ _ _ HL.out (by rw [zipL_length, HN.out]; omega) HCL.out (by rw [HS.out]; omega)).mono ?_; rintro e w2 ⟨v2, rfl, hnt, hb2⟩; have HNT := Lib.hid hnt; have HB2 := Lib.hid hb2; clear hnt hb2)
          go_ret
          refine ⟨_, rfl, ?_, HR.out.2.trans (HB2.out.mono HR.out.2.size)⟩
          have h1 := HNT.out
          rw [HS.out] at h1
          simpa using h1
set_option maxRecDepth 100000 in
set_option maxHeartbeats 2000000 in
theorem plus_le (w : World) (v1 v2 : Value) (a b : Nat) (h1 : Nt w v1 a) (h2 : Nt w v2 b) (hN : (dz 10000 a).length ≤ 20000) (hl : (dz 10000 b).length ≤ (dz 10000 a).length) :
    Calls Tryz.prog 56 #[v1, v2] w (NtOut w (a + b)) := by
  have hlen : (dz 10000 b).length ≤ (dz 10000 a).length := by omega
  have HV := Lib.hid (vz_add 10000 (dz 10000 a) (dz 10000 b) hlen)
  have HCL := Lib.hid (cols_add a b)
  have hva := vz4 a
  have hvb := vz4 b
  have HS := Lib.hid (show vz 10000 (zipL (· + ·) (dz 10000 a) (dz 10000 b)) = ((a + b : Nat) : Int) by rw [HV.out]; omega)
  have HXD := Lib.hid (dig4_at a); have HYD := Lib.hid (dig4_at b)
  have HCLN := Lib.hid (clone_row w v1 (dz 10000 a) h1 (by omega))
  have HL1 := Lib.hid h1
  clear hva hvb
  unfold Nt at h1 h2
  generalize a + b = s at *
  generalize hxs : dz 10000 a = xs at *
  generalize hys : dz 10000 b = ys at *
  obtain ⟨N, hNe⟩ : ∃ N, xs.length = N := ⟨_, rfl⟩
  obtain ⟨M, hMe⟩ : ∃ M, ys.length = M := ⟨_, rfl⟩
  have HN := Lib.hid hNe; have HM := Lib.hid hMe
  have hMN : M ≤ N := by omega
  have hNb : N ≤ 20000 := by omega
  have HNM : M ≤ N := by omega
  obtain ⟨al, c, hv1, hal⟩ : ∃ al c, v1 = .slice al N c ∧ (al = none → N = 0) := by
    rcases h1 with ⟨r1, r2⟩ | ⟨b1, o1, c1, r1, _⟩
    · exact ⟨none, 0, by rw [r1, ← hNe, r2]; rfl, fun _ => by rw [← hNe, r2]; rfl⟩
    · exact ⟨_, _, by rw [r1, hNe], fun h => by cases h⟩
  have HV1 := Lib.hid hv1
  rcases h2 with ⟨rfl, hy0⟩ | ⟨b2, o2, c2, rfl, hc2, hlt2, hcell2⟩
  · -- the second number is 0: the columns stand as they were cloned
    have hM0 : M = 0 := by rw [← hMe, hy0]; rfl
    have HY0 := Lib.hid hy0
    clear hxs hys hNe hMe hy0 hlen hl HV h1
    subst hM0
    subst hv1
    go_enter Tryz.func56, Tryz.ntmps56
    go_wp2_with (go_at_call 75; refine HCLN.out.mono ?_; rintro e w1 ⟨v', rfl, hown, hb⟩; have HL := Lib.hid (Ls.own hown _ rfl); have HB := Lib.hid hb; clear hown hb)
    all_goals
      go_loopw [19] (fun iv wr => iv = .int .i64 0 ∧ wr = w1) (fun _ _ => 0)
      case atStart => exact ⟨rfl, rfl⟩
      case round =>
        obtain ⟨rfl, rfl⟩ := hrel
        go_wp2_with (go_at_call 76; refine (carried_nt _ _ xs HL.out (by rw [HN.out]; omega) (by have := HCL.out; rw [HY0.out, zipL_nil] at this; exact this) (by have := HS.out; rw [HY0.out, zipL_nil] at this; omega)).mono ?_; rintro e w2 ⟨v2, rfl, hnt, hb2⟩; have HNT := Lib.hid hnt; have HB2 := Lib.hid hb2; clear hnt hb2)
        go_ret
        refine ⟨_, rfl, ?_, HB.out.trans (HB2.out.mono HB.out.size)⟩
        have h1 := HNT.out
        have h2 := HS.out
        rw [HY0.out, zipL_nil] at h2
        rw [h2] at h1
        simpa using h1
  · have HC := Lib.hid hcell2
    have hNpos : M = 0 ∨ 0 < N := by omega
    rw [hMe] at hc2
    rw [hMe]
    clear hxs hys hNe hMe hlen hl HV h1 hcell2
    subst hv1
    go_enter Tryz.func56, Tryz.ntmps56
    go_wp2_with (go_at_call 75; refine HCLN.out.mono ?_; rintro e w1 ⟨v', rfl, hown, hb⟩; rw [HN.out] at hown; have HO := Lib.hid hown; have HB := Lib.hid hb; clear hown hb)
    rcases Nat.eq_zero_or_pos M with hM0 | hMpos
    · have HY0 := Lib.hid (List.length_eq_zero_iff.1 (HM.out.trans hM0))
      subst hM0
      have HL := Lib.hid (Ls.own HO.out xs rfl)
      all_goals
        go_loopw [19] (fun iv wr => iv = .int .i64 0 ∧ wr = w1) (fun _ _ => 0)
        case atStart => exact ⟨rfl, rfl⟩
        case round =>
          obtain ⟨rfl, rfl⟩ := hrel
          go_wp2_with (go_at_call 76; refine (carried_nt _ _ xs HL.out (by rw [HN.out]; omega) (by have := HCL.out; rw [HY0.out, zipL_nil] at this; exact this) (by have := HS.out; rw [HY0.out, zipL_nil] at this; omega)).mono ?_; rintro e w2 ⟨v2, rfl, hnt, hb2⟩; have HNT := Lib.hid hnt; have HB2 := Lib.hid hb2; clear hnt hb2)
          go_ret
          refine ⟨_, rfl, ?_, HB.out.trans (HB2.out.mono HB.out.size)⟩
          have h1 := HNT.out
          have h2 := HS.out
          rw [HY0.out, zipL_nil] at h2
          rw [h2] at h1
          simpa using h1
    · obtain ⟨g, cap, rfl⟩ := row_shape HO.out (by omega)
      go_loopw [19] (fun iv wr => ∃ k : Nat, k ≤ M ∧ iv = .int .i64 k ∧ RelZ w.heap.size w (· + ·) xs ys g cap N k wr) (fun iv _ => M - (intOf iv).toNat)
      case atStart => exact ⟨0, Nat.zero_le _, rfl, by simpa [zipL_nil] using HO.out, HB.out⟩
      case round =>
        obtain ⟨k, hk, rfl, hR⟩ := hrel
        have HR := Lib.hid hR
        clear hR
        by_cases hkM : k < M
        · have hcy := (HR.out.2.cell (p := ⟨b2, o2 + k, none⟩) hlt2).trans (HC.out k (by rw [HM.out]; exact hkM))
          have hcx := relZ_cell HR.out HN.out (by rw [HM.out]; exact hMN) (by rw [HM.out]; exact hkM)
          have hfx := HR.out.1.frozenAt k
          have hxd := HXD.out k
          have hyd := HYD.out k
          have HST := Lib.hid (relZ_step HR.out HN.out (by rw [HM.out]; exact hMN) (by rw [HM.out]; exact hkM))
          obtain ⟨x, hx⟩ : ∃ x, xs[k]?.getD 0 = x := ⟨_, rfl⟩
          obtain ⟨y, hy⟩ : ∃ y, ys[k]?.getD 0 = y := ⟨_, rfl⟩
          rw [hx] at hcx hxd
          rw [hy] at hcy hyd
          have HX := Lib.hid hx; have HY := Lib.hid hy
          clear hx hy
          go_wp2
          go_roundw
          case rel => exact ⟨k + 1, by omega, by go_num, HST.out _ (by rw [HX.out, HY.out])⟩
          case measure => simp [intOf]; omega
        · have hkk : k = M := by omega
          subst hkk
          have HL := Lib.hid (relZ_end HR.out HM.out)
          go_wp2_with (go_at_call 76; refine (carried_nt _ _ _ HL.out (by rw [zipL_length, HN.out]; omega) HCL.out (by rw [HS.out]; omega)).mono ?_; rintro e w2 ⟨v2, rfl, hnt, hb2⟩; have HNT := Lib.hid hnt; have HB2 := Lib.hid hb2; clear hnt hb2)
          go_ret
          refine ⟨_, rfl, ?_, HR.out.2.trans (HB2.out.mono HR.out.2.size)⟩
          have h1 := HNT.out
          rw [HS.out] at h1
          simpa using h1
set_option maxRecDepth 100000 in
set_option maxHeartbeats 2000000 in
theorem plus_gt (w : World) (v1 v2 : Value) (a b : Nat) (h1 : Nt w v1 a) (h2 : Nt w v2 b) (hN : (dz 10000 a).length ≤ 20000) (hl : (dz 10000 b).length < (dz 10000 a).length) :
    Calls Tryz.prog 56 #[v2, v1] w (NtOut w (a + b)) := by
  have hlen : (dz 10000 b).length ≤ (dz 10000 a).length := by omega
  have HV := Lib.hid (vz_add 10000 (dz 10000 a) (dz 10000 b) hlen)
  have HCL := Lib.hid (cols_add a b)
  have hva := vz4 a
  have hvb := vz4 b
  have HS := Lib.hid (show vz 10000 (zipL (· + ·) (dz 10000 a) (dz 10000 b)) = ((a + b : Nat) : Int) by rw [HV.out]; omega)
  have HXD := Lib.hid (dig4_at a); have HYD := Lib.hid (dig4_at b)
  have HCLN := Lib.hid (clone_row w v1 (dz 10000 a) h1 (by omega))
  have HL1 := Lib.hid h1
  clear hva hvb
  unfold Nt at h1 h2
  generalize a + b = s at *
  generalize hxs : dz 10000 a = xs at *
  generalize hys : dz 10000 b = ys at *
  obtain ⟨N, hNe⟩ : ∃ N, xs.length = N := ⟨_, rfl⟩
  obtain ⟨M, hMe⟩ : ∃ M, ys.length = M := ⟨_, rfl⟩
  have HN := Lib.hid hNe; have HM := Lib.hid hMe
  have hMN : M ≤ N := by omega
  have hNb : N ≤ 20000 := by omega
  have HNM : M < N := by omega
  obtain ⟨al, c, hv1, hal⟩ : ∃ al c, v1 = .slice al N c ∧ (al = none → N = 0) := by
    rcases h1 with ⟨r1, r2⟩ | ⟨b1, o1, c1, r1, _⟩
    · exact ⟨none, 0, by rw [r1, ← hNe, r2]; rfl, fun _ => by rw [← hNe, r2]; rfl⟩
    · exact ⟨_, _, by rw [r1, hNe], fun h => by cases h⟩
  have HV1 := Lib.hid hv1
  rcases h2 with ⟨rfl, hy0⟩ | ⟨b2, o2, c2, rfl, hc2, hlt2, hcell2⟩
  · -- the second number is 0: the columns stand as they were cloned
    have hM0 : M = 0 := by rw [← hMe, hy0]; rfl
    have HY0 := Lib.hid hy0
    clear hxs hys hNe hMe hy0 hlen hl HV h1
    subst hM0
    subst hv1
    go_enter Tryz.func56, Tryz.ntmps56
    go_wp2_with (go_at_call 75; refine HCLN.out.mono ?_; rintro e w1 ⟨v', rfl, hown, hb⟩; have HL := Lib.hid (Ls.own hown _ rfl); have HB := Lib.hid hb; clear hown hb)
    all_goals
      go_loopw [19] (fun iv wr => iv = .int .i64 0 ∧ wr = w1) (fun _ _ => 0)
      case atStart => exact ⟨rfl, rfl⟩
      case round =>
        obtain ⟨rfl, rfl⟩ := hrel
        go_wp2_with (go_at_call 76; refine (carried_nt _ _ xs HL.out (by rw [HN.out]; omega) (by have := HCL.out; rw [HY0.out, zipL_nil] at this; exact this) (by have := HS.out; rw [HY0.out, zipL_nil] at this; omega)).mono ?_; rintro e w2 ⟨v2, rfl, hnt, hb2⟩; have HNT := Lib.hid hnt; have HB2 := Lib.hid hb2; clear hnt hb2)
        go_ret
        refine ⟨_, rfl, ?_, HB.out.trans (HB2.out.mono HB.out.size)⟩
        have h1 := HNT.out
        have h2 := HS.out
        rw [HY0.out, zipL_nil] at h2
        rw [h2] at h1
        simpa using h1
  · have HC := Lib.hid hcell2
    have hNpos : M = 0 ∨ 0 < N := by omega
    rw [hMe] at hc2
    rw [hMe]
    clear hxs hys hNe hMe hlen hl HV h1 hcell2
    subst hv1
    go_enter Tryz.func56, Tryz.ntmps56
    go_wp2_with (go_at_call 75; refine HCLN.out.mono ?_; rintro e w1 ⟨v', rfl, hown, hb⟩; rw [HN.out] at hown; have HO := Lib.hid hown; have HB := Lib.hid hb; clear hown hb)
    rcases Nat.eq_zero_or_pos M with hM0 | hMpos
    · have HY0 := Lib.hid (List.length_eq_zero_iff.1 (HM.out.trans hM0))
      subst hM0
      have HL := Lib.hid (Ls.own HO.out xs rfl)
      all_goals
        go_loopw [19] (fun iv wr => iv = .int .i64 0 ∧ wr = w1) (fun _ _ => 0)
        case atStart => exact ⟨rfl, rfl⟩
        case round =>
          obtain ⟨rfl, rfl⟩ := hrel
          go_wp2_with (go_at_call 76; refine (carried_nt _ _ xs HL.out (by rw [HN.out]; omega) (by have := HCL.out; rw [HY0.out, zipL_nil] at this; exact this) (by have := HS.out; rw [HY0.out, zipL_nil] at this; omega)).mono ?_; rintro e w2 ⟨v2, rfl, hnt, hb2⟩; have HNT := Lib.hid hnt; have HB2 := Lib.hid hb2; clear hnt hb2)
          go_ret
          refine ⟨_, rfl, ?_, HB.out.trans (HB2.out.mono HB.out.size)⟩
          have h1 := HNT.out
          have h2 := HS.out
          rw [HY0.out, zipL_nil] at h2
          rw [h2] at h1
          simpa using h1
    · obtain ⟨g, cap, rfl⟩ := row_shape HO.out (by omega)
      go_loopw [19] (fun iv wr => ∃ k : Nat, k ≤ M ∧ iv = .int .i64 k ∧ RelZ w.heap.size w (· + ·) xs ys g cap N k wr) (fun iv _ => M - (intOf iv).toNat)
      case atStart => exact ⟨0, Nat.zero_le _, rfl, by simpa [zipL_nil] using HO.out, HB.out⟩
      case round =>
        obtain ⟨k, hk, rfl, hR⟩ := hrel
        have HR := Lib.hid hR
        clear hR
        by_cases hkM : k < M
        · have hcy := (HR.out.2.cell (p := ⟨b2, o2 + k, none⟩) hlt2).trans (HC.out k (by rw [HM.out]; exact hkM))
          have hcx := relZ_cell HR.out HN.out (by rw [HM.out]; exact hMN) (by rw [HM.out]; exact hkM)
          have hfx := HR.out.1.frozenAt k
          have hxd := HXD.out k
          have hyd := HYD.out k
          have HST := Lib.hid (relZ_step HR.out HN.out (by rw [HM.out]; exact hMN) (by rw [HM.out]; exact hkM))
          obtain ⟨x, hx⟩ : ∃ x, xs[k]?.getD 0 = x := ⟨_, rfl⟩
          obtain ⟨y, hy⟩ : ∃ y, ys[k]?.getD 0 = y := ⟨_, rfl⟩
          rw [hx] at hcx hxd
          rw [hy] at hcy hyd
          have HX := Lib.hid hx; have HY := Lib.hid hy
          clear hx hy
          go_wp2
          go_roundw
          case rel => exact ⟨k + 1, by omega, by go_num, HST.out _ (by rw [HX.out, HY.out])⟩
          case measure => simp [intOf]; omega
        · have hkk : k = M := by omega
          subst hkk
          have HL := Lib.hid (relZ_end HR.out HM.out)
          go_wp2_with (go_at_call 76; refine (carried_nt _ _ _ HL.out (by rw [zipL_length, HN.out]; omega) HCL.out (by rw [HS.out]; omega)).mono ?_; rintro e w2 ⟨v2, rfl, hnt, hb2⟩; have HNT := Lib.hid hnt; have HB2 := Lib.hid hb2; clear hnt hb2)
          go_ret
          refine ⟨_, rfl, ?_, HR.out.2.trans (HB2.out.mono HR.out.2.size)⟩
          have h1 := HNT.out
          rw [HS.out] at h1
          simpa using h1
theorem plus_nt (w : World) (v1 v2 : Value) (a b : Nat) (h1 : Nt w v1 a) (h2 : Nt w v2 b) (hN : (dz 10000 a).length ≤ 20000) (hM : (dz 10000 b).length ≤ 20000) :
    Calls Tryz.prog 56 #[v1, v2] w (NtOut w (a + b)) := by
  by_cases h : (dz 10000 b).length ≤ (dz 10000 a).length
  · exact plus_le w v1 v2 a b h1 h2 hN h
  · rw [Nat.add_comm]
    exact plus_gt w v2 v1 b a h2 h1 hM (by omega)
end Go.Proofs.YtebjjgbdiabapaaGreatDoor
