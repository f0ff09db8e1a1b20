/- timesGroup, walked. -/
import Derived.Test.YtebjjgbdiabapaaGreatDoorPls
namespace Go.Proofs.YtebjjgbdiabapaaGreatDoor
open Go.RowKit

theorem zipL_nil_left (f : Int → Int → Int) (y : List Int) : zipL f [] y = [] := by cases y <;> rfl

set_option maxRecDepth 100000 in
set_option maxHeartbeats 2000000 in
theorem timesGroup_nt (w : World) (v1 : Value) (a : Nat) (m : Nat) (h1 : Nt w v1 a) (hm : m < 10000) (hN : (dz 10000 a).length ≤ 20000) :
    Calls Tryz.prog 78 #[v1, .int .i64 m] w (NtOut w (a * m)) := by
  have HS := Lib.hid (show vz 10000 (zipL (· * ·) (dz 10000 a) (List.replicate (dz 10000 a).length (m : Int))) = ((a * m : Nat) : Int) by
    rw [vz_rep_mul, vz4, Int.natCast_mul])
  have HCL := Lib.hid (cols_mul a (dz 10000 a).length m (by omega) (by omega))
  have HXD := Lib.hid (dig4_at a)
  have HCLN := Lib.hid (clone_row w v1 (dz 10000 a) h1 (by omega))
  unfold Nt at h1
  generalize a * m = s at *
  generalize hxs : dz 10000 a = xs at *
  obtain ⟨N, hNe⟩ : ∃ N, xs.length = N := ⟨_, rfl⟩
  have HN := Lib.hid hNe
  have hNb : N ≤ 20000 := by omega
  rw [hNe] at HS HCL
  have hRep : Hid (∀ k, k < N → (List.replicate N (m : Int))[k]?.getD 0 = m) := fun k hk => by rw [List.getElem?_replicate, if_pos hk]; rfl
  have hLen : Hid ((List.replicate N (m : Int)).length = N) := List.length_replicate
  generalize List.replicate N (m : Int) = ys at *
  clear hxs hNe h1 hN
  go_enter Tryz.func78, Tryz.ntmps78
  go_wp2_with (go_at_call 75; refine HCLN.out.mono ?_; rintro e w1 ⟨v', rfl, hown, hb⟩; rw [HN.out] at hown; have HO := Lib.hid hown; have HB := Lib.hid hb; clear hown hb; refine Hid.out ?_)
  refine Lib.hid ?_
  rcases Nat.eq_zero_or_pos N with hN0 | hNpos
  · have HX0 := Lib.hid (List.length_eq_zero_iff.1 (HN.out.trans hN0))
    subst hN0
    have HL := Lib.hid (Ls.own HO.out xs rfl)
    obtain ⟨al, c, rfl⟩ : ∃ al c, v' = .slice al 0 c := by
      rcases HO.out.2 with ⟨r, _⟩ | ⟨g, cap, cur, r, _⟩
      · exact ⟨_, _, r⟩
      · exact ⟨_, _, r⟩
    go_wp2
    go_loopw [11] (fun iv wr => iv = .int .i64 0 ∧ wr = w1) (fun _ _ => 0)
    case atStart => exact ⟨rfl, rfl⟩
    case round =>
      obtain ⟨rfl, rfl⟩ := hrel
      go_wp2_with (go_at_call 76; refine (carried_nt _ _ xs HL.out (by rw [HN.out]; omega) (by rw [HX0.out]; simp) (by rw [HX0.out]; simp [vz])).mono ?_; rintro e w2 ⟨v2, rfl, hnt, hb2⟩; have HNT := Lib.hid hnt; have HB2 := Lib.hid hb2; clear hnt hb2)
      go_ret
      refine ⟨_, rfl, ?_, HB.out.trans (HB2.out.mono HB.out.size)⟩
      have h1 := HNT.out
      have h2 := HS.out
      rw [HX0.out] at h1 h2
      rw [zipL_nil_left, vz] at h2
      rw [vz] at h1
      rw [show s = 0 by omega]
      exact h1
  · obtain ⟨g, cap, rfl⟩ := row_shape HO.out (by omega)
    go_wp2
    go_loopw [11] (fun iv wr => ∃ k : Nat, k ≤ N ∧ iv = .int .i64 k ∧ RelZ w.heap.size w (· * ·) xs ys g cap N k wr) (fun iv _ => N - (intOf iv).toNat)
    case atStart => exact ⟨0, Nat.zero_le _, rfl, by simpa [zipL_nil] using HO.out, HB.out⟩
    case round =>
      obtain ⟨k, hk, rfl, hR⟩ := hrel
      have HR := Lib.hid hR
      clear hR
      by_cases hkN : k < N
      · have hcx := relZ_cell HR.out HN.out (by rw [hLen.out]; omega) (by rw [hLen.out]; exact hkN)
        have hfx := HR.out.1.frozenAt k
        have hxd := HXD.out k
        have HST := Lib.hid (relZ_step HR.out HN.out (by rw [hLen.out]; omega) (by rw [hLen.out]; exact hkN))
        have HRk := Lib.hid (hRep.out k hkN)
        obtain ⟨x, hx⟩ : ∃ x, xs[k]?.getD 0 = x := ⟨_, rfl⟩
        rw [hx] at hcx hxd
        have HX := Lib.hid hx
        clear hx
        obtain ⟨p, hp⟩ : ∃ p, x * (m : Int) = p := ⟨_, rfl⟩
        have hpb : 0 ≤ p ∧ p ≤ 9999 * 9999 := by
          rw [← hp]
          exact ⟨Int.mul_nonneg hxd.1 (by omega), Int.mul_le_mul (by omega) (by omega) (by omega) (by omega)⟩
        have HP := Lib.hid hp
        go_wp2
        go_roundw
        case rel => exact ⟨k + 1, by omega, by go_num, HST.out _ (by rw [HX.out, HRk.out]; exact HP.out.symm)⟩
        case measure => simp [intOf]; omega
      · have hkk : k = N := by omega
        subst hkk
        have HL := Lib.hid (relZ_end HR.out hLen.out)
        go_wp2_with (go_at_call 76; refine (carried_nt _ _ _ HL.out (by rw [zipL_length, HN.out]; omega) HCL.out (by rw [HS.out]; omega)).mono ?_; rintro e w2 ⟨v2, rfl, hnt, hb2⟩; have HNT := Lib.hid hnt; have HB2 := Lib.hid hb2; clear hnt hb2)
        go_ret
        refine ⟨_, rfl, ?_, HR.out.2.trans (HB2.out.mono HR.out.2.size)⟩
        have h1 := HNT.out
        rw [HS.out] at h1
        simpa using h1
end Go.Proofs.YtebjjgbdiabapaaGreatDoor
