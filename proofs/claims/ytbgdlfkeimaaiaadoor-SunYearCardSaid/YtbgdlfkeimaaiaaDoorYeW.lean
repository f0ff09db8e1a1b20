/- SunYear, walked. -/
import Derived.Test.YtbgdlfkeimaaiaaDoorLn
namespace Go.Proofs.YtbgdlfkeimaaiaaDoor
open Go.RowKit
set_option linter.unusedSimpArgs false
set_option linter.unusedVariables false
set_option maxRecDepth 100000 in
set_option maxHeartbeats 4000000 in
theorem year_any (a b c : Int) (a0 : -9223372036854775808 ≤ a) (a1 : a ≤ 9223372036854775807) (b0 : -9223372036854775808 ≤ b) (b1 : b ≤ 9223372036854775807) (c0 : -9223372036854775808 ≤ c) (c1 : c ≤ 9223372036854775807) (w : World) (hT : Tab w) :
    Calls Tryd.prog 9 #[.int .i64 a, .int .i64 b, .int .i64 c] w (OutV w (.bool true)) := by
  have HU := Lib.hid (up_vb (Below.refl w.heap.size w) hT : Up w (VB w))
  obtain ⟨d, hd, CD⟩ := lpV a a0 a1 330 (by decide) (by decide) 330 rfl
  obtain ⟨m, hm, CM⟩ := lpV b b0 b1 1440 (by decide) (by decide) 1440 rfl
  obtain ⟨k, hk, CK⟩ := lpV c c0 c1 300 (by decide) (by decide) 300 rfl
  obtain ⟨s, hs⟩ : ∃ s : Nat, 1440 * d + m = s := ⟨_, rfl⟩
  obtain ⟨q, hq⟩ : ∃ q : Nat, s + 1440 * k = q := ⟨_, rfl⟩
  have HD := Lib.hid CD; have HM := Lib.hid CM; have HK := Lib.hid CK
  have HE := Lib.hid (show (1440 * (d : Int) + m = (s : Int)) ∧ ((s : Int) + 1440 * k = (q : Int)) from ⟨by omega, by omega⟩)
  have HL := Lib.hid (show s ≤ 475199 ∧ q ≤ 1000000 from ⟨by omega, by omega⟩)
  have HN := Lib.hid (show noonN q = noonN s from by rw [← hq]; exact noon_days s k)
  have HY := Lib.hid (seas_year s)
  have HH := Lib.hid (seas_half s)
  have d0 : (0 : Int) ≤ d := by omega
  have d1 : (d : Int) < 330 := by omega
  have m0 : (0 : Int) ≤ m := by omega
  have m1 : (m : Int) < 1440 := by omega
  have k0 : (0 : Int) ≤ k := by omega
  have k1 : (k : Int) < 300 := by omega
  clear CD CM CK hd hm hk hs hq a0 a1 b0 b1 c0 c1 hT
  go_enter Tryd.func9, Tryd.ntmps9
  go_wp2_with fail
  (with_reducible refine (sane_any _ HU.out.now.2).mono ?_)
  rintro e v1 ⟨rfl, hb⟩
  replace HU := Lib.hid (HU.out.next hb)
  clear hb
  go_wp2_with fail
  (with_reducible refine (HD.out _).mono ?_)
  rintro e v2 ⟨rfl, hb⟩
  replace HU := Lib.hid (HU.out.next hb)
  clear hb
  go_wp2_with fail
  (with_reducible refine (HM.out _).mono ?_)
  rintro e v3 ⟨rfl, hb⟩
  replace HU := Lib.hid (HU.out.next hb)
  clear hb
  have hs := HE.out.1
  have s0 : (0 : Int) ≤ s := by omega
  have s1 : (s : Int) ≤ 475199 := by have := HL.out; omega
  go_wp2_with fail
  clear hs
  (with_reducible refine (HK.out _).mono ?_)
  rintro e v4 ⟨rfl, hb⟩
  replace HU := Lib.hid (HU.out.next hb)
  clear hb
  go_wp2_with fail
  (with_reducible refine ((noonS_yes s (by have := HL.out; omega) _).mono (sameU _ _)).mono ?_)
  rintro e v5 ⟨rfl, hb⟩
  replace HU := Lib.hid (HU.out.next hb)
  clear hb
  have hq := HE.out.2
  go_wp2_with fail
  clear hq
  (with_reducible refine ((noonS_yes q HL.out.2 _).mono (sameU _ _)).mono ?_)
  rintro e v6 ⟨rfl, hb⟩
  replace HU := Lib.hid (HU.out.next hb)
  clear hb
  rw [HN.out]
  go_wp2_with fail
  (with_reducible refine ((seasS_yes s (by have := HL.out; omega) _).mono (sameU _ _)).mono ?_)
  rintro e v7 ⟨rfl, hb⟩
  replace HU := Lib.hid (HU.out.next hb)
  clear hb
  obtain ⟨y, hy⟩ : ∃ y : Nat, s + 518400 = y := ⟨_, rfl⟩
  have hy' : (s : Int) + 518400 = (y : Int) := by omega
  go_wp2_with fail
  clear hy'
  (with_reducible refine ((seasS_yes y (by have := HL.out; omega) _).mono (sameU _ _)).mono ?_)
  rintro e v8 ⟨rfl, hb⟩
  replace HU := Lib.hid (HU.out.next hb)
  clear hb
  rw [show seasN y = seasN s from by rw [← hy]; exact HY.out]
  obtain ⟨z, hz⟩ : ∃ z : Nat, s + 259200 = z := ⟨_, rfl⟩
  have hz' : (s : Int) + 259200 = (z : Int) := by omega
  clear hy
  go_wp2_with fail
  clear hz'
  (with_reducible refine ((seasS_yes z (by have := HL.out; omega) _).mono (sameU _ _)).mono ?_)
  rintro e v9 ⟨rfl, hb⟩
  replace HU := Lib.hid (HU.out.next hb)
  clear hb
  have hb := seasN_le s
  have h2 := HH.out
  rw [hz] at h2
  generalize seasN s = f at *
  generalize seasN z = u at *
  generalize noonN s = r at *
  have f0 : (9000 : Int) ≤ f := by omega
  have f1 : (f : Int) ≤ 15000 := by omega
  have u0 : (0 : Int) ≤ u := by omega
  have u1 : (u : Int) ≤ 24000 := by omega
  clear hb hz HN HY HH
  rcases h2 with h2 | h2
  · have e : (f : Int) + u = 24000 := by omega
    clear h2
    go_wp2
    go_ret
    exact ⟨rfl, HU.out.now.1⟩
  · have e : (f : Int) + u = 23999 := by omega
    clear h2
    go_wp2
    go_ret
    exact ⟨rfl, HU.out.now.1⟩
end Go.Proofs.YtbgdlfkeimaaiaaDoor
