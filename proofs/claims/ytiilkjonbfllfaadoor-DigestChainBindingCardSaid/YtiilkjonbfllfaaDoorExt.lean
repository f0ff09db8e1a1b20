/- Extension, walked. -/
import Derived.Test.YtiilkjonbfllfaaDoorIns
namespace Go.Proofs.YtiilkjonbfllfaaDoor
open Go.RowKit

theorem ext_bad (al : Option Addr) (n c : Nat) (m : Int) (hm : m < 0 ∨ n < m) (w : World) :
    Calls Tryd.prog 24 #[.slice al n c, .int .i64 m] w fun e w' => e = .returned (.tuple #[.slice none 0 0, .int .i64 2]) ∧ w = w' := by
  by_cases h : m < 0
  · have h0' : decide (m < 0) = true := by simp; omega
    go_enter Tryd.func24, Tryd.ntmps24
    go_wp2_with fail
    go_ret2
    exact ⟨rfl, rfl⟩
  · have h0' : decide (m < 0) = false := by simp; omega
    have h1 : (n : Int) < m := hm.resolve_left h
    clear hm
    go_enter Tryd.func24, Tryd.ntmps24
    go_wp2_with fail
    go_ret2
    exact ⟨rfl, rfl⟩
theorem ext_zero (al : Option Addr) (n c : Nat) (w : World) :
    Calls Tryd.prog 24 #[.slice al n c, .int .i64 0] w fun e w' => e = .returned (.tuple #[.slice none 0 0, .int .i64 0]) ∧ w = w' := by
  have h1' : decide ((n : Int) < 0) = false := by simp
  go_enter Tryd.func24, Tryd.ntmps24
  go_wp2_with fail
  go_ret2
  exact ⟨rfl, rfl⟩

set_option maxRecDepth 100000 in
set_option maxHeartbeats 2000000 in
theorem ext_ok (al : Option Addr) (n c : Nat) (l : List ByteArray) (hn : n ≤ 1000) (hnc : n ≤ c) (hc : c ≤ maxLen) (w : World) (hl : Strs w al n l) (hls : ∀ s ∈ l, s.size ≤ 400000) (hT : Tab w) (i : Nat) (hi : i < n) :
    Calls Tryd.prog 24 #[.slice al n c, .int .i64 (i + 1 : Nat)] w fun e w' => ∃ v', e = .returned (.tuple #[v', .int .i64 0]) ∧ StrOut w (extS l (i + 1)) v' w' := by
  have HE := Lib.hid (extS_dsc l (i + 1) (by omega) (by rw [hl.1]; omega))
  rw [hl.1] at HE
  have hends : Ends (stopB (i + 1)) i := ends_B (i + 1) (by omega)
  have hb0 := dsc_bounds hends _ 0 n rfl (Nat.zero_le _) hi
  have hl0 := dsc_length hends _ 0 n rfl (Nat.zero_le _) hi
  have hlast := last_B (i + 1) (by omega) _ 0 n rfl (by omega) (by omega)
  rw [Nat.add_sub_cancel] at hlast
  have BS := Lib.hid (fun w2 => bsB_any n i hi (by omega) w2)
  have hdB : dB n (i + 1) = dscR (stopB (i + 1)) 0 n i := rfl
  rw [← hdB] at hb0 hl0 hlast
  clear hdB
  have h0' : decide (((i + 1 : Nat) : Int) < 0) = false := by simp; omega
  have h1' : decide (n < i + 1) = false := by simp; omega
  have h2' : (((i + 1 : Nat) : Int) == 0) = false := by rw [beq_eq_false_iff_ne]; omega
  have h3' : i + 1 ≤ n := by omega
  obtain ⟨M, hM⟩ : ∃ M, i + 1 = M := ⟨_, rfl⟩
  rw [hM] at h0' h1' h2' h3' HE BS hb0 hl0 hlast ⊢
  obtain ⟨d, hd⟩ : ∃ d, dB n M = d := ⟨_, rfl⟩
  have HD := Lib.hid hd
  rw [hd] at HE hb0 hl0 hlast
  clear hd hM
  obtain ⟨⟨lf, lt⟩, bs⟩ := d
  dsimp only at hb0 hl0 hlast HE
  obtain ⟨_, hlf, rfl⟩ := hlast
  have H1 := Lib.hid (show (low (lf, lt) ++ bs.reverse).length ≤ 1000 by
    rw [List.length_append, List.length_reverse]; unfold low; split <;> simp <;> omega)
  have H2 := Lib.hid (show ∀ p ∈ low (lf, lt) ++ bs.reverse, p.1 < p.2 ∧ p.2 ≤ n from fun p hp => by
    rcases List.mem_append.1 hp with hp | hp
    · unfold low at hp
      by_cases h : 0 < lf
      · rw [if_pos h] at hp; obtain rfl := List.mem_singleton.1 hp; exact ⟨hlf, h3'⟩
      · rw [if_neg h] at hp; cases hp
    · exact (hb0 p (List.mem_reverse.1 hp)).2)
  have H3 := Lib.hid (show bs.reverse.length ≤ 1000 by rw [List.length_reverse]; omega)
  have hz : 0 < w.heap.size := hT.1
  have HL := Lib.hid hl; have HT := Lib.hid hT; have HLS := Lib.hid hls
  clear hl hT hls hb0 hl0
  go_enter Tryd.func24, Tryd.ntmps24
  go_wp2_with fail
  refine (BS.out _).mono ?_
  rw [HD.out]
  rintro e w1 ⟨v, rfl, hsp, hb1⟩
  have hz1 : w.heap.size ≤ w1.heap.size := hb1.size
  have hvo : v.ownBlock ≠ some (w1.heap.size + 1) := fun e => by
    rcases hsp with ⟨_, rfl⟩ | ⟨g, c, rfl, _, hr, _⟩
    · cases e
    · obtain ⟨_, hg, _⟩ := hr
      have := (Array.getElem?_eq_some_iff.1 hg).1
      have := Option.some.inj (show some g = some (w1.heap.size + 1) from e)
      omega
  have HSP := Lib.hid hsp; have HVO := Lib.hid hvo; have HB1 := Lib.hid hb1
  clear hsp hvo hb1
  go_upto_if 27 with (fail)
  go_cut [7] (fun s7 wx => SpHeld wx w.heap.size s7 (low (lf, lt) ++ bs.reverse) ∧ Below w.heap.size w wx)
  case first =>
    have hB2 : Below w1.heap.size w1 (w1.alloc (Obj.cells #[Value.int .i64 lf, Value.int .i64 lt] 57)) := (Below.refl _ _).alloc (Nat.le_refl _) _
    have hBw2 := HB1.out.trans (hB2.mono hz1)
    by_cases h : 0 < lf
    · have hlfI : (0 : Int) < lf := by omega
      have HLOW := Lib.hid (show low (lf, lt) ++ bs.reverse = (lf, lt) :: bs.reverse by unfold low; rw [if_pos h]; rfl)
      have hB3 : Below w1.heap.size w1 ((w1.alloc (Obj.cells #[Value.int .i64 lf, Value.int .i64 lt] 57)).alloc (Obj.cells #[Value.int .i64 lf, Value.int .i64 lt] 57)) := hB2.alloc (by simp) _
      have HB3 := Lib.hid hB3; clear hB3
      go_wp2_with fail
      refine (insert_any w.heap.size v bs.reverse (lf, lt) (w1.heap.size + 1) _ (HSP.out.below HB3.out) H3.out (by simp; omega) HVO.out (heap_new' _ _ _ (by simp))).mono ?_
      rintro e w4 ⟨v', rfl, hsp4, hb4⟩
      have hB4 : Below w.heap.size w w4 := (HB1.out.trans (HB3.out.mono hz1)).trans hb4
      have HS4 := Lib.hid hsp4
      clear hsp4 hb4
      go_wp2_with fail
      go_meet
      exact ⟨by rw [HLOW.out]; exact HS4.out, hB4⟩
    · have hlf0 : lf = 0 := by omega
      subst hlf0
      go_wp2_with fail
      go_meet
      exact ⟨HSP.out.below hB2, hBw2⟩
  case rest =>
    obtain ⟨hsp, hb⟩ := hcut
    have HSP2 := Lib.hid hsp; clear hsp
    go_wp2_with fail
    refine (roots_any al n c l hn hnc hc _ (HL.out.below hb) HLS.out (HT.out.below hb hz) u7 w.heap.size _ HSP2.out H1.out H2.out).mono ?_
    rintro e w5 ⟨v', rfl, hso⟩
    have HSO := Lib.hid hso; clear hso
    go_wp2_with fail
    go_ret2
    obtain ⟨g, e1, e2, e3, e4⟩ := HSO.out
    rw [← HE.out] at e1 e3
    exact ⟨v', rfl, g, e1, by have := hb.size; omega, e3, hb.trans (e4.mono hb.size)⟩
end Go.Proofs.YtiilkjonbfllfaaDoor
