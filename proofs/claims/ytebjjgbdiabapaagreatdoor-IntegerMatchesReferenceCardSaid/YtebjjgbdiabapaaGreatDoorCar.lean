/- carried, walked. -/
import Derived.Maps.AppendAt
import Derived.Test.YtebjjgbdiabapaaGreatDoorTrm
namespace Go.Proofs.YtebjjgbdiabapaaGreatDoor
open Go.RowKit

theorem drop_at_int (zs : List Int) (k : Nat) (h : k < zs.length) : zs.drop k = zs[k]?.getD 0 :: zs.drop (k + 1) := by
  rw [List.drop_eq_getElem_cons h, List.getElem?_eq_getElem h]; rfl
/-- Between two columns. -/
def CarRel (B : Nat) (w : World) (zs : List Int) (k : Nat) (c : Int) (v : Value) (wr : World) : Prop :=
  ∃ gs : List Int, gs.length = k ∧ (∀ d ∈ gs, 0 ≤ d ∧ d < 10000) ∧ vt 10000 gs (c + vz 10000 (zs.drop k)) = vz 10000 zs ∧ wr.ownsRow B 3 1 v k (gs.map (Value.int .i64)) ∧ Below B w wr
theorem car_step {B : Nat} {w : World} {zs : List Int} {k : Nat} {c t g c' : Int} {v' : Value} {w1 : World} {gs : List Int} (hk : k < zs.length) (h1 : gs.length = k) (h2 : ∀ d ∈ gs, 0 ≤ d ∧ d < 10000) (h3 : vt 10000 gs (c + vz 10000 (zs.drop k)) = vz 10000 zs)
    (ht : t = c + zs[k]?.getD 0) (hg : g = t % 10000) (hc : c' = t / 10000) (hown : w1.ownsRow B 3 1 v' (k + 1) (gs.map (Value.int .i64) ++ [.int .i64 g])) (hb : Below B w w1) : CarRel B w zs (k + 1) c' v' w1 := by
  subst ht hg hc
  refine ⟨gs ++ [(c + zs[k]?.getD 0) % 10000], by simp [h1], ?_, ?_, by simpa using hown, hb⟩
  · intro d hd
    rw [List.mem_append, List.mem_singleton] at hd
    rcases hd with hd | rfl
    · exact h2 d hd
    · omega
  · rw [← h3, drop_at_int zs k hk, carry_step]
theorem car_end {B : Nat} {zs : List Int} {c : Int} {v' : Value} {w1 : World} {gs : List Int} {N : Nat} (hN : zs.length = N) (hs : 0 ≤ vz 10000 zs) (hc : c ≤ 9999) (h2 : ∀ d ∈ gs, 0 ≤ d ∧ d < 10000) (h3 : vt 10000 gs (c + vz 10000 (zs.drop N)) = vz 10000 zs)
    (hown : w1.ownsRow B 3 1 v' (N + 1) (gs.map (Value.int .i64) ++ [.int .i64 c])) : Ls w1 v' (gs ++ [c]) ∧ (∀ d ∈ gs ++ [c], 0 ≤ d ∧ d < 10000) ∧ vz 10000 (gs ++ [c]) = vz 10000 zs := by
  rw [List.drop_eq_nil_of_le (by omega), vz, Int.add_zero] at h3
  refine ⟨Ls.own hown _ (by simp), ?_, ?_⟩
  · intro d hd
    rw [List.mem_append, List.mem_singleton] at hd
    rcases hd with hd | rfl
    · exact h2 d hd
    · have := carry_end gs h2 d (by rw [h3]; exact hs)
      omega
  · rw [vz_append, ← h3]; simp [vz]

set_option maxRecDepth 100000 in
set_option maxHeartbeats 2000000 in
theorem carried_nt (w : World) (v : Value) (zs : List Int) (h : Ls w v zs) (hN : zs.length ≤ 100000) (hz : ∀ d ∈ zs, -99980001 ≤ d ∧ d ≤ 99980001) (hs : 0 ≤ vz 10000 zs) :
    Calls Tryz.prog 76 #[v] w (NtOut w (vz 10000 zs).toNat) := by
  obtain ⟨i0, hi, hz0, hz1, hz2⟩ := info_parts infoInt
  rcases h with ⟨rfl, rfl⟩ | ⟨b, o, c, rfl, hc, hlt, hcell⟩
  · go_enter Tryz.func76, Tryz.ntmps76
    go_wp2_with (at_make
                 refine wpList_make_own _ rfl _ _ 40 rfl w.heap.size 3 i0 (.int .i64 0) 1 Tryz.underlying40 hi hz0 hz1 .i64 .i64 _ 1 rfl rfl (by omega) (by rw [hz2]; omega) (by unfold maxLen; omega) (Nat.le_refl _) ?_
                 intro w1 hown hgrow
                 have hb1 : Below w.heap.size w w1 := (Below.refl _ w).grown hgrow (Nat.le_refl _) (fun k e => by cases e)
                 clear hgrow)
    go_loopw [3, 4, 14] (fun v cv iv wr => iv = .int .i64 0 ∧ cv = .int .i64 0 ∧ wr.ownsRow w.heap.size 3 1 v 0 [] ∧ Below w.heap.size w wr) (fun _ _ _ _ => 0)
    case atStart => exact ⟨rfl, rfl, hown, hb1⟩
    case round =>
      obtain ⟨rfl, rfl, hrow, hb⟩ := hrel
      clear hown hb1
      have HB := Lib.hid hb
      have hsz := hb.size
      clear hb
      go_wp2_with (first
        | (at_builtin; refine wpList_append_own _ rfl _ _ 40 rfl w.heap.size 3 i0 (.int .i64 0) 1 8 Tryz.underlying40 hi hz0 hz1 hz2 rfl (by decide) _ _ _ rfl (hrow.alloc _) ⟨wr.heap.size, 0, none⟩ 1 1 [.int .i64 0] rfl rfl (cell_one_new _ _ _) (by simp [Value.oneCell']) (by unfold maxLen; omega) (by omega) (by simp; omega) ?_; intro v' w1 hown' hgrow _; have hb2 := Lib.hid ((HB.out.alloc (by omega) _).grown hgrow (by simp; omega) (ownNone hrow)); have HL := Lib.hid (Ls.own hown' [0] (by simp)); clear hown')
        | (go_at_call 80; refine (trimmed_nt _ _ _ HL.out (by simp) (by simp)).mono ?_; rintro e w2 ⟨v2, rfl, hnt, rfl⟩; have HNT := Lib.hid hnt; clear hnt))
      go_ret
      exact ⟨_, rfl, HNT.out, hb2.out⟩
  · obtain ⟨N, hNe⟩ : ∃ N, zs.length = N := ⟨_, rfl⟩
    have HC := Lib.hid hcell
    have HN := Lib.hid hNe
    have HZ := Lib.hid hz
    rw [hNe] at hc hN
    rw [hNe]
    have HS := Lib.hid hs
    clear hcell hNe hz hs
    go_enter Tryz.func76, Tryz.ntmps76
    go_wp2_with (at_make
                 refine wpList_make_own _ rfl _ _ 40 rfl w.heap.size 3 i0 (.int .i64 0) 1 Tryz.underlying40 hi hz0 hz1 .i64 .i64 _ (N + 1) rfl rfl (by omega) (by rw [hz2]; omega) (by unfold maxLen; omega) (Nat.le_refl _) ?_
                 intro w1 hown hgrow
                 have hb1 : Below w.heap.size w w1 := (Below.refl _ w).grown hgrow (Nat.le_refl _) (fun k e => by cases e)
                 clear hgrow)
    go_loopw [3, 4, 14] (fun v cv iv wr => ∃ (k : Nat) (q : Int), k ≤ N ∧ iv = .int .i64 k ∧ cv = .int .i64 q ∧ -10000 ≤ q ∧ q ≤ 9999 ∧ CarRel w.heap.size w zs k q v wr) (fun _ _ iv _ => N - (intOf iv).toNat)
    case atStart => exact ⟨0, 0, Nat.zero_le _, rfl, rfl, by decide, by decide, [], rfl, by simp, by simp [vt], by simpa using hown, hb1⟩
    case round =>
      obtain ⟨k, q, hk, rfl, rfl, hq0, hq1, gs, h1, h2, h3, hrow, hb⟩ := hrel
      clear hown hb1
      have H1 := Lib.hid h1; have H2 := Lib.hid h2; have H3 := Lib.hid h3; have HB := Lib.hid hb
      have hsz := hb.size
      clear h1 h2 h3 hb
      by_cases hkN : k < N
      · obtain ⟨x, hx⟩ : ∃ x, zs[k]?.getD 0 = x := ⟨_, rfl⟩
        have hcell := (HB.out.cell (p := ⟨b, o + k, none⟩) hlt).trans (HC.out k (by rw [HN.out]; exact hkN))
        rw [hx] at hcell
        have hxz : -99980001 ≤ x ∧ x ≤ 99980001 := by
          rw [← hx]
          exact getD_mem (p := fun d => -99980001 ≤ d ∧ d ≤ 99980001) zs (by decide) HZ.out k
        have HX := Lib.hid hx
        clear hx
        obtain ⟨t, ht⟩ : ∃ t, q + x = t := ⟨_, rfl⟩
        have HT := Lib.hid ht
        have htb : -99990001 ≤ t ∧ t ≤ 99990000 := by omega
        have hdx := tdiv_exact t
        have hda : (t - t % 10000) / 1 = t - t % 10000 := by omega
        clear hda
        obtain ⟨g, hg⟩ : ∃ g, t % 10000 = g := ⟨_, rfl⟩
        obtain ⟨c', hc'⟩ : ∃ c', t / 10000 = c' := ⟨_, rfl⟩
        have hgb : 0 ≤ g ∧ g < 10000 := by omega
        have hcb : -10000 ≤ c' ∧ c' ≤ 9999 := by omega
        rw [hg, hc'] at hdx
        have HG := Lib.hid hg; have HC' := Lib.hid hc'
        have HP := Lib.hid (fun (v' : Value) (w1 : World) (ho : w1.ownsRow w.heap.size 3 1 v' (k + 1) (gs.map (Value.int .i64) ++ [.int .i64 g])) (hb' : Below w.heap.size w w1) =>
          car_step (zs := zs) (c := q) (t := t) (g := g) (c' := c') (by rw [HN.out]; exact hkN) H1.out H2.out H3.out (by rw [HX.out]; exact HT.out.symm) HG.out.symm HC'.out.symm ho hb')
        by_cases hr : t.tmod 10000 < 0
        · have hr2 := tmod_neg t hr
          rw [hg] at hr2
          obtain ⟨r, hre⟩ : ∃ r, t.tmod 10000 = r := ⟨_, rfl⟩
          rw [hre] at hr hr2
          clear hg hc'
          go_wp2_with (at_builtin; refine wpList_append_own _ rfl _ _ 40 rfl w.heap.size 3 i0 (.int .i64 0) 1 8 Tryz.underlying40 hi hz0 hz1 hz2 rfl (by decide) _ _ _ rfl (hrow.alloc _) ⟨wr.heap.size, 0, none⟩ 1 1 [.int .i64 g] rfl rfl (cell_one_new _ _ _) (by simp [Value.oneCell']) (by unfold maxLen; omega) (by omega) (by simp; omega) ?_; intro v' w1 hown' hgrow _; have hb2 := Lib.hid ((HB.out.alloc (by omega) _).grown hgrow (by simp; omega) (ownNone hrow)))
          exact ⟨⟨k + 1, c', by omega, by go_num, rfl, hcb.1, hcb.2, HP.out _ _ hown' hb2.out⟩, by simp [intOf]; omega⟩
        · have hr2 := tmod_pos t (by omega)
          rw [hg] at hr2
          clear hg hc' hr
          go_wp2_with (at_builtin; refine wpList_append_own _ rfl _ _ 40 rfl w.heap.size 3 i0 (.int .i64 0) 1 8 Tryz.underlying40 hi hz0 hz1 hz2 rfl (by decide) _ _ _ rfl (hrow.alloc _) ⟨wr.heap.size, 0, none⟩ 1 1 [.int .i64 g] rfl rfl (cell_one_new _ _ _) (by simp [Value.oneCell']) (by unfold maxLen; omega) (by omega) (by simp; omega) ?_; intro v' w1 hown' hgrow _; have hb2 := Lib.hid ((HB.out.alloc (by omega) _).grown hgrow (by simp; omega) (ownNone hrow)))
          exact ⟨⟨k + 1, c', by omega, by go_num, rfl, hcb.1, hcb.2, HP.out _ _ hown' hb2.out⟩, by simp [intOf]; omega⟩
      · have hkk : k = N := by omega
        subst hkk
        have HE := Lib.hid (fun (v' : Value) (w1 : World) (ho : w1.ownsRow w.heap.size 3 1 v' (k + 1) (gs.map (Value.int .i64) ++ [.int .i64 q])) => car_end HN.out HS.out hq1 H2.out H3.out ho)
        go_wp2_with (first
          | (at_builtin; refine wpList_append_own _ rfl _ _ 40 rfl w.heap.size 3 i0 (.int .i64 0) 1 8 Tryz.underlying40 hi hz0 hz1 hz2 rfl (by decide) _ _ _ rfl (hrow.alloc _) ⟨wr.heap.size, 0, none⟩ 1 1 [.int .i64 q] rfl rfl (cell_one_new _ _ _) (by simp [Value.oneCell']) (by unfold maxLen; omega) (by omega) (by simp; omega) ?_; intro v' w1 hown' hgrow _; have hb2 := Lib.hid ((HB.out.alloc (by omega) _).grown hgrow (by simp; omega) (ownNone hrow)); obtain ⟨hls, hdg, hvz⟩ := HE.out _ _ hown'; have HL := Lib.hid hls; have HD := Lib.hid hdg; have HV := Lib.hid hvz; clear hls hdg hvz hown')
          | (go_at_call 80; refine (trimmed_nt _ _ _ HL.out (by rw [List.length_append, H1.out]; simp; omega) HD.out).mono ?_; rintro e w2 ⟨v2, rfl, hnt, rfl⟩; have HNT := Lib.hid hnt; clear hnt))
        go_ret
        exact ⟨_, rfl, by rw [← HV.out]; exact HNT.out, hb2.out⟩
end Go.Proofs.YtebjjgbdiabapaaGreatDoor
