/- Integer layer, merged: Slic, Trm, Car, Cln, Pls. -/
import Derived.WalkKit
import Derived.WalkSpells
import Derived.WalkLawsBesides
import Derived.Lib.Hide
import Derived.IntWalk
import Derived.Maps.AppendAt
import Derived.Lib.SliceRun
import Derived.RangeFuncBox
import Derived.Test.YtcjcafekacceiaaGreatDoorA
import Derived.Test.YtcjcafekacceiaaGreatDoorChecked
/-! A slice cut at one end or at both: what the cut gives, for every world. -/
namespace Go.Proofs.YtcjcafekacceiaaGreatDoor
open Go.RowKit
section
variable {P : Program}
theorem run_cut_to (t e : TypeId) (sz : Nat) (hu : P.underlying t = some (.slice e)) (hs : (P.info? e).map (·.size) = some sz) (al : Option Addr) (n c h : Nat) (hh : h ≤ c) (w : World) :
    (Instr.slice t (.slice al n c) none (some (.int .i64 h)) none).run P w = .ok (.slice al h c) w := by
  cases hq : P.info? e with
  | none => simp [hq] at hs
  | some i =>
    cases al <;> simp [Instr.slice, Instr.sliceBounds, Instr.sliceBound, asIntOf, run_underlying hu, sizeOf, typeInfo, hq, go_sem] <;> intro h' <;> omega
theorem run_cut_from (t e : TypeId) (sz : Nat) (hu : P.underlying t = some (.slice e)) (hs : (P.info? e).map (·.size) = some sz) (g o n c h : Nat) (hh : h ≤ n) (hc : h < c) (w : World) :
    (Instr.slice t (.slice (some ⟨g, o, none⟩) n c) (some (.int .i64 h)) none none).run P w = .ok (.slice (some ⟨g, o + h * sz, none⟩) (n - h) (c - h)) w := by
  have h1 : ¬ c = h := by omega
  cases hq : P.info? e with
  | none => simp [hq] at hs
  | some i =>
    have hz : i.size = sz := by simpa [hq] using hs
    simp [Instr.slice, Instr.sliceBounds, Instr.sliceBound, asIntOf, run_underlying hu, sizeOf, typeInfo, hq, h1, hz, Addr.add, go_sem]
    rw [if_pos hh]
    by_cases h0 : h * sz = 0
    · rw [if_pos h0, h0, Nat.add_zero]
    · rw [if_neg h0]
theorem run_cut_both (t e : TypeId) (sz : Nat) (hu : P.underlying t = some (.slice e)) (hs : (P.info? e).map (·.size) = some sz) (g o n c l h : Nat) (hl : l ≤ h) (hh : h ≤ c) (hc : l < c) (w : World) :
    (Instr.slice t (.slice (some ⟨g, o, none⟩) n c) (some (.int .i64 l)) (some (.int .i64 h)) none).run P w = .ok (.slice (some ⟨g, o + l * sz, none⟩) (h - l) (c - l)) w := by
  have h1 : ¬ c = l := by omega
  cases hq : P.info? e with
  | none => simp [hq] at hs
  | some i =>
    have hz : i.size = sz := by simpa [hq] using hs
    simp [Instr.slice, Instr.sliceBounds, Instr.sliceBound, asIntOf, run_underlying hu, sizeOf, typeInfo, hq, h1, hz, Addr.add, go_sem]
    rw [if_pos hh, if_pos hl]
    by_cases h0 : l * sz = 0
    · rw [if_pos h0, h0, Nat.add_zero]
    · rw [if_neg h0]
end
end Go.Proofs.YtcjcafekacceiaaGreatDoor

/-! trimmed and carried, walked. -/
namespace Go.Proofs.YtcjcafekacceiaaGreatDoor
open Go.RowKit

theorem infoInt : (Tryz.prog.info? 3).map (fun i => (i.zero, i.size, i.bytes)) = some (some (.int .i64 0), 1, 8) := by kernel_rfl
theorem sizeInt : (Tryz.prog.info? 3).map (·.size) = some 1 := by kernel_rfl

/-- A slice's elements lie from block B on. -/
def AtLeast (B : Nat) : Value → Prop
  | .slice (some a) _ _ => B ≤ a.block
  | _ => True
def TrmOut (w : World) (v : Value) (zs : List Int) (e : Ending) (w' : World) : Prop :=
  ∃ v' m, e = .returned v' ∧ (∀ B, AtLeast B v → AtLeast B v') ∧ m ≤ zs.length ∧ (∀ i, m ≤ i → zs[i]?.getD 0 = 0) ∧ (m = 0 ∨ zs[m - 1]?.getD 0 ≠ 0) ∧ Ls w v' (zs.take m) ∧ w' = w
/-- A call that returns the number n and turns nothing that lay. -/
def NtOut (w : World) (n : Nat) (e : Ending) (w' : World) : Prop := ∃ v', e = .returned v' ∧ Nt w' v' n ∧ Below w.heap.size w w'

set_option maxHeartbeats 1000000 in
theorem trimmed_cut (w : World) (v : Value) (zs : List Int) (h : Ls w v zs) (hN : zs.length ≤ 1000000) :
    Calls Tryz.prog 131 #[v] w (TrmOut w v zs) := by
  rcases h with ⟨rfl, rfl⟩ | ⟨b, o, c, rfl, hc, hlt, hcell⟩
  · go_enter Tryz.func131, Tryz.ntmps131
    go_wp2
    go_loop [3] (fun nv => nv = .int .i64 0) (fun _ => 0)
    case atStart => rfl
    case round =>
      obtain rfl := hrel
      go_wp2
      go_ret
      exact ⟨_, 0, rfl, fun _ h => h, by simp, by simp, .inl rfl, Ls.nil w, rfl⟩
  · obtain ⟨N, hNe⟩ : ∃ N, zs.length = N := ⟨_, rfl⟩
    have HC := Lib.hid hcell
    have HN := Lib.hid hNe
    rw [hNe] at hc hN
    rw [hNe]
    clear hcell hNe
    have hcut := fun h hh => run_cut_to (P := Tryz.prog) 40 3 1 Tryz.underlying40 sizeInt (some ⟨b, o, none⟩) N c h hh
    go_enter Tryz.func131, Tryz.ntmps131
    go_wp2
    go_loop [3] (fun nv => ∃ m : Nat, m ≤ N ∧ nv = .int .i64 m ∧ (∀ i, m ≤ i → zs[i]?.getD 0 = 0)) (fun nv => (intOf nv).toNat)
    case atStart => exact ⟨N, Nat.le_refl _, rfl, fun i hi => by rw [List.getElem?_eq_none (by rw [HN.out]; exact hi)]; rfl⟩
    case round =>
      obtain ⟨m, hm, rfl, hz⟩ := hrel
      have HZ := Lib.hid hz
      clear hz
      have hcm := hcut m (by omega)
      clear hcut
      have hce : Hid _ := Lib.hid (fun k => by rw [List.length_take, HN.out]; exact Nat.min_eq_left hm : ∀ _ : Unit, (zs.take m).length = m)
      have hls : Hid _ := Lib.hid (show Ls w (.slice (some ⟨b, o, none⟩) m c) (zs.take m) from .inr ⟨b, o, c, by rw [hce.out ()], by rw [hce.out ()]; omega, hlt, fun i hi => by
        rw [hce.out ()] at hi
        rw [HC.out i (by rw [HN.out]; omega), List.getElem?_take, if_pos hi]⟩)
      clear hce
      by_cases h0 : m = 0
      · subst h0
        go_wp2
        go_ret
        exact ⟨_, 0, rfl, fun _ h => h, by rw [HN.out]; omega, HZ.out, .inl rfl, hls.out, rfl⟩
      · obtain ⟨k, rfl⟩ : ∃ k, m = k + 1 := ⟨m - 1, by omega⟩
        have hck := HC.out k (by rw [HN.out]; omega)
        obtain ⟨z, hz⟩ : ∃ z, zs[k]?.getD 0 = z := ⟨_, rfl⟩
        have HK := Lib.hid hz
        rw [hz] at hck
        clear hz
        by_cases hz0 : z = 0
        · subst hz0
          go_wp2
          go_round
          case rel => exact ⟨k, by omega, by go_num, fun i hi => by rcases Nat.lt_or_ge k i with h | h; exact HZ.out i h; rw [show i = k by omega]; exact HK.out⟩
          case measure => simp [intOf]
        · go_wp2
          go_ret
          exact ⟨_, k + 1, rfl, fun _ h => h, by rw [HN.out]; omega, HZ.out, .inr (by rw [show k + 1 - 1 = k from rfl, HK.out]; exact hz0), hls.out, rfl⟩

theorem trimmed_far (w : World) (v : Value) (zs : List Int) (h : Ls w v zs) (hN : zs.length ≤ 1000000) (hd : ∀ d ∈ zs, 0 ≤ d ∧ d < 10000) :
    Calls Tryz.prog 131 #[v] w fun e w' => ∃ v', e = .returned v' ∧ Nt w v' (vz 10000 zs).toNat ∧ (∀ B, AtLeast B v → AtLeast B v') ∧ w' = w := by
  refine (trimmed_cut w v zs h hN).mono ?_
  rintro e w' ⟨v', m, rfl, ha, hm, hz, hl, hls, rfl⟩
  refine ⟨v', rfl, ?_, ha, rfl⟩
  unfold Nt
  rw [show (10000 : Int) = ((10000 : Nat) : Int) from rfl, ← canon 10000 (by decide) zs m hd hm hz hl]
  exact hls
theorem trimmed_nt (w : World) (v : Value) (zs : List Int) (h : Ls w v zs) (hN : zs.length ≤ 1000000) (hd : ∀ d ∈ zs, 0 ≤ d ∧ d < 10000) :
    Calls Tryz.prog 131 #[v] w fun e w' => ∃ v', e = .returned v' ∧ Nt w v' (vz 10000 zs).toNat ∧ w' = w :=
  (trimmed_far w v zs h hN hd).mono fun _ _ ⟨v', h1, h2, _, h3⟩ => ⟨v', h1, h2, h3⟩
theorem own_atLeast {w : World} {base : Nat} {e : TypeId} {size : Nat} {v : Value} {n : Nat} {xs : List Value} (h : w.ownsRow base e size v n xs) : AtLeast base v := by
  rcases h.2 with ⟨rfl, _⟩ | ⟨g, cap, cur, rfl, hb, _⟩
  · trivial
  · exact hb
theorem ls_setFar {W : World} {v : Value} {zs : List Int} {B : Nat} (h : Ls W v zs) (ha : AtLeast (B + 1) v) (o : Nat) (u : Value) : Ls (W.setCell ⟨B, o, none⟩ u) v zs := by
  rcases h with h | ⟨b, o', c', rfl, hc, hlt, hcell⟩
  · exact .inl h
  · have hb : B + 1 ≤ b := ha
    exact .inr ⟨b, o', c', rfl, hc, by simpa using hlt, fun i hi => (World.cell?_of_block (Below.heap_setCell _ _ _ _ (show b ≠ B by omega))).trans (hcell i hi)⟩
end Go.Proofs.YtcjcafekacceiaaGreatDoor

/-! carried, walked. -/
namespace Go.Proofs.YtcjcafekacceiaaGreatDoor
open Go.RowKit

theorem drop_at_int (zs : List Int) (k : Nat) (h : k < zs.length) : zs.drop k = zs[k]?.getD 0 :: zs.drop (k + 1) := by
  rw [List.drop_eq_getElem_cons h, List.getElem?_eq_getElem h]; rfl
/-- Between two columns. -/
def CarRel (B : Nat) (w : World) (zs : List Int) (k : Nat) (c : Int) (v : Value) (wr : World) : Prop :=
  ∃ gs : List Int, gs.length = k ∧ (∀ d ∈ gs, 0 ≤ d ∧ d < 10000) ∧ vt 10000 gs (c + vz 10000 (zs.drop k)) = vz 10000 zs ∧ wr.ownsRow B 3 1 v k (gs.map (Value.int .i64)) ∧ Below B w wr
theorem car_step {B : Nat} {w : World} {zs : List Int} {k : Nat} {c t g c' : Int} {v' : Value} {w1 : World} {gs : List Int} (hk : k < zs.length) (h1 : gs.length = k) (h2 : ∀ d ∈ gs, 0 ≤ d ∧ d < 10000) (h3 : vt 10000 gs (c + vz 10000 (zs.drop k)) = vz 10000 zs)
    (ht : t = c + zs[k]?.getD 0) (hg : g = t % 10000) (hc : c' = t / 10000) (hown : w1.ownsRow B 3 1 v' (k + 1) (gs.map (Value.int .i64) ++ [.int .i64 g])) (hb : Below B w w1) : CarRel B w zs (k + 1) c' v' w1 := by
  subst ht hg hc
  refine ⟨gs ++ [(c + zs[k]?.getD 0) % 10000], by simp [h1], ?_, ?_, by simpa using hown, hb⟩
  · intro d hd
    rw [List.mem_append, List.mem_singleton] at hd
    rcases hd with hd | rfl
    · exact h2 d hd
    · omega
  · rw [← h3, drop_at_int zs k hk, carry_step]
theorem car_end {B : Nat} {zs : List Int} {c : Int} {v' : Value} {w1 : World} {gs : List Int} {N : Nat} (hN : zs.length = N) (hs : 0 ≤ vz 10000 zs) (hc : c ≤ 9999) (h2 : ∀ d ∈ gs, 0 ≤ d ∧ d < 10000) (h3 : vt 10000 gs (c + vz 10000 (zs.drop N)) = vz 10000 zs)
    (hown : w1.ownsRow B 3 1 v' (N + 1) (gs.map (Value.int .i64) ++ [.int .i64 c])) : Ls w1 v' (gs ++ [c]) ∧ (∀ d ∈ gs ++ [c], 0 ≤ d ∧ d < 10000) ∧ vz 10000 (gs ++ [c]) = vz 10000 zs := by
  rw [List.drop_eq_nil_of_le (by omega), vz, Int.add_zero] at h3
  refine ⟨Ls.own hown _ (by simp), ?_, ?_⟩
  · intro d hd
    rw [List.mem_append, List.mem_singleton] at hd
    rcases hd with hd | rfl
    · exact h2 d hd
    · have := carry_end gs h2 d (by rw [h3]; exact hs)
      omega
  · rw [vz_append, ← h3]; simp [vz]

set_option maxRecDepth 100000 in
set_option maxHeartbeats 2000000 in
theorem carried_nt (w : World) (v : Value) (zs : List Int) (h : Ls w v zs) (hN : zs.length ≤ 100000) (hz : ∀ d ∈ zs, -99980001 ≤ d ∧ d ≤ 99980001) (hs : 0 ≤ vz 10000 zs) :
    Calls Tryz.prog 136 #[v] w (NtOut w (vz 10000 zs).toNat) := by
  obtain ⟨i0, hi, hz0, hz1, hz2⟩ := info_parts infoInt
  rcases h with ⟨rfl, rfl⟩ | ⟨b, o, c, rfl, hc, hlt, hcell⟩
  · go_enter Tryz.func136, Tryz.ntmps136
    go_wp2_with (at_make
                 refine wpList_make_own _ rfl _ _ 40 rfl w.heap.size 3 i0 (.int .i64 0) 1 Tryz.underlying40 hi hz0 hz1 .i64 .i64 _ 1 rfl rfl (by omega) (by rw [hz2]; omega) (by unfold maxLen; omega) (Nat.le_refl _) ?_
                 intro w1 hown hgrow
                 have hb1 : Below w.heap.size w w1 := (Below.refl _ w).grown hgrow (Nat.le_refl _) (fun k e => by cases e)
                 clear hgrow)
    go_loopw [3, 4, 14] (fun v cv iv wr => iv = .int .i64 0 ∧ cv = .int .i64 0 ∧ wr.ownsRow w.heap.size 3 1 v 0 [] ∧ Below w.heap.size w wr) (fun _ _ _ _ => 0)
    case atStart => exact ⟨rfl, rfl, hown, hb1⟩
    case round =>
      obtain ⟨rfl, rfl, hrow, hb⟩ := hrel
      clear hown hb1
      have HB := Lib.hid hb
      have hsz := hb.size
      clear hb
      go_wp2_with (first
        | (at_builtin; refine wpList_append_own _ rfl _ _ 40 rfl w.heap.size 3 i0 (.int .i64 0) 1 8 Tryz.underlying40 hi hz0 hz1 hz2 rfl (by decide) _ _ _ rfl (hrow.alloc _) ⟨wr.heap.size, 0, none⟩ 1 1 [.int .i64 0] rfl rfl (cell_one_new _ _ _) (by simp [Value.oneCell']) (by unfold maxLen; omega) (by omega) (by simp; omega) ?_; intro v' w1 hown' hgrow _; have hb2 := Lib.hid ((HB.out.alloc (by omega) _).grown hgrow (by simp; omega) (ownNone hrow)); have HL := Lib.hid (Ls.own hown' [0] (by simp)); clear hown')
        | (go_at_call 131; refine (trimmed_nt _ _ _ HL.out (by simp) (by simp)).mono ?_; rintro e w2 ⟨v2, rfl, hnt, rfl⟩; have HNT := Lib.hid hnt; clear hnt))
      go_ret
      exact ⟨_, rfl, HNT.out, hb2.out⟩
  · obtain ⟨N, hNe⟩ : ∃ N, zs.length = N := ⟨_, rfl⟩
    have HC := Lib.hid hcell
    have HN := Lib.hid hNe
    have HZ := Lib.hid hz
    rw [hNe] at hc hN
    rw [hNe]
    have HS := Lib.hid hs
    clear hcell hNe hz hs
    go_enter Tryz.func136, Tryz.ntmps136
    go_wp2_with (at_make
                 refine wpList_make_own _ rfl _ _ 40 rfl w.heap.size 3 i0 (.int .i64 0) 1 Tryz.underlying40 hi hz0 hz1 .i64 .i64 _ (N + 1) rfl rfl (by omega) (by rw [hz2]; omega) (by unfold maxLen; omega) (Nat.le_refl _) ?_
                 intro w1 hown hgrow
                 have hb1 : Below w.heap.size w w1 := (Below.refl _ w).grown hgrow (Nat.le_refl _) (fun k e => by cases e)
                 clear hgrow)
    go_loopw [3, 4, 14] (fun v cv iv wr => ∃ (k : Nat) (q : Int), k ≤ N ∧ iv = .int .i64 k ∧ cv = .int .i64 q ∧ -10000 ≤ q ∧ q ≤ 9999 ∧ CarRel w.heap.size w zs k q v wr) (fun _ _ iv _ => N - (intOf iv).toNat)
    case atStart => exact ⟨0, 0, Nat.zero_le _, rfl, rfl, by decide, by decide, [], rfl, by simp, by simp [vt], by simpa using hown, hb1⟩
    case round =>
      obtain ⟨k, q, hk, rfl, rfl, hq0, hq1, gs, h1, h2, h3, hrow, hb⟩ := hrel
      clear hown hb1
      have H1 := Lib.hid h1; have H2 := Lib.hid h2; have H3 := Lib.hid h3; have HB := Lib.hid hb
      have hsz := hb.size
      clear h1 h2 h3 hb
      by_cases hkN : k < N
      · obtain ⟨x, hx⟩ : ∃ x, zs[k]?.getD 0 = x := ⟨_, rfl⟩
        have hcell := (HB.out.cell (p := ⟨b, o + k, none⟩) hlt).trans (HC.out k (by rw [HN.out]; exact hkN))
        rw [hx] at hcell
        have hxz : -99980001 ≤ x ∧ x ≤ 99980001 := by
          rw [← hx]
          exact getD_mem (p := fun d => -99980001 ≤ d ∧ d ≤ 99980001) zs (by decide) HZ.out k
        have HX := Lib.hid hx
        clear hx
        obtain ⟨t, ht⟩ : ∃ t, q + x = t := ⟨_, rfl⟩
        have HT := Lib.hid ht
        have htb : -99990001 ≤ t ∧ t ≤ 99990000 := by omega
        have hdx := tdiv_exact t
        have hda : (t - t % 10000) / 1 = t - t % 10000 := by omega
        clear hda
        obtain ⟨g, hg⟩ : ∃ g, t % 10000 = g := ⟨_, rfl⟩
        obtain ⟨c', hc'⟩ : ∃ c', t / 10000 = c' := ⟨_, rfl⟩
        have hgb : 0 ≤ g ∧ g < 10000 := by omega
        have hcb : -10000 ≤ c' ∧ c' ≤ 9999 := by omega
        rw [hg, hc'] at hdx
        have HG := Lib.hid hg; have HC' := Lib.hid hc'
        have HP := Lib.hid (fun (v' : Value) (w1 : World) (ho : w1.ownsRow w.heap.size 3 1 v' (k + 1) (gs.map (Value.int .i64) ++ [.int .i64 g])) (hb' : Below w.heap.size w w1) =>
          car_step (zs := zs) (c := q) (t := t) (g := g) (c' := c') (by rw [HN.out]; exact hkN) H1.out H2.out H3.out (by rw [HX.out]; exact HT.out.symm) HG.out.symm HC'.out.symm ho hb')
        by_cases hr : t.tmod 10000 < 0
        · have hr2 := tmod_neg t hr
          rw [hg] at hr2
          obtain ⟨r, hre⟩ : ∃ r, t.tmod 10000 = r := ⟨_, rfl⟩
          rw [hre] at hr hr2
          clear hg hc'
          go_wp2_with (at_builtin; refine wpList_append_own _ rfl _ _ 40 rfl w.heap.size 3 i0 (.int .i64 0) 1 8 Tryz.underlying40 hi hz0 hz1 hz2 rfl (by decide) _ _ _ rfl (hrow.alloc _) ⟨wr.heap.size, 0, none⟩ 1 1 [.int .i64 g] rfl rfl (cell_one_new _ _ _) (by simp [Value.oneCell']) (by unfold maxLen; omega) (by omega) (by simp; omega) ?_; intro v' w1 hown' hgrow _; have hb2 := Lib.hid ((HB.out.alloc (by omega) _).grown hgrow (by simp; omega) (ownNone hrow)))
          exact ⟨⟨k + 1, c', by omega, by go_num, rfl, hcb.1, hcb.2, HP.out _ _ hown' hb2.out⟩, by simp [intOf]; omega⟩
        · have hr2 := tmod_pos t (by omega)
          rw [hg] at hr2
          clear hg hc' hr
          go_wp2_with (at_builtin; refine wpList_append_own _ rfl _ _ 40 rfl w.heap.size 3 i0 (.int .i64 0) 1 8 Tryz.underlying40 hi hz0 hz1 hz2 rfl (by decide) _ _ _ rfl (hrow.alloc _) ⟨wr.heap.size, 0, none⟩ 1 1 [.int .i64 g] rfl rfl (cell_one_new _ _ _) (by simp [Value.oneCell']) (by unfold maxLen; omega) (by omega) (by simp; omega) ?_; intro v' w1 hown' hgrow _; have hb2 := Lib.hid ((HB.out.alloc (by omega) _).grown hgrow (by simp; omega) (ownNone hrow)))
          exact ⟨⟨k + 1, c', by omega, by go_num, rfl, hcb.1, hcb.2, HP.out _ _ hown' hb2.out⟩, by simp [intOf]; omega⟩
      · have hkk : k = N := by omega
        subst hkk
        have HE := Lib.hid (fun (v' : Value) (w1 : World) (ho : w1.ownsRow w.heap.size 3 1 v' (k + 1) (gs.map (Value.int .i64) ++ [.int .i64 q])) => car_end HN.out HS.out hq1 H2.out H3.out ho)
        go_wp2_with (first
          | (at_builtin; refine wpList_append_own _ rfl _ _ 40 rfl w.heap.size 3 i0 (.int .i64 0) 1 8 Tryz.underlying40 hi hz0 hz1 hz2 rfl (by decide) _ _ _ rfl (hrow.alloc _) ⟨wr.heap.size, 0, none⟩ 1 1 [.int .i64 q] rfl rfl (cell_one_new _ _ _) (by simp [Value.oneCell']) (by unfold maxLen; omega) (by omega) (by simp; omega) ?_; intro v' w1 hown' hgrow _; have hb2 := Lib.hid ((HB.out.alloc (by omega) _).grown hgrow (by simp; omega) (ownNone hrow)); obtain ⟨hls, hdg, hvz⟩ := HE.out _ _ hown'; have HL := Lib.hid hls; have HD := Lib.hid hdg; have HV := Lib.hid hvz; clear hls hdg hvz hown')
          | (go_at_call 131; refine (trimmed_nt _ _ _ HL.out (by rw [List.length_append, H1.out]; simp; omega) HD.out).mono ?_; rintro e w2 ⟨v2, rfl, hnt, rfl⟩; have HNT := Lib.hid hnt; clear hnt))
        go_ret
        exact ⟨_, rfl, by rw [← HV.out]; exact HNT.out, hb2.out⟩
end Go.Proofs.YtcjcafekacceiaaGreatDoor

/-! slices.Clone, walked; a list of numbers of a call's own. -/
namespace Go.Proofs.YtcjcafekacceiaaGreatDoor
open Go.RowKit

/-- A row of the call's own that reads as the list. -/
def RowOut (w : World) (zs : List Int) (e : Ending) (w' : World) : Prop := ∃ v', e = .returned v' ∧ w'.ownsRow w.heap.size 3 1 v' zs.length (zs.map (Value.int .i64)) ∧ Below w.heap.size w w'
theorem ls_cells {w w' : World} {B b o : Nat} {zs : List Int} (hb : Below B w w') (hlt : b < B) (hc : ∀ i, i < zs.length → w.cell? ⟨b, o + i, none⟩ = some (.int .i64 (zs[i]?.getD 0))) :
    ∀ j u, (zs.map (Value.int .i64))[j]? = some u → w'.cell? ((⟨b, o, none⟩ : Addr).add j) = some u := by
  intro j u hu
  have hj : j < zs.length := by
    by_cases h : j < zs.length
    · exact h
    · rw [List.getElem?_eq_none (by simp; omega)] at hu; cases hu
  rw [Go.WideShapes.add_plain, hb.cell (p := ⟨b, o + j, none⟩) hlt, hc j hj]
  rw [List.getElem?_map, List.getElem?_eq_getElem hj] at hu
  rw [List.getElem?_eq_getElem hj]
  exact hu
theorem ints_one (zs : List Int) : ∀ u ∈ zs.map (Value.int .i64), u.oneCell' = true := by
  intro u hu
  obtain ⟨z, _, rfl⟩ := List.mem_map.1 hu
  rfl

set_option maxRecDepth 100000 in
set_option maxHeartbeats 1000000 in
theorem clone_row (w : World) (v : Value) (zs : List Int) (h : Ls w v zs) (hN : zs.length ≤ 100000) :
    Calls Tryz.prog 135 #[v] w (RowOut w zs) := by
  obtain ⟨i0, hi, hz0, hz1, hz2⟩ := info_parts infoInt
  have q22 : ∀ (w : World) (a : Option Addr) (n c n' c' : Nat), (binOp .eql 92 (.slice a n c) (.slice none n' c')).run Tryz.prog w = .ok (.bool a.isNone) w := fun w a n c n' c' => Lib.run_eql_slice_nil w _ _ a n c n' c' Tryz.underlying92
  rcases h with ⟨rfl, rfl⟩ | ⟨b, o, c, rfl, hc, hlt, hcell⟩
  · go_enter Tryz.func135, Tryz.ntmps135
    go_wp2
    go_ret
    exact ⟨_, rfl, World.ownsRow_nil _ _ _ _, Below.refl _ _⟩
  · obtain ⟨N, hNe⟩ : ∃ N, zs.length = N := ⟨_, rfl⟩
    have HC := Lib.hid hcell
    have HN := Lib.hid hNe
    rw [hNe] at hc hN
    rw [hNe]
    have hlit : (w.alloc (.cells #[] 3)).ownsRow w.heap.size 3 1 (.slice (some ⟨w.heap.size, 0, none⟩) 0 0) 0 [] := World.ownsRow_lit w #[] 0 (Nat.le_refl _) (by decide) rfl
    clear hcell hNe
    go_enter Tryz.func135, Tryz.ntmps135
    go_wp2_with (at_builtin; refine wpList_append_own _ rfl _ _ 92 rfl w.heap.size 3 i0 (.int .i64 0) 1 8 Tryz.underlying92 hi hz0 hz1 hz2 rfl (by decide) _ _ _ rfl hlit ⟨b, o, none⟩ N c (zs.map (Value.int .i64)) rfl (by rw [List.length_map, HN.out, Nat.mul_one]) (ls_cells ((Below.refl _ w).alloc (Nat.le_refl _) _) hlt HC.out) (ints_one zs) (by unfold maxLen; omega) (by omega) (by simp) ?_; intro v' w1 hown' hgrow _; have hb2 := Lib.hid (((Below.refl _ w).alloc (Nat.le_refl _) _).grown hgrow (by simp) (ownNone hlit)); have HO := Lib.hid hown'; clear hown')
    go_ret
    refine ⟨_, rfl, ?_, hb2.out⟩
    have := HO.out
    rw [HN.out]
    simpa using this
end Go.Proofs.YtcjcafekacceiaaGreatDoor

/-! plus, minus and timesGroup, walked. -/
namespace Go.Proofs.YtcjcafekacceiaaGreatDoor
open Go.RowKit

/-- The columns behind k rounds. -/
def RelZ (B : Nat) (w : World) (f : Int → Int → Int) (xs ys : List Int) (g cap N k : Nat) (wr : World) : Prop :=
  wr.ownsRow B 3 1 (.slice (some ⟨g, 0, none⟩) N cap) N ((zipL f xs (ys.take k)).map (Value.int .i64)) ∧ Below B w wr
theorem relZ_block {B : Nat} {w : World} {f : Int → Int → Int} {xs ys : List Int} {g cap N k : Nat} {wr : World} (h : RelZ B w f xs ys g cap N k wr) : B ≤ g := by
  rcases h.1.2 with ⟨h1, _⟩ | ⟨g', cap', cur, h1, hb, _⟩
  · simp at h1
  · simp at h1
    omega
theorem relZ_cell {B : Nat} {w : World} {f : Int → Int → Int} {xs ys : List Int} {g cap N k : Nat} {wr : World} (h : RelZ B w f xs ys g cap N k wr) (hx : xs.length = N) (hy : ys.length ≤ N) (hk : k < ys.length) :
    wr.cell? ⟨g, k, none⟩ = some (.int .i64 (xs[k]?.getD 0)) := by
  rw [h.1.cellAt k (by omega), List.getElem?_map]
  have hg := zipL_get f xs (ys.take k) k (by rw [List.length_take]; omega)
  rw [List.length_take, Nat.min_eq_left (by omega), if_neg (by omega)] at hg
  rw [List.getElem?_eq_getElem (by rw [zipL_length]; omega)] at hg ⊢
  simpa using hg
theorem relZ_step {B : Nat} {w : World} {f : Int → Int → Int} {xs ys : List Int} {g cap N k : Nat} {wr : World} (h : RelZ B w f xs ys g cap N k wr) (hx : xs.length = N) (hy : ys.length ≤ N) (hk : k < ys.length) (z : Int) (hz : z = f (xs[k]?.getD 0) (ys[k]?.getD 0)) :
    RelZ B w f xs ys g cap N (k + 1) (wr.setCell ⟨g, k, none⟩ (.int .i64 z)) := by
  refine ⟨?_, h.2.setCell (p := ⟨g, k, none⟩) (relZ_block h) _⟩
  have := (h.1.stored k (.int .i64 z)).1
  rw [zipL_take f xs ys k (by omega) hk, ← map_set, ← hz]
  exact this
theorem relZ_end {B : Nat} {w : World} {f : Int → Int → Int} {xs ys : List Int} {g cap N k : Nat} {wr : World} (h : RelZ B w f xs ys g cap N k wr) (hk : ys.length = k) : Ls wr (.slice (some ⟨g, 0, none⟩) N cap) (zipL f xs ys) := by
  have := h.1
  rw [List.take_of_length_le (by omega)] at this
  exact Ls.own this _ rfl
theorem cols_add (a b : Nat) : (∀ d ∈ zipL (· + ·) (dz 10000 a) (dz 10000 b), -99980001 ≤ d ∧ d ≤ 99980001) := by
  apply zipL_mem (p := fun d => -99980001 ≤ d ∧ d ≤ 99980001)
  · intro d hd; have := dig4 a d hd; omega
  · intro d hd e he; have := dig4 a d hd; have := dig4 b e he; omega
theorem cols_sub (a b : Nat) : (∀ d ∈ zipL (· - ·) (dz 10000 a) (dz 10000 b), -99980001 ≤ d ∧ d ≤ 99980001) := by
  apply zipL_mem (p := fun d => -99980001 ≤ d ∧ d ≤ 99980001)
  · intro d hd; have := dig4 a d hd; omega
  · intro d hd e he; have := dig4 a d hd; have := dig4 b e he; omega
theorem cols_mul (a n : Nat) (g : Int) (h0 : 0 ≤ g) (h1 : g < 10000) : (∀ d ∈ zipL (· * ·) (dz 10000 a) (List.replicate n g), -99980001 ≤ d ∧ d ≤ 99980001) := by
  apply zipL_mem (p := fun d => -99980001 ≤ d ∧ d ≤ 99980001)
  · intro d hd; have := dig4 a d hd; omega
  · intro d hd e he
    have := dig4 a d hd
    have he' := (List.mem_replicate.1 he).2
    subst he'
    have h2 := Int.mul_nonneg this.1 h0
    have h3 : d * e ≤ 9999 * 9999 := Int.mul_le_mul (by omega) (by omega) h0 (by omega)
    omega
theorem vz_rep_mul (b g : Int) : ∀ x : List Int, vz b (zipL (· * ·) x (List.replicate x.length g)) = vz b x * g
  | [] => by simp [zipL, vz]
  | a :: x => by rw [List.length_cons, List.replicate_succ, zipL, vz, vz, vz_rep_mul b g x, Int.add_mul, Int.mul_assoc]
/-- A non-empty row has a shape. -/
theorem row_shape {w : World} {B : Nat} {v : Value} {n : Nat} {xs : List Value} (h : w.ownsRow B 3 1 v n xs) (hn : 0 < n) : ∃ g cap, v = .slice (some ⟨g, 0, none⟩) n cap := by
  obtain ⟨k, rfl⟩ : ∃ k, n = k + 1 := ⟨n - 1, by omega⟩
  exact ownsRow_succ h

set_option maxRecDepth 100000 in
set_option maxHeartbeats 2000000 in
theorem minus_nt (w : World) (v1 v2 : Value) (a b : Nat) (h1 : Nt w v1 a) (h2 : Nt w v2 b) (hN : (dz 10000 a).length ≤ 20000) (hl : b ≤ a) :
    Calls Tryz.prog 107 #[v1, v2] w (NtOut w (a - b)) := by
  have hlen := dz_length_mono 10000 (by decide) b a hl
  have HV := Lib.hid (vz_sub 10000 (dz 10000 a) (dz 10000 b) hlen)
  have HCL := Lib.hid (cols_sub a b)
  have hva := vz4 a
  have hvb := vz4 b
  have HS := Lib.hid (show vz 10000 (zipL (· - ·) (dz 10000 a) (dz 10000 b)) = ((a - b : Nat) : Int) by rw [HV.out]; omega)
  have HXD := Lib.hid (dig4_at a); have HYD := Lib.hid (dig4_at b)
  have HCLN := Lib.hid (clone_row w v1 (dz 10000 a) h1 (by omega))
  have HL1 := Lib.hid h1
  clear hva hvb
  unfold Nt at h1 h2
  generalize a - b = s at *
  generalize hxs : dz 10000 a = xs at *
  generalize hys : dz 10000 b = ys at *
  obtain ⟨N, hNe⟩ : ∃ N, xs.length = N := ⟨_, rfl⟩
  obtain ⟨M, hMe⟩ : ∃ M, ys.length = M := ⟨_, rfl⟩
  have HN := Lib.hid hNe; have HM := Lib.hid hMe
  have hMN : M ≤ N := by omega
  have hNb : N ≤ 20000 := by omega
  have HNM : M ≤ N := by omega
  obtain ⟨al, c, hv1, hal⟩ : ∃ al c, v1 = .slice al N c ∧ (al = none → N = 0) := by
    rcases h1 with ⟨r1, r2⟩ | ⟨b1, o1, c1, r1, _⟩
    · exact ⟨none, 0, by rw [r1, ← hNe, r2]; rfl, fun _ => by rw [← hNe, r2]; rfl⟩
    · exact ⟨_, _, by rw [r1, hNe], fun h => by cases h⟩
  have HV1 := Lib.hid hv1
  rcases h2 with ⟨rfl, hy0⟩ | ⟨b2, o2, c2, rfl, hc2, hlt2, hcell2⟩
  · -- the second number is 0: the columns stand as they were cloned
    have hM0 : M = 0 := by rw [← hMe, hy0]; rfl
    have HY0 := Lib.hid hy0
    clear hxs hys hNe hMe hy0 hlen hl HV h1
    subst hM0
    subst hv1
    go_enter Tryz.func107, Tryz.ntmps107
    go_wp2_with (go_at_call 135; refine HCLN.out.mono ?_; rintro e w1 ⟨v', rfl, hown, hb⟩; have HL := Lib.hid (Ls.own hown _ rfl); have HB := Lib.hid hb; clear hown hb)
    all_goals
      go_loopw [12] (fun iv wr => iv = .int .i64 0 ∧ wr = w1) (fun _ _ => 0)
      case atStart => exact ⟨rfl, rfl⟩
      case round =>
        obtain ⟨rfl, rfl⟩ := hrel
        go_wp2_with (go_at_call 136; refine (carried_nt _ _ xs HL.out (by rw [HN.out]; omega) (by have := HCL.out; rw [HY0.out, zipL_nil] at this; exact this) (by have := HS.out; rw [HY0.out, zipL_nil] at this; omega)).mono ?_; rintro e w2 ⟨v2, rfl, hnt, hb2⟩; have HNT := Lib.hid hnt; have HB2 := Lib.hid hb2; clear hnt hb2)
        go_ret
        refine ⟨_, rfl, ?_, HB.out.trans (HB2.out.mono HB.out.size)⟩
        have h1 := HNT.out
        have h2 := HS.out
        rw [HY0.out, zipL_nil] at h2
        rw [h2] at h1
        simpa using h1
  · have HC := Lib.hid hcell2
    have hNpos : M = 0 ∨ 0 < N := by omega
    rw [hMe] at hc2
    rw [hMe]
    clear hxs hys hNe hMe hlen hl HV h1 hcell2
    subst hv1
    go_enter Tryz.func107, Tryz.ntmps107
    go_wp2_with (go_at_call 135; refine HCLN.out.mono ?_; rintro e w1 ⟨v', rfl, hown, hb⟩; rw [HN.out] at hown; have HO := Lib.hid hown; have HB := Lib.hid hb; clear hown hb)
    rcases Nat.eq_zero_or_pos M with hM0 | hMpos
    · have HY0 := Lib.hid (List.length_eq_zero_iff.1 (HM.out.trans hM0))
      subst hM0
      have HL := Lib.hid (Ls.own HO.out xs rfl)
      all_goals
        go_loopw [12] (fun iv wr => iv = .int .i64 0 ∧ wr = w1) (fun _ _ => 0)
        case atStart => exact ⟨rfl, rfl⟩
        case round =>
          obtain ⟨rfl, rfl⟩ := hrel
          go_wp2_with (go_at_call 136; refine (carried_nt _ _ xs HL.out (by rw [HN.out]; omega) (by have := HCL.out; rw [HY0.out, zipL_nil] at this; exact this) (by have := HS.out; rw [HY0.out, zipL_nil] at this; omega)).mono ?_; rintro e w2 ⟨v2, rfl, hnt, hb2⟩; have HNT := Lib.hid hnt; have HB2 := Lib.hid hb2; clear hnt hb2)
          go_ret
          refine ⟨_, rfl, ?_, HB.out.trans (HB2.out.mono HB.out.size)⟩
          have h1 := HNT.out
          have h2 := HS.out
          rw [HY0.out, zipL_nil] at h2
          rw [h2] at h1
          simpa using h1
    · obtain ⟨g, cap, rfl⟩ := row_shape HO.out (by omega)
      go_loopw [12] (fun iv wr => ∃ k : Nat, k ≤ M ∧ iv = .int .i64 k ∧ RelZ w.heap.size w (· - ·) xs ys g cap N k wr) (fun iv _ => M - (intOf iv).toNat)
      case atStart => exact ⟨0, Nat.zero_le _, rfl, by simpa [zipL_nil] using HO.out, HB.out⟩
      case round =>
        obtain ⟨k, hk, rfl, hR⟩ := hrel
        have HR := Lib.hid hR
        clear hR
        by_cases hkM : k < M
        · have hcy := (HR.out.2.cell (p := ⟨b2, o2 + k, none⟩) hlt2).trans (HC.out k (by rw [HM.out]; exact hkM))
          have hcx := relZ_cell HR.out HN.out (by rw [HM.out]; exact hMN) (by rw [HM.out]; exact hkM)
          have hfx := HR.out.1.frozenAt k
          have hxd := HXD.out k
          have hyd := HYD.out k
          have HST := Lib.hid (relZ_step HR.out HN.out (by rw [HM.out]; exact hMN) (by rw [HM.out]; exact hkM))
          obtain ⟨x, hx⟩ : ∃ x, xs[k]?.getD 0 = x := ⟨_, rfl⟩
          obtain ⟨y, hy⟩ : ∃ y, ys[k]?.getD 0 = y := ⟨_, rfl⟩
          rw [hx] at hcx hxd
          rw [hy] at hcy hyd
          have HX := Lib.hid hx; have HY := Lib.hid hy
          clear hx hy
          go_wp2
          go_roundw
          case rel => exact ⟨k + 1, by omega, by go_num, HST.out _ (by rw [HX.out, HY.out])⟩
          case measure => simp [intOf]; omega
        · have hkk : k = M := by omega
          subst hkk
          have HL := Lib.hid (relZ_end HR.out HM.out)
          go_wp2_with (go_at_call 136; refine (carried_nt _ _ _ HL.out (by rw [zipL_length, HN.out]; omega) HCL.out (by rw [HS.out]; omega)).mono ?_; rintro e w2 ⟨v2, rfl, hnt, hb2⟩; have HNT := Lib.hid hnt; have HB2 := Lib.hid hb2; clear hnt hb2)
          go_ret
          refine ⟨_, rfl, ?_, HR.out.2.trans (HB2.out.mono HR.out.2.size)⟩
          have h1 := HNT.out
          rw [HS.out] at h1
          simpa using h1
set_option maxRecDepth 100000 in
set_option maxHeartbeats 2000000 in
theorem plus_le (w : World) (v1 v2 : Value) (a b : Nat) (h1 : Nt w v1 a) (h2 : Nt w v2 b) (hN : (dz 10000 a).length ≤ 20000) (hl : (dz 10000 b).length ≤ (dz 10000 a).length) :
    Calls Tryz.prog 106 #[v1, v2] w (NtOut w (a + b)) := by
  have hlen : (dz 10000 b).length ≤ (dz 10000 a).length := by omega
  have HV := Lib.hid (vz_add 10000 (dz 10000 a) (dz 10000 b) hlen)
  have HCL := Lib.hid (cols_add a b)
  have hva := vz4 a
  have hvb := vz4 b
  have HS := Lib.hid (show vz 10000 (zipL (· + ·) (dz 10000 a) (dz 10000 b)) = ((a + b : Nat) : Int) by rw [HV.out]; omega)
  have HXD := Lib.hid (dig4_at a); have HYD := Lib.hid (dig4_at b)
  have HCLN := Lib.hid (clone_row w v1 (dz 10000 a) h1 (by omega))
  have HL1 := Lib.hid h1
  clear hva hvb
  unfold Nt at h1 h2
  generalize a + b = s at *
  generalize hxs : dz 10000 a = xs at *
  generalize hys : dz 10000 b = ys at *
  obtain ⟨N, hNe⟩ : ∃ N, xs.length = N := ⟨_, rfl⟩
  obtain ⟨M, hMe⟩ : ∃ M, ys.length = M := ⟨_, rfl⟩
  have HN := Lib.hid hNe; have HM := Lib.hid hMe
  have hMN : M ≤ N := by omega
  have hNb : N ≤ 20000 := by omega
  have HNM : M ≤ N := by omega
  obtain ⟨al, c, hv1, hal⟩ : ∃ al c, v1 = .slice al N c ∧ (al = none → N = 0) := by
    rcases h1 with ⟨r1, r2⟩ | ⟨b1, o1, c1, r1, _⟩
    · exact ⟨none, 0, by rw [r1, ← hNe, r2]; rfl, fun _ => by rw [← hNe, r2]; rfl⟩
    · exact ⟨_, _, by rw [r1, hNe], fun h => by cases h⟩
  have HV1 := Lib.hid hv1
  rcases h2 with ⟨rfl, hy0⟩ | ⟨b2, o2, c2, rfl, hc2, hlt2, hcell2⟩
  · -- the second number is 0: the columns stand as they were cloned
    have hM0 : M = 0 := by rw [← hMe, hy0]; rfl
    have HY0 := Lib.hid hy0
    clear hxs hys hNe hMe hy0 hlen hl HV h1
    subst hM0
    subst hv1
    go_enter Tryz.func106, Tryz.ntmps106
    go_wp2_with (go_at_call 135; refine HCLN.out.mono ?_; rintro e w1 ⟨v', rfl, hown, hb⟩; have HL := Lib.hid (Ls.own hown _ rfl); have HB := Lib.hid hb; clear hown hb)
    all_goals
      go_loopw [19] (fun iv wr => iv = .int .i64 0 ∧ wr = w1) (fun _ _ => 0)
      case atStart => exact ⟨rfl, rfl⟩
      case round =>
        obtain ⟨rfl, rfl⟩ := hrel
        go_wp2_with (go_at_call 136; refine (carried_nt _ _ xs HL.out (by rw [HN.out]; omega) (by have := HCL.out; rw [HY0.out, zipL_nil] at this; exact this) (by have := HS.out; rw [HY0.out, zipL_nil] at this; omega)).mono ?_; rintro e w2 ⟨v2, rfl, hnt, hb2⟩; have HNT := Lib.hid hnt; have HB2 := Lib.hid hb2; clear hnt hb2)
        go_ret
        refine ⟨_, rfl, ?_, HB.out.trans (HB2.out.mono HB.out.size)⟩
        have h1 := HNT.out
        have h2 := HS.out
        rw [HY0.out, zipL_nil] at h2
        rw [h2] at h1
        simpa using h1
  · have HC := Lib.hid hcell2
    have hNpos : M = 0 ∨ 0 < N := by omega
    rw [hMe] at hc2
    rw [hMe]
    clear hxs hys hNe hMe hlen hl HV h1 hcell2
    subst hv1
    go_enter Tryz.func106, Tryz.ntmps106
    go_wp2_with (go_at_call 135; refine HCLN.out.mono ?_; rintro e w1 ⟨v', rfl, hown, hb⟩; rw [HN.out] at hown; have HO := Lib.hid hown; have HB := Lib.hid hb; clear hown hb)
    rcases Nat.eq_zero_or_pos M with hM0 | hMpos
    · have HY0 := Lib.hid (List.length_eq_zero_iff.1 (HM.out.trans hM0))
      subst hM0
      have HL := Lib.hid (Ls.own HO.out xs rfl)
      all_goals
        go_loopw [19] (fun iv wr => iv = .int .i64 0 ∧ wr = w1) (fun _ _ => 0)
        case atStart => exact ⟨rfl, rfl⟩
        case round =>
          obtain ⟨rfl, rfl⟩ := hrel
          go_wp2_with (go_at_call 136; refine (carried_nt _ _ xs HL.out (by rw [HN.out]; omega) (by have := HCL.out; rw [HY0.out, zipL_nil] at this; exact this) (by have := HS.out; rw [HY0.out, zipL_nil] at this; omega)).mono ?_; rintro e w2 ⟨v2, rfl, hnt, hb2⟩; have HNT := Lib.hid hnt; have HB2 := Lib.hid hb2; clear hnt hb2)
          go_ret
          refine ⟨_, rfl, ?_, HB.out.trans (HB2.out.mono HB.out.size)⟩
          have h1 := HNT.out
          have h2 := HS.out
          rw [HY0.out, zipL_nil] at h2
          rw [h2] at h1
          simpa using h1
    · obtain ⟨g, cap, rfl⟩ := row_shape HO.out (by omega)
      go_loopw [19] (fun iv wr => ∃ k : Nat, k ≤ M ∧ iv = .int .i64 k ∧ RelZ w.heap.size w (· + ·) xs ys g cap N k wr) (fun iv _ => M - (intOf iv).toNat)
      case atStart => exact ⟨0, Nat.zero_le _, rfl, by simpa [zipL_nil] using HO.out, HB.out⟩
      case round =>
        obtain ⟨k, hk, rfl, hR⟩ := hrel
        have HR := Lib.hid hR
        clear hR
        by_cases hkM : k < M
        · have hcy := (HR.out.2.cell (p := ⟨b2, o2 + k, none⟩) hlt2).trans (HC.out k (by rw [HM.out]; exact hkM))
          have hcx := relZ_cell HR.out HN.out (by rw [HM.out]; exact hMN) (by rw [HM.out]; exact hkM)
          have hfx := HR.out.1.frozenAt k
          have hxd := HXD.out k
          have hyd := HYD.out k
          have HST := Lib.hid (relZ_step HR.out HN.out (by rw [HM.out]; exact hMN) (by rw [HM.out]; exact hkM))
          obtain ⟨x, hx⟩ : ∃ x, xs[k]?.getD 0 = x := ⟨_, rfl⟩
          obtain ⟨y, hy⟩ : ∃ y, ys[k]?.getD 0 = y := ⟨_, rfl⟩
          rw [hx] at hcx hxd
          rw [hy] at hcy hyd
          have HX := Lib.hid hx; have HY := Lib.hid hy
          clear hx hy
          go_wp2
          go_roundw
          case rel => exact ⟨k + 1, by omega, by go_num, HST.out _ (by rw [HX.out, HY.out])⟩
          case measure => simp [intOf]; omega
        · have hkk : k = M := by omega
          subst hkk
          have HL := Lib.hid (relZ_end HR.out HM.out)
          go_wp2_with (go_at_call 136; refine (carried_nt _ _ _ HL.out (by rw [zipL_length, HN.out]; omega) HCL.out (by rw [HS.out]; omega)).mono ?_; rintro e w2 ⟨v2, rfl, hnt, hb2⟩; have HNT := Lib.hid hnt; have HB2 := Lib.hid hb2; clear hnt hb2)
          go_ret
          refine ⟨_, rfl, ?_, HR.out.2.trans (HB2.out.mono HR.out.2.size)⟩
          have h1 := HNT.out
          rw [HS.out] at h1
          simpa using h1
set_option maxRecDepth 100000 in
set_option maxHeartbeats 2000000 in
theorem plus_gt (w : World) (v1 v2 : Value) (a b : Nat) (h1 : Nt w v1 a) (h2 : Nt w v2 b) (hN : (dz 10000 a).length ≤ 20000) (hl : (dz 10000 b).length < (dz 10000 a).length) :
    Calls Tryz.prog 106 #[v2, v1] w (NtOut w (a + b)) := by
  have hlen : (dz 10000 b).length ≤ (dz 10000 a).length := by omega
  have HV := Lib.hid (vz_add 10000 (dz 10000 a) (dz 10000 b) hlen)
  have HCL := Lib.hid (cols_add a b)
  have hva := vz4 a
  have hvb := vz4 b
  have HS := Lib.hid (show vz 10000 (zipL (· + ·) (dz 10000 a) (dz 10000 b)) = ((a + b : Nat) : Int) by rw [HV.out]; omega)
  have HXD := Lib.hid (dig4_at a); have HYD := Lib.hid (dig4_at b)
  have HCLN := Lib.hid (clone_row w v1 (dz 10000 a) h1 (by omega))
  have HL1 := Lib.hid h1
  clear hva hvb
  unfold Nt at h1 h2
  generalize a + b = s at *
  generalize hxs : dz 10000 a = xs at *
  generalize hys : dz 10000 b = ys at *
  obtain ⟨N, hNe⟩ : ∃ N, xs.length = N := ⟨_, rfl⟩
  obtain ⟨M, hMe⟩ : ∃ M, ys.length = M := ⟨_, rfl⟩
  have HN := Lib.hid hNe; have HM := Lib.hid hMe
  have hMN : M ≤ N := by omega
  have hNb : N ≤ 20000 := by omega
  have HNM : M < N := by omega
  obtain ⟨al, c, hv1, hal⟩ : ∃ al c, v1 = .slice al N c ∧ (al = none → N = 0) := by
    rcases h1 with ⟨r1, r2⟩ | ⟨b1, o1, c1, r1, _⟩
    · exact ⟨none, 0, by rw [r1, ← hNe, r2]; rfl, fun _ => by rw [← hNe, r2]; rfl⟩
    · exact ⟨_, _, by rw [r1, hNe], fun h => by cases h⟩
  have HV1 := Lib.hid hv1
  rcases h2 with ⟨rfl, hy0⟩ | ⟨b2, o2, c2, rfl, hc2, hlt2, hcell2⟩
  · -- the second number is 0: the columns stand as they were cloned
    have hM0 : M = 0 := by rw [← hMe, hy0]; rfl
    have HY0 := Lib.hid hy0
    clear hxs hys hNe hMe hy0 hlen hl HV h1
    subst hM0
    subst hv1
    go_enter Tryz.func106, Tryz.ntmps106
    go_wp2_with (go_at_call 135; refine HCLN.out.mono ?_; rintro e w1 ⟨v', rfl, hown, hb⟩; have HL := Lib.hid (Ls.own hown _ rfl); have HB := Lib.hid hb; clear hown hb)
    all_goals
      go_loopw [19] (fun iv wr => iv = .int .i64 0 ∧ wr = w1) (fun _ _ => 0)
      case atStart => exact ⟨rfl, rfl⟩
      case round =>
        obtain ⟨rfl, rfl⟩ := hrel
        go_wp2_with (go_at_call 136; refine (carried_nt _ _ xs HL.out (by rw [HN.out]; omega) (by have := HCL.out; rw [HY0.out, zipL_nil] at this; exact this) (by have := HS.out; rw [HY0.out, zipL_nil] at this; omega)).mono ?_; rintro e w2 ⟨v2, rfl, hnt, hb2⟩; have HNT := Lib.hid hnt; have HB2 := Lib.hid hb2; clear hnt hb2)
        go_ret
        refine ⟨_, rfl, ?_, HB.out.trans (HB2.out.mono HB.out.size)⟩
        have h1 := HNT.out
        have h2 := HS.out
        rw [HY0.out, zipL_nil] at h2
        rw [h2] at h1
        simpa using h1
  · have HC := Lib.hid hcell2
    have hNpos : M = 0 ∨ 0 < N := by omega
    rw [hMe] at hc2
    rw [hMe]
    clear hxs hys hNe hMe hlen hl HV h1 hcell2
    subst hv1
    go_enter Tryz.func106, Tryz.ntmps106
    go_wp2_with (go_at_call 135; refine HCLN.out.mono ?_; rintro e w1 ⟨v', rfl, hown, hb⟩; rw [HN.out] at hown; have HO := Lib.hid hown; have HB := Lib.hid hb; clear hown hb)
    rcases Nat.eq_zero_or_pos M with hM0 | hMpos
    · have HY0 := Lib.hid (List.length_eq_zero_iff.1 (HM.out.trans hM0))
      subst hM0
      have HL := Lib.hid (Ls.own HO.out xs rfl)
      all_goals
        go_loopw [19] (fun iv wr => iv = .int .i64 0 ∧ wr = w1) (fun _ _ => 0)
        case atStart => exact ⟨rfl, rfl⟩
        case round =>
          obtain ⟨rfl, rfl⟩ := hrel
          go_wp2_with (go_at_call 136; refine (carried_nt _ _ xs HL.out (by rw [HN.out]; omega) (by have := HCL.out; rw [HY0.out, zipL_nil] at this; exact this) (by have := HS.out; rw [HY0.out, zipL_nil] at this; omega)).mono ?_; rintro e w2 ⟨v2, rfl, hnt, hb2⟩; have HNT := Lib.hid hnt; have HB2 := Lib.hid hb2; clear hnt hb2)
          go_ret
          refine ⟨_, rfl, ?_, HB.out.trans (HB2.out.mono HB.out.size)⟩
          have h1 := HNT.out
          have h2 := HS.out
          rw [HY0.out, zipL_nil] at h2
          rw [h2] at h1
          simpa using h1
    · obtain ⟨g, cap, rfl⟩ := row_shape HO.out (by omega)
      go_loopw [19] (fun iv wr => ∃ k : Nat, k ≤ M ∧ iv = .int .i64 k ∧ RelZ w.heap.size w (· + ·) xs ys g cap N k wr) (fun iv _ => M - (intOf iv).toNat)
      case atStart => exact ⟨0, Nat.zero_le _, rfl, by simpa [zipL_nil] using HO.out, HB.out⟩
      case round =>
        obtain ⟨k, hk, rfl, hR⟩ := hrel
        have HR := Lib.hid hR
        clear hR
        by_cases hkM : k < M
        · have hcy := (HR.out.2.cell (p := ⟨b2, o2 + k, none⟩) hlt2).trans (HC.out k (by rw [HM.out]; exact hkM))
          have hcx := relZ_cell HR.out HN.out (by rw [HM.out]; exact hMN) (by rw [HM.out]; exact hkM)
          have hfx := HR.out.1.frozenAt k
          have hxd := HXD.out k
          have hyd := HYD.out k
          have HST := Lib.hid (relZ_step HR.out HN.out (by rw [HM.out]; exact hMN) (by rw [HM.out]; exact hkM))
          obtain ⟨x, hx⟩ : ∃ x, xs[k]?.getD 0 = x := ⟨_, rfl⟩
          obtain ⟨y, hy⟩ : ∃ y, ys[k]?.getD 0 = y := ⟨_, rfl⟩
          rw [hx] at hcx hxd
          rw [hy] at hcy hyd
          have HX := Lib.hid hx; have HY := Lib.hid hy
          clear hx hy
          go_wp2
          go_roundw
          case rel => exact ⟨k + 1, by omega, by go_num, HST.out _ (by rw [HX.out, HY.out])⟩
          case measure => simp [intOf]; omega
        · have hkk : k = M := by omega
          subst hkk
          have HL := Lib.hid (relZ_end HR.out HM.out)
          go_wp2_with (go_at_call 136; refine (carried_nt _ _ _ HL.out (by rw [zipL_length, HN.out]; omega) HCL.out (by rw [HS.out]; omega)).mono ?_; rintro e w2 ⟨v2, rfl, hnt, hb2⟩; have HNT := Lib.hid hnt; have HB2 := Lib.hid hb2; clear hnt hb2)
          go_ret
          refine ⟨_, rfl, ?_, HR.out.2.trans (HB2.out.mono HR.out.2.size)⟩
          have h1 := HNT.out
          rw [HS.out] at h1
          simpa using h1
theorem plus_nt (w : World) (v1 v2 : Value) (a b : Nat) (h1 : Nt w v1 a) (h2 : Nt w v2 b) (hN : (dz 10000 a).length ≤ 20000) (hM : (dz 10000 b).length ≤ 20000) :
    Calls Tryz.prog 106 #[v1, v2] w (NtOut w (a + b)) := by
  by_cases h : (dz 10000 b).length ≤ (dz 10000 a).length
  · exact plus_le w v1 v2 a b h1 h2 hN h
  · rw [Nat.add_comm]
    exact plus_gt w v2 v1 b a h2 h1 hM (by omega)
end Go.Proofs.YtcjcafekacceiaaGreatDoor
