/- Integer layer, merged: Tmg, Cat, Shf, Bwd, Cut, Abv, Cmp. -/
import Derived.Laws.AppendOwnNone
import Derived.Lib.AppendZerosOnto
import Derived.RangeFuncBox
import Derived.RangeFuncNested
import Derived.RangeFuncLeaves
import Derived.Shelf.Abstract
import Derived.WalkKit
import Derived.WalkLawsBesides
import Derived.WalkSpells
import Derived.OwnWalkIn
import Derived.TacticsInMore
import Derived.LoopNIn
import Derived.LoopIn
import Derived.Maps.AppendAt
import Derived.Lib.Hide
import Derived.Test.YtcjcafekacceiaaGreatDoorB
/-! timesGroup, walked. -/
namespace Go.Proofs.YtcjcafekacceiaaGreatDoor
open Go.RowKit

theorem zipL_nil_left (f : Int → Int → Int) (y : List Int) : zipL f [] y = [] := by cases y <;> rfl

set_option maxRecDepth 100000 in
set_option maxHeartbeats 2000000 in
theorem timesGroup_nt (w : World) (v1 : Value) (a : Nat) (m : Nat) (h1 : Nt w v1 a) (hm : m < 10000) (hN : (dz 10000 a).length ≤ 20000) :
    Calls Tryz.prog 134 #[v1, .int .i64 m] w (NtOut w (a * m)) := by
  have HS := Lib.hid (show vz 10000 (zipL (· * ·) (dz 10000 a) (List.replicate (dz 10000 a).length (m : Int))) = ((a * m : Nat) : Int) by
    rw [vz_rep_mul, vz4, Int.natCast_mul])
  have HCL := Lib.hid (cols_mul a (dz 10000 a).length m (by omega) (by omega))
  have HXD := Lib.hid (dig4_at a)
  have HCLN := Lib.hid (clone_row w v1 (dz 10000 a) h1 (by omega))
  unfold Nt at h1
  generalize a * m = s at *
  generalize hxs : dz 10000 a = xs at *
  obtain ⟨N, hNe⟩ : ∃ N, xs.length = N := ⟨_, rfl⟩
  have HN := Lib.hid hNe
  have hNb : N ≤ 20000 := by omega
  rw [hNe] at HS HCL
  have hRep : Hid (∀ k, k < N → (List.replicate N (m : Int))[k]?.getD 0 = m) := fun k hk => by rw [List.getElem?_replicate, if_pos hk]; rfl
  have hLen : Hid ((List.replicate N (m : Int)).length = N) := List.length_replicate
  generalize List.replicate N (m : Int) = ys at *
  clear hxs hNe h1 hN
  go_enter Tryz.func134, Tryz.ntmps134
  go_wp2_with (go_at_call 135; refine HCLN.out.mono ?_; rintro e w1 ⟨v', rfl, hown, hb⟩; rw [HN.out] at hown; have HO := Lib.hid hown; have HB := Lib.hid hb; clear hown hb; refine Hid.out ?_)
  refine Lib.hid ?_
  rcases Nat.eq_zero_or_pos N with hN0 | hNpos
  · have HX0 := Lib.hid (List.length_eq_zero_iff.1 (HN.out.trans hN0))
    subst hN0
    have HL := Lib.hid (Ls.own HO.out xs rfl)
    obtain ⟨al, c, rfl⟩ : ∃ al c, v' = .slice al 0 c := by
      rcases HO.out.2 with ⟨r, _⟩ | ⟨g, cap, cur, r, _⟩
      · exact ⟨_, _, r⟩
      · exact ⟨_, _, r⟩
    go_wp2
    go_loopw [11] (fun iv wr => iv = .int .i64 0 ∧ wr = w1) (fun _ _ => 0)
    case atStart => exact ⟨rfl, rfl⟩
    case round =>
      obtain ⟨rfl, rfl⟩ := hrel
      go_wp2_with (go_at_call 136; refine (carried_nt _ _ xs HL.out (by rw [HN.out]; omega) (by rw [HX0.out]; simp) (by rw [HX0.out]; simp [vz])).mono ?_; rintro e w2 ⟨v2, rfl, hnt, hb2⟩; have HNT := Lib.hid hnt; have HB2 := Lib.hid hb2; clear hnt hb2)
      go_ret
      refine ⟨_, rfl, ?_, HB.out.trans (HB2.out.mono HB.out.size)⟩
      have h1 := HNT.out
      have h2 := HS.out
      rw [HX0.out] at h1 h2
      rw [zipL_nil_left, vz] at h2
      rw [vz] at h1
      rw [show s = 0 by omega]
      exact h1
  · obtain ⟨g, cap, rfl⟩ := row_shape HO.out (by omega)
    go_wp2
    go_loopw [11] (fun iv wr => ∃ k : Nat, k ≤ N ∧ iv = .int .i64 k ∧ RelZ w.heap.size w (· * ·) xs ys g cap N k wr) (fun iv _ => N - (intOf iv).toNat)
    case atStart => exact ⟨0, Nat.zero_le _, rfl, by simpa [zipL_nil] using HO.out, HB.out⟩
    case round =>
      obtain ⟨k, hk, rfl, hR⟩ := hrel
      have HR := Lib.hid hR
      clear hR
      by_cases hkN : k < N
      · have hcx := relZ_cell HR.out HN.out (by rw [hLen.out]; omega) (by rw [hLen.out]; exact hkN)
        have hfx := HR.out.1.frozenAt k
        have hxd := HXD.out k
        have HST := Lib.hid (relZ_step HR.out HN.out (by rw [hLen.out]; omega) (by rw [hLen.out]; exact hkN))
        have HRk := Lib.hid (hRep.out k hkN)
        obtain ⟨x, hx⟩ : ∃ x, xs[k]?.getD 0 = x := ⟨_, rfl⟩
        rw [hx] at hcx hxd
        have HX := Lib.hid hx
        clear hx
        obtain ⟨p, hp⟩ : ∃ p, x * (m : Int) = p := ⟨_, rfl⟩
        have hpb : 0 ≤ p ∧ p ≤ 9999 * 9999 := by
          rw [← hp]
          exact ⟨Int.mul_nonneg hxd.1 (by omega), Int.mul_le_mul (by omega) (by omega) (by omega) (by omega)⟩
        have HP := Lib.hid hp
        go_wp2
        go_roundw
        case rel => exact ⟨k + 1, by omega, by go_num, HST.out _ (by rw [HX.out, HRk.out]; exact HP.out.symm)⟩
        case measure => simp [intOf]; omega
      · have hkk : k = N := by omega
        subst hkk
        have HL := Lib.hid (relZ_end HR.out hLen.out)
        go_wp2_with (go_at_call 136; refine (carried_nt _ _ _ HL.out (by rw [zipL_length, HN.out]; omega) HCL.out (by rw [HS.out]; omega)).mono ?_; rintro e w2 ⟨v2, rfl, hnt, hb2⟩; have HNT := Lib.hid hnt; have HB2 := Lib.hid hb2; clear hnt hb2)
        go_ret
        refine ⟨_, rfl, ?_, HR.out.2.trans (HB2.out.mono HR.out.2.size)⟩
        have h1 := HNT.out
        rw [HS.out] at h1
        simpa using h1
end Go.Proofs.YtcjcafekacceiaaGreatDoor

/-! slices.Concat of two lists of numbers, walked. -/
namespace Go.Proofs.YtcjcafekacceiaaGreatDoor
open Go.RowKit

theorem Ls.shape {w : World} {v : Value} {zs : List Int} (h : Ls w v zs) : ∃ al c, v = .slice al zs.length c ∧ zs.length ≤ c := by
  rcases h with ⟨h1, h2⟩ | ⟨b, o, c, h1, hc, _⟩
  · exact ⟨none, 0, by rw [h1, h2]; rfl, by rw [h2]; exact Nat.le_refl _⟩
  · exact ⟨_, _, h1, hc⟩
theorem Ls.length {w : World} {al : Option Addr} {n c : Nat} {zs : List Int} (h : Ls w (.slice al n c) zs) : zs.length = n := by
  obtain ⟨al', c', h1, _⟩ := h.shape
  cases h1; rfl

theorem heap_new' (w : World) (o : Obj) (i : Nat) (h : i = w.heap.size) : (w.alloc o).heap[i]? = some o := by
  subst h
  show (w.heap.push o)[w.heap.size]? = _
  simp
section
variable {P : Program} {w1 w0 : World} {ops : Array Oper} {rest : List Oper} {o : Oper} {a : Act} {Q : Exit → Act → World → Prop}
/-- A list of numbers, wherever it lies, put behind a row of the call's own. -/
theorem wpList_append_ls (hgd : o.guard = none) (s x : Operand) (t e : TypeId)
    (ho : o.op = .call { callee := .builtin .append, args := #[s, x], argTypes := #[t, t] })
    {i0 : TypeInfo} {z : Value} {bytes : Nat} (hu : P.underlying t = some (.slice e)) (hi : P.info? e = some i0) (hz0 : i0.zero = some z) (hz1 : i0.size = 1) (hz2 : i0.bytes = bytes) (hzc : z.cells.size = 1)
    (B : Nat) (v : Value) (n : Nat) (xs : List Value) (hs : a.eval s = v) (hown : w1.ownsRow B e 1 v n xs)
    (zs : List Int) (hx : Ls w1 (a.eval x) zs) (hnm : n + zs.length ≤ 10000000) (hby : bytes ≤ 16) (hB : B ≤ w1.heap.size) (hb : Below B w0 w1)
    (h : ∀ v' w', w'.ownsRow B e 1 v' (n + zs.length) (xs ++ zs.map (Value.int .i64)) → Below B w0 w' → wpList P ops Q rest (a.put o.dst v') w') :
    wpList P ops Q (o :: rest) a w1 := by
  rcases hx with ⟨h1, h2⟩ | ⟨b, off, c, h1, hc, hlt, hcell⟩
  · refine wpList_append_own_none hgd s x t ho B e i0 1 hu hi v n xs hs hown h1 ?_
    subst h2
    exact h _ _ (by simpa using hown) hb
  · have h16 : (n + zs.length) * bytes ≤ 10000000 * 16 := Nat.mul_le_mul hnm hby
    refine wpList_append_own w1 hgd s x t ho B e i0 z 1 bytes hu hi hz0 hz1 hz2 hzc (by decide) v n xs hs hown ⟨b, off, none⟩ zs.length c (zs.map (Value.int .i64)) h1 (by simp) (ls_cells (Below.refl _ w1) hlt hcell) (ints_one zs) (by unfold maxLen; omega) (by omega) hB ?_
    intro v' w' ho' hg _
    exact h v' w' ho' (hb.grown hg hB (ownNone hown))
end

set_option maxRecDepth 100000 in
set_option maxHeartbeats 1000000 in
theorem grow_nil (n : Nat) (h1 : 1 ≤ n) (h2 : n ≤ 50000) (w : World) :
    Calls Tryz.prog 159 #[.slice none 0 0, .int .i64 n] w fun e w' => ∃ v, e = .returned v ∧ w'.ownsRow w.heap.size 3 1 v 0 [] ∧ Below w.heap.size w w' := by
  obtain ⟨i0, hi, hz0, hz1, hz2⟩ := info_parts infoInt
  obtain ⟨G, hG⟩ : ∃ G, G = grownCap w (0 + n) 0 3 := ⟨_, rfl⟩
  have hGn : n ≤ G := by have := grownCap_ge w (0 + n) 0 3; omega
  have hG63 : G ≤ 9223372036854775807 := by
    have := grownCap_le_maxLen w (0 + n) 0 3 (by unfold maxLen; omega)
    rw [← hG] at this; unfold maxLen at this; omega
  obtain ⟨cs, hcs, hcsz⟩ : ∃ cs : Array Value, (∀ ty, (Builtin.append_ #[92, 3] ty #[.slice none 0 0, .int .i64 (n : Int)]).run Tryz.prog w = .ok (.slice (some ⟨w.heap.size, 0, none⟩) n G) (w.drew.alloc (.cells cs 3))) ∧ cs.size = G := by
    refine ⟨(([] : List Value).toArray ++ Builtin.zeroCells (Value.int .i64 0).cells n ++ Builtin.zeroCells (Value.int .i64 0).cells (grownCap w (0 + n) 0 3 - (0 + n))), fun ty => ?_, ?_⟩
    · have h := Lib.run_append_grow_zeros (P := Tryz.prog) w 92 3 ty 3 i0 (.int .i64 0) .i64 .i64 Tryz.underlying92 Tryz.underlying3 hi hz0 none 0 0 [] (by simp [Builtin.firstCells]) n (by omega) (by omega) (by omega) (by omega)
        (by rw [hz2]; omega) (growslice_fits (by omega) (by rw [hz2]; omega))
      rw [Nat.zero_add] at h hG ⊢
      rw [hG]
      exact h
    · have hzc : ∀ k, (Builtin.zeroCells (Value.int .i64 0).cells k).size = k := fun k => by simp [Builtin.zeroCells, Value.cells]
      rw [Array.size_append, Array.size_append, hzc, hzc, ← hG]; simp; omega
  have HG := Lib.hid hG; have HCS := Lib.hid hcsz; clear hG hcsz
  go_enter Tryz.func159, Tryz.ntmps159
  go_wp2_with (at_builtin; refine Lib.wpList_append_run _ rfl _ _ _ _ rfl _ _ rfl rfl _ _ (hcs _) ?_)
  go_ret
  have hb : Below w.heap.size w (w.drew.alloc (.cells cs 3)) := ((Below.refl _ _).drew).alloc (Nat.le_refl _) _
  exact ⟨_, rfl, ⟨by simp, .inr ⟨w.heap.size, G, cs, rfl, Nat.le_refl _, heap_new' _ _ _ rfl, by omega, by unfold maxLen; omega, by rw [HCS.out]; omega, by simp⟩⟩, hb⟩
theorem grow_zero (w : World) :
    Calls Tryz.prog 159 #[.slice none 0 0, .int .i64 0] w fun e w' => ∃ v, e = .returned v ∧ w'.ownsRow w.heap.size 3 1 v 0 [] ∧ Below w.heap.size w w' := by
  go_enter Tryz.func159, Tryz.ntmps159
  go_wp2
  go_ret
  exact ⟨_, rfl, World.ownsRow_nil _ _ _ _, Below.refl _ _⟩
theorem grow_any (n : Nat) (h2 : n ≤ 50000) (w : World) :
    Calls Tryz.prog 159 #[.slice none 0 0, .int .i64 n] w fun e w' => ∃ v, e = .returned v ∧ w'.ownsRow w.heap.size 3 1 v 0 [] ∧ Below w.heap.size w w' := by
  rcases Nat.eq_zero_or_pos n with rfl | h
  · exact grow_zero w
  · exact grow_nil n h h2 w

def CatSz (n m : Nat) (iv sv : Value) : Prop := (iv = .int .i64 0 ∧ sv = .int .i64 0) ∨ (iv = .int .i64 1 ∧ sv = .int .i64 n) ∨ (iv = .int .i64 2 ∧ sv = .int .i64 (n + m : Nat))
def CatRow (B : Nat) (xs ys : List Int) (iv v : Value) (wr : World) : Prop :=
  (iv = .int .i64 0 ∧ wr.ownsRow B 3 1 v 0 []) ∨ (iv = .int .i64 1 ∧ wr.ownsRow B 3 1 v xs.length (xs.map (Value.int .i64))) ∨ (iv = .int .i64 2 ∧ wr.ownsRow B 3 1 v (xs.length + ys.length) ((xs ++ ys).map (Value.int .i64)))

set_option maxRecDepth 100000 in
set_option maxHeartbeats 2000000 in
theorem concat_row (g3 : Nat) (w : World) (s1 s2 : Value) (xs ys : List Int) (h1 : Ls w s1 xs) (h2 : Ls w s2 ys) (hn : xs.length ≤ 20000) (hm : ys.length ≤ 20000)
    (hx0 : w.cell? ⟨g3, 0, none⟩ = some s1) (hx1 : w.cell? ⟨g3, 1, none⟩ = some s2) :
    Calls Tryz.prog 132 #[.slice (some ⟨g3, 0, none⟩) 2 2] w (RowOut w (xs ++ ys)) := by
  obtain ⟨i0, hi, hz0, hz1, hz2⟩ := info_parts infoInt
  have hg3 : g3 < w.heap.size := block_lt_of_cell hx0
  obtain ⟨al1, c1, rfl, _⟩ := h1.shape
  obtain ⟨al2, c2, rfl, _⟩ := h2.shape
  have H1 := Lib.hid h1; have H2 := Lib.hid h2
  obtain ⟨n, hne⟩ : ∃ n, xs.length = n := ⟨_, rfl⟩
  obtain ⟨m, hme⟩ : ∃ m, ys.length = m := ⟨_, rfl⟩
  have HN := Lib.hid hne; have HM := Lib.hid hme
  rw [hne] at hx0 hn; rw [hme] at hx1 hm
  clear h1 h2 hne hme
  go_enter Tryz.func132, Tryz.ntmps132
  go_wp2
  go_loop [11, 3] (fun iv sv => CatSz n m iv sv) (fun iv _ => 2 - (intOf iv).toNat)
  case atStart => exact .inl ⟨rfl, rfl⟩
  case round =>
    rcases hrel with ⟨rfl, rfl⟩ | ⟨rfl, rfl⟩ | ⟨rfl, rfl⟩
    · go_wp2
      exact ⟨.inr (.inl ⟨rfl, rfl⟩), by decide⟩
    · go_wp2
      exact ⟨.inr (.inr ⟨rfl, by go_num⟩), by decide⟩
    · go_wp2_with (go_at_call 159; refine (grow_any (n + m) (by omega) _).mono ?_; rintro e w1 ⟨v, rfl, hown, hb⟩)
      go_loopw [27, 6] (fun iv v wr => CatRow w.heap.size xs ys iv v wr ∧ Below w.heap.size w wr) (fun iv _ _ => 2 - (intOf iv).toNat)
      case atStart => exact ⟨.inl ⟨rfl, hown⟩, hb⟩
      case round =>
        obtain ⟨hrow, hbr⟩ := hrel
        have hx0' := (hbr.cell (p := ⟨g3, 0, none⟩) hg3).trans hx0
        have hx1' := (hbr.cell (p := ⟨g3, 1, none⟩) hg3).trans hx1
        have HL1 := Lib.hid (H1.out.below (Nat.le_refl _) hbr)
        have HL2 := Lib.hid (H2.out.below (Nat.le_refl _) hbr)
        rw [HN.out] at HL1
        rw [HM.out] at HL2
        clear hown hb hx0 hx1
        rcases hrow with ⟨rfl, hown⟩ | ⟨rfl, hown⟩ | ⟨rfl, hown⟩
        · go_wp2_with (at_builtin; refine wpList_append_ls (w0 := w) rfl _ _ 92 3 rfl Tryz.underlying92 hi hz0 hz1 hz2 rfl w.heap.size _ _ _ rfl hown xs HL1.out (by rw [HN.out]; omega) (by decide) hbr.size hbr ?_; intro v' w2 hown' hb2)
          exact ⟨⟨.inr (.inl ⟨rfl, by simpa using hown'⟩), hb2⟩, by decide⟩
        · go_wp2_with (at_builtin; refine wpList_append_ls (w0 := w) rfl _ _ 92 3 rfl Tryz.underlying92 hi hz0 hz1 hz2 rfl w.heap.size _ _ _ rfl hown ys HL2.out (by rw [HN.out, HM.out]; omega) (by decide) hbr.size hbr ?_; intro v' w2 hown' hb2)
          exact ⟨⟨.inr (.inr ⟨rfl, by simpa using hown'⟩), hb2⟩, by decide⟩
        · go_wp2
          go_ret
          exact ⟨_, rfl, by simpa using hown, hbr⟩
end Go.Proofs.YtcjcafekacceiaaGreatDoor

/-! shifted, walked. -/
namespace Go.Proofs.YtcjcafekacceiaaGreatDoor
open Go.RowKit

theorem made_ints (n : Nat) : (madeCells (Value.int .i64 0).cells (n * 1)).toList = (List.replicate n (0 : Int)).map (Value.int .i64) := by
  rw [show (Value.int IntKind.i64 0).cells = #[.int .i64 0] from rfl, toList_madeCells_one, Nat.mul_one, List.map_replicate]

set_option maxRecDepth 100000 in
set_option maxHeartbeats 2000000 in
theorem shifted_nt (w : World) (v : Value) (a z : Nat) (h : Nt w v a) (hN : (dz 10000 a).length ≤ 20000) (hz : z ≤ 20000) :
    Calls Tryz.prog 153 #[v, .int .i64 z] w (NtOut w (a * 10000 ^ z)) := by
  obtain ⟨i0, hi, hz0, hz1, hz2⟩ := info_parts infoInt
  have HS := Lib.hid (show (vz 10000 (List.replicate z 0 ++ dz 10000 a)).toNat = a * 10000 ^ z by
    rw [vz_rep, vz4, show ((10000 : Int) ^ z) = ((10000 ^ z : Nat) : Int) by rw [Int.natCast_pow]; rfl, ← Int.natCast_mul, Int.toNat_natCast, Nat.mul_comm])
  have HD := Lib.hid (dig4 a)
  generalize a * 10000 ^ z = s at *
  unfold Nt at h
  generalize dz 10000 a = xs at *
  obtain ⟨al, c, rfl, _⟩ := h.shape
  have HL := Lib.hid h
  obtain ⟨N, hNe⟩ : ∃ N, xs.length = N := ⟨_, rfl⟩
  have HN := Lib.hid hNe
  rw [hNe] at HL hN
  rw [hNe]
  clear h hNe
  go_enter Tryz.func153, Tryz.ntmps153
  go_wp2_with (at_make
               refine wpList_make_full _ rfl _ _ 40 rfl w.heap.size 3 i0 (.int .i64 0) 1 Tryz.underlying40 hi hz0 hz1 .i64 .i64 _ _ z rfl rfl (by omega) (by omega) (by rw [hz2]; omega) (by unfold maxLen; omega) (Nat.le_refl _) ?_
               intro w1 hown hgrow
               have hb1 : Below w.heap.size w w1 := (Below.refl _ w).grown hgrow (Nat.le_refl _) (fun k e => by cases e)
               rw [made_ints] at hown
               have HZ := Lib.hid (Ls.own hown _ rfl)
               have HB := Lib.hid hb1
               clear hown hgrow hb1
               refine Hid.out ?_)
  refine Lib.hid ?_
  have HL1 := Lib.hid ((HL.out.below (Nat.le_refl _) HB.out).below (Nat.le_refl _) ((Below.refl w1.heap.size w1).alloc (Nat.le_refl _) (.cells #[.slice (some ⟨w.heap.size, 0, none⟩) z z, .slice al N c] 92)))
  have HZ1 := Lib.hid (HZ.out.below (Nat.le_refl _) ((Below.refl w1.heap.size w1).alloc (Nat.le_refl _) (.cells #[.slice (some ⟨w.heap.size, 0, none⟩) z z, .slice al N c] 92)))
  have HB1 := Lib.hid (HB.out.alloc HB.out.size (.cells #[.slice (some ⟨w.heap.size, 0, none⟩) z z, .slice al N c] 92))
  go_wp2_with (first
    | (go_at_call 132; refine (concat_row w1.heap.size _ _ _ (List.replicate z 0) xs HZ1.out HL1.out (by simp; omega) (by rw [HN.out]; omega) (by rw [cell_of_row _ _ 0 _ _ _ (heap_alloc_new w1 _)]; rfl) (by rw [cell_of_row _ _ 1 _ _ _ (heap_alloc_new w1 _)]; rfl)).mono ?_; rintro e w2 ⟨v2, rfl, hown, hb2⟩; have HR := Lib.hid (Ls.own hown _ rfl); have HB2 := Lib.hid (HB1.out.trans (hb2.mono HB1.out.size)); clear hown hb2)
    | (go_at_call 131; refine (trimmed_nt _ _ _ HR.out (by rw [List.length_append, HN.out, List.length_replicate]; omega) (by intro d hd; rw [List.mem_append] at hd; rcases hd with hd | hd; (have := (List.mem_replicate.1 hd).2; omega); exact HD.out d hd)).mono ?_; rintro e w3 ⟨v3, rfl, hnt, rfl⟩; have HNT := Lib.hid hnt; clear hnt))
  go_ret
  exact ⟨_, rfl, by have := HNT.out; rw [HS.out] at this; exact this, HB2.out⟩
end Go.Proofs.YtcjcafekacceiaaGreatDoor

/-! slices.Backward over a list of numbers: what a range over it is handed. -/
namespace Go.Proofs.YtcjcafekacceiaaGreatDoor
open Go.RowKit Go.Shelf
attribute [local go_sem] Oper.semAt_some

/-- The places below i, from the highest one down. -/
def dn {N : Nat} : (i : Nat) → i ≤ N → List (Fin N)
  | 0, _ => []
  | i + 1, h => ⟨i, h⟩ :: dn i (Nat.le_of_succ_le h)
theorem dn_length {N : Nat} : ∀ (i : Nat) (h : i ≤ N), (dn i h).length = i
  | 0, _ => rfl
  | i + 1, h => by rw [dn, List.length_cons, dn_length i]
abbrev encB (zs : List Int) (x : Fin zs.length) : Array Value := #[.int .i64 (x.val : Int), .int .i64 (zs[x.val]?.getD 0)]
/-- The block of a slice's elements. -/
def blkOf (Bs : Nat) : Value → Nat
  | .slice (some a) _ _ => a.block
  | _ => Bs
/-- What the iterator reads stays: its box and the elements. -/
def Kq (Bs : Nat) (v : Value) (W W' : World) : Prop := ∀ k, (k = Bs ∨ k = blkOf Bs v) → k < W.heap.size → W'.heap[k]? = W.heap[k]?
theorem kq_t {Bs : Nat} {v : Value} {A B C : World} (h : Kq Bs v A B) (g : Kq Bs v B C) : Kq Bs v A C := fun k hk hlt => by
  have h1 := h k hk hlt
  rw [← h1]
  refine g k hk ?_
  obtain ⟨x, hx⟩ : ∃ x, A.heap[k]? = some x := ⟨_, Array.getElem?_eq_getElem hlt⟩
  rw [hx] at h1
  exact (Array.getElem?_eq_some_iff.1 h1).1
theorem kq_b {Bs : Nat} {v : Value} {w : World} (h1 : Bs < w.heap.size) (h2 : blkOf Bs v < w.heap.size) (W : World) (l : Nat) (o o' : Obj) (hl : w.heap.size ≤ l) (_ : W.heap[l]? = some o) (_ : o.isCells = false) (_ : o.isWalk = false) : Kq Bs v W (W.putObj l o') :=
  fun k hk _ => World.putObj_heap_other (by rcases hk with rfl | rfl <;> omega)
theorem Kq.refl (Bs : Nat) (v : Value) (W : World) : Kq Bs v W W := fun _ _ _ => rfl
theorem Kq.below {Bs : Nat} {v : Value} {W W' : World} (h : Below W.heap.size W W') : Kq Bs v W W' := fun k _ hlt => h.block k hlt
theorem Kq.setCell {Bs : Nat} {v : Value} (W : World) (a : Addr) (u : Value) (h1 : a.block ≠ Bs) (h2 : a.block ≠ blkOf Bs v) : Kq Bs v W (W.setCell a u) :=
  fun k hk _ => Below.heap_setCell W a u k (by rcases hk with rfl | rfl <;> (intro e; simp_all))
theorem Kq.cell {Bs : Nat} {v : Value} {W W' : World} (h : Kq Bs v W W') (a : Addr) (hk : a.block = Bs ∨ a.block = blkOf Bs v) (hlt : a.block < W.heap.size) : W'.cell? a = W.cell? a :=
  World.cell?_of_block (h a.block hk hlt)
theorem Kq.ls {Bs : Nat} {v : Value} {zs : List Int} {W W' : World} (h : Kq Bs v W W') (hl : Ls W v zs) : Ls W' v zs := by
  rcases hl with h1 | ⟨b, o, c, rfl, hc, hlt, hcell⟩
  · exact .inl h1
  · refine .inr ⟨b, o, c, rfl, hc, ?_, fun i hi => (h.cell ⟨b, o + i, none⟩ (.inr rfl) hlt).trans (hcell i hi)⟩
    have h1 := h b (.inr rfl) hlt
    obtain ⟨x, hx⟩ : ∃ x, W.heap[b]? = some x := ⟨_, Array.getElem?_eq_getElem hlt⟩
    rw [hx] at h1
    exact (Array.getElem?_eq_some_iff.1 h1).1

set_option maxRecDepth 100000 in
set_option maxHeartbeats 1000000 in
theorem backward1_in (F : Fence) (n : Nat) (hf : F.fn 137) (hro : F.round = none) (hn : 1 ≤ n) (l Bs : Nat) (v : Value) (zs : List Int) (hN : zs.length ≤ 1000000) (J Jx : List (Fin zs.length) → World → Prop)
    (hY : ∀ pre x W, J pre W → pre.length < zs.length → YieldAt F (n - 1) Tryz.prog l (encB zs x) W fun e W' =>
      (e = .returned (.bool true) ∧ J (pre ++ [x]) W' ∧ Kq Bs v W W') ∨ (e = .returned (.bool false) ∧ Jx (pre ++ [x]) W'))
    (W : World) (hBs : W.cell? ⟨Bs, 0, none⟩ = some v) (hl : Ls W v zs) (h0 : J [] W) :
    CallsIn F n Tryz.prog 137 #[.func (.yield l) #[] #[], .pointer (some ⟨Bs, 0, none⟩)] W fun e W' => (∃ u, e = .returned u) ∧
      ((∃ ys, ys = dn zs.length (Nat.le_refl _) ∧ J ys W') ∨ (∃ pre, pre <+: dn zs.length (Nat.le_refl _) ∧ Jx pre W')) := by
  have hBlt : Bs < W.heap.size := block_lt_of_cell hBs
  obtain ⟨al, c, rfl, hc⟩ := hl.shape
  obtain ⟨N, hNe⟩ : ∃ N, zs.length = N := ⟨_, rfl⟩
  have HN := Lib.hid hNe
  have hBs' := hBs
  have hl' := hl
  rw [hNe] at hBs' hN
  refine callsIn_of_wp Tryz.func137 rfl hf ?_ hro
  simp only [Tryz.ntmps137, List.size_toArray, List.length_cons, List.length_nil, Nat.reduceAdd, Nat.reduceSub, Array.replicate_succ, Array.replicate_zero, List.push_toArray, List.append_toArray, List.nil_append, List.cons_append]
  have HBS := Lib.hid hBs; have HL := Lib.hid hl; have HNe := Lib.hid hNe
  clear hBs hl hl' hNe
  gi_wp2
  gi_loopw [3] (fun r wr => ∃ (pre : List (Fin zs.length)) (i : Nat) (hi : i ≤ zs.length), r = .int .i64 ((i : Int) - 1) ∧ pre.length + i = N ∧ pre ++ dn i hi = dn zs.length (Nat.le_refl _) ∧ J pre wr ∧ Kq Bs (.slice al zs.length c) W wr)
    (fun r _ => (intOf r + 1).toNat)
  case atStart =>
    exact ⟨[], zs.length, Nat.le_refl _, by rw [HN.out], by simp [HN.out], rfl, h0, Kq.refl _ _ _⟩
  case round =>
    obtain ⟨pre, i, hi, rfl, hpi, hpre, hJ, hK⟩ := hrel
    have hbx : wr.cell? ⟨Bs, 0, none⟩ = some (.slice al N c) := by rw [hK.cell ⟨Bs, 0, none⟩ (.inl rfl) hBlt, HBS.out, HN.out]
    have HK := Lib.hid hK; have HP := Lib.hid hpre
    clear hBs' hK hpre
    cases i with
    | zero =>
      clear hpi
      gi_wp2
      go_end0
      exact ⟨⟨_, rfl⟩, .inl ⟨pre, by have := HP.out; simpa [dn] using this, hJ⟩⟩
    | succ i =>
      have hiN : i < N := by omega
      obtain ⟨fn, tmps, assign, body, hyy, hR⟩ := hY pre ⟨i, hi⟩ wr hJ (by have := HN.out; omega)
      dsimp only [encB] at hyy
      have hls := HK.out.ls HL.out
      rcases hls with ⟨h1, h2⟩ | ⟨b, o, c', h1, hc', hlt, hcell⟩
      · exact absurd h2 (by intro e; rw [e] at hi; simp at hi)
      · simp only [Value.slice.injEq] at h1
        obtain ⟨rfl, -, rfl⟩ := h1
        have hci := hcell i hi
        obtain ⟨z, hz⟩ : ∃ z, zs[i]?.getD 0 = z := ⟨_, rfl⟩
        rw [hz] at hci hyy
        have HC := Lib.hid hcell; have HY := Lib.hid hY; have HJ := Lib.hid hJ
        clear hcell hY hJ hz
        gi_wp2
        refine hR.mono ?_
        rintro e W3 (⟨rfl, hJ3, hk3⟩ | ⟨rfl, hJx3⟩)
        · have HK3 := Lib.hid hk3; have HJ3 := Lib.hid hJ3
          clear hk3 hJ3
          gi_wp2
          refine ⟨⟨pre ++ [⟨i, hi⟩], i, Nat.le_of_succ_le hi, ?_, by simp; omega, ?_, HJ3.out, kq_t HK.out HK3.out⟩, ?_⟩
          · go_num
          · have := HP.out
            rw [dn] at this
            rw [← this]; simp
          · simp only [intOf]; omega
        · have HJx3 := Lib.hid hJx3
          clear hJx3
          gi_wp2
          refine bodyPost_ret (results_none rfl _ _ _) rfl ?_
          exact ⟨⟨_, rfl⟩, .inr ⟨_, ⟨dn i (Nat.le_of_succ_le hi), by have := HP.out; rw [dn] at this; rw [← this]; simp⟩, HJx3.out⟩⟩

set_option maxHeartbeats 1000000 in
/-- Backward: its argument is boxed; the function value captures the box. -/
theorem backward_in (F : Fence) (n : Nat) (hf : F.fn 109) (hro : F.round = none) (v : Value) (al : Option Addr) (m c : Nat) (hv : v = .slice al m c) (w : World) :
    CallsIn F n Tryz.prog 109 #[v] w fun e w' => e = .returned (.func (.func 137) #[] #[.pointer (some ⟨w.heap.size, 0, none⟩)]) ∧ w' = w.alloc (.cells #[v] 92) := by
  subst hv
  refine callsIn_of_wp Tryz.func109 rfl hf ?_ hro
  simp only [Tryz.ntmps109, List.size_toArray, List.length_cons, List.length_nil, Nat.reduceAdd, Nat.reduceSub, Array.replicate_succ, Array.replicate_zero, List.push_toArray, List.append_toArray, List.nil_append, List.cons_append]
  gi_wp2
  go_ret
  exact ⟨rfl, rfl⟩

theorem blk_lt {w : World} {Bs : Nat} {v : Value} {zs : List Int} (h : Ls w v zs) (hB : Bs < w.heap.size) : blkOf Bs v < w.heap.size := by
  rcases h with ⟨rfl, _⟩ | ⟨b, o, c, rfl, _, hlt, _⟩
  · exact hB
  · exact hlt

theorem backward_stops (F : Fence) (n : Nat) (hf : F.fn 137) (hro : F.round = none) (hn : 1 ≤ n) (Bs : Nat) (v : Value) (zs : List Int) (hN : zs.length ≤ 1000000) (w : World) (hBs : w.cell? ⟨Bs, 0, none⟩ = some v) (hl : Ls w v zs) :
    SeqStopsK F n Tryz.prog 137 #[.pointer (some ⟨Bs, 0, none⟩)] (encB zs) (Kq Bs v) (fun ys => ys = dn zs.length (Nat.le_refl _)) (fun pre => pre <+: dn zs.length (Nat.le_refl _)) zs.length w := fun l J Jx W hW _ _ hY h0 =>
  backward1_in F n hf hro hn l Bs v zs hN J Jx hY W ((hW.cell (p := ⟨Bs, 0, none⟩) (block_lt_of_cell hBs)).trans hBs) (hl.below (Nat.le_refl _) hW) h0
end Go.Proofs.YtcjcafekacceiaaGreatDoor

/-! Cuts of a list of numbers. -/
namespace Go.Proofs.YtcjcafekacceiaaGreatDoor
open Go.RowKit Go.Shelf

theorem run_cut_end (al : Option Addr) (n : Nat) (w : World) :
    (Instr.slice 92 (.slice al n n) (some (.int .i64 n)) none none).run Tryz.prog w = .ok (.slice al 0 0) w := by
  obtain ⟨i0, hi, hz0, hz1, hz2⟩ := info_parts infoInt
  cases al <;> simp [Instr.slice, Instr.sliceBounds, Instr.sliceBound, asIntOf, run_underlying Tryz.underlying92, sizeOf, typeInfo, hi, go_sem]
theorem cut_from_ls (w : World) (v : Value) (zs : List Int) (h : Nat) (hl : Ls w v zs) (hh : h ≤ zs.length) :
    ∃ v', (∀ W, (Instr.slice 92 v (some (.int .i64 h)) none none).run Tryz.prog W = .ok v' W) ∧ Ls w v' (zs.drop h) := by
  rcases hl with ⟨rfl, rfl⟩ | ⟨b, o, c, rfl, hc, hlt, hcell⟩
  · obtain rfl : h = 0 := by simpa using hh
    exact ⟨.slice none 0 0, fun W => run_cut_end none 0 W, Ls.nil w⟩
  · rcases Nat.lt_or_ge h c with h1 | h1
    · refine ⟨_, fun W => run_cut_from (P := Tryz.prog) 92 3 1 Tryz.underlying92 sizeInt b o zs.length c h hh h1 W, ?_⟩
      rw [Nat.mul_one]
      refine .inr ⟨b, o + h, c - h, by rw [List.length_drop], by rw [List.length_drop]; omega, hlt, fun i hi => ?_⟩
      rw [List.length_drop] at hi
      rw [List.getElem?_drop, Nat.add_assoc]
      exact hcell (h + i) (by omega)
    · have e1 : c = h := by omega
      have e2 : zs.length = h := by omega
      subst e1
      rw [e2]
      refine ⟨_, fun W => run_cut_end _ c W, ?_⟩
      rw [List.drop_eq_nil_of_le (by omega)]
      exact .inr ⟨b, o, 0, rfl, Nat.le_refl _, hlt, fun i hi => by simp at hi⟩
theorem cut_to_ls (w : World) (v : Value) (zs : List Int) (h : Nat) (hl : Ls w v zs) (hh : h ≤ zs.length) :
    ∃ v', (∀ W, (Instr.slice 92 v none (some (.int .i64 h)) none).run Tryz.prog W = .ok v' W) ∧ Ls w v' (zs.take h) := by
  obtain ⟨al, c, rfl, hc⟩ := hl.shape
  refine ⟨_, fun W => run_cut_to (P := Tryz.prog) 92 3 1 Tryz.underlying92 sizeInt al zs.length c h (by omega) W, ?_⟩
  rcases hl with ⟨h1, rfl⟩ | ⟨b, o, c', h1, hc', hlt, hcell⟩
  · obtain rfl : h = 0 := by simpa using hh
    cases h1
    exact Ls.nil w
  · cases h1
    refine .inr ⟨b, o, c, by rw [List.length_take, Nat.min_eq_left hh], by rw [List.length_take]; omega, hlt, fun i hi => ?_⟩
    rw [List.length_take] at hi
    rw [List.getElem?_take, if_pos (by omega)]
    exact hcell i (by omega)
end Go.Proofs.YtcjcafekacceiaaGreatDoor

/-! above, walked. -/
namespace Go.Proofs.YtcjcafekacceiaaGreatDoor
open Go.RowKit Go.Shelf
attribute [local go_sem] Oper.semAt_some

def accF (zs : List Int) (pre : List (Fin zs.length)) : Int := pre.foldl (fun v i => wrap64 (wrap64 (v * 10000) + zs[i.val]?.getD 0)) 0
theorem accF_snoc (zs : List Int) (pre : List (Fin zs.length)) (x : Fin zs.length) : accF zs (pre ++ [x]) = wrap64 (wrap64 (accF zs pre * 10000) + zs[x.val]?.getD 0) := by
  unfold accF; rw [List.foldl_append]; rfl
/-- What has been gathered from the top down is the number above. -/
theorem accF_dn (a : Nat) (ha : a < 10000 ^ 3) : accF (dz 10000 a) (dn (dz 10000 a).length (Nat.le_refl _)) = a := by
  have key : ∀ (i : Nat) (hi : i ≤ (dz 10000 a).length) (pre : List (Fin (dz 10000 a).length)), accF (dz 10000 a) pre = ((a / 10000 ^ i : Nat) : Int) → accF (dz 10000 a) (pre ++ dn i hi) = a := by
    intro i
    induction i with
    | zero => intro hi pre h; rw [dn, List.append_nil, h]; simp
    | succ i ih =>
      intro hi pre h
      rw [dn, show pre ++ (⟨i, hi⟩ :: dn i (Nat.le_of_succ_le hi)) = (pre ++ [⟨i, hi⟩]) ++ dn i (Nat.le_of_succ_le hi) by simp]
      apply ih
      rw [accF_snoc, h]
      simp only
      rw [dz_getD 10000 (by decide)]
      have h1 : a / 10000 ^ i ≤ a := Nat.div_le_self _ _
      have h2 := above_step 10000 (by decide) a i
      generalize a / 10000 ^ (i + 1) = x at *
      generalize a / 10000 ^ i = y at *
      rw [IntWalk.wrap64_in ((x : Int) * 10000) ⟨by omega, by omega⟩, IntWalk.wrap64_in ((x : Int) * 10000 + ((y % 10000 : Nat) : Int)) ⟨by omega, by omega⟩]
      omega
  have := key (dz 10000 a).length (Nat.le_refl _) [] (by
    rw [Nat.div_eq_of_lt (dz_lt 10000 (by decide) a)]; rfl)
  simpa using this

def AbvOut (w : World) (a : Nat) (e : Ending) (w' : World) : Prop := e = .returned (.int .i64 a) ∧ Below w.heap.size w w'

set_option maxRecDepth 100000 in
set_option maxHeartbeats 2000000 in
theorem above_in (F : Fence) (n : Nat) (h1f : F.fn 160) (h2f : F.fn 109) (h3f : F.fn 137) (hro : F.round = none) (hn : 3 ≤ n)
    (w : World) (v : Value) (a low : Nat) (h : Nt w v a) (_hlen : (dz 10000 a).length ≤ 20000) (_hlow : low ≤ 20000) (ha : a / 10000 ^ low < 10000 ^ 3) :
    CallsIn F n Tryz.prog 160 #[v, .int .i64 low] w (AbvOut w (a / 10000 ^ low)) := by
  have h1 : 1 ≤ n := by omega
  unfold Nt at h
  have hdrop := dz_drop 10000 (by decide) low a
  have hdrop2 : (dz 10000 a).drop (min low (dz 10000 a).length) = dz 10000 (a / 10000 ^ low) := by
    rw [← hdrop]
    rcases Nat.le_total low (dz 10000 a).length with h2 | h2
    · rw [Nat.min_eq_left h2]
    · rw [Nat.min_eq_right h2, List.drop_eq_nil_of_le h2, List.drop_eq_nil_of_le (Nat.le_refl _)]
  obtain ⟨v', hcut, hls⟩ := cut_from_ls w v _ (min low (dz 10000 a).length) h (Nat.min_le_right _ _)
  rw [hdrop2] at hls
  obtain ⟨al, c, rfl, hc⟩ := h.shape
  obtain ⟨N, hNe⟩ : ∃ N, (dz 10000 a).length = N := ⟨_, rfl⟩
  rw [hNe] at hcut _hlen ⊢
  have hacc := Lib.hid (accF_dn _ ha)
  have hlen2 : (dz 10000 (a / 10000 ^ low)).length ≤ 3 := (len4 _ 3).2 ha
  clear hdrop hdrop2 hNe hc h ha
  generalize a / 10000 ^ low = q at *
  generalize dz 10000 q = zs at *
  obtain ⟨al', c', rfl, hc'⟩ := hls.shape
  obtain ⟨M, hMe⟩ : ∃ M, zs.length = M := ⟨_, rfl⟩
  have hlsM := hls
  have HLS := Lib.hid hls
  have HM := Lib.hid hMe
  rw [hMe] at hlsM hcut hc' hlen2
  have HLM := Lib.hid hlsM
  clear hls hlsM hMe
  obtain ⟨s, hs⟩ : ∃ s, min low N = s := ⟨_, rfl⟩
  have hmin : ∀ (ts : Array TypeId) (t : TypeId) (W : World), (Builtin.min_ ts t #[.int .i64 (low : Int), .int .i64 (N : Int)]).run Tryz.prog W = .ok (.int .i64 (s : Int)) W := fun ts t W => by
    rw [run_min_int2]
    congr 2
    split <;> omega
  rw [hs] at hcut
  clear hs
  have hls0 := Lib.hid (show Ls ((w.alloc (.cells #[.int .i64 0] 3)).alloc (.cells #[.slice al' M c'] 92)) (.slice al' M c') zs from (HLM.out.below (Nat.le_refl _) (((Below.refl w.heap.size w).alloc (Nat.le_refl _) _).alloc (by simp) _)))
  have bC := Boxed.new w 3 (.int .i64 0)
  have bS := Boxed.new (w.alloc (.cells #[.int .i64 0] 3)) 92 (.slice al' M c')
  rw [World.size_alloc] at bS
  have hB0 : Below w.heap.size w ((w.alloc (.cells #[.int .i64 0] 3)).alloc (.cells #[.slice al' M c'] 92)) := ((Below.refl _ w).alloc (Nat.le_refl _) _).alloc (by simp) _
  have hblk : blkOf (w.heap.size + 1) (.slice al' M c') ≠ w.heap.size := by
    rcases HLM.out with ⟨h1, _⟩ | ⟨b, o, c2, h1, _, hlt2, _⟩
    · rw [h1]; simp [blkOf]
    · rw [h1]; simp [blkOf]; omega
  refine callsIn_of_wp_marks Tryz.func160 rfl h1f ?_ hro
  simp only [Tryz.ntmps160, List.size_toArray, List.length_cons, List.length_nil, Nat.reduceAdd, Nat.reduceSub, Array.replicate_succ, Array.replicate_zero, List.push_toArray, List.append_toArray, List.nil_append, List.cons_append]
  gi_wp2_with (gi_at_call 109; refine (backward_in F (n - 1) h2f hro _ _ _ _ rfl _).mono ?_; rintro e w' ⟨rfl, rfl⟩)
  clear hcut
  refine wpIn_rangeFunc_ownG hro h1 (gf := 137) (lb := #[.pointer (some ⟨w.heap.size + 1, 0, none⟩)]) rfl h3f (enters_of Tryz.func137 (by kernel_rfl) rfl)
    (backward_stops F (n - 1) h3f hro (by omega) (w.heap.size + 1) _ zs (by rw [HM.out]; omega) _ bS.cell hls0.out) kq_t (kq_b (by simp) (by have := blk_lt hls0.out (Bs := w.heap.size + 1) (by simp); exact this)) (Below.refl _ _) (fun _ => rfl)
    (fun pre W => Boxed W w.heap.size 3 (.int .i64 (accF zs pre)) ∧ Below w.heap.size w W)
    (fun _ _ _ => False)
    (OwnFrom.and (Own.from (boxed_own w.heap.size 3 (fun pre => .int .i64 (accF zs pre))) _) (ownFrom_below (Nat.le_refl _) (by simp; omega)))
    (fun _ _ _ _ _ hs _ _ => hs)
    ⟨bC.alloc _, hB0⟩
    ?a1 ?assign ?body ?done ?stop
  case assign =>
    intro l x W K hK
    gi_wp2
    exact hK
  case body =>
    rintro l pre x W ⟨hv, hB⟩ hlt'
    have hc := hv.cell
    have hf := hv.frozen
    have hbs := Lib.hid (accF_snoc zs pre x)
    obtain ⟨q', hq'⟩ : ∃ q', accF zs pre = q' := ⟨_, rfl⟩
    obtain ⟨z, hz⟩ : ∃ z, zs[x.val] = z := ⟨_, rfl⟩
    have hz0 : zs[x.val]?.getD 0 = z := by rw [List.getElem?_eq_getElem x.isLt]; exact hz
    rw [hq', hz0] at hbs
    clear hz0
    rw [hq'] at hc hv
    clear hq'
    gi_wp2
    exact ⟨(KeepsOthers.setCell _ _ _).from _, Kq.setCell _ _ _ (by simp) (by exact hblk.symm), by rw [hbs.out]; exact hv.set _, hB.setCell (Nat.le_refl _) _⟩
  case done =>
    rintro D ys W hD rfl ⟨hv, hB⟩ hK
    have hc := hv.cell
    rw [hacc.out] at hc hv
    gi_wp2
    refine ⟨by simp, .inl ⟨_, _, rfl, run_takeDeferred hK, ?_⟩⟩
    exact ⟨_, results_tmp rfl _ _ _, rfl, hB.trans (belowK_b (w := w) (Nat.le_refl _) W D _ _ (by simp at hD; omega) hK rfl rfl)⟩
  case stop =>
    rintro D c pre W _ _ h _
    exact h.elim

theorem above_nt (w : World) (v : Value) (a low : Nat) (h : Nt w v a) (hlen : (dz 10000 a).length ≤ 20000) (hlow : low ≤ 20000) (ha : a / 10000 ^ low < 10000 ^ 3) :
    Calls Tryz.prog 160 #[v, .int .i64 low] w (AbvOut w (a / 10000 ^ low)) :=
  callsIn_wide.1 (above_in Fence.wide 3 trivial trivial trivial rfl (by omega) w v a low h hlen hlow ha)
end Go.Proofs.YtcjcafekacceiaaGreatDoor

/-! compare, walked. -/
namespace Go.Proofs.YtcjcafekacceiaaGreatDoor
open Go.RowKit Go.Shelf
attribute [local go_sem] Oper.semAt_some

theorem compareInt_any (x y : Int) (w : World) :
    Calls Tryz.prog 143 #[.int .i64 x, .int .i64 y] w fun e w' => e = .returned (.int .i64 (cmpZ x y)) ∧ w' = w := by
  rcases Int.lt_trichotomy x y with h | h | h
  · have e : cmpZ x y = -1 := by unfold cmpZ; rw [if_pos h]
    rw [e]
    go_enter Tryz.func143, Tryz.ntmps143
    go_wp2
    go_ret
    exact ⟨rfl, rfl⟩
  · subst h
    have e : cmpZ x x = 0 := by unfold cmpZ; rw [if_neg (by omega), if_neg (by omega)]
    rw [e]
    go_enter Tryz.func143, Tryz.ntmps143
    go_wp2
    go_ret
    exact ⟨rfl, rfl⟩
  · have e : cmpZ x y = 1 := by unfold cmpZ; rw [if_neg (by omega), if_pos h]
    rw [e]
    have h2 : ¬ x < y := by omega
    go_enter Tryz.func143, Tryz.ntmps143
    go_wp2
    go_ret
    exact ⟨rfl, rfl⟩

theorem dn_prefix {N : Nat} : ∀ (i : Nat) (h : i ≤ N) (pre : List (Fin N)) (x : Fin N), pre ++ [x] <+: dn i h → x.val < i ∧ ∀ j : Fin N, x.val < j.val → j.val < i → j ∈ pre
  | 0, _, pre, x, hp => by
    have := hp.length_le
    simp [dn] at this
  | i + 1, h, [], x, hp => by
    rw [dn, List.nil_append, List.cons_prefix_cons] at hp
    obtain ⟨rfl, _⟩ := hp
    exact ⟨Nat.lt_succ_self _, fun j h1 h2 => absurd (show i < j.val from h1) (by omega)⟩
  | i + 1, h, p :: pre, x, hp => by
    rw [dn, List.cons_append, List.cons_prefix_cons] at hp
    obtain ⟨rfl, hp⟩ := hp
    obtain ⟨h1, h2⟩ := dn_prefix i (Nat.le_of_succ_le h) pre x hp
    refine ⟨by omega, fun j h3 h4 => ?_⟩
    rcases Nat.lt_or_ge j.val i with h5 | h5
    · exact List.mem_cons_of_mem _ (h2 j h3 h5)
    · have : j = ⟨i, h⟩ := Fin.ext (show j.val = i by omega)
      rw [this]; exact List.mem_cons_self ..
theorem mem_dn {N : Nat} : ∀ (i : Nat) (h : i ≤ N) (j : Fin N), j.val < i → j ∈ dn i h
  | 0, _, j, hj => by omega
  | i + 1, h, j, hj => by
    rw [dn]
    rcases Nat.lt_or_ge j.val i with h5 | h5
    · exact List.mem_cons_of_mem _ (mem_dn i _ j h5)
    · have : j = ⟨i, h⟩ := Fin.ext (show j.val = i by omega)
      rw [this]; exact List.mem_cons_self ..

theorem cmp_found (a b : Nat) (hl : (dz 10000 a).length = (dz 10000 b).length) (pre : List (Fin (dz 10000 a).length)) (x : Fin (dz 10000 a).length) (hp : pre ++ [x] <+: dn (dz 10000 a).length (Nat.le_refl _))
    (heq : ∀ i ∈ pre, (dz 10000 a)[i.val]?.getD 0 = (dz 10000 b)[i.val]?.getD 0) (hne : (dz 10000 a)[x.val]?.getD 0 ≠ (dz 10000 b)[x.val]?.getD 0) :
    cmpZ ((dz 10000 a)[x.val]?.getD 0) ((dz 10000 b)[x.val]?.getD 0) = cmpN a b := by
  obtain ⟨h1, h2⟩ := dn_prefix _ _ pre x hp
  rw [cmpN_digit 10000 (by decide) a b x.val hl x.isLt hne (fun j hj => by
    by_cases h : j < (dz 10000 a).length
    · exact heq _ (h2 ⟨j, h⟩ hj h)
    · rw [List.getElem?_eq_none (l := dz 10000 a) (by omega), List.getElem?_eq_none (l := dz 10000 b) (by omega)])]
  unfold cmpZ
  split
  · rfl
  · rw [if_pos (by omega)]
theorem cmp_none (a b : Nat) (hl : (dz 10000 a).length = (dz 10000 b).length)
    (heq : ∀ i ∈ dn (dz 10000 a).length (Nat.le_refl _), (dz 10000 a)[i.val]?.getD 0 = (dz 10000 b)[i.val]?.getD 0) : cmpN a b = 0 := by
  refine cmpN_same 10000 (by decide) a b hl fun j => ?_
  by_cases h : j < (dz 10000 a).length
  · exact heq _ (mem_dn _ _ ⟨j, h⟩ h)
  · rw [List.getElem?_eq_none (l := dz 10000 a) (by omega), List.getElem?_eq_none (l := dz 10000 b) (by omega)]

def IntOut (w : World) (z : Int) (e : Ending) (w' : World) : Prop := e = .returned (.int .i64 z) ∧ Below w.heap.size w w'

/-- What the loop leaves behind when it has found two groups that differ. -/
def CmpFound (B : Nat) (w : World) (xs ys : List Int) (c : Code) (pre : List (Fin xs.length)) (W : World) : Prop :=
  (c = .ret ∧ ∃ pre' x, pre = pre' ++ [x] ∧ (∀ i ∈ pre', xs[i.val]?.getD 0 = ys[i.val]?.getD 0) ∧ xs[x.val]?.getD 0 ≠ ys[x.val]?.getD 0 ∧ Boxed W (B + 1) 3 (.int .i64 (cmpZ (xs[x.val]?.getD 0) (ys[x.val]?.getD 0)))) ∧ Below B w W
theorem cmpFound_own (B : Nat) (w : World) (xs ys : List Int) (hB : B ≤ w.heap.size) (B' : Nat) (hB' : B ≤ B') (c : Code) : OwnFrom B' (CmpFound B w xs ys c) := by
  rintro s X Y row ⟨⟨h1, pre', x, h2, h3, h4, h5⟩, h6⟩ hg hr
  refine ⟨⟨h1, pre', x, h2, h3, h4, (boxed_own (β := Unit) (B + 1) 3 (fun _ => .int .i64 (cmpZ (xs[x.val]?.getD 0) (ys[x.val]?.getD 0)))) () X Y row h5 hg (fun r e => (hr r e).2)⟩, ?_⟩
  exact ownFrom_below (β := Unit) hB hB' () X Y row h6 hg hr

set_option maxRecDepth 100000 in
set_option maxHeartbeats 2000000 in
theorem compare_nt (w : World) (v1 v2 : Value) (a b : Nat) (h1 : Nt w v1 a) (h2 : Nt w v2 b) (hlen : (dz 10000 a).length ≤ 20000) (hlen2 : (dz 10000 b).length ≤ 20000) :
    Calls Tryz.prog 114 #[v1, v2] w (IntOut w (cmpN a b)) := by
  unfold Nt at h1 h2
  have HCF := Lib.hid (cmp_found a b)
  have HCN := Lib.hid (cmp_none a b)
  have HCL := Lib.hid (cmpN_len 10000 (by decide) a b)
  generalize dz 10000 a = xs at *
  generalize dz 10000 b = ys at *
  generalize cmpN a b = z at *
  obtain ⟨al1, c1, rfl, hc1⟩ := h1.shape
  obtain ⟨al2, c2, rfl, hc2⟩ := h2.shape
  obtain ⟨N, hNe⟩ : ∃ N, xs.length = N := ⟨_, rfl⟩
  obtain ⟨M, hMe⟩ : ∃ M, ys.length = M := ⟨_, rfl⟩
  have HN := Lib.hid hNe; have HM := Lib.hid hMe
  rw [hNe] at hc1 hlen ⊢
  rw [hMe] at hc2 hlen2 ⊢
  have h1' := h1; have h2' := h2
  rw [hNe] at h1'; rw [hMe] at h2'
  have HL1 := Lib.hid h1'; have HL2 := Lib.hid h2'
  clear h1 h2 h1' h2' hNe hMe
  by_cases hNM : N = M
  · subst hNM
    refine (callsIn_wide (n := 3)).1 ?_
    have bY := Boxed.new w 92 (.slice al2 N c2)
    have bR := Boxed.new (w.alloc (.cells #[.slice al2 N c2] 92)) 3 (.int .i64 0)
    have bS := Boxed.new ((w.alloc (.cells #[.slice al2 N c2] 92)).alloc (.cells #[.int .i64 0] 3)) 92 (.slice al1 N c1)
    rw [World.size_alloc] at bR bS
    rw [World.size_alloc] at bS
    have hB0 : Below w.heap.size w (((w.alloc (.cells #[.slice al2 N c2] 92)).alloc (.cells #[.int .i64 0] 3)).alloc (.cells #[.slice al1 N c1] 92)) := (((Below.refl _ w).alloc (Nat.le_refl _) _).alloc (by simp) _).alloc (by simp; omega) _
    have hls0 := Lib.hid (HL1.out.below (Nat.le_refl _) hB0)
    have hblk : blkOf (w.heap.size + 2) (.slice al1 N c1) ≠ w.heap.size + 1 := by
      rcases HL1.out with ⟨h1, _⟩ | ⟨b, o, c2, h1, _, hlt2, _⟩
      · rw [h1]; simp [blkOf]
      · rw [h1]; simp [blkOf]; omega
    refine callsIn_of_wp_marks Tryz.func114 rfl trivial ?_ rfl
    simp only [Tryz.ntmps114, List.size_toArray, List.length_cons, List.length_nil, Nat.reduceAdd, Nat.reduceSub, Array.replicate_succ, Array.replicate_zero, List.push_toArray, List.append_toArray, List.nil_append, List.cons_append]
    gi_wp2_with (refine ⟨trivial, ?_⟩; gi_at_call 109; refine (backward_in Fence.wide _ trivial rfl _ _ _ _ rfl _).mono ?_; rintro e w' ⟨rfl, rfl⟩)
    refine wpIn_rangeFunc_ownG rfl (by decide) (gf := 137) (lb := #[.pointer (some ⟨w.heap.size + 2, 0, none⟩)]) rfl trivial (enters_of Tryz.func137 (by kernel_rfl) rfl)
      (backward_stops Fence.wide _ trivial rfl (by decide) (w.heap.size + 2) _ xs (by rw [HN.out]; omega) _ bS.cell hls0.out) kq_t (kq_b (by simp) (by have := blk_lt hls0.out (Bs := w.heap.size + 2) (by simp); exact this)) (Below.refl _ _) (fun _ => rfl)
      (fun pre W => (Boxed W w.heap.size 92 (.slice al2 N c2) ∧ Boxed W (w.heap.size + 1) 3 (.int .i64 0) ∧ (∀ i ∈ pre, xs[i.val]?.getD 0 = ys[i.val]?.getD 0)) ∧ Below w.heap.size w W)
      (fun c pre W => CmpFound w.heap.size w xs ys c pre W)
      (OwnFrom.and (OwnFrom.and (Own.from (boxed_own w.heap.size 92 (fun _ => .slice al2 N c2)) _) (OwnFrom.and (Own.from (boxed_own (w.heap.size + 1) 3 (fun _ => .int .i64 0)) _) (ownFrom_pure _ _))) (ownFrom_below (Nat.le_refl _) (by simp; omega)))
      (fun c => cmpFound_own _ _ _ _ (Nat.le_refl _) _ (by simp; omega) c)
      ⟨⟨(bY.alloc _).alloc _, bR.alloc _, by simp⟩, hB0⟩
      ?a1 ?assign ?body ?done ?stop
    case assign =>
      intro l x W K hK
      gi_wp2
      exact hK
    case body =>
      rintro l pre x W ⟨⟨hy, hr, heq⟩, hB⟩ hlt'
      have hcy := hy.cell; have hcr := hr.cell; have hfr := hr.frozen
      have hxN : x.val < N := by have := x.isLt; have h9 := HN.out; omega
      have hyc := HL2.out
      rcases hyc with ⟨h1, h2⟩ | ⟨b2, o2, c2', h1, hc2', hlt2, hcell2⟩
      · exfalso; have := HM.out; rw [h2] at this; simp at this; omega
      simp only [Value.slice.injEq] at h1
      obtain ⟨rfl, -, rfl⟩ := h1
      have hcx := (hB.cell (p := ⟨b2, o2 + x.val, none⟩) hlt2).trans (hcell2 x.val (by rw [HM.out]; exact hxN))
      have HEQ := Lib.hid heq; have HB := Lib.hid hB; have HY := Lib.hid hy; have HR := Lib.hid hr
      clear heq hB hcell2 hlt' hy hr
      obtain ⟨p, hp⟩ : ∃ p, xs[x.val] = p := ⟨_, rfl⟩
      obtain ⟨q, hq⟩ : ∃ q, ys[x.val]?.getD 0 = q := ⟨_, rfl⟩
      have hp0 : Hid (xs[x.val]?.getD 0 = p) := by rw [List.getElem?_eq_getElem x.isLt]; exact hp
      have hq0 := Lib.hid hq
      rw [hq] at hcx
      clear hq
      have hxr : Hid (∀ p, xs[x.val] = p → xs[x.val]?.getD 0 = p) := fun p hp => by rw [List.getElem?_eq_getElem x.isLt]; exact hp
      by_cases hpq : p = q
      · subst hpq
        have hne : (p != p) = false := by simp
        gi_wp2
        refine ⟨KeepsFrom.refl _ _, Kq.refl _ _ _, ⟨HY.out, HR.out, fun i hi => ?_⟩, HB.out⟩
        rw [List.mem_append, List.mem_singleton] at hi
        rcases hi with hi | rfl
        · exact HEQ.out i hi
        · rw [hp0.out, hq0.out]
      · have hne : (p != q) = true := by simpa using hpq
        gi_wp2_with (refine ⟨trivial, ?_⟩; gi_at_call 143; refine (CallsIn.inRound l (callsIn_wide.2 (compareInt_any _ _ _))).mono ?_; rintro e w' ⟨rfl, rfl⟩)
        refine ⟨(KeepsOthers.setCell _ _ _).from _, ⟨rfl, pre, x, rfl, HEQ.out, by rw [hp0.out, hq0.out]; exact hpq, ?_⟩, HB.out.setCell (by simp) _⟩
        rw [hp0.out, hq0.out]
        exact HR.out.set _
    case done =>
      rintro D ys' W hD hys ⟨⟨hy, hr, heq⟩, hB⟩ hK
      have hcr := hr.cell; have hfr := hr.frozen
      have hz := Lib.hid (HCN.out (by rw [HN.out, HM.out]) (by rw [← hys]; exact heq))
      clear hys heq
      gi_wp2
      have hK' := (KeepsOthers.setCell W ⟨w.heap.size + 1, 0, none⟩ (.int .i64 0)).same D _ hK rfl
      refine ⟨by simp, .inl ⟨_, _, rfl, run_takeDeferred hK', ?_⟩⟩
      have hc5 := cell_kept (World.cell?_setCell_same' W ⟨w.heap.size + 1, 0, none⟩ (.int .i64 0) (by rw [hcr]; rfl)) (grownBy_putObj' _ D (.deferred none)) (fun r e => by cases e; exact ⟨_, hK', rfl⟩)
      refine ⟨.int .i64 0, ?_, by rw [hz.out], (hB.setCell (p := ⟨w.heap.size + 1, 0, none⟩) (by simp) _).trans (belowK_b (w := w) (Nat.le_refl _) _ D _ _ (by simp at hD; omega) hK' rfl rfl)⟩
      simp [results, Tryz.f114, go_sem, hc5]
    case stop =>
      rintro D c pre W hD hpre ⟨⟨rfl, pre', x, rfl, heq, hne, hr⟩, hB⟩ hK
      have hcr := hr.cell
      gi_wp2
      refine ⟨by simp, .inl ⟨_, _, rfl, run_takeDeferred hK, ?_⟩⟩
      have hc5 := cell_kept hcr (grownBy_putObj' _ D (.deferred none)) (fun r e => by cases e; exact ⟨_, hK, rfl⟩)
      refine ⟨_, ?_, by rw [← HCF.out (by rw [HN.out, HM.out]) pre' x hpre heq hne], hB.trans (belowK_b (w := w) (Nat.le_refl _) W D _ _ (by simp at hD; omega) hK rfl rfl)⟩
      simp [results, Tryz.f114, go_sem, hc5]
  · have hz := Lib.hid (HCL.out (by rw [HN.out, HM.out]; exact hNM))
    have hzz : Hid (z = cmpZ (N : Int) (M : Int)) := by
      have := hz.out
      rw [HN.out, HM.out] at this
      rw [this]
      unfold cmpZ
      by_cases h : N < M
      · rw [if_pos h, if_pos (by omega)]
        exact Lib.hid rfl
      · rw [if_neg h, if_neg (by omega), if_pos (by omega)]
        exact Lib.hid rfl
    have hne : ((N : Int) != (M : Int)) = true := by simp; omega
    go_enter Tryz.func114, Tryz.ntmps114
    go_wp2_with (go_at_call 143; refine (compareInt_any _ _ _).mono ?_; rintro e w' ⟨rfl, rfl⟩)
    refine bodyPost_ret (v := .int .i64 (cmpZ N M)) (by simp [results, Tryz.f114, go_sem]) rfl ?_
    exact ⟨by rw [hzz.out], ((Below.refl _ w).alloc (Nat.le_refl _) _).alloc (by simp) _⟩
end Go.Proofs.YtcjcafekacceiaaGreatDoor
