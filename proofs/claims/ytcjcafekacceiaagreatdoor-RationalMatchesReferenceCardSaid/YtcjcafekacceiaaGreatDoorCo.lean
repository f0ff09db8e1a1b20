/- slices.Concat of two lists of steps, walked. -/
import Derived.Laws.AppendOwnNone
import Derived.Lib.AppendZerosOnto
import Derived.Test.YtcjcafekacceiaaGreatDoorSt
namespace Go.Proofs.YtcjcafekacceiaaGreatDoor
open Go.RowKit

theorem infoStep : (Tryz.prog.info? 81).map (fun i => (i.zero, i.size, i.bytes)) = some (some .nilFunc, 1, 8) := by kernel_rfl
/-- A slice reads as these values. -/
def Lv (w : World) (v : Value) (xs : List Value) : Prop :=
  (v = .slice none 0 0 ∧ xs = []) ∨ ∃ b o c, v = .slice (some ⟨b, o, none⟩) xs.length c ∧ xs.length ≤ c ∧ b < w.heap.size ∧ ∀ i, i < xs.length → w.cell? ⟨b, o + i, none⟩ = xs[i]?
theorem Lv.nil (w : World) : Lv w (.slice none 0 0) [] := .inl ⟨rfl, rfl⟩
theorem Lv.below {B : Nat} {w w' : World} {v : Value} {xs : List Value} (h : Lv w v xs) (hB : w.heap.size ≤ B) (hb : Below B w w') : Lv w' v xs := by
  rcases h with h | ⟨b, o, c, hv, hc, hlt, hcell⟩
  · exact .inl h
  · have := hb.size
    exact .inr ⟨b, o, c, hv, hc, by omega, fun i hi => (hb.cell (p := ⟨b, o + i, none⟩) (show b < B by omega)).trans (hcell i hi)⟩
theorem Lv.shape {w : World} {v : Value} {xs : List Value} (h : Lv w v xs) : ∃ al c, v = .slice al xs.length c ∧ xs.length ≤ c := by
  rcases h with ⟨h1, h2⟩ | ⟨b, o, c, h1, hc, _⟩
  · exact ⟨none, 0, by rw [h1, h2]; rfl, by rw [h2]; exact Nat.le_refl _⟩
  · exact ⟨_, _, h1, hc⟩
theorem Lv.own {w : World} {base : Nat} {e : TypeId} {v : Value} {n : Nat} {xs : List Value} (h : w.ownsRow base e 1 v n xs) : Lv w v xs := by
  have h1 := h.1
  rw [Nat.mul_one] at h1
  subst h1
  rcases h.2 with ⟨rfl, h2⟩ | ⟨g, cap, cur, rfl, hb, hg, hc, hm, hcs, ht⟩
  · exact .inl ⟨by simp_all, by simp_all⟩
  · refine .inr ⟨g, 0, cap, rfl, hc, (Array.getElem?_eq_some_iff.1 hg).1, fun i hi => ?_⟩
    rw [cell_of_row _ _ _ _ _ _ hg, Nat.zero_add]
    rw [Nat.mul_one] at ht
    rw [← ht, List.getElem?_take, if_pos hi, Array.getElem?_toList]
section
variable {P : Program} {w1 w0 : World} {ops : Array Oper} {rest : List Oper} {o : Oper} {a : Act} {Q : Exit → Act → World → Prop}
/-- A list of values, wherever it lies, put behind a row of the call's own. -/
theorem wpList_append_lv (hgd : o.guard = none) (s x : Operand) (t e : TypeId)
    (ho : o.op = .call { callee := .builtin .append, args := #[s, x], argTypes := #[t, t] })
    {i0 : TypeInfo} {z : Value} {bytes : Nat} (hu : P.underlying t = some (.slice e)) (hi : P.info? e = some i0) (hz0 : i0.zero = some z) (hz1 : i0.size = 1) (hz2 : i0.bytes = bytes) (hzc : z.cells.size = 1)
    (B : Nat) (v : Value) (n : Nat) (xs : List Value) (hs : a.eval s = v) (hown : w1.ownsRow B e 1 v n xs)
    (zs : List Value) (hx : Lv w1 (a.eval x) zs) (h1c : ∀ u ∈ zs, u.oneCell' = true) (hnm : n + zs.length ≤ 10000000) (hby : bytes ≤ 16) (hB : B ≤ w1.heap.size) (hb : Below B w0 w1)
    (h : ∀ v' w', w'.ownsRow B e 1 v' (n + zs.length) (xs ++ zs) → Below B w0 w' → wpList P ops Q rest (a.put o.dst v') w') :
    wpList P ops Q (o :: rest) a w1 := by
  rcases hx with ⟨h1, h2⟩ | ⟨b, off, c, h1, hc, hlt, hcell⟩
  · refine wpList_append_own_none hgd s x t ho B e i0 1 hu hi v n xs hs hown h1 ?_
    subst h2
    exact h _ _ (by simpa using hown) hb
  · have h16 : (n + zs.length) * bytes ≤ 10000000 * 16 := Nat.mul_le_mul hnm hby
    refine wpList_append_own w1 hgd s x t ho B e i0 z 1 bytes hu hi hz0 hz1 hz2 hzc (by decide) v n xs hs hown ⟨b, off, none⟩ zs.length c zs h1 (by simp) (fun j u hu => ?_) h1c (by unfold maxLen; omega) (by omega) hB ?_
    · have hj : j < zs.length := by
        by_cases h : j < zs.length
        · exact h
        · rw [List.getElem?_eq_none (by omega)] at hu; cases hu
      rw [Go.WideShapes.add_plain, hcell j hj, hu]
    · intro v' w' ho' hg _
      exact h v' w' ho' (hb.grown hg hB (ownNone hown))
end
def SowOut (w : World) (xs : List Value) (e : Ending) (w' : World) : Prop := ∃ v', e = .returned v' ∧ w'.ownsRow w.heap.size 81 1 v' xs.length xs ∧ Below w.heap.size w w'

set_option maxRecDepth 100000 in
set_option maxHeartbeats 1000000 in
theorem sgrow_nil (n : Nat) (h1 : 1 ≤ n) (h2 : n ≤ 50000) (w : World) :
    Calls Tryz.prog 119 #[.slice none 0 0, .int .i64 n] w fun e w' => ∃ v, e = .returned v ∧ w'.ownsRow w.heap.size 81 1 v 0 [] ∧ Below w.heap.size w w' := by
  obtain ⟨i0, hi, hz0, hz1, hz2⟩ := info_parts infoStep
  obtain ⟨G, hG⟩ : ∃ G, G = grownCap w (0 + n) 0 81 := ⟨_, rfl⟩
  have hGn : n ≤ G := by have := grownCap_ge w (0 + n) 0 81; omega
  have hG63 : G ≤ 9223372036854775807 := by
    have := grownCap_le_maxLen w (0 + n) 0 81 (by unfold maxLen; omega)
    rw [← hG] at this; unfold maxLen at this; omega
  obtain ⟨cs, hcs, hcsz⟩ : ∃ cs : Array Value, (∀ ty, (Builtin.append_ #[110, 3] ty #[.slice none 0 0, .int .i64 (n : Int)]).run Tryz.prog w = .ok (.slice (some ⟨w.heap.size, 0, none⟩) n G) (w.drew.alloc (.cells cs 81))) ∧ cs.size = G := by
    refine ⟨(([] : List Value).toArray ++ Builtin.zeroCells Value.nilFunc.cells n ++ Builtin.zeroCells Value.nilFunc.cells (grownCap w (0 + n) 0 81 - (0 + n))), fun ty => ?_, ?_⟩
    · have h := Lib.run_append_grow_zeros (P := Tryz.prog) w 110 3 ty 81 i0 .nilFunc .i64 .i64 Tryz.underlying110 Tryz.underlying3 hi hz0 none 0 0 [] (by simp [Builtin.firstCells]) n (by omega) (by omega) (by omega) (by omega)
        (by rw [hz2]; omega) (growslice_fits (by omega) (by rw [hz2]; omega))
      rw [Nat.zero_add] at h hG ⊢
      rw [hG]
      exact h
    · have hzc : ∀ k, (Builtin.zeroCells Value.nilFunc.cells k).size = k := fun k => by simp [Builtin.zeroCells, Value.cells]
      rw [Array.size_append, Array.size_append, hzc, hzc, ← hG]; simp; omega
  have HG := Lib.hid hG; have HCS := Lib.hid hcsz; clear hG hcsz
  go_enter Tryz.func119, Tryz.ntmps119
  go_wp2_with (at_builtin; refine Lib.wpList_append_run _ rfl _ _ _ _ rfl _ _ rfl rfl _ _ (hcs _) ?_)
  go_ret
  have hb : Below w.heap.size w (w.drew.alloc (.cells cs 81)) := ((Below.refl _ _).drew).alloc (Nat.le_refl _) _
  exact ⟨_, rfl, ⟨by simp, .inr ⟨w.heap.size, G, cs, rfl, Nat.le_refl _, heap_new' _ _ _ rfl, by omega, by unfold maxLen; omega, by rw [HCS.out]; omega, by simp⟩⟩, hb⟩
theorem sgrow_zero (w : World) :
    Calls Tryz.prog 119 #[.slice none 0 0, .int .i64 0] w fun e w' => ∃ v, e = .returned v ∧ w'.ownsRow w.heap.size 81 1 v 0 [] ∧ Below w.heap.size w w' := by
  go_enter Tryz.func119, Tryz.ntmps119
  go_wp2
  go_ret
  exact ⟨_, rfl, World.ownsRow_nil _ _ _ _, Below.refl _ _⟩
theorem sgrow_any (n : Nat) (h2 : n ≤ 50000) (w : World) :
    Calls Tryz.prog 119 #[.slice none 0 0, .int .i64 n] w fun e w' => ∃ v, e = .returned v ∧ w'.ownsRow w.heap.size 81 1 v 0 [] ∧ Below w.heap.size w w' := by
  rcases Nat.eq_zero_or_pos n with rfl | h
  · exact sgrow_zero w
  · exact sgrow_nil n h h2 w

def SatSz (n m : Nat) (iv sv : Value) : Prop := (iv = .int .i64 0 ∧ sv = .int .i64 0) ∨ (iv = .int .i64 1 ∧ sv = .int .i64 n) ∨ (iv = .int .i64 2 ∧ sv = .int .i64 (n + m : Nat))
def SatRow (B : Nat) (xs ys : List Value) (iv v : Value) (wr : World) : Prop :=
  (iv = .int .i64 0 ∧ wr.ownsRow B 81 1 v 0 []) ∨ (iv = .int .i64 1 ∧ wr.ownsRow B 81 1 v xs.length (xs)) ∨ (iv = .int .i64 2 ∧ wr.ownsRow B 81 1 v (xs.length + ys.length) (xs ++ ys))

set_option maxRecDepth 100000 in
set_option maxHeartbeats 2000000 in
theorem sconcat_row (g3 : Nat) (w : World) (s1 s2 : Value) (xs ys : List Value) (h1 : Lv w s1 xs) (h2 : Lv w s2 ys) (hn : xs.length ≤ 20000) (hm : ys.length ≤ 20000)
    (ho1 : ∀ u ∈ xs, u.oneCell' = true) (ho2 : ∀ u ∈ ys, u.oneCell' = true) (hx0 : w.cell? ⟨g3, 0, none⟩ = some s1) (hx1 : w.cell? ⟨g3, 1, none⟩ = some s2) :
    Calls Tryz.prog 93 #[.slice (some ⟨g3, 0, none⟩) 2 2] w (SowOut w (xs ++ ys)) := by
  obtain ⟨i0, hi, hz0, hz1, hz2⟩ := info_parts infoStep
  have hg3 : g3 < w.heap.size := block_lt_of_cell hx0
  obtain ⟨al1, c1, rfl, _⟩ := h1.shape
  obtain ⟨al2, c2, rfl, _⟩ := h2.shape
  have H1 := Lib.hid h1; have H2 := Lib.hid h2
  obtain ⟨n, hne⟩ : ∃ n, xs.length = n := ⟨_, rfl⟩
  obtain ⟨m, hme⟩ : ∃ m, ys.length = m := ⟨_, rfl⟩
  have HN := Lib.hid hne; have HM := Lib.hid hme
  rw [hne] at hx0 hn; rw [hme] at hx1 hm
  have HO1 := Lib.hid ho1; have HO2 := Lib.hid ho2
  clear h1 h2 hne hme ho1 ho2
  go_enter Tryz.func93, Tryz.ntmps93
  go_wp2
  go_loop [11, 3] (fun iv sv => SatSz n m iv sv) (fun iv _ => 2 - (intOf iv).toNat)
  case atStart => exact .inl ⟨rfl, rfl⟩
  case round =>
    rcases hrel with ⟨rfl, rfl⟩ | ⟨rfl, rfl⟩ | ⟨rfl, rfl⟩
    · go_wp2
      exact ⟨.inr (.inl ⟨rfl, rfl⟩), by decide⟩
    · go_wp2
      exact ⟨.inr (.inr ⟨rfl, by go_num⟩), by decide⟩
    · go_wp2_with (go_at_call 119; refine (sgrow_any (n + m) (by omega) _).mono ?_; rintro e w1 ⟨v, rfl, hown, hb⟩)
      go_loopw [27, 6] (fun iv v wr => SatRow w.heap.size xs ys iv v wr ∧ Below w.heap.size w wr) (fun iv _ _ => 2 - (intOf iv).toNat)
      case atStart => exact ⟨.inl ⟨rfl, hown⟩, hb⟩
      case round =>
        obtain ⟨hrow, hbr⟩ := hrel
        have hx0' := (hbr.cell (p := ⟨g3, 0, none⟩) hg3).trans hx0
        have hx1' := (hbr.cell (p := ⟨g3, 1, none⟩) hg3).trans hx1
        have HL1 := Lib.hid (H1.out.below (Nat.le_refl _) hbr)
        have HL2 := Lib.hid (H2.out.below (Nat.le_refl _) hbr)
        rw [HN.out] at HL1
        rw [HM.out] at HL2
        clear hown hb hx0 hx1
        rcases hrow with ⟨rfl, hown⟩ | ⟨rfl, hown⟩ | ⟨rfl, hown⟩
        · have ho1 := HO1.out; have ho2 := HO2.out
          go_wp2_with (at_builtin; refine wpList_append_lv (w0 := w) rfl _ _ 110 81 rfl Tryz.underlying110 hi hz0 hz1 hz2 rfl w.heap.size _ _ _ rfl hown xs HL1.out ho1 (by rw [HN.out]; omega) (by decide) hbr.size hbr ?_; intro v' w2 hown' hb2)
          exact ⟨⟨.inr (.inl ⟨rfl, by simpa using hown'⟩), hb2⟩, by decide⟩
        · have ho1 := HO1.out; have ho2 := HO2.out
          go_wp2_with (at_builtin; refine wpList_append_lv (w0 := w) rfl _ _ 110 81 rfl Tryz.underlying110 hi hz0 hz1 hz2 rfl w.heap.size _ _ _ rfl hown ys HL2.out ho2 (by rw [HN.out, HM.out]; omega) (by decide) hbr.size hbr ?_; intro v' w2 hown' hb2)
          exact ⟨⟨.inr (.inr ⟨rfl, by simpa using hown'⟩), hb2⟩, by decide⟩
        · go_wp2
          go_ret
          exact ⟨_, rfl, by simpa using hown, hbr⟩
end Go.Proofs.YtcjcafekacceiaaGreatDoor
