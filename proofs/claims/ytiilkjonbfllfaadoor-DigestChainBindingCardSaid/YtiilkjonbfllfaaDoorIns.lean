/- slices.Insert of one span at the head, walked. -/
import Derived.Test.YtiilkjonbfllfaaDoorVexW
import Derived.Lib.Overlaps
import Derived.Lib.AppendZerosOnto
import Derived.Laws.CopyRow
import Derived.Deep.RegionLaw
namespace Go.Proofs.YtiilkjonbfllfaaDoor
open Go.RowKit

theorem run_copy_row2 {P : Program} (w : World) (dT sT ty elem : TypeId) (g o dLen dCap : Nat) (a : Addr) (sLen sCap : Nat) (cur : Array Value) (t : TypeId) (cs : List Value)
    (hu : P.underlying dT = some (.slice elem)) (hs : (P.info? elem).map (·.size) = some 2)
    (hg : w.heap[g]? = some (.cells cur t (0, 0))) (q : Nat) (hq : min sLen dLen = q) (hn : cs.length = q * 2)
    (hsrc : ∀ j v, cs[j]? = some v → w.cell? (a.add j) = some v) (hfit : o + cs.length ≤ cur.size) (h1 : ∀ v ∈ cs, v.oneCell' = true) :
    (Builtin.copy_ #[dT, sT] ty #[.slice (some ⟨g, o, none⟩) dLen dCap, .slice (some a) sLen sCap]).run P w =
      .ok (goInt q) (w.setRow g (cur.toList.take o ++ cs ++ cur.toList.drop (o + cs.length)).toArray) := by
  have hl := run_loadCells_list (P := P) w a cs hsrc
  have hst := run_storeCells_at P g o t cs 0 cur w hg (by simpa using hfit) h1
  simp only [Nat.add_zero] at hst
  rw [hn] at hl
  have hq' : Nat.min sLen dLen = q := hq
  cases hi : P.info? elem with
  | none => simp [hi] at hs
  | some i =>
    have hi2 : i.size = 2 := by simpa [hi] using hs
    simp [Builtin.copy_, run_underlying hu, Builtin.lenOf, Builtin.firstCells, sizeOf, typeInfo, hi, hi2, hq, hl, hst]

theorem step_copy_eq {P : Program} {ops : Array Oper} {o : Oper} {a : Act} {w : World} {K : Act → World → Prop} {Q : Exit → Act → World → Prop} {E : Prop}
    (hg : o.guard = none) (d x : Operand) (dT sT : TypeId) (hop : o.op = Op.call { callee := Callee.builtin Builtin.copy, args := #[d, x], argTypes := #[dT, sT] })
    (v u : Value) (hd : a.eval d = v) (hx : a.eval x = u) {v' : Value} {w' : World} (hr : (Builtin.copy_ #[dT, sT] o.type #[v, u]).run P w = .ok v' w') (hK : K (a.put o.dst v') w') :
    if Region.wanted o (yielded ops a.tmps) = true then Oper.wp P o a w K Q else E := by
  have hw : Region.wanted o (yielded ops a.tmps) = true := by simp [Region.wanted, hg]
  rw [if_pos hw]
  unfold Oper.wp
  simp [execOp, hop, resolve, invoke, builtin, hd, hx, hr, Result.andThen]
  exact hK
theorem wpList_copy_eq {P : Program} (w : World) {ops : Array Oper} {rest : List Oper} {o : Oper} {a : Act} {Q : Exit → Act → World → Prop} (hgd : o.guard = none) (d s : Operand) (t t' : TypeId)
    (ho : o.op = .call { callee := .builtin .copy, args := #[d, s], argTypes := #[t, t'] }) (v u : Value) (hd : a.eval d = v) (hs : a.eval s = u) {v' : Value} {w' : World}
    (hr : (Builtin.copy_ #[t, t'] o.type #[v, u]).run P w = .ok v' w') (h : wpList P ops Q rest (a.put o.dst v') w') : wpList P ops Q (o :: rest) a w :=
  wpList_plain hgd fun K hK => by
    unfold Oper.wp execOp
    simp only [ho, resolve, invoke, builtin, Sem.run_bind, Sem.run_pure, Result.andThen_ok, List.map_toArray, List.map_cons, List.map_nil, hd, hs, hr]
    exact hK _ _ h
theorem sprow_src {w : World} {g c : Nat} {xs : List Sp} (h : SpRow w g c xs) (j : Nat) (v : Value) (hj : (spc xs)[j]? = some v) : w.cell? ((⟨g, 0, none⟩ : Addr).add j) = some v := by
  have hl : j < xs.length * 2 := by rw [← spc_length]; exact (List.getElem?_eq_some_iff.1 hj).1
  have hk : j / 2 < xs.length := by omega
  obtain ⟨p, hp⟩ : ∃ p, xs[j / 2]? = some p := ⟨_, List.getElem?_eq_getElem hk⟩
  obtain ⟨c1, c2⟩ := h.cells hp
  obtain ⟨s1, s2⟩ := spc_at xs _ p hp
  rw [Go.WideShapes.add_plain, Nat.zero_add]
  rcases Nat.mod_two_eq_zero_or_one j with hm | hm
  · have e : j / 2 * 2 = j := by omega
    rw [e] at c1 s1
    rw [c1, ← s1, hj]
  · have e : j / 2 * 2 + 1 = j := by omega
    rw [e] at c2 s2
    rw [c2, ← s2, hj]
theorem sprow_list {w : World} {g c : Nat} {ys : List Sp} {rest : List Value} (h : w.heap[g]? = some (.cells (spc ys ++ rest).toArray 57 (0, 0))) (hl : (spc ys ++ rest).length = c * 2) : SpRow w g c ys := by
  refine ⟨_, h, by simpa using hl, ?_, fun k p hk => ?_⟩
  · rw [List.length_append, spc_length] at hl; omega
  · obtain ⟨s1, s2⟩ := spc_at ys k p hk
    have l1 := (List.getElem?_eq_some_iff.1 s1).1
    have l2 := (List.getElem?_eq_some_iff.1 s2).1
    rw [List.getElem?_toArray, List.getElem?_toArray, List.getElem?_append_left l1, List.getElem?_append_left l2]
    exact ⟨s1, s2⟩
theorem own_of_sprow {w : World} {base g c : Nat} {xs : List Sp} (h : SpRow w g c xs) (hb : base ≤ g) (hc : c ≤ maxLen) : w.ownsRow base 57 2 (.slice (some ⟨g, 0, none⟩) xs.length c) xs.length (spc xs) := by
  have hsrc := sprow_src h
  obtain ⟨cur, hg, hz, hl, _⟩ := h
  refine ⟨spc_length xs, .inr ⟨g, c, cur, rfl, hb, hg, hl, hc, hz, ?_⟩⟩
  apply List.ext_getElem?
  intro j
  rw [List.getElem?_take]
  by_cases hj : j < xs.length * 2
  · rw [if_pos hj]
    obtain ⟨u, hu⟩ : ∃ u, (spc xs)[j]? = some u := ⟨_, List.getElem?_eq_getElem (by rw [spc_length]; exact hj)⟩
    have := hsrc j u hu
    rw [Go.WideShapes.add_plain, Nat.zero_add, cell_of_row _ _ _ _ _ _ hg] at this
    rw [Array.getElem?_toList, this, hu]
  · rw [if_neg hj, List.getElem?_eq_none (by rw [spc_length]; omega)]

def InsOut (w : World) (B : Nat) (ys : List Sp) (e : Ending) (w' : World) : Prop := ∃ v', e = .returned v' ∧ SpHeld w' B v' ys ∧ Below B w w'

set_option maxRecDepth 100000 in
set_option maxHeartbeats 2000000 in
/-- Nothing there yet: appended. -/
theorem insert_empty (B : Nat) (v : Value) (c : Nat) (al : Option Addr) (hv : v = .slice al 0 c) (p : Sp) (vb : Nat) (w : World) (hown : w.ownsRow B 57 2 v 0 []) (hB : B ≤ w.heap.size)
    (hvb : w.heap[vb]? = some (.cells #[i64V p.1, i64V p.2] 57 (0, 0))) :
    Calls Tryd.prog 47 #[v, .int .i64 0, .slice (some ⟨vb, 0, none⟩) 1 1] w (InsOut w B [p]) := by
  obtain ⟨i0, hi0, hz0, hz1, hz2⟩ := info_parts info57
  subst hv
  have hcut : ∃ al2, ∀ w, (Instr.slice 54 (.slice al 0 c) (some (.int .i64 0)) none none).run Tryd.prog w = .ok (.slice al2 0 c) w := by
    cases hq : Tryd.prog.info? 57 with
    | none => rw [hi0] at hq; cases hq
    | some i =>
      refine ⟨if c = 0 then al else al.map (·.add (0 * i.size)), fun w => ?_⟩
      simp [Instr.slice, Instr.sliceBounds, Instr.sliceBound, asIntOf, run_underlying Tryd.underlying54, sizeOf, typeInfo, hq, go_sem]
  obtain ⟨al2, hcut⟩ := hcut
  have HN := Lib.hid (fun j u (hj : [i64V p.1, i64V p.2][j]? = some u) => show w.cell? ((⟨vb, 0, none⟩ : Addr).add j) = some u by
    rw [Go.WideShapes.add_plain, Nat.zero_add, cell_of_row _ _ _ _ _ _ hvb]
    simpa using hj)
  clear hvb
  go_enter Tryd.func47, Tryd.ntmps47
  go_wp2_with (at_builtin; refine wpList_append_own _ rfl _ _ 54 rfl B 57 i0 _ 2 16 Tryd.underlying54 hi0 hz0 hz1 hz2 rfl (by decide) _ _ _ rfl hown ⟨vb, 0, none⟩ 1 1 [i64V p.1, i64V p.2] rfl rfl HN.out (by simp [Value.oneCell']) (by unfold maxLen; omega) (by omega) hB ?_; intro v' w1 hown' hgrow _)
  go_ret
  have hown2 : w1.ownsRow B 57 2 v' 1 (spc [p]) := hown'
  rcases hown2.2 with ⟨_, h'⟩ | ⟨g', cap', cur, h', _⟩
  · cases h'
  · rw [h'] at hown2
    obtain ⟨r1, r2, r3⟩ := sprow_of_own hown2 rfl
    exact ⟨v', rfl, .inr ⟨g', cap', h', r2, r1, r3⟩, (Below.refl _ _).grown hgrow hB (own_lt hown)⟩

theorem spc_cons (p : Sp) (xs : List Sp) : spc (p :: xs) = [i64V p.1, i64V p.2] ++ spc xs := rfl
theorem one_cells (xs : List Sp) : ∀ v ∈ spc xs, v.oneCell' = true := by
  intro v hv
  simp only [spc, List.mem_flatMap] at hv
  obtain ⟨p, _, hp⟩ := hv
  rcases List.mem_cons.1 hp with rfl | hp
  · rfl
  · obtain rfl := List.mem_singleton.1 hp; rfl
theorem pair_src {w : World} {vb : Nat} {u v : Value} (h : w.heap[vb]? = some (.cells #[u, v] 57 (0, 0))) : ∀ j x, [u, v][j]? = some x → w.cell? ((⟨vb, 0, none⟩ : Addr).add j) = some x := by
  intro j x hj
  rw [Go.WideShapes.add_plain, Nat.zero_add, cell_of_row _ _ _ _ _ _ h]
  simpa using hj
theorem info57s : (Tryd.prog.info? 57).map (·.size) = some 2 := by kernel_rfl

set_option maxRecDepth 100000 in
set_option maxHeartbeats 4000000 in
/-- There is room: in place. -/
theorem insert_room (B g n c : Nat) (xs : List Sp) (hn : xs.length = n) (h1 : 1 ≤ n) (h2 : n ≤ 1000) (hc : n + 1 ≤ c) (hcm : c ≤ maxLen) (hgB : B ≤ g) (p : Sp) (vb : Nat) (hne : vb ≠ g) (w : World) (hr : SpRow w g c xs)
    (hvb : w.heap[vb]? = some (.cells #[i64V p.1, i64V p.2] 57 (0, 0))) :
    Calls Tryd.prog 47 #[.slice (some ⟨g, 0, none⟩) n c, .int .i64 0, .slice (some ⟨vb, 0, none⟩) 1 1] w (InsOut w B (p :: xs)) := by
  obtain ⟨cur, hg, hz, hl, hcs⟩ := hr
  have hr : SpRow w g c xs := ⟨cur, hg, hz, hl, hcs⟩
  have hcz : cur.toList.length = c * 2 := by simpa using hz
  unfold maxLen at hcm
  have f1 := run_cut_from (P := Tryd.prog) 54 57 2 Tryd.underlying54 info57s g 0 n c 0 (by omega) (by omega)
  have f2 := run_cut_to (P := Tryd.prog) 54 57 2 Tryd.underlying54 info57s (some ⟨g, 0, none⟩) n c (n + 1) hc
  have f3 := run_cut_from (P := Tryd.prog) 54 57 2 Tryd.underlying54 info57s g 0 (n + 1) c 1 (by omega) (by omega)
  have f4 := run_cut_from (P := Tryd.prog) 54 57 2 Tryd.underlying54 info57s g 0 (n + 1) c 0 (by omega) (by omega)
  rw [show ((0 : Nat) : Int) = 0 from rfl, Nat.zero_mul, Nat.sub_zero, Nat.sub_zero] at f1 f4
  rw [show ((1 : Nat) : Int) = 1 from rfl, Nat.add_sub_cancel] at f3
  rw [show ((n + 1 : Nat) : Int) = (n : Int) + 1 by omega] at f2
  have hov : ∀ lb cb, (callFunc 65 #[.slice (some ⟨vb, 0, none⟩) 1 1, .slice (some ⟨g, 0 + 1 * 2, none⟩) lb cb]).run Tryd.prog w = .ok (.value (.bool false)) w := fun lb cb => by
    rw [run_callFunc_extern Tryd.func65 (by kernel_rfl) (by kernel_rfl) (by kernel_rfl) (e := Extern.SlicesOverlaps.overlaps #[54, 54] #[4]) (by kernel_rfl),
      Lib.run_overlaps_apart w 54 4 57 Tryd.underlying54 2 Tryd.sizeOf57 ⟨vb, 0, none⟩ ⟨g, 0 + 1 * 2, none⟩ 1 1 lb cb hne 57 57 2 cur.size
        (by simp [World.shape?, hvb]) (by simp [World.shape?, hg]) (by omega) (frozen_of_row _ _ 0 _ _ hvb) (frozen_of_row _ _ 2 _ _ hvb)]
    rfl
  have hcp1 := fun ty => run_copy_row2 (P := Tryd.prog) w.drew 54 54 ty 57 g 2 n (c - 1) ⟨g, 0, none⟩ (n + 1) c cur 57 (spc xs) Tryd.underlying54 info57s hg n (by omega) (by rw [spc_length, hn])
    (fun j v hj => sprow_src (w := w) hr j v hj) (by rw [spc_length, hn]; omega) (one_cells xs)
  obtain ⟨A, hA⟩ : ∃ A : Array Value, (cur.toList.take 2 ++ spc xs ++ cur.toList.drop (2 + (spc xs).length)).toArray = A := ⟨_, rfl⟩
  rw [hA] at hcp1
  have hAl : A.toList = cur.toList.take 2 ++ spc xs ++ cur.toList.drop (2 + n * 2) := by rw [← hA, spc_length, hn]
  have hAz : A.size = c * 2 := by
    rw [← Array.length_toList, hAl]; simp [spc_length]; omega
  have hg2 : (w.drew.setRow g A).heap[g]? = some (.cells A 57 (0, 0)) := setRow_heap _ _ _ _ _ _ hg
  have hvb2 : (w.drew.setRow g A).heap[vb]? = some (.cells #[i64V p.1, i64V p.2] 57 (0, 0)) := (setRow_other _ _ _ _ hne).trans hvb
  have hcp2 := fun ty => run_copy_row2 (P := Tryd.prog) (w.drew.setRow g A) 54 54 ty 57 g 0 (n + 1) c ⟨vb, 0, none⟩ 1 1 A 57 [i64V p.1, i64V p.2] Tryd.underlying54 info57s hg2 1 (by omega) rfl
    (pair_src hvb2) (by simp; omega) (by simp [Value.oneCell'])
  obtain ⟨A2, hA2⟩ : ∃ A2 : Array Value, (A.toList.take 0 ++ [i64V p.1, i64V p.2] ++ A.toList.drop (0 + [i64V p.1, i64V p.2].length)).toArray = A2 := ⟨_, rfl⟩
  rw [hA2] at hcp2
  have hfin : SpRow ((w.drew.setRow g A).setRow g A2) g c (p :: xs) := by
    refine sprow_list (rest := cur.toList.drop (2 + n * 2)) ?_ ?_
    · rw [setRow_heap _ _ _ _ _ _ hg2, ← hA2, hAl, spc_cons]
      have hc2 : (cur.toList.take 2).length = 2 := by simp; omega
      congr 2
      simp only [List.take_zero, List.nil_append, Nat.zero_add, List.length_cons, List.length_nil]
      rw [List.append_assoc, List.drop_left' hc2]; simp
    · simp only [List.length_append, spc_length, List.length_cons, List.length_drop, hcz]; omega
  have hbf : Below B w ((w.drew.setRow g A).setRow g A2) := below_setRow (below_setRow ((Below.refl B w).drew) hgB _) hgB _
  have HF := Lib.hid hfin; have HCP1 := Lib.hid hcp1; have HCP2 := Lib.hid hcp2
  clear hfin hcp1 hcp2 hg2 hvb2 hA2 hA hAl hAz hr hcs hg hvb hz
  have hw1 : IntKind.i64.wrap 1 = 1 := by decide
  have hn0 : ((0 : Int) == n) = false := by rw [beq_eq_false_iff_ne]; omega
  have hnc : (n : Int) + 1 ≤ c := by omega
  go_enter Tryd.func47, Tryd.ntmps47
  go_wp2_with (simp only [hov])
  go_region_law (refine step_copy_eq rfl _ _ 54 54 rfl _ _ (by simp [Act.eval, Act.put]) (by simp [Act.eval, Act.put]) (HCP1.out _) ?_)
  go_wp2_with (with_reducible refine wpList_copy_eq _ rfl (.tmp 80) (.tmp 81) 54 54 rfl _ _ rfl rfl (HCP2.out _) ?_)
  go_ret
  exact ⟨_, rfl, .inr ⟨g, c, by rw [List.length_cons, hn]; rfl, hgB, HF.out, by unfold maxLen; omega⟩, hbf⟩

set_option maxRecDepth 100000 in
set_option maxHeartbeats 4000000 in
/-- There is no room: a new row. -/
theorem insert_grow (B g n c : Nat) (xs : List Sp) (hn : xs.length = n) (h1 : 1 ≤ n) (h2 : n ≤ 1000) (hc : c < n + 1) (p : Sp) (vb : Nat) (w : World) (hB : B ≤ w.heap.size) (hr : SpRow w g c xs)
    (hvb : w.heap[vb]? = some (.cells #[i64V p.1, i64V p.2] 57 (0, 0))) :
    Calls Tryd.prog 47 #[.slice (some ⟨g, 0, none⟩) n c, .int .i64 0, .slice (some ⟨vb, 0, none⟩) 1 1] w (InsOut w B (p :: xs)) := by
  obtain ⟨i0, hi0, hz0, hz1, hz2⟩ := info_parts info57
  have hnc : n ≤ c := by obtain ⟨_, _, _, hl, _⟩ := hr; omega
  have hgl : g < w.heap.size := by obtain ⟨_, hg, _⟩ := hr; exact (Array.getElem?_eq_some_iff.1 hg).1
  have hvl : vb < w.heap.size := (Array.getElem?_eq_some_iff.1 hvb).1
  obtain ⟨G, hG⟩ : ∃ G, G = grownCap w (0 + (n + 1)) c 57 := ⟨_, rfl⟩
  have hGn : n + 1 ≤ G := by have := grownCap_ge w (0 + (n + 1)) c 57; omega
  have hGm : G ≤ maxLen := by rw [hG]; exact grownCap_le_maxLen w (0 + (n + 1)) c 57 (by unfold maxLen; omega)
  obtain ⟨zs, hzs, hzl⟩ : ∃ zs : Array Value, (∀ ty, (Builtin.append_ #[54, 3] ty #[.slice (some ⟨g, 0, none⟩) 0 c, .int .i64 ((n : Int) + 1)]).run Tryd.prog w = .ok (.slice (some ⟨w.heap.size, 0, none⟩) (n + 1) G) (w.drew.alloc (.cells zs 57))) ∧ zs.size = G * 2 := by
    refine ⟨(([] : List Value).toArray ++ Builtin.zeroCells (Value.agg #[.int .i64 0, .int .i64 0]).cells (n + 1) ++ Builtin.zeroCells (Value.agg #[.int .i64 0, .int .i64 0]).cells (grownCap w (0 + (n + 1)) c 57 - (0 + (n + 1)))), fun ty => ?_, ?_⟩
    · have h := Lib.run_append_grow_zeros (P := Tryd.prog) w 54 3 ty 57 i0 (.agg #[.int .i64 0, .int .i64 0]) .i64 .i64 Tryd.underlying54 Tryd.underlying3 hi0 hz0 (some ⟨g, 0, none⟩) 0 c [] (by simp [Builtin.firstCells, go_sem]) (n + 1) (by omega) (by omega) (by omega) (by omega)
        (by rw [hz2]; omega) (growslice_fits (by omega) (by rw [hz2]; omega))
      rw [Nat.zero_add] at h hG ⊢
      rw [hG]
      exact h
    · have hzc : ∀ k, (Builtin.zeroCells (Value.agg #[.int .i64 0, .int .i64 0]).cells k).size = k * 2 := fun k => by simp [Builtin.zeroCells, Value.cells]
      rw [Array.size_append, Array.size_append, hzc, hzc, ← hG]; simp; omega
  unfold maxLen at hGm
  obtain ⟨w1, hw1⟩ : ∃ w1, w.drew.alloc (.cells zs 57) = w1 := ⟨_, rfl⟩
  have hg1 : w1.heap[w.heap.size]? = some (.cells zs 57 (0, 0)) := by rw [← hw1]; exact heap_new' _ _ _ rfl
  have hb1 : Below w.heap.size w w1 := by rw [← hw1]; exact ((Below.refl _ _).drew).alloc (Nat.le_refl _) _
  have hr1 : SpRow w1 g c xs := hr.below hb1
  have hvb1 : w1.heap[vb]? = some (.cells #[i64V p.1, i64V p.2] 57 (0, 0)) := (hb1.block _ hvl).trans hvb
  have hzl2 : zs.toList.length = G * 2 := by simpa using hzl
  have f1 := run_cut_from (P := Tryd.prog) 54 57 2 Tryd.underlying54 info57s g 0 n c 0 (by omega) (by omega)
  have f2 := run_cut_to (P := Tryd.prog) 54 57 2 Tryd.underlying54 info57s (some ⟨g, 0, none⟩) n c 0 (by omega)
  have f3 := run_cut_from (P := Tryd.prog) 54 57 2 Tryd.underlying54 info57s w.heap.size 0 (n + 1) G 0 (by omega) (by omega)
  have f4 := run_cut_from (P := Tryd.prog) 54 57 2 Tryd.underlying54 info57s w.heap.size 0 (n + 1) G 1 (by omega) (by omega)
  rw [show ((0 : Nat) : Int) = 0 from rfl, Nat.zero_mul, Nat.sub_zero, Nat.sub_zero] at f1 f3
  rw [show ((0 : Nat) : Int) = 0 from rfl] at f2
  rw [show ((1 : Nat) : Int) = 1 from rfl, Nat.add_sub_cancel] at f4
  have hcp1 := fun ty => run_copy_row2 (P := Tryd.prog) w1 54 54 ty 57 w.heap.size 0 (n + 1) G ⟨vb, 0, none⟩ 1 1 zs 57 [i64V p.1, i64V p.2] Tryd.underlying54 info57s hg1 1 (by omega) rfl
    (pair_src hvb1) (by simp; omega) (by simp [Value.oneCell'])
  obtain ⟨A, hA⟩ : ∃ A : Array Value, (zs.toList.take 0 ++ [i64V p.1, i64V p.2] ++ zs.toList.drop (0 + [i64V p.1, i64V p.2].length)).toArray = A := ⟨_, rfl⟩
  rw [hA] at hcp1
  have hAl : A.toList = [i64V p.1, i64V p.2] ++ zs.toList.drop 2 := by rw [← hA]; simp
  have hAz : A.size = G * 2 := by
    rw [← Array.length_toList, hAl]; simp; omega
  have hg2 : (w1.setRow w.heap.size A).drew.heap[w.heap.size]? = some (.cells A 57 (0, 0)) := setRow_heap _ _ _ _ _ _ hg1
  have hb2 : Below w.heap.size w1 (w1.setRow w.heap.size A).drew := (below_setRow (Below.refl _ _) (Nat.le_refl _) _).drew
  have hr2 : SpRow (w1.setRow w.heap.size A).drew g c xs := by
    obtain ⟨cur, q1, q2⟩ := hr1
    exact ⟨cur, (hb2.block _ hgl).trans q1, q2⟩
  have hcp2 := fun ty => run_copy_row2 (P := Tryd.prog) (w1.setRow w.heap.size A).drew 54 54 ty 57 w.heap.size 2 n (G - 1) ⟨g, 0, none⟩ n c A 57 (spc xs) Tryd.underlying54 info57s hg2 n (Nat.min_self n) (by rw [spc_length, hn])
    (fun j v hj => sprow_src hr2 j v hj) (by rw [spc_length, hn]; omega) (one_cells xs)
  obtain ⟨A2, hA2⟩ : ∃ A2 : Array Value, (A.toList.take 2 ++ spc xs ++ A.toList.drop (2 + (spc xs).length)).toArray = A2 := ⟨_, rfl⟩
  rw [hA2] at hcp2
  have hfin : SpRow ((w1.setRow w.heap.size A).drew.setRow w.heap.size A2) w.heap.size G (p :: xs) := by
    refine sprow_list (rest := A.toList.drop (2 + n * 2)) ?_ ?_
    · rw [setRow_heap _ _ _ _ _ _ hg2, ← hA2, spc_length, hn, spc_cons, hAl]
      simp
    · have hAz2 : A.toList.length = G * 2 := by simpa using hAz
      simp only [List.length_append, spc_length, List.length_cons, List.length_drop, hAz2]; omega
  have hbf : Below B w ((w1.setRow w.heap.size A).drew.setRow w.heap.size A2) := (hb1.mono hB).trans ((hb2.mono hB).trans (below_setRow (Below.refl _ _) hB _))
  have HF := Lib.hid hfin; have HCP1 := Lib.hid hcp1; have HCP2 := Lib.hid hcp2; have HW1 := Lib.hid hw1; have HZ := Lib.hid hzs
  clear hfin hcp1 hcp2 hg2 hA2 hA hAl hAz hr hr1 hr2 hvb hvb1 hw1 hzs hg1 hG hzl hzl2
  have hwr : IntKind.i64.wrap 1 = 1 := by decide
  have hn0 : ((0 : Int) == n) = false := by rw [beq_eq_false_iff_ne]; omega
  have hnc : (c : Int) < (n : Int) + 1 := by omega
  go_enter Tryd.func47, Tryd.ntmps47
  go_wp2_with (first | (at_builtin; refine Lib.wpList_append_run _ rfl _ _ _ _ rfl _ _ rfl rfl _ _ (HZ.out _) ?_; rw [HW1.out]) | (with_reducible refine wpList_copy_eq _ rfl (.tmp 43) (.tmp 44) 54 54 rfl _ _ rfl rfl (HCP1.out _) ?_))
  go_region_law (refine step_copy_eq rfl _ _ 54 54 rfl _ _ (by simp [Act.eval, Act.put]) (by simp [Act.eval, Act.put]) (HCP2.out _) ?_)
  go_wp2_with fail
  go_ret
  exact ⟨_, rfl, .inr ⟨w.heap.size, G, by rw [List.length_cons, hn]; rfl, hB, HF.out, by unfold maxLen; omega⟩, hbf⟩

/-- One span at the head, whatever the row. -/
theorem insert_any (B : Nat) (v : Value) (xs : List Sp) (p : Sp) (vb : Nat) (w : World) (hv : SpHeld w B v xs) (hl : xs.length ≤ 1000) (hB : B ≤ w.heap.size) (hne : v.ownBlock ≠ some vb)
    (hvb : w.heap[vb]? = some (.cells #[i64V p.1, i64V p.2] 57 (0, 0))) :
    Calls Tryd.prog 47 #[v, .int .i64 0, .slice (some ⟨vb, 0, none⟩) 1 1] w (InsOut w B (p :: xs)) := by
  rcases hv with ⟨rfl, rfl⟩ | ⟨g, c, rfl, hg, hr, hc⟩
  · exact insert_empty B (.slice none 0 0) 0 none rfl p vb w (World.ownsRow_nil _ _ _ _) hB hvb
  · rcases Nat.eq_zero_or_pos xs.length with h0 | h0
    · obtain rfl : xs = [] := List.length_eq_zero_iff.1 h0
      exact insert_empty B _ c (some ⟨g, 0, none⟩) rfl p vb w (own_of_sprow hr hg hc) hB hvb
    · have hne' : vb ≠ g := fun e => hne (by rw [e]; rfl)
      by_cases hroom : xs.length + 1 ≤ c
      · exact insert_room B g xs.length c xs rfl h0 hl hroom hc hg p vb hne' w hr hvb
      · exact insert_grow B g xs.length c xs rfl h0 hl (by omega) p vb w hB hr hvb
end Go.Proofs.YtiilkjonbfllfaaDoor
