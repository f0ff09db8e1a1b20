/- A cell put in at k: append(out[:k:k], append([]Cell{c}, out[k:]...)...), as two runs. -/
import Derived.Test.YtdomgielpofbhaaRl
namespace Go.Proofs.Ytdomgielpofbhaa
open Go.RowKit Go.Shelf Go.Maps
set_option linter.unusedSimpArgs false
set_option linter.unusedVariables false
/-- append([]Cell{c}, l...): the one-cell slice is the call's own. -/
theorem run_lit_app (w : World) (base : Nat) (ty : TypeId) (E : Nat) (c : Cel) (hE : BX w E #[iV c.1.1, iV c.1.2] 38) (hb : base ≤ E) (A : Option Addr) (m cp : Nat) (l : List Cel) (hm : m = l.length)
    (hs : (A = none ∧ l = []) ∨ ∃ a, A = some a ∧ ∀ j u, (cvs l)[j]? = some u → w.cell? (a.add j) = some u) (hl : l.length ≤ 2000) :
    ∃ v' w', (Builtin.append_ #[41, 41] ty #[.slice (some ⟨E, 0, none⟩) 1 1, .slice A m cp]).run Try.prog w = .ok v' w' ∧ w'.ownsRow base 38 2 v' (c :: l).length (cvs (c :: l)) ∧ w.grownBy w' (some E) := by
  subst hm
  obtain ⟨i0, hi, hz0, hz1, hz2⟩ := info_parts' infoCell
  have ht := Try.underlying41
  have hown : w.ownsRow base 38 2 (.slice (some ⟨E, 0, none⟩) 1 1) 1 (cvs [c]) := ⟨rfl, .inr ⟨E, 1, #[iV c.1.1, iV c.1.2], rfl, hb, hE, by omega, by decide, rfl, rfl⟩⟩
  have hsz : base ≤ w.heap.size := by have := BX.lt hE; omega
  rcases hs with ⟨rfl, rfl⟩ | ⟨a, rfl, h⟩
  · refine ⟨_, w, ?_, hown, World.grownBy.refl w _⟩
    simp [Builtin.append_, run_underlying ht, sizeOf, typeInfo, hi, Builtin.lenOf, Builtin.firstCells, storeCells]
  · obtain ⟨v', w', h1, h2, h3, _, h5⟩ := run_append_own_at (P := Try.prog) w base 41 ty 38 i0 (.agg #[.int .i64 0, .int .i64 0]) 2 16 ht hi hz0 hz1 hz2 rfl (by decide) _ 1 (cvs [c]) hown a l.length cp (cvs l) (cvs_len l) h (cvs_one l)
      (by simp only [maxLen]; omega) (by omega) hsz
    refine ⟨v', w', h1, ?_, h3⟩
    rw [show (c :: l).length = 1 + l.length by simp; omega]
    exact h2
set_option maxRecDepth 100000 in
/-- append(out[:k:k], v...): no room, so a block of its own. -/
theorem run_cut_app (w : World) (base : Nat) (ty : TypeId) (A : Option Addr) (k : Nat) (l0 l1 : List Cel) (hk : l0.length = k)
    (hs : (A = none ∧ k = 0) ∨ ∃ a, A = some a ∧ ∀ j u, (cvs l0)[j]? = some u → w.cell? (a.add j) = some u) (v : Value) (hown : w.ownsRow base 38 2 v l1.length (cvs l1)) (h1 : 0 < l1.length)
    (hb : base ≤ w.heap.size) (hl : l0.length ≤ 2000) (hl1 : l1.length ≤ 2000) :
    ∃ v' w', (Builtin.append_ #[41, 41] ty #[.slice A k k, v]).run Try.prog w = .ok v' w' ∧ w'.ownsRow base 38 2 v' (l0 ++ l1).length (cvs (l0 ++ l1)) ∧ w.grownBy w' none := by
  subst hk
  obtain ⟨i0, hi, hz0, hz1, hz2⟩ := info_parts' infoCell
  have ht := Try.underlying41
  obtain ⟨g, cap, rfl, hg, hlt⟩ := hown.form h1
  have hc := hown.cells (g := g) rfl
  have own : ∀ (old n : Nat) (xs : List Value), xs.length = n * 2 → n ≤ 4000 →
      (w.drew.alloc (.cells (xs.toArray ++ Builtin.zeroCells (Value.agg #[.int .i64 0, .int .i64 0]).cells (grownCap w n old 38 - n)) 38)).ownsRow base 38 2
        (.slice (some ⟨w.heap.size, 0, none⟩) n (grownCap w n old 38)) n xs ∧
      w.grownBy (w.drew.alloc (.cells (xs.toArray ++ Builtin.zeroCells (Value.agg #[.int .i64 0, .int .i64 0]).cells (grownCap w n old 38 - n)) 38)) none := by
    intro old n xs hx hn
    have hge := grownCap_ge w n old 38
    have hcm := grownCap_le_maxLen w n old 38 (by simp only [maxLen]; omega)
    refine ⟨⟨hx, .inr ⟨w.heap.size, _, _, rfl, hb, heap_new' w.drew _ _ rfl, hge, hcm, ?_, ?_⟩⟩, ⟨rfl, rfl, rfl, by simp, fun q hq _ => heap_old' w.drew _ q hq⟩⟩
    · have e : (Builtin.zeroCells (Value.agg #[.int .i64 0, .int .i64 0]).cells (grownCap w n old 38 - n)).size = (grownCap w n old 38 - n) * 2 := size_zeroCells _ _
      rw [Array.size_append, e, List.size_toArray, hx]
      generalize grownCap w n old 38 = G at hge
      omega
    · rw [Array.toList_append, ← hx]
      exact List.take_left
  rcases hs with ⟨rfl, h0⟩ | ⟨a, rfl, h⟩
  · obtain rfl := List.eq_nil_of_length_eq_zero h0
    have hr := run_append_nil (P := Try.prog) w 41 ty 38 i0 _ ht hi hz0 ⟨g, 0, none⟩ l1.length cap (cvs l1) (by rw [hz1]; exact cvs_len l1) hc h1 (by omega) (by rw [hz2]; omega)
    have ho := own 0 l1.length (cvs l1) (cvs_len l1) (by omega)
    exact ⟨_, _, hr, ho.1, ho.2⟩
  · have hr := run_append_grow (P := Try.prog) w 41 ty 38 i0 _ ht hi hz0 a l0.length l0.length (cvs l0) (by rw [hz1]; exact cvs_len l0) h ⟨g, 0, none⟩ l1.length cap (cvs l1) (by rw [hz1]; exact cvs_len l1) hc (by omega) (by omega) (growslice_fits (by omega) (by rw [hz2]; omega))
    have ho := own l0.length (l0.length + l1.length) (cvs l0 ++ cvs l1) (by rw [List.length_append, cvs_len, cvs_len]; omega) (by omega)
    refine ⟨_, _, hr, ?_, ?_⟩
    · rw [List.length_append, cvs_app]
      have h2 := ho.1
      rwa [show (cvs l0 ++ cvs l1).toArray = (cvs l0).toArray ++ (cvs l1).toArray from by simp] at h2
    · have h2 := ho.2
      rwa [show (cvs l0 ++ cvs l1).toArray = (cvs l0).toArray ++ (cvs l1).toArray from by simp] at h2
theorem add0 (b j : Nat) : (⟨b, 0, none⟩ : Addr).add j = ⟨b, j, none⟩ := by unfold Addr.add; split <;> simp_all
theorem addK (b i j : Nat) : (⟨b, i, none⟩ : Addr).add j = ⟨b, i + j, none⟩ := by unfold Addr.add; split <;> simp_all
theorem cvs_take (l : List Cel) (k : Nat) (hk : k ≤ l.length) {j : Nat} {u : Value} (h : (cvs (l.take k))[j]? = some u) : (cvs l)[j]? = some u := by
  have e := cvs_app (l.take k) (l.drop k)
  rw [List.take_append_drop] at e
  rw [e, List.getElem?_append_left (List.getElem?_eq_some_iff.1 h).1]
  exact h
theorem cvs_drop (l : List Cel) (k : Nat) (hk : k ≤ l.length) {j : Nat} {u : Value} (h : (cvs (l.drop k))[j]? = some u) : (cvs l)[k * 2 + j]? = some u := by
  have e := cvs_app (l.take k) (l.drop k)
  rw [List.take_append_drop] at e
  have hl : (cvs (l.take k)).length = k * 2 := by rw [cvs_len, List.length_take, Nat.min_eq_left hk]
  rw [e, List.getElem?_append_right (by omega), hl, show k * 2 + j - k * 2 = j by omega]
  exact h
set_option maxRecDepth 100000 in
set_option maxHeartbeats 1000000 in
/-- Both runs: out = append(out[:k:k], append([]Cell{c}, out[k:]...)...). -/
theorem ins_runs (y : World) (base : Nat) (ty ty' : TypeId) (al : Option Addr) (cp : Nat) (l : List Cel) (c : Cel) (k : Nat) (hk : k ≤ l.length) (hown : y.ownsRow base 38 2 (.slice al l.length cp) l.length (cvs l)) (hbs : base ≤ y.heap.size) (l3 : l.length ≤ 1000) :
    l.length ≤ cp ∧ ∃ v1 W2 v2 W3,
      (Builtin.append_ #[41, 41] ty #[.slice (some ⟨y.heap.size, 0, none⟩) 1 1, .slice (if cp = k then al else Option.map (fun x => x.add (k * 2)) al) (l.length - k) (cp - k)]).run Try.prog ((y.alloc (.cells #[iV c.1.1, iV c.1.2] 38)).drew) = .ok v1 W2 ∧
      (Builtin.append_ #[41, 41] ty' #[.slice al k k, v1]).run Try.prog W2 = .ok v2 W3 ∧
      W3.ownsRow base 38 2 v2 (insC l c k).length (cvs (insC l c k)) ∧ Below y.heap.size y W3 := by
  have hE : BX ((y.alloc (.cells #[iV c.1.1, iV c.1.2] 38)).drew) y.heap.size #[iV c.1.1, iV c.1.2] 38 := (BX.new rfl : BX (y.alloc _) _ _ _)
  have hB1 : Below y.heap.size y ((y.alloc (.cells #[iV c.1.1, iV c.1.2] 38)).drew) := ((Below.refl _ _).alloc (Nat.le_refl _) _).drew
  obtain ⟨W1, hW⟩ : ∃ W1, (y.alloc (.cells #[iV c.1.1, iV c.1.2] 38)).drew = W1 := ⟨_, rfl⟩
  rw [hW] at hE hB1 ⊢
  have hdl : l.length - k = (l.drop k).length := by rw [List.length_drop]
  have htl : (l.take k).length = k := by rw [List.length_take, Nat.min_eq_left hk]
  have hins : insC l c k = l.take k ++ (c :: l.drop k) := rfl
  have hd1 : (l.drop k).length ≤ 1000 := by rw [List.length_drop]; omega
  have hd2 : (c :: l.drop k).length ≤ 2000 := by rw [List.length_cons]; omega
  rcases hown.2 with ⟨hv, h0⟩ | ⟨g, cap, cur, hv, hg, hgc, hnc, _, _, _⟩
  · obtain ⟨rfl, rfl⟩ : al = none ∧ cp = 0 := by simp at hv; exact ⟨hv.1, hv.2.2⟩
    have hl0 := List.eq_nil_of_length_eq_zero h0
    subst hl0
    obtain rfl : k = 0 := by simpa using hk
    refine ⟨by simp, ?_⟩
    obtain ⟨v1, W2, r1, o1, g1⟩ := run_lit_app W1 base ty y.heap.size c hE hbs (if (0 : Nat) = 0 then none else Option.map (fun x : Addr => x.add (0 * 2)) none) (([] : List Cel).length - 0) (0 - 0) [] rfl (.inl ⟨rfl, rfl⟩) (by simp)
    have hB2 : Below y.heap.size y W2 := hB1.grown g1 hB1.size (fun q hq => Nat.le_of_eq (Option.some.inj hq))
    obtain ⟨v2, W3, r2, o2, g2⟩ := run_cut_app W2 base ty' none 0 [] [c] rfl (.inl ⟨rfl, rfl⟩) v1 o1 (by simp) (by have := hB2.size; omega) (by simp) (by simp)
    exact ⟨v1, W2, v2, W3, r1, r2, o2, hB2.grown g2 hB2.size (fun q hq => absurd hq (by simp))⟩
  · obtain ⟨rfl, rfl⟩ : al = some ⟨g, 0, none⟩ ∧ cp = cap := by simp at hv; exact hv
    refine ⟨hnc, ?_⟩
    have hgy : g < y.heap.size := (Array.getElem?_eq_some_iff.1 hgc).1
    have hcy : ∀ j u, (cvs l)[j]? = some u → y.cell? ⟨g, j, none⟩ = some u := fun j u hu => by
      have := hown.cells (g := g) rfl j u hu
      rwa [add0] at this
    have hc1 : ∀ j u, (cvs l)[j]? = some u → W1.cell? ⟨g, j, none⟩ = some u := fun j u hu => (hB1.cell (p := ⟨g, j, none⟩) hgy).trans (hcy j u hu)
    rw [hdl]
    obtain ⟨v1, W2, r1, o1, g1⟩ := run_lit_app W1 base ty y.heap.size c hE hbs (if cp = k then some (⟨g, 0, none⟩ : Addr) else Option.map (fun x : Addr => x.add (k * 2)) (some (⟨g, 0, none⟩ : Addr))) (l.drop k).length (cp - k) (l.drop k) rfl (.inr (by
      by_cases hc : cp = k
      · rw [if_pos hc]
        refine ⟨_, rfl, fun j u hu => ?_⟩
        have hz : l.drop k = [] := List.drop_eq_nil_of_le (by omega)
        rw [hz] at hu
        simp [cvs] at hu
      · rw [if_neg hc]
        refine ⟨_, rfl, fun j u hu => ?_⟩
        show W1.cell? (((⟨g, 0, none⟩ : Addr).add (k * 2)).add j) = some u
        rw [add0, addK]
        exact hc1 _ _ (cvs_drop l k hk hu))) (by omega)
    have hB2 : Below y.heap.size y W2 := hB1.grown g1 hB1.size (fun q hq => Nat.le_of_eq (Option.some.inj hq))
    obtain ⟨v2, W3, r2, o2, g2⟩ := run_cut_app W2 base ty' (some ⟨g, 0, none⟩) k (l.take k) (c :: l.drop k) htl (.inr ⟨_, rfl, fun j u hu => by
      rw [add0]
      exact (hB2.cell (p := ⟨g, j, none⟩) hgy).trans (hcy j u (cvs_take l k hk hu))⟩) v1 o1 (by simp) (by have := hB2.size; omega) (by rw [htl]; omega) hd2
    exact ⟨v1, W2, v2, W3, r1, r2, o2, hB2.grown g2 hB2.size (fun q hq => absurd hq (by simp))⟩
/-- An append in a region that draws, out of its run. -/
theorem step_run {ops : Array Oper} {o : Oper} {a : Act} {w : World} {K : Act → World → Prop} {Q : Exit → Act → World → Prop} {E : Prop} (hgd : o.guard = none) (s x : Operand)
    (ho : o.op = .call { callee := .builtin .append, args := #[s, x], argTypes := #[41, 41] }) {v u v' : Value} {w' : World} (hs : a.eval s = v) (hx : a.eval x = u)
    (hr : (Builtin.append_ #[41, 41] o.type #[v, u]).run Try.prog w = .ok v' w') (h : K (a.put o.dst v') w') :
    if Region.wanted o (yielded ops a.tmps) = true then Oper.wp Try.prog o a w K Q else E := by
  have hw : Region.wanted o (yielded ops a.tmps) = true := by simp [Region.wanted, hgd]
  rw [if_pos hw]
  unfold Oper.wp execOp
  simp only [ho, resolve, invoke, builtin, Sem.run_bind, Sem.run_pure, Result.andThen_ok, List.map_toArray, List.map_cons, List.map_nil, hs, hx, hr]
  exact h
end Go.Proofs.Ytdomgielpofbhaa
