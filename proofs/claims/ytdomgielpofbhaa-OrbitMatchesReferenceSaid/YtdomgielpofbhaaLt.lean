/- What the law of tracks calls: a slice of cells put behind an own row, in a region whose operations are guarded. -/
import Derived.Laws.OwnMore
import Derived.Maps.AppendAt
import Derived.Test.YtdomgielpofbhaaLo
import Derived.Test.YtdomgielpofbhaaTk
namespace Go.Proofs.Ytdomgielpofbhaa
open Go.RowKit Go.Shelf Go.Maps
set_option linter.unusedSimpArgs false
set_option linter.unusedVariables false
theorem cvs_one (l : List Cel) : ∀ u ∈ cvs l, u.oneCell' = true := by
  induction l with
  | nil => intro u hu; simp [cvs] at hu
  | cons p l ih =>
    intro u hu
    simp only [cvs, List.mem_cons] at hu
    rcases hu with rfl | rfl | hu
    · rfl
    · rfl
    · exact ih u hu
theorem cvs_get : ∀ (l : List Cel) (j : Nat) (u : Value), (cvs l)[j]? = some u → ∃ p, l[j / 2]? = some p ∧ u = (if j % 2 = 0 then iV p.1.1 else iV p.1.2)
  | [], j, u, h => by simp [cvs] at h
  | p :: l, 0, u, h => by simp [cvs] at h; exact ⟨p, rfl, by simp [h]⟩
  | p :: l, 1, u, h => by simp [cvs] at h; exact ⟨p, rfl, by simp [h]⟩
  | p :: l, j + 2, u, h => by
    have h' : (cvs l)[j]? = some u := by simpa [cvs] using h
    obtain ⟨q, hq, hu⟩ := cvs_get l j u h'
    refine ⟨q, ?_, ?_⟩
    · rw [show (j + 2) / 2 = j / 2 + 1 by omega]; simpa using hq
    · rw [show (j + 2) % 2 = j % 2 by omega]; exact hu
/-- append(out, l...): out the call's own, l whatever slice of cells. -/
theorem run_appC (w : World) (base : Nat) (ty : TypeId) (v : Value) (xs l : List Cel) (al : Option Addr) (c : Nat) (hown : w.ownsRow base 38 2 v xs.length (cvs xs)) (hc : VC al l w)
    (hx : xs.length ≤ 3000) (hbase : base ≤ w.heap.size) :
    ∃ v' w', (Builtin.append_ #[41, 41] ty #[v, .slice al l.length c]).run Try.prog w = .ok v' w' ∧ w'.ownsRow base 38 2 v' (xs ++ l).length (cvs (xs ++ l)) ∧ w.grownBy w' v.ownBlock ∧
      (v'.ownBlock = v.ownBlock ∨ v'.ownBlock = some w.heap.size) := by
  obtain ⟨i0, hi, hz0, hz1, hz2⟩ := info_parts' infoCell
  have ht := Try.underlying41
  have hl : l.length ≤ 3000 := hc.2.1
  have own (a : Addr) (h : ∀ j u, (cvs l)[j]? = some u → w.cell? (a.add j) = some u) : ∃ v' w', (Builtin.append_ #[41, 41] ty #[v, .slice (some a) l.length c]).run Try.prog w = .ok v' w' ∧ w'.ownsRow base 38 2 v' (xs ++ l).length (cvs (xs ++ l)) ∧ w.grownBy w' v.ownBlock ∧
      (v'.ownBlock = v.ownBlock ∨ v'.ownBlock = some w.heap.size) := by
    obtain ⟨v', w', h1, h2, h3, _, h5⟩ := run_append_own_at (P := Try.prog) w base 41 ty 38 i0 (.agg #[.int .i64 0, .int .i64 0]) 2 16 ht hi hz0 hz1 hz2 rfl (by decide) v xs.length (cvs xs) hown a l.length c (cvs l) (cvs_len l) h (cvs_one l)
      (by simp only [maxLen]; omega) (by omega) hbase
    exact ⟨v', w', h1, by rw [List.length_append, cvs_app]; exact h2, h3, h5⟩
  rcases Nat.eq_zero_or_pos l.length with h0 | h0
  · obtain rfl := List.eq_nil_of_length_eq_zero h0
    rcases al with _ | a
    · refine ⟨v, w, ?_, by simpa using hown, World.grownBy.refl w _, .inl rfl⟩
      rcases hown.2 with ⟨rfl, _⟩ | ⟨g, cap, cur, rfl, _, _, hnc, _⟩
      · simp [Builtin.append_, run_underlying ht, sizeOf, typeInfo, hi, Builtin.lenOf, Builtin.firstCells]
      · simp [Builtin.append_, run_underlying ht, sizeOf, typeInfo, hi, Builtin.lenOf, Builtin.firstCells, hnc, storeCells]
    · exact own a (fun j u hu => by simp [cvs] at hu)
  · obtain ⟨b, rfl, hb, hcl⟩ := hc.pos h0
    refine own _ fun j u hu => ?_
    obtain ⟨p, hp, rfl⟩ := cvs_get l j u hu
    have hq := hcl (j / 2) p hp
    have hadd : (⟨b, 0, none⟩ : Addr).add j = ⟨b, j, none⟩ := by unfold Addr.add; split <;> simp_all
    rw [hadd]
    by_cases hj : j % 2 = 0
    · rw [if_pos hj, show j = j / 2 * 2 by omega]; simpa using hq.1
    · rw [if_neg hj]
      have := hq.2
      rw [show j / 2 * 2 + 1 = j by omega] at this
      exact this
/-- The same, at an operation whose guard lets it run. -/
theorem wpList_appC {ops : Array Oper} {rest : List Oper} {o : Oper} {a : Act} {w : World} {Q : Exit → Act → World → Prop} (hw : Region.wanted o (yielded ops a.tmps) = true) (s x : Operand)
    (ho : o.op = .call { callee := .builtin .append, args := #[s, x], argTypes := #[41, 41] }) (base : Nat) (v : Value) (xs l : List Cel) (al : Option Addr) (c : Nat) (hs : a.eval s = v) (hx : a.eval x = .slice al l.length c)
    (hown : w.ownsRow base 38 2 v xs.length (cvs xs)) (hc : VC al l w) (hl : xs.length ≤ 3000) (hbase : base ≤ w.heap.size)
    (h : ∀ v' w', w'.ownsRow base 38 2 v' (xs ++ l).length (cvs (xs ++ l)) → w.grownBy w' v.ownBlock → (v'.ownBlock = v.ownBlock ∨ v'.ownBlock = some w.heap.size) → wpList Try.prog ops Q rest (a.put o.dst v') w') : wpList Try.prog ops Q (o :: rest) a w := by
  refine wpList_step fun K hK => ?_
  rw [if_pos hw]
  obtain ⟨v', w', hrun, h1, h2, h3⟩ := run_appC w base o.type v xs l al c hown hc hl hbase
  unfold Oper.wp execOp
  simp only [ho, resolve, invoke, builtin, Sem.run_bind, Sem.run_pure, Result.andThen_ok, List.map_toArray, List.map_cons, List.map_nil, hs, hx, hrun]
  exact hK _ _ (h v' w' h1 h2 h3)
/-- The cells of a track, taken apart. -/
theorem trk_len' (o : Orb) (m : Int) {f u : Int} (h : f ≤ u) : ((trk o m (u - f).toNat).length : Int) = u - f := by rw [trk_len]; omega
end Go.Proofs.Ytdomgielpofbhaa
