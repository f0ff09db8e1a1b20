/- The program and the reference, pair by pair: both answer the same. -/
import Derived.Test.YtipfafglbkbafaaDoorRs
import Derived.Test.YtipfafglbkbafaaDoorRbx
import Derived.Test.YtipfafglbkbafaaDoorRg
namespace Go.Proofs.YtipfafglbkbafaaDoor
open Go.RowKit Go.Shelf
set_option linter.unusedVariables false
set_option linter.unusedSimpArgs false
/-- An area with these rows and this error is returned. -/
def OutP (w : World) (e : Int) (zs : List Int) (en : Ending) (w' : World) : Prop :=
  ∃ al n c, en = .returned (.tuple #[.agg #[.slice al n c], .int .i64 e]) ∧ Sl w' al n zs ∧ (∀ b q, al = some ⟨b, q, none⟩ → w.heap.size ≤ b) ∧ Below w.heap.size w w'
theorem OutA.p {w w' : World} {o : Option Ar} {en : Ending} (h : OutA w o en w') : OutP w (er o) (zo o) en w' := h
/-- A list of cells of this length is returned. -/
def OutL (w : World) (N : Nat) (l : List (Nat × Nat)) (en : Ending) (w' : World) : Prop := ∃ rl rc, en = .returned (.slice rl N rc) ∧ Cs w' rl N l ∧ Below w.heap.size w w'
section
variable {al bl : Option Addr} {n c m d : Nat} {zs ys : List Int} {oa ob : Option Ar}
theorem pair_valid (hO : Is zs oa) : ∃ r : Bool, (∀ w, Sl w al n zs → Calls Tryd.prog 22 #[.agg #[.slice al n c]] w (OutV w (.bool r))) ∧ (∀ w, Sl w al n zs → Calls Tryd.prog 23 #[.agg #[.slice al n c]] w (OutV w (.bool r))) :=
  ⟨_, fun w h => valid_any al n c zs oa hO w h, fun w h => rvalid_any al n c zs oa hO w h⟩
theorem pair_count (hO : Is zs oa) : ∃ k : Int, (∀ w, Sl w al n zs → Calls Tryd.prog 24 #[.agg #[.slice al n c]] w (OutV w (.int .i64 k))) ∧ (∀ w, Sl w al n zs → Calls Tryd.prog 25 #[.agg #[.slice al n c]] w (OutV w (.int .i64 k))) :=
  ⟨_, fun w h => count_any al n c zs oa hO w h, fun w h => rCount_any al n c zs oa hO w h⟩
theorem pair_cells (hO : Is zs oa) : ∃ (N : Nat) (l : List (Nat × Nat)), (∀ w, Sl w al n zs → Tab w → Calls Tryd.prog 27 #[.agg #[.slice al n c]] w (OutL w N l)) ∧ (∀ w, Sl w al n zs → Calls Tryd.prog 28 #[.agg #[.slice al n c]] w (OutL w N l)) :=
  ⟨(cellsTo (of oa) 24).length, cellsTo (of oa) 24, fun w h hT => (cells_any al n c zs oa hO w h hT).mono fun e w' ⟨rl, rn, rc, he, hc, hb⟩ => by
      have hn := hc.len
      rw [hn] at he hc
      exact ⟨rl, rc, he, hc, hb⟩,
    fun w h => (rCells_any al n c zs oa hO w h).mono fun e w' ⟨rl, rc, he, hc, _, hb⟩ => ⟨rl, rc, he, hc, hb⟩⟩
theorem pair_with (hO : Is zs oa) (x y : Int) : ∃ (e : Int) (rs : List Int), (∀ w, Sl w al n zs → Calls Tryd.prog 29 #[.agg #[.slice al n c], CV x y] w (OutP w e rs)) ∧ (∀ w, Sl w al n zs → Calls Tryd.prog 30 #[.agg #[.slice al n c], CV x y] w (OutP w e rs)) :=
  ⟨_, _, fun w h => (withF_any al n c zs oa hO x y w h).mono fun _ _ => OutA.p, fun w h => (rWith_any al n c zs oa hO x y w h).mono fun _ _ => OutA.p⟩
theorem pair_has (hO : Is zs oa) (x y : Int) : ∃ r : Bool, (∀ w, Sl w al n zs → Calls Tryd.prog 31 #[.agg #[.slice al n c], CV x y] w (OutV w (.bool r))) ∧ (∀ w, Sl w al n zs → Calls Tryd.prog 32 #[.agg #[.slice al n c], CV x y] w (OutV w (.bool r))) :=
  ⟨_, fun w h => has_any al n c zs oa hO x y w h, fun w h => rHas_any al n c zs oa hO x y w h⟩
theorem pair_shifted (hO : Is zs oa) (z : Int) : ∃ (e : Int) (rs : List Int), (∀ w, Sl w al n zs → Calls Tryd.prog 33 #[.agg #[.slice al n c], .int .i64 z] w (OutP w e rs)) ∧ (∀ w, Sl w al n zs → Calls Tryd.prog 34 #[.agg #[.slice al n c], .int .i64 z] w (OutP w e rs)) :=
  ⟨_, _, fun w h => (shiftedF_any al n c zs oa hO z w h).mono fun _ _ => OutA.p, fun w h => (rShifted_any al n c zs oa hO z w h).mono fun _ _ => OutA.p⟩
theorem pair_grown (hO : Is zs oa) (z : Int) : ∃ (e : Int) (rs : List Int), (∀ w, Sl w al n zs → Calls Tryd.prog 35 #[.agg #[.slice al n c], .int .i64 z] w (OutP w e rs)) ∧ (∀ w, Sl w al n zs → Calls Tryd.prog 36 #[.agg #[.slice al n c], .int .i64 z] w (OutP w e rs)) :=
  ⟨_, _, fun w h => (grownF_any al n c zs oa hO z w h).mono fun _ _ => OutA.p, fun w h => (rGrown_any al n c zs oa hO z w h).mono fun _ _ => OutA.p⟩
theorem pair_union (hO : Is zs oa) (hP : Is ys ob) : ∃ (e : Int) (rs : List Int), (∀ w, Sl w al n zs → Sl w bl m ys → Calls Tryd.prog 37 #[.agg #[.slice al n c], .agg #[.slice bl m d]] w (OutP w e rs)) ∧ (∀ w, Sl w al n zs → Sl w bl m ys → Calls Tryd.prog 38 #[.agg #[.slice al n c], .agg #[.slice bl m d]] w (OutP w e rs)) :=
  ⟨_, _, fun w h h' => (union_any al n c zs oa hO bl m d ys ob hP w h h').mono fun _ _ => OutA.p, fun w h h' => (rUnion_any al n c zs oa hO bl m d ys ob hP w h h').mono fun _ _ => OutA.p⟩
theorem pair_meet (hO : Is zs oa) (hP : Is ys ob) : ∃ (e : Int) (rs : List Int), (∀ w, Sl w al n zs → Sl w bl m ys → Calls Tryd.prog 39 #[.agg #[.slice al n c], .agg #[.slice bl m d]] w (OutP w e rs)) ∧ (∀ w, Sl w al n zs → Sl w bl m ys → Calls Tryd.prog 40 #[.agg #[.slice al n c], .agg #[.slice bl m d]] w (OutP w e rs)) :=
  ⟨_, _, fun w h h' => (meet_any al n c zs oa hO bl m d ys ob hP w h h').mono fun _ _ => OutA.p, fun w h h' => (rMeet_any al n c zs oa hO bl m d ys ob hP w h h').mono fun _ _ => OutA.p⟩
theorem pair_less (hO : Is zs oa) (hP : Is ys ob) : ∃ (e : Int) (rs : List Int), (∀ w, Sl w al n zs → Sl w bl m ys → Calls Tryd.prog 41 #[.agg #[.slice al n c], .agg #[.slice bl m d]] w (OutP w e rs)) ∧ (∀ w, Sl w al n zs → Sl w bl m ys → Calls Tryd.prog 42 #[.agg #[.slice al n c], .agg #[.slice bl m d]] w (OutP w e rs)) :=
  ⟨_, _, fun w h h' => (less_any al n c zs oa hO bl m d ys ob hP w h h').mono fun _ _ => OutA.p, fun w h h' => (rLess_any al n c zs oa hO bl m d ys ob hP w h h').mono fun _ _ => OutA.p⟩
theorem pair_contains (hO : Is zs oa) (hP : Is ys ob) : ∃ r : Bool, (∀ w, Sl w al n zs → Sl w bl m ys → Calls Tryd.prog 43 #[.agg #[.slice al n c], .agg #[.slice bl m d]] w (OutV w (.bool r))) ∧ (∀ w, Sl w al n zs → Sl w bl m ys → Calls Tryd.prog 44 #[.agg #[.slice al n c], .agg #[.slice bl m d]] w (OutV w (.bool r))) :=
  ⟨_, fun w h h' => contains_any al n c zs oa hO bl m d ys ob hP w h h', fun w h h' => rContains_any al n c zs oa hO bl m d ys ob hP w h h'⟩
theorem pair_same : ∃ r : Bool, (∀ w, Sl w al n zs → Sl w bl m ys → Calls Tryd.prog 45 #[.agg #[.slice al n c], .agg #[.slice bl m d]] w (OutV w (.bool r))) ∧ (∀ w, Sl w al n zs → Sl w bl m ys → Calls Tryd.prog 21 #[.agg #[.slice al n c], .agg #[.slice bl m d]] w (OutV w (.bool r))) :=
  ⟨_, fun w h h' => sameF_any al n c zs bl m d ys w h h', fun w h h' => rSame_any al n c zs bl m d ys w h h'⟩
/-- Two areas with the same rows. -/
theorem rsame_eq {w : World} (h : Sl w al n zs) (h' : Sl w bl m zs) : Calls Tryd.prog 21 #[.agg #[.slice al n c], .agg #[.slice bl m d]] w (OutV w (.bool true)) :=
  (rSame_any al n c zs bl m d zs w h h').mono (OutV.as (by rw [decide_eq_true rfl]))
theorem rsc_eq {N : Nat} {l : List (Nat × Nat)} {w : World} (h : Cs w al N l) (h' : Cs w bl N l) : Calls Tryd.prog 26 #[.slice al N c, .slice bl N d] w (OutV w (.bool true)) := rSameCells_any al bl N c d l w h h'
end
theorem pair_box (x y wd hi : Int) : ∃ (e : Int) (rs : List Int), (∀ w, Calls Tryd.prog 19 #[CV x y, .int .i64 wd, .int .i64 hi] w (OutP w e rs)) ∧ (∀ w, Calls Tryd.prog 20 #[CV x y, .int .i64 wd, .int .i64 hi] w (OutP w e rs)) :=
  ⟨_, _, fun w => (boxF_any x y wd hi w).mono fun _ _ => OutA.p, fun w => (rBox_any x y wd hi w).mono fun _ _ => OutA.p⟩
theorem pair_vc (x y : Int) : ∃ r : Bool, (∀ w, Calls Tryd.prog 15 #[CV x y] w (OutV w (.bool r))) ∧ (∀ w, Calls Tryd.prog 16 #[CV x y] w (OutV w (.bool r))) :=
  ⟨_, fun w => validCell_any x y w, fun w => rvalidCell_any x y w⟩
theorem pair_near (a b c d : Int) : ∃ r : Int, (∀ w, Calls Tryd.prog 17 #[CV a b, CV c d] w (OutV w (.int .i64 r))) ∧ (∀ w, Calls Tryd.prog 18 #[CV a b, CV c d] w (OutV w (.int .i64 r))) :=
  ⟨_, fun w => near_any a b c d w, fun w => rNear_any a b c d w⟩
/-- A slice of whole numbers, of any length. -/
def Sw (W : World) (al : Option Addr) (n c : Nat) (zs : List Int) : Prop :=
  n ≤ c ∧ n ≤ 9223372036854775807 ∧ n = zs.length ∧ (∀ z ∈ zs, -9223372036854775808 ≤ z ∧ z ≤ 9223372036854775807) ∧ (n = 0 ∨ ∃ b o, al = some ⟨b, o, none⟩ ∧ b < W.heap.size ∧ ∀ i, i < n → W.cell? ⟨b, o + i, none⟩ = some (.int .i64 (zs.getD i 0)))
theorem Sw.cut {W : World} {al : Option Addr} {n c k : Nat} {zs : List Int} (h : Sw W al n c zs) (hk : k = min n 25) : Sl W al k (zs.take k) := by
  obtain ⟨h1, h2, h3, h4, h5⟩ := h
  refine ⟨by rw [List.length_take]; omega, by omega, fun z hz => h4 z (List.mem_of_mem_take hz), ?_⟩
  rcases h5 with h5 | ⟨b, o, rfl, hb, hc⟩
  · exact .inl (by omega)
  · refine .inr ⟨b, o, rfl, hb, fun i hi => ?_⟩
    rw [hc i (by omega), List.getD_eq_getElem?_getD, List.getD_eq_getElem?_getD, List.getElem?_take, if_pos hi]
end Go.Proofs.YtipfafglbkbafaaDoor
