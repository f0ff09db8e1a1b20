/- What a law carries along its calls; the calls' contracts for valid areas. -/
import Derived.Test.YtipfafglbkbafaaDoorMd
namespace Go.Proofs.YtipfafglbkbafaaDoor
open Go.RowKit Go.Shelf
set_option linter.unusedVariables false
set_option linter.unusedSimpArgs false

/-- A fact that stays, whatever is made behind. -/
def Up (w : World) (P : World → Prop) : Prop := ∀ W, Below w.heap.size w W → P W
theorem Up.next {w w' : World} {P : World → Prop} (h : Up w P) (hb : Below w.heap.size w w') : Up w' P := fun W hW => h W (hb.trans (hW.mono hb.size))
theorem Up.now {w : World} {P : World → Prop} (h : Up w P) : P w := h w (Below.refl _ _)
/-- A variable that holds an area. -/
abbrev VA (B b o c : Nat) (f : Ar) (W : World) : Prop := SA W (some ⟨b, o, none⟩) 24 f ∧ W.heap[B]? = some (.cells #[.slice (some ⟨b, o, none⟩) 24 c] 25 (0, 0))
/-- A variable of whatever cells. -/
abbrev VR (B : Nat) (cs : Array Value) (t : TypeId) (W : World) : Prop := W.heap[B]? = some (.cells cs t (0, 0))
/-- What the law leaves as it was. -/
abbrev VB (w : World) (W : World) : Prop := Below w.heap.size w W ∧ Tab W
theorem up_va {w : World} {B b o c : Nat} {f : Ar} (h : SA w (some ⟨b, o, none⟩) 24 f) (hk : w.heap[B]? = some (.cells #[.slice (some ⟨b, o, none⟩) 24 c] 25 (0, 0))) : Up w (VA B b o c f) := fun W hb =>
  ⟨Sl.below h (Nat.le_refl _) hb, (hb.block B (Array.getElem?_eq_some_iff.1 hk).1).trans hk⟩
theorem up_vr {w : World} {B : Nat} {cs : Array Value} {t : TypeId} (hk : w.heap[B]? = some (.cells cs t (0, 0))) : Up w (VR B cs t) := fun W hb => (hb.block B (Array.getElem?_eq_some_iff.1 hk).1).trans hk
theorem up_vb {w w' : World} (hb : Below w.heap.size w w') (hT : Tab w) : Up w' (VB w) := fun W h =>
  ⟨hb.trans (h.mono hb.size), hT.below (hb.trans (h.mono hb.size)) hT.1⟩
theorem up_s4 {w : World} {al : Option Addr} {n : Nat} (h : S4 w al n) : Up w (fun W => S4 W al n) := fun _ hb => h.below hb
theorem VA.cell {B b o c : Nat} {f : Ar} {W : World} (h : VA B b o c f W) : W.cell? ⟨B, 0, none⟩ = some (.slice (some ⟨b, o, none⟩) 24 c) := (row_cell h.2 0).trans rfl
theorem VA.row {B b o c : Nat} {f : Ar} {W : World} (h : VA B b o c f W) {y : Nat} (hy : y < 24) : W.cell? ⟨b, o + y, none⟩ = some (iV (rowOf f y)) := by
  obtain ⟨_, b', o', he, _, hc⟩ := SA.parts h.1
  cases he
  exact hc y hy
theorem box1 (w : World) (cs : Array Value) (t : TypeId) : ∃ w' B, w.alloc (.cells cs t) = w' ∧ w.heap.size = B ∧ Below w.heap.size w w' ∧ w'.heap[B]? = some (.cells cs t (0, 0)) :=
  ⟨_, _, rfl, rfl, (Below.refl _ _).alloc (Nat.le_refl _) _, heap_new' _ _ _ rfl⟩
def OutF (w : World) (g : Ar) (e : Ending) (w' : World) : Prop :=
  ∃ b o c, e = .returned (.tuple #[.agg #[.slice (some ⟨b, o, none⟩) 24 c], .int .i64 0]) ∧ SA w' (some ⟨b, o, none⟩) 24 g ∧ Below w.heap.size w w'
def OutN (w : World) (e : Ending) (w' : World) : Prop := e = .returned (.tuple #[.agg #[.slice none 0 0], .int .i64 50]) ∧ Below w.heap.size w w'
def OutE (w : World) (g : Ar) (e : Ending) (w' : World) : Prop :=
  ∃ b o c, e = .returned (.agg #[.slice (some ⟨b, o, none⟩) 24 c]) ∧ SA w' (some ⟨b, o, none⟩) 24 g ∧ Below w.heap.size w w'
def OutV (w : World) (v : Value) (e : Ending) (w' : World) : Prop := e = .returned v ∧ Below w.heap.size w w'
theorem OutA.f {w w' : World} {g : Ar} {e : Ending} (h : OutA w (some g) e w') : OutF w g e w' := by
  obtain ⟨al, n, c, he, hs, hf, hb⟩ := h
  have hn : n = 24 := SA.n hs
  subst hn
  obtain ⟨_, b, o, rfl, _, _⟩ := SA.parts hs
  exact ⟨b, o, c, he, hs, hb⟩
theorem OutA.n {w w' : World} {e : Ending} (h : OutA w none e w') : ∃ c al, e = .returned (.tuple #[.agg #[.slice al 0 c], .int .i64 50]) ∧ Below w.heap.size w w' := by
  obtain ⟨al, n, c, he, hs, hf, hb⟩ := h
  have hn : n = 0 := hs.1
  subst hn
  exact ⟨c, al, he, hb⟩
def OutX (w : World) (e : Ending) (w' : World) : Prop := ∃ c al, e = .returned (.tuple #[.agg #[.slice al 0 c], .int .i64 50]) ∧ Below w.heap.size w w'
theorem Cs.len {W : World} {al : Option Addr} {n : Nat} {l : List (Nat × Nat)} (h : Cs W al n l) : n = l.length := h.1
theorem OutV.as {w : World} {v v' : Value} (h : v = v') : ∀ e w', OutV w v e w' → OutV w v' e w' := fun e w' => by rw [h]; exact id
section
variable {w : World} {b o c b' o' c' : Nat} {f g : Ar}
theorem unionV (h : SA w (some ⟨b, o, none⟩) 24 f) (h' : SA w (some ⟨b', o', none⟩) 24 g) : Calls Tryd.prog 37 #[.agg #[.slice (some ⟨b, o, none⟩) 24 c], .agg #[.slice (some ⟨b', o', none⟩) 24 c']] w (OutF w (orA f g)) :=
  (union_any _ _ _ _ (some f) rfl _ _ _ _ (some g) rfl w h h').mono fun _ _ => OutA.f
theorem meetV (h : SA w (some ⟨b, o, none⟩) 24 f) (h' : SA w (some ⟨b', o', none⟩) 24 g) : Calls Tryd.prog 39 #[.agg #[.slice (some ⟨b, o, none⟩) 24 c], .agg #[.slice (some ⟨b', o', none⟩) 24 c']] w (OutF w (andA f g)) :=
  (meet_any _ _ _ _ (some f) rfl _ _ _ _ (some g) rfl w h h').mono fun _ _ => OutA.f
theorem lessV (h : SA w (some ⟨b, o, none⟩) 24 f) (h' : SA w (some ⟨b', o', none⟩) 24 g) : Calls Tryd.prog 41 #[.agg #[.slice (some ⟨b, o, none⟩) 24 c], .agg #[.slice (some ⟨b', o', none⟩) 24 c']] w (OutF w (lessA f g)) :=
  (less_any _ _ _ _ (some f) rfl _ _ _ _ (some g) rfl w h h').mono fun _ _ => OutA.f
theorem containsV (h : SA w (some ⟨b, o, none⟩) 24 f) (h' : SA w (some ⟨b', o', none⟩) 24 g) : Calls Tryd.prog 43 #[.agg #[.slice (some ⟨b, o, none⟩) 24 c], .agg #[.slice (some ⟨b', o', none⟩) 24 c']] w (OutV w (.bool (rowsOf (andA f g) == rowsOf g))) :=
  contains_any _ _ _ _ (some f) rfl _ _ _ _ (some g) rfl w h h'
theorem shiftedV (z : Int) (h : SA w (some ⟨b, o, none⟩) 24 f) : Calls Tryd.prog 33 #[.agg #[.slice (some ⟨b, o, none⟩) 24 c], .int .i64 z] w (OutF w (turn f (k48 z))) :=
  (shiftedF_any _ _ _ _ (some f) rfl z w h).mono fun _ _ => OutA.f
theorem grownV (d : Nat) (hd : d ≤ 24) (h : SA w (some ⟨b, o, none⟩) 24 f) : Calls Tryd.prog 35 #[.agg #[.slice (some ⟨b, o, none⟩) 24 c], .int .i64 (d : Int)] w (OutF w (grown f d)) := by
  have := grownF_any (some ⟨b, o, none⟩) 24 c _ (some f) rfl (d : Int) w h
  rw [show grownO (some f) (d : Int) = some (grown f d) from by unfold grownO; rw [if_pos ⟨by omega, by omega⟩]; rfl] at this
  exact this.mono fun _ _ => OutA.f
theorem grownX (z : Int) (hz : z < 0 ∨ 24 < z) (h : SA w (some ⟨b, o, none⟩) 24 f) : Calls Tryd.prog 35 #[.agg #[.slice (some ⟨b, o, none⟩) 24 c], .int .i64 z] w (OutX w) := by
  have := grownF_any (some ⟨b, o, none⟩) 24 c _ (some f) rfl z w h
  rw [show grownO (some f) z = none from by unfold grownO; rw [if_neg (by omega)]] at this
  exact this.mono fun _ _ => OutA.n
theorem withV (x y : Nat) (hx : x < 48) (hy : y < 24) (h : SA w (some ⟨b, o, none⟩) 24 f) : Calls Tryd.prog 29 #[.agg #[.slice (some ⟨b, o, none⟩) 24 c], CV x y] w (OutF w (putA f x y)) := by
  have := withF_any (some ⟨b, o, none⟩) 24 c _ (some f) rfl (x : Int) (y : Int) w h
  rw [show withO (some f) (x : Int) (y : Int) = some (putA f x y) from by unfold withO; rw [if_pos (onG_iff.2 ⟨by omega, by omega, by omega, by omega⟩)]; rfl] at this
  exact this.mono fun _ _ => OutA.f
theorem boxV (w : World) (x y wd hi : Nat) (hx : x < 48) (hw1 : 1 ≤ wd) (hw2 : wd ≤ 48) (hh1 : 1 ≤ hi) (hh2 : hi + y ≤ 24) : Calls Tryd.prog 19 #[CV x y, .int .i64 wd, .int .i64 hi] w (OutF w (box x y wd hi)) :=
  (box_yes x y wd hi hx hw1 hw2 hh1 hh2 w).mono fun _ _ => OutA.f
theorem boxX (w : World) (x y wd hi : Int) (h : boxB x y wd hi = false) : Calls Tryd.prog 19 #[CV x y, .int .i64 wd, .int .i64 hi] w (OutX w) :=
  (box_no x y wd hi h w).mono fun _ _ => OutA.n
theorem countV (h : SA w (some ⟨b, o, none⟩) 24 f) : Calls Tryd.prog 24 #[.agg #[.slice (some ⟨b, o, none⟩) 24 c]] w (OutV w (.int .i64 (count f : Nat))) :=
  count_any _ _ _ _ (some f) rfl w h
theorem hasV (x y : Nat) (hx : x < 48) (hy : y < 24) (h : SA w (some ⟨b, o, none⟩) 24 f) : Calls Tryd.prog 31 #[.agg #[.slice (some ⟨b, o, none⟩) 24 c], CV x y] w (OutV w (.bool (f x y))) := by
  have := has_any (some ⟨b, o, none⟩) 24 c _ (some f) rfl (x : Int) (y : Int) w h
  rw [show hasO (some f) (x : Int) (y : Int) = f x y from by unfold hasO; rw [onG_iff.2 ⟨by omega, by omega, by omega, by omega⟩]; rfl] at this
  exact this
theorem emptyV (w : World) : Calls Tryd.prog 46 #[] w (OutE w nul) :=
  (empty_any w).mono fun _ _ ⟨g, he, _, hF, hb⟩ => ⟨g, 0, 24, he, hF.sa, hb⟩
theorem validV (h : SA w (some ⟨b, o, none⟩) 24 f) : Calls Tryd.prog 22 #[.agg #[.slice (some ⟨b, o, none⟩) 24 c]] w (OutV w (.bool true)) :=
  valid_any _ _ _ _ (some f) rfl w h
theorem validN (w : World) : Calls Tryd.prog 22 #[.agg #[.slice none 0 0]] w (OutV w (.bool false)) :=
  valid_any none 0 0 [] none (fun h => by simp at h) w (Sl.nil w)
theorem vcellV (w : World) (x y : Int) : Calls Tryd.prog 15 #[CV x y] w (OutV w (.bool (onG x y))) := validCell_any x y w
theorem nearV (w : World) (a b c d : Nat) (ha : a < 48) (hb : b < 24) (hc : c < 48) (hd : d < 24) : Calls Tryd.prog 17 #[CV a b, CV c d] w (OutV w (.int .i64 (near a b c d : Nat))) := near_yes a b c d ha hb hc hd w
theorem nearX (w : World) (a b c d : Int) (h : onG a b = false ∨ onG c d = false) : Calls Tryd.prog 17 #[CV a b, CV c d] w (OutV w (.int .i64 (-1))) := near_no a b c d h w
theorem sameV (h : SA w (some ⟨b, o, none⟩) 24 f) (h' : SA w (some ⟨b', o', none⟩) 24 g) : Calls Tryd.prog 45 #[.agg #[.slice (some ⟨b, o, none⟩) 24 c], .agg #[.slice (some ⟨b', o', none⟩) 24 c']] w (OutV w (.bool (decide (rz f = rz g)))) :=
  sameF_any _ _ _ _ _ _ _ _ w h h'
theorem rsameV (e : Eqv f g) (h : SA w (some ⟨b, o, none⟩) 24 f) (h' : SA w (some ⟨b', o', none⟩) 24 g) : Calls Tryd.prog 21 #[.agg #[.slice (some ⟨b, o, none⟩) 24 c], .agg #[.slice (some ⟨b', o', none⟩) 24 c']] w (OutV w (.bool true)) :=
  rsame_yes _ _ _ _ _ _ w h (SA.eqv h' e.symm)
theorem cellsV (h : SA w (some ⟨b, o, none⟩) 24 f) (hT : Tab w) : Calls Tryd.prog 27 #[.agg #[.slice (some ⟨b, o, none⟩) 24 c]] w fun e w' => ∃ rl rc, e = .returned (.slice rl (cellsTo f 24).length rc) ∧ Cs w' rl (cellsTo f 24).length (cellsTo f 24) ∧ Below w.heap.size w w' :=
  (cells_any _ _ _ _ (some f) rfl w h hT).mono fun _ _ h => by
    obtain ⟨rl, rn, rc, he, hc, hb⟩ := h
    have hn := hc.len
    rw [hn] at he hc
    exact ⟨rl, rc, he, hc, hb⟩
theorem madeV {al : Option Addr} {n : Nat} (h : S4 w al n) : Calls Tryd.prog 11 #[.slice al n c] w fun e w' => ∃ f : Ar, OutE w f e w' :=
  (made_any al n c w h).mono fun _ _ ⟨g, f, he, _, hF, hb⟩ => ⟨f, g, 0, 24, he, hF.sa, hb⟩
theorem grown0V (h : SA w (some ⟨b, o, none⟩) 24 f) : Calls Tryd.prog 35 #[.agg #[.slice (some ⟨b, o, none⟩) 24 c], .int .i64 0] w (OutF w (grown f 0)) := grownV 0 (by decide) h
theorem grownAddV (i k : Nat) (hd : i + k ≤ 24) (h : SA w (some ⟨b, o, none⟩) 24 f) : Calls Tryd.prog 35 #[.agg #[.slice (some ⟨b, o, none⟩) 24 c], .int .i64 ((i : Int) + (k : Int))] w (OutF w (grown f (i + k))) := by
  rw [show (i : Int) + (k : Int) = ((i + k : Nat) : Int) from by omega]; exact grownV (i + k) hd h
theorem containsY (e : Eqv (andA f g) g) (h : SA w (some ⟨b, o, none⟩) 24 f) (h' : SA w (some ⟨b', o', none⟩) 24 g) : Calls Tryd.prog 43 #[.agg #[.slice (some ⟨b, o, none⟩) 24 c], .agg #[.slice (some ⟨b', o', none⟩) 24 c']] w (OutV w (.bool true)) :=
  (containsV h h').mono (OutV.as (by rw [rows_eqv.2 e, beq_self_eq_true]))
theorem pickV (z : Int) (h0 : -9223372036854775808 ≤ z) (h1 : z ≤ 9223372036854775807) (n : Nat) (hn : 0 < n) (hn2 : n ≤ 2000000000) (N : Int) (hN : N = (n : Int)) :
    ∃ i, i < n ∧ i = pickZ z n ∧ ∀ w : World, Calls Tryd.prog 12 #[.int .i64 z, .int .i64 N] w (OutV w (.int .i64 (i : Nat))) :=
  ⟨_, pickZ_lt z hn, rfl, fun w => (lpick_any z h0 h1 n hn hn2 N hN w).mono fun _ _ ⟨he, hw⟩ => ⟨he, hw ▸ Below.refl _ _⟩⟩
theorem cellV (a b : Int) (ha0 : -9223372036854775808 ≤ a) (ha1 : a ≤ 9223372036854775807) (hb0 : -9223372036854775808 ≤ b) (hb1 : b ≤ 9223372036854775807) :
    ∃ x y, x < 48 ∧ y < 24 ∧ ∀ w : World, Calls Tryd.prog 14 #[.agg #[.int .i64 a, .int .i64 b]] w (OutV w (CV (x : Nat) (y : Nat))) :=
  ⟨_, _, pickZ_lt a (by decide), pickZ_lt b (by decide), fun w => rcell_any a b ha0 ha1 hb0 hb1 w⟩
theorem wrap_nat (k : Nat) (h : k < 1000000) : IntKind.i64.wrap (k : Int) = (k : Int) := by rw [IntKind.wrap_i64]; omega
end
end Go.Proofs.YtipfafglbkbafaaDoor
