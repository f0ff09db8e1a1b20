/- What every walk of the orbit leans on: blocks, rows, facts that stay. -/
import Derived.WalkKit
import Derived.WalkLawsBesides
import Derived.WalkSpells
import Derived.BigQuiet
import Derived.Deep.QuietTactic
import Derived.Deep.RegionHeld3
import Derived.Deep.DrawnRows
import Derived.StillTailTactics
import Derived.Laws.Rows
import Derived.Laws.Tables
import Derived.Below
import Derived.IntWalk
import Derived.Outline
import Derived.Lib.Hide
import Derived.Lib.MinMax
import Derived.Deep.MidRow
import Derived.Deep.Cut
import Derived.Deep.CutBlock
import Derived.Deep.DeepCutAuto
import Derived.Laws.StructEq
import Derived.Laws.MakeOwn
import Derived.Laws.ResultCell
import Derived.RangeFuncNested
import Derived.RangeFuncBound
import Derived.RangeFuncCalls
import Derived.RangeFuncLeaves
import Derived.RangeFuncBox
import Derived.RangeFuncWrites
import Derived.OwnWalkIn
import Derived.TacticsInMore
import Derived.LoopNIn
import Derived.LoopIn
import Derived.Maps.AppendAt
import Derived.Maps.OwnIn
import Derived.Deep.AppendLies
import Derived.Shelf.Abstract
import Derived.Test.YtdomgielpofbhaaChecked
import Derived.Test.YtdomgielpofbhaaOz
namespace Go.Proofs.Ytdomgielpofbhaa
open Go.RowKit Go.Shelf
set_option linter.unusedVariables false
set_option linter.unusedSimpArgs false

abbrev iV (n : Nat) : Value := .int .i64 (n : Int)
abbrev iZ (n : Int) : Value := .int .i64 n
abbrev CV (x y : Int) : Value := .agg #[.int .i64 x, .int .i64 y]
theorem ret_bool' {a b : Bool} (h : a = b) : Ending.returned (.bool a) = .returned (.bool b) := by rw [h]
theorem ret_int' {k : IntKind} {a b : Int} (h : a = b) : Ending.returned (.int k a) = .returned (.int k b) := by rw [h]
theorem ret_i {k : IntKind} {a b : Int} (h : a = b) : Value.int k a = .int k b := by rw [h]
theorem heap_old' (w : World) (o : Obj) (i : Nat) (h : i < w.heap.size) : (w.alloc o).heap[i]? = w.heap[i]? := by
  show (w.heap.push o)[i]? = _
  rw [Array.getElem?_push, if_neg (by omega)]
theorem heap_new' (w : World) (o : Obj) (i : Nat) (h : i = w.heap.size) : (w.alloc o).heap[i]? = some o := by
  subst h
  show (w.heap.push o)[w.heap.size]? = _
  simp
theorem row_cell {w : World} {g : Nat} {cs : Array Value} {t : TypeId} (h : w.heap[g]? = some (.cells cs t (0, 0))) (i : Nat) : w.cell? ⟨g, i, none⟩ = cs[i]? := cell_of_row w g i cs t (0, 0) h
theorem cell_alloc' {A : World} {a : Addr} {v : Value} (h : A.cell? a = some v) (o : Obj) : (A.alloc o).cell? a = some v := ((Below.refl A.heap.size A).alloc (Nat.le_refl _) o |>.cell (World.block_lt_of_cell? A a h)).trans h
theorem ko_below {W W' : World} (h : Below W.heap.size W W') : KeepsOthers W W' :=
  ⟨h.size, fun k o hk _ => (h.block k (Array.getElem?_eq_some_iff.1 hk).1).trans hk⟩
theorem below_dn {w : World} {B : Nat} (n : Nat) : Below B w (w.drewN n) := by
  induction n with
  | zero => exact Below.refl _ _
  | succ n ih => exact ih.trans (Below.refl _ _).drew
theorem below_tr {w a b : World} (h : Below w.heap.size w a) (hb : Below a.heap.size a b) : Below w.heap.size w b := h.trans (hb.mono h.size)
/-- A call's answer, and that nothing that lay has turned. -/
def OutV (w : World) (v : Value) (e : Ending) (w' : World) : Prop := e = .returned v ∧ Below w.heap.size w w'
theorem sameU (v : Value) (w : World) : ∀ e w', (e = .returned v ∧ w = w') → OutV w v e w' := fun e w' ⟨he, hw⟩ => ⟨he, hw ▸ Below.refl _ _⟩
theorem OutV.as {w : World} {v v' : Value} (h : v = v') : ∀ e w', OutV w v e w' → OutV w v' e w' := fun e w' => by rw [h]; exact id
/-- A fact that stays, whatever is made behind. -/
def Up (w : World) (P : World → Prop) : Prop := ∀ W, Below w.heap.size w W → P W
theorem Up.next {w w' : World} {P : World → Prop} (h : Up w P) (hb : Below w.heap.size w w') : Up w' P := fun W hW => h W (hb.trans (hW.mono hb.size))
theorem Up.now {w : World} {P : World → Prop} (h : Up w P) : P w := h w (Below.refl _ _)
/-- A variable of whatever cells. -/
abbrev VR (B : Nat) (cs : Array Value) (t : TypeId) (W : World) : Prop := W.heap[B]? = some (.cells cs t (0, 0))
/-- What the law leaves as it was. -/
abbrev VB (w : World) (W : World) : Prop := Below w.heap.size w W
theorem up_vr {w : World} {B : Nat} {cs : Array Value} {t : TypeId} (hk : w.heap[B]? = some (.cells cs t (0, 0))) : Up w (VR B cs t) := fun W hb => (hb.block B (Array.getElem?_eq_some_iff.1 hk).1).trans hk
theorem up_vb (w : World) : Up w (VB w) := fun W h => h
theorem box1 (w : World) (cs : Array Value) (t : TypeId) : ∃ w' B, w.alloc (.cells cs t) = w' ∧ w.heap.size = B ∧ Below w.heap.size w w' ∧ w'.heap[B]? = some (.cells cs t (0, 0)) :=
  ⟨_, _, rfl, rfl, (Below.refl _ _).alloc (Nat.le_refl _) _, heap_new' _ _ _ rfl⟩
/-- A block's cells stay. -/
def Ks (Bn : Nat) (W W' : World) : Prop := ∀ i v, W.cell? ⟨Bn, i, none⟩ = some v → W'.cell? ⟨Bn, i, none⟩ = some v
theorem Ks.refl (Bn : Nat) (W : World) : Ks Bn W W := fun _ _ h => h
theorem Ks.trans {Bn : Nat} {A B C : World} (h : Ks Bn A B) (k : Ks Bn B C) : Ks Bn A C := fun i v hc => k i v (h i v hc)
theorem Ks.below {Bn n : Nat} {A B : World} (h : Below n A B) (hn : Bn < n) : Ks Bn A B := fun i v hc => (h.cell (p := ⟨Bn, i, none⟩) hn).trans hc
/-- A block holds these cells. -/
def BX (W : World) (B : Nat) (cs : Array Value) (t : TypeId) : Prop := W.heap[B]? = some (.cells cs t (0, 0))
theorem BX.lt {W : World} {B : Nat} {cs : Array Value} {t : TypeId} (h : BX W B cs t) : B < W.heap.size := (Array.getElem?_eq_some_iff.1 h).1
theorem BX.new {W : World} {cs : Array Value} {t : TypeId} {B : Nat} (h : B = W.heap.size) : BX (W.alloc (.cells cs t)) B cs t := heap_new' _ _ _ h
theorem BX.alloc {W : World} {B : Nat} {cs : Array Value} {t : TypeId} (h : BX W B cs t) (o : Obj) : BX (W.alloc o) B cs t := (Below.heap_alloc _ _ _ h.lt).trans h
theorem BX.below {W W' : World} {B n : Nat} {cs : Array Value} {t : TypeId} (h : BX W B cs t) (hb : Below n W W') (hn : B < n) : BX W' B cs t := (hb.block B hn).trans h
theorem BX.next {W W' : World} {B : Nat} {cs : Array Value} {t : TypeId} (h : BX W B cs t) (hb : Below W.heap.size W W') : BX W' B cs t := h.below hb h.lt
theorem BX.cell {W : World} {B : Nat} {cs : Array Value} {t : TypeId} (h : BX W B cs t) (i : Nat) : W.cell? ⟨B, i, none⟩ = cs[i]? := row_cell h i
theorem BX.frozen {W : World} {B : Nat} {cs : Array Value} {t : TypeId} (h : BX W B cs t) (i : Nat) : W.frozen? ⟨B, i, none⟩ = false := frozen_of_row W B i _ t h
theorem BX.own {β : Type} (B : Nat) (t : TypeId) (cs : Array Value) : Own (fun (_ : β) W => BX W B cs t) := fun s X Y row hs hg hrow =>
  (hg.block B hs.lt (fun e' => by obtain ⟨o, ho, hc⟩ := hrow B e'.symm; rw [show X.heap[B]? = _ from hs] at ho; cases ho; cases hc)).trans hs
theorem info_parts' {P : Program} {t : TypeId} {z : Value} {s b : Nat} (h : (P.info? t).map (fun i => (i.zero, i.size, i.bytes)) = some (some z, s, b)) : ∃ i, P.info? t = some i ∧ i.zero = some z ∧ i.size = s ∧ i.bytes = b := by
  cases hq : P.info? t with
  | none => rw [hq] at h; cases h
  | some i =>
    rw [hq] at h
    simp at h
    exact ⟨i, rfl, h.1, h.2.1, h.2.2⟩
theorem infoCell : (Try.prog.info? 38).map (fun i => (i.zero, i.size, i.bytes)) = some (some (.agg #[.int .i64 0, .int .i64 0]), 2, 16) := by kernel_rfl
theorem row_keep {W W' : World} {B : Nat} {e : TypeId} {k : Nat} {v : Value} {n : Nat} {xs : List Value} (h : W.ownsRow B e k v n xs) (hb : Below W.heap.size W W') : W'.ownsRow B e k v n xs := by
  refine ⟨h.1, ?_⟩
  rcases h.2 with h' | ⟨g', cap', cur, h', hB, hg, h3⟩
  · exact .inl h'
  · exact .inr ⟨g', cap', cur, h', hB, (hb.block _ (Array.getElem?_eq_some_iff.1 hg).1).trans hg, h3⟩
theorem swapw {k : Nat} {args : Array Value} {w : World} {v : Value} (h : Calls Try.prog k args w fun e w' => e = .returned v ∧ w = w') : Calls Try.prog k args w fun e w' => e = .returned v ∧ w' = w :=
  h.mono fun _ _ ⟨a, b⟩ => ⟨a, b.symm⟩

/-! ### Orbits, paths and cells as values -/
abbrev OC (o : Orb) : Array Value := #[.int .i64 o.p, .int .i64 o.f, .int .i64 o.lo, .int .i64 o.hi, .int .i64 o.nd, .int .i64 o.tn, .int .i64 o.sl]
abbrev OV (o : Orb) : Value := .agg #[.int .i64 o.p, .int .i64 o.f, .int .i64 o.lo, .int .i64 o.hi, .int .i64 o.nd, .int .i64 o.tn, .int .i64 o.sl]
abbrev PV (o : Orb) : Value := .agg #[.int .i64 o.p, .int .i64 o.f, .int .i64 o.lo, .int .i64 (o.hi - o.lo), .int .i64 o.nd, .int .i64 o.tn]
abbrev KV (c : Cel) : Value := .agg #[iV c.1.1, iV c.1.2]
abbrev encK (c : Cel) : Array Value := #[.agg #[iV c.1.1, iV c.1.2]]
abbrev encL (c : Cel) : List Value := [iV c.1.1, iV c.1.2]
/-- The values of a list of cells. -/
def cvs : List Cel → List Value
  | [] => []
  | p :: l => iV p.1.1 :: iV p.1.2 :: cvs l
theorem cvs_app : ∀ l m, cvs (l ++ m) = cvs l ++ cvs m
  | [], m => rfl
  | p :: l, m => by
    show iV p.1.1 :: iV p.1.2 :: cvs (l ++ m) = _
    rw [cvs_app l m]; rfl
theorem cvs_len : ∀ l, (cvs l).length = l.length * 2
  | [] => rfl
  | p :: l => by
    show (cvs l).length + 1 + 1 = (l.length + 1) * 2
    rw [cvs_len l]; omega
theorem cvs_at : ∀ (l : List Cel) (i : Nat) (p : Cel), l[i]? = some p → (cvs l)[i * 2]? = some (iV p.1.1) ∧ (cvs l)[i * 2 + 1]? = some (iV p.1.2)
  | [], i, p, h => by simp at h
  | q :: l, 0, p, h => by
    simp at h; subst h
    exact ⟨rfl, rfl⟩
  | q :: l, i + 1, p, h => by
    have := cvs_at l i p (by simpa using h)
    show (iV q.1.1 :: iV q.1.2 :: cvs l)[(i + 1) * 2]? = _ ∧ (iV q.1.1 :: iV q.1.2 :: cvs l)[(i + 1) * 2 + 1]? = _
    rw [show (i + 1) * 2 = i * 2 + 1 + 1 by omega]
    exact this
/-- A slice of cells. -/
def Cs (W : World) (al : Option Addr) (n : Nat) (l : List Cel) : Prop :=
  n = l.length ∧ n ≤ 3000 ∧ (n = 0 ∨ ∃ b, al = some ⟨b, 0, none⟩ ∧ b < W.heap.size ∧ ∀ i p, l[i]? = some p → W.cell? ⟨b, i * 2, none⟩ = some (iV p.1.1) ∧ W.cell? ⟨b, i * 2 + 1, none⟩ = some (iV p.1.2))
theorem Cs.below {W W' : World} {al : Option Addr} {n : Nat} {l : List Cel} (h : Cs W al n l) {B : Nat} (hB : W.heap.size ≤ B) (hb : Below B W W') : Cs W' al n l := by
  obtain ⟨h1, h2, h4⟩ := h
  refine ⟨h1, h2, ?_⟩
  rcases h4 with h4 | ⟨b, rfl, hb', hc⟩
  · exact .inl h4
  · exact .inr ⟨b, rfl, Nat.lt_of_lt_of_le hb' hb.size, fun i p hi =>
      ⟨(hb.cell (p := ⟨b, i * 2, none⟩) (by show b < B; omega)).trans (hc i p hi).1, (hb.cell (p := ⟨b, i * 2 + 1, none⟩) (by show b < B; omega)).trans (hc i p hi).2⟩⟩
theorem Cs.pos {W : World} {al : Option Addr} {n : Nat} {l : List Cel} (h : Cs W al n l) (hn : 0 < l.length) : ∃ b, al = some ⟨b, 0, none⟩ ∧ b < W.heap.size ∧ ∀ i p, l[i]? = some p → W.cell? ⟨b, i * 2, none⟩ = some (iV p.1.1) ∧ W.cell? ⟨b, i * 2 + 1, none⟩ = some (iV p.1.2) := by
  obtain ⟨h1, h2, h4⟩ := h
  rcases h4 with h4 | h4
  · omega
  · exact h4
theorem Cs.of_row {W : World} {n0 : Nat} {e : TypeId} {v : Value} {l : List Cel} (h : W.ownsRow n0 e 2 v l.length (cvs l)) (hl : l.length ≤ 3000) : ∃ al c, v = .slice al l.length c ∧ Cs W al l.length l := by
  rcases h.2 with ⟨rfl, hz⟩ | ⟨g, cap, cur, rfl, hb, hg, h1, h2, h3, h4⟩
  · exact ⟨none, 0, by rw [hz], rfl, hl, .inl hz⟩
  · refine ⟨some ⟨g, 0, none⟩, cap, rfl, rfl, hl, .inr ⟨g, rfl, (Array.getElem?_eq_some_iff.1 hg).1, fun i p hi => ?_⟩⟩
    have hc := cvs_at l i p hi
    have hlt : i < l.length := (List.getElem?_eq_some_iff.1 hi).1
    rw [← h4] at hc
    rw [List.getElem?_take_of_lt (by omega), List.getElem?_take_of_lt (by omega), Array.getElem?_toList, Array.getElem?_toList] at hc
    exact ⟨(cell_of_row W g (i * 2) cur e (0, 0) hg).trans hc.1, (cell_of_row W g (i * 2 + 1) cur e (0, 0) hg).trans hc.2⟩
theorem Cs.put {W : World} {al : Option Addr} {n : Nat} {l : List Cel} (h : Cs W al n l) {k : Nat} {ds : Option (List Deferred)} (hk : W.heap[k]? = some (.deferred ds)) {o : Obj} : Cs (W.putObj k o) al n l := by
  obtain ⟨h1, h2, h4⟩ := h
  refine ⟨h1, h2, ?_⟩
  rcases h4 with h4 | ⟨b, rfl, hb', hc⟩
  · exact .inl h4
  · by_cases e : b = k
    · subst e
      rcases l with _ | ⟨p, l⟩
      · exact .inl h1
      · have := (hc 0 p rfl).1
        simp [World.cell?, hk] at this
    · have hh : (W.putObj k o).heap[b]? = W.heap[b]? := World.putObj_heap_other e
      exact .inr ⟨b, rfl, by simpa using hb', fun i p hi => ⟨(World.cell?_of_block (a := ⟨b, i * 2, none⟩) hh).trans (hc i p hi).1, (World.cell?_of_block (a := ⟨b, i * 2 + 1, none⟩) hh).trans (hc i p hi).2⟩⟩
/-- A call that hands back a slice of cells, and an error. -/
def OutL (w : World) (l : List Cel) (er : Int) (e : Ending) (w' : World) : Prop := ∃ al c, e = .returned (.tuple #[.slice al l.length c, .int .i64 er]) ∧ Cs w' al l.length l ∧ Below w.heap.size w w'
/-! ### A row stored whole, in a drawn region -/
section
variable {P : Program} {ops : Array Oper} {o : Oper} {a : Act} {w : World} {Q : Exit → Act → World → Prop} {K : Act → World → Prop} {E : Prop}
theorem step_store_row (hgd : o.guard = none) (ty : TypeId) (x y : Operand) (ho : o.op = .store ty x y)
    (g : Nat) (cells : Array Value) (hx : a.eval x = .pointer (some ⟨g, 0, none⟩)) (hy : a.eval y = .agg cells) (t : TypeId) (old : Array Value) (hg : w.heap[g]? = some (.cells old t (0, 0)))
    (hi : (P.info? ty).map (·.size) = some cells.size) (hs : old.size = cells.size) (h1 : cells.all (·.oneCell') = true)
    (h : K (a.put o.dst undef) (w.setRow g cells)) : if Region.wanted o (yielded ops a.tmps) = true then Oper.wp P o a w K Q else E := by
  have hw : Region.wanted o (yielded ops a.tmps) = true := by simp [Region.wanted, hgd]
  rw [if_pos hw]
  have hrun := run_storeVar_row (P := P) w g t ty old cells hg hi hs h1
  unfold Oper.wp
  simp only [execOp, ho, hx, hy, Instr.storeAt, Instr.sureAddr, Sem.run_bind, Sem.run_pure, Result.andThen_ok, hrun]
  exact h
end
theorem below_setRow {B : Nat} {w0 w : World} (h : Below B w0 w) {g : Nat} (hg : B ≤ g) (cs : Array Value) : Below B w0 (w.setRow g cs) :=
  ⟨h.os, h.tape, h.output, by rw [setRow_size]; exact h.size, fun k hk => (setRow_other w g k cs (by omega)).trans (h.block k hk)⟩
theorem BX.setRow {W : World} {B : Nat} {cs : Array Value} {t : TypeId} (h : BX W B cs t) (ds : Array Value) : BX (W.setRow B ds) B ds t := setRow_heap W B cs ds t (0, 0) h
theorem BX.other {W : World} {B g : Nat} {cs : Array Value} {t : TypeId} (h : BX W B cs t) (hne : B ≠ g) (ds : Array Value) : BX (W.setRow g ds) B cs t := (setRow_other W g B ds hne).trans h
theorem BX.far {W : World} {B g i : Nat} {cs : Array Value} {t : TypeId} (h : BX W B cs t) (hne : B ≠ g) (v : Value) : BX (W.setCell ⟨g, i, none⟩ v) B cs t := (heap_setCell_other _ _ _ _ hne).trans h
theorem BX.put {W : World} {B i : Nat} {cs : Array Value} {t : TypeId} (h : BX W B cs t) (v : Value) : BX (W.setCell ⟨B, i, none⟩ v) B (cs.setIfInBounds i v) t := heap_setCell_same _ _ _ _ _ _ h
theorem results_row_tmp {P : Program} {fn : Func} {p u : Tmp} {ty : TypeId} (h : fn.results = #[.cell p ty, .tmp u]) (tmps : Array Value) (w : World) (g : Nat) (t : TypeId) (cs : Array Value) (fr : Nat × Nat) (d : TypeDesc)
    (hp : tmps.getD p undef = .pointer (some ⟨g, 0, none⟩)) (hg : w.heap[g]? = some (.cells cs t fr))
    (hu : P.underlying ty = some d) (hd : (match d with | .struct _ | .array _ _ => true | _ => false) = true) (hi : (P.info? ty).map (·.size) = some cs.size) (v : Value) (hv : tmps.getD u undef = v) :
    (results fn tmps).run P w = .ok (.tuple #[.agg cs, v]) w := by
  rw [results_cell_tmp h, hp, hv]
  simp only [asAddr, Sem.run_pure, Result.andThen_ok]
  rw [run_loadVar_row (P := P) w g t ty cs fr d hg hu hd hi]
  rfl
theorem sizeCell : (Try.prog.info? 38).map (·.size) = some 2 := by kernel_rfl
theorem sizePath : (Try.prog.info? 63).map (·.size) = some 6 := by kernel_rfl
theorem sizeOrbit : (Try.prog.info? 24).map (·.size) = some 7 := by kernel_rfl
end Go.Proofs.Ytdomgielpofbhaa
