/- A range over an iterator that keeps an array of its own between two rounds: a body that goes on always, and turns one block alone. -/
import Derived.RangeFuncNested
import Derived.RangeFuncBound
import Derived.RangeFuncCalls
import Derived.RangeFuncLeaves
import Derived.RangeFuncBox
import Derived.RangeFuncWrites
namespace Go.Proofs.YtiilkjonbfllfaaDoor
open Go.RowKit
section
variable {F : Fence} {n : Nat} {P : Program}

/-- Whatever lay lies as it lay, the blocks b and l apart. -/
def KeptBut (b l : Nat) (W W' : World) : Prop := W.heap.size ≤ W'.heap.size ∧ ∀ k, k < W.heap.size → k ≠ b → k ≠ l → W'.heap[k]? = W.heap[k]?

/-- The iterator's promise: for every J that abides what is written from its start on, the rounds that go on bring J along. -/
def SeqBut {α : Type} (F : Fence) (n : Nat) (P : Program) (gf b l : Nat) (lb : Array Value) (encs : α → Array Value) (S : List α → Prop) (N : Nat) (W1 : World) : Prop :=
  ∀ J : List α → World → Prop,
    (∀ s A B row, J s A → A.grownBy B row → (∀ r, row = some r → W1.heap.size ≤ r) → J s B) →
    (∀ pre x W, J pre W → pre.length < N → YieldAt F (n - 1) P l (encs x) W fun e W' => e = .returned (.bool true) ∧ J (pre ++ [x]) W' ∧ KeptBut b l W W') →
    J [] W1 → CallsIn F n P gf (#[.func (.yield l) #[] #[]] ++ lb) W1 fun e W' => (∃ v, e = .returned v) ∧ ∃ xs, S xs ∧ J xs W'

theorem rangeOver {α : Type} {g : Operand} {ps : Array Tmp} {assign body : Code} {Q : Exit → Act → World → Prop} {a : Act} {w : World} (hro : F.round = none) (h1 : 1 ≤ n)
    {gf : Nat} {lb : Array Value} (hg : a.eval g = .func (.func gf) #[] lb) (hFg : F.fn gf) (eg : ∀ args w, (callFunc gf args).run P w = .ok (.enter gf args) w)
    {encs : α → Array Value} (hps : ∀ x, (encs x).size = ps.size) {S : List α → Prop} {N : Nat} (b : Nat) (hb : b < w.heap.size)
    (hseq : ∀ W1 : World, W1.heap.size = w.heap.size + 2 → (∀ k, k < w.heap.size → W1.heap[k]? = w.heap[k]?) → SeqBut F (n - 1) P gf b (w.heap.size + 1) lb encs S N W1)
    (I : List α → World → Prop) (hI : ∀ s A B row, I s A → A.grownBy B row → (∀ r, row = some r → w.heap.size ≤ r) → I s B) (h0 : I [] w) (Ax : α → Act → World → Prop)
    (hAx : ∀ x a' A o, Ax x a' A → Ax x a' (A.putObj (w.heap.size + 1) o))
    (hassign : ∀ (l : Nat) (pre : List α) (x : α) (W : World) (K : Act → World → Prop), I pre W → w.heap.size + 1 < W.heap.size → (∀ a' W', W.grownBy W' none → I pre W' → Ax x a' W' → K a' W') →
      assign.wpIn (F.inRound l) (n - 1 - 1) P (Exit.then K (fun _ _ _ => False)) { tmps := (ps.zip (encs x)).foldl (fun t (p, v) => t.setIfInBounds p v) a.tmps, defers := [] } W)
    (hbody : ∀ (l : Nat) (pre : List α) (x : α) (a' : Act) (W : World), I pre W → Ax x a' W → pre.length < N → w.heap.size < W.heap.size →
      body.wpIn (F.inRound l) (n - 1 - 1) P (fun e _ W' => e = .normal ∧ W.grownBy W' (some b) ∧ I (pre ++ [x]) W') a' W)
    (hdone : ∀ (xs : List α) (W : World), S xs → I xs W → W.heap[w.heap.size]? = some (.deferred (some [])) → Q .normal { a with defers := { target := .collected w.heap.size, args := #[] } :: a.defers } W) :
    (Code.rangeFunc g ps assign body).wpIn F n P Q a w := by
  refine wpIn_rangeFunc ?_
  intro fn hfn
  rw [hro]
  obtain ⟨rec, hrec⟩ : ∃ rec : LoopState → Option Code → Loop, rec = fun st pe => { state := st, pending := pe, fn, tmps := a.tmps, params := ps, assign, body, defers := w.heap.size } := ⟨_, rfl⟩
  obtain ⟨W1, hW1⟩ : ∃ W1, (w.alloc (.deferred (some []))).alloc (.loop (rec .ready none)) = W1 := ⟨_, rfl⟩
  have hz1 : W1.heap.size = w.heap.size + 2 := by rw [← hW1]; simp
  have hL1 : W1.heap[w.heap.size + 1]? = some (.loop (rec .ready none)) := by
    rw [← hW1]; have := World.alloc_heap_new (w.alloc (.deferred (some []))) (.loop (rec .ready none)); rwa [World.size_alloc] at this
  have hK1 : W1.heap[w.heap.size]? = some (.deferred (some [])) := by
    rw [← hW1]; exact (Below.heap_alloc _ _ _ (by simp)).trans (World.alloc_heap_new w _)
  have hold : ∀ k, k < w.heap.size → W1.heap[k]? = w.heap[k]? := fun k hk => by
    rw [← hW1]; exact (Below.heap_alloc _ _ _ (by simp; omega)).trans (Below.heap_alloc _ _ _ hk)
  have hal : ∀ {s : List α} {A : World} (o : Obj), I s A → I s (A.alloc o) := fun o h => hI _ _ _ none h (World.grownBy_alloc _ o none) (fun r e => by cases e)
  have hput : ∀ {s : List α} {A : World} (l : Nat) (o : Obj), w.heap.size ≤ l → I s A → I s (A.putObj l o) := fun l o hl h => hI _ _ _ (some l) h (grownBy_putObj' _ l o) (fun r e => by cases e; exact hl)
  have hI1 : I [] W1 := by rw [← hW1]; exact hal _ (hal _ h0)
  refine ⟨w.heap.size + 1, [{ target := .collected w.heap.size, args := #[] }], W1, { target := .fn (.func gf) lb, args := #[.func (.yield (w.heap.size + 1)) #[] #[]] }, W1, gf,
    #[.func (.yield (w.heap.size + 1)) #[] #[]] ++ lb, W1, ?_, ?_, ?_, ?_, fun _ => h1, ?_⟩
  · rw [← hW1, hrec]; exact run_enterLoop_outer _ _ _ _ _
  · simp only [resolve, hg]
    simp [go_sem]
  · intro f' hf'; simp [Target.leads] at hf'; subst hf'; exact hFg
  · simp [invoke, go_sem, eg]
  · refine (hseq W1 hz1 hold
      (fun pre W => I pre W ∧ W.heap[w.heap.size + 1]? = some (.loop (rec .ready none)) ∧ W.heap[w.heap.size]? = some (.deferred (some []))) ?_ ?_ ⟨hI1, hL1, hK1⟩).mono ?_
    · rintro s A B row ⟨hi, hl, hk⟩ hg' hr
      have far : ∀ k, k < w.heap.size + 2 → some k ≠ row := fun k hk e => by have := hr k e.symm; omega
      exact ⟨hI _ _ _ row hi hg' (fun r e => by have := hr r e; omega), (hg'.block _ (Array.getElem?_eq_some_iff.1 hl).1 (far _ (by omega))).trans hl, (hg'.block _ (Array.getElem?_eq_some_iff.1 hk).1 (far _ (by omega))).trans hk⟩
    · rintro pre x W ⟨hi, hl, hk⟩ hlen
      have hlt : w.heap.size + 1 < W.heap.size := (Array.getElem?_eq_some_iff.1 hl).1
      have hy := run_yield (P := P) (args := encs x) hl (by rw [hrec]; exact hps x)
      rw [hrec] at hy
      refine ⟨fn, _, assign, body, hy, roundIn_of_wpIn hfn (hassign _ pre x W _ hi hlt ?_)⟩
      clear hy
      intro a' Wa hga hia hax
      have hla : Wa.heap[w.heap.size + 1]? = some (.loop (rec .ready none)) := (hga.block _ hlt (fun e => by cases e)).trans hl
      have hka : Wa.heap[w.heap.size]? = some (.deferred (some [])) := (hga.block _ (by omega) (fun e => by cases e)).trans hk
      have hza := hga.size
      refine ⟨_, run_beginRound hla (by rw [hrec]), ?_⟩
      obtain ⟨V, hV⟩ : ∃ V, Wa.putObj (w.heap.size + 1) (.loop { rec .ready none with state := .busy }) = V := ⟨_, rfl⟩
      have hVz : V.heap.size = Wa.heap.size := by rw [← hV]; simp
      have hl2 : V.heap[w.heap.size + 1]? = some (.loop { rec .ready none with state := .busy }) := by rw [← hV]; exact World.putObj_heap_same (by omega)
      have hk2 : V.heap[w.heap.size]? = some (.deferred (some [])) := by rw [← hV]; exact (World.putObj_heap_other (by omega)).trans hka
      have hoV : ∀ k, k ≠ w.heap.size + 1 → V.heap[k]? = Wa.heap[k]? := fun k h => by rw [← hV]; exact World.putObj_heap_other h
      have hiV : I pre V := by rw [← hV]; exact hput _ _ (by omega) hia
      have haV : Ax x a' V := by rw [← hV]; exact hAx _ _ _ _ hax
      rw [hV]
      refine wpIn_mono (hbody _ pre x a' V hiV haV hlen (by omega)) ?_
      rintro e a3 W3 ⟨rfl, hg3, hi3⟩
      have hl3 : W3.heap[w.heap.size + 1]? = some (.loop { rec .ready none with state := .busy }) := (hg3.block _ (by omega) (fun e => by cases e; omega)).trans hl2
      have hk3 : W3.heap[w.heap.size]? = some (.deferred (some [])) := (hg3.block _ (by omega) (fun e => by cases e; omega)).trans hk2
      have hr := run_endRound (P := P) none hl3
      rw [hrec] at hr
      have hl3' := hl3
      rw [hrec] at hl3'
      refine ⟨_, _, hr, rfl, ⟨hput _ _ (by omega) hi3, ?_, (World.putObj_heap_other (by omega)).trans hk3⟩, ?_, ?_⟩
      · rw [hrec]; exact World.putObj_heap_same (Array.getElem?_eq_some_iff.1 hl3).1
      · have := hg3.size; simp; omega
      · intro k hk' hkb hkl
        exact (World.putObj_heap_other hkl).trans ((hg3.block k (by omega) (fun e => hkb (by cases e; rfl))).trans ((hoV k hkl).trans (hga.block k hk' (fun e => by cases e))))
    · rintro e W2 ⟨⟨v, rfl⟩, xs, hS, hi, hl, hk⟩
      exact ⟨none, _, by have := run_endLoop (P := P) hl (by rw [hrec]; simp); rw [hrec] at this; exact this, hdone xs _ hS (hput _ _ (by omega) hi) ((World.putObj_heap_other (by omega)).trans hk)⟩
end
end Go.Proofs.YtiilkjonbfllfaaDoor
