/- Elements written out and put behind a list of the call's own: one law for a list of operations, one for a region that draws its order. -/
import Derived.WalkKit
import Derived.Below
import Derived.OwnWalk
import Derived.Deep.AppendLies
import Derived.Laws.Rows
namespace Go.Proofs.YtebjjgbdiabapaaGreatDoor
open Go.RowKit
theorem lit_lt {w : World} {base : Nat} {e : TypeId} {size : Nat} {v : Value} {n : Nat} {xs : List Value} (h : w.ownsRow base e size v n xs) : ∀ k, v.ownBlock = some k → base ≤ k := fun k hk => (h.lt k hk).1
section
variable {P : Program} {w1 w0 : World} {ops : Array Oper} {rest : List Oper} {o : Oper} {a : Act} {Q : Exit → Act → World → Prop}
theorem wpList_append_lit (hgd : o.guard = none) (s x : Operand) (t e : TypeId)
    (ho : o.op = .call { callee := .builtin .append, args := #[s, x], argTypes := #[t, t] })
    {i0 : TypeInfo} {z : Value} {bytes : Nat} (hu : P.underlying t = some (.slice e)) (hi : P.info? e = some i0) (hz0 : i0.zero = some z) (hz1 : i0.size = 1) (hz2 : i0.bytes = bytes) (hzc : z.cells.size = 1)
    (B : Nat) (v : Value) (n : Nat) (xs : List Value) (hs : a.eval s = v) (hown : w1.ownsRow B e 1 v n xs)
    (cs : Array Value) (c : Nat) (hx : a.eval x = .slice (some ⟨w1.heap.size, 0, none⟩) cs.size c) (h1 : ∀ u ∈ cs.toList, u.oneCell' = true)
    (hnm : n + cs.size ≤ 10000000) (hby : bytes ≤ 16) (hB : B ≤ w1.heap.size) (hb : Below B w0 w1)
    (h : ∀ v' w', w'.ownsRow B e 1 v' (n + cs.size) (xs ++ cs.toList) → Below B w0 w' → wpList P ops Q rest (a.put o.dst v') w') :
    wpList P ops Q (o :: rest) a (w1.alloc (.cells cs e)) := by
  have h16 : (n + cs.size) * bytes ≤ 10000000 * 16 := Nat.mul_le_mul hnm hby
  have hB2 : B ≤ (w1.alloc (.cells cs e)).heap.size := by simp; omega
  refine wpList_append_own (w1.alloc (.cells cs e)) hgd s x t ho B e i0 z 1 bytes hu hi hz0 hz1 hz2 hzc (by decide) v n xs hs (hown.alloc _) ⟨w1.heap.size, 0, none⟩ cs.size c cs.toList hx (by simp) (World.news_of_block (heap_alloc_new w1 _)) h1 (by unfold maxLen; omega) (by omega) hB2 ?_
  intro v' w' ho' hg _
  exact h v' w' ho' ((hb.alloc hB _).grown hg hB2 (lit_lt hown))
theorem step_append_lit {K : Act → World → Prop} {E : Prop} (hgd : o.guard = none) (s x : Operand) (t e : TypeId)
    (ho : o.op = .call { callee := .builtin .append, args := #[s, x], argTypes := #[t, t] })
    {i0 : TypeInfo} {z : Value} {bytes : Nat} (hu : P.underlying t = some (.slice e)) (hi : P.info? e = some i0) (hz0 : i0.zero = some z) (hz1 : i0.size = 1) (hz2 : i0.bytes = bytes) (hzc : z.cells.size = 1)
    (B : Nat) (v : Value) (n : Nat) (xs : List Value) (hs : a.eval s = v) (hown : w1.ownsRow B e 1 v n xs)
    (cs : Array Value) (c : Nat) (hx : a.eval x = .slice (some ⟨w1.heap.size, 0, none⟩) cs.size c) (h1 : ∀ u ∈ cs.toList, u.oneCell' = true) (h0 : 0 < cs.size)
    (hnm : n + cs.size ≤ 10000000) (hby : bytes ≤ 16) (hB : B ≤ w1.heap.size) (hb : Below B w0 w1)
    (h : ∀ g cap w', w'.ownsRow B e 1 (.slice (some ⟨g, 0, none⟩) (n + cs.size) cap) (n + cs.size) (xs ++ cs.toList) → Below B w0 w' → (v.ownBlock = some g ∨ g = w1.heap.size + 1) → g < w'.heap.size → K (a.put o.dst (.slice (some ⟨g, 0, none⟩) (n + cs.size) cap)) w') :
    if Region.wanted o (yielded ops a.tmps) = true then Oper.wp P o a ((w1.alloc (.cells cs e)).drew) K Q else E := by
  have h16 : (n + cs.size) * bytes ≤ 10000000 * 16 := Nat.mul_le_mul hnm hby
  have hB2 : B ≤ ((w1.alloc (.cells cs e)).drew).heap.size := by simp; omega
  refine step_append_lies _ hgd s x t ho B e i0 z 1 bytes hu hi hz0 hz1 hz2 hzc (by decide) v n xs hs ((hown.alloc _).drew) ⟨w1.heap.size, 0, none⟩ cs.size c cs.toList hx (by simp) (World.news_of_block (heap_alloc_new w1 _)) h1 h0 (by unfold maxLen; omega) (by omega) hB2 (w1.heap.size + 1) (by simp) ?_
  intro g cap w' ho' hg hat hlt
  exact h g cap w' ho' (((hb.alloc hB _).drew).grown hg hB2 (lit_lt hown)) hat hlt
end
end Go.Proofs.YtebjjgbdiabapaaGreatDoor
