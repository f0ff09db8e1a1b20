/- A slice cut at one end or at both: what the cut gives, for every world. -/
import Derived.WalkKit
import Derived.WalkSpells
namespace Go.Proofs.YtipfafglbkbafaaDoor
open Go.RowKit
section
variable {P : Program}
theorem run_cut_to (t e : TypeId) (sz : Nat) (hu : P.underlying t = some (.slice e)) (hs : (P.info? e).map (·.size) = some sz) (al : Option Addr) (n c h : Nat) (hh : h ≤ c) (w : World) :
    (Instr.slice t (.slice al n c) none (some (.int .i64 h)) none).run P w = .ok (.slice al h c) w := by
  cases hq : P.info? e with
  | none => simp [hq] at hs
  | some i =>
    cases al <;> simp [Instr.slice, Instr.sliceBounds, Instr.sliceBound, asIntOf, run_underlying hu, sizeOf, typeInfo, hq, go_sem] <;> intro h' <;> omega
theorem run_cut_from (t e : TypeId) (sz : Nat) (hu : P.underlying t = some (.slice e)) (hs : (P.info? e).map (·.size) = some sz) (g o n c h : Nat) (hh : h ≤ n) (hc : h < c) (w : World) :
    (Instr.slice t (.slice (some ⟨g, o, none⟩) n c) (some (.int .i64 h)) none none).run P w = .ok (.slice (some ⟨g, o + h * sz, none⟩) (n - h) (c - h)) w := by
  have h1 : ¬ c = h := by omega
  cases hq : P.info? e with
  | none => simp [hq] at hs
  | some i =>
    have hz : i.size = sz := by simpa [hq] using hs
    simp [Instr.slice, Instr.sliceBounds, Instr.sliceBound, asIntOf, run_underlying hu, sizeOf, typeInfo, hq, h1, hz, Addr.add, go_sem]
    rw [if_pos hh]
    by_cases h0 : h * sz = 0
    · rw [if_pos h0, h0, Nat.add_zero]
    · rw [if_neg h0]
theorem run_cut_both (t e : TypeId) (sz : Nat) (hu : P.underlying t = some (.slice e)) (hs : (P.info? e).map (·.size) = some sz) (g o n c l h : Nat) (hl : l ≤ h) (hh : h ≤ c) (hc : l < c) (w : World) :
    (Instr.slice t (.slice (some ⟨g, o, none⟩) n c) (some (.int .i64 l)) (some (.int .i64 h)) none).run P w = .ok (.slice (some ⟨g, o + l * sz, none⟩) (h - l) (c - l)) w := by
  have h1 : ¬ c = l := by omega
  cases hq : P.info? e with
  | none => simp [hq] at hs
  | some i =>
    have hz : i.size = sz := by simpa [hq] using hs
    simp [Instr.slice, Instr.sliceBounds, Instr.sliceBound, asIntOf, run_underlying hu, sizeOf, typeInfo, hq, h1, hz, Addr.add, go_sem]
    rw [if_pos hh, if_pos hl]
    by_cases h0 : l * sz = 0
    · rw [if_pos h0, h0, Nat.add_zero]
    · rw [if_neg h0]
end
end Go.Proofs.YtipfafglbkbafaaDoor
