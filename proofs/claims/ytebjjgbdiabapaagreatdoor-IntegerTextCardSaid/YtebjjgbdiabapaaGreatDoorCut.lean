/- Cuts of a list of numbers. -/
import Derived.Test.YtebjjgbdiabapaaGreatDoorBwd
namespace Go.Proofs.YtebjjgbdiabapaaGreatDoor
open Go.RowKit Go.Shelf

theorem run_cut_end (al : Option Addr) (n : Nat) (w : World) :
    (Instr.slice 47 (.slice al n n) (some (.int .i64 n)) none none).run Tryz.prog w = .ok (.slice al 0 0) w := by
  obtain ⟨i0, hi, hz0, hz1, hz2⟩ := info_parts infoInt
  cases al <;> simp [Instr.slice, Instr.sliceBounds, Instr.sliceBound, asIntOf, run_underlying Tryz.underlying47, sizeOf, typeInfo, hi, go_sem]
theorem cut_from_ls (w : World) (v : Value) (zs : List Int) (h : Nat) (hl : Ls w v zs) (hh : h ≤ zs.length) :
    ∃ v', (∀ W, (Instr.slice 47 v (some (.int .i64 h)) none none).run Tryz.prog W = .ok v' W) ∧ Ls w v' (zs.drop h) := by
  rcases hl with ⟨rfl, rfl⟩ | ⟨b, o, c, rfl, hc, hlt, hcell⟩
  · obtain rfl : h = 0 := by simpa using hh
    exact ⟨.slice none 0 0, fun W => run_cut_end none 0 W, Ls.nil w⟩
  · rcases Nat.lt_or_ge h c with h1 | h1
    · refine ⟨_, fun W => run_cut_from (P := Tryz.prog) 47 3 1 Tryz.underlying47 sizeInt b o zs.length c h hh h1 W, ?_⟩
      rw [Nat.mul_one]
      refine .inr ⟨b, o + h, c - h, by rw [List.length_drop], by rw [List.length_drop]; omega, hlt, fun i hi => ?_⟩
      rw [List.length_drop] at hi
      rw [List.getElem?_drop, Nat.add_assoc]
      exact hcell (h + i) (by omega)
    · have e1 : c = h := by omega
      have e2 : zs.length = h := by omega
      subst e1
      rw [e2]
      refine ⟨_, fun W => run_cut_end _ c W, ?_⟩
      rw [List.drop_eq_nil_of_le (by omega)]
      exact .inr ⟨b, o, 0, rfl, Nat.le_refl _, hlt, fun i hi => by simp at hi⟩
theorem cut_to_ls (w : World) (v : Value) (zs : List Int) (h : Nat) (hl : Ls w v zs) (hh : h ≤ zs.length) :
    ∃ v', (∀ W, (Instr.slice 47 v none (some (.int .i64 h)) none).run Tryz.prog W = .ok v' W) ∧ Ls w v' (zs.take h) := by
  obtain ⟨al, c, rfl, hc⟩ := hl.shape
  refine ⟨_, fun W => run_cut_to (P := Tryz.prog) 47 3 1 Tryz.underlying47 sizeInt al zs.length c h (by omega) W, ?_⟩
  rcases hl with ⟨h1, rfl⟩ | ⟨b, o, c', h1, hc', hlt, hcell⟩
  · obtain rfl : h = 0 := by simpa using hh
    cases h1
    exact Ls.nil w
  · cases h1
    refine .inr ⟨b, o, c, by rw [List.length_take, Nat.min_eq_left hh], by rw [List.length_take]; omega, hlt, fun i hi => ?_⟩
    rw [List.length_take] at hi
    rw [List.getElem?_take, if_pos (by omega)]
    exact hcell i (by omega)
end Go.Proofs.YtebjjgbdiabapaaGreatDoor
