/- slices.Clone, walked; a list of numbers of a call's own. -/
import Derived.Lib.SliceRun
import Derived.Test.YtebjjgbdiabapaaGreatDoorCar
namespace Go.Proofs.YtebjjgbdiabapaaGreatDoor
open Go.RowKit

/-- A row of the call's own that reads as the list. -/
def RowOut (w : World) (zs : List Int) (e : Ending) (w' : World) : Prop := ∃ v', e = .returned v' ∧ w'.ownsRow w.heap.size 3 1 v' zs.length (zs.map (Value.int .i64)) ∧ Below w.heap.size w w'
theorem ls_cells {w w' : World} {B b o : Nat} {zs : List Int} (hb : Below B w w') (hlt : b < B) (hc : ∀ i, i < zs.length → w.cell? ⟨b, o + i, none⟩ = some (.int .i64 (zs[i]?.getD 0))) :
    ∀ j u, (zs.map (Value.int .i64))[j]? = some u → w'.cell? ((⟨b, o, none⟩ : Addr).add j) = some u := by
  intro j u hu
  have hj : j < zs.length := by
    by_cases h : j < zs.length
    · exact h
    · rw [List.getElem?_eq_none (by simp; omega)] at hu; cases hu
  rw [Go.WideShapes.add_plain, hb.cell (p := ⟨b, o + j, none⟩) hlt, hc j hj]
  rw [List.getElem?_map, List.getElem?_eq_getElem hj] at hu
  rw [List.getElem?_eq_getElem hj]
  exact hu
theorem ints_one (zs : List Int) : ∀ u ∈ zs.map (Value.int .i64), u.oneCell' = true := by
  intro u hu
  obtain ⟨z, _, rfl⟩ := List.mem_map.1 hu
  rfl

set_option maxRecDepth 100000 in
set_option maxHeartbeats 1000000 in
theorem clone_row (w : World) (v : Value) (zs : List Int) (h : Ls w v zs) (hN : zs.length ≤ 100000) :
    Calls Tryz.prog 75 #[v] w (RowOut w zs) := by
  obtain ⟨i0, hi, hz0, hz1, hz2⟩ := info_parts infoInt
  have q22 : ∀ (w : World) (a : Option Addr) (n c n' c' : Nat), (binOp .eql 47 (.slice a n c) (.slice none n' c')).run Tryz.prog w = .ok (.bool a.isNone) w := fun w a n c n' c' => Lib.run_eql_slice_nil w _ _ a n c n' c' Tryz.underlying47
  rcases h with ⟨rfl, rfl⟩ | ⟨b, o, c, rfl, hc, hlt, hcell⟩
  · go_enter Tryz.func75, Tryz.ntmps75
    go_wp2
    go_ret
    exact ⟨_, rfl, World.ownsRow_nil _ _ _ _, Below.refl _ _⟩
  · obtain ⟨N, hNe⟩ : ∃ N, zs.length = N := ⟨_, rfl⟩
    have HC := Lib.hid hcell
    have HN := Lib.hid hNe
    rw [hNe] at hc hN
    rw [hNe]
    have hlit : (w.alloc (.cells #[] 3)).ownsRow w.heap.size 3 1 (.slice (some ⟨w.heap.size, 0, none⟩) 0 0) 0 [] := World.ownsRow_lit w #[] 0 (Nat.le_refl _) (by decide) rfl
    clear hcell hNe
    go_enter Tryz.func75, Tryz.ntmps75
    go_wp2_with (at_builtin; refine wpList_append_own _ rfl _ _ 47 rfl w.heap.size 3 i0 (.int .i64 0) 1 8 Tryz.underlying47 hi hz0 hz1 hz2 rfl (by decide) _ _ _ rfl hlit ⟨b, o, none⟩ N c (zs.map (Value.int .i64)) rfl (by rw [List.length_map, HN.out, Nat.mul_one]) (ls_cells ((Below.refl _ w).alloc (Nat.le_refl _) _) hlt HC.out) (ints_one zs) (by unfold maxLen; omega) (by omega) (by simp) ?_; intro v' w1 hown' hgrow _; have hb2 := Lib.hid (((Below.refl _ w).alloc (Nat.le_refl _) _).grown hgrow (by simp) (ownNone hlit)); have HO := Lib.hid hown'; clear hown')
    go_ret
    refine ⟨_, rfl, ?_, hb2.out⟩
    have := HO.out
    rw [HN.out]
    simpa using this
end Go.Proofs.YtebjjgbdiabapaaGreatDoor
