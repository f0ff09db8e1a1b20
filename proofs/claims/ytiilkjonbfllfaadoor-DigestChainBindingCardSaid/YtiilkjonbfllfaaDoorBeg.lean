/- besideBeginning, walked. -/
import Derived.Test.YtiilkjonbfllfaaDoorRts
namespace Go.Proofs.YtiilkjonbfllfaaDoor
open Go.RowKit

theorem bsB_any (n i : Nat) (hi : i < n) (hn : n ≤ 9223372036854775807) (w : World) :
    Calls Tryd.prog 46 #[.int .i64 n, .int .i64 (i + 1 : Nat)] w fun e w' => ∃ v, e = .returned (.tuple #[.agg #[i64V (dB n (i + 1)).1.1, i64V (dB n (i + 1)).1.2], v]) ∧ SpHeld w' w.heap.size v (dB n (i + 1)).2.reverse ∧ Below w.heap.size w w' := by
  have hi1 : IntKind.i64.wrap (((i + 1 : Nat) : Int) - 1) = i := by rw [IntWalk.i64_in _ ⟨by omega, by omega⟩]; omega
  go_enter Tryd.func46, Tryd.ntmps46
  go_wp2_with fail
  refine (descB_any n i w.heap.size hi hn _ ?hc).mono ?_
  case hc => go_simp
  rintro e w1 ⟨v, rfl, hsp, hb⟩
  obtain ⟨d, hd⟩ : ∃ d, dscR (stopB (i + 1)) 0 n i = d := ⟨_, rfl⟩
  rw [hd] at hsp ⊢
  have HD := Lib.hid (show dB n (i + 1) = d from hd)
  clear hd
  have hB : Below w.heap.size w w1 := (((Below.refl _ _).alloc (Nat.le_refl _) _).alloc (by simp) _).trans (hb.mono (by simp; omega))
  have h4 : w1.heap[w.heap.size + 1]? = some (.cells #[i64V 0, i64V 0] 57 (0, 0)) := (hb.block _ (by simp)).trans (heap_new' _ _ _ (by simp))
  have H4 := Lib.hid h4
  have q2 : w1.cell? ⟨w.heap.size + 1, 0, none⟩ = some (i64V 0) := by rw [cell_of_row _ _ _ _ _ _ h4]; rfl
  have q3 : w1.cell? ⟨w.heap.size + 1, 1, none⟩ = some (i64V 0) := by rw [cell_of_row _ _ _ _ _ _ h4]; rfl
  have q4 := frozen_of_row _ _ 0 _ _ h4
  have q5 := frozen_of_row _ _ 1 _ _ h4
  have HSP := Lib.hid hsp
  have R0 := Lib.hid (show (w1.setCell ⟨w.heap.size + 1, 0, none⟩ (.int .i64 d.1.1)).cell? ⟨w.heap.size + 1, 0, none⟩ = some (.int .i64 d.1.1) by rw [cell_of_row _ _ _ _ _ _ (heap_setCell_same _ _ _ _ _ _ h4)]; rfl)
  have R1 := Lib.hid (show ((w1.setCell ⟨w.heap.size + 1, 0, none⟩ (.int .i64 d.1.1)).setCell ⟨w.heap.size + 1, 1, none⟩ (.int .i64 d.1.2)).cell? ⟨w.heap.size + 1, 1, none⟩ = some (.int .i64 d.1.2) by rw [cell_of_row _ _ _ _ _ _ (row2_set h4)]; rfl)
  clear h4 hsp hb
  go_wp2_with fail
  refine bodyPost_ret (v := .tuple #[.agg #[i64V d.1.1, i64V d.1.2], v]) (by simp [results, Tryd.results46, R0.out, R1.out, go_sem]) rfl ⟨v, by rw [HD.out], ?_, (hB.setCell (by simp) _).setCell (by simp) _⟩
  rw [HD.out]
  rcases HSP.out with ⟨h1, h2⟩ | ⟨g, c, h1, h2, h3, h4⟩
  · exact .inl ⟨h1, h2⟩
  · simp at h2
    exact .inr ⟨g, c, h1, by omega, sprow_other (sprow_other h3 (by omega)) (by omega), h4⟩
end Go.Proofs.YtiilkjonbfllfaaDoor
