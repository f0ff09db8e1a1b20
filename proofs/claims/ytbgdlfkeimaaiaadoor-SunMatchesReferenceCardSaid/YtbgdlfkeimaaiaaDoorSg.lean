/- Next where it is refused; Next for whatever arguments. -/
import Derived.Test.YtbgdlfkeimaaiaaDoorSf
namespace Go.Proofs.YtbgdlfkeimaaiaaDoor
open Go.RowKit Go.Shelf
attribute [local go_sem] Oper.semAt_some
set_option linter.unusedSimpArgs false
set_option linter.unusedVariables false
theorem nx_blocksZ (w : World) (x y : Int) (lit : Bool) : ∃ W0 b1 b2 b3, (((w.alloc (.cells #[.int .i64 x, .int .i64 y] 23)).alloc (.cells #[.bool lit] 4)).alloc (.cells #[.int .i64 0] 3)).alloc (.cells #[.int .i64 0] 34) = W0 ∧
    w.heap.size + 1 = b1 ∧ b1 + 1 = b2 ∧ b2 + 1 = b3 ∧ W0.heap.size = b3 + 1 ∧ Below w.heap.size w W0 ∧ (W0.cell? ⟨w.heap.size, 0, none⟩ = some (.int .i64 x) ∧ W0.cell? ⟨w.heap.size, 1, none⟩ = some (.int .i64 y)) ∧
    BX W0 b2 #[.int .i64 0] 3 ∧ BX W0 b3 #[.int .i64 0] 34 := by
  refine ⟨_, _, _, _, rfl, rfl, rfl, rfl, by simp, ((((Below.refl _ w).alloc (Nat.le_refl _) _).alloc (by simp) _).alloc (by simp <;> omega) _).alloc (by simp <;> omega) _, ?_, (BX.new (by simp)).alloc _, BX.new (by simp)⟩
  have h : BX ((((w.alloc (.cells #[.int .i64 x, .int .i64 y] 23)).alloc (.cells #[.bool lit] 4)).alloc (.cells #[.int .i64 0] 3)).alloc (.cells #[.int .i64 0] 34)) w.heap.size #[.int .i64 x, .int .i64 y] 23 := (((BX.new rfl).alloc _).alloc _).alloc _
  exact ⟨h.cell 0, h.cell 1⟩
set_option maxRecDepth 100000 in
set_option maxHeartbeats 1000000 in
theorem nextS_no (x y t : Int) (lit : Bool) (h : isSun x y t = false) (w : World) :
    Calls Tryd.prog 20 #[CV x y, .int .i64 t, .bool lit] w fun e w' => e = .returned (.tuple #[.int .i64 0, .int .i64 60]) ∧ Below w.heap.size w w' := by
  refine callsIn_wide (n := 5) |>.1 ?_
  obtain ⟨W0, b1, b2, b3, hW0, e1, e2, e3, hz, hB, ⟨hc0, hc1⟩, hr, he⟩ := nx_blocksZ w x y lit
  have HE := Lib.hid (And.intro e1 (And.intro e2 (And.intro e3 hz)))
  have HB := Lib.hid hB
  have HR := Lib.hid (And.intro hr he)
  have HX := Lib.hid h
  clear hB hz hr he h
  have hf38 : Fence.wide.fn 38 := trivial
  have hf33 : Fence.wide.fn 33 := trivial
  refine callsIn_of_wp_marks Tryd.func20 rfl trivial ?_ rfl
  simp only [Tryd.ntmps20, List.size_toArray, List.length_cons, List.length_nil, Nat.reduceAdd, Nat.reduceSub, Array.replicate_succ, Array.replicate_zero, List.push_toArray, List.append_toArray, List.nil_append, List.cons_append]
  gi_wp2_with fail
  (with_reducible refine (callsIn_wide.2 (validCell_any _ _ _)).mono ?_)
  rintro e w1 ⟨rfl, hb1⟩
  have HR1 := Lib.hid (And.intro (HR.out.1.next hb1) (HR.out.2.next hb1))
  have HB1 := Lib.hid (below_tr HB.out hb1)
  clear hb1 hW0 e1 e2 e3 hc0 hc1 HR HB
  have c2 : w1.cell? ⟨b2, 0, none⟩ = some (.int .i64 0) := HR1.out.1.cell 0
  have f2 := HR1.out.1.frozen 0
  have c3 : w1.cell? ⟨b3, 0, none⟩ = some (.int .i64 0) := HR1.out.2.cell 0
  have f3 := HR1.out.2.frozen 0
  have n23 : ¬ b2 = b3 := by have := HE.out; omega
  have n32 : ¬ b3 = b2 := by have := HE.out; omega
  have HF := Lib.hid (show Below w.heap.size w ((w1.setCell ⟨b2, 0, none⟩ (.int .i64 0)).setCell ⟨b3, 0, none⟩ (.int .i64 60)) ∧ ((w1.setCell ⟨b2, 0, none⟩ (.int .i64 0)).setCell ⟨b3, 0, none⟩ (.int .i64 60)).cell? ⟨b2, 0, none⟩ = some (.int .i64 0) ∧ ((w1.setCell ⟨b2, 0, none⟩ (.int .i64 0)).setCell ⟨b3, 0, none⟩ (.int .i64 60)).cell? ⟨b3, 0, none⟩ = some (.int .i64 60) from by
    have hr := show Boxed w1 b2 3 (.int .i64 0) from HR1.out.1
    have he := show Boxed w1 b3 34 (.int .i64 0) from HR1.out.2
    have hE := HE.out
    exact ⟨(HB1.out.setCell (p := ⟨b2, 0, none⟩) (by show w.heap.size ≤ b2; omega) _).setCell (p := ⟨b3, 0, none⟩) (by show w.heap.size ≤ b3; omega) _, ((hr.set _).other n23 _).cell, ((he.other n32 _).set _).cell⟩)
  by_cases hv : onG x y = true
  · have hm : isMin t = false := by have h := HX.out; unfold isSun at h; rw [hv] at h; simpa using h
    gi_wp2_with (gi_at_call 33; refine (callsIn_wide.2 (isMinute_any _ _)).mono ?_; rintro e w' ⟨rfl, rfl⟩)
    obtain ⟨h1, hc5, hc6⟩ := HF.out
    exact ⟨.tuple #[.int .i64 0, .int .i64 60], by simp [results, Tryd.f20, go_sem, hc5, hc6], rfl, h1⟩
  · have hv : onG x y = false := by simpa using hv
    gi_wp2
    obtain ⟨h1, hc5, hc6⟩ := HF.out
    exact ⟨.tuple #[.int .i64 0, .int .i64 60], by simp [results, Tryd.f20, go_sem, hc5, hc6], rfl, h1⟩
/-- What Next answers, for whatever arguments. -/
def nxtZ (x y t : Int) (lit : Bool) : Int := if isSun x y t = true then nextZ x.toNat y.toNat t.toNat lit else 0
def erxZ (x y t : Int) : Int := if isSun x y t = true then 0 else 60
theorem nextS_any (x y t : Int) (lit : Bool) (w : World) (hT : Tab w) :
    Calls Tryd.prog 20 #[CV x y, .int .i64 t, .bool lit] w fun e w' => e = .returned (.tuple #[.int .i64 (nxtZ x y t lit), .int .i64 (erxZ x y t)]) ∧ Below w.heap.size w w' := by
  by_cases h : isSun x y t = true
  · obtain ⟨a, b, s, ha, hb, hs, rfl, rfl, rfl⟩ := isSun_nat h
    have e1 : nxtZ a b s lit = nextZ a b s lit := by unfold nxtZ; rw [if_pos h]; rfl
    have e2 : erxZ a b s = 0 := by unfold erxZ; rw [if_pos h]
    rw [e1, e2]
    exact nextS_yes a b s lit ha hb hs w hT
  · have h' : isSun x y t = false := by simpa using h
    have e1 : nxtZ x y t lit = 0 := by unfold nxtZ; rw [if_neg h]
    have e2 : erxZ x y t = 60 := by unfold erxZ; rw [if_neg h]
    rw [e1, e2]
    exact nextS_no x y t lit h' w
end Go.Proofs.YtbgdlfkeimaaiaaDoor
