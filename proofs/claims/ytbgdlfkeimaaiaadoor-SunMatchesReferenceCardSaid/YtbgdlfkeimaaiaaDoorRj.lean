/- Range where it is refused; Range for whatever arguments. -/
import Derived.Test.YtbgdlfkeimaaiaaDoorRi
namespace Go.Proofs.YtbgdlfkeimaaiaaDoor
open Go.RowKit Go.Shelf
attribute [local go_sem] Oper.semAt_some
set_option linter.unusedSimpArgs false
set_option linter.unusedVariables false
set_option maxRecDepth 100000 in
set_option maxHeartbeats 2000000 in
theorem range_noA (al : Option Addr) (n c : Nat) (zs : List Int) (o : Option Ar) (hO : Is zs o) (f u : Int) (hl : (cellsTo (of o) 24).length = 0) (w : World) (h : Sl w al n zs) (hT : Tab w) :
    Calls Tryd.prog 28 #[.agg #[.slice al n c], .agg #[.int .i64 f, .int .i64 u]] w fun e w' =>
      e = .returned (.tuple #[.int .i64 0, .int .i64 0, .int .i64 60]) ∧ Below w.heap.size w w' := by
  refine callsIn_wide (n := 6) |>.1 ?_
  obtain ⟨W0, hW0⟩ : ∃ W0, (w.alloc (.cells #[.slice al n c] 27)).alloc (.cells #[.int .i64 f, .int .i64 u] 29) = W0 := ⟨_, rfl⟩
  have hA : BX W0 w.heap.size #[.slice al n c] 27 := by rw [← hW0]; exact (BX.new rfl).alloc _
  have hS : BX W0 (w.heap.size + 1) #[.int .i64 f, .int .i64 u] 29 := by rw [← hW0]; exact BX.new (by simp)
  have hB : Below w.heap.size w W0 := by rw [← hW0]; exact ((Below.refl _ _).alloc (Nat.le_refl _) _).alloc (by simp) _
  have HA := Lib.hid hA; have HS := Lib.hid hS; have HB := Lib.hid hB
  have CC := Lib.hid (cells_any al n c zs o hO W0 (h.below (Nat.le_refl _) hB) (hT.below hB hT.1))
  have HL := Lib.hid (hl)
  have hc0 := hA.cell 0
  generalize cellsTo (of o) 24 = cs at *
  clear hA hS hB h hT hO hl
  refine callsIn_of_wp_marks Tryd.func28 rfl trivial ?_ rfl
  simp only [Tryd.ntmps28, List.size_toArray, List.length_cons, List.length_nil, Nat.reduceAdd, Nat.reduceSub, Array.replicate_succ, Array.replicate_zero, List.push_toArray, List.append_toArray, List.nil_append, List.cons_append]
  have hf44 : Fence.wide.fn 44 := trivial
  gi_wp2_with fail
  (with_reducible refine (callsIn_wide.2 CC.out).mono ?_)
  rintro e w1 ⟨rl, rn, rc, rfl, hcs, hb1⟩
  obtain ⟨V, hV⟩ : ∃ V, w1.alloc (.cells #[.slice rl rn rc] 37) = V := ⟨_, rfl⟩
  obtain ⟨Bc, hBc⟩ : ∃ Bc, w1.heap.size = Bc := ⟨_, rfl⟩
  obtain ⟨bS, hbS⟩ : ∃ b, w.heap.size + 1 = b := ⟨_, rfl⟩
  have hSV : BX V bS #[.int .i64 f, .int .i64 u] 29 := by rw [← hV, ← hbS]; exact (HS.out.next hb1).alloc _
  have hCV : BX V Bc #[.slice rl rn rc] 37 := by rw [← hV, ← hBc]; exact BX.new rfl
  have HBV := Lib.hid (show Below w.heap.size w V from by rw [← hV]; exact (below_tr HB.out hb1).alloc (below_tr HB.out hb1).size _)
  have HcV := Lib.hid hcs
  have s0 : V.cell? ⟨bS, 0, none⟩ = some (.int .i64 f) := hSV.cell 0
  have s1 : V.cell? ⟨bS, 1, none⟩ = some (.int .i64 u) := hSV.cell 1
  have v0 : V.cell? ⟨Bc, 0, none⟩ = some (.slice rl rn rc) := hCV.cell 0
  have hl0 : ((rn : Int) == 0) = true := by have := HcV.out.1; have := HL.out; simp; omega
  clear hSV hCV hcs hb1 hc0 HS HB CC HA hW0
  gi_wp2
  exact ⟨.tuple #[.int .i64 0, .int .i64 0, .int .i64 60], by simp [results, Tryd.f28, go_sem], rfl, HBV.out⟩
set_option maxRecDepth 100000 in
set_option maxHeartbeats 2000000 in
theorem range_noB (al : Option Addr) (n c : Nat) (zs : List Int) (o : Option Ar) (hO : Is zs o) (f u : Int) (hl : 0 < (cellsTo (of o) 24).length) (hf : f < 0) (w : World) (h : Sl w al n zs) (hT : Tab w) :
    Calls Tryd.prog 28 #[.agg #[.slice al n c], .agg #[.int .i64 f, .int .i64 u]] w fun e w' =>
      e = .returned (.tuple #[.int .i64 0, .int .i64 0, .int .i64 60]) ∧ Below w.heap.size w w' := by
  refine callsIn_wide (n := 6) |>.1 ?_
  obtain ⟨W0, hW0⟩ : ∃ W0, (w.alloc (.cells #[.slice al n c] 27)).alloc (.cells #[.int .i64 f, .int .i64 u] 29) = W0 := ⟨_, rfl⟩
  have hA : BX W0 w.heap.size #[.slice al n c] 27 := by rw [← hW0]; exact (BX.new rfl).alloc _
  have hS : BX W0 (w.heap.size + 1) #[.int .i64 f, .int .i64 u] 29 := by rw [← hW0]; exact BX.new (by simp)
  have hB : Below w.heap.size w W0 := by rw [← hW0]; exact ((Below.refl _ _).alloc (Nat.le_refl _) _).alloc (by simp) _
  have HA := Lib.hid hA; have HS := Lib.hid hS; have HB := Lib.hid hB
  have CC := Lib.hid (cells_any al n c zs o hO W0 (h.below (Nat.le_refl _) hB) (hT.below hB hT.1))
  have HL := Lib.hid (And.intro hl hf)
  have hc0 := hA.cell 0
  generalize cellsTo (of o) 24 = cs at *
  clear hA hS hB h hT hO hl hf
  refine callsIn_of_wp_marks Tryd.func28 rfl trivial ?_ rfl
  simp only [Tryd.ntmps28, List.size_toArray, List.length_cons, List.length_nil, Nat.reduceAdd, Nat.reduceSub, Array.replicate_succ, Array.replicate_zero, List.push_toArray, List.append_toArray, List.nil_append, List.cons_append]
  have hf44 : Fence.wide.fn 44 := trivial
  gi_wp2_with fail
  (with_reducible refine (callsIn_wide.2 CC.out).mono ?_)
  rintro e w1 ⟨rl, rn, rc, rfl, hcs, hb1⟩
  obtain ⟨V, hV⟩ : ∃ V, w1.alloc (.cells #[.slice rl rn rc] 37) = V := ⟨_, rfl⟩
  obtain ⟨Bc, hBc⟩ : ∃ Bc, w1.heap.size = Bc := ⟨_, rfl⟩
  obtain ⟨bS, hbS⟩ : ∃ b, w.heap.size + 1 = b := ⟨_, rfl⟩
  have hSV : BX V bS #[.int .i64 f, .int .i64 u] 29 := by rw [← hV, ← hbS]; exact (HS.out.next hb1).alloc _
  have hCV : BX V Bc #[.slice rl rn rc] 37 := by rw [← hV, ← hBc]; exact BX.new rfl
  have HBV := Lib.hid (show Below w.heap.size w V from by rw [← hV]; exact (below_tr HB.out hb1).alloc (below_tr HB.out hb1).size _)
  have HcV := Lib.hid hcs
  have s0 : V.cell? ⟨bS, 0, none⟩ = some (.int .i64 f) := hSV.cell 0
  have s1 : V.cell? ⟨bS, 1, none⟩ = some (.int .i64 u) := hSV.cell 1
  have v0 : V.cell? ⟨Bc, 0, none⟩ = some (.slice rl rn rc) := hCV.cell 0
  have hl0 : ((rn : Int) == 0) = false := by have := HcV.out.1; have := HL.out.1; simp; omega
  have i0 : decide (f < 0) = true := by have := HL.out.2; simp; omega
  clear hSV hCV hcs hb1 hc0 HS HB CC HA hW0
  gi_wp2
  exact ⟨.tuple #[.int .i64 0, .int .i64 0, .int .i64 60], by simp [results, Tryd.f28, go_sem], rfl, HBV.out⟩
set_option maxRecDepth 100000 in
set_option maxHeartbeats 2000000 in
theorem range_noC (al : Option Addr) (n c : Nat) (zs : List Int) (o : Option Ar) (hO : Is zs o) (f u : Int) (hl : 0 < (cellsTo (of o) 24).length) (hf : 0 ≤ f) (hu : 1000001 < u) (w : World) (h : Sl w al n zs) (hT : Tab w) :
    Calls Tryd.prog 28 #[.agg #[.slice al n c], .agg #[.int .i64 f, .int .i64 u]] w fun e w' =>
      e = .returned (.tuple #[.int .i64 0, .int .i64 0, .int .i64 60]) ∧ Below w.heap.size w w' := by
  refine callsIn_wide (n := 6) |>.1 ?_
  obtain ⟨W0, hW0⟩ : ∃ W0, (w.alloc (.cells #[.slice al n c] 27)).alloc (.cells #[.int .i64 f, .int .i64 u] 29) = W0 := ⟨_, rfl⟩
  have hA : BX W0 w.heap.size #[.slice al n c] 27 := by rw [← hW0]; exact (BX.new rfl).alloc _
  have hS : BX W0 (w.heap.size + 1) #[.int .i64 f, .int .i64 u] 29 := by rw [← hW0]; exact BX.new (by simp)
  have hB : Below w.heap.size w W0 := by rw [← hW0]; exact ((Below.refl _ _).alloc (Nat.le_refl _) _).alloc (by simp) _
  have HA := Lib.hid hA; have HS := Lib.hid hS; have HB := Lib.hid hB
  have CC := Lib.hid (cells_any al n c zs o hO W0 (h.below (Nat.le_refl _) hB) (hT.below hB hT.1))
  have HL := Lib.hid (And.intro hl (And.intro hf hu))
  have hc0 := hA.cell 0
  generalize cellsTo (of o) 24 = cs at *
  clear hA hS hB h hT hO hl hf hu
  refine callsIn_of_wp_marks Tryd.func28 rfl trivial ?_ rfl
  simp only [Tryd.ntmps28, List.size_toArray, List.length_cons, List.length_nil, Nat.reduceAdd, Nat.reduceSub, Array.replicate_succ, Array.replicate_zero, List.push_toArray, List.append_toArray, List.nil_append, List.cons_append]
  have hf44 : Fence.wide.fn 44 := trivial
  gi_wp2_with fail
  (with_reducible refine (callsIn_wide.2 CC.out).mono ?_)
  rintro e w1 ⟨rl, rn, rc, rfl, hcs, hb1⟩
  obtain ⟨V, hV⟩ : ∃ V, w1.alloc (.cells #[.slice rl rn rc] 37) = V := ⟨_, rfl⟩
  obtain ⟨Bc, hBc⟩ : ∃ Bc, w1.heap.size = Bc := ⟨_, rfl⟩
  obtain ⟨bS, hbS⟩ : ∃ b, w.heap.size + 1 = b := ⟨_, rfl⟩
  have hSV : BX V bS #[.int .i64 f, .int .i64 u] 29 := by rw [← hV, ← hbS]; exact (HS.out.next hb1).alloc _
  have hCV : BX V Bc #[.slice rl rn rc] 37 := by rw [← hV, ← hBc]; exact BX.new rfl
  have HBV := Lib.hid (show Below w.heap.size w V from by rw [← hV]; exact (below_tr HB.out hb1).alloc (below_tr HB.out hb1).size _)
  have HcV := Lib.hid hcs
  have s0 : V.cell? ⟨bS, 0, none⟩ = some (.int .i64 f) := hSV.cell 0
  have s1 : V.cell? ⟨bS, 1, none⟩ = some (.int .i64 u) := hSV.cell 1
  have v0 : V.cell? ⟨Bc, 0, none⟩ = some (.slice rl rn rc) := hCV.cell 0
  have hl0 : ((rn : Int) == 0) = false := by have := HcV.out.1; have := HL.out.1; simp; omega
  have i0 : decide (f < 0) = false := by have := HL.out.2.1; simp; omega
  have i1 : decide (1000001 < u) = true := by have := HL.out.2.2; simp; omega
  clear hSV hCV hcs hb1 hc0 HS HB CC HA hW0
  gi_wp2
  exact ⟨.tuple #[.int .i64 0, .int .i64 0, .int .i64 60], by simp [results, Tryd.f28, go_sem], rfl, HBV.out⟩
set_option maxRecDepth 100000 in
set_option maxHeartbeats 2000000 in
theorem range_noD (al : Option Addr) (n c : Nat) (zs : List Int) (o : Option Ar) (hO : Is zs o) (f u : Int) (hl : 0 < (cellsTo (of o) 24).length) (hf : 0 ≤ f) (hu : u ≤ 1000001) (hfu : u ≤ f) (w : World) (h : Sl w al n zs) (hT : Tab w) :
    Calls Tryd.prog 28 #[.agg #[.slice al n c], .agg #[.int .i64 f, .int .i64 u]] w fun e w' =>
      e = .returned (.tuple #[.int .i64 0, .int .i64 0, .int .i64 60]) ∧ Below w.heap.size w w' := by
  refine callsIn_wide (n := 6) |>.1 ?_
  obtain ⟨W0, hW0⟩ : ∃ W0, (w.alloc (.cells #[.slice al n c] 27)).alloc (.cells #[.int .i64 f, .int .i64 u] 29) = W0 := ⟨_, rfl⟩
  have hA : BX W0 w.heap.size #[.slice al n c] 27 := by rw [← hW0]; exact (BX.new rfl).alloc _
  have hS : BX W0 (w.heap.size + 1) #[.int .i64 f, .int .i64 u] 29 := by rw [← hW0]; exact BX.new (by simp)
  have hB : Below w.heap.size w W0 := by rw [← hW0]; exact ((Below.refl _ _).alloc (Nat.le_refl _) _).alloc (by simp) _
  have HA := Lib.hid hA; have HS := Lib.hid hS; have HB := Lib.hid hB
  have CC := Lib.hid (cells_any al n c zs o hO W0 (h.below (Nat.le_refl _) hB) (hT.below hB hT.1))
  have HL := Lib.hid (And.intro hl (And.intro hf (And.intro hu hfu)))
  have hc0 := hA.cell 0
  generalize cellsTo (of o) 24 = cs at *
  clear hA hS hB h hT hO hl hf hu hfu
  refine callsIn_of_wp_marks Tryd.func28 rfl trivial ?_ rfl
  simp only [Tryd.ntmps28, List.size_toArray, List.length_cons, List.length_nil, Nat.reduceAdd, Nat.reduceSub, Array.replicate_succ, Array.replicate_zero, List.push_toArray, List.append_toArray, List.nil_append, List.cons_append]
  have hf44 : Fence.wide.fn 44 := trivial
  gi_wp2_with fail
  (with_reducible refine (callsIn_wide.2 CC.out).mono ?_)
  rintro e w1 ⟨rl, rn, rc, rfl, hcs, hb1⟩
  obtain ⟨V, hV⟩ : ∃ V, w1.alloc (.cells #[.slice rl rn rc] 37) = V := ⟨_, rfl⟩
  obtain ⟨Bc, hBc⟩ : ∃ Bc, w1.heap.size = Bc := ⟨_, rfl⟩
  obtain ⟨bS, hbS⟩ : ∃ b, w.heap.size + 1 = b := ⟨_, rfl⟩
  have hSV : BX V bS #[.int .i64 f, .int .i64 u] 29 := by rw [← hV, ← hbS]; exact (HS.out.next hb1).alloc _
  have hCV : BX V Bc #[.slice rl rn rc] 37 := by rw [← hV, ← hBc]; exact BX.new rfl
  have HBV := Lib.hid (show Below w.heap.size w V from by rw [← hV]; exact (below_tr HB.out hb1).alloc (below_tr HB.out hb1).size _)
  have HcV := Lib.hid hcs
  have s0 : V.cell? ⟨bS, 0, none⟩ = some (.int .i64 f) := hSV.cell 0
  have s1 : V.cell? ⟨bS, 1, none⟩ = some (.int .i64 u) := hSV.cell 1
  have v0 : V.cell? ⟨Bc, 0, none⟩ = some (.slice rl rn rc) := hCV.cell 0
  have hl0 : ((rn : Int) == 0) = false := by have := HcV.out.1; have := HL.out.1; simp; omega
  have i0 : decide (f < 0) = false := by have := HL.out.2.1; simp; omega
  have i1 : decide (1000001 < u) = false := by have := HL.out.2.2.1; simp; omega
  have i3 : decide (u ≤ f) = true := by have := HL.out.2.2.2; simp; omega
  clear hSV hCV hcs hb1 hc0 HS HB CC HA hW0
  gi_wp2
  exact ⟨.tuple #[.int .i64 0, .int .i64 0, .int .i64 60], by simp [results, Tryd.f28, go_sem], rfl, HBV.out⟩
set_option maxRecDepth 100000 in
set_option maxHeartbeats 2000000 in
theorem range_noE (al : Option Addr) (n c : Nat) (zs : List Int) (o : Option Ar) (hO : Is zs o) (f u : Int) (hl : 0 < (cellsTo (of o) 24).length) (hf : 0 ≤ f) (hu : u ≤ 1000001) (hfu : f < u) (hd : 60 < u - f) (w : World) (h : Sl w al n zs) (hT : Tab w) :
    Calls Tryd.prog 28 #[.agg #[.slice al n c], .agg #[.int .i64 f, .int .i64 u]] w fun e w' =>
      e = .returned (.tuple #[.int .i64 0, .int .i64 0, .int .i64 60]) ∧ Below w.heap.size w w' := by
  refine callsIn_wide (n := 6) |>.1 ?_
  obtain ⟨W0, hW0⟩ : ∃ W0, (w.alloc (.cells #[.slice al n c] 27)).alloc (.cells #[.int .i64 f, .int .i64 u] 29) = W0 := ⟨_, rfl⟩
  have hA : BX W0 w.heap.size #[.slice al n c] 27 := by rw [← hW0]; exact (BX.new rfl).alloc _
  have hS : BX W0 (w.heap.size + 1) #[.int .i64 f, .int .i64 u] 29 := by rw [← hW0]; exact BX.new (by simp)
  have hB : Below w.heap.size w W0 := by rw [← hW0]; exact ((Below.refl _ _).alloc (Nat.le_refl _) _).alloc (by simp) _
  have HA := Lib.hid hA; have HS := Lib.hid hS; have HB := Lib.hid hB
  have CC := Lib.hid (cells_any al n c zs o hO W0 (h.below (Nat.le_refl _) hB) (hT.below hB hT.1))
  have HL := Lib.hid (And.intro hl (And.intro hf (And.intro hu (And.intro hfu hd))))
  have hc0 := hA.cell 0
  generalize cellsTo (of o) 24 = cs at *
  clear hA hS hB h hT hO hl hf hu hfu hd
  refine callsIn_of_wp_marks Tryd.func28 rfl trivial ?_ rfl
  simp only [Tryd.ntmps28, List.size_toArray, List.length_cons, List.length_nil, Nat.reduceAdd, Nat.reduceSub, Array.replicate_succ, Array.replicate_zero, List.push_toArray, List.append_toArray, List.nil_append, List.cons_append]
  have hf44 : Fence.wide.fn 44 := trivial
  gi_wp2_with fail
  (with_reducible refine (callsIn_wide.2 CC.out).mono ?_)
  rintro e w1 ⟨rl, rn, rc, rfl, hcs, hb1⟩
  obtain ⟨V, hV⟩ : ∃ V, w1.alloc (.cells #[.slice rl rn rc] 37) = V := ⟨_, rfl⟩
  obtain ⟨Bc, hBc⟩ : ∃ Bc, w1.heap.size = Bc := ⟨_, rfl⟩
  obtain ⟨bS, hbS⟩ : ∃ b, w.heap.size + 1 = b := ⟨_, rfl⟩
  have hSV : BX V bS #[.int .i64 f, .int .i64 u] 29 := by rw [← hV, ← hbS]; exact (HS.out.next hb1).alloc _
  have hCV : BX V Bc #[.slice rl rn rc] 37 := by rw [← hV, ← hBc]; exact BX.new rfl
  have HBV := Lib.hid (show Below w.heap.size w V from by rw [← hV]; exact (below_tr HB.out hb1).alloc (below_tr HB.out hb1).size _)
  have HcV := Lib.hid hcs
  have s0 : V.cell? ⟨bS, 0, none⟩ = some (.int .i64 f) := hSV.cell 0
  have s1 : V.cell? ⟨bS, 1, none⟩ = some (.int .i64 u) := hSV.cell 1
  have v0 : V.cell? ⟨Bc, 0, none⟩ = some (.slice rl rn rc) := hCV.cell 0
  have hl0 : ((rn : Int) == 0) = false := by have := HcV.out.1; have := HL.out.1; simp; omega
  have i0 : decide (f < 0) = false := by have := HL.out.2.1; simp; omega
  have i1 : decide (1000001 < u) = false := by have := HL.out.2.2.1; simp; omega
  have i3 : decide (u ≤ f) = false := by have := HL.out.2.2.2.1; simp; omega
  have i6 : 0 ≤ f := HL.out.2.1
  have i7 : u ≤ 1000001 := HL.out.2.2.1
  have i8 : 0 ≤ u := by have := HL.out; omega
  have i9 : f ≤ 1000001 := by have := HL.out; omega
  have i5 : decide (60 < u - f) = true := by have := HL.out.2.2.2.2; simp; omega
  clear hSV hCV hcs hb1 hc0 HS HB CC HA hW0
  gi_wp2
  exact ⟨.tuple #[.int .i64 0, .int .i64 0, .int .i64 60], by simp [results, Tryd.f28, go_sem], rfl, HBV.out⟩
/-- What Range answers, for whatever arguments. -/
def rngOK (o : Option Ar) (f u : Int) : Bool := decide (0 < (cellsTo (of o) 24).length) && spOK f u
def rloZ (o : Option Ar) (f u : Int) : Int := if rngOK o f u = true then lo (hsT (cellsTo (of o) 24) (List.range' f.toNat (u - f).toNat)) else 0
def rhiZ (o : Option Ar) (f u : Int) : Int := if rngOK o f u = true then hi (hsT (cellsTo (of o) 24) (List.range' f.toNat (u - f).toNat)) else 0
def rerZ (o : Option Ar) (f u : Int) : Int := if rngOK o f u = true then 0 else 60
theorem range_any (al : Option Addr) (n c : Nat) (zs : List Int) (o : Option Ar) (hO : Is zs o) (f u : Int) (w : World) (h : Sl w al n zs) (hT : Tab w) :
    Calls Tryd.prog 28 #[.agg #[.slice al n c], .agg #[.int .i64 f, .int .i64 u]] w fun e w' =>
      e = .returned (.tuple #[.int .i64 (rloZ o f u), .int .i64 (rhiZ o f u), .int .i64 (rerZ o f u)]) ∧ Below w.heap.size w w' := by
  by_cases hok : rngOK o f u = true
  · have h1 : 0 < (cellsTo (of o) 24).length ∧ spOK f u = true := by unfold rngOK at hok; simpa using hok
    have h2 := spOK_iff.1 h1.2
    have e1 : rloZ o f u = lo (hsT (cellsTo (of o) 24) (List.range' f.toNat (u - f).toNat)) := if_pos hok
    have e2 : rhiZ o f u = hi (hsT (cellsTo (of o) 24) (List.range' f.toNat (u - f).toNat)) := if_pos hok
    have e3 : rerZ o f u = 0 := if_pos hok
    rw [e1, e2, e3]
    have := range_yes al n c zs o hO f.toNat (u - f).toNat u.toNat (by omega) (by omega) (by omega) (by omega) h1.1 w h hT
    have ef : ((f.toNat : Nat) : Int) = f := by omega
    have eu : ((u.toNat : Nat) : Int) = u := by omega
    simp only [iV, ef, eu] at this
    exact this
  · have e1 : rloZ o f u = 0 := if_neg hok
    have e2 : rhiZ o f u = 0 := if_neg hok
    have e3 : rerZ o f u = 60 := if_neg hok
    rw [e1, e2, e3]
    by_cases hl : (cellsTo (of o) 24).length = 0
    · exact range_noA al n c zs o hO f u hl w h hT
    · have hl : 0 < (cellsTo (of o) 24).length := by omega
      have hs : ¬ spOK f u = true := fun hs => hok (by unfold rngOK; simp [hl, hs])
      rw [spOK_iff] at hs
      by_cases hf : f < 0
      · exact range_noB al n c zs o hO f u hl hf w h hT
      · by_cases hu : 1000001 < u
        · exact range_noC al n c zs o hO f u hl (by omega) hu w h hT
        · by_cases hfu : u ≤ f
          · exact range_noD al n c zs o hO f u hl (by omega) (by omega) hfu w h hT
          · exact range_noE al n c zs o hO f u hl (by omega) (by omega) (by omega) (by omega) w h hT
end Go.Proofs.YtbgdlfkeimaaiaaDoor
