/- The reference's Range where it is refused; Range for whatever arguments. -/
import Derived.Test.YtbgdlfkeimaaiaaDoorRv
namespace Go.Proofs.YtbgdlfkeimaaiaaDoor
open Go.RowKit
set_option linter.unusedSimpArgs false
set_option linter.unusedVariables false
set_option maxRecDepth 100000 in
set_option maxHeartbeats 1000000 in
theorem rrange_noA (al : Option Addr) (n c : Nat) (zs : List Int) (hO : Is zs none) (f u : Int)  (w : World) (h : Sl w al n zs) :
    Calls Tryd.prog 29 #[.agg #[.slice al n c], .agg #[.int .i64 f, .int .i64 u]] w fun e w' =>
      e = .returned (.tuple #[.int .i64 0, .int .i64 0, .int .i64 60]) ∧ Below w.heap.size w w' := by
  obtain ⟨W0, hW0⟩ : ∃ W0, (w.alloc (.cells #[.slice al n c] 27)).alloc (.cells #[.int .i64 f, .int .i64 u] 29) = W0 := ⟨_, rfl⟩
  have hA : BX W0 w.heap.size #[.slice al n c] 27 := by rw [← hW0]; exact (BX.new rfl).alloc _
  have hS : BX W0 (w.heap.size + 1) #[.int .i64 f, .int .i64 u] 29 := by rw [← hW0]; exact BX.new (by simp)
  have hB : Below w.heap.size w W0 := by rw [← hW0]; exact ((Below.refl _ _).alloc (Nat.le_refl _) _).alloc (by simp) _
  obtain ⟨bS, hbS⟩ : ∃ b, w.heap.size + 1 = b := ⟨_, rfl⟩
  rw [hbS] at hS
  have HSA := Lib.hid (show Sl W0 al n zs from Sl.below h (Nat.le_refl _) hB)
  have HA := Lib.hid hA; have HS := Lib.hid hS; have HB := Lib.hid hB
  have HL := Lib.hid (hO)
  have hc0 := hA.cell 0
  clear hA hS hB h hO
  go_enter Tryd.func29, Tryd.ntmps29
  go_wp2_with fail
  (with_reducible refine (rvalid_no HL.out HSA.out).mono ?_)
  rintro e w1 ⟨rfl, hb1⟩
  have HB1 := Lib.hid (below_tr HB.out hb1)
  clear hb1 hW0 hc0
  go_wp2
  exact bodyPost_ret (v := .tuple #[.int .i64 0, .int .i64 0, .int .i64 60]) (by simp [results, Tryd.results29, go_sem]) rfl ⟨rfl, HB1.out⟩
set_option maxRecDepth 100000 in
set_option maxHeartbeats 1000000 in
theorem rrange_noB (b q c : Nat) (g : Ar) (f u : Int) (hl : count g = 0) (w : World) (h : SA w (some ⟨b, q, none⟩) 24 g) :
    Calls Tryd.prog 29 #[.agg #[.slice (some ⟨b, q, none⟩) 24 c], .agg #[.int .i64 f, .int .i64 u]] w fun e w' =>
      e = .returned (.tuple #[.int .i64 0, .int .i64 0, .int .i64 60]) ∧ Below w.heap.size w w' := by
  obtain ⟨W0, hW0⟩ : ∃ W0, (w.alloc (.cells #[.slice (some ⟨b, q, none⟩) 24 c] 27)).alloc (.cells #[.int .i64 f, .int .i64 u] 29) = W0 := ⟨_, rfl⟩
  have hA : BX W0 w.heap.size #[.slice (some ⟨b, q, none⟩) 24 c] 27 := by rw [← hW0]; exact (BX.new rfl).alloc _
  have hS : BX W0 (w.heap.size + 1) #[.int .i64 f, .int .i64 u] 29 := by rw [← hW0]; exact BX.new (by simp)
  have hB : Below w.heap.size w W0 := by rw [← hW0]; exact ((Below.refl _ _).alloc (Nat.le_refl _) _).alloc (by simp) _
  obtain ⟨bS, hbS⟩ : ∃ b, w.heap.size + 1 = b := ⟨_, rfl⟩
  rw [hbS] at hS
  have HSA := Lib.hid (show SA W0 (some ⟨b, q, none⟩) 24 g from Sl.below h (Nat.le_refl _) hB)
  have HA := Lib.hid hA; have HS := Lib.hid hS; have HB := Lib.hid hB
  have HL := Lib.hid (hl)
  have hc0 := hA.cell 0
  have hcn : ((count g : Int) == 0) = true := by rw [HL.out]; rfl
  clear hA hS hB h hl
  go_enter Tryd.func29, Tryd.ntmps29
  go_wp2_with fail
  (with_reducible refine (rvalid_yes HSA.out).mono ?_)
  rintro e w1 ⟨rfl, hb1⟩
  have hc0 := (HA.out.next hb1).cell 0
  have HSA1 := Lib.hid (show SA w1 (some ⟨b, q, none⟩) 24 g from Sl.below HSA.out (Nat.le_refl _) hb1)
  have HB1 := Lib.hid (below_tr HB.out hb1)
  have HS1 := Lib.hid (HS.out.next hb1)
  clear hb1 hW0 HA HS HSA HB
  go_wp2_with fail
  (with_reducible refine (rcountV HSA1.out).mono ?_)
  rintro e w2 ⟨rfl, hb2⟩
  have HB2 := Lib.hid (below_tr HB1.out hb2)
  have s0 : w2.cell? ⟨bS, 0, none⟩ = some (.int .i64 f) := (HS1.out.next hb2).cell 0
  have s1 : w2.cell? ⟨bS, 1, none⟩ = some (.int .i64 u) := (HS1.out.next hb2).cell 1
  clear hb2 hc0 HS1 HSA1 HB1
  go_wp2
  exact bodyPost_ret (v := .tuple #[.int .i64 0, .int .i64 0, .int .i64 60]) (by simp [results, Tryd.results29, go_sem]) rfl ⟨rfl, HB2.out⟩
set_option maxRecDepth 100000 in
set_option maxHeartbeats 1000000 in
theorem rrange_noC (b q c : Nat) (g : Ar) (f u : Int) (hl : 0 < count g) (hf : f < 0) (w : World) (h : SA w (some ⟨b, q, none⟩) 24 g) :
    Calls Tryd.prog 29 #[.agg #[.slice (some ⟨b, q, none⟩) 24 c], .agg #[.int .i64 f, .int .i64 u]] w fun e w' =>
      e = .returned (.tuple #[.int .i64 0, .int .i64 0, .int .i64 60]) ∧ Below w.heap.size w w' := by
  obtain ⟨W0, hW0⟩ : ∃ W0, (w.alloc (.cells #[.slice (some ⟨b, q, none⟩) 24 c] 27)).alloc (.cells #[.int .i64 f, .int .i64 u] 29) = W0 := ⟨_, rfl⟩
  have hA : BX W0 w.heap.size #[.slice (some ⟨b, q, none⟩) 24 c] 27 := by rw [← hW0]; exact (BX.new rfl).alloc _
  have hS : BX W0 (w.heap.size + 1) #[.int .i64 f, .int .i64 u] 29 := by rw [← hW0]; exact BX.new (by simp)
  have hB : Below w.heap.size w W0 := by rw [← hW0]; exact ((Below.refl _ _).alloc (Nat.le_refl _) _).alloc (by simp) _
  obtain ⟨bS, hbS⟩ : ∃ b, w.heap.size + 1 = b := ⟨_, rfl⟩
  rw [hbS] at hS
  have HSA := Lib.hid (show SA W0 (some ⟨b, q, none⟩) 24 g from Sl.below h (Nat.le_refl _) hB)
  have HA := Lib.hid hA; have HS := Lib.hid hS; have HB := Lib.hid hB
  have HL := Lib.hid (And.intro hl hf)
  have hc0 := hA.cell 0
  have hcn : ((count g : Int) == 0) = false := by have := HL.out.1; simp; omega
  have i0 : decide (f < 0) = true := by have := HL.out.2; simp; omega
  clear hA hS hB h hl hf
  go_enter Tryd.func29, Tryd.ntmps29
  go_wp2_with fail
  (with_reducible refine (rvalid_yes HSA.out).mono ?_)
  rintro e w1 ⟨rfl, hb1⟩
  have hc0 := (HA.out.next hb1).cell 0
  have HSA1 := Lib.hid (show SA w1 (some ⟨b, q, none⟩) 24 g from Sl.below HSA.out (Nat.le_refl _) hb1)
  have HB1 := Lib.hid (below_tr HB.out hb1)
  have HS1 := Lib.hid (HS.out.next hb1)
  clear hb1 hW0 HA HS HSA HB
  go_wp2_with fail
  (with_reducible refine (rcountV HSA1.out).mono ?_)
  rintro e w2 ⟨rfl, hb2⟩
  have HB2 := Lib.hid (below_tr HB1.out hb2)
  have s0 : w2.cell? ⟨bS, 0, none⟩ = some (.int .i64 f) := (HS1.out.next hb2).cell 0
  have s1 : w2.cell? ⟨bS, 1, none⟩ = some (.int .i64 u) := (HS1.out.next hb2).cell 1
  clear hb2 hc0 HS1 HSA1 HB1
  go_wp2
  exact bodyPost_ret (v := .tuple #[.int .i64 0, .int .i64 0, .int .i64 60]) (by simp [results, Tryd.results29, go_sem]) rfl ⟨rfl, HB2.out⟩
set_option maxRecDepth 100000 in
set_option maxHeartbeats 1000000 in
theorem rrange_noD (b q c : Nat) (g : Ar) (f u : Int) (hl : 0 < count g) (hf : 0 ≤ f) (hfu : u ≤ f) (w : World) (h : SA w (some ⟨b, q, none⟩) 24 g) :
    Calls Tryd.prog 29 #[.agg #[.slice (some ⟨b, q, none⟩) 24 c], .agg #[.int .i64 f, .int .i64 u]] w fun e w' =>
      e = .returned (.tuple #[.int .i64 0, .int .i64 0, .int .i64 60]) ∧ Below w.heap.size w w' := by
  obtain ⟨W0, hW0⟩ : ∃ W0, (w.alloc (.cells #[.slice (some ⟨b, q, none⟩) 24 c] 27)).alloc (.cells #[.int .i64 f, .int .i64 u] 29) = W0 := ⟨_, rfl⟩
  have hA : BX W0 w.heap.size #[.slice (some ⟨b, q, none⟩) 24 c] 27 := by rw [← hW0]; exact (BX.new rfl).alloc _
  have hS : BX W0 (w.heap.size + 1) #[.int .i64 f, .int .i64 u] 29 := by rw [← hW0]; exact BX.new (by simp)
  have hB : Below w.heap.size w W0 := by rw [← hW0]; exact ((Below.refl _ _).alloc (Nat.le_refl _) _).alloc (by simp) _
  obtain ⟨bS, hbS⟩ : ∃ b, w.heap.size + 1 = b := ⟨_, rfl⟩
  rw [hbS] at hS
  have HSA := Lib.hid (show SA W0 (some ⟨b, q, none⟩) 24 g from Sl.below h (Nat.le_refl _) hB)
  have HA := Lib.hid hA; have HS := Lib.hid hS; have HB := Lib.hid hB
  have HL := Lib.hid (And.intro hl (And.intro hf hfu))
  have hc0 := hA.cell 0
  have hcn : ((count g : Int) == 0) = false := by have := HL.out.1; simp; omega
  have i0 : decide (f < 0) = false := by have := HL.out.2.1; simp; omega
  have i3 : decide (u ≤ f) = true := by have := HL.out.2.2; simp; omega
  clear hA hS hB h hl hf hfu
  go_enter Tryd.func29, Tryd.ntmps29
  go_wp2_with fail
  (with_reducible refine (rvalid_yes HSA.out).mono ?_)
  rintro e w1 ⟨rfl, hb1⟩
  have hc0 := (HA.out.next hb1).cell 0
  have HSA1 := Lib.hid (show SA w1 (some ⟨b, q, none⟩) 24 g from Sl.below HSA.out (Nat.le_refl _) hb1)
  have HB1 := Lib.hid (below_tr HB.out hb1)
  have HS1 := Lib.hid (HS.out.next hb1)
  clear hb1 hW0 HA HS HSA HB
  go_wp2_with fail
  (with_reducible refine (rcountV HSA1.out).mono ?_)
  rintro e w2 ⟨rfl, hb2⟩
  have HB2 := Lib.hid (below_tr HB1.out hb2)
  have s0 : w2.cell? ⟨bS, 0, none⟩ = some (.int .i64 f) := (HS1.out.next hb2).cell 0
  have s1 : w2.cell? ⟨bS, 1, none⟩ = some (.int .i64 u) := (HS1.out.next hb2).cell 1
  clear hb2 hc0 HS1 HSA1 HB1
  go_wp2
  exact bodyPost_ret (v := .tuple #[.int .i64 0, .int .i64 0, .int .i64 60]) (by simp [results, Tryd.results29, go_sem]) rfl ⟨rfl, HB2.out⟩
set_option maxRecDepth 100000 in
set_option maxHeartbeats 1000000 in
theorem rrange_noE (b q c : Nat) (g : Ar) (f u : Int) (hl : 0 < count g) (hf : 0 ≤ f) (hfu : f < u) (hu : 1000001 < u) (w : World) (h : SA w (some ⟨b, q, none⟩) 24 g) :
    Calls Tryd.prog 29 #[.agg #[.slice (some ⟨b, q, none⟩) 24 c], .agg #[.int .i64 f, .int .i64 u]] w fun e w' =>
      e = .returned (.tuple #[.int .i64 0, .int .i64 0, .int .i64 60]) ∧ Below w.heap.size w w' := by
  obtain ⟨W0, hW0⟩ : ∃ W0, (w.alloc (.cells #[.slice (some ⟨b, q, none⟩) 24 c] 27)).alloc (.cells #[.int .i64 f, .int .i64 u] 29) = W0 := ⟨_, rfl⟩
  have hA : BX W0 w.heap.size #[.slice (some ⟨b, q, none⟩) 24 c] 27 := by rw [← hW0]; exact (BX.new rfl).alloc _
  have hS : BX W0 (w.heap.size + 1) #[.int .i64 f, .int .i64 u] 29 := by rw [← hW0]; exact BX.new (by simp)
  have hB : Below w.heap.size w W0 := by rw [← hW0]; exact ((Below.refl _ _).alloc (Nat.le_refl _) _).alloc (by simp) _
  obtain ⟨bS, hbS⟩ : ∃ b, w.heap.size + 1 = b := ⟨_, rfl⟩
  rw [hbS] at hS
  have HSA := Lib.hid (show SA W0 (some ⟨b, q, none⟩) 24 g from Sl.below h (Nat.le_refl _) hB)
  have HA := Lib.hid hA; have HS := Lib.hid hS; have HB := Lib.hid hB
  have HL := Lib.hid (And.intro hl (And.intro hf (And.intro hfu hu)))
  have hc0 := hA.cell 0
  have hcn : ((count g : Int) == 0) = false := by have := HL.out.1; simp; omega
  have i0 : decide (f < 0) = false := by have := HL.out.2.1; simp; omega
  have i3 : decide (u ≤ f) = false := by have := HL.out.2.2.1; simp; omega
  have i1 : decide (1000001 < u) = true := by have := HL.out.2.2.2; simp; omega
  clear hA hS hB h hl hf hfu hu
  go_enter Tryd.func29, Tryd.ntmps29
  go_wp2_with fail
  (with_reducible refine (rvalid_yes HSA.out).mono ?_)
  rintro e w1 ⟨rfl, hb1⟩
  have hc0 := (HA.out.next hb1).cell 0
  have HSA1 := Lib.hid (show SA w1 (some ⟨b, q, none⟩) 24 g from Sl.below HSA.out (Nat.le_refl _) hb1)
  have HB1 := Lib.hid (below_tr HB.out hb1)
  have HS1 := Lib.hid (HS.out.next hb1)
  clear hb1 hW0 HA HS HSA HB
  go_wp2_with fail
  (with_reducible refine (rcountV HSA1.out).mono ?_)
  rintro e w2 ⟨rfl, hb2⟩
  have HB2 := Lib.hid (below_tr HB1.out hb2)
  have s0 : w2.cell? ⟨bS, 0, none⟩ = some (.int .i64 f) := (HS1.out.next hb2).cell 0
  have s1 : w2.cell? ⟨bS, 1, none⟩ = some (.int .i64 u) := (HS1.out.next hb2).cell 1
  clear hb2 hc0 HS1 HSA1 HB1
  go_wp2
  exact bodyPost_ret (v := .tuple #[.int .i64 0, .int .i64 0, .int .i64 60]) (by simp [results, Tryd.results29, go_sem]) rfl ⟨rfl, HB2.out⟩
set_option maxRecDepth 100000 in
set_option maxHeartbeats 1000000 in
theorem rrange_noF (b q c : Nat) (g : Ar) (f u : Int) (hl : 0 < count g) (hf : 0 ≤ f) (hfu : f < u) (hu : u ≤ 1000001) (hd : 60 < u - f) (w : World) (h : SA w (some ⟨b, q, none⟩) 24 g) :
    Calls Tryd.prog 29 #[.agg #[.slice (some ⟨b, q, none⟩) 24 c], .agg #[.int .i64 f, .int .i64 u]] w fun e w' =>
      e = .returned (.tuple #[.int .i64 0, .int .i64 0, .int .i64 60]) ∧ Below w.heap.size w w' := by
  obtain ⟨W0, hW0⟩ : ∃ W0, (w.alloc (.cells #[.slice (some ⟨b, q, none⟩) 24 c] 27)).alloc (.cells #[.int .i64 f, .int .i64 u] 29) = W0 := ⟨_, rfl⟩
  have hA : BX W0 w.heap.size #[.slice (some ⟨b, q, none⟩) 24 c] 27 := by rw [← hW0]; exact (BX.new rfl).alloc _
  have hS : BX W0 (w.heap.size + 1) #[.int .i64 f, .int .i64 u] 29 := by rw [← hW0]; exact BX.new (by simp)
  have hB : Below w.heap.size w W0 := by rw [← hW0]; exact ((Below.refl _ _).alloc (Nat.le_refl _) _).alloc (by simp) _
  obtain ⟨bS, hbS⟩ : ∃ b, w.heap.size + 1 = b := ⟨_, rfl⟩
  rw [hbS] at hS
  have HSA := Lib.hid (show SA W0 (some ⟨b, q, none⟩) 24 g from Sl.below h (Nat.le_refl _) hB)
  have HA := Lib.hid hA; have HS := Lib.hid hS; have HB := Lib.hid hB
  have HL := Lib.hid (And.intro hl (And.intro hf (And.intro hfu (And.intro hu hd))))
  have hc0 := hA.cell 0
  have hcn : ((count g : Int) == 0) = false := by have := HL.out.1; simp; omega
  have i0 : decide (f < 0) = false := by have := HL.out.2.1; simp; omega
  have i3 : decide (u ≤ f) = false := by have := HL.out.2.2.1; simp; omega
  have i1 : decide (1000001 < u) = false := by have := HL.out.2.2.2.1; simp; omega
  have i6 : 0 ≤ f := HL.out.2.1
  have i7 : u ≤ 1000001 := HL.out.2.2.2.1
  have i8 : 0 ≤ u := by have := HL.out; omega
  have i9 : f ≤ 1000001 := by have := HL.out; omega
  have i5 : decide (60 < u - f) = true := by have := HL.out.2.2.2.2; simp; omega
  clear hA hS hB h hl hf hfu hu hd
  go_enter Tryd.func29, Tryd.ntmps29
  go_wp2_with fail
  (with_reducible refine (rvalid_yes HSA.out).mono ?_)
  rintro e w1 ⟨rfl, hb1⟩
  have hc0 := (HA.out.next hb1).cell 0
  have HSA1 := Lib.hid (show SA w1 (some ⟨b, q, none⟩) 24 g from Sl.below HSA.out (Nat.le_refl _) hb1)
  have HB1 := Lib.hid (below_tr HB.out hb1)
  have HS1 := Lib.hid (HS.out.next hb1)
  clear hb1 hW0 HA HS HSA HB
  go_wp2_with fail
  (with_reducible refine (rcountV HSA1.out).mono ?_)
  rintro e w2 ⟨rfl, hb2⟩
  have HB2 := Lib.hid (below_tr HB1.out hb2)
  have s0 : w2.cell? ⟨bS, 0, none⟩ = some (.int .i64 f) := (HS1.out.next hb2).cell 0
  have s1 : w2.cell? ⟨bS, 1, none⟩ = some (.int .i64 u) := (HS1.out.next hb2).cell 1
  clear hb2 hc0 HS1 HSA1 HB1
  go_wp2
  exact bodyPost_ret (v := .tuple #[.int .i64 0, .int .i64 0, .int .i64 60]) (by simp [results, Tryd.results29, go_sem]) rfl ⟨rfl, HB2.out⟩
theorem rrange_any (al : Option Addr) (n c : Nat) (zs : List Int) (o : Option Ar) (hO : Is zs o) (f u : Int) (w : World) (h : Sl w al n zs) :
    Calls Tryd.prog 29 #[.agg #[.slice al n c], .agg #[.int .i64 f, .int .i64 u]] w fun e w' =>
      e = .returned (.tuple #[.int .i64 (rloZ o f u), .int .i64 (rhiZ o f u), .int .i64 (rerZ o f u)]) ∧ Below w.heap.size w w' := by
  by_cases hok : rngOK o f u = true
  · have h1 : 0 < (cellsTo (of o) 24).length ∧ spOK f u = true := by unfold rngOK at hok; simpa using hok
    have h2 := spOK_iff.1 h1.2
    cases o with
    | none =>
      exfalso
      have : cellsTo (of none) 24 = [] := by decide
      rw [this] at h1
      exact absurd h1.1 (by decide)
    | some g =>
      have e1 : rloZ (some g) f u = lo (hsC (cellsTo g 24) (List.range' f.toNat (u - f).toNat)) := (if_pos hok).trans (lo_ext fun x => (hsC_mem).symm)
      have e2 : rhiZ (some g) f u = hi (hsC (cellsTo g 24) (List.range' f.toNat (u - f).toNat)) := (if_pos hok).trans (hi_ext fun x => (hsC_mem).symm)
      have e3 : rerZ (some g) f u = 0 := if_pos hok
      rw [e1, e2, e3]
      have hs : SA w al n g := by rw [show zs = rz g from hO] at h; exact h
      have hn := SA.n hs
      subst hn
      obtain ⟨_, b, q, rfl, _, _⟩ := SA.parts hs
      have hc : 0 < count g := by
        have := cellsTo_len g 24
        have h3 : 0 < (cellsTo g 24).length := h1.1
        unfold count; omega
      have := rrange_yes b q c g f.toNat (u - f).toNat u.toNat (by omega) (by omega) (by omega) (by omega) hc w hs
      have ef : ((f.toNat : Nat) : Int) = f := by omega
      have eu : ((u.toNat : Nat) : Int) = u := by omega
      simp only [iV, ef, eu] at this
      exact this
  · have e1 : rloZ o f u = 0 := if_neg hok
    have e2 : rhiZ o f u = 0 := if_neg hok
    have e3 : rerZ o f u = 60 := if_neg hok
    rw [e1, e2, e3]
    cases o with
    | none => exact rrange_noA al n c zs hO f u w h
    | some g =>
      have hs : SA w al n g := by rw [show zs = rz g from hO] at h; exact h
      have hn := SA.n hs
      subst hn
      obtain ⟨_, b, q, rfl, _, _⟩ := SA.parts hs
      have hlen : (cellsTo (of (some g)) 24).length = count g := cellsTo_len g 24
      by_cases hl : count g = 0
      · exact rrange_noB b q c g f u hl w hs
      · have hl : 0 < count g := by omega
        have hs' : ¬ spOK f u = true := fun hs => hok (by unfold rngOK; rw [hlen]; simp [hl, hs])
        rw [spOK_iff] at hs'
        by_cases hf : f < 0
        · exact rrange_noC b q c g f u hl hf w hs
        · by_cases hfu : u ≤ f
          · exact rrange_noD b q c g f u hl (by omega) hfu w hs
          · by_cases hu : 1000001 < u
            · exact rrange_noE b q c g f u hl (by omega) (by omega) hu w hs
            · exact rrange_noF b q c g f u hl (by omega) (by omega) (by omega) (by omega) w hs
end Go.Proofs.YtbgdlfkeimaaiaaDoor
