/- The reference's cross, Add, Sub, Mul, Div, power, grid, Down, Up, walked. -/
import Derived.Test.YtcjcafekacceiaaGreatDoorRf
import Derived.Test.YtcjcafekacceiaaGreatDoorLiW
namespace Go.Proofs.YtcjcafekacceiaaGreatDoor
open Go.RowKit
set_option linter.unusedVariables false
set_option linter.unusedSimpArgs false

/-- Are both fractions valid, and their cross products not too large? -/
def crB (p q : Pr) : Bool := (fVp p && fVp q) && (opE mulF p.1 q.2 == 0) && (opE mulF q.1 p.2 == 0) && (opE mulF p.2 q.2 == 0)
theorem sum_cr (f : Int → Int → Int) (p q : Pr) : sumO f p q = if crB p q && (opE f (opS mulF p.1 q.2) (opS mulF q.1 p.2) == 0) then mkS (opS f (opS mulF p.1 q.2) (opS mulF q.1 p.2)) (opS mulF p.2 q.2) else none := by
  unfold sumO crB
  generalize (fVp p && fVp q) = b0
  generalize (opE mulF p.1 q.2 == 0) = b1
  generalize (opE mulF q.1 p.2 == 0) = b2
  generalize (opE mulF p.2 q.2 == 0) = b3
  generalize (opE f (opS mulF p.1 q.2) (opS mulF q.1 p.2) == 0) = b4
  cases b0 <;> cases b1 <;> cases b2 <;> cases b3 <;> cases b4 <;> rfl
def CrNo (w : World) (e : Ending) (w' : World) : Prop := ∃ x y d : ByteArray, e = .returned (.tuple #[.string x, .string y, .string d, .bool false]) ∧ Below w.heap.size w w'
def CrYes (w : World) (x y d : ByteArray) (e : Ending) (w' : World) : Prop := e = .returned (.tuple #[.string x, .string y, .string d, .bool true]) ∧ Below w.heap.size w w'
theorem cr_ways {p q : Pr} (h : crB p q = false) : fVp p = false ∨ (fVp p = true ∧ fVp q = false) ∨ (fVp p = true ∧ fVp q = true ∧ (opE mulF p.1 q.2 == 0) = false) ∨
    (fVp p = true ∧ fVp q = true ∧ (opE mulF p.1 q.2 == 0) = true ∧ (opE mulF q.1 p.2 == 0) = false) ∨ (fVp p = true ∧ fVp q = true ∧ (opE mulF p.1 q.2 == 0) = true ∧ (opE mulF q.1 p.2 == 0) = true ∧ (opE mulF p.2 q.2 == 0) = false) := by
  unfold crB at h
  generalize fVp p = b0 at *
  generalize fVp q = b1 at *
  generalize (opE mulF p.1 q.2 == 0) = b2 at *
  generalize (opE mulF q.1 p.2 == 0) = b3 at *
  generalize (opE mulF p.2 q.2 == 0) = b4 at *
  revert h
  revert b0 b1 b2 b3 b4
  decide
theorem cr_yes {p q : Pr} (h : crB p q = true) : fVp p = true ∧ fVp q = true ∧ (opE mulF p.1 q.2 == 0) = true ∧ (opE mulF q.1 p.2 == 0) = true ∧ (opE mulF p.2 q.2 == 0) = true := by
  unfold crB at h
  simp only [Bool.and_eq_true] at h
  exact ⟨h.1.1.1.1, h.1.1.1.2, h.1.1.2, h.1.2, h.2⟩

set_option maxRecDepth 100000 in
set_option maxHeartbeats 4000000 in
theorem rcross_no (p q : Pr) (w : World) (hsp : p.1.size ≤ 9223372036854775807 ∧ p.2.size ≤ 9223372036854775807) (hsq : q.1.size ≤ 9223372036854775807 ∧ q.2.size ≤ 9223372036854775807) (h : crB p q = false) :
    Calls Tryz.prog 47 #[.agg #[.string p.1, .string p.2], .agg #[.string q.1, .string q.2]] w (CrNo w) := by
  have CA := Lib.hid (fun W => rqvalid_any p.1 p.2 W hsp.1 hsp.2)
  have CB := Lib.hid (fun W => rqvalid_any q.1 q.2 W hsq.1 hsq.2)
  have C1 := Lib.hid (fun W => rmul_any p.1 q.2 W hsp.1 hsq.2)
  have C2 := Lib.hid (fun W => rmul_any q.1 p.2 W hsq.1 hsp.2)
  have C3 := Lib.hid (fun W => rmul_any p.2 q.2 W hsp.2 hsq.2)
  have hw5 := cr_ways h
  unfold fVp at hw5
  clear h hsp hsq
  obtain ⟨pa, pb⟩ := p
  obtain ⟨qa, qb⟩ := q
  simp only at CA CB C1 C2 C3 hw5 ⊢
  generalize fV pa pb = va at *
  generalize fV qa qb = vb at *
  obtain ⟨x, hx⟩ : ∃ t, opS (fun x y => x * y) pa qb = t := ⟨_, rfl⟩
  obtain ⟨y, hy⟩ : ∃ t, opS (fun x y => x * y) qa pb = t := ⟨_, rfl⟩
  obtain ⟨d, hd⟩ : ∃ t, opS (fun x y => x * y) pb qb = t := ⟨_, rfl⟩
  obtain ⟨n1, hn1⟩ : ∃ t, opE (fun x y => x * y) pa qb = t := ⟨_, rfl⟩
  obtain ⟨n2, hn2⟩ : ∃ t, opE (fun x y => x * y) qa pb = t := ⟨_, rfl⟩
  obtain ⟨n3, hn3⟩ : ∃ t, opE (fun x y => x * y) pb qb = t := ⟨_, rfl⟩
  rw [hx, hn1] at C1; rw [hy, hn2] at C2; rw [hd, hn3] at C3
  change va = false ∨ (va = true ∧ vb = false) ∨ (va = true ∧ vb = true ∧ (opE (fun x y => x * y) pa qb == 0) = false) ∨ (va = true ∧ vb = true ∧ (opE (fun x y => x * y) pa qb == 0) = true ∧ (opE (fun x y => x * y) qa pb == 0) = false) ∨ (va = true ∧ vb = true ∧ (opE (fun x y => x * y) pa qb == 0) = true ∧ (opE (fun x y => x * y) qa pb == 0) = true ∧ (opE (fun x y => x * y) pb qb == 0) = false) at hw5
  rw [hn1, hn2, hn3] at hw5
  clear hx hy hd hn1 hn2 hn3
  obtain ⟨wA, hwA⟩ : ∃ wA, ((w).alloc (.cells #[.string pa, .string pb] 23)).alloc (.cells #[.string qa, .string qb] 23) = wA := ⟨_, rfl⟩
  have B0 := Lib.hid (show Below w.heap.size w wA by rw [← hwA]; exact ((Below.refl w.heap.size w).alloc (Nat.le_refl _) _).alloc (by simp <;> omega) _)
  have Ka := Lib.hid (show wA.heap[w.heap.size]? = some (.cells #[.string pa, .string pb] 23) by rw [← hwA]; exact (Below.heap_alloc _ _ _ (by simp <;> omega)).trans (heap_new' _ _ _ rfl))
  have Kb := Lib.hid (show wA.heap[w.heap.size + 1]? = some (.cells #[.string qa, .string qb] 23) by rw [← hwA]; exact heap_new' _ _ _ (by simp))
  rcases hw5 with rfl | ⟨rfl, rfl⟩ | ⟨rfl, rfl, t1⟩ | ⟨rfl, rfl, t1, t2⟩ | ⟨rfl, rfl, t1, t2, t3⟩
  ·
    go_enter Tryz.func47, Tryz.ntmps47
    obtain ⟨a_1, a_2, _, _⟩ := box2 Ka.out
    go_wp2_with fail
    (with_reducible refine (CA.out _).mono ?_)
    rintro e w1 ⟨rfl, hb⟩
    replace B0 := Lib.hid (below1 B0.out hb)
    replace Ka := Lib.hid (bl_up Ka.out hb)
    replace Kb := Lib.hid (bl_up Kb.out hb)
    clear hb
    clear a_1 a_2
    obtain ⟨b_1, b_2, _, _⟩ := box2 Kb.out
    go_wp2_with fail
    (with_reducible refine (CB.out _).mono ?_)
    rintro e w2 ⟨rfl, hb⟩
    replace B0 := Lib.hid (below1 B0.out hb)
    replace Ka := Lib.hid (bl_up Ka.out hb)
    replace Kb := Lib.hid (bl_up Kb.out hb)
    clear hb
    clear b_1 b_2
    have HF := Lib.hid B0.out
    clear Ka Kb
    go_wp2
    refine bodyPost_ret (v := .tuple #[.string ⟨#[]⟩, .string ⟨#[]⟩, .string ⟨#[]⟩, .bool false]) (by simp [results, Tryz.results47, go_sem]) rfl ?_
    exact ⟨_, _, _, rfl, HF.out⟩
  ·
    go_enter Tryz.func47, Tryz.ntmps47
    obtain ⟨a_1, a_2, _, _⟩ := box2 Ka.out
    go_wp2_with fail
    (with_reducible refine (CA.out _).mono ?_)
    rintro e w1 ⟨rfl, hb⟩
    replace B0 := Lib.hid (below1 B0.out hb)
    replace Ka := Lib.hid (bl_up Ka.out hb)
    replace Kb := Lib.hid (bl_up Kb.out hb)
    clear hb
    clear a_1 a_2
    obtain ⟨b_1, b_2, _, _⟩ := box2 Kb.out
    go_wp2_with fail
    (with_reducible refine (CB.out _).mono ?_)
    rintro e w2 ⟨rfl, hb⟩
    replace B0 := Lib.hid (below1 B0.out hb)
    replace Ka := Lib.hid (bl_up Ka.out hb)
    replace Kb := Lib.hid (bl_up Kb.out hb)
    clear hb
    clear b_1 b_2
    have HF := Lib.hid B0.out
    clear Ka Kb
    go_wp2
    refine bodyPost_ret (v := .tuple #[.string ⟨#[]⟩, .string ⟨#[]⟩, .string ⟨#[]⟩, .bool false]) (by simp [results, Tryz.results47, go_sem]) rfl ?_
    exact ⟨_, _, _, rfl, HF.out⟩
  ·
    go_enter Tryz.func47, Tryz.ntmps47
    obtain ⟨a_1, a_2, _, _⟩ := box2 Ka.out
    go_wp2_with fail
    (with_reducible refine (CA.out _).mono ?_)
    rintro e w1 ⟨rfl, hb⟩
    replace B0 := Lib.hid (below1 B0.out hb)
    replace Ka := Lib.hid (bl_up Ka.out hb)
    replace Kb := Lib.hid (bl_up Kb.out hb)
    clear hb
    clear a_1 a_2
    obtain ⟨b_1, b_2, _, _⟩ := box2 Kb.out
    go_wp2_with fail
    (with_reducible refine (CB.out _).mono ?_)
    rintro e w2 ⟨rfl, hb⟩
    replace B0 := Lib.hid (below1 B0.out hb)
    replace Ka := Lib.hid (bl_up Ka.out hb)
    replace Kb := Lib.hid (bl_up Kb.out hb)
    clear hb
    clear b_1 b_2
    obtain ⟨a_1, a_2, _, _⟩ := box2 Ka.out
    obtain ⟨b_1, b_2, _, _⟩ := box2 Kb.out
    go_wp2_with fail
    (with_reducible refine (C1.out _).mono ?_)
    rintro e w3 ⟨rfl, hb⟩
    replace B0 := Lib.hid (below1 B0.out hb)
    replace Ka := Lib.hid (bl_up Ka.out hb)
    replace Kb := Lib.hid (bl_up Kb.out hb)
    clear hb
    clear a_1 a_2 b_1 b_2
    obtain ⟨b_1, b_2, _, _⟩ := box2 Kb.out
    obtain ⟨a_1, a_2, _, _⟩ := box2 Ka.out
    go_wp2_with fail
    (with_reducible refine (C2.out _).mono ?_)
    rintro e w4 ⟨rfl, hb⟩
    replace B0 := Lib.hid (below1 B0.out hb)
    replace Ka := Lib.hid (bl_up Ka.out hb)
    replace Kb := Lib.hid (bl_up Kb.out hb)
    clear hb
    clear b_1 b_2 a_1 a_2
    obtain ⟨a_1, a_2, _, _⟩ := box2 Ka.out
    obtain ⟨b_1, b_2, _, _⟩ := box2 Kb.out
    go_wp2_with fail
    (with_reducible refine (C3.out _).mono ?_)
    rintro e w5 ⟨rfl, hb⟩
    replace B0 := Lib.hid (below1 B0.out hb)
    replace Ka := Lib.hid (bl_up Ka.out hb)
    replace Kb := Lib.hid (bl_up Kb.out hb)
    clear hb
    clear a_1 a_2 b_1 b_2
    have HF := Lib.hid B0.out
    clear Ka Kb
    go_wp2
    refine bodyPost_ret (v := .tuple #[.string x, .string y, .string d, .bool false]) (by simp [results, Tryz.results47, go_sem]) rfl ?_
    exact ⟨_, _, _, rfl, HF.out⟩
  ·
    go_enter Tryz.func47, Tryz.ntmps47
    obtain ⟨a_1, a_2, _, _⟩ := box2 Ka.out
    go_wp2_with fail
    (with_reducible refine (CA.out _).mono ?_)
    rintro e w1 ⟨rfl, hb⟩
    replace B0 := Lib.hid (below1 B0.out hb)
    replace Ka := Lib.hid (bl_up Ka.out hb)
    replace Kb := Lib.hid (bl_up Kb.out hb)
    clear hb
    clear a_1 a_2
    obtain ⟨b_1, b_2, _, _⟩ := box2 Kb.out
    go_wp2_with fail
    (with_reducible refine (CB.out _).mono ?_)
    rintro e w2 ⟨rfl, hb⟩
    replace B0 := Lib.hid (below1 B0.out hb)
    replace Ka := Lib.hid (bl_up Ka.out hb)
    replace Kb := Lib.hid (bl_up Kb.out hb)
    clear hb
    clear b_1 b_2
    obtain ⟨a_1, a_2, _, _⟩ := box2 Ka.out
    obtain ⟨b_1, b_2, _, _⟩ := box2 Kb.out
    go_wp2_with fail
    (with_reducible refine (C1.out _).mono ?_)
    rintro e w3 ⟨rfl, hb⟩
    replace B0 := Lib.hid (below1 B0.out hb)
    replace Ka := Lib.hid (bl_up Ka.out hb)
    replace Kb := Lib.hid (bl_up Kb.out hb)
    clear hb
    clear a_1 a_2 b_1 b_2
    obtain ⟨b_1, b_2, _, _⟩ := box2 Kb.out
    obtain ⟨a_1, a_2, _, _⟩ := box2 Ka.out
    go_wp2_with fail
    (with_reducible refine (C2.out _).mono ?_)
    rintro e w4 ⟨rfl, hb⟩
    replace B0 := Lib.hid (below1 B0.out hb)
    replace Ka := Lib.hid (bl_up Ka.out hb)
    replace Kb := Lib.hid (bl_up Kb.out hb)
    clear hb
    clear b_1 b_2 a_1 a_2
    obtain ⟨a_1, a_2, _, _⟩ := box2 Ka.out
    obtain ⟨b_1, b_2, _, _⟩ := box2 Kb.out
    go_wp2_with fail
    (with_reducible refine (C3.out _).mono ?_)
    rintro e w5 ⟨rfl, hb⟩
    replace B0 := Lib.hid (below1 B0.out hb)
    replace Ka := Lib.hid (bl_up Ka.out hb)
    replace Kb := Lib.hid (bl_up Kb.out hb)
    clear hb
    clear a_1 a_2 b_1 b_2
    have HF := Lib.hid B0.out
    clear Ka Kb
    go_wp2
    refine bodyPost_ret (v := .tuple #[.string x, .string y, .string d, .bool false]) (by simp [results, Tryz.results47, go_sem]) rfl ?_
    exact ⟨_, _, _, rfl, HF.out⟩
  ·
    go_enter Tryz.func47, Tryz.ntmps47
    obtain ⟨a_1, a_2, _, _⟩ := box2 Ka.out
    go_wp2_with fail
    (with_reducible refine (CA.out _).mono ?_)
    rintro e w1 ⟨rfl, hb⟩
    replace B0 := Lib.hid (below1 B0.out hb)
    replace Ka := Lib.hid (bl_up Ka.out hb)
    replace Kb := Lib.hid (bl_up Kb.out hb)
    clear hb
    clear a_1 a_2
    obtain ⟨b_1, b_2, _, _⟩ := box2 Kb.out
    go_wp2_with fail
    (with_reducible refine (CB.out _).mono ?_)
    rintro e w2 ⟨rfl, hb⟩
    replace B0 := Lib.hid (below1 B0.out hb)
    replace Ka := Lib.hid (bl_up Ka.out hb)
    replace Kb := Lib.hid (bl_up Kb.out hb)
    clear hb
    clear b_1 b_2
    obtain ⟨a_1, a_2, _, _⟩ := box2 Ka.out
    obtain ⟨b_1, b_2, _, _⟩ := box2 Kb.out
    go_wp2_with fail
    (with_reducible refine (C1.out _).mono ?_)
    rintro e w3 ⟨rfl, hb⟩
    replace B0 := Lib.hid (below1 B0.out hb)
    replace Ka := Lib.hid (bl_up Ka.out hb)
    replace Kb := Lib.hid (bl_up Kb.out hb)
    clear hb
    clear a_1 a_2 b_1 b_2
    obtain ⟨b_1, b_2, _, _⟩ := box2 Kb.out
    obtain ⟨a_1, a_2, _, _⟩ := box2 Ka.out
    go_wp2_with fail
    (with_reducible refine (C2.out _).mono ?_)
    rintro e w4 ⟨rfl, hb⟩
    replace B0 := Lib.hid (below1 B0.out hb)
    replace Ka := Lib.hid (bl_up Ka.out hb)
    replace Kb := Lib.hid (bl_up Kb.out hb)
    clear hb
    clear b_1 b_2 a_1 a_2
    obtain ⟨a_1, a_2, _, _⟩ := box2 Ka.out
    obtain ⟨b_1, b_2, _, _⟩ := box2 Kb.out
    go_wp2_with fail
    (with_reducible refine (C3.out _).mono ?_)
    rintro e w5 ⟨rfl, hb⟩
    replace B0 := Lib.hid (below1 B0.out hb)
    replace Ka := Lib.hid (bl_up Ka.out hb)
    replace Kb := Lib.hid (bl_up Kb.out hb)
    clear hb
    clear a_1 a_2 b_1 b_2
    have HF := Lib.hid B0.out
    clear Ka Kb
    go_wp2
    refine bodyPost_ret (v := .tuple #[.string x, .string y, .string d, .bool false]) (by simp [results, Tryz.results47, go_sem]) rfl ?_
    exact ⟨_, _, _, rfl, HF.out⟩
set_option maxRecDepth 100000 in
set_option maxHeartbeats 4000000 in
theorem rcross_yes (p q : Pr) (w : World) (hsp : p.1.size ≤ 9223372036854775807 ∧ p.2.size ≤ 9223372036854775807) (hsq : q.1.size ≤ 9223372036854775807 ∧ q.2.size ≤ 9223372036854775807) (h : crB p q = true) :
    Calls Tryz.prog 47 #[.agg #[.string p.1, .string p.2], .agg #[.string q.1, .string q.2]] w (CrYes w (opS mulF p.1 q.2) (opS mulF q.1 p.2) (opS mulF p.2 q.2)) := by
  have CA := Lib.hid (fun W => rqvalid_any p.1 p.2 W hsp.1 hsp.2)
  have CB := Lib.hid (fun W => rqvalid_any q.1 q.2 W hsq.1 hsq.2)
  have C1 := Lib.hid (fun W => rmul_any p.1 q.2 W hsp.1 hsq.2)
  have C2 := Lib.hid (fun W => rmul_any q.1 p.2 W hsq.1 hsp.2)
  have C3 := Lib.hid (fun W => rmul_any p.2 q.2 W hsp.2 hsq.2)
  have hw5 := cr_yes h
  unfold fVp at hw5
  clear h hsp hsq
  obtain ⟨pa, pb⟩ := p
  obtain ⟨qa, qb⟩ := q
  simp only at CA CB C1 C2 C3 hw5 ⊢
  change Calls _ _ _ _ (CrYes w (opS (fun x y => x * y) pa qb) (opS (fun x y => x * y) qa pb) (opS (fun x y => x * y) pb qb))
  generalize fV pa pb = va at *
  generalize fV qa qb = vb at *
  obtain ⟨x, hx⟩ : ∃ t, opS (fun x y => x * y) pa qb = t := ⟨_, rfl⟩
  obtain ⟨y, hy⟩ : ∃ t, opS (fun x y => x * y) qa pb = t := ⟨_, rfl⟩
  obtain ⟨d, hd⟩ : ∃ t, opS (fun x y => x * y) pb qb = t := ⟨_, rfl⟩
  obtain ⟨n1, hn1⟩ : ∃ t, opE (fun x y => x * y) pa qb = t := ⟨_, rfl⟩
  obtain ⟨n2, hn2⟩ : ∃ t, opE (fun x y => x * y) qa pb = t := ⟨_, rfl⟩
  obtain ⟨n3, hn3⟩ : ∃ t, opE (fun x y => x * y) pb qb = t := ⟨_, rfl⟩
  rw [hx, hn1] at C1; rw [hy, hn2] at C2; rw [hd, hn3] at C3
  change va = true ∧ vb = true ∧ (opE (fun x y => x * y) pa qb == 0) = true ∧ (opE (fun x y => x * y) qa pb == 0) = true ∧ (opE (fun x y => x * y) pb qb == 0) = true at hw5
  rw [hn1, hn2, hn3] at hw5
  rw [hx, hy, hd]
  clear hx hy hd hn1 hn2 hn3
  obtain ⟨rfl, rfl, t1, t2, t3⟩ := hw5
  obtain ⟨wA, hwA⟩ : ∃ wA, ((w).alloc (.cells #[.string pa, .string pb] 23)).alloc (.cells #[.string qa, .string qb] 23) = wA := ⟨_, rfl⟩
  have B0 := Lib.hid (show Below w.heap.size w wA by rw [← hwA]; exact ((Below.refl w.heap.size w).alloc (Nat.le_refl _) _).alloc (by simp <;> omega) _)
  have Ka := Lib.hid (show wA.heap[w.heap.size]? = some (.cells #[.string pa, .string pb] 23) by rw [← hwA]; exact (Below.heap_alloc _ _ _ (by simp <;> omega)).trans (heap_new' _ _ _ rfl))
  have Kb := Lib.hid (show wA.heap[w.heap.size + 1]? = some (.cells #[.string qa, .string qb] 23) by rw [← hwA]; exact heap_new' _ _ _ (by simp))
  go_enter Tryz.func47, Tryz.ntmps47
  obtain ⟨a_1, a_2, _, _⟩ := box2 Ka.out
  go_wp2_with fail
  (with_reducible refine (CA.out _).mono ?_)
  rintro e w6 ⟨rfl, hb⟩
  replace B0 := Lib.hid (below1 B0.out hb)
  replace Ka := Lib.hid (bl_up Ka.out hb)
  replace Kb := Lib.hid (bl_up Kb.out hb)
  clear hb
  clear a_1 a_2
  obtain ⟨b_1, b_2, _, _⟩ := box2 Kb.out
  go_wp2_with fail
  (with_reducible refine (CB.out _).mono ?_)
  rintro e w7 ⟨rfl, hb⟩
  replace B0 := Lib.hid (below1 B0.out hb)
  replace Ka := Lib.hid (bl_up Ka.out hb)
  replace Kb := Lib.hid (bl_up Kb.out hb)
  clear hb
  clear b_1 b_2
  obtain ⟨a_1, a_2, _, _⟩ := box2 Ka.out
  obtain ⟨b_1, b_2, _, _⟩ := box2 Kb.out
  go_wp2_with fail
  (with_reducible refine (C1.out _).mono ?_)
  rintro e w8 ⟨rfl, hb⟩
  replace B0 := Lib.hid (below1 B0.out hb)
  replace Ka := Lib.hid (bl_up Ka.out hb)
  replace Kb := Lib.hid (bl_up Kb.out hb)
  clear hb
  clear a_1 a_2 b_1 b_2
  obtain ⟨b_1, b_2, _, _⟩ := box2 Kb.out
  obtain ⟨a_1, a_2, _, _⟩ := box2 Ka.out
  go_wp2_with fail
  (with_reducible refine (C2.out _).mono ?_)
  rintro e w9 ⟨rfl, hb⟩
  replace B0 := Lib.hid (below1 B0.out hb)
  replace Ka := Lib.hid (bl_up Ka.out hb)
  replace Kb := Lib.hid (bl_up Kb.out hb)
  clear hb
  clear b_1 b_2 a_1 a_2
  obtain ⟨a_1, a_2, _, _⟩ := box2 Ka.out
  obtain ⟨b_1, b_2, _, _⟩ := box2 Kb.out
  go_wp2_with fail
  (with_reducible refine (C3.out _).mono ?_)
  rintro e w10 ⟨rfl, hb⟩
  replace B0 := Lib.hid (below1 B0.out hb)
  replace Ka := Lib.hid (bl_up Ka.out hb)
  replace Kb := Lib.hid (bl_up Kb.out hb)
  clear hb
  clear a_1 a_2 b_1 b_2
  have HF := Lib.hid B0.out
  clear Ka Kb
  go_wp2
  refine bodyPost_ret (v := .tuple #[.string x, .string y, .string d, .bool true]) (by simp [results, Tryz.results47, go_sem]) rfl ?_
  exact ⟨rfl, HF.out⟩

set_option maxRecDepth 100000 in
set_option maxHeartbeats 4000000 in
theorem rqadd_any (p q : Pr) (w : World) (hsp : p.1.size ≤ 9223372036854775807 ∧ p.2.size ≤ 9223372036854775807) (hsq : q.1.size ≤ 9223372036854775807 ∧ q.2.size ≤ 9223372036854775807) :
    Calls Tryz.prog 16 #[.agg #[.string p.1, .string p.2], .agg #[.string q.1, .string q.2]] w (QOut w (sumO (fun x y => x + y) p q)) := by
  rw [sum_cr]
  cases hcr : crB p q with
  | false =>
    have CC := Lib.hid (fun W => rcross_no p q W hsp hsq hcr)
    rw [Bool.false_and, if_neg (by decide)]
    clear hcr hsp hsq
    obtain ⟨pa, pb⟩ := p
    obtain ⟨qa, qb⟩ := q
    simp only at CC ⊢
    obtain ⟨wA, hwA⟩ : ∃ wA, (((w).alloc (.cells #[.string pa, .string pb] 23)).alloc (.cells #[.string qa, .string qb] 23)).alloc (.cells #[.string ⟨#[]⟩, .string ⟨#[]⟩] 23) = wA := ⟨_, rfl⟩
    have B0 := Lib.hid (show Below w.heap.size w wA by rw [← hwA]; exact (((Below.refl w.heap.size w).alloc (Nat.le_refl _) _).alloc (by simp <;> omega) _).alloc (by simp <;> omega) _)
    have Ka := Lib.hid (show wA.heap[w.heap.size]? = some (.cells #[.string pa, .string pb] 23) by rw [← hwA]; exact (Below.heap_alloc _ _ _ (by simp <;> omega)).trans ((Below.heap_alloc _ _ _ (by simp <;> omega)).trans (heap_new' _ _ _ rfl)))
    have Kb := Lib.hid (show wA.heap[w.heap.size + 1]? = some (.cells #[.string qa, .string qb] 23) by rw [← hwA]; exact (Below.heap_alloc _ _ _ (by simp <;> omega)).trans (heap_new' _ _ _ (by simp)))
    have Kr := Lib.hid (show wA.heap[w.heap.size + 2]? = some (.cells #[.string ⟨#[]⟩, .string ⟨#[]⟩] 23) by rw [← hwA]; exact heap_new' _ _ _ (by simp))
    go_enter Tryz.func16, Tryz.ntmps16
    obtain ⟨a_1, a_2, _, _⟩ := box2 Ka.out
    obtain ⟨b_1, b_2, _, _⟩ := box2 Kb.out
    go_wp2_with fail
    (with_reducible refine (CC.out _).mono ?_)
    rintro e w11 ⟨x, y, d, rfl, hb⟩
    replace B0 := Lib.hid (below1 B0.out hb)
    replace Ka := Lib.hid (bl_up Ka.out hb)
    replace Kb := Lib.hid (bl_up Kb.out hb)
    replace Kr := Lib.hid (bl_up Kr.out hb)
    clear hb
    clear a_1 a_2 b_1 b_2
    obtain ⟨r1, r2, r3, r4⟩ := box2 Kr.out
    obtain ⟨s1, s2, _, _⟩ := box2 (put2_heap Kr.out (.string ⟨#[]⟩) (.string ⟨#[]⟩))
    have HF := Lib.hid (put2_below B0.out (show w.heap.size ≤ w.heap.size + 2 by omega) (.string ⟨#[]⟩) (.string ⟨#[]⟩))
    clear Ka Kb Kr
    go_wp2
    refine bodyPost_ret (v := .tuple #[.agg #[.string ⟨#[]⟩, .string ⟨#[]⟩], .int .i64 40]) (by simp [results, Tryz.results16, go_sem, s1, s2]) rfl ?_
    exact ⟨rfl, HF.out⟩
  | true =>
    have CC := Lib.hid (fun W => rcross_yes p q W hsp hsq hcr)
    rw [Bool.true_and]
    have hx := opS_size mulF p.1 q.2; have hy := opS_size mulF q.1 p.2; have hd := opS_size mulF p.2 q.2
    generalize opS mulF p.1 q.2 = x at *
    generalize opS mulF q.1 p.2 = y at *
    generalize opS mulF p.2 q.2 = d at *
    have CA := Lib.hid (fun W => radd_any x y W hx hy)
    have CM := Lib.hid (fun W => rmake_any (opS (fun x y => x + y) x y) d W (opS_size _ _ _) hd)
    generalize opS (fun x y => x + y) x y = z at *
    generalize opE (fun x y => x + y) x y = n at *
    clear hcr hsp hsq hx hy hd
    obtain ⟨pa, pb⟩ := p
    obtain ⟨qa, qb⟩ := q
    simp only at CC ⊢
    obtain ⟨wA, hwA⟩ : ∃ wA, (((w).alloc (.cells #[.string pa, .string pb] 23)).alloc (.cells #[.string qa, .string qb] 23)).alloc (.cells #[.string ⟨#[]⟩, .string ⟨#[]⟩] 23) = wA := ⟨_, rfl⟩
    have B0 := Lib.hid (show Below w.heap.size w wA by rw [← hwA]; exact (((Below.refl w.heap.size w).alloc (Nat.le_refl _) _).alloc (by simp <;> omega) _).alloc (by simp <;> omega) _)
    have Ka := Lib.hid (show wA.heap[w.heap.size]? = some (.cells #[.string pa, .string pb] 23) by rw [← hwA]; exact (Below.heap_alloc _ _ _ (by simp <;> omega)).trans ((Below.heap_alloc _ _ _ (by simp <;> omega)).trans (heap_new' _ _ _ rfl)))
    have Kb := Lib.hid (show wA.heap[w.heap.size + 1]? = some (.cells #[.string qa, .string qb] 23) by rw [← hwA]; exact (Below.heap_alloc _ _ _ (by simp <;> omega)).trans (heap_new' _ _ _ (by simp)))
    have Kr := Lib.hid (show wA.heap[w.heap.size + 2]? = some (.cells #[.string ⟨#[]⟩, .string ⟨#[]⟩] 23) by rw [← hwA]; exact heap_new' _ _ _ (by simp))
    cases hn : (n == 0) with
    | false =>
      rw [if_neg (by decide)]
      have hn2 : (n != 0) = true := by rw [bne, hn]; rfl
      go_enter Tryz.func16, Tryz.ntmps16
      obtain ⟨a_1, a_2, _, _⟩ := box2 Ka.out
      obtain ⟨b_1, b_2, _, _⟩ := box2 Kb.out
      go_wp2_with fail
      (with_reducible refine (CC.out _).mono ?_)
      rintro e w12 ⟨rfl, hb⟩
      replace B0 := Lib.hid (below1 B0.out hb)
      replace Ka := Lib.hid (bl_up Ka.out hb)
      replace Kb := Lib.hid (bl_up Kb.out hb)
      replace Kr := Lib.hid (bl_up Kr.out hb)
      clear hb
      clear a_1 a_2 b_1 b_2
      go_wp2_with fail
      (with_reducible refine (CA.out _).mono ?_)
      rintro e w13 ⟨rfl, hb⟩
      replace B0 := Lib.hid (below1 B0.out hb)
      replace Ka := Lib.hid (bl_up Ka.out hb)
      replace Kb := Lib.hid (bl_up Kb.out hb)
      replace Kr := Lib.hid (bl_up Kr.out hb)
      clear hb
      obtain ⟨r1, r2, r3, r4⟩ := box2 Kr.out
      obtain ⟨s1, s2, _, _⟩ := box2 (put2_heap Kr.out (.string ⟨#[]⟩) (.string ⟨#[]⟩))
      have HF := Lib.hid (put2_below B0.out (show w.heap.size ≤ w.heap.size + 2 by omega) (.string ⟨#[]⟩) (.string ⟨#[]⟩))
      clear Ka Kb Kr
      go_wp2
      refine bodyPost_ret (v := .tuple #[.agg #[.string ⟨#[]⟩, .string ⟨#[]⟩], .int .i64 40]) (by simp [results, Tryz.results16, go_sem, s1, s2]) rfl ?_
      exact ⟨rfl, HF.out⟩
    | true =>
      rw [if_pos rfl]
      generalize mkS z d = o at *
      have e0 : n = 0 := by simpa using hn
      subst e0
      clear hn
      go_enter Tryz.func16, Tryz.ntmps16
      obtain ⟨a_1, a_2, _, _⟩ := box2 Ka.out
      obtain ⟨b_1, b_2, _, _⟩ := box2 Kb.out
      go_wp2_with fail
      (with_reducible refine (CC.out _).mono ?_)
      rintro e w12 ⟨rfl, hb⟩
      replace B0 := Lib.hid (below1 B0.out hb)
      replace Ka := Lib.hid (bl_up Ka.out hb)
      replace Kb := Lib.hid (bl_up Kb.out hb)
      replace Kr := Lib.hid (bl_up Kr.out hb)
      clear hb
      clear a_1 a_2 b_1 b_2
      go_wp2_with fail
      (with_reducible refine (CA.out _).mono ?_)
      rintro e w13 ⟨rfl, hb⟩
      replace B0 := Lib.hid (below1 B0.out hb)
      replace Ka := Lib.hid (bl_up Ka.out hb)
      replace Kb := Lib.hid (bl_up Kb.out hb)
      replace Kr := Lib.hid (bl_up Kr.out hb)
      clear hb
      go_wp2_with fail
      (with_reducible refine (CM.out _).mono ?_)
      rintro e w14 ⟨rfl, hb⟩
      replace B0 := Lib.hid (below1 B0.out hb)
      replace Ka := Lib.hid (bl_up Ka.out hb)
      replace Kb := Lib.hid (bl_up Kb.out hb)
      replace Kr := Lib.hid (bl_up Kr.out hb)
      clear hb
      obtain ⟨u, hu⟩ : ∃ u, oN o = u := ⟨_, rfl⟩
      obtain ⟨v, hv⟩ : ∃ v, oD o = v := ⟨_, rfl⟩
      obtain ⟨k, hk⟩ : ∃ k, oE o = k := ⟨_, rfl⟩
      rw [hu, hv, hk]
      have HO := Lib.hid (And.intro hu (And.intro hv hk))
      clear hu hv hk
      obtain ⟨r1, r2, r3, r4⟩ := box2 Kr.out
      obtain ⟨s1, s2, _, _⟩ := box2 (put2_heap Kr.out (.string u) (.string v))
      have HF := Lib.hid (put2_below B0.out (show w.heap.size ≤ w.heap.size + 2 by omega) (.string u) (.string v))
      clear Ka Kb Kr
      go_wp2
      refine bodyPost_ret (v := .tuple #[.agg #[.string u, .string v], .int .i64 k]) (by simp [results, Tryz.results16, go_sem, s1, s2]) rfl ?_
      exact ⟨by rw [HO.out.1, HO.out.2.1, HO.out.2.2], HF.out⟩

set_option maxRecDepth 100000 in
set_option maxHeartbeats 4000000 in
theorem rqsub_any (p q : Pr) (w : World) (hsp : p.1.size ≤ 9223372036854775807 ∧ p.2.size ≤ 9223372036854775807) (hsq : q.1.size ≤ 9223372036854775807 ∧ q.2.size ≤ 9223372036854775807) :
    Calls Tryz.prog 17 #[.agg #[.string p.1, .string p.2], .agg #[.string q.1, .string q.2]] w (QOut w (sumO (fun x y => x - y) p q)) := by
  rw [sum_cr]
  cases hcr : crB p q with
  | false =>
    have CC := Lib.hid (fun W => rcross_no p q W hsp hsq hcr)
    rw [Bool.false_and, if_neg (by decide)]
    clear hcr hsp hsq
    obtain ⟨pa, pb⟩ := p
    obtain ⟨qa, qb⟩ := q
    simp only at CC ⊢
    obtain ⟨wA, hwA⟩ : ∃ wA, (((w).alloc (.cells #[.string pa, .string pb] 23)).alloc (.cells #[.string qa, .string qb] 23)).alloc (.cells #[.string ⟨#[]⟩, .string ⟨#[]⟩] 23) = wA := ⟨_, rfl⟩
    have B0 := Lib.hid (show Below w.heap.size w wA by rw [← hwA]; exact (((Below.refl w.heap.size w).alloc (Nat.le_refl _) _).alloc (by simp <;> omega) _).alloc (by simp <;> omega) _)
    have Ka := Lib.hid (show wA.heap[w.heap.size]? = some (.cells #[.string pa, .string pb] 23) by rw [← hwA]; exact (Below.heap_alloc _ _ _ (by simp <;> omega)).trans ((Below.heap_alloc _ _ _ (by simp <;> omega)).trans (heap_new' _ _ _ rfl)))
    have Kb := Lib.hid (show wA.heap[w.heap.size + 1]? = some (.cells #[.string qa, .string qb] 23) by rw [← hwA]; exact (Below.heap_alloc _ _ _ (by simp <;> omega)).trans (heap_new' _ _ _ (by simp)))
    have Kr := Lib.hid (show wA.heap[w.heap.size + 2]? = some (.cells #[.string ⟨#[]⟩, .string ⟨#[]⟩] 23) by rw [← hwA]; exact heap_new' _ _ _ (by simp))
    go_enter Tryz.func17, Tryz.ntmps17
    obtain ⟨a_1, a_2, _, _⟩ := box2 Ka.out
    obtain ⟨b_1, b_2, _, _⟩ := box2 Kb.out
    go_wp2_with fail
    (with_reducible refine (CC.out _).mono ?_)
    rintro e w15 ⟨x, y, d, rfl, hb⟩
    replace B0 := Lib.hid (below1 B0.out hb)
    replace Ka := Lib.hid (bl_up Ka.out hb)
    replace Kb := Lib.hid (bl_up Kb.out hb)
    replace Kr := Lib.hid (bl_up Kr.out hb)
    clear hb
    clear a_1 a_2 b_1 b_2
    obtain ⟨r1, r2, r3, r4⟩ := box2 Kr.out
    obtain ⟨s1, s2, _, _⟩ := box2 (put2_heap Kr.out (.string ⟨#[]⟩) (.string ⟨#[]⟩))
    have HF := Lib.hid (put2_below B0.out (show w.heap.size ≤ w.heap.size + 2 by omega) (.string ⟨#[]⟩) (.string ⟨#[]⟩))
    clear Ka Kb Kr
    go_wp2
    refine bodyPost_ret (v := .tuple #[.agg #[.string ⟨#[]⟩, .string ⟨#[]⟩], .int .i64 40]) (by simp [results, Tryz.results17, go_sem, s1, s2]) rfl ?_
    exact ⟨rfl, HF.out⟩
  | true =>
    have CC := Lib.hid (fun W => rcross_yes p q W hsp hsq hcr)
    rw [Bool.true_and]
    have hx := opS_size mulF p.1 q.2; have hy := opS_size mulF q.1 p.2; have hd := opS_size mulF p.2 q.2
    generalize opS mulF p.1 q.2 = x at *
    generalize opS mulF q.1 p.2 = y at *
    generalize opS mulF p.2 q.2 = d at *
    have CA := Lib.hid (fun W => rsub_any x y W hx hy)
    have CM := Lib.hid (fun W => rmake_any (opS (fun x y => x - y) x y) d W (opS_size _ _ _) hd)
    generalize opS (fun x y => x - y) x y = z at *
    generalize opE (fun x y => x - y) x y = n at *
    clear hcr hsp hsq hx hy hd
    obtain ⟨pa, pb⟩ := p
    obtain ⟨qa, qb⟩ := q
    simp only at CC ⊢
    obtain ⟨wA, hwA⟩ : ∃ wA, (((w).alloc (.cells #[.string pa, .string pb] 23)).alloc (.cells #[.string qa, .string qb] 23)).alloc (.cells #[.string ⟨#[]⟩, .string ⟨#[]⟩] 23) = wA := ⟨_, rfl⟩
    have B0 := Lib.hid (show Below w.heap.size w wA by rw [← hwA]; exact (((Below.refl w.heap.size w).alloc (Nat.le_refl _) _).alloc (by simp <;> omega) _).alloc (by simp <;> omega) _)
    have Ka := Lib.hid (show wA.heap[w.heap.size]? = some (.cells #[.string pa, .string pb] 23) by rw [← hwA]; exact (Below.heap_alloc _ _ _ (by simp <;> omega)).trans ((Below.heap_alloc _ _ _ (by simp <;> omega)).trans (heap_new' _ _ _ rfl)))
    have Kb := Lib.hid (show wA.heap[w.heap.size + 1]? = some (.cells #[.string qa, .string qb] 23) by rw [← hwA]; exact (Below.heap_alloc _ _ _ (by simp <;> omega)).trans (heap_new' _ _ _ (by simp)))
    have Kr := Lib.hid (show wA.heap[w.heap.size + 2]? = some (.cells #[.string ⟨#[]⟩, .string ⟨#[]⟩] 23) by rw [← hwA]; exact heap_new' _ _ _ (by simp))
    cases hn : (n == 0) with
    | false =>
      rw [if_neg (by decide)]
      have hn2 : (n != 0) = true := by rw [bne, hn]; rfl
      go_enter Tryz.func17, Tryz.ntmps17
      obtain ⟨a_1, a_2, _, _⟩ := box2 Ka.out
      obtain ⟨b_1, b_2, _, _⟩ := box2 Kb.out
      go_wp2_with fail
      (with_reducible refine (CC.out _).mono ?_)
      rintro e w16 ⟨rfl, hb⟩
      replace B0 := Lib.hid (below1 B0.out hb)
      replace Ka := Lib.hid (bl_up Ka.out hb)
      replace Kb := Lib.hid (bl_up Kb.out hb)
      replace Kr := Lib.hid (bl_up Kr.out hb)
      clear hb
      clear a_1 a_2 b_1 b_2
      go_wp2_with fail
      (with_reducible refine (CA.out _).mono ?_)
      rintro e w17 ⟨rfl, hb⟩
      replace B0 := Lib.hid (below1 B0.out hb)
      replace Ka := Lib.hid (bl_up Ka.out hb)
      replace Kb := Lib.hid (bl_up Kb.out hb)
      replace Kr := Lib.hid (bl_up Kr.out hb)
      clear hb
      obtain ⟨r1, r2, r3, r4⟩ := box2 Kr.out
      obtain ⟨s1, s2, _, _⟩ := box2 (put2_heap Kr.out (.string ⟨#[]⟩) (.string ⟨#[]⟩))
      have HF := Lib.hid (put2_below B0.out (show w.heap.size ≤ w.heap.size + 2 by omega) (.string ⟨#[]⟩) (.string ⟨#[]⟩))
      clear Ka Kb Kr
      go_wp2
      refine bodyPost_ret (v := .tuple #[.agg #[.string ⟨#[]⟩, .string ⟨#[]⟩], .int .i64 40]) (by simp [results, Tryz.results17, go_sem, s1, s2]) rfl ?_
      exact ⟨rfl, HF.out⟩
    | true =>
      rw [if_pos rfl]
      generalize mkS z d = o at *
      have e0 : n = 0 := by simpa using hn
      subst e0
      clear hn
      go_enter Tryz.func17, Tryz.ntmps17
      obtain ⟨a_1, a_2, _, _⟩ := box2 Ka.out
      obtain ⟨b_1, b_2, _, _⟩ := box2 Kb.out
      go_wp2_with fail
      (with_reducible refine (CC.out _).mono ?_)
      rintro e w16 ⟨rfl, hb⟩
      replace B0 := Lib.hid (below1 B0.out hb)
      replace Ka := Lib.hid (bl_up Ka.out hb)
      replace Kb := Lib.hid (bl_up Kb.out hb)
      replace Kr := Lib.hid (bl_up Kr.out hb)
      clear hb
      clear a_1 a_2 b_1 b_2
      go_wp2_with fail
      (with_reducible refine (CA.out _).mono ?_)
      rintro e w17 ⟨rfl, hb⟩
      replace B0 := Lib.hid (below1 B0.out hb)
      replace Ka := Lib.hid (bl_up Ka.out hb)
      replace Kb := Lib.hid (bl_up Kb.out hb)
      replace Kr := Lib.hid (bl_up Kr.out hb)
      clear hb
      go_wp2_with fail
      (with_reducible refine (CM.out _).mono ?_)
      rintro e w18 ⟨rfl, hb⟩
      replace B0 := Lib.hid (below1 B0.out hb)
      replace Ka := Lib.hid (bl_up Ka.out hb)
      replace Kb := Lib.hid (bl_up Kb.out hb)
      replace Kr := Lib.hid (bl_up Kr.out hb)
      clear hb
      obtain ⟨u, hu⟩ : ∃ u, oN o = u := ⟨_, rfl⟩
      obtain ⟨v, hv⟩ : ∃ v, oD o = v := ⟨_, rfl⟩
      obtain ⟨k, hk⟩ : ∃ k, oE o = k := ⟨_, rfl⟩
      rw [hu, hv, hk]
      have HO := Lib.hid (And.intro hu (And.intro hv hk))
      clear hu hv hk
      obtain ⟨r1, r2, r3, r4⟩ := box2 Kr.out
      obtain ⟨s1, s2, _, _⟩ := box2 (put2_heap Kr.out (.string u) (.string v))
      have HF := Lib.hid (put2_below B0.out (show w.heap.size ≤ w.heap.size + 2 by omega) (.string u) (.string v))
      clear Ka Kb Kr
      go_wp2
      refine bodyPost_ret (v := .tuple #[.agg #[.string u, .string v], .int .i64 k]) (by simp [results, Tryz.results17, go_sem, s1, s2]) rfl ?_
      exact ⟨by rw [HO.out.1, HO.out.2.1, HO.out.2.2], HF.out⟩

set_option maxRecDepth 100000 in
set_option maxHeartbeats 4000000 in
theorem rqmul_any (p q : Pr) (w : World) (hsp : p.1.size ≤ 9223372036854775807 ∧ p.2.size ≤ 9223372036854775807) (hsq : q.1.size ≤ 9223372036854775807 ∧ q.2.size ≤ 9223372036854775807) :
    Calls Tryz.prog 18 #[.agg #[.string p.1, .string p.2], .agg #[.string q.1, .string q.2]] w (QOut w (prodO p q q.1 q.2)) := by
  have CA := Lib.hid (fun W => rqvalid_any p.1 p.2 W hsp.1 hsp.2)
  have CB := Lib.hid (fun W => rqvalid_any q.1 q.2 W hsq.1 hsq.2)
  have C1 := Lib.hid (fun W => rmul_any p.1 q.1 W hsp.1 hsq.1)
  have C2 := Lib.hid (fun W => rmul_any p.2 q.2 W hsp.2 hsq.2)
  have CM := Lib.hid (fun W => rmake_any (opS mulF p.1 q.1) (opS mulF p.2 q.2) W (opS_size _ _ _) (opS_size _ _ _))
  unfold prodO fVp
  have C1' := Lib.hid (fun W => show Calls Tryz.prog 44 #[.string p.1, .string q.1] W (ResOut W (opS mulF p.1 q.1) (opE mulF p.1 q.1)) from C1.out W)
  have C2' := Lib.hid (fun W => show Calls Tryz.prog 44 #[.string p.2, .string q.2] W (ResOut W (opS mulF p.2 q.2) (opE mulF p.2 q.2)) from C2.out W)
  clear C1 C2
  generalize opS mulF p.1 q.1 = n at *
  generalize opS mulF p.2 q.2 = d at *
  generalize opE mulF p.1 q.1 = n1 at *
  generalize opE mulF p.2 q.2 = n2 at *
  generalize mkS n d = o at *
  generalize fV p.1 p.2 = va at *
  generalize fV q.1 q.2 = vb at *
  clear hsp hsq
  obtain ⟨pa, pb⟩ := p
  obtain ⟨qa, qb⟩ := q
  simp only at CA CB C1' C2' CM ⊢
  have hw4 : va = false ∨ (va = true ∧ vb = false) ∨ (va = true ∧ vb = true ∧ (n1 == 0) = false) ∨ (va = true ∧ vb = true ∧ n1 = 0 ∧ (n2 == 0) = false) ∨ (va = true ∧ vb = true ∧ n1 = 0 ∧ n2 = 0) := by
    cases va <;> cases vb <;> simp
    omega
  obtain ⟨wA, hwA⟩ : ∃ wA, (((w).alloc (.cells #[.string pa, .string pb] 23)).alloc (.cells #[.string qa, .string qb] 23)).alloc (.cells #[.string ⟨#[]⟩, .string ⟨#[]⟩] 23) = wA := ⟨_, rfl⟩
  have B0 := Lib.hid (show Below w.heap.size w wA by rw [← hwA]; exact (((Below.refl w.heap.size w).alloc (Nat.le_refl _) _).alloc (by simp <;> omega) _).alloc (by simp <;> omega) _)
  have Ka := Lib.hid (show wA.heap[w.heap.size]? = some (.cells #[.string pa, .string pb] 23) by rw [← hwA]; exact (Below.heap_alloc _ _ _ (by simp <;> omega)).trans ((Below.heap_alloc _ _ _ (by simp <;> omega)).trans (heap_new' _ _ _ rfl)))
  have Kb := Lib.hid (show wA.heap[w.heap.size + 1]? = some (.cells #[.string qa, .string qb] 23) by rw [← hwA]; exact (Below.heap_alloc _ _ _ (by simp <;> omega)).trans (heap_new' _ _ _ (by simp)))
  have Kr := Lib.hid (show wA.heap[w.heap.size + 2]? = some (.cells #[.string ⟨#[]⟩, .string ⟨#[]⟩] 23) by rw [← hwA]; exact heap_new' _ _ _ (by simp))
  rcases hw4 with rfl | ⟨rfl, rfl⟩ | ⟨rfl, rfl, t1⟩ | ⟨rfl, rfl, rfl, t2⟩ | ⟨rfl, rfl, rfl, rfl⟩
  ·
    rw [if_neg (by simp)]
    go_enter Tryz.func18, Tryz.ntmps18
    obtain ⟨a_1, a_2, _, _⟩ := box2 Ka.out
    go_wp2_with fail
    (with_reducible refine (CA.out _).mono ?_)
    rintro e w19 ⟨rfl, hb⟩
    replace B0 := Lib.hid (below1 B0.out hb)
    replace Ka := Lib.hid (bl_up Ka.out hb)
    replace Kb := Lib.hid (bl_up Kb.out hb)
    replace Kr := Lib.hid (bl_up Kr.out hb)
    clear hb
    clear a_1 a_2
    obtain ⟨b_1, b_2, _, _⟩ := box2 Kb.out
    go_wp2_with fail
    (with_reducible refine (CB.out _).mono ?_)
    rintro e w20 ⟨rfl, hb⟩
    replace B0 := Lib.hid (below1 B0.out hb)
    replace Ka := Lib.hid (bl_up Ka.out hb)
    replace Kb := Lib.hid (bl_up Kb.out hb)
    replace Kr := Lib.hid (bl_up Kr.out hb)
    clear hb
    clear b_1 b_2
    obtain ⟨r1, r2, r3, r4⟩ := box2 Kr.out
    obtain ⟨s1, s2, _, _⟩ := box2 (put2_heap Kr.out (.string ⟨#[]⟩) (.string ⟨#[]⟩))
    have HF := Lib.hid (put2_below B0.out (show w.heap.size ≤ w.heap.size + 2 by omega) (.string ⟨#[]⟩) (.string ⟨#[]⟩))
    clear Ka Kb Kr
    go_wp2
    refine bodyPost_ret (v := .tuple #[.agg #[.string ⟨#[]⟩, .string ⟨#[]⟩], .int .i64 40]) (by simp [results, Tryz.results18, go_sem, s1, s2]) rfl ?_
    exact ⟨rfl, HF.out⟩
  ·
    rw [if_neg (by simp)]
    go_enter Tryz.func18, Tryz.ntmps18
    obtain ⟨a_1, a_2, _, _⟩ := box2 Ka.out
    go_wp2_with fail
    (with_reducible refine (CA.out _).mono ?_)
    rintro e w19 ⟨rfl, hb⟩
    replace B0 := Lib.hid (below1 B0.out hb)
    replace Ka := Lib.hid (bl_up Ka.out hb)
    replace Kb := Lib.hid (bl_up Kb.out hb)
    replace Kr := Lib.hid (bl_up Kr.out hb)
    clear hb
    clear a_1 a_2
    obtain ⟨b_1, b_2, _, _⟩ := box2 Kb.out
    go_wp2_with fail
    (with_reducible refine (CB.out _).mono ?_)
    rintro e w20 ⟨rfl, hb⟩
    replace B0 := Lib.hid (below1 B0.out hb)
    replace Ka := Lib.hid (bl_up Ka.out hb)
    replace Kb := Lib.hid (bl_up Kb.out hb)
    replace Kr := Lib.hid (bl_up Kr.out hb)
    clear hb
    clear b_1 b_2
    obtain ⟨r1, r2, r3, r4⟩ := box2 Kr.out
    obtain ⟨s1, s2, _, _⟩ := box2 (put2_heap Kr.out (.string ⟨#[]⟩) (.string ⟨#[]⟩))
    have HF := Lib.hid (put2_below B0.out (show w.heap.size ≤ w.heap.size + 2 by omega) (.string ⟨#[]⟩) (.string ⟨#[]⟩))
    clear Ka Kb Kr
    go_wp2
    refine bodyPost_ret (v := .tuple #[.agg #[.string ⟨#[]⟩, .string ⟨#[]⟩], .int .i64 40]) (by simp [results, Tryz.results18, go_sem, s1, s2]) rfl ?_
    exact ⟨rfl, HF.out⟩
  ·
    rw [if_neg (by simp [t1])]
    have t1' : (n1 != 0) = true := by rw [bne, t1]; rfl
    go_enter Tryz.func18, Tryz.ntmps18
    obtain ⟨a_1, a_2, _, _⟩ := box2 Ka.out
    go_wp2_with fail
    (with_reducible refine (CA.out _).mono ?_)
    rintro e w19 ⟨rfl, hb⟩
    replace B0 := Lib.hid (below1 B0.out hb)
    replace Ka := Lib.hid (bl_up Ka.out hb)
    replace Kb := Lib.hid (bl_up Kb.out hb)
    replace Kr := Lib.hid (bl_up Kr.out hb)
    clear hb
    clear a_1 a_2
    obtain ⟨b_1, b_2, _, _⟩ := box2 Kb.out
    go_wp2_with fail
    (with_reducible refine (CB.out _).mono ?_)
    rintro e w20 ⟨rfl, hb⟩
    replace B0 := Lib.hid (below1 B0.out hb)
    replace Ka := Lib.hid (bl_up Ka.out hb)
    replace Kb := Lib.hid (bl_up Kb.out hb)
    replace Kr := Lib.hid (bl_up Kr.out hb)
    clear hb
    clear b_1 b_2
    obtain ⟨a_1, a_2, _, _⟩ := box2 Ka.out
    obtain ⟨b_1, b_2, _, _⟩ := box2 Kb.out
    go_wp2_with fail
    (with_reducible refine (C1'.out _).mono ?_)
    rintro e w21 ⟨rfl, hb⟩
    replace B0 := Lib.hid (below1 B0.out hb)
    replace Ka := Lib.hid (bl_up Ka.out hb)
    replace Kb := Lib.hid (bl_up Kb.out hb)
    replace Kr := Lib.hid (bl_up Kr.out hb)
    clear hb
    clear a_1 a_2 b_1 b_2
    obtain ⟨a_1, a_2, _, _⟩ := box2 Ka.out
    obtain ⟨b_1, b_2, _, _⟩ := box2 Kb.out
    go_wp2_with fail
    (with_reducible refine (C2'.out _).mono ?_)
    rintro e w22 ⟨rfl, hb⟩
    replace B0 := Lib.hid (below1 B0.out hb)
    replace Ka := Lib.hid (bl_up Ka.out hb)
    replace Kb := Lib.hid (bl_up Kb.out hb)
    replace Kr := Lib.hid (bl_up Kr.out hb)
    clear hb
    clear a_1 a_2 b_1 b_2
    obtain ⟨r1, r2, r3, r4⟩ := box2 Kr.out
    obtain ⟨s1, s2, _, _⟩ := box2 (put2_heap Kr.out (.string ⟨#[]⟩) (.string ⟨#[]⟩))
    have HF := Lib.hid (put2_below B0.out (show w.heap.size ≤ w.heap.size + 2 by omega) (.string ⟨#[]⟩) (.string ⟨#[]⟩))
    clear Ka Kb Kr
    go_wp2
    refine bodyPost_ret (v := .tuple #[.agg #[.string ⟨#[]⟩, .string ⟨#[]⟩], .int .i64 40]) (by simp [results, Tryz.results18, go_sem, s1, s2]) rfl ?_
    exact ⟨rfl, HF.out⟩
  ·
    rw [if_neg (by simp [t2])]
    have t2' : (n2 != 0) = true := by rw [bne, t2]; rfl
    go_enter Tryz.func18, Tryz.ntmps18
    obtain ⟨a_1, a_2, _, _⟩ := box2 Ka.out
    go_wp2_with fail
    (with_reducible refine (CA.out _).mono ?_)
    rintro e w19 ⟨rfl, hb⟩
    replace B0 := Lib.hid (below1 B0.out hb)
    replace Ka := Lib.hid (bl_up Ka.out hb)
    replace Kb := Lib.hid (bl_up Kb.out hb)
    replace Kr := Lib.hid (bl_up Kr.out hb)
    clear hb
    clear a_1 a_2
    obtain ⟨b_1, b_2, _, _⟩ := box2 Kb.out
    go_wp2_with fail
    (with_reducible refine (CB.out _).mono ?_)
    rintro e w20 ⟨rfl, hb⟩
    replace B0 := Lib.hid (below1 B0.out hb)
    replace Ka := Lib.hid (bl_up Ka.out hb)
    replace Kb := Lib.hid (bl_up Kb.out hb)
    replace Kr := Lib.hid (bl_up Kr.out hb)
    clear hb
    clear b_1 b_2
    obtain ⟨a_1, a_2, _, _⟩ := box2 Ka.out
    obtain ⟨b_1, b_2, _, _⟩ := box2 Kb.out
    go_wp2_with fail
    (with_reducible refine (C1'.out _).mono ?_)
    rintro e w21 ⟨rfl, hb⟩
    replace B0 := Lib.hid (below1 B0.out hb)
    replace Ka := Lib.hid (bl_up Ka.out hb)
    replace Kb := Lib.hid (bl_up Kb.out hb)
    replace Kr := Lib.hid (bl_up Kr.out hb)
    clear hb
    clear a_1 a_2 b_1 b_2
    obtain ⟨a_1, a_2, _, _⟩ := box2 Ka.out
    obtain ⟨b_1, b_2, _, _⟩ := box2 Kb.out
    go_wp2_with fail
    (with_reducible refine (C2'.out _).mono ?_)
    rintro e w22 ⟨rfl, hb⟩
    replace B0 := Lib.hid (below1 B0.out hb)
    replace Ka := Lib.hid (bl_up Ka.out hb)
    replace Kb := Lib.hid (bl_up Kb.out hb)
    replace Kr := Lib.hid (bl_up Kr.out hb)
    clear hb
    clear a_1 a_2 b_1 b_2
    obtain ⟨r1, r2, r3, r4⟩ := box2 Kr.out
    obtain ⟨s1, s2, _, _⟩ := box2 (put2_heap Kr.out (.string ⟨#[]⟩) (.string ⟨#[]⟩))
    have HF := Lib.hid (put2_below B0.out (show w.heap.size ≤ w.heap.size + 2 by omega) (.string ⟨#[]⟩) (.string ⟨#[]⟩))
    clear Ka Kb Kr
    go_wp2
    refine bodyPost_ret (v := .tuple #[.agg #[.string ⟨#[]⟩, .string ⟨#[]⟩], .int .i64 40]) (by simp [results, Tryz.results18, go_sem, s1, s2]) rfl ?_
    exact ⟨rfl, HF.out⟩
  ·
    rw [if_pos (by decide)]
    go_enter Tryz.func18, Tryz.ntmps18
    obtain ⟨a_1, a_2, _, _⟩ := box2 Ka.out
    go_wp2_with fail
    (with_reducible refine (CA.out _).mono ?_)
    rintro e w19 ⟨rfl, hb⟩
    replace B0 := Lib.hid (below1 B0.out hb)
    replace Ka := Lib.hid (bl_up Ka.out hb)
    replace Kb := Lib.hid (bl_up Kb.out hb)
    replace Kr := Lib.hid (bl_up Kr.out hb)
    clear hb
    clear a_1 a_2
    obtain ⟨b_1, b_2, _, _⟩ := box2 Kb.out
    go_wp2_with fail
    (with_reducible refine (CB.out _).mono ?_)
    rintro e w20 ⟨rfl, hb⟩
    replace B0 := Lib.hid (below1 B0.out hb)
    replace Ka := Lib.hid (bl_up Ka.out hb)
    replace Kb := Lib.hid (bl_up Kb.out hb)
    replace Kr := Lib.hid (bl_up Kr.out hb)
    clear hb
    clear b_1 b_2
    obtain ⟨a_1, a_2, _, _⟩ := box2 Ka.out
    obtain ⟨b_1, b_2, _, _⟩ := box2 Kb.out
    go_wp2_with fail
    (with_reducible refine (C1'.out _).mono ?_)
    rintro e w21 ⟨rfl, hb⟩
    replace B0 := Lib.hid (below1 B0.out hb)
    replace Ka := Lib.hid (bl_up Ka.out hb)
    replace Kb := Lib.hid (bl_up Kb.out hb)
    replace Kr := Lib.hid (bl_up Kr.out hb)
    clear hb
    clear a_1 a_2 b_1 b_2
    obtain ⟨a_1, a_2, _, _⟩ := box2 Ka.out
    obtain ⟨b_1, b_2, _, _⟩ := box2 Kb.out
    go_wp2_with fail
    (with_reducible refine (C2'.out _).mono ?_)
    rintro e w22 ⟨rfl, hb⟩
    replace B0 := Lib.hid (below1 B0.out hb)
    replace Ka := Lib.hid (bl_up Ka.out hb)
    replace Kb := Lib.hid (bl_up Kb.out hb)
    replace Kr := Lib.hid (bl_up Kr.out hb)
    clear hb
    clear a_1 a_2 b_1 b_2
    go_wp2_with fail
    (with_reducible refine (CM.out _).mono ?_)
    rintro e w23 ⟨rfl, hb⟩
    replace B0 := Lib.hid (below1 B0.out hb)
    replace Ka := Lib.hid (bl_up Ka.out hb)
    replace Kb := Lib.hid (bl_up Kb.out hb)
    replace Kr := Lib.hid (bl_up Kr.out hb)
    clear hb
    obtain ⟨u, hu⟩ : ∃ u, oN o = u := ⟨_, rfl⟩
    obtain ⟨v, hv⟩ : ∃ v, oD o = v := ⟨_, rfl⟩
    obtain ⟨k, hk⟩ : ∃ k, oE o = k := ⟨_, rfl⟩
    rw [hu, hv, hk]
    have HO := Lib.hid (And.intro hu (And.intro hv hk))
    clear hu hv hk
    obtain ⟨r1, r2, r3, r4⟩ := box2 Kr.out
    obtain ⟨s1, s2, _, _⟩ := box2 (put2_heap Kr.out (.string u) (.string v))
    have HF := Lib.hid (put2_below B0.out (show w.heap.size ≤ w.heap.size + 2 by omega) (.string u) (.string v))
    clear Ka Kb Kr
    go_wp2
    refine bodyPost_ret (v := .tuple #[.agg #[.string u, .string v], .int .i64 k]) (by simp [results, Tryz.results18, go_sem, s1, s2]) rfl ?_
    exact ⟨by rw [HO.out.1, HO.out.2.1, HO.out.2.2], HF.out⟩

set_option maxRecDepth 100000 in
set_option maxHeartbeats 4000000 in
theorem rqdiv_any (p q : Pr) (w : World) (hsp : p.1.size ≤ 9223372036854775807 ∧ p.2.size ≤ 9223372036854775807) (hsq : q.1.size ≤ 9223372036854775807 ∧ q.2.size ≤ 9223372036854775807) :
    Calls Tryz.prog 19 #[.agg #[.string p.1, .string p.2], .agg #[.string q.1, .string q.2]] w (QOut w (prodO p q q.2 q.1)) := by
  have CA := Lib.hid (fun W => rqvalid_any p.1 p.2 W hsp.1 hsp.2)
  have CB := Lib.hid (fun W => rqvalid_any q.1 q.2 W hsq.1 hsq.2)
  have C1 := Lib.hid (fun W => rmul_any p.1 q.2 W hsp.1 hsq.2)
  have C2 := Lib.hid (fun W => rmul_any p.2 q.1 W hsp.2 hsq.1)
  have CM := Lib.hid (fun W => rmake_any (opS mulF p.1 q.2) (opS mulF p.2 q.1) W (opS_size _ _ _) (opS_size _ _ _))
  unfold prodO fVp
  have C1' := Lib.hid (fun W => show Calls Tryz.prog 44 #[.string p.1, .string q.2] W (ResOut W (opS mulF p.1 q.2) (opE mulF p.1 q.2)) from C1.out W)
  have C2' := Lib.hid (fun W => show Calls Tryz.prog 44 #[.string p.2, .string q.1] W (ResOut W (opS mulF p.2 q.1) (opE mulF p.2 q.1)) from C2.out W)
  clear C1 C2
  generalize opS mulF p.1 q.2 = n at *
  generalize opS mulF p.2 q.1 = d at *
  generalize opE mulF p.1 q.2 = n1 at *
  generalize opE mulF p.2 q.1 = n2 at *
  generalize mkS n d = o at *
  generalize fV p.1 p.2 = va at *
  generalize fV q.1 q.2 = vb at *
  clear hsp hsq
  obtain ⟨pa, pb⟩ := p
  obtain ⟨qa, qb⟩ := q
  simp only at CA CB C1' C2' CM ⊢
  have hw4 : va = false ∨ (va = true ∧ vb = false) ∨ (va = true ∧ vb = true ∧ (n1 == 0) = false) ∨ (va = true ∧ vb = true ∧ n1 = 0 ∧ (n2 == 0) = false) ∨ (va = true ∧ vb = true ∧ n1 = 0 ∧ n2 = 0) := by
    cases va <;> cases vb <;> simp
    omega
  obtain ⟨wA, hwA⟩ : ∃ wA, (((w).alloc (.cells #[.string pa, .string pb] 23)).alloc (.cells #[.string qa, .string qb] 23)).alloc (.cells #[.string ⟨#[]⟩, .string ⟨#[]⟩] 23) = wA := ⟨_, rfl⟩
  have B0 := Lib.hid (show Below w.heap.size w wA by rw [← hwA]; exact (((Below.refl w.heap.size w).alloc (Nat.le_refl _) _).alloc (by simp <;> omega) _).alloc (by simp <;> omega) _)
  have Ka := Lib.hid (show wA.heap[w.heap.size]? = some (.cells #[.string pa, .string pb] 23) by rw [← hwA]; exact (Below.heap_alloc _ _ _ (by simp <;> omega)).trans ((Below.heap_alloc _ _ _ (by simp <;> omega)).trans (heap_new' _ _ _ rfl)))
  have Kb := Lib.hid (show wA.heap[w.heap.size + 1]? = some (.cells #[.string qa, .string qb] 23) by rw [← hwA]; exact (Below.heap_alloc _ _ _ (by simp <;> omega)).trans (heap_new' _ _ _ (by simp)))
  have Kr := Lib.hid (show wA.heap[w.heap.size + 2]? = some (.cells #[.string ⟨#[]⟩, .string ⟨#[]⟩] 23) by rw [← hwA]; exact heap_new' _ _ _ (by simp))
  rcases hw4 with rfl | ⟨rfl, rfl⟩ | ⟨rfl, rfl, t1⟩ | ⟨rfl, rfl, rfl, t2⟩ | ⟨rfl, rfl, rfl, rfl⟩
  ·
    rw [if_neg (by simp)]
    go_enter Tryz.func19, Tryz.ntmps19
    obtain ⟨a_1, a_2, _, _⟩ := box2 Ka.out
    go_wp2_with fail
    (with_reducible refine (CA.out _).mono ?_)
    rintro e w24 ⟨rfl, hb⟩
    replace B0 := Lib.hid (below1 B0.out hb)
    replace Ka := Lib.hid (bl_up Ka.out hb)
    replace Kb := Lib.hid (bl_up Kb.out hb)
    replace Kr := Lib.hid (bl_up Kr.out hb)
    clear hb
    clear a_1 a_2
    obtain ⟨b_1, b_2, _, _⟩ := box2 Kb.out
    go_wp2_with fail
    (with_reducible refine (CB.out _).mono ?_)
    rintro e w25 ⟨rfl, hb⟩
    replace B0 := Lib.hid (below1 B0.out hb)
    replace Ka := Lib.hid (bl_up Ka.out hb)
    replace Kb := Lib.hid (bl_up Kb.out hb)
    replace Kr := Lib.hid (bl_up Kr.out hb)
    clear hb
    clear b_1 b_2
    obtain ⟨r1, r2, r3, r4⟩ := box2 Kr.out
    obtain ⟨s1, s2, _, _⟩ := box2 (put2_heap Kr.out (.string ⟨#[]⟩) (.string ⟨#[]⟩))
    have HF := Lib.hid (put2_below B0.out (show w.heap.size ≤ w.heap.size + 2 by omega) (.string ⟨#[]⟩) (.string ⟨#[]⟩))
    clear Ka Kb Kr
    go_wp2
    refine bodyPost_ret (v := .tuple #[.agg #[.string ⟨#[]⟩, .string ⟨#[]⟩], .int .i64 40]) (by simp [results, Tryz.results19, go_sem, s1, s2]) rfl ?_
    exact ⟨rfl, HF.out⟩
  ·
    rw [if_neg (by simp)]
    go_enter Tryz.func19, Tryz.ntmps19
    obtain ⟨a_1, a_2, _, _⟩ := box2 Ka.out
    go_wp2_with fail
    (with_reducible refine (CA.out _).mono ?_)
    rintro e w24 ⟨rfl, hb⟩
    replace B0 := Lib.hid (below1 B0.out hb)
    replace Ka := Lib.hid (bl_up Ka.out hb)
    replace Kb := Lib.hid (bl_up Kb.out hb)
    replace Kr := Lib.hid (bl_up Kr.out hb)
    clear hb
    clear a_1 a_2
    obtain ⟨b_1, b_2, _, _⟩ := box2 Kb.out
    go_wp2_with fail
    (with_reducible refine (CB.out _).mono ?_)
    rintro e w25 ⟨rfl, hb⟩
    replace B0 := Lib.hid (below1 B0.out hb)
    replace Ka := Lib.hid (bl_up Ka.out hb)
    replace Kb := Lib.hid (bl_up Kb.out hb)
    replace Kr := Lib.hid (bl_up Kr.out hb)
    clear hb
    clear b_1 b_2
    obtain ⟨r1, r2, r3, r4⟩ := box2 Kr.out
    obtain ⟨s1, s2, _, _⟩ := box2 (put2_heap Kr.out (.string ⟨#[]⟩) (.string ⟨#[]⟩))
    have HF := Lib.hid (put2_below B0.out (show w.heap.size ≤ w.heap.size + 2 by omega) (.string ⟨#[]⟩) (.string ⟨#[]⟩))
    clear Ka Kb Kr
    go_wp2
    refine bodyPost_ret (v := .tuple #[.agg #[.string ⟨#[]⟩, .string ⟨#[]⟩], .int .i64 40]) (by simp [results, Tryz.results19, go_sem, s1, s2]) rfl ?_
    exact ⟨rfl, HF.out⟩
  ·
    rw [if_neg (by simp [t1])]
    have t1' : (n1 != 0) = true := by rw [bne, t1]; rfl
    go_enter Tryz.func19, Tryz.ntmps19
    obtain ⟨a_1, a_2, _, _⟩ := box2 Ka.out
    go_wp2_with fail
    (with_reducible refine (CA.out _).mono ?_)
    rintro e w24 ⟨rfl, hb⟩
    replace B0 := Lib.hid (below1 B0.out hb)
    replace Ka := Lib.hid (bl_up Ka.out hb)
    replace Kb := Lib.hid (bl_up Kb.out hb)
    replace Kr := Lib.hid (bl_up Kr.out hb)
    clear hb
    clear a_1 a_2
    obtain ⟨b_1, b_2, _, _⟩ := box2 Kb.out
    go_wp2_with fail
    (with_reducible refine (CB.out _).mono ?_)
    rintro e w25 ⟨rfl, hb⟩
    replace B0 := Lib.hid (below1 B0.out hb)
    replace Ka := Lib.hid (bl_up Ka.out hb)
    replace Kb := Lib.hid (bl_up Kb.out hb)
    replace Kr := Lib.hid (bl_up Kr.out hb)
    clear hb
    clear b_1 b_2
    obtain ⟨a_1, a_2, _, _⟩ := box2 Ka.out
    obtain ⟨b_1, b_2, _, _⟩ := box2 Kb.out
    go_wp2_with fail
    (with_reducible refine (C1'.out _).mono ?_)
    rintro e w26 ⟨rfl, hb⟩
    replace B0 := Lib.hid (below1 B0.out hb)
    replace Ka := Lib.hid (bl_up Ka.out hb)
    replace Kb := Lib.hid (bl_up Kb.out hb)
    replace Kr := Lib.hid (bl_up Kr.out hb)
    clear hb
    clear a_1 a_2 b_1 b_2
    obtain ⟨a_1, a_2, _, _⟩ := box2 Ka.out
    obtain ⟨b_1, b_2, _, _⟩ := box2 Kb.out
    go_wp2_with fail
    (with_reducible refine (C2'.out _).mono ?_)
    rintro e w27 ⟨rfl, hb⟩
    replace B0 := Lib.hid (below1 B0.out hb)
    replace Ka := Lib.hid (bl_up Ka.out hb)
    replace Kb := Lib.hid (bl_up Kb.out hb)
    replace Kr := Lib.hid (bl_up Kr.out hb)
    clear hb
    clear a_1 a_2 b_1 b_2
    obtain ⟨r1, r2, r3, r4⟩ := box2 Kr.out
    obtain ⟨s1, s2, _, _⟩ := box2 (put2_heap Kr.out (.string ⟨#[]⟩) (.string ⟨#[]⟩))
    have HF := Lib.hid (put2_below B0.out (show w.heap.size ≤ w.heap.size + 2 by omega) (.string ⟨#[]⟩) (.string ⟨#[]⟩))
    clear Ka Kb Kr
    go_wp2
    refine bodyPost_ret (v := .tuple #[.agg #[.string ⟨#[]⟩, .string ⟨#[]⟩], .int .i64 40]) (by simp [results, Tryz.results19, go_sem, s1, s2]) rfl ?_
    exact ⟨rfl, HF.out⟩
  ·
    rw [if_neg (by simp [t2])]
    have t2' : (n2 != 0) = true := by rw [bne, t2]; rfl
    go_enter Tryz.func19, Tryz.ntmps19
    obtain ⟨a_1, a_2, _, _⟩ := box2 Ka.out
    go_wp2_with fail
    (with_reducible refine (CA.out _).mono ?_)
    rintro e w24 ⟨rfl, hb⟩
    replace B0 := Lib.hid (below1 B0.out hb)
    replace Ka := Lib.hid (bl_up Ka.out hb)
    replace Kb := Lib.hid (bl_up Kb.out hb)
    replace Kr := Lib.hid (bl_up Kr.out hb)
    clear hb
    clear a_1 a_2
    obtain ⟨b_1, b_2, _, _⟩ := box2 Kb.out
    go_wp2_with fail
    (with_reducible refine (CB.out _).mono ?_)
    rintro e w25 ⟨rfl, hb⟩
    replace B0 := Lib.hid (below1 B0.out hb)
    replace Ka := Lib.hid (bl_up Ka.out hb)
    replace Kb := Lib.hid (bl_up Kb.out hb)
    replace Kr := Lib.hid (bl_up Kr.out hb)
    clear hb
    clear b_1 b_2
    obtain ⟨a_1, a_2, _, _⟩ := box2 Ka.out
    obtain ⟨b_1, b_2, _, _⟩ := box2 Kb.out
    go_wp2_with fail
    (with_reducible refine (C1'.out _).mono ?_)
    rintro e w26 ⟨rfl, hb⟩
    replace B0 := Lib.hid (below1 B0.out hb)
    replace Ka := Lib.hid (bl_up Ka.out hb)
    replace Kb := Lib.hid (bl_up Kb.out hb)
    replace Kr := Lib.hid (bl_up Kr.out hb)
    clear hb
    clear a_1 a_2 b_1 b_2
    obtain ⟨a_1, a_2, _, _⟩ := box2 Ka.out
    obtain ⟨b_1, b_2, _, _⟩ := box2 Kb.out
    go_wp2_with fail
    (with_reducible refine (C2'.out _).mono ?_)
    rintro e w27 ⟨rfl, hb⟩
    replace B0 := Lib.hid (below1 B0.out hb)
    replace Ka := Lib.hid (bl_up Ka.out hb)
    replace Kb := Lib.hid (bl_up Kb.out hb)
    replace Kr := Lib.hid (bl_up Kr.out hb)
    clear hb
    clear a_1 a_2 b_1 b_2
    obtain ⟨r1, r2, r3, r4⟩ := box2 Kr.out
    obtain ⟨s1, s2, _, _⟩ := box2 (put2_heap Kr.out (.string ⟨#[]⟩) (.string ⟨#[]⟩))
    have HF := Lib.hid (put2_below B0.out (show w.heap.size ≤ w.heap.size + 2 by omega) (.string ⟨#[]⟩) (.string ⟨#[]⟩))
    clear Ka Kb Kr
    go_wp2
    refine bodyPost_ret (v := .tuple #[.agg #[.string ⟨#[]⟩, .string ⟨#[]⟩], .int .i64 40]) (by simp [results, Tryz.results19, go_sem, s1, s2]) rfl ?_
    exact ⟨rfl, HF.out⟩
  ·
    rw [if_pos (by decide)]
    go_enter Tryz.func19, Tryz.ntmps19
    obtain ⟨a_1, a_2, _, _⟩ := box2 Ka.out
    go_wp2_with fail
    (with_reducible refine (CA.out _).mono ?_)
    rintro e w24 ⟨rfl, hb⟩
    replace B0 := Lib.hid (below1 B0.out hb)
    replace Ka := Lib.hid (bl_up Ka.out hb)
    replace Kb := Lib.hid (bl_up Kb.out hb)
    replace Kr := Lib.hid (bl_up Kr.out hb)
    clear hb
    clear a_1 a_2
    obtain ⟨b_1, b_2, _, _⟩ := box2 Kb.out
    go_wp2_with fail
    (with_reducible refine (CB.out _).mono ?_)
    rintro e w25 ⟨rfl, hb⟩
    replace B0 := Lib.hid (below1 B0.out hb)
    replace Ka := Lib.hid (bl_up Ka.out hb)
    replace Kb := Lib.hid (bl_up Kb.out hb)
    replace Kr := Lib.hid (bl_up Kr.out hb)
    clear hb
    clear b_1 b_2
    obtain ⟨a_1, a_2, _, _⟩ := box2 Ka.out
    obtain ⟨b_1, b_2, _, _⟩ := box2 Kb.out
    go_wp2_with fail
    (with_reducible refine (C1'.out _).mono ?_)
    rintro e w26 ⟨rfl, hb⟩
    replace B0 := Lib.hid (below1 B0.out hb)
    replace Ka := Lib.hid (bl_up Ka.out hb)
    replace Kb := Lib.hid (bl_up Kb.out hb)
    replace Kr := Lib.hid (bl_up Kr.out hb)
    clear hb
    clear a_1 a_2 b_1 b_2
    obtain ⟨a_1, a_2, _, _⟩ := box2 Ka.out
    obtain ⟨b_1, b_2, _, _⟩ := box2 Kb.out
    go_wp2_with fail
    (with_reducible refine (C2'.out _).mono ?_)
    rintro e w27 ⟨rfl, hb⟩
    replace B0 := Lib.hid (below1 B0.out hb)
    replace Ka := Lib.hid (bl_up Ka.out hb)
    replace Kb := Lib.hid (bl_up Kb.out hb)
    replace Kr := Lib.hid (bl_up Kr.out hb)
    clear hb
    clear a_1 a_2 b_1 b_2
    go_wp2_with fail
    (with_reducible refine (CM.out _).mono ?_)
    rintro e w28 ⟨rfl, hb⟩
    replace B0 := Lib.hid (below1 B0.out hb)
    replace Ka := Lib.hid (bl_up Ka.out hb)
    replace Kb := Lib.hid (bl_up Kb.out hb)
    replace Kr := Lib.hid (bl_up Kr.out hb)
    clear hb
    obtain ⟨u, hu⟩ : ∃ u, oN o = u := ⟨_, rfl⟩
    obtain ⟨v, hv⟩ : ∃ v, oD o = v := ⟨_, rfl⟩
    obtain ⟨k, hk⟩ : ∃ k, oE o = k := ⟨_, rfl⟩
    rw [hu, hv, hk]
    have HO := Lib.hid (And.intro hu (And.intro hv hk))
    clear hu hv hk
    obtain ⟨r1, r2, r3, r4⟩ := box2 Kr.out
    obtain ⟨s1, s2, _, _⟩ := box2 (put2_heap Kr.out (.string u) (.string v))
    have HF := Lib.hid (put2_below B0.out (show w.heap.size ≤ w.heap.size + 2 by omega) (.string u) (.string v))
    clear Ka Kb Kr
    go_wp2
    refine bodyPost_ret (v := .tuple #[.agg #[.string u, .string v], .int .i64 k]) (by simp [results, Tryz.results19, go_sem, s1, s2]) rfl ?_
    exact ⟨by rw [HO.out.1, HO.out.2.1, HO.out.2.2], HF.out⟩

def PwOut (w : World) (s : ByteArray) (e : Ending) (w' : World) : Prop := e = .returned (.string s) ∧ Below w.heap.size w w'
set_option maxRecDepth 100000 in
set_option maxHeartbeats 4000000 in
theorem rpower_any (n : Nat) (hn : n ≤ 30) (w : World) : Calls Tryz.prog 90 #[.int .i64 (n : Int)] w (PwOut w (pwS n)) := by
  have hnI : (n : Int) ≤ 30 := by omega
  go_enter Tryz.func90, Tryz.ntmps90
  go_wp2
  go_loop [3, 4] (fun s iv => ∃ k : Nat, k ≤ n ∧ iv = .int .i64 k ∧ s = .string (pwS k)) (fun _ iv => n - (intOf iv).toNat)
  case atStart => exact ⟨0, Nat.zero_le _, rfl, by rw [show pwS 0 = ⟨#[49]⟩ from by decide +kernel]⟩
  case round =>
    obtain ⟨k, hk, rfl, rfl⟩ := hrel
    have hap := pw_next k
    have hsz := pwS_small (show k ≤ 200 by omega)
    by_cases hkn : k < n
    · obtain ⟨s1, hs1⟩ : ∃ s1, pwS k = s1 := ⟨_, rfl⟩
      rw [hs1] at hap hsz ⊢
      have H2 := Lib.hid hap
      clear hs1
      go_wp2
      go_round
      case rel => exact ⟨k + 1, by omega, by go_num, rfl⟩
      case measure => simp [intOf]; omega
    · obtain rfl : k = n := by omega
      clear hap hkn hk
      obtain ⟨a, ha⟩ : ∃ a, pwS k = a := ⟨_, rfl⟩
      rw [ha] at hsz ⊢
      have HA := Lib.hid ha
      clear ha hsz
      go_wp2
      go_ret
      exact ⟨by rw [HA.out]; rfl, Below.refl _ _⟩

def GrNo (w : World) (e : Ending) (w' : World) : Prop := ∃ x y d : ByteArray, e = .returned (.tuple #[.string x, .string y, .string d, .bool false]) ∧ Below w.heap.size w w'
def GrYes (w : World) (x y d : ByteArray) (e : Ending) (w' : World) : Prop := e = .returned (.tuple #[.string x, .string y, .string d, .bool true]) ∧ Below w.heap.size w w'
/-- May the fraction be counted in units of the grid? -/
def grB (p : Pr) (n : Int) : Bool := fVp p && plV n && (opE mulF p.1 (pwS (pwN n)) == 0) && (divE (rdM p n) p.2 == 0)
theorem round_gr (cs : ByteArray → ByteArray → ByteArray) (ce : ByteArray → ByteArray → Int) (p : Pr) (n : Int) : roundO cs ce p n = if grB p n && (ce (rdQ p n) (rdR p n) == 0) then mkS (cs (rdQ p n) (rdR p n)) (pwS (pwN n)) else none := rfl
theorem gr_ways {p : Pr} {n : Int} (h : grB p n = false) : fVp p = false ∨ (fVp p = true ∧ n < 0) ∨ (fVp p = true ∧ 30 < n) ∨ (fVp p = true ∧ plV n = true ∧ (opE mulF p.1 (pwS (pwN n)) == 0) = false) ∨
    (fVp p = true ∧ plV n = true ∧ (opE mulF p.1 (pwS (pwN n)) == 0) = true ∧ (divE (rdM p n) p.2 == 0) = false) := by
  unfold grB at h
  cases h1 : fVp p with
  | false => exact .inl rfl
  | true =>
    cases h2 : plV n with
    | false =>
      have h3 : ¬ (0 ≤ n ∧ n ≤ 30) := by unfold plV at h2; simpa using h2
      by_cases h4 : n < 0
      · exact .inr (.inl ⟨rfl, h4⟩)
      · exact .inr (.inr (.inl ⟨rfl, by omega⟩))
    | true =>
      rw [h1, h2] at h
      cases h3 : (opE mulF p.1 (pwS (pwN n)) == 0) with
      | false => exact .inr (.inr (.inr (.inl ⟨rfl, rfl, rfl⟩)))
      | true =>
        rw [h3] at h
        exact .inr (.inr (.inr (.inr ⟨rfl, rfl, rfl, h⟩)))
theorem gr_yes {p : Pr} {n : Int} (h : grB p n = true) : fVp p = true ∧ plV n = true ∧ (opE mulF p.1 (pwS (pwN n)) == 0) = true ∧ (divE (rdM p n) p.2 == 0) = true := by
  unfold grB at h
  simp only [Bool.and_eq_true] at h
  exact ⟨h.1.1.1, h.1.1.2, h.1.2, h.2⟩
theorem pl_nat {n : Int} (h : plV n = true) : ∃ k : Nat, k ≤ 30 ∧ n = (k : Int) ∧ pwN n = k := by
  have h2 := h
  unfold plV at h
  simp only [Bool.and_eq_true, decide_eq_true_eq] at h
  refine ⟨n.toNat, by omega, by omega, ?_⟩
  unfold pwN; rw [h2]; rfl

set_option maxRecDepth 100000 in
set_option maxHeartbeats 4000000 in
theorem rgrid_no (p : Pr) (n : Int) (w : World) (hsp : p.1.size ≤ 9223372036854775807 ∧ p.2.size ≤ 9223372036854775807) (h : grB p n = false) : Calls Tryz.prog 57 #[.agg #[.string p.1, .string p.2], .int .i64 n] w (GrNo w) := by
  have hw := gr_ways h
  have CA := Lib.hid (fun W => rqvalid_any p.1 p.2 W hsp.1 hsp.2)
  unfold fVp at hw
  clear h
  rcases hw with h | ⟨h, h2⟩ | ⟨h, h2⟩ | ⟨h, h2, t1⟩ | ⟨h, h2, t1, t2⟩
  ·
    rw [h] at CA
    clear h hsp
    obtain ⟨pa, pb⟩ := p
    simp only at *
    obtain ⟨wA, hwA⟩ : ∃ wA, (w).alloc (.cells #[.string pa, .string pb] 23) = wA := ⟨_, rfl⟩
    have B0 := Lib.hid (show Below w.heap.size w wA by rw [← hwA]; exact (Below.refl w.heap.size w).alloc (Nat.le_refl _) _)
    have Ka := Lib.hid (show wA.heap[w.heap.size]? = some (.cells #[.string pa, .string pb] 23) by rw [← hwA]; exact heap_new' _ _ _ rfl)
    go_enter Tryz.func57, Tryz.ntmps57
    obtain ⟨a_1, a_2, _, _⟩ := box2 Ka.out
    go_wp2_with fail
    (with_reducible refine (CA.out _).mono ?_)
    rintro e w29 ⟨rfl, hb⟩
    replace B0 := Lib.hid (below1 B0.out hb)
    replace Ka := Lib.hid (bl_up Ka.out hb)
    clear hb
    clear a_1 a_2
    have HF := Lib.hid B0.out
    clear Ka
    go_wp2
    refine bodyPost_ret (v := .tuple #[.string ⟨#[]⟩, .string ⟨#[]⟩, .string ⟨#[]⟩, .bool false]) (by simp [results, Tryz.results57, go_sem]) rfl ?_
    exact ⟨_, _, _, rfl, HF.out⟩
  ·
    rw [h] at CA
    clear h hsp
    obtain ⟨pa, pb⟩ := p
    simp only at *
    obtain ⟨wA, hwA⟩ : ∃ wA, (w).alloc (.cells #[.string pa, .string pb] 23) = wA := ⟨_, rfl⟩
    have B0 := Lib.hid (show Below w.heap.size w wA by rw [← hwA]; exact (Below.refl w.heap.size w).alloc (Nat.le_refl _) _)
    have Ka := Lib.hid (show wA.heap[w.heap.size]? = some (.cells #[.string pa, .string pb] 23) by rw [← hwA]; exact heap_new' _ _ _ rfl)
    go_enter Tryz.func57, Tryz.ntmps57
    obtain ⟨a_1, a_2, _, _⟩ := box2 Ka.out
    go_wp2_with fail
    (with_reducible refine (CA.out _).mono ?_)
    rintro e w29 ⟨rfl, hb⟩
    replace B0 := Lib.hid (below1 B0.out hb)
    replace Ka := Lib.hid (bl_up Ka.out hb)
    clear hb
    clear a_1 a_2
    have HF := Lib.hid B0.out
    clear Ka
    go_wp2
    refine bodyPost_ret (v := .tuple #[.string ⟨#[]⟩, .string ⟨#[]⟩, .string ⟨#[]⟩, .bool false]) (by simp [results, Tryz.results57, go_sem]) rfl ?_
    exact ⟨_, _, _, rfl, HF.out⟩
  ·
    rw [h] at CA
    clear h hsp
    obtain ⟨pa, pb⟩ := p
    simp only at *
    obtain ⟨wA, hwA⟩ : ∃ wA, (w).alloc (.cells #[.string pa, .string pb] 23) = wA := ⟨_, rfl⟩
    have B0 := Lib.hid (show Below w.heap.size w wA by rw [← hwA]; exact (Below.refl w.heap.size w).alloc (Nat.le_refl _) _)
    have Ka := Lib.hid (show wA.heap[w.heap.size]? = some (.cells #[.string pa, .string pb] 23) by rw [← hwA]; exact heap_new' _ _ _ rfl)
    go_enter Tryz.func57, Tryz.ntmps57
    obtain ⟨a_1, a_2, _, _⟩ := box2 Ka.out
    go_wp2_with fail
    (with_reducible refine (CA.out _).mono ?_)
    rintro e w29 ⟨rfl, hb⟩
    replace B0 := Lib.hid (below1 B0.out hb)
    replace Ka := Lib.hid (bl_up Ka.out hb)
    clear hb
    clear a_1 a_2
    have HF := Lib.hid B0.out
    clear Ka
    go_wp2
    refine bodyPost_ret (v := .tuple #[.string ⟨#[]⟩, .string ⟨#[]⟩, .string ⟨#[]⟩, .bool false]) (by simp [results, Tryz.results57, go_sem]) rfl ?_
    exact ⟨_, _, _, rfl, HF.out⟩
  ·
    rw [h] at CA
    obtain ⟨k, hk, rfl, hN⟩ := pl_nat h2
    have CP := Lib.hid (fun W => rpower_any k hk W)
    have C1 := Lib.hid (fun W => show Calls Tryz.prog 44 #[.string p.1, .string (pwS k)] W (ResOut W (opS mulF p.1 (pwS k)) (opE mulF p.1 (pwS k))) from rmul_any p.1 (pwS k) W hsp.1 (pw_size k hk))
    have hkI : (k : Int) ≤ 30 := by omega
    rw [hN] at t1
    generalize opE mulF p.1 (pwS k) = e1 at *
    generalize opS mulF p.1 (pwS k) = z at *
    generalize pwS k = t at *
    have t1' : (e1 != 0) = true := by rw [bne, t1]; rfl
    clear hN h2 hk
    clear h hsp
    obtain ⟨pa, pb⟩ := p
    simp only at *
    obtain ⟨wA, hwA⟩ : ∃ wA, (w).alloc (.cells #[.string pa, .string pb] 23) = wA := ⟨_, rfl⟩
    have B0 := Lib.hid (show Below w.heap.size w wA by rw [← hwA]; exact (Below.refl w.heap.size w).alloc (Nat.le_refl _) _)
    have Ka := Lib.hid (show wA.heap[w.heap.size]? = some (.cells #[.string pa, .string pb] 23) by rw [← hwA]; exact heap_new' _ _ _ rfl)
    go_enter Tryz.func57, Tryz.ntmps57
    obtain ⟨a_1, a_2, _, _⟩ := box2 Ka.out
    go_wp2_with fail
    (with_reducible refine (CA.out _).mono ?_)
    rintro e w29 ⟨rfl, hb⟩
    replace B0 := Lib.hid (below1 B0.out hb)
    replace Ka := Lib.hid (bl_up Ka.out hb)
    clear hb
    clear a_1 a_2
    go_wp2_with fail
    (with_reducible refine (CP.out _).mono ?_)
    rintro e w30 ⟨rfl, hb⟩
    replace B0 := Lib.hid (below1 B0.out hb)
    replace Ka := Lib.hid (bl_up Ka.out hb)
    clear hb
    obtain ⟨a_1, a_2, _, _⟩ := box2 Ka.out
    go_wp2_with fail
    (with_reducible refine (C1.out _).mono ?_)
    rintro e w31 ⟨rfl, hb⟩
    replace B0 := Lib.hid (below1 B0.out hb)
    replace Ka := Lib.hid (bl_up Ka.out hb)
    clear hb
    clear a_1 a_2
    have HF := Lib.hid B0.out
    clear Ka
    go_wp2
    refine bodyPost_ret (v := .tuple #[.string ⟨#[]⟩, .string ⟨#[]⟩, .string ⟨#[]⟩, .bool false]) (by simp [results, Tryz.results57, go_sem]) rfl ?_
    exact ⟨_, _, _, rfl, HF.out⟩
  ·
    rw [h] at CA
    obtain ⟨k, hk, rfl, hN⟩ := pl_nat h2
    have CP := Lib.hid (fun W => rpower_any k hk W)
    have C1 := Lib.hid (fun W => show Calls Tryz.prog 44 #[.string p.1, .string (pwS k)] W (ResOut W (opS mulF p.1 (pwS k)) (opE mulF p.1 (pwS k))) from rmul_any p.1 (pwS k) W hsp.1 (pw_size k hk))
    have hkI : (k : Int) ≤ 30 := by omega
    rw [hN] at t1
    have e1 : opE mulF p.1 (pwS k) = 0 := by simpa using t1
    rw [e1] at C1
    have C2 := Lib.hid (fun W => rdiv_any (opS mulF p.1 (pwS k)) p.2 W (opS_size _ _ _) hsp.2)
    unfold rdM at t2
    rw [hN] at t2
    generalize opS mulF p.1 (pwS k) = z at *
    generalize pwS k = t at *
    generalize divQ z p.2 = dq at *
    generalize divR z p.2 = dr at *
    generalize divE z p.2 = de at *
    clear e1 t1
    clear hN h2 hk
    clear h hsp
    obtain ⟨pa, pb⟩ := p
    simp only at *
    obtain ⟨wA, hwA⟩ : ∃ wA, (w).alloc (.cells #[.string pa, .string pb] 23) = wA := ⟨_, rfl⟩
    have B0 := Lib.hid (show Below w.heap.size w wA by rw [← hwA]; exact (Below.refl w.heap.size w).alloc (Nat.le_refl _) _)
    have Ka := Lib.hid (show wA.heap[w.heap.size]? = some (.cells #[.string pa, .string pb] 23) by rw [← hwA]; exact heap_new' _ _ _ rfl)
    go_enter Tryz.func57, Tryz.ntmps57
    obtain ⟨a_1, a_2, _, _⟩ := box2 Ka.out
    go_wp2_with fail
    (with_reducible refine (CA.out _).mono ?_)
    rintro e w29 ⟨rfl, hb⟩
    replace B0 := Lib.hid (below1 B0.out hb)
    replace Ka := Lib.hid (bl_up Ka.out hb)
    clear hb
    clear a_1 a_2
    go_wp2_with fail
    (with_reducible refine (CP.out _).mono ?_)
    rintro e w30 ⟨rfl, hb⟩
    replace B0 := Lib.hid (below1 B0.out hb)
    replace Ka := Lib.hid (bl_up Ka.out hb)
    clear hb
    obtain ⟨a_1, a_2, _, _⟩ := box2 Ka.out
    go_wp2_with fail
    (with_reducible refine (C1.out _).mono ?_)
    rintro e w31 ⟨rfl, hb⟩
    replace B0 := Lib.hid (below1 B0.out hb)
    replace Ka := Lib.hid (bl_up Ka.out hb)
    clear hb
    clear a_1 a_2
    obtain ⟨a_1, a_2, _, _⟩ := box2 Ka.out
    go_wp2_with fail
    (with_reducible refine (C2.out _).mono ?_)
    rintro e w32 ⟨rfl, hb⟩
    replace B0 := Lib.hid (below1 B0.out hb)
    replace Ka := Lib.hid (bl_up Ka.out hb)
    clear hb
    clear a_1 a_2
    have HF := Lib.hid B0.out
    clear Ka
    go_wp2
    refine bodyPost_ret (v := .tuple #[.string dq, .string dr, .string t, .bool false]) (by simp [results, Tryz.results57, go_sem]) rfl ?_
    exact ⟨_, _, _, rfl, HF.out⟩
set_option maxRecDepth 100000 in
set_option maxHeartbeats 4000000 in
theorem rgrid_yes (p : Pr) (n : Int) (w : World) (hsp : p.1.size ≤ 9223372036854775807 ∧ p.2.size ≤ 9223372036854775807) (h : grB p n = true) : Calls Tryz.prog 57 #[.agg #[.string p.1, .string p.2], .int .i64 n] w (GrYes w (rdQ p n) (rdR p n) (pwS (pwN n))) := by
  obtain ⟨h1, h2, t1, t2⟩ := gr_yes h
  have CA := Lib.hid (fun W => rqvalid_any p.1 p.2 W hsp.1 hsp.2)
  unfold fVp at h1
  rw [h1] at CA
  obtain ⟨k, hk, rfl, hN⟩ := pl_nat h2
  unfold rdQ rdR
  unfold rdM at t2 ⊢
  rw [hN] at t1 t2 ⊢
  have CP := Lib.hid (fun W => rpower_any k hk W)
  have C1 := Lib.hid (fun W => show Calls Tryz.prog 44 #[.string p.1, .string (pwS k)] W (ResOut W (opS mulF p.1 (pwS k)) (opE mulF p.1 (pwS k))) from rmul_any p.1 (pwS k) W hsp.1 (pw_size k hk))
  have hkI : (k : Int) ≤ 30 := by omega
  have e1 : opE mulF p.1 (pwS k) = 0 := by simpa using t1
  rw [e1] at C1
  have C2 := Lib.hid (fun W => rdiv_any (opS mulF p.1 (pwS k)) p.2 W (opS_size _ _ _) hsp.2)
  generalize opS mulF p.1 (pwS k) = z at *
  generalize pwS k = t at *
  have e2 : divE z p.2 = 0 := by simpa using t2
  rw [e2] at C2
  generalize divQ z p.2 = dq at *
  generalize divR z p.2 = dr at *
  clear e1 t1 t2 e2 hN h2 hk h1 h hsp
  obtain ⟨pa, pb⟩ := p
  simp only at *
  obtain ⟨wA, hwA⟩ : ∃ wA, (w).alloc (.cells #[.string pa, .string pb] 23) = wA := ⟨_, rfl⟩
  have B0 := Lib.hid (show Below w.heap.size w wA by rw [← hwA]; exact (Below.refl w.heap.size w).alloc (Nat.le_refl _) _)
  have Ka := Lib.hid (show wA.heap[w.heap.size]? = some (.cells #[.string pa, .string pb] 23) by rw [← hwA]; exact heap_new' _ _ _ rfl)
  go_enter Tryz.func57, Tryz.ntmps57
  obtain ⟨a_1, a_2, _, _⟩ := box2 Ka.out
  go_wp2_with fail
  (with_reducible refine (CA.out _).mono ?_)
  rintro e w33 ⟨rfl, hb⟩
  replace B0 := Lib.hid (below1 B0.out hb)
  replace Ka := Lib.hid (bl_up Ka.out hb)
  clear hb
  clear a_1 a_2
  go_wp2_with fail
  (with_reducible refine (CP.out _).mono ?_)
  rintro e w34 ⟨rfl, hb⟩
  replace B0 := Lib.hid (below1 B0.out hb)
  replace Ka := Lib.hid (bl_up Ka.out hb)
  clear hb
  obtain ⟨a_1, a_2, _, _⟩ := box2 Ka.out
  go_wp2_with fail
  (with_reducible refine (C1.out _).mono ?_)
  rintro e w35 ⟨rfl, hb⟩
  replace B0 := Lib.hid (below1 B0.out hb)
  replace Ka := Lib.hid (bl_up Ka.out hb)
  clear hb
  clear a_1 a_2
  obtain ⟨a_1, a_2, _, _⟩ := box2 Ka.out
  go_wp2_with fail
  (with_reducible refine (C2.out _).mono ?_)
  rintro e w36 ⟨rfl, hb⟩
  replace B0 := Lib.hid (below1 B0.out hb)
  replace Ka := Lib.hid (bl_up Ka.out hb)
  clear hb
  clear a_1 a_2
  have HF := Lib.hid B0.out
  clear Ka
  go_wp2
  refine bodyPost_ret (v := .tuple #[.string dq, .string dr, .string t, .bool true]) (by simp [results, Tryz.results57, go_sem]) rfl ?_
  exact ⟨rfl, HF.out⟩

set_option maxRecDepth 100000 in
set_option maxHeartbeats 4000000 in
theorem rqdown_any (p : Pr) (n : Int) (w : World) (hsp : p.1.size ≤ 9223372036854775807 ∧ p.2.size ≤ 9223372036854775807) : Calls Tryz.prog 24 #[.agg #[.string p.1, .string p.2], .int .i64 n] w (QOut w (roundO dnS dnE p n)) := by
  rw [round_gr]
  cases hcr : grB p n with
  | false =>
    have CC := Lib.hid (fun W => rgrid_no p n W hsp hcr)
    rw [Bool.false_and, if_neg (by decide)]
    clear hcr hsp
    obtain ⟨pa, pb⟩ := p
    simp only at CC ⊢
    obtain ⟨wA, hwA⟩ : ∃ wA, ((w).alloc (.cells #[.string pa, .string pb] 23)).alloc (.cells #[.string ⟨#[]⟩, .string ⟨#[]⟩] 23) = wA := ⟨_, rfl⟩
    have B0 := Lib.hid (show Below w.heap.size w wA by rw [← hwA]; exact ((Below.refl w.heap.size w).alloc (Nat.le_refl _) _).alloc (by simp <;> omega) _)
    have Ka := Lib.hid (show wA.heap[w.heap.size]? = some (.cells #[.string pa, .string pb] 23) by rw [← hwA]; exact (Below.heap_alloc _ _ _ (by simp <;> omega)).trans (heap_new' _ _ _ rfl))
    have Kr := Lib.hid (show wA.heap[w.heap.size + 1]? = some (.cells #[.string ⟨#[]⟩, .string ⟨#[]⟩] 23) by rw [← hwA]; exact heap_new' _ _ _ (by simp))
    go_enter Tryz.func24, Tryz.ntmps24
    obtain ⟨a_1, a_2, _, _⟩ := box2 Ka.out
    go_wp2_with fail
    (with_reducible refine (CC.out _).mono ?_)
    rintro e w37 ⟨x, y, d, rfl, hb⟩
    replace B0 := Lib.hid (below1 B0.out hb)
    replace Ka := Lib.hid (bl_up Ka.out hb)
    replace Kr := Lib.hid (bl_up Kr.out hb)
    clear hb
    clear a_1 a_2
    obtain ⟨r1, r2, r3, r4⟩ := box2 Kr.out
    obtain ⟨s1, s2, _, _⟩ := box2 (put2_heap Kr.out (.string ⟨#[]⟩) (.string ⟨#[]⟩))
    have HF := Lib.hid (put2_below B0.out (show w.heap.size ≤ w.heap.size + 1 by omega) (.string ⟨#[]⟩) (.string ⟨#[]⟩))
    clear Ka Kr
    go_wp2
    refine bodyPost_ret (v := .tuple #[.agg #[.string ⟨#[]⟩, .string ⟨#[]⟩], .int .i64 40]) (by simp [results, Tryz.results24, go_sem, s1, s2]) rfl ?_
    exact ⟨rfl, HF.out⟩
  | true =>
    have CC := Lib.hid (fun W => rgrid_yes p n W hsp hcr)
    rw [Bool.true_and]
    have hx : (rdQ p n).size ≤ 9223372036854775807 := divQ_size _ _
    have hd := pw_size (pwN n) (pwN_le n)
    generalize rdQ p n = x at *
    generalize rdR p n = y at *
    generalize pwS (pwN n) = d at *
    have CM := Lib.hid (fun W => rmake_any x d W hx hd)
    unfold dnE dnS
    rw [if_pos (by decide)]
    generalize mkS x d = o at *
    clear hcr hsp hx hd
    obtain ⟨pa, pb⟩ := p
    simp only at CC ⊢
    obtain ⟨wA, hwA⟩ : ∃ wA, ((w).alloc (.cells #[.string pa, .string pb] 23)).alloc (.cells #[.string ⟨#[]⟩, .string ⟨#[]⟩] 23) = wA := ⟨_, rfl⟩
    have B0 := Lib.hid (show Below w.heap.size w wA by rw [← hwA]; exact ((Below.refl w.heap.size w).alloc (Nat.le_refl _) _).alloc (by simp <;> omega) _)
    have Ka := Lib.hid (show wA.heap[w.heap.size]? = some (.cells #[.string pa, .string pb] 23) by rw [← hwA]; exact (Below.heap_alloc _ _ _ (by simp <;> omega)).trans (heap_new' _ _ _ rfl))
    have Kr := Lib.hid (show wA.heap[w.heap.size + 1]? = some (.cells #[.string ⟨#[]⟩, .string ⟨#[]⟩] 23) by rw [← hwA]; exact heap_new' _ _ _ (by simp))
    go_enter Tryz.func24, Tryz.ntmps24
    obtain ⟨a_1, a_2, _, _⟩ := box2 Ka.out
    go_wp2_with fail
    (with_reducible refine (CC.out _).mono ?_)
    rintro e w38 ⟨rfl, hb⟩
    replace B0 := Lib.hid (below1 B0.out hb)
    replace Ka := Lib.hid (bl_up Ka.out hb)
    replace Kr := Lib.hid (bl_up Kr.out hb)
    clear hb
    clear a_1 a_2
    go_wp2_with fail
    (with_reducible refine (CM.out _).mono ?_)
    rintro e w39 ⟨rfl, hb⟩
    replace B0 := Lib.hid (below1 B0.out hb)
    replace Ka := Lib.hid (bl_up Ka.out hb)
    replace Kr := Lib.hid (bl_up Kr.out hb)
    clear hb
    obtain ⟨u, hu⟩ : ∃ u, oN o = u := ⟨_, rfl⟩
    obtain ⟨v, hv⟩ : ∃ v, oD o = v := ⟨_, rfl⟩
    obtain ⟨k, hk⟩ : ∃ k, oE o = k := ⟨_, rfl⟩
    rw [hu, hv, hk]
    have HO := Lib.hid (And.intro hu (And.intro hv hk))
    clear hu hv hk
    obtain ⟨r1, r2, r3, r4⟩ := box2 Kr.out
    obtain ⟨s1, s2, _, _⟩ := box2 (put2_heap Kr.out (.string u) (.string v))
    have HF := Lib.hid (put2_below B0.out (show w.heap.size ≤ w.heap.size + 1 by omega) (.string u) (.string v))
    clear Ka Kr
    go_wp2
    refine bodyPost_ret (v := .tuple #[.agg #[.string u, .string v], .int .i64 k]) (by simp [results, Tryz.results24, go_sem, s1, s2]) rfl ?_
    exact ⟨by rw [HO.out.1, HO.out.2.1, HO.out.2.2], HF.out⟩

set_option maxRecDepth 100000 in
set_option maxHeartbeats 4000000 in
theorem rqup_any (p : Pr) (n : Int) (w : World) (hsp : p.1.size ≤ 9223372036854775807 ∧ p.2.size ≤ 9223372036854775807) : Calls Tryz.prog 26 #[.agg #[.string p.1, .string p.2], .int .i64 n] w (QOut w (roundO upS upE p n)) := by
  rw [round_gr]
  cases hcr : grB p n with
  | false =>
    have CC := Lib.hid (fun W => rgrid_no p n W hsp hcr)
    rw [Bool.false_and, if_neg (by decide)]
    clear hcr hsp
    obtain ⟨pa, pb⟩ := p
    simp only at CC ⊢
    obtain ⟨wA, hwA⟩ : ∃ wA, ((w).alloc (.cells #[.string pa, .string pb] 23)).alloc (.cells #[.string ⟨#[]⟩, .string ⟨#[]⟩] 23) = wA := ⟨_, rfl⟩
    have B0 := Lib.hid (show Below w.heap.size w wA by rw [← hwA]; exact ((Below.refl w.heap.size w).alloc (Nat.le_refl _) _).alloc (by simp <;> omega) _)
    have Ka := Lib.hid (show wA.heap[w.heap.size]? = some (.cells #[.string pa, .string pb] 23) by rw [← hwA]; exact (Below.heap_alloc _ _ _ (by simp <;> omega)).trans (heap_new' _ _ _ rfl))
    have Kr := Lib.hid (show wA.heap[w.heap.size + 1]? = some (.cells #[.string ⟨#[]⟩, .string ⟨#[]⟩] 23) by rw [← hwA]; exact heap_new' _ _ _ (by simp))
    go_enter Tryz.func26, Tryz.ntmps26
    obtain ⟨a_1, a_2, _, _⟩ := box2 Ka.out
    go_wp2_with fail
    (with_reducible refine (CC.out _).mono ?_)
    rintro e w40 ⟨x, y, d, rfl, hb⟩
    replace B0 := Lib.hid (below1 B0.out hb)
    replace Ka := Lib.hid (bl_up Ka.out hb)
    replace Kr := Lib.hid (bl_up Kr.out hb)
    clear hb
    clear a_1 a_2
    obtain ⟨r1, r2, r3, r4⟩ := box2 Kr.out
    obtain ⟨s1, s2, _, _⟩ := box2 (put2_heap Kr.out (.string ⟨#[]⟩) (.string ⟨#[]⟩))
    have HF := Lib.hid (put2_below B0.out (show w.heap.size ≤ w.heap.size + 1 by omega) (.string ⟨#[]⟩) (.string ⟨#[]⟩))
    clear Ka Kr
    go_wp2
    refine bodyPost_ret (v := .tuple #[.agg #[.string ⟨#[]⟩, .string ⟨#[]⟩], .int .i64 40]) (by simp [results, Tryz.results26, go_sem, s1, s2]) rfl ?_
    exact ⟨rfl, HF.out⟩
  | true =>
    have CC := Lib.hid (fun W => rgrid_yes p n W hsp hcr)
    rw [Bool.true_and]
    have hx : (rdQ p n).size ≤ 9223372036854775807 := divQ_size _ _
    have hd := pw_size (pwN n) (pwN_le n)
    generalize rdQ p n = x at *
    generalize rdR p n = y at *
    generalize pwS (pwN n) = d at *
    unfold upE upS
    cases hy : (y.toList == [48]) with
    | true =>
      rw [if_pos rfl, if_pos rfl, if_pos (by decide)]
      have CM := Lib.hid (fun W => rmake_any x d W hx hd)
      generalize mkS x d = o at *
      clear hcr hsp hx hd
      obtain ⟨pa, pb⟩ := p
      simp only at CC ⊢
      have hy2 : (!(y.toList == [48])) = false := by rw [hy]; rfl
      obtain ⟨wA, hwA⟩ : ∃ wA, ((w).alloc (.cells #[.string pa, .string pb] 23)).alloc (.cells #[.string ⟨#[]⟩, .string ⟨#[]⟩] 23) = wA := ⟨_, rfl⟩
      have B0 := Lib.hid (show Below w.heap.size w wA by rw [← hwA]; exact ((Below.refl w.heap.size w).alloc (Nat.le_refl _) _).alloc (by simp <;> omega) _)
      have Ka := Lib.hid (show wA.heap[w.heap.size]? = some (.cells #[.string pa, .string pb] 23) by rw [← hwA]; exact (Below.heap_alloc _ _ _ (by simp <;> omega)).trans (heap_new' _ _ _ rfl))
      have Kr := Lib.hid (show wA.heap[w.heap.size + 1]? = some (.cells #[.string ⟨#[]⟩, .string ⟨#[]⟩] 23) by rw [← hwA]; exact heap_new' _ _ _ (by simp))
      go_enter Tryz.func26, Tryz.ntmps26
      obtain ⟨a_1, a_2, _, _⟩ := box2 Ka.out
      go_wp2_with fail
      (with_reducible refine (CC.out _).mono ?_)
      rintro e w41 ⟨rfl, hb⟩
      replace B0 := Lib.hid (below1 B0.out hb)
      replace Ka := Lib.hid (bl_up Ka.out hb)
      replace Kr := Lib.hid (bl_up Kr.out hb)
      clear hb
      clear a_1 a_2
      go_wp2_with fail
      (with_reducible refine (CM.out _).mono ?_)
      rintro e w42 ⟨rfl, hb⟩
      replace B0 := Lib.hid (below1 B0.out hb)
      replace Ka := Lib.hid (bl_up Ka.out hb)
      replace Kr := Lib.hid (bl_up Kr.out hb)
      clear hb
      obtain ⟨u, hu⟩ : ∃ u, oN o = u := ⟨_, rfl⟩
      obtain ⟨v, hv⟩ : ∃ v, oD o = v := ⟨_, rfl⟩
      obtain ⟨k, hk⟩ : ∃ k, oE o = k := ⟨_, rfl⟩
      rw [hu, hv, hk]
      have HO := Lib.hid (And.intro hu (And.intro hv hk))
      clear hu hv hk
      obtain ⟨r1, r2, r3, r4⟩ := box2 Kr.out
      obtain ⟨s1, s2, _, _⟩ := box2 (put2_heap Kr.out (.string u) (.string v))
      have HF := Lib.hid (put2_below B0.out (show w.heap.size ≤ w.heap.size + 1 by omega) (.string u) (.string v))
      clear Ka Kr
      go_wp2
      refine bodyPost_ret (v := .tuple #[.agg #[.string u, .string v], .int .i64 k]) (by simp [results, Tryz.results26, go_sem, s1, s2]) rfl ?_
      exact ⟨by rw [HO.out.1, HO.out.2.1, HO.out.2.2], HF.out⟩
    | false =>
      rw [if_neg Bool.false_ne_true, if_neg Bool.false_ne_true]
      have CA := Lib.hid (fun W => radd_any x ⟨#[49]⟩ W hx (by decide))
      have CM := Lib.hid (fun W => rmake_any (opS (fun x y => x + y) x ⟨#[49]⟩) d W (opS_size _ _ _) hd)
      generalize opS (fun x y => x + y) x ⟨#[49]⟩ = z at *
      generalize opE (fun x y => x + y) x ⟨#[49]⟩ = m at *
      clear hcr hsp hx hd
      obtain ⟨pa, pb⟩ := p
      simp only at CC ⊢
      have hy2 : (!(y.toList == [48])) = true := by rw [hy]; rfl
      obtain ⟨wA, hwA⟩ : ∃ wA, ((w).alloc (.cells #[.string pa, .string pb] 23)).alloc (.cells #[.string ⟨#[]⟩, .string ⟨#[]⟩] 23) = wA := ⟨_, rfl⟩
      have B0 := Lib.hid (show Below w.heap.size w wA by rw [← hwA]; exact ((Below.refl w.heap.size w).alloc (Nat.le_refl _) _).alloc (by simp <;> omega) _)
      have Ka := Lib.hid (show wA.heap[w.heap.size]? = some (.cells #[.string pa, .string pb] 23) by rw [← hwA]; exact (Below.heap_alloc _ _ _ (by simp <;> omega)).trans (heap_new' _ _ _ rfl))
      have Kr := Lib.hid (show wA.heap[w.heap.size + 1]? = some (.cells #[.string ⟨#[]⟩, .string ⟨#[]⟩] 23) by rw [← hwA]; exact heap_new' _ _ _ (by simp))
      cases hn : (m == 0) with
      | false =>
        rw [if_neg (by decide)]
        have hn2 : (m != 0) = true := by rw [bne, hn]; rfl
        go_enter Tryz.func26, Tryz.ntmps26
        obtain ⟨a_1, a_2, _, _⟩ := box2 Ka.out
        go_wp2_with fail
        (with_reducible refine (CC.out _).mono ?_)
        rintro e w43 ⟨rfl, hb⟩
        replace B0 := Lib.hid (below1 B0.out hb)
        replace Ka := Lib.hid (bl_up Ka.out hb)
        replace Kr := Lib.hid (bl_up Kr.out hb)
        clear hb
        clear a_1 a_2
        go_wp2_with fail
        (with_reducible refine (CA.out _).mono ?_)
        rintro e w44 ⟨rfl, hb⟩
        replace B0 := Lib.hid (below1 B0.out hb)
        replace Ka := Lib.hid (bl_up Ka.out hb)
        replace Kr := Lib.hid (bl_up Kr.out hb)
        clear hb
        obtain ⟨r1, r2, r3, r4⟩ := box2 Kr.out
        obtain ⟨s1, s2, _, _⟩ := box2 (put2_heap Kr.out (.string ⟨#[]⟩) (.string ⟨#[]⟩))
        have HF := Lib.hid (put2_below B0.out (show w.heap.size ≤ w.heap.size + 1 by omega) (.string ⟨#[]⟩) (.string ⟨#[]⟩))
        clear Ka Kr
        go_wp2
        refine bodyPost_ret (v := .tuple #[.agg #[.string ⟨#[]⟩, .string ⟨#[]⟩], .int .i64 40]) (by simp [results, Tryz.results26, go_sem, s1, s2]) rfl ?_
        exact ⟨rfl, HF.out⟩
      | true =>
        rw [if_pos rfl]
        generalize mkS z d = o at *
        have e0 : m = 0 := by simpa using hn
        subst e0
        clear hn
        go_enter Tryz.func26, Tryz.ntmps26
        obtain ⟨a_1, a_2, _, _⟩ := box2 Ka.out
        go_wp2_with fail
        (with_reducible refine (CC.out _).mono ?_)
        rintro e w43 ⟨rfl, hb⟩
        replace B0 := Lib.hid (below1 B0.out hb)
        replace Ka := Lib.hid (bl_up Ka.out hb)
        replace Kr := Lib.hid (bl_up Kr.out hb)
        clear hb
        clear a_1 a_2
        go_wp2_with fail
        (with_reducible refine (CA.out _).mono ?_)
        rintro e w44 ⟨rfl, hb⟩
        replace B0 := Lib.hid (below1 B0.out hb)
        replace Ka := Lib.hid (bl_up Ka.out hb)
        replace Kr := Lib.hid (bl_up Kr.out hb)
        clear hb
        go_wp2_with fail
        (with_reducible refine (CM.out _).mono ?_)
        rintro e w45 ⟨rfl, hb⟩
        replace B0 := Lib.hid (below1 B0.out hb)
        replace Ka := Lib.hid (bl_up Ka.out hb)
        replace Kr := Lib.hid (bl_up Kr.out hb)
        clear hb
        obtain ⟨u, hu⟩ : ∃ u, oN o = u := ⟨_, rfl⟩
        obtain ⟨v, hv⟩ : ∃ v, oD o = v := ⟨_, rfl⟩
        obtain ⟨k, hk⟩ : ∃ k, oE o = k := ⟨_, rfl⟩
        rw [hu, hv, hk]
        have HO := Lib.hid (And.intro hu (And.intro hv hk))
        clear hu hv hk
        obtain ⟨r1, r2, r3, r4⟩ := box2 Kr.out
        obtain ⟨s1, s2, _, _⟩ := box2 (put2_heap Kr.out (.string u) (.string v))
        have HF := Lib.hid (put2_below B0.out (show w.heap.size ≤ w.heap.size + 1 by omega) (.string u) (.string v))
        clear Ka Kr
        go_wp2
        refine bodyPost_ret (v := .tuple #[.agg #[.string u, .string v], .int .i64 k]) (by simp [results, Tryz.results26, go_sem, s1, s2]) rfl ?_
        exact ⟨by rw [HO.out.1, HO.out.2.1, HO.out.2.2], HF.out⟩
end Go.Proofs.YtcjcafekacceiaaGreatDoor
