/- The steps of products and sums. -/
import Derived.Test.YtcjcafekacceiaaGreatDoorMk
namespace Go.Proofs.YtcjcafekacceiaaGreatDoor
open Go.RowKit

theorem ent_mul : Ent 70 := enters_of Tryz.func70 (by kernel_rfl) rfl
theorem ent_add : Ent 59 := enters_of Tryz.func59 (by kernel_rfl) rfl
theorem ent_sub : Ent 71 := enters_of Tryz.func71 (by kernel_rfl) rfl
theorem opS_size (f : Int → Int → Int) (a b : ByteArray) : (opS f a b).size ≤ 9223372036854775807 := by
  unfold opS resS
  split
  · split
    · rename_i h; exact str_size ((bigB_iff _).1 h)
    · decide
  · decide
abbrev mulF : Int → Int → Int := fun x y => x * y
/-- What products answer. -/
def prodO (p q : Pr) (x y : ByteArray) : Option Rat := if (fVp p && fVp q) && (opE mulF p.1 x == 0) && (opE mulF p.2 y == 0) then mkS (opS mulF p.1 x) (opS mulF p.2 y) else none
def sumO (f : Int → Int → Int) (p q : Pr) : Option Rat :=
  if (fVp p && fVp q) && (opE mulF p.1 q.2 == 0) && (opE mulF q.1 p.2 == 0) && (opE f (opS mulF p.1 q.2) (opS mulF q.1 p.2) == 0) && (opE mulF p.2 q.2 == 0) then
    mkS (opS f (opS mulF p.1 q.2) (opS mulF q.1 p.2)) (opS mulF p.2 q.2) else none
theorem all2 (p q : Pr) : [p, q].all fVp = (fVp p && fVp q) := by simp
theorem beq_no {n : Int} (h : n ≠ 0) : (n == 0) = false := by simpa using h

set_option maxHeartbeats 1000000 in
theorem prod_steps {D : Nat → Prop} {w0 W : World} {R A B : Nat} {c1 c2 c3 : Nat × Array Value} {p q : Pr} {k1 k2 : Nat} {x y : ByteArray}
    (dr : D R) (da : ¬ D A) (db : ¬ D B) (hw : Below w0.heap.size w0 W) (hR0 : w0.heap.size ≤ R) (ht : Tb w0)
    (hv : ValC D W c1 [p, q]) (h2 : SetC D W c2 70 R 0 A 0 B k1) (h3 : SetC D W c3 70 R 1 A 1 B k2)
    (hA : W.heap[A]? = some (.cells #[.string p.1, .string p.2] 23)) (hx : W.cell? ⟨B, k1, none⟩ = some (.string x)) (hy : W.cell? ⟨B, k2, none⟩ = some (.string y))
    (hR : W.heap[R]? = some (.cells #[.string ⟨#[]⟩, .string ⟨#[]⟩] 23))
    (hsp : p.1.size ≤ 9223372036854775807 ∧ p.2.size ≤ 9223372036854775807) (hsq : q.1.size ≤ 9223372036854775807 ∧ q.2.size ≤ 9223372036854775807) (hsx : x.size ≤ 9223372036854775807) (hsy : y.size ≤ 9223372036854775807) :
    Steps w0 D (prodO p q x y = none) [c1, c2, c3] (fun W' => prodO p q x y = mkS (opS mulF p.1 x) (opS mulF p.2 y) ∧ W'.heap[R]? = some (.cells #[.string (opS mulF p.1 x), .string (opS mulF p.2 y)] 23)) W := by
  refine step_val hv (by simp) hw ?_ ht ?_ ?_
  · intro z hz
    simp only [List.mem_cons, List.mem_nil_iff, or_false] at hz
    rcases hz with rfl | rfl
    · exact hsp
    · exact hsq
  · intro h
    rw [all2] at h
    unfold prodO; rw [h]; rfl
  intro hval W1 hb1 hw1 hk1
  rw [all2] at hval
  have hA1 := hk1.block da hA
  have hx1 := hk1.cell (p := ⟨B, k1, none⟩) db hx
  have hy1 := hk1.cell (p := ⟨B, k2, none⟩) db hy
  have hR1 := bl_up hR hb1
  have h21 := h2.keep hk1
  have h31 := h3.keep hk1
  clear hA hx hy hR h2 h3 hk1 hb1 hw hv
  obtain ⟨q1, q2, _, _⟩ := box2 hA1
  obtain ⟨r1, r2, r3, r4⟩ := box2 hR1
  refine step_set (s := opS mulF p.1 x) (n := opE mulF p.1 x) h21 dr ent_mul q1 hx1 r1 r3 hw1 hR0 (fun W' hb => mul_any p.1 x W' hsp.1 hsx (ht.below hb)) (fun hn => by unfold prodO; rw [hval, beq_no hn]; rfl) (fun hn1 W2 hb2 hw2 hk2 => ?_)
  have hA2 := hk2.block da hA1
  have hy2 := hk2.cell (p := ⟨B, k2, none⟩) db hy1
  have h32 := h31.keep hk2
  have hR2 := set2_0 (bl_up hR1 hb2) (.string (opS mulF p.1 x))
  generalize W2.setCell ⟨R, 0, none⟩ (.string (opS mulF p.1 x)) = V at *
  obtain ⟨q1, q2, _, _⟩ := box2 hA2
  obtain ⟨r1, r2, r3, r4⟩ := box2 hR2
  refine step_set (s := opS mulF p.2 y) (n := opE mulF p.2 y) h32 dr ent_mul q2 hy2 r2 r4 hw2 hR0 (fun W' hb => mul_any p.2 y W' hsp.2 hsy (ht.below hb)) (fun hn => by unfold prodO; rw [hval, hn1, beq_no hn]; rfl) (fun hn2 W3 hb3 hw3 hk3 => ?_)
  refine ⟨by unfold prodO; rw [hval, hn1, hn2]; rfl, ?_⟩
  rw [set2_1 (bl_up hR2 hb3)]

set_option maxHeartbeats 1000000 in
theorem sum_steps {D : Nat → Prop} {w0 W : World} {R A B PA PB : Nat} {c1 c2 c3 c4 c5 : Nat × Array Value} {p q : Pr} {F : Nat} {f : Int → Int → Int} (hEF : Ent F)
    (hF : ∀ a b W', a.size ≤ 9223372036854775807 → b.size ≤ 9223372036854775807 → Tb W' → Calls Tryz.prog F #[.string a, .string b] W' (ResOut W' (opS f a b) (opE f a b)))
    (dr : D R) (dpa : D PA) (dpb : D PB) (da : ¬ D A) (db : ¬ D B) (n1 : R ≠ PA) (n2 : R ≠ PB) (n3 : PA ≠ PB) (hw : Below w0.heap.size w0 W) (hR0 : w0.heap.size ≤ R) (hA0 : w0.heap.size ≤ PA) (hB0 : w0.heap.size ≤ PB) (ht : Tb w0)
    (hv : ValC D W c1 [p, q]) (h2 : SetC D W c2 70 PA 0 A 0 B 1) (h3 : SetC D W c3 70 PB 0 B 0 A 1) (h4 : SetC D W c4 F R 0 PA 0 PB 0) (h5 : SetC D W c5 70 R 1 A 1 B 1)
    (hA : W.heap[A]? = some (.cells #[.string p.1, .string p.2] 23)) (hB : W.heap[B]? = some (.cells #[.string q.1, .string q.2] 23))
    (hPA : W.heap[PA]? = some (.cells #[.string ⟨#[]⟩] 9)) (hPB : W.heap[PB]? = some (.cells #[.string ⟨#[]⟩] 9))
    (hR : W.heap[R]? = some (.cells #[.string ⟨#[]⟩, .string ⟨#[]⟩] 23))
    (hsp : p.1.size ≤ 9223372036854775807 ∧ p.2.size ≤ 9223372036854775807) (hsq : q.1.size ≤ 9223372036854775807 ∧ q.2.size ≤ 9223372036854775807) :
    Steps w0 D (sumO f p q = none) [c1, c2, c3, c4, c5] (fun W' => sumO f p q = mkS (opS f (opS mulF p.1 q.2) (opS mulF q.1 p.2)) (opS mulF p.2 q.2) ∧
      W'.heap[R]? = some (.cells #[.string (opS f (opS mulF p.1 q.2) (opS mulF q.1 p.2)), .string (opS mulF p.2 q.2)] 23)) W := by
  refine step_val hv (by simp) hw ?_ ht ?_ ?_
  · intro z hz
    simp only [List.mem_cons, List.mem_nil_iff, or_false] at hz
    rcases hz with rfl | rfl
    · exact hsp
    · exact hsq
  · intro h
    rw [all2] at h
    unfold sumO; rw [h]; rfl
  intro hval W1 hb1 hw1 hk1
  rw [all2] at hval
  have hA1 := hk1.block da hA
  have hB1 := hk1.block db hB
  have hPA1 := bl_up hPA hb1
  have hPB1 := bl_up hPB hb1
  have hR1 := bl_up hR hb1
  have h21 := h2.keep hk1; have h31 := h3.keep hk1; have h41 := h4.keep hk1; have h51 := h5.keep hk1
  clear hA hB hPA hPB hR h2 h3 h4 h5 hk1 hb1 hw hv
  obtain ⟨a1, a2, _, _⟩ := box2 hA1
  obtain ⟨b1, b2, _, _⟩ := box2 hB1
  obtain ⟨r1, r3⟩ := box1 hPA1
  refine step_set (s := opS mulF p.1 q.2) (n := opE mulF p.1 q.2) h21 dpa ent_mul a1 b2 r1 r3 hw1 hA0 (fun W' hb => mul_any p.1 q.2 W' hsp.1 hsq.2 (ht.below hb)) (fun hn => by unfold sumO; rw [hval, beq_no hn]; rfl) (fun hn1 W2 hb2 hw2 hk2 => ?_)
  have hA2 := hk2.block da hA1
  have hB2 := hk2.block db hB1
  have hPA2 := set1_0 (bl_up hPA1 hb2) (.string (opS mulF p.1 q.2))
  have hPB2 := set_far (zo := 0) (bl_up hPB1 hb2) (Ne.symm n3) (.string (opS mulF p.1 q.2))
  have hR2 := set_far (zo := 0) (bl_up hR1 hb2) n1 (.string (opS mulF p.1 q.2))
  have h32 := h31.keep hk2; have h42 := h41.keep hk2; have h52 := h51.keep hk2
  generalize W2.setCell ⟨PA, 0, none⟩ (.string (opS mulF p.1 q.2)) = V2 at *
  clear hA1 hB1 hPA1 hPB1 hR1 h21 h31 h41 h51 hk2 hb2
  obtain ⟨a1, a2, _, _⟩ := box2 hA2
  obtain ⟨b1, b2, _, _⟩ := box2 hB2
  obtain ⟨r1, r3⟩ := box1 hPB2
  refine step_set (s := opS mulF q.1 p.2) (n := opE mulF q.1 p.2) h32 dpb ent_mul b1 a2 r1 r3 hw2 hB0 (fun W' hb => mul_any q.1 p.2 W' hsq.1 hsp.2 (ht.below hb)) (fun hn => by unfold sumO; rw [hval, hn1, beq_no hn]; rfl) (fun hn2 W3 hb3 hw3 hk3 => ?_)
  have hA3 := hk3.block da hA2
  have hB3 := hk3.block db hB2
  have hPB3 := set1_0 (bl_up hPB2 hb3) (.string (opS mulF q.1 p.2))
  have hPA3 := set_far (zo := 0) (bl_up hPA2 hb3) n3 (.string (opS mulF q.1 p.2))
  have hR3 := set_far (zo := 0) (bl_up hR2 hb3) n2 (.string (opS mulF q.1 p.2))
  have h43 := h42.keep hk3; have h53 := h52.keep hk3
  generalize W3.setCell ⟨PB, 0, none⟩ (.string (opS mulF q.1 p.2)) = V3 at *
  clear hA2 hB2 hPA2 hPB2 hR2 h32 h42 h52 hk3 hb3
  obtain ⟨a1, _⟩ := box1 hPA3
  obtain ⟨b1, _⟩ := box1 hPB3
  obtain ⟨r1, r2, r3, r4⟩ := box2 hR3
  refine step_set (s := opS f (opS mulF p.1 q.2) (opS mulF q.1 p.2)) (n := opE f (opS mulF p.1 q.2) (opS mulF q.1 p.2)) h43 dr hEF a1 b1 r1 r3 hw3 hR0 (fun W' hb => hF _ _ W' (opS_size _ _ _) (opS_size _ _ _) (ht.below hb)) (fun hn => by unfold sumO; rw [hval, hn1, hn2, beq_no hn]; rfl) (fun hn3 W4 hb4 hw4 hk4 => ?_)
  have hA4 := hk4.block da hA3
  have hB4 := hk4.block db hB3
  have hR4 := set2_0 (bl_up hR3 hb4) (.string (opS f (opS mulF p.1 q.2) (opS mulF q.1 p.2)))
  have h54 := h53.keep hk4
  generalize W4.setCell ⟨R, 0, none⟩ (.string (opS f (opS mulF p.1 q.2) (opS mulF q.1 p.2))) = V4 at *
  obtain ⟨a1, a2, _, _⟩ := box2 hA4
  obtain ⟨b1, b2, _, _⟩ := box2 hB4
  obtain ⟨r1, r2, r3, r4⟩ := box2 hR4
  refine step_set (s := opS mulF p.2 q.2) (n := opE mulF p.2 q.2) h54 dr ent_mul a2 b2 r2 r4 hw4 hR0 (fun W' hb => mul_any p.2 q.2 W' hsp.2 hsq.2 (ht.below hb)) (fun hn => by unfold sumO; rw [hval, hn1, hn2, hn3, beq_no hn]; rfl) (fun hn4 W5 hb5 hw5 hk5 => ?_)
  refine ⟨by unfold sumO; rw [hval, hn1, hn2, hn3, hn4]; rfl, ?_⟩
  rw [set2_1 (bl_up hR4 hb5)]
end Go.Proofs.YtcjcafekacceiaaGreatDoor
