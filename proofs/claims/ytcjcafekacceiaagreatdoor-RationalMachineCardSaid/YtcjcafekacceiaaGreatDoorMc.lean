/- What the walk of RationalMachine rests on. -/
import Derived.Test.YtcjcafekacceiaaGreatDoorFd
namespace Go.Proofs.YtcjcafekacceiaaGreatDoor
open Go.RowKit
set_option linter.unusedVariables false

theorem mc_big {z : Int} (h : z.natAbs ≤ 1800000000) : Big z := by
  unfold Big
  have e : 1800000000 < (10 : Nat) ^ 200 := by decide +kernel
  exact Nat.lt_of_le_of_lt h e
theorem mc_ti {z : Int} (h : z.natAbs ≤ 1800000000) : tiV (str z) = z ∧ tiE (str z) = 0 := by
  have hb := mc_big h
  have hr : inR z = true := by unfold inR; simp; omega
  unfold tiV tiE
  rw [(vS_str _).2 hb, nS_str hb, hr]
  exact ⟨rfl, rfl⟩
/-- What one of the four results is held against. -/
def McR (w : World) (u v : ByteArray) (N D : Int) : Prop := ∃ x y : Int, (-1800000000 ≤ x ∧ x ≤ 1800000000) ∧ (1 ≤ y ∧ y ≤ 900000000) ∧ x * D = N * y ∧
  (∀ W, Calls Tryz.prog 37 #[.string u] W (TiOut W x 0)) ∧ (∀ W, Calls Tryz.prog 37 #[.string v] W (TiOut W y 0)) ∧
  (∀ W, Below w.heap.size w W → Calls Tryz.prog 29 #[.agg #[.string u, .string v]] W (BOut W true))
theorem mc_q {N D : Int} (hD : D ≠ 0) (h1 : N.natAbs ≤ 1800000000) (h2 : D.natAbs ≤ 900000000) : BQ (Rat.divInt N D) := bq_div hD (mc_big h1) (mc_big (by omega))
theorem mc_r {w : World} (ht : ∀ W, Below w.heap.size w W → Tb W) {N D : Int} (hD : D ≠ 0) (h1 : N.natAbs ≤ 1800000000) (h2 : D.natAbs ≤ 900000000) : McR w (str (Rat.divInt N D).num) (str ((Rat.divInt N D).den : Int)) N D := by
  have hb := mc_q hD h1 h2
  have n1 := num_le (n := N) hD
  have d1 := den_le (n := N) hD
  have p1 := q_den_pos (Rat.divInt N D)
  have hc := cross_div (k := N) hD
  have a1 : (Rat.divInt N D).num.natAbs ≤ 1800000000 := Nat.le_trans n1 h1
  have a2 : ((Rat.divInt N D).den : Int).natAbs ≤ 1800000000 := by rw [Int.natAbs_natCast]; omega
  obtain ⟨t1, t2⟩ := mc_ti a1
  obtain ⟨t3, t4⟩ := mc_ti a2
  refine ⟨(Rat.divInt N D).num, ((Rat.divInt N D).den : Int), ⟨by omega, by omega⟩, ⟨by omega, by omega⟩, hc, fun W => ?_, fun W => ?_, fun W hW => ?_⟩
  · have h := rtoInt_any (str (Rat.divInt N D).num) W (str_size hb.1)
    rw [t1, t2] at h; exact h
  · have h := rtoInt_any (str ((Rat.divInt N D).den : Int)) W (str_size hb.2)
    rw [t3, t4] at h; exact h
  · have h := qvalid_any (str (Rat.divInt N D).num) (str ((Rat.divInt N D).den : Int)) W (str_size hb.1) (str_size hb.2) (ht W hW)
    rw [fV_str hb] at h; exact h
theorem mc_mul {x y : Int} {a b : Nat} (hx : x.natAbs ≤ a) (hy : y.natAbs ≤ b) : (x * y).natAbs ≤ a * b := by
  rw [Int.natAbs_mul]; exact Nat.mul_le_mul hx hy
/-- The four, of two small fractions. -/
theorem mc_four {n d m c : Int} (hn : n.natAbs ≤ 30000) (hm : m.natAbs ≤ 30000) (hd : 1 ≤ d ∧ d ≤ 30000) (hc : 1 ≤ c ∧ c ≤ 30000) :
    add2 (Rat.divInt n d) (Rat.divInt m c) = some (Rat.divInt (n * c + m * d) (d * c)) ∧ sub2 (Rat.divInt n d) (Rat.divInt m c) = some (Rat.divInt (n * c - m * d) (d * c)) ∧
    mul2 (Rat.divInt n d) (Rat.divInt m c) = some (Rat.divInt (n * m) (d * c)) ∧ div2 (Rat.divInt n d) (Rat.divInt m c) = if m = 0 then none else some (Rat.divInt (n * c) (d * m)) := by
  have hd0 : d ≠ 0 := by omega
  have hc0 : c ≠ 0 := by omega
  have A1 : (Rat.divInt n d).num.natAbs ≤ 30000 := Nat.le_trans (num_le hd0) hn
  have A2 : ((Rat.divInt n d).den : Int).natAbs ≤ 30000 := by rw [Int.natAbs_natCast]; exact Nat.le_trans (den_le hd0) (by omega)
  have B1 : (Rat.divInt m c).num.natAbs ≤ 30000 := Nat.le_trans (num_le hc0) hm
  have B2 : ((Rat.divInt m c).den : Int).natAbs ≤ 30000 := by rw [Int.natAbs_natCast]; exact Nat.le_trans (den_le hc0) (by omega)
  have m1 := mc_mul A1 B2
  have m2 := mc_mul B1 A2
  have m3 := mc_mul A2 B2
  have m4 := mc_mul A1 B1
  have m5 := mc_mul A2 B1
  have hz : (Rat.divInt m c).num = 0 ↔ m = 0 := num_zero hc0
  have s1 := cross_add (n := n) (m := m) hd0 hc0
  have s2 := cross_sub (n := n) (m := m) hd0 hc0
  have s3 := cross_mul (n := n) (d := d) (m := m) (c := c)
  have s4 := cross_quo (n := n) (d := d) (m := m) (c := c)
  unfold add2 sub2 mul2 div2
  rw [s1, s2, s3, s4]
  generalize (Rat.divInt n d).num * ((Rat.divInt m c).den : Int) = x1 at *
  generalize (Rat.divInt m c).num * ((Rat.divInt n d).den : Int) = x2 at *
  generalize ((Rat.divInt n d).den : Int) * ((Rat.divInt m c).den : Int) = x3 at *
  generalize (Rat.divInt n d).num * (Rat.divInt m c).num = x4 at *
  generalize ((Rat.divInt n d).den : Int) * (Rat.divInt m c).num = x5 at *
  have e : ∀ {z : Int}, z.natAbs ≤ 1800000000 → bigB z = true := fun h => (bigB_iff _).2 (mc_big h)
  refine ⟨?_, ?_, ?_, ?_⟩
  · rw [e (by omega), e (by omega), e (by omega), e (by omega)]; rfl
  · rw [e (by omega), e (by omega), e (by omega), e (by omega)]; rfl
  · rw [e (by omega), e (by omega)]; rfl
  · rw [e (by omega), e (by omega)]
    by_cases h : m = 0
    · rw [if_pos h, decide_eq_false (by simpa using hz.2 h)]; rfl
    · rw [if_neg h, decide_eq_true (show (Rat.divInt m c).num ≠ 0 from fun e => h (hz.1 e))]; rfl
theorem mc_cmp {n d m c : Int} (hd : 1 ≤ d) (hc : 1 ≤ c) : cmpQ (Rat.divInt n d) (Rat.divInt m c) = cmpZ (n * c) (m * d) := cmpQ_div (by omega) (by omega)
theorem mc_of {n d : Int} (hn : n.natAbs ≤ 30000) (hd : 1 ≤ d ∧ d ≤ 30000) : mkS (str n) (str d) = some (Rat.divInt n d) := by
  rw [mkS_int (mc_big (by omega)) (mc_big (by omega)), if_neg (by omega)]
def FRm (w : World) (n1 d1 n2 d2 n3 d3 n4 d4 : ByteArray) (e4 : Int) (e : Ending) (w' : World) : Prop :=
  e = .returned (.tuple #[.agg #[.string n1, .string d1, .string n2, .string d2, .string n3, .string d3, .string n4, .string d4], .agg #[.int .i64 0, .int .i64 0, .int .i64 0, .int .i64 e4]]) ∧ Below w.heap.size w w'
/-- Everything that the walk wants to know of four small integers. -/
structure McAll (w : World) (n m d c P1 P2 P3 P4 P5 : Int) (an ad bn bd n1 d1 n2 d2 n3 d3 n4 d4 : ByteArray) (e4 : Int) : Prop where
  h1 : n * c = P1
  h2 : m * d = P2
  h3 : d * c = P3
  h4 : n * m = P4
  h5 : d * m = P5
  b1 : -900000000 ≤ P1 ∧ P1 ≤ 900000000
  b2 : -900000000 ≤ P2 ∧ P2 ≤ 900000000
  b3 : -900000000 ≤ P3 ∧ P3 ≤ 900000000
  b4 : -900000000 ≤ P4 ∧ P4 ≤ 900000000
  b5 : -900000000 ≤ P5 ∧ P5 ≤ 900000000
  o1 : ∀ W, Below w.heap.size w W → Calls Tryz.prog 31 #[.int .i64 n, .int .i64 d] W (QRes W an ad 0)
  o2 : ∀ W, Below w.heap.size w W → Calls Tryz.prog 31 #[.int .i64 m, .int .i64 c] W (QRes W bn bd 0)
  f : ∀ W, Below w.heap.size w W → Calls Tryz.prog 15 #[.agg #[.string an, .string ad], .agg #[.string bn, .string bd]] W (FRm W n1 d1 n2 d2 n3 d3 n4 d4 e4)
  cc : ∀ W, Below w.heap.size w W → Calls Tryz.prog 20 #[.agg #[.string an, .string ad], .agg #[.string bn, .string bd]] W (IntOut W (cmpZ P1 P2))
  m1 : McR w n1 d1 (P1 + P2) P3
  m2 : McR w n2 d2 (P1 - P2) P3
  m3 : McR w n3 d3 P4 P3
  z : (m = 0 ∧ e4 = 40 ∧ n4 = ⟨#[]⟩ ∧ d4 = ⟨#[]⟩) ∨ (m ≠ 0 ∧ e4 = 0 ∧ McR w n4 d4 P1 P5)
theorem mc_all {w : World} (ht : ∀ W, Below w.heap.size w W → Tb W) {n m d c : Int} (n0 : n.natAbs ≤ 30000) (m0 : m.natAbs ≤ 30000) (d0 : 1 ≤ d ∧ d ≤ 30000) (c0 : 1 ≤ c ∧ c ≤ 30000) :
    ∃ P1 P2 P3 P4 P5 an ad bn bd n1 d1 n2 d2 n3 d3 n4 d4 e4, McAll w n m d c P1 P2 P3 P4 P5 an ad bn bd n1 d1 n2 d2 n3 d3 n4 d4 e4 := by
  obtain ⟨f1, f2, f3, f4⟩ := mc_four n0 m0 d0 c0
  have o1 := mc_of n0 d0
  have o2 := mc_of m0 c0
  have ba := mc_q (N := n) (D := d) (by omega) (by omega) (by omega)
  have bb := mc_q (N := m) (D := c) (by omega) (by omega) (by omega)
  have p1 := mc_mul n0 (show c.natAbs ≤ 30000 by omega)
  have p2 := mc_mul m0 (show d.natAbs ≤ 30000 by omega)
  have p3 := mc_mul (show d.natAbs ≤ 30000 by omega) (show c.natAbs ≤ 30000 by omega)
  have p4 := mc_mul n0 m0
  have p5 := mc_mul (show d.natAbs ≤ 30000 by omega) m0
  have dc : d * c ≠ 0 := Int.mul_ne_zero (by omega) (by omega)
  have dm : m ≠ 0 → d * m ≠ 0 := fun h => Int.mul_ne_zero (by omega) h
  have CF := fun W (hW : Below w.heap.size w W) => four_o ht (ob_some ba) (ob_some bb) W hW
  rw [show opt2 add2 (some (Rat.divInt n d)) (some (Rat.divInt m c)) = _ from f1, show opt2 sub2 (some (Rat.divInt n d)) (some (Rat.divInt m c)) = _ from f2, show opt2 mul2 (some (Rat.divInt n d)) (some (Rat.divInt m c)) = _ from f3, show opt2 div2 (some (Rat.divInt n d)) (some (Rat.divInt m c)) = _ from f4] at CF
  refine ⟨n * c, m * d, d * c, n * m, d * m, _, _, _, _, _, _, _, _, _, _, oN (if m = 0 then none else some (Rat.divInt (n * c) (d * m))), oD (if m = 0 then none else some (Rat.divInt (n * c) (d * m))), oE (if m = 0 then none else some (Rat.divInt (n * c) (d * m))), ⟨rfl, rfl, rfl, rfl, rfl, by omega, by omega, by omega, by omega, by omega,
    fun W hW => ?_, fun W hW => ?_, fun W hW => CF W hW, fun W hW => ?_, mc_r ht dc (by omega) (by omega), mc_r ht dc (by omega) (by omega), mc_r ht dc (by omega) (by omega), ?_⟩⟩
  · have h := of_any n d (by omega) (by omega) (by omega) (by omega) W (ht W hW)
    rw [o1] at h; exact h
  · have h := of_any m c (by omega) (by omega) (by omega) (by omega) W (ht W hW)
    rw [o2] at h; exact h
  · have h := qcmp_any (Rat.divInt n d) (Rat.divInt m c) ba bb W (ht W hW)
    rw [mc_cmp d0.1 c0.1] at h; exact h
  · by_cases h : m = 0
    · rw [if_pos h]; exact .inl ⟨h, rfl, rfl, rfl⟩
    · rw [if_neg h]; exact .inr ⟨h, rfl, mc_r ht (dm h) (by omega) (by omega)⟩
theorem mc_prod {x D y N : Int} (h : x * D = N * y) (hx : -1800000000 ≤ x ∧ x ≤ 1800000000) (hD : -900000000 ≤ D ∧ D ≤ 900000000) : ∃ Z, x * D = Z ∧ N * y = Z ∧ IntKind.i64.wrap (x * D) = Z ∧ IntKind.i64.wrap (N * y) = Z ∧ (-2000000000000000000 ≤ Z ∧ Z ≤ 2000000000000000000) := by
  have h1 := mc_mul (x := x) (y := D) (a := 1800000000) (b := 900000000) (by omega) (by omega)
  refine ⟨x * D, rfl, h.symm, wrap_in _ ⟨by omega, by omega⟩, ?_, by omega, by omega⟩
  rw [← h]; exact wrap_in _ ⟨by omega, by omega⟩
def Mci (iv : Value) : Prop := ∃ k : Nat, k ≤ 4 ∧ iv = .int .i64 k
theorem mci (k : Nat) (h : k ≤ 4) (z : Int) (hz : z = (k : Int)) : Mci (.int .i64 z) := ⟨k, h, by rw [hz]⟩
theorem Mci.ways {iv : Value} (h : Mci iv) : iv = .int .i64 0 ∨ iv = .int .i64 1 ∨ iv = .int .i64 2 ∨ iv = .int .i64 3 ∨ iv = .int .i64 4 := by
  obtain ⟨k, hk, rfl⟩ := h
  have : k = 0 ∨ k = 1 ∨ k = 2 ∨ k = 3 ∨ k = 4 := by omega
  rcases this with rfl | rfl | rfl | rfl | rfl
  · exact .inl rfl
  · exact .inr (.inl rfl)
  · exact .inr (.inr (.inl rfl))
  · exact .inr (.inr (.inr (.inl rfl)))
  · exact .inr (.inr (.inr (.inr rfl)))
end Go.Proofs.YtcjcafekacceiaaGreatDoor
