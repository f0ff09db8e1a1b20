/- round, Down, Up, walked. -/
import Derived.Test.YtcjcafekacceiaaGreatDoorRo
namespace Go.Proofs.YtcjcafekacceiaaGreatDoor
open Go.RowKit

theorem ent_rd1 : Ent 87 := enters_of Tryz.func87 (by kernel_rfl) rfl
theorem ent_rd2 : Ent 89 := enters_of Tryz.func89 (by kernel_rfl) rfl
theorem ent_dn1 : Ent 56 := enters_of Tryz.func56 (by kernel_rfl) rfl
theorem ent_up1 : Ent 58 := enters_of Tryz.func58 (by kernel_rfl) rfl
theorem divQ_size (a b : ByteArray) : (divQ a b).size ≤ 9223372036854775807 := by
  unfold divQ
  split
  · exact str_size (big_div _ _ (nS_big a))
  · decide
theorem upS_size (q r : ByteArray) (h : q.size ≤ 9223372036854775807) : (upS q r).size ≤ 9223372036854775807 := by
  unfold upS
  split
  · exact h
  · exact opS_size _ _ _
/-- The power of ten, where it is used at all: for more than 30 places it is left at 1. -/
def pwN (n : Int) : Nat := if plV n then n.toNat else 0
theorem pwN_le (n : Int) : pwN n ≤ 30 := by
  unfold pwN
  split
  · rename_i h
    unfold plV at h
    simp only [Bool.and_eq_true, decide_eq_true_eq] at h
    omega
  · omega
def rdM (p : Pr) (n : Int) : ByteArray := opS mulF p.1 (pwS (pwN n))
def rdQ (p : Pr) (n : Int) : ByteArray := divQ (rdM p n) p.2
def rdR (p : Pr) (n : Int) : ByteArray := divR (rdM p n) p.2
/-- What rounding answers. -/
def roundO (cs : ByteArray → ByteArray → ByteArray) (ce : ByteArray → ByteArray → Int) (p : Pr) (n : Int) : Option Rat :=
  if fVp p && plV n && (opE mulF p.1 (pwS (pwN n)) == 0) && (divE (rdM p n) p.2 == 0) && (ce (rdQ p n) (rdR p n) == 0) then mkS (cs (rdQ p n) (rdR p n)) (pwS (pwN n)) else none
theorem all1 (p : Pr) : [p].all fVp = fVp p := by simp

set_option maxHeartbeats 1000000 in
theorem round_steps {D : Nat → Prop} {w0 W : World} {R A Bp SC U V : Nat} {c1 c3 c5 : Nat × Array Value} {p : Pr} {n : Int} {K : Nat} {cs : ByteArray → ByteArray → ByteArray} {ce : ByteArray → ByteArray → Int} (hEK : Ent K)
    (hK : ∀ q r W', q.size ≤ 9223372036854775807 → Tb W' → Calls Tryz.prog K #[.string q, .string r] W' (ResOut W' (cs q r) (ce q r)))
    (dr : D R) (ds : D SC) (du : D U) (dv : D V) (da : ¬ D A) (dp : ¬ D Bp) (n1 : R ≠ SC) (n2 : R ≠ U) (n3 : R ≠ V) (n4 : SC ≠ U) (n5 : SC ≠ V) (n6 : U ≠ V)
    (hw : Below w0.heap.size w0 W) (hR0 : w0.heap.size ≤ R) (hS0 : w0.heap.size ≤ SC) (hU0 : w0.heap.size ≤ U) (hV0 : w0.heap.size ≤ V) (ht : Tb w0)
    (hv : ValC D W c1 [p]) (h3 : SetC D W c3 70 SC 0 A 0 R 1) (h5 : SetC D W c5 K R 0 U 0 V 0)
    (hA : W.heap[A]? = some (.cells #[.string p.1, .string p.2] 23)) (hp : W.cell? ⟨Bp, 0, none⟩ = some (.int .i64 n))
    (hS : W.heap[SC]? = some (.cells #[.string ⟨#[]⟩] 9)) (hU : W.heap[U]? = some (.cells #[.string ⟨#[]⟩] 9)) (hV : W.heap[V]? = some (.cells #[.string ⟨#[]⟩] 9))
    (hR : W.heap[R]? = some (.cells #[.string ⟨#[]⟩, .string ⟨#[]⟩] 23))
    (hsp : p.1.size ≤ 9223372036854775807 ∧ p.2.size ≤ 9223372036854775807) :
    Steps w0 D (roundO cs ce p n = none) [c1, (87, #[.pointer (some ⟨Bp, 0, none⟩), .pointer (some ⟨R, 0, none⟩)]), c3, (89, #[.pointer (some ⟨SC, 0, none⟩), .pointer (some ⟨A, 0, none⟩), .pointer (some ⟨U, 0, none⟩), .pointer (some ⟨V, 0, none⟩)]), c5]
      (fun W' => roundO cs ce p n = mkS (cs (rdQ p n) (rdR p n)) (pwS (pwN n)) ∧ W'.heap[R]? = some (.cells #[.string (cs (rdQ p n) (rdR p n)), .string (pwS (pwN n))] 23)) W := by
  refine step_val hv (by simp) hw ?_ ht ?_ ?_
  · intro z hz
    simp only [List.mem_cons, List.mem_nil_iff, or_false] at hz
    subst hz
    exact hsp
  · intro h
    rw [all1] at h
    unfold roundO; rw [h]; rfl
  intro hval W1 hb1 hw1 hk1
  rw [all1] at hval
  have hA1 := hk1.block da hA
  have hp1 := hk1.cell (p := ⟨Bp, 0, none⟩) dp hp
  have hS1 := bl_up hS hb1; have hU1 := bl_up hU hb1; have hV1 := bl_up hV hb1; have hR1 := bl_up hR hb1
  have h31 := h3.keep hk1; have h51 := h5.keep hk1
  clear hA hp hS hU hV hR h3 h5 hk1 hb1 hw hv
  cases hpl : plV n with
  | false =>
    refine (rd1_no W1 Bp R n hp1 hpl).mono ?_
    rintro e W' ⟨rfl, hb⟩
    exact ⟨40, rfl, below1 hw1 hb, .of_below hb, .inr ⟨by decide, by unfold roundO; rw [hval, hpl]; rfl⟩⟩
  | true =>
    have hN : pwN n = n.toNat := by unfold pwN; rw [hpl]; rfl
    have h30 := pwN_le n
    have hnn : n = ((pwN n : Nat) : Int) := by
      unfold plV at hpl
      simp only [Bool.and_eq_true, decide_eq_true_eq] at hpl
      omega
    have hp1' : W1.cell? ⟨Bp, 0, none⟩ = some (.int .i64 ((pwN n : Nat) : Int)) := by rw [← hnn]; exact hp1
    have hpwz := pw_size (pwN n) h30
    refine (rd1_yes W1 Bp R (pwN n) _ _ hp1' hR1 h30).mono ?_
    rintro e W' ⟨W2, hb2, rfl, rfl⟩
    have hw2 : Below w0.heap.size w0 (W2.setCell ⟨R, 1, none⟩ (.string (pwS (pwN n)))) := (below1 hw1 hb2).setCell (p := ⟨R, 1, none⟩) hR0 _
    have hk2 : KD D W1 (W2.setCell ⟨R, 1, none⟩ (.string (pwS (pwN n)))) := (KD.of_below hb2).trans (KD.set W2 ⟨R, 1, none⟩ _ dr)
    refine ⟨0, rfl, hw2, hk2, .inl ⟨rfl, ?_⟩⟩
    have hA2 := hk2.block da hA1
    have hS2 := set_far (zo := 1) (bl_up hS1 hb2) (Ne.symm n1) (.string (pwS (pwN n)))
    have hU2 := set_far (zo := 1) (bl_up hU1 hb2) (Ne.symm n2) (.string (pwS (pwN n)))
    have hV2 := set_far (zo := 1) (bl_up hV1 hb2) (Ne.symm n3) (.string (pwS (pwN n)))
    have hR2 := set2_1 (bl_up hR1 hb2) (.string (pwS (pwN n)))
    have h32 := h31.keep hk2; have h52 := h51.keep hk2
    generalize W2.setCell ⟨R, 1, none⟩ (.string (pwS (pwN n))) = V2 at *
    clear hA1 hp1 hp1' hS1 hU1 hV1 hR1 h31 h51 hk2 hb2 hw1
    obtain ⟨a1, a2, _, _⟩ := box2 hA2
    obtain ⟨b1, b2, _, _⟩ := box2 hR2
    obtain ⟨r1, r3⟩ := box1 hS2
    refine step_set (s := rdM p n) (n := opE mulF p.1 (pwS (pwN n))) h32 ds ent_mul a1 b2 r1 r3 hw2 hS0 (fun W' hb => mul_any p.1 (pwS (pwN n)) W' hsp.1 hpwz (ht.below hb)) (fun hn => by unfold roundO; rw [hval, hpl, beq_no hn]; rfl) (fun hn1 W3 hb3 hw3 hk3 => ?_)
    have hA3 := hk3.block da hA2
    have hS3 := set1_0 (bl_up hS2 hb3) (.string (rdM p n))
    have hU3 := set_far (zo := 0) (bl_up hU2 hb3) (Ne.symm n4) (.string (rdM p n))
    have hV3 := set_far (zo := 0) (bl_up hV2 hb3) (Ne.symm n5) (.string (rdM p n))
    have hR3 := set_far (zo := 0) (bl_up hR2 hb3) n1 (.string (rdM p n))
    have h53 := h52.keep hk3
    generalize W3.setCell ⟨SC, 0, none⟩ (.string (rdM p n)) = V3 at *
    clear hA2 hS2 hU2 hV2 hR2 h32 h52 hk3 hb3 hw2
    obtain ⟨a1, a2, _, _⟩ := box2 hA3
    obtain ⟨b1, _⟩ := box1 hS3
    refine (rd2_any V3 SC A U V (rdM p n) p _ _ b1 a2 hU3 hV3 n6 (opS_size _ _ _) hsp.2 (ht.below hw3)).mono ?_
    rintro e W' ⟨W4, hb4, rfl, rfl⟩
    have hw4 : Below w0.heap.size w0 ((W4.setCell ⟨U, 0, none⟩ (.string (divQ (rdM p n) p.2))).setCell ⟨V, 0, none⟩ (.string (divR (rdM p n) p.2))) := ((below1 hw3 hb4).setCell (p := ⟨U, 0, none⟩) hU0 _).setCell (p := ⟨V, 0, none⟩) hV0 _
    have hk4 : KD D V3 ((W4.setCell ⟨U, 0, none⟩ (.string (divQ (rdM p n) p.2))).setCell ⟨V, 0, none⟩ (.string (divR (rdM p n) p.2))) := ((KD.of_below hb4).trans (KD.set W4 ⟨U, 0, none⟩ _ du)).trans (KD.set _ ⟨V, 0, none⟩ _ dv)
    refine ⟨_, rfl, hw4, hk4, ?_⟩
    by_cases hn2 : divE (rdM p n) p.2 = 0
    · refine .inl ⟨hn2, ?_⟩
      have hU4 := set_far (zo := 0) (set1_0 (bl_up hU3 hb4) (.string (divQ (rdM p n) p.2))) n6 (.string (divR (rdM p n) p.2))
      have hV4 := set1_0 (set_far (zo := 0) (bl_up hV3 hb4) (Ne.symm n6) (.string (divQ (rdM p n) p.2))) (.string (divR (rdM p n) p.2))
      have hR4 := set_far (zo := 0) (set_far (zo := 0) (bl_up hR3 hb4) n2 (.string (divQ (rdM p n) p.2))) n3 (.string (divR (rdM p n) p.2))
      have h54 := h53.keep hk4
      generalize (W4.setCell ⟨U, 0, none⟩ (.string (divQ (rdM p n) p.2))).setCell ⟨V, 0, none⟩ (.string (divR (rdM p n) p.2)) = V4 at *
      obtain ⟨u1, _⟩ := box1 hU4
      obtain ⟨v1, _⟩ := box1 hV4
      obtain ⟨r1, r2, r3, r4⟩ := box2 hR4
      refine step_set (s := cs (rdQ p n) (rdR p n)) (n := ce (rdQ p n) (rdR p n)) h54 dr hEK u1 v1 r1 r3 hw4 hR0 (fun W' hb => hK _ _ W' (divQ_size _ _) (ht.below hb)) (fun hn => by unfold roundO; rw [hval, hpl, hn1, hn2, beq_no hn]; rfl) (fun hn3 W5 hb5 hw5 hk5 => ?_)
      refine ⟨by unfold roundO; rw [hval, hpl, hn1, hn2, hn3]; rfl, ?_⟩
      rw [set2_0 (bl_up hR4 hb5)]
    · exact .inr ⟨hn2, by unfold roundO; rw [hval, hpl, hn1, beq_no hn2]; rfl⟩

/-- The blocks that the walk makes first. -/
theorem blocks_Round (p : Pr) (n : Int) (w : World) : ∃ wA, (((((((w.alloc (.cells #[.string p.1, .string p.2] 23)).alloc (.cells #[.int .i64 n] 3)).alloc (.cells #[.string ⟨#[]⟩, .string ⟨#[]⟩] 23)).alloc (.cells #[.string ⟨#[]⟩, .string ⟨#[]⟩] 23)).alloc (.cells #[.string ⟨#[]⟩] 9)).alloc (.cells #[.string ⟨#[]⟩] 9)).alloc (.cells #[.string ⟨#[]⟩] 9)).alloc (.cells #[.string p.1, .string p.2] 23) = wA ∧ Below w.heap.size w wA ∧ wA.heap.size = w.heap.size + 8 ∧ wA.heap[w.heap.size]? = some (.cells #[.string p.1, .string p.2] 23) ∧ wA.heap[w.heap.size + 1]? = some (.cells #[.int .i64 n] 3) ∧ wA.heap[w.heap.size + 2]? = some (.cells #[.string ⟨#[]⟩, .string ⟨#[]⟩] 23) ∧ wA.heap[w.heap.size + 3]? = some (.cells #[.string ⟨#[]⟩, .string ⟨#[]⟩] 23) ∧ wA.heap[w.heap.size + 4]? = some (.cells #[.string ⟨#[]⟩] 9) ∧ wA.heap[w.heap.size + 5]? = some (.cells #[.string ⟨#[]⟩] 9) ∧ wA.heap[w.heap.size + 6]? = some (.cells #[.string ⟨#[]⟩] 9) ∧ wA.heap[w.heap.size + 7]? = some (.cells #[.string p.1, .string p.2] 23) := by
  refine ⟨_, rfl, ((((((((Below.refl w.heap.size w).alloc (Nat.le_refl _) _).alloc (by simp) _).alloc (by simp; omega) _).alloc (by simp; omega) _).alloc (by simp; omega) _).alloc (by simp; omega) _).alloc (by simp; omega) _).alloc (by simp; omega) _, by simp, ?_, ?_, ?_, ?_, ?_, ?_, ?_, ?_⟩
  · exact (Below.heap_alloc _ _ _ (by simp <;> omega)).trans ((Below.heap_alloc _ _ _ (by simp <;> omega)).trans ((Below.heap_alloc _ _ _ (by simp <;> omega)).trans ((Below.heap_alloc _ _ _ (by simp <;> omega)).trans ((Below.heap_alloc _ _ _ (by simp <;> omega)).trans ((Below.heap_alloc _ _ _ (by simp <;> omega)).trans ((Below.heap_alloc _ _ _ (by simp)).trans (heap_new' _ _ _ rfl)))))))
  · exact (Below.heap_alloc _ _ _ (by simp <;> omega)).trans ((Below.heap_alloc _ _ _ (by simp <;> omega)).trans ((Below.heap_alloc _ _ _ (by simp <;> omega)).trans ((Below.heap_alloc _ _ _ (by simp <;> omega)).trans ((Below.heap_alloc _ _ _ (by simp <;> omega)).trans ((Below.heap_alloc _ _ _ (by simp <;> omega)).trans (heap_new' _ _ _ (by simp)))))))
  · exact (Below.heap_alloc _ _ _ (by simp <;> omega)).trans ((Below.heap_alloc _ _ _ (by simp <;> omega)).trans ((Below.heap_alloc _ _ _ (by simp <;> omega)).trans ((Below.heap_alloc _ _ _ (by simp <;> omega)).trans ((Below.heap_alloc _ _ _ (by simp <;> omega)).trans (heap_new' _ _ _ (by simp))))))
  · exact (Below.heap_alloc _ _ _ (by simp <;> omega)).trans ((Below.heap_alloc _ _ _ (by simp <;> omega)).trans ((Below.heap_alloc _ _ _ (by simp <;> omega)).trans ((Below.heap_alloc _ _ _ (by simp <;> omega)).trans (heap_new' _ _ _ (by simp)))))
  · exact (Below.heap_alloc _ _ _ (by simp <;> omega)).trans ((Below.heap_alloc _ _ _ (by simp <;> omega)).trans ((Below.heap_alloc _ _ _ (by simp <;> omega)).trans (heap_new' _ _ _ (by simp))))
  · exact (Below.heap_alloc _ _ _ (by simp <;> omega)).trans ((Below.heap_alloc _ _ _ (by simp <;> omega)).trans (heap_new' _ _ _ (by simp)))
  · exact (Below.heap_alloc _ _ _ (by simp <;> omega)).trans (heap_new' _ _ _ (by simp))
  · exact heap_new' _ _ _ (by simp)
set_option maxRecDepth 100000 in
set_option maxHeartbeats 2000000 in
theorem qround_any (p : Pr) (n : Int) (K : Nat) (cs : ByteArray → ByteArray → ByteArray) (ce : ByteArray → ByteArray → Int) (hEK : Ent K)
    (hK : ∀ q r W', q.size ≤ 9223372036854775807 → Tb W' → Calls Tryz.prog K #[.string q, .string r] W' (ResOut W' (cs q r) (ce q r))) (hcz : ∀ q r, q.size ≤ 9223372036854775807 → (cs q r).size ≤ 9223372036854775807)
    (w : World) (hsp : p.1.size ≤ 9223372036854775807 ∧ p.2.size ≤ 9223372036854775807) (ht : Tb w) :
    Calls Tryz.prog 55 #[.agg #[.string p.1, .string p.2], .int .i64 n, .func (.func K) #[] #[]] w (QOut w (roundO cs ce p n)) := by
  have hmf : ∀ (fn : Fn) (first cap : Array Value) (w : World), (Instr.makeFunc fn first cap).run Tryz.prog w = .ok (.func fn first cap) w := fun _ _ _ _ => rfl
  obtain ⟨wA, hwA, hbA, hsA, h0, h1, h2, h3, h4, h5, h6, h7⟩ := blocks_Round p n w
  have hD : ∀ k, (k = w.heap.size + 3 ∨ k = w.heap.size + 4 ∨ k = w.heap.size + 5 ∨ k = w.heap.size + 6) → k < wA.heap.size := fun k hk => by omega
  have CV := Lib.hid (validm_any (fun k => k = w.heap.size + 3 ∨ k = w.heap.size + 4 ∨ k = w.heap.size + 5 ∨ k = w.heap.size + 6) (w.heap.size + 7) 1 [p] wA rfl hD (by omega) (by omega) (pr_cell1 h7))
  have CM := Lib.hid (fun W (hW : Below wA.heap.size wA W) K zb zo xb xo yb yo => setm_any (fun k => k = w.heap.size + 3 ∨ k = w.heap.size + 4 ∨ k = w.heap.size + 5 ∨ k = w.heap.size + 6) K zb zo xb xo yb yo W (fun k hk => by have := hW.size; have := hD k hk; omega))
  have CB := Lib.hid (fun W (hW : Below wA.heap.size wA W) c1 c3 c5 (g : Nat) (hv : ValC (fun k => k = w.heap.size + 3 ∨ k = w.heap.size + 4 ∨ k = w.heap.size + 5 ∨ k = w.heap.size + 6) W c1 [p]) (hs3 : SetC (fun k => k = w.heap.size + 3 ∨ k = w.heap.size + 4 ∨ k = w.heap.size + 5 ∨ k = w.heap.size + 6) W c3 70 (w.heap.size + 4) 0 w.heap.size 0 (w.heap.size + 3) 1)
      (hs5 : SetC (fun k => k = w.heap.size + 3 ∨ k = w.heap.size + 4 ∨ k = w.heap.size + 5 ∨ k = w.heap.size + 6) W c5 K (w.heap.size + 3) 0 (w.heap.size + 5) 0 (w.heap.size + 6) 0) (hl : Lv W (.slice (some ⟨g, 0, none⟩) 5 5) ([c1, (87, #[.pointer (some ⟨w.heap.size + 1, 0, none⟩), .pointer (some ⟨w.heap.size + 3, 0, none⟩)]), c3, (89, #[.pointer (some ⟨w.heap.size + 4, 0, none⟩), .pointer (some ⟨w.heap.size, 0, none⟩), .pointer (some ⟨w.heap.size + 5, 0, none⟩), .pointer (some ⟨w.heap.size + 6, 0, none⟩)]), c5].map fV2)) =>
    build_any (fun k => k = w.heap.size + 3 ∨ k = w.heap.size + 4 ∨ k = w.heap.size + 5 ∨ k = w.heap.size + 6) w W (w.heap.size + 3) (.slice (some ⟨g, 0, none⟩) 5 5) [c1, (87, #[.pointer (some ⟨w.heap.size + 1, 0, none⟩), .pointer (some ⟨w.heap.size + 3, 0, none⟩)]), c3, (89, #[.pointer (some ⟨w.heap.size + 4, 0, none⟩), .pointer (some ⟨w.heap.size, 0, none⟩), .pointer (some ⟨w.heap.size + 5, 0, none⟩), .pointer (some ⟨w.heap.size + 6, 0, none⟩)]), c5] (cs (rdQ p n) (rdR p n)) (pwS (pwN n)) (roundO cs ce p n)
      (hbA.trans (hW.mono hbA.size)) (fun k hk => by have := hW.size; have := hD k hk; omega) (fun k hk => by omega) (.inl rfl) hl (by simp) ht (hcz _ _ (divQ_size _ _)) (pw_size _ (pwN_le n))
      (fun c hc => by
        simp only [List.mem_cons, List.mem_nil_iff, or_false] at hc
        rcases hc with rfl | rfl | rfl | rfl | rfl
        · exact hv.ent
        · exact ent_rd1
        · exact hs3.ent
        · exact ent_rd2
        · exact hs5.ent)
      (fun W' hW' => by
        have hbb := hW.trans (hW'.mono hW.size)
        exact round_steps (A := w.heap.size) (Bp := w.heap.size + 1) (SC := w.heap.size + 4) (U := w.heap.size + 5) (V := w.heap.size + 6) hEK hK (.inl rfl) (.inr (.inl rfl)) (.inr (.inr (.inl rfl))) (.inr (.inr (.inr rfl))) (by omega) (by omega) (by omega) (by omega) (by omega) (by omega) (by omega) (by omega)
          (below1 (hbA.trans (hW.mono hbA.size)) hW') (by omega) (by omega) (by omega) (by omega) ht (hv.below hW') (hs3.below hW') (hs5.below hW') (bl_up h0 hbb) (box1 (bl_up h1 hbb)).1 (bl_up h4 hbb) (bl_up h5 hbb) (bl_up h6 hbb) (bl_up h3 hbb) hsp))
  have H2 := Lib.hid (fun W (hW : Below wA.heap.size wA W) => bl_up h2 hW)
  have HBA := Lib.hid hbA
  clear hD h0 h1 h2 h3 h4 h5 h6 h7 hbA hsA ht hEK hK hcz
  generalize roundO cs ce p n = o at *
  obtain ⟨pa, pb⟩ := p
  simp only at *
  go_enter Tryz.func55, Tryz.ntmps55
  go_wp2_with fail
  (with_reducible refine CV.out.mono ?_)
  rintro e w1 ⟨c1, rfl, hc1, hb1⟩
  have HB1 := Lib.hid hb1; have HC1 := Lib.hid hc1
  clear hb1 hc1
  go_wp2_with fail
  (with_reducible refine (CM.out _ HB1.out _ _ _ _ _ _ _).mono ?_)
  rintro e w2 ⟨c3, rfl, hc3, hb2⟩
  have HB2 := Lib.hid (below1 HB1.out hb2); have HC3 := Lib.hid hc3; have HC12 := Lib.hid (HC1.out.below hb2)
  clear hb2 hc3
  go_wp2_with fail
  (with_reducible refine (CM.out _ HB2.out _ _ _ _ _ _ _).mono ?_)
  rintro e w3 ⟨c5, rfl, hc5, hb3⟩
  have HB3 := Lib.hid (below1 HB2.out hb3); have HC5 := Lib.hid hc5; have HC13 := Lib.hid (HC12.out.below hb3); have HC33 := Lib.hid (HC3.out.below hb3)
  clear hb3 hc5
  have ba := (Below.refl w3.heap.size w3).alloc (Nat.le_refl _) (.cells #[fV2 c1, fV2 (87, #[.pointer (some ⟨w.heap.size + 1, 0, none⟩), .pointer (some ⟨w.heap.size + 3, 0, none⟩)]), fV2 c3, fV2 (89, #[.pointer (some ⟨w.heap.size + 4, 0, none⟩), .pointer (some ⟨w.heap.size, 0, none⟩), .pointer (some ⟨w.heap.size + 5, 0, none⟩), .pointer (some ⟨w.heap.size + 6, 0, none⟩)]), fV2 c5] 81)
  have HL := Lib.hid (Lv.lit w3 ([c1, (87, #[.pointer (some ⟨w.heap.size + 1, 0, none⟩), .pointer (some ⟨w.heap.size + 3, 0, none⟩)]), c3, (89, #[.pointer (some ⟨w.heap.size + 4, 0, none⟩), .pointer (some ⟨w.heap.size, 0, none⟩), .pointer (some ⟨w.heap.size + 5, 0, none⟩), .pointer (some ⟨w.heap.size + 6, 0, none⟩)]), c5].map fV2) 81)
  have CBB := Lib.hid (CB.out _ (below1 HB3.out ba) c1 c3 c5 w3.heap.size (HC13.out.below ba) (HC33.out.below ba) (HC5.out.below ba) HL.out)
  have HB4 := Lib.hid (below1 HB3.out ba)
  clear ba
  go_wp2_with fail
  (with_reducible refine CBB.out.mono ?_)
  rintro e w5 ⟨rfl, hb5, hk5⟩
  have H5 := hk5.block (b := w.heap.size + 2) (by omega) (H2.out _ HB4.out)
  obtain ⟨r1, r2, r3, r4⟩ := box2 H5
  obtain ⟨s1, s2, _, _⟩ := box2 (put2_heap H5 (.string (oN o)) (.string (oD o)))
  have HP := Lib.hid (show QOut w o (.returned (.tuple #[.agg #[.string (oN o), .string (oD o)], .int .i64 (oE o)])) (put2 w5 (w.heap.size + 2) (.string (oN o)) (.string (oD o))) from ⟨rfl, put2_below hb5 (by omega) _ _⟩)
  clear hb5 hk5 H5
  generalize oN o = x at *
  generalize oD o = y at *
  generalize oE o = n at *
  go_wp2
  refine bodyPost_ret (v := .tuple #[.agg #[.string x, .string y], .int .i64 n]) (by simp [results, Tryz.results55, go_sem, s1, s2]) rfl ?_
  exact HP.out

set_option maxRecDepth 100000 in
set_option maxHeartbeats 1000000 in
theorem qdown_any (p : Pr) (n : Int) (w : World) (hsp : p.1.size ≤ 9223372036854775807 ∧ p.2.size ≤ 9223372036854775807) (ht : Tb w) :
    Calls Tryz.prog 23 #[.agg #[.string p.1, .string p.2], .int .i64 n] w (QOut w (roundO dnS dnE p n)) := by
  obtain ⟨wA, hwA⟩ : ∃ wA, (w.alloc (.cells #[.string p.1, .string p.2] 23)).alloc (.cells #[.string ⟨#[]⟩, .string ⟨#[]⟩] 23) = wA := ⟨_, rfl⟩
  have hbA : Below w.heap.size w wA := by rw [← hwA]; exact ((Below.refl w.heap.size w).alloc (Nat.le_refl _) _).alloc (by simp) _
  have h0 : wA.heap[w.heap.size + 1]? = some (.cells #[.string ⟨#[]⟩, .string ⟨#[]⟩] 23) := by rw [← hwA]; exact heap_new' _ _ _ (by simp)
  obtain ⟨m0, k0, _, _⟩ := box2 (show wA.heap[w.heap.size]? = some (.cells #[.string p.1, .string p.2] 23) by rw [← hwA]; exact (Below.heap_alloc _ _ _ (by simp)).trans (heap_new' _ _ _ rfl))
  have CC := Lib.hid (qround_any p n 56 dnS dnE ent_dn1 (fun q r W' _ _ => down1_any q r W') (fun q r h => h) wA hsp (ht.below hbA))
  have H0 := Lib.hid h0; have HBA := Lib.hid hbA
  clear hbA h0 ht
  generalize (roundO dnS dnE p n) = o at *
  obtain ⟨pa, pb⟩ := p
  simp only at *
  go_enter Tryz.func23, Tryz.ntmps23
  go_wp2_with fail
  (with_reducible refine CC.out.mono ?_)
  rintro e w1 ⟨rfl, hb1⟩
  have H1 := bl_up H0.out hb1
  obtain ⟨r1, r2, r3, r4⟩ := box2 H1
  obtain ⟨s1, s2, _, _⟩ := box2 (put2_heap H1 (.string (oN o)) (.string (oD o)))
  have HP := Lib.hid (show QOut w o (.returned (.tuple #[.agg #[.string (oN o), .string (oD o)], .int .i64 (oE o)])) (put2 w1 (w.heap.size + 1) (.string (oN o)) (.string (oD o))) from ⟨rfl, put2_below (below1 HBA.out hb1) (by omega) _ _⟩)
  clear hb1 H1
  generalize oN o = x at *
  generalize oD o = y at *
  generalize oE o = n at *
  go_wp2
  refine bodyPost_ret (v := .tuple #[.agg #[.string x, .string y], .int .i64 n]) (by simp [results, Tryz.results23, go_sem, s1, s2]) rfl ?_
  exact HP.out

set_option maxRecDepth 100000 in
set_option maxHeartbeats 1000000 in
theorem qup_any (p : Pr) (n : Int) (w : World) (hsp : p.1.size ≤ 9223372036854775807 ∧ p.2.size ≤ 9223372036854775807) (ht : Tb w) :
    Calls Tryz.prog 25 #[.agg #[.string p.1, .string p.2], .int .i64 n] w (QOut w (roundO upS upE p n)) := by
  obtain ⟨wA, hwA⟩ : ∃ wA, (w.alloc (.cells #[.string p.1, .string p.2] 23)).alloc (.cells #[.string ⟨#[]⟩, .string ⟨#[]⟩] 23) = wA := ⟨_, rfl⟩
  have hbA : Below w.heap.size w wA := by rw [← hwA]; exact ((Below.refl w.heap.size w).alloc (Nat.le_refl _) _).alloc (by simp) _
  have h0 : wA.heap[w.heap.size + 1]? = some (.cells #[.string ⟨#[]⟩, .string ⟨#[]⟩] 23) := by rw [← hwA]; exact heap_new' _ _ _ (by simp)
  obtain ⟨m0, k0, _, _⟩ := box2 (show wA.heap[w.heap.size]? = some (.cells #[.string p.1, .string p.2] 23) by rw [← hwA]; exact (Below.heap_alloc _ _ _ (by simp)).trans (heap_new' _ _ _ rfl))
  have CC := Lib.hid (qround_any p n 58 upS upE ent_up1 (fun q r W' h ht => up1_any q r W' h ht) upS_size wA hsp (ht.below hbA))
  have H0 := Lib.hid h0; have HBA := Lib.hid hbA
  clear hbA h0 ht
  generalize (roundO upS upE p n) = o at *
  obtain ⟨pa, pb⟩ := p
  simp only at *
  go_enter Tryz.func25, Tryz.ntmps25
  go_wp2_with fail
  (with_reducible refine CC.out.mono ?_)
  rintro e w1 ⟨rfl, hb1⟩
  have H1 := bl_up H0.out hb1
  obtain ⟨r1, r2, r3, r4⟩ := box2 H1
  obtain ⟨s1, s2, _, _⟩ := box2 (put2_heap H1 (.string (oN o)) (.string (oD o)))
  have HP := Lib.hid (show QOut w o (.returned (.tuple #[.agg #[.string (oN o), .string (oD o)], .int .i64 (oE o)])) (put2 w1 (w.heap.size + 1) (.string (oN o)) (.string (oD o))) from ⟨rfl, put2_below (below1 HBA.out hb1) (by omega) _ _⟩)
  clear hb1 H1
  generalize oN o = x at *
  generalize oD o = y at *
  generalize oE o = n at *
  go_wp2
  refine bodyPost_ret (v := .tuple #[.agg #[.string x, .string y], .int .i64 n]) (by simp [results, Tryz.results25, go_sem, s1, s2]) rfl ?_
  exact HP.out

end Go.Proofs.YtcjcafekacceiaaGreatDoor
