/- What the laws of where a satellite could be call: slices of cells that stay, wider slack. -/
import Derived.Test.YtdomgielpofbhaaLn
import Derived.Test.YtdomgielpofbhaaMu
import Derived.Test.YtdomgielpofbhaaRs
namespace Go.Proofs.Ytdomgielpofbhaa
open Go.RowKit Go.Shelf Go.Maps
set_option linter.unusedSimpArgs false
set_option linter.unusedVariables false
/-- A slice of cells that stays. -/
abbrev VC (al : Option Addr) (l : List Cel) (W : World) : Prop := Cs W al l.length l
theorem up_vc {w : World} {al : Option Addr} {l : List Cel} (h : Cs w al l.length l) : Up w (VC al l) := fun W hb => h.below (Nat.le_refl _) hb
theorem vc_at {W : World} {al : Option Addr} {l : List Cel} (h : VC al l W) {k : Nat} {x : Cel} (hx : l[k]? = some x) : ∃ b, al = some ⟨b, 0, none⟩ ∧ b < W.heap.size ∧ W.cell? ⟨b, k * 2, none⟩ = some (iV x.1.1) ∧ W.cell? ⟨b, k * 2 + 1, none⟩ = some (iV x.1.2) := by
  obtain ⟨b, hb, hl, hc⟩ := Cs.pos h (by have := (List.getElem?_eq_some_iff.1 hx).1; omega)
  exact ⟨b, hb, hl, hc k x hx⟩
/-- An orbit with another slack. -/
abbrev wid (o : Orb) (s : Int) : Orb := { o with sl := s }
theorem wid_ok {o : Orb} (h : okO o) {s : Int} (h0 : 0 ≤ s) (h1 : s ≤ 10) : okO (wid o s) := by
  obtain ⟨p, f, lo, hi, nd, tn, sl⟩ := o
  unfold okO at h ⊢
  simp only at h ⊢
  omega
theorem wid_cel (o : Orb) (s : Int) (m : Int) : celO (wid o s) m = celO o m := rfl
theorem wid_sub {o : Orb} (h : okO o) {s : Int} (h0 : o.sl ≤ s) (h1 : s ≤ 10) {t : Int} {a b : List Cel} (ha : Could o t a) (hb : Could (wid o s) t b) : ∀ c ∈ a, c ∈ b := by
  intro c hc
  obtain ⟨d, d0, d1, rfl⟩ := could_of h ha hc
  have hs : 0 ≤ o.sl := by unfold okO at h; omega
  exact could_in (wid_ok h (by omega) h1) hb (d := d) (by show -s ≤ d; omega) (by show d ≤ s; omega)
theorem could_21 {o : Orb} (h : okO o) {t : Int} {a : List Cel} (ha : Could o t a) : a.length ≤ 21 := by
  have := could_le ha
  have hs : o.sl ≤ 10 := by unfold okO at h; omega
  omega
/-- What the law asks of the two answers of Must. -/
theorem wid_must {o : Orb} (h : okO o) {s : Int} (h0 : o.sl ≤ s) (h1 : s ≤ 10) {t : Int} {a b : List Cel} (ha : Could o t a) (hb : Could (wid o s) t b) (hl : b.length = 1) : ∃ c, b = [c] ∧ a = [c] := by
  obtain ⟨c, rfl⟩ := List.length_eq_one_iff.1 hl
  refine ⟨c, rfl, ?_⟩
  have hs := wid_sub h h0 h1 ha hb
  have hn := could_ne h ha
  have hnd := srt_nodup ha.1
  rcases a with _ | ⟨x, _ | ⟨y, r⟩⟩
  · simp at hn
  · have := hs x (by simp)
    simp at this
    rw [this]
  · have e1 := hs x (by simp)
    have e2 := hs y (by simp)
    simp at e1 e2
    subst e1; subst e2
    simp at hnd
theorem mustV_ne {l : List Cel} (h : l.length ≠ 1) : mustV l = .tuple #[CV 0 0, .bool false] := by
  rcases l with _ | ⟨x, _ | ⟨y, r⟩⟩
  · rfl
  · exact absurd rfl h
  · rfl
/-- Must's answer, taken apart. -/
theorem mustV_any (l : List Cel) : ∃ x y : Nat, ∃ t : Bool, mustV l = .tuple #[.agg #[iV x, iV y], .bool t] ∧ t = decide (l.length = 1) ∧ (∀ c, l = [c] → x = c.1.1 ∧ y = c.1.2) ∧ (l.length ≠ 1 → x = 0 ∧ y = 0) := by
  rcases l with _ | ⟨c, _ | ⟨y, r⟩⟩
  · exact ⟨0, 0, false, rfl, rfl, by simp, by simp⟩
  · refine ⟨c.1.1, c.1.2, true, rfl, rfl, ?_, by simp⟩
    intro d hd
    simp at hd
    subst hd
    exact ⟨rfl, rfl⟩
  · exact ⟨0, 0, false, rfl, by simp, by simp, by simp⟩
/-- Picks that leave the world as it was. -/
theorem lpS (z : Int) (h0 : -9223372036854775808 ≤ z) (h1 : z ≤ 9223372036854775807) (N : Int) (hN : 0 < N) (hN2 : N ≤ 2000000000) :
    ∃ i : Nat, (i : Int) < N ∧ ∀ w : World, Calls Try.prog 14 #[.int .i64 z, .int .i64 N] w fun e w' => e = .returned (iV i) ∧ w' = w := by
  have h := pickZ_lt z (n := N.toNat) (by omega)
  exact ⟨pickZ z N.toNat, by omega, fun w => swapw (lpick_any z h0 h1 N.toNat (by omega) (by omega) N (by omega) w)⟩
/-- A cell is among the first ones. -/
def inB (b : List Cel) (x : Cel) (k : Nat) : Bool := (b.take k).contains x
theorem inB_0 (b : List Cel) (x : Cel) : inB b x 0 = false := rfl
theorem inB_s {b : List Cel} {x y : Cel} {k : Nat} (h : b[k]? = some y) : inB b x (k + 1) = (inB b x k || decide (y = x)) := by
  unfold inB
  rw [List.take_add_one, h, Bool.eq_iff_iff]
  simp only [Option.toList_some, List.contains_iff_mem, List.mem_append, Bool.or_eq_true, decide_eq_true_eq, List.mem_singleton]
  constructor
  · rintro (h | h)
    · exact .inl h
    · exact .inr h.symm
  · rintro (h | h)
    · exact .inl h
    · exact .inr h.symm
theorem inB_all {b : List Cel} {x : Cel} (h : x ∈ b) : inB b x b.length = true := by
  unfold inB
  rw [List.take_length]
  simpa using h
end Go.Proofs.Ytdomgielpofbhaa
