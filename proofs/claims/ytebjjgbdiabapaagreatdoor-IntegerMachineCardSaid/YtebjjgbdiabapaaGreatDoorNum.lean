/- Numbers with a sign: signed, isZero, negated, walked. -/
import Derived.Test.YtebjjgbdiabapaaGreatDoorVal
import Derived.Test.YtebjjgbdiabapaaGreatDoorTex
namespace Go.Proofs.YtebjjgbdiabapaaGreatDoor
open Go.RowKit

/-- The struct v reads as the number z. -/
def Nm (w : World) (v : Value) (z : Int) : Prop := ∃ s, v = .agg #[.bool (decide (z < 0)), s] ∧ Nt w s z.natAbs
def NmOut (w : World) (z : Int) (e : Ending) (w' : World) : Prop := ∃ v', e = .returned v' ∧ Nm w' v' z ∧ Below w.heap.size w w'
theorem Nm.below {B : Nat} {w w' : World} {v : Value} {z : Int} (h : Nm w v z) (hB : w.heap.size ≤ B) (hb : Below B w w') : Nm w' v z := by
  obtain ⟨s, rfl, hs⟩ := h
  exact ⟨s, rfl, hs.below hB hb⟩
theorem Nm.shape {w : World} {v : Value} {z : Int} (h : Nm w v z) : ∃ al c, v = .agg #[.bool (decide (z < 0)), .slice al (dz 10000 z.natAbs).length c] ∧ Nt w (.slice al (dz 10000 z.natAbs).length c) z.natAbs := by
  obtain ⟨s, rfl, hs⟩ := h
  obtain ⟨al, c, rfl⟩ := hs.shape
  exact ⟨al, c, rfl, hs⟩
theorem nm_mk {w : World} {s : Value} {b : Bool} {z : Int} (hb : b = decide (z < 0)) (h : Nt w s z.natAbs) : Nm w (.agg #[.bool b, s]) z := by
  subst hb
  exact ⟨s, rfl, h⟩
/-- A block of two cells. -/
theorem box2 {w : World} {B : Nat} {x y : Value} {T : TypeId} (h : w.heap[B]? = some (.cells #[x, y] T)) :
    w.cell? ⟨B, 0, none⟩ = some x ∧ w.cell? ⟨B, 1, none⟩ = some y ∧ w.frozen? ⟨B, 0, none⟩ = false ∧ w.frozen? ⟨B, 1, none⟩ = false := by
  refine ⟨?_, ?_, ?_, ?_⟩ <;> simp [World.cell?, World.frozen?, h]
/-- A block of two cells, both stored. -/
abbrev put2 (W : World) (B : Nat) (x y : Value) : World := (W.setCell ⟨B, 0, none⟩ x).setCell ⟨B, 1, none⟩ y
theorem put2_heap {W : World} {B : Nat} {x0 y0 : Value} {T : TypeId} (h : W.heap[B]? = some (.cells #[x0, y0] T)) (x y : Value) : (put2 W B x y).heap[B]? = some (.cells #[x, y] T) := by
  have hlt : B < W.heap.size := (Array.getElem?_eq_some_iff.1 h).1
  simp [put2, World.setCell, Array.getElem?_modify, h]
theorem put2_other {W : World} {B k : Nat} (x y : Value) (hk : k ≠ B) : (put2 W B x y).heap[k]? = W.heap[k]? :=
  (Below.heap_setCell _ _ _ _ (by simpa using hk)).trans (Below.heap_setCell _ _ _ _ (by simpa using hk))
theorem put2_ls {W : World} {B : Nat} {q : Bool} {al : Option Addr} {n c : Nat} {T : TypeId} {v : Value} {zs : List Int} (h : W.heap[B]? = some (.cells #[.bool q, .slice al n c] T)) (hl : Ls W v zs) (x y : Value) : Ls (put2 W B x y) v zs := by
  rcases hl with hl | ⟨b, o, c', rfl, hc, hlt, hcell⟩
  · exact .inl hl
  · rcases Nat.eq_zero_or_pos zs.length with h0 | h0
    · rw [h0] at hc ⊢
      exact .inr ⟨b, o, c', by rw [h0], by omega, by simpa using hlt, fun i hi => by omega⟩
    · refine .inr ⟨b, o, c', rfl, hc, by simpa using hlt, fun i hi => ?_⟩
      have hne : b ≠ B := by
        rintro rfl
        have h1 := hcell i hi
        obtain ⟨q1, q2, _⟩ := box2 h
        rcases Nat.lt_or_ge (o + i) 2 with h2 | h2
        · obtain h3 | h3 : o + i = 0 ∨ o + i = 1 := by omega
          · rw [h3, q1] at h1; cases h1
          · rw [h3, q2] at h1; cases h1
        · have h4 : (#[Value.bool q, Value.slice al n c] : Array Value)[o + i]? = none := Array.getElem?_eq_none h2
          simp [World.cell?, h, h4] at h1
      exact (World.cell?_of_block (put2_other x y hne)).trans (hcell i hi)
theorem put2_nt {W : World} {B : Nat} {q : Bool} {al : Option Addr} {m c : Nat} {T : TypeId} {v : Value} {n : Nat} (h : W.heap[B]? = some (.cells #[.bool q, .slice al m c] T)) (hl : Nt W v n) (x y : Value) : Nt (put2 W B x y) v n := put2_ls h hl x y
theorem put2_below {w W : World} {B : Nat} (hb : Below w.heap.size w W) (hB : w.heap.size ≤ B) (x y : Value) : Below w.heap.size w (put2 W B x y) := (hb.setCell (p := ⟨B, 0, none⟩) hB x).setCell (p := ⟨B, 1, none⟩) hB y
theorem Nm.open {w : World} {v : Value} {z : Int} (h : Nm w v z) : ∃ b al L c, v = .agg #[.bool b, .slice al L c] ∧ Hid (b = decide (z < 0)) ∧ Hid ((dz 10000 z.natAbs).length = L) ∧ Hid (Nt w (.slice al L c) z.natAbs) := by
  obtain ⟨al, c, rfl, hs⟩ := h.shape
  exact ⟨_, al, _, c, rfl, rfl, rfl, hs⟩
/-- A result of two cells, stored last. -/
theorem nm_end {w w1 : World} {B : Nat} {T : TypeId} {b1 : Bool} {al : Option Addr} {L c : Nat} {z : Int} (HK : w1.heap[B]? = some (.cells #[.bool false, .slice none 0 0] T)) (hb : b1 = decide (z < 0)) (hs : Nt w1 (.slice al L c) z.natAbs)
    (hB : Below w.heap.size w w1) (hle : w.heap.size ≤ B) : NmOut w z (.returned (.agg #[.bool b1, .slice al L c])) ((w1.setCell ⟨B, 0, none⟩ (.bool b1)).setCell ⟨B, 1, none⟩ (.slice al L c)) :=
  ⟨_, rfl, nm_mk hb (put2_nt HK hs _ _), put2_below hB hle _ _⟩
/-- The sign as signed gives it. -/
def sgn (b : Bool) (n : Nat) : Int := if b then -(n : Int) else n
theorem sgn_abs (b : Bool) (n : Nat) : (sgn b n).natAbs = n := by cases b <;> simp [sgn]
theorem sgn_neg (b : Bool) (n : Nat) : decide (sgn b n < 0) = (b && decide (n ≠ 0)) := by
  cases b
  · simp [sgn]
  · simp only [sgn, Bool.true_and, decide_eq_decide, if_true]; omega

set_option maxRecDepth 100000 in
set_option maxHeartbeats 1000000 in
theorem signed_nm (w : World) (b : Bool) (v : Value) (n : Nat) (h : Nt w v n) : Calls Tryz.prog 55 #[.bool b, v] w (NmOut w (sgn b n)) := by
  have hsn := sgn_neg b n
  obtain ⟨al, c, rfl⟩ := h.shape
  have hpos := dz_length_pos 10000 (by decide) n
  have hg : Hid (decide (sgn b n < 0) = (b && decide (0 < ((dz 10000 n).length : Int)))) := by
    rw [hsn]
    congr 1
    rw [decide_eq_decide]
    omega
  have H := Lib.hid h
  clear h hsn hpos
  obtain ⟨L, hL⟩ : ∃ L, (dz 10000 n).length = L := ⟨_, rfl⟩
  rw [hL] at H hg ⊢
  have HL := Lib.hid hL
  clear hL
  cases b
  · go_enter Tryz.func55, Tryz.ntmps55
    go_wp2
    exact bodyPost_ret (v := .agg #[.bool false, .slice al L c]) (by simp [results, Tryz.results55, go_sem]) rfl
      (show NmOut _ _ _ _ from ⟨_, rfl, nm_mk (by rw [hg.out]; rfl) (by rw [sgn_abs]; exact H.out.below (Nat.le_refl _) ((Below.refl _ _).alloc (Nat.le_refl _) _)), (Below.refl _ _).alloc (Nat.le_refl _) _⟩)
  · go_enter Tryz.func55, Tryz.ntmps55
    go_wp2
    exact bodyPost_ret (v := .agg #[.bool (decide (0 < L)), .slice al L c]) (by simp [results, Tryz.results55, go_sem]) rfl
      (show NmOut _ _ _ _ from ⟨_, rfl, nm_mk (by rw [hg.out, Bool.true_and, decide_eq_decide]; omega) (by rw [sgn_abs]; exact H.out.below (Nat.le_refl _) ((Below.refl _ _).alloc (Nat.le_refl _) _)), (Below.refl _ _).alloc (Nat.le_refl _) _⟩)
set_option maxRecDepth 100000 in
set_option maxHeartbeats 1000000 in
theorem isZero_any (w : World) (v : Value) (z : Int) (h : Nm w v z) : Calls Tryz.prog 39 #[v] w fun e w' => e = .returned (.bool (decide (z = 0))) ∧ Below w.heap.size w w' := by
  obtain ⟨al, c, rfl, _⟩ := h.shape
  have hpos := dz_length_pos 10000 (by decide) z.natAbs
  have hg : Hid (decide (z = 0) = decide (((dz 10000 z.natAbs).length : Int) = 0)) := by
    show decide _ = decide _
    rw [decide_eq_decide]; omega
  obtain ⟨L, hL⟩ : ∃ L, (dz 10000 z.natAbs).length = L := ⟨_, rfl⟩
  rw [hL] at hg ⊢
  generalize decide (z < 0) = b
  clear hpos hL h
  go_enter Tryz.func39, Tryz.ntmps39
  go_wp2
  go_ret
  exact ⟨by rw [hg.out]; rfl, (Below.refl _ _).alloc (Nat.le_refl _) _⟩
set_option maxRecDepth 100000 in
set_option maxHeartbeats 1000000 in
theorem negated_nm (w : World) (v : Value) (z : Int) (h : Nm w v z) : Calls Tryz.prog 59 #[v] w (NmOut w (-z)) := by
  obtain ⟨b, al, L, c, rfl, hb, hL, hs⟩ := h.open
  clear h
  have hsg : sgn (!b) z.natAbs = -z := by
    rw [hb.out]
    unfold sgn
    by_cases h : z < 0 <;> simp [h] <;> omega
  have CS := Lib.hid (fun W (hW : Below w.heap.size w W) => signed_nm W (!b) _ _ (hs.out.below (Nat.le_refl _) hW))
  rw [hsg] at CS
  clear hsg
  have HB0 := Lib.hid (((Below.refl w.heap.size w).alloc (Nat.le_refl _) (.cells #[.bool b, .slice al L c] 49)).alloc (by simp) (.cells #[.bool false, .slice none 0 0] 49))
  go_enter Tryz.func59, Tryz.ntmps59
  go_wp2_with fail
  refine (CS.out _ HB0.out).mono ?_
  rintro e w1 ⟨v1, rfl, hn1, hb1⟩
  obtain ⟨b1, al1, L1, c1, rfl, hbb1, hL1, hs1⟩ := hn1.open
  have HK := Lib.hid ((hb1.block (w.heap.size + 1) (by simp)).trans (heap_new' (w.alloc (.cells #[.bool b, .slice al L c] 49)) (.cells #[.bool false, .slice none 0 0] 49) (w.heap.size + 1) (by simp)))
  obtain ⟨q1, q2, q3, q4⟩ := box2 HK.out
  have HB := Lib.hid (HB0.out.trans (hb1.mono HB0.out.size))
  clear hb1 hn1
  go_wp2
  obtain ⟨r1, r2, _⟩ := box2 (put2_heap HK.out (.bool b1) (.slice al1 L1 c1))
  exact bodyPost_ret (v := .agg #[.bool b1, .slice al1 L1 c1]) (by simp [results, Tryz.results59, go_sem, r1, r2]) rfl
    (nm_end HK.out hbb1.out hs1.out HB.out (by omega))
end Go.Proofs.YtebjjgbdiabapaaGreatDoor
