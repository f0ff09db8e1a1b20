/- The reference's Print, walked. -/
import Derived.Test.YtcjcafekacceiaaGreatDoorRk
namespace Go.Proofs.YtcjcafekacceiaaGreatDoor
open Go.RowKit
set_option linter.unusedVariables false
set_option linter.unusedSimpArgs false

theorem prQ_one {q : Rat} (h : q.den = 1) : prQ q = str q.num := by
  unfold prQ prL
  rw [if_pos h]
  apply ba_ext
  rw [str_data]
theorem prQ_more {q : Rat} (h : q.den ≠ 1) : prQ q = (str q.num ++ (⟨#[47]⟩ : ByteArray)) ++ str (q.den : Int) := by
  unfold prQ prL
  rw [if_neg h]
  apply ba_ext
  rw [pr_app]
set_option maxRecDepth 100000 in
set_option maxHeartbeats 2000000 in
theorem rqprint_no (p : Pr) (w : World) (hsp : p.1.size ≤ 9223372036854775807 ∧ p.2.size ≤ 9223372036854775807) (hno : fVp p = false) :
    Calls Tryz.prog 35 #[.agg #[.string p.1, .string p.2]] w (PrOut w ⟨#[]⟩) := by
  have V1 := Lib.hid (fun W => rqvalid_any p.1 p.2 W hsp.1 hsp.2)
  unfold fVp at hno
  rw [hno] at V1
  have HA := Lib.hid ((Below.refl w.heap.size w).alloc (Nat.le_refl _) (.cells #[.string p.1, .string p.2] 23))
  generalize p.1 = x at *
  generalize p.2 = y at *
  clear hno hsp
  go_enter Tryz.func35, Tryz.ntmps35
  go_wp2_with fail
  (with_reducible refine (V1.out _).mono ?_)
  rintro e w1 ⟨rfl, hb1⟩
  have HB1 := Lib.hid (below1 HA.out hb1)
  clear hb1
  go_wp2
  go_ret
  exact ⟨rfl, HB1.out⟩
set_option maxRecDepth 100000 in
set_option maxHeartbeats 2000000 in
theorem rqprint_q (q : Rat) (hq : BQ q) (w : World) :
    Calls Tryz.prog 35 #[.agg #[.string (str q.num), .string (str (q.den : Int))]] w (PrOut w (prQ q)) := by
  have V1 := Lib.hid (fun W => rqvalid_any (str q.num) (str (q.den : Int)) W (str_size hq.1) (str_size hq.2))
  rw [fV_str hq] at V1
  have s1 := str_small hq.1
  have s2 := str_small hq.2
  have hone := isOne (z := (q.den : Int))
  have HA := Lib.hid ((Below.refl w.heap.size w).alloc (Nat.le_refl _) (.cells #[.string (str q.num), .string (str (q.den : Int))] 23))
  have HK := Lib.hid (heap_new' w (.cells #[.string (str q.num), .string (str (q.den : Int))] 23) w.heap.size rfl)
  by_cases h1 : q.den = 1
  · rw [prQ_one h1]
    rw [decide_eq_true (show (q.den : Int) = 1 by omega)] at hone
    generalize str q.num = x at *
    generalize str (q.den : Int) = y at *
    clear hq h1
    go_enter Tryz.func35, Tryz.ntmps35
    go_wp2_with fail
    (with_reducible refine (V1.out _).mono ?_)
    rintro e w1 ⟨rfl, hb1⟩
    have HB1 := Lib.hid (below1 HA.out hb1)
    obtain ⟨k0, k1, _, _⟩ := box2 (bl_up HK.out hb1)
    clear hb1
    go_wp2
    go_ret
    exact ⟨rfl, HB1.out⟩
  · rw [prQ_more h1]
    rw [decide_eq_false (show ¬ (q.den : Int) = 1 by omega)] at hone
    generalize str q.num = x at *
    generalize str (q.den : Int) = y at *
    clear hq h1
    go_enter Tryz.func35, Tryz.ntmps35
    go_wp2_with fail
    (with_reducible refine (V1.out _).mono ?_)
    rintro e w1 ⟨rfl, hb1⟩
    have HB1 := Lib.hid (below1 HA.out hb1)
    obtain ⟨k0, k1, _, _⟩ := box2 (bl_up HK.out hb1)
    clear hb1
    go_wp2
    go_ret
    exact ⟨rfl, HB1.out⟩
theorem rqprint_any (p : Pr) (w : World) (hsp : p.1.size ≤ 9223372036854775807 ∧ p.2.size ≤ 9223372036854775807) :
    Calls Tryz.prog 35 #[.agg #[.string p.1, .string p.2]] w (PrOut w (prS p)) := by
  cases hv : fVp p with
  | false => rw [prS_no hv]; exact rqprint_no p w hsp hv
  | true =>
    obtain ⟨x, bx, hx1, hx2⟩ := fV_q hv
    obtain ⟨p1, p2⟩ := p
    simp only at hx1 hx2
    subst hx1 hx2
    rw [prS_q bx]
    exact rqprint_q x bx w
end Go.Proofs.YtcjcafekacceiaaGreatDoor
