/- reduce and the closure in it, walked. -/
import Derived.Test.YtcjcafekacceiaaGreatDoorCo
namespace Go.Proofs.YtcjcafekacceiaaGreatDoor
open Go.RowKit

theorem box1 {w : World} {B : Nat} {x : Value} {T : TypeId} (h : w.heap[B]? = some (.cells #[x] T)) : w.cell? ⟨B, 0, none⟩ = some x ∧ w.frozen? ⟨B, 0, none⟩ = false := by
  refine ⟨?_, ?_⟩ <;> simp [World.cell?, World.frozen?, h]
/-- With a denominator that is 0, the closure of reduce refuses. -/
def Red0 (W : World) (e : Ending) (w' : World) : Prop := e = .returned (.int .i64 40) ∧ Below W.heap.size W w'
def Red1 (W : World) (e : Ending) (w' : World) : Prop := e = .returned (.int .i64 0) ∧ Below W.heap.size W w'
set_option maxRecDepth 100000 in
set_option maxHeartbeats 1000000 in
theorem red_zero (W : World) (B1 Bd Br : Nat) (a b : ByteArray) (hB1 : W.cell? ⟨B1, 0, none⟩ = some (.pointer (some ⟨Br, 0, none⟩)))
    (hBr : W.heap[Br]? = some (.cells #[.string a, .string b] 23)) (hb : b.size ≤ 9223372036854775807) (hz : cmpS b ⟨#[48]⟩ = 0) :
    Calls Tryz.prog 120 #[.pointer (some ⟨B1, 0, none⟩), .pointer (some ⟨Bd, 0, none⟩)] W (Red0 W) := by
  obtain ⟨q1, q2, _, _⟩ := box2 hBr
  have CC := Lib.hid (compare_any b ⟨#[48]⟩ W hb (by decide))
  rw [hz] at CC
  clear hz hBr
  go_enter Tryz.func120, Tryz.ntmps120
  go_wp2_with fail
  (with_reducible refine CC.out.mono ?_)
  rintro e w1 ⟨rfl, hb1⟩
  have HB1 := Lib.hid hb1
  clear hb1
  go_wp2
  go_ret
  exact ⟨rfl, HB1.out⟩
set_option maxRecDepth 100000 in
set_option maxHeartbeats 1000000 in
theorem red_pos (W : World) (B1 Bd Br : Nat) (a b : ByteArray) (hB1 : W.cell? ⟨B1, 0, none⟩ = some (.pointer (some ⟨Br, 0, none⟩)))
    (hBr : W.heap[Br]? = some (.cells #[.string a, .string b] 23)) (hb : b.size ≤ 9223372036854775807) (hz : cmpS b ⟨#[48]⟩ = 1) :
    Calls Tryz.prog 120 #[.pointer (some ⟨B1, 0, none⟩), .pointer (some ⟨Bd, 0, none⟩)] W (Red1 W) := by
  obtain ⟨q1, q2, _, _⟩ := box2 hBr
  have CC := Lib.hid (compare_any b ⟨#[48]⟩ W hb (by decide))
  rw [hz] at CC
  clear hz hBr
  go_enter Tryz.func120, Tryz.ntmps120
  go_wp2_with fail
  (with_reducible refine CC.out.mono ?_)
  rintro e w1 ⟨rfl, hb1⟩
  have HB1 := Lib.hid hb1
  clear hb1
  go_wp2
  go_ret
  exact ⟨rfl, HB1.out⟩
set_option maxRecDepth 100000 in
set_option maxHeartbeats 1000000 in
theorem red_neg (W : World) (B1 Bd Br : Nat) (a b : ByteArray) (G : Int) (hB1 : W.cell? ⟨B1, 0, none⟩ = some (.pointer (some ⟨Br, 0, none⟩)))
    (hBr : W.heap[Br]? = some (.cells #[.string a, .string b] 23)) (hb : b.size ≤ 9223372036854775807) (hz : cmpS b ⟨#[48]⟩ = -1)
    (hBd : W.heap[Bd]? = some (.cells #[.string (str G)] 9)) (hG : Big G) (ht : Tb W) :
    Calls Tryz.prog 120 #[.pointer (some ⟨B1, 0, none⟩), .pointer (some ⟨Bd, 0, none⟩)] W (SetOut W ⟨Bd, 0, none⟩ (str (0 - G)) 0) := by
  obtain ⟨q1, q2, _, _⟩ := box2 hBr
  have CC := Lib.hid (compare_any b ⟨#[48]⟩ W hb (by decide))
  rw [hz] at CC
  have CS := Lib.hid (fun W' (h : Below W.heap.size W W') => sub_str big0 hG (big_sub0 hG) W' (ht.below h))
  rw [← str0] at CS
  have KD1 := Lib.hid (fun W' (h : Below W.heap.size W W') => box1 ((h.block Bd (Array.getElem?_eq_some_iff.1 hBd).1).trans hBd))
  generalize str (0 - G) = z at *
  generalize str G = g at *
  clear hz hBr hBd hG ht
  go_enter Tryz.func120, Tryz.ntmps120
  go_wp2_with fail
  (with_reducible refine CC.out.mono ?_)
  rintro e w1 ⟨rfl, hb1⟩
  have HB1 := Lib.hid hb1
  obtain ⟨d1, _⟩ := KD1.out _ hb1
  clear hb1
  go_wp2_with fail
  (with_reducible refine (CS.out _ HB1.out).mono ?_)
  rintro e w2 ⟨rfl, hb2⟩
  have HB2 := Lib.hid (below1 HB1.out hb2)
  clear hb2 d1
  obtain ⟨d1, d2⟩ := KD1.out _ HB2.out
  go_wp2
  go_ret
  exact ⟨_, HB2.out, rfl, rfl⟩

theorem Lv.lit (w : World) (xs : List Value) (T : TypeId) : Lv (w.alloc (.cells xs.toArray T)) (.slice (some ⟨w.heap.size, 0, none⟩) xs.length xs.length) xs :=
  .inr ⟨_, 0, _, rfl, Nat.le_refl _, by simp, fun i hi => by rw [cell_of_row _ _ _ _ _ _ (heap_new' w _ _ rfl), Nat.zero_add]; simp⟩
/-- What reduce returns: four steps. -/
def RedOut (D : Nat → Prop) (w : World) (Br : Nat) (e : Ending) (w' : World) : Prop :=
  ∃ v c1 c3 c4, e = .returned v ∧ Lv w' v [fV2 c1, fV2 (120, #[.pointer (some ⟨w.heap.size, 0, none⟩), .pointer (some ⟨w.heap.size + 1, 0, none⟩)]), fV2 c3, fV2 c4] ∧
    SetC (fun k => D k ∨ k = w.heap.size + 1) w' c1 63 (w.heap.size + 1) 0 Br 0 Br 1 ∧
    SetC (fun k => D k ∨ k = w.heap.size + 1) w' c3 121 Br 0 Br 0 (w.heap.size + 1) 0 ∧
    SetC (fun k => D k ∨ k = w.heap.size + 1) w' c4 121 Br 1 Br 1 (w.heap.size + 1) 0 ∧
    w'.cell? ⟨w.heap.size, 0, none⟩ = some (.pointer (some ⟨Br, 0, none⟩)) ∧ w'.heap[w.heap.size + 1]? = some (.cells #[.string ⟨#[]⟩] 9) ∧ Below w.heap.size w w'
set_option maxRecDepth 100000 in
set_option maxHeartbeats 4000000 in
theorem reduce_any (D : Nat → Prop) (Br : Nat) (w : World) (hD : ∀ b, D b → b < w.heap.size) :
    Calls Tryz.prog 94 #[.pointer (some ⟨Br, 0, none⟩)] w (RedOut D w Br) := by
  have hmf : ∀ (fn : Fn) (first cap : Array Value) (w : World), (Instr.makeFunc fn first cap).run Tryz.prog w = .ok (.func fn first cap) w := fun _ _ _ _ => rfl
  obtain ⟨W, hW⟩ : ∃ W, (w.alloc (.cells #[.pointer (some ⟨Br, 0, none⟩)] 74)).alloc (.cells #[.string ⟨#[]⟩] 9) = W := ⟨_, rfl⟩
  have hws : W.heap.size = w.heap.size + 2 := by rw [← hW]; simp
  have hb0 : Below w.heap.size w W := by rw [← hW]; exact ((Below.refl w.heap.size w).alloc (Nat.le_refl _) _).alloc (by simp) _
  have h1 : W.heap[w.heap.size]? = some (.cells #[.pointer (some ⟨Br, 0, none⟩)] 74) := by
    rw [← hW]; exact (Boxed.new w 74 (.pointer (some ⟨Br, 0, none⟩))).alloc _
  have h2 : W.heap[w.heap.size + 1]? = some (.cells #[.string ⟨#[]⟩] 9) := by
    rw [← hW]; have := Boxed.new (w.alloc (.cells #[.pointer (some ⟨Br, 0, none⟩)] 74)) 9 (.string ⟨#[]⟩); rw [show (w.alloc (.cells #[.pointer (some ⟨Br, 0, none⟩)] 74)).heap.size = w.heap.size + 1 by simp] at this; exact this
  have K1 := Lib.hid (fun W' (h : Below W.heap.size W W') => (box1 ((h.block w.heap.size (by omega)).trans h1)).1)
  have K2 := Lib.hid (fun W' (h : Below W.heap.size W W') => (h.block (w.heap.size + 1) (by omega)).trans h2)
  have HD := Lib.hid (fun (W' : World) (h : Below W.heap.size W W') b (hb : D b ∨ b = w.heap.size + 1) => show b < W'.heap.size from by
    have := h.size
    rcases hb with hb | hb
    · have := hD b hb; omega
    · omega)
  have HB0 := Lib.hid hb0
  have HWS := Lib.hid hws
  have kd : W.drew.cell? ⟨w.heap.size, 0, none⟩ = some (.pointer (some ⟨Br, 0, none⟩)) := K1.out _ (Below.refl _ _).drew
  clear hD h1 h2 hb0 hws
  go_enter Tryz.func94, Tryz.ntmps94
  go_upto_region 2 with fail
  have hB : Below W.heap.size W W.drew := (Below.refl _ _).drew
  go_region_held3 (fun w' => w'.cell? ⟨w.heap.size, 0, none⟩ = some (.pointer (some ⟨Br, 0, none⟩)))
    (first
      | exact K1.out _ hB
      | exact K1.out _ (hB.alloc hB.size _))
    (first
      | (go_at_call 69; (with_reducible refine (setm_any (fun k => D k ∨ k = w.heap.size + 1) 63 (w.heap.size + 1) 0 Br 0 Br 1 _ (HD.out _ hB)).mono ?_); rintro e w1 ⟨c1, rfl, hc1, hb1⟩; (try replace hc3 := hc3.below hb1); (try replace hc4 := hc4.below hb1); replace hB := hB.trans (hb1.mono hB.size))
      | (go_at_call 69; (with_reducible refine (setm_any (fun k => D k ∨ k = w.heap.size + 1) 121 Br 0 Br 0 (w.heap.size + 1) 0 _ (HD.out _ hB)).mono ?_); rintro e w1 ⟨c3, rfl, hc3, hb1⟩; (try replace hc1 := hc1.below hb1); (try replace hc4 := hc4.below hb1); replace hB := hB.trans (hb1.mono hB.size))
      | (go_at_call 69; (with_reducible refine (setm_any (fun k => D k ∨ k = w.heap.size + 1) 121 Br 1 Br 1 (w.heap.size + 1) 0 _ (HD.out _ hB)).mono ?_); rintro e w1 ⟨c4, rfl, hc4, hb1⟩; (try replace hc1 := hc1.below hb1); (try replace hc3 := hc3.below hb1); replace hB := hB.trans (hb1.mono hB.size)))
  all_goals
    have hB2 := hB.alloc hB.size (.cells #[fV2 c1, fV2 (120, #[.pointer (some ⟨w.heap.size, 0, none⟩), .pointer (some ⟨w.heap.size + 1, 0, none⟩)]), fV2 c3, fV2 c4] 81)
    have ba := (Below.refl w1.heap.size w1).alloc (Nat.le_refl _) (.cells #[fV2 c1, fV2 (120, #[.pointer (some ⟨w.heap.size, 0, none⟩), .pointer (some ⟨w.heap.size + 1, 0, none⟩)]), fV2 c3, fV2 c4] 81)
    have HP := Lib.hid (show RedOut D w Br (.returned (.slice (some ⟨w1.heap.size, 0, none⟩) 4 4)) (w1.alloc (.cells #[fV2 c1, fV2 (120, #[.pointer (some ⟨w.heap.size, 0, none⟩), .pointer (some ⟨w.heap.size + 1, 0, none⟩)]), fV2 c3, fV2 c4] 81)) from
      ⟨_, c1, c3, c4, rfl, Lv.lit w1 [_, _, _, _] _, hc1.below ba, hc3.below ba, hc4.below ba, K1.out _ hB2, K2.out _ hB2, HB0.out.trans (hB2.mono HB0.out.size)⟩)
    clear hc1 hc3 hc4 hB hB2 ba hb1
    go_wp2
    go_ret
    exact HP.out
end Go.Proofs.YtcjcafekacceiaaGreatDoor
