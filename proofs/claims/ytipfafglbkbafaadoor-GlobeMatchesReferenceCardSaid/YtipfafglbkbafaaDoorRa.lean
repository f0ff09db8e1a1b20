/- The reference's ValidCell, Valid, has, Has, Same, Near. -/
import Derived.Test.YtipfafglbkbafaaDoorLk
import Derived.Test.YtipfafglbkbafaaDoorRm
namespace Go.Proofs.YtipfafglbkbafaaDoor
open Go.RowKit Go.Shelf
set_option linter.unusedVariables false
set_option linter.unusedSimpArgs false
/-- A variable that holds an area, valid or not. -/
abbrev VG (B : Nat) (al : Option Addr) (n c : Nat) (zs : List Int) (W : World) : Prop := Sl W al n zs ∧ W.heap[B]? = some (.cells #[.slice al n c] 25 (0, 0))
theorem up_vg {w : World} {B : Nat} {al : Option Addr} {n c : Nat} {zs : List Int} (h : Sl w al n zs) (hk : w.heap[B]? = some (.cells #[.slice al n c] 25 (0, 0))) : Up w (VG B al n c zs) := fun W hb =>
  ⟨Sl.below h (Nat.le_refl _) hb, (hb.block B (Array.getElem?_eq_some_iff.1 hk).1).trans hk⟩
theorem VG.cell {B : Nat} {al : Option Addr} {n c : Nat} {zs : List Int} {W : World} (h : VG B al n c zs W) : W.cell? ⟨B, 0, none⟩ = some (.slice al n c) := (row_cell h.2 0).trans rfl
theorem up_bl (w : World) : Up w (fun W => Below w.heap.size w W) := fun _ hb => hb
theorem ra_c0 {B : Nat} {a b : Value} {t : TypeId} {W : World} (h : VR B #[a, b] t W) : W.cell? ⟨B, 0, none⟩ = some a := (row_cell h 0).trans rfl
theorem ra_c1 {B : Nat} {a b : Value} {t : TypeId} {W : World} (h : VR B #[a, b] t W) : W.cell? ⟨B, 1, none⟩ = some b := (row_cell h 1).trans rfl
set_option maxHeartbeats 400000 in
theorem rvalidCell_any (x y : Int) (w : World) : Calls Tryd.prog 16 #[CV x y] w (OutV w (.bool (onG x y))) := by
  go_enter Tryd.func16, Tryd.ntmps16
  go_wp2
  all_goals
    go_ret
    exact ⟨ret_bool' (Bool.eq_iff_iff.2 (by unfold onG; simp only [decide_eq_true_eq, Bool.false_eq_true, true_iff, false_iff]; omega)), (Below.refl _ _).alloc (Nat.le_refl _) _⟩
/-- The bit of a row, as the reference asks for it. -/
theorem rbit_at (f : Ar) (x y : Nat) (hx : x < 48) : (((rowOf f y : Int) / 2 ^ x) % 2 == 1) = f x y := by
  have e1 : (rowOf f y : Int) / 2 ^ x = ((rowOf f y / 2 ^ x : Nat) : Int) := by rw [Int.natCast_ediv, Int.natCast_pow]; rfl
  have e3 : (rowOf f y).testBit x = f x y := by unfold rowOf; rw [bitsTo_bit]; simp [hx]
  rw [e1, ← e3, Nat.testBit_eq_decide_div_mod_eq]
  rw [Bool.eq_iff_iff]; simp; omega
set_option maxHeartbeats 400000 in
theorem rhas_any (b o c : Nat) (f : Ar) (x y : Nat) (hx : x < 48) (hy : y < 24) (w : World) (h : SA w (some ⟨b, o, none⟩) 24 f) : Calls Tryd.prog 56 #[.agg #[.slice (some ⟨b, o, none⟩) 24 c], .int .i64 (x : Int), .int .i64 (y : Int)] w (OutV w (.bool (f x y))) := by
  obtain ⟨W, hW, hb, hz, h0⟩ := box_one_area w (some ⟨b, o, none⟩) 24 c
  obtain ⟨_, b', o', he, hb0, hcs⟩ := SA.parts (h.below (Nat.le_refl _) hb : SA W (some ⟨b, o, none⟩) 24 f)
  cases he
  have HV := Lib.hid (rbit_at f x y hx)
  have hc := hcs y hy
  have hr := row_lt f y
  generalize rowOf f y = r at hc HV hr
  have y0 : (0 : Int) ≤ y := by omega
  have y1 : (y : Int) < 24 := by omega
  have x0 : (0 : Int) ≤ x := by omega
  have x1 : (x : Int) < 48 := by omega
  have HB := Lib.hid hb
  clear hb hz h hcs hb0
  go_enter Tryd.func56, Tryd.ntmps56
  go_wp2
  go_ret
  exact ⟨ret_bool' HV.out, HB.out⟩
theorem take_all {zs : List Int} (h : zs.length ≤ 25) : zs.take 25 = zs := List.take_of_length_le h
theorem is_take {zs : List Int} {o : Option Ar} (hO : Is zs o) (h : ∀ z ∈ zs.take 25, inR z) : o.isSome = ((zs.length : Int) == 24) := by
  rw [Bool.eq_iff_iff, beq_iff_eq]
  cases o with
  | some f => have := (is_some_ok hO).1; simp; omega
  | none =>
    have hn : ¬ (zs.length = 24 ∧ ∀ z ∈ zs, inR z) := hO
    simp only [Option.isSome, Bool.false_eq_true, false_iff]
    intro he
    exact hn ⟨by omega, by rw [take_all (by omega)] at h; exact h⟩
theorem is_bad {zs : List Int} {o : Option Ar} (hO : Is zs o) (h : ¬ ∀ z ∈ zs.take 25, inR z) : o.isSome = false := by
  cases o with
  | some f => exact absurd (fun z hz => (is_some_ok hO).2 z (List.mem_of_mem_take hz)) h
  | none => rfl
theorem getD_take {zs : List Int} {i : Nat} (h : i < 25) : (zs.take 25).getD i 0 = zs.getD i 0 := by
  rw [List.getD_eq_getElem?_getD, List.getD_eq_getElem?_getD, List.getElem?_take, if_pos h]
set_option maxRecDepth 100000 in
set_option maxHeartbeats 1000000 in
theorem rvalid_good (al : Option Addr) (n c : Nat) (zs : List Int) (w : World) (h : Sl w al n zs) (r : Bool) (hr : ((n : Int) == 24) = r) (hg : ∀ z ∈ zs.take 25, inR z) :
    Calls Tryd.prog 23 #[.agg #[.slice al n c]] w (OutV w (.bool r)) := by
  obtain ⟨W, hW, hb, hz, h0⟩ := box_one_area w al n c
  have HS := Lib.hid (h.below (Nat.le_refl _) hb)
  have HB := Lib.hid hb
  have HG := Lib.hid (show ∀ i, i < n → i < 25 → inR (zs.getD i 0) from fun i h1 h2 => by
    have hl : i < zs.length := by rw [← h.1]; exact h1
    rw [List.getD_eq_getElem?_getD, List.getElem?_eq_getElem hl]
    exact hg _ (List.mem_take_iff_getElem.2 ⟨i, by omega, rfl⟩))
  have hn : n ≤ 140737488355328 := h.2.1
  clear hb hz h hg
  go_enter Tryd.func23, Tryd.ntmps23
  go_wp2
  clear hW
  go_loop [3] (fun iv => ∃ i : Nat, i ≤ n ∧ i ≤ 25 ∧ iv = .int .i64 i) (fun iv => 25 - (intOf iv).toNat)
  case atStart => exact ⟨0, by omega, by omega, rfl⟩
  case round =>
    obtain ⟨i, hi, hj, rfl⟩ := hrel
    have i0 : (0 : Int) ≤ i := by omega
    have i2 : (i : Int) ≤ 25 := by omega
    rcases (show (i < n ∧ i < 25) ∨ (i = n) ∨ (i < n ∧ i = 25) by omega) with ⟨l1, l2⟩ | l1 | ⟨l1, l2⟩
    · have d1 : (i : Int) < n := by omega
      have d2 : (i : Int) < 25 := by omega
      have hq := HG.out i l1 l2
      obtain ⟨r1, r2⟩ : 0 ≤ zs.getD i 0 ∧ zs.getD i 0 ≤ 281474976710655 := hq
      obtain ⟨b, o, rfl, hb0, hcs⟩ := HS.out.at (by omega)
      have hc := hcs i l1
      clear hcs hb0 hr
      generalize zs.getD i 0 = z at hc r1 r2
      go_wp2
      go_round
      case rel => exact ⟨i + 1, by omega, by omega, by go_num⟩
      case measure => simp [intOf]; omega
    · have d1 : ¬ ((i : Int) < n) := by omega
      clear hj
      go_wp2
      go_ret
      exact ⟨rfl, HB.out⟩
    · have d1 : (i : Int) < n := by omega
      have d2 : ¬ ((i : Int) < 25) := by omega
      go_wp2
      go_ret
      exact ⟨rfl, HB.out⟩
set_option maxRecDepth 100000 in
set_option maxHeartbeats 1000000 in
theorem rvalid_bad (al : Option Addr) (n c : Nat) (zs : List Int) (w : World) (h : Sl w al n zs) (j : Nat) (hj : j < n) (hj2 : j < 25) (hbad : ¬ inR (zs.getD j 0)) (hok : ∀ i, i < j → inR (zs.getD i 0)) :
    Calls Tryd.prog 23 #[.agg #[.slice al n c]] w (OutV w (.bool false)) := by
  obtain ⟨W, hW, hb, hz, h0⟩ := box_one_area w al n c
  obtain ⟨b, o, rfl, hb0, hcs⟩ := (h.below (Nat.le_refl _) hb).at (by omega)
  have HC := Lib.hid hcs
  have HB := Lib.hid hb
  have HBAD := Lib.hid hbad
  have HOK := Lib.hid hok
  clear hb hz hcs hb0 hbad hok h
  go_enter Tryd.func23, Tryd.ntmps23
  go_wp2
  clear hW
  go_loop [3] (fun iv => ∃ i : Nat, i ≤ j ∧ iv = .int .i64 i) (fun iv => 25 - (intOf iv).toNat)
  case atStart => exact ⟨0, by omega, rfl⟩
  case round =>
    obtain ⟨i, hi, rfl⟩ := hrel
    have i0 : (0 : Int) ≤ i := by omega
    have d1 : (i : Int) < n := by omega
    have d2 : (i : Int) < 25 := by omega
    have hc := HC.out i (by omega)
    by_cases hlt : i < j
    · have hr := HOK.out i hlt
      obtain ⟨r1, r2⟩ : 0 ≤ zs.getD i 0 ∧ zs.getD i 0 ≤ 281474976710655 := hr
      generalize zs.getD i 0 = z at hc r1 r2
      go_wp2
      go_round
      case rel => exact ⟨i + 1, by omega, by go_num⟩
      case measure => simp [intOf]; omega
    · obtain rfl : i = j := by omega
      have hr : zs.getD i 0 < 0 ∨ 281474976710655 < zs.getD i 0 := by have := HBAD.out; unfold inR at this; omega
      generalize zs.getD i 0 = z at hc hr
      clear HBAD HOK
      rcases hr with h2 | h2
      · go_wp2
        go_ret
        exact ⟨rfl, HB.out⟩
      · have h1 : 0 ≤ z := by omega
        go_wp2
        go_ret
        exact ⟨rfl, HB.out⟩
theorem rvalid_any (al : Option Addr) (n c : Nat) (zs : List Int) (o : Option Ar) (hO : Is zs o) (w : World) (h : Sl w al n zs) :
    Calls Tryd.prog 23 #[.agg #[.slice al n c]] w (OutV w (.bool o.isSome)) := by
  by_cases hg : ∀ z ∈ zs.take 25, inR z
  · exact rvalid_good al n c zs w h _ (by rw [is_take hO hg, h.1]) hg
  · rw [is_bad hO hg]
    obtain ⟨j, j1, j2, j3⟩ := first_bad _ hg
    have hl : (zs.take 25).length = min 25 zs.length := List.length_take
    have hn := h.1
    exact rvalid_bad al n c zs w h j (by omega) (by omega) (by rw [← getD_take (by omega)]; exact j2) (fun i hi => by rw [← getD_take (by omega)]; exact j3 i hi)
end Go.Proofs.YtipfafglbkbafaaDoor
