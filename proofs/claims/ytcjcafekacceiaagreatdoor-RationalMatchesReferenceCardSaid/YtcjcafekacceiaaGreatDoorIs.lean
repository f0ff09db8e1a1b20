/- is, pick and the fixed examples, walked. -/
import Derived.Test.YtcjcafekacceiaaGreatDoorPa
namespace Go.Proofs.YtcjcafekacceiaaGreatDoor
open Go.RowKit

def IsOut (w : World) (x y : ByteArray) (e : Ending) (w' : World) : Prop := e = .returned (.agg #[.string x, .string y]) ∧ Below w.heap.size w w'
set_option maxHeartbeats 1000000 in
theorem is_any (x y : ByteArray) (w : World) : Calls Tryz.prog 41 #[.string x, .string y] w (IsOut w x y) := by
  have HP := Lib.hid (show IsOut w x y (.returned (.agg #[.string x, .string y])) (w.alloc (.cells #[.string x, .string y] 23)) from ⟨rfl, (Below.refl w.heap.size w).alloc (Nat.le_refl _) _⟩)
  obtain ⟨s1, s2, _, _⟩ := box2 (heap_new' w (.cells #[.string x, .string y] 23) w.heap.size rfl)
  go_enter Tryz.func41, Tryz.ntmps41
  go_wp2
  refine bodyPost_ret (v := .agg #[.string x, .string y]) (by simp [results, Tryz.results41, go_sem, s1, s2]) rfl ?_
  exact HP.out

def PickOut (w : World) (n : Nat) (e : Ending) (w' : World) : Prop := ∃ r : Nat, r < n ∧ e = .returned (.int .i64 r) ∧ w = w'
set_option maxHeartbeats 1000000 in
theorem lpick_any (c : Int) (h0 : -9223372036854775808 ≤ c) (h1 : c ≤ 9223372036854775807) (n : Nat) (hn : 0 < n) (hn2 : n ≤ 1000000) (N : Int) (hN : N = (n : Int)) (w : World) : Calls Tryz.prog 22 #[.int .i64 c, .int .i64 N] w (PickOut w n) := by
  subst hN
  by_cases hc : c < 0
  · obtain ⟨d, hd⟩ : ∃ d, -(c + 1) = d := ⟨_, rfl⟩
    have hd0 : 0 ≤ d ∧ d ≤ 9223372036854775807 := by omega
    have hm0 := Int.emod_nonneg d (show (n : Int) ≠ 0 by omega)
    have hm1 := Int.emod_lt_of_pos d (show (0 : Int) < n by omega)
    obtain ⟨r, hr⟩ := Int.eq_ofNat_of_zero_le hm0
    rw [hr] at hm1
    go_enter Tryz.func22, Tryz.ntmps22
    go_wp2
    go_ret
    exact ⟨r, by omega, by first | rfl | exact congrArg (fun z => Ending.returned (.int .i64 z)) hr, rfl⟩
  · have hm0 := Int.emod_nonneg c (show (n : Int) ≠ 0 by omega)
    have hm1 := Int.emod_lt_of_pos c (show (0 : Int) < n by omega)
    obtain ⟨r, hr⟩ := Int.eq_ofNat_of_zero_le hm0
    rw [hr] at hm1
    go_enter Tryz.func22, Tryz.ntmps22
    go_wp2
    go_ret
    exact ⟨r, by omega, by first | rfl | exact congrArg (fun z => Ending.returned (.int .i64 z)) hr, rfl⟩

set_option maxHeartbeats 1000000 in
theorem rpick_any (c : Int) (h0 : -9223372036854775808 ≤ c) (h1 : c ≤ 9223372036854775807) (n : Nat) (hn : 0 < n) (hn2 : n ≤ 1000000) (N : Int) (hN : N = (n : Int)) (w : World) : Calls Tryz.prog 46 #[.int .i64 c, .int .i64 N] w (PickOut w n) := by
  subst hN
  by_cases hc : c < 0
  · obtain ⟨d, hd⟩ : ∃ d, -(c + 1) = d := ⟨_, rfl⟩
    have hd0 : 0 ≤ d ∧ d ≤ 9223372036854775807 := by omega
    have hm0 := Int.emod_nonneg d (show (n : Int) ≠ 0 by omega)
    have hm1 := Int.emod_lt_of_pos d (show (0 : Int) < n by omega)
    obtain ⟨r, hr⟩ := Int.eq_ofNat_of_zero_le hm0
    rw [hr] at hm1
    go_enter Tryz.func46, Tryz.ntmps46
    go_wp2
    go_ret
    exact ⟨r, by omega, by first | rfl | exact congrArg (fun z => Ending.returned (.int .i64 z)) hr, rfl⟩
  · have hm0 := Int.emod_nonneg c (show (n : Int) ≠ 0 by omega)
    have hm1 := Int.emod_lt_of_pos c (show (0 : Int) < n by omega)
    obtain ⟨r, hr⟩ := Int.eq_ofNat_of_zero_le hm0
    rw [hr] at hm1
    go_enter Tryz.func46, Tryz.ntmps46
    go_wp2
    go_ret
    exact ⟨r, by omega, by first | rfl | exact congrArg (fun z => Ending.returned (.int .i64 z)) hr, rfl⟩

theorem QOut.at {w w' : World} {o : Option Rat} {e : Ending} (h : QOut w o e w') {x y : ByteArray} {n : Int} (hh : oN o = x ∧ oD o = y ∧ oE o = n) : e = .returned (.tuple #[.agg #[.string x, .string y], .int .i64 n]) ∧ Below w.heap.size w w' := by
  obtain ⟨rfl, rfl, rfl⟩ := hh
  exact h
def QRes (w : World) (x y : ByteArray) (n : Int) (e : Ending) (w' : World) : Prop := e = .returned (.tuple #[.agg #[.string x, .string y], .int .i64 n]) ∧ Below w.heap.size w w'

end Go.Proofs.YtcjcafekacceiaaGreatDoor
