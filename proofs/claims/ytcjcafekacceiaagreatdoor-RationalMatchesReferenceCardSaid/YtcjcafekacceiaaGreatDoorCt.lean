/- The law's cut, walked. -/
import Derived.StillTailTactics
import Derived.Test.YtcjcafekacceiaaGreatDoorFo
namespace Go.Proofs.YtcjcafekacceiaaGreatDoor
open Go.RowKit
set_option linter.unusedVariables false
set_option linter.unusedSimpArgs false

def cutS (s : ByteArray) : ByteArray := s.extract 0 (min s.size 210)
theorem cutS_size (s : ByteArray) : (cutS s).size ≤ 9223372036854775807 := by
  unfold cutS
  rw [ByteArray.size_extract]
  omega
def CtOut (w : World) (x y : ByteArray) (e : Ending) (w' : World) : Prop := e = .returned (.agg #[.string x, .string y]) ∧ Below w.heap.size w w'
set_option maxRecDepth 100000 in
set_option maxHeartbeats 2000000 in
theorem cut_any (a b : ByteArray) (w : World) (ha : a.size ≤ 9223372036854775807) (hb : b.size ≤ 9223372036854775807) :
    Calls Tryz.prog 12 #[.agg #[.string a, .string b]] w (CtOut w (cutS a) (cutS b)) := by
  obtain ⟨wA, hwA⟩ : ∃ wA, (w.alloc (.cells #[.string a, .string b] 23)).alloc (.cells #[.string ⟨#[]⟩, .string ⟨#[]⟩] 23) = wA := ⟨_, rfl⟩
  have B0 := Lib.hid (show Below w.heap.size w wA by rw [← hwA]; exact ((Below.refl w.heap.size w).alloc (Nat.le_refl _) _).alloc (by simp) _)
  have Ka := Lib.hid (show wA.heap[w.heap.size]? = some (.cells #[.string a, .string b] 23) by rw [← hwA]; exact (Below.heap_alloc _ _ _ (by simp)).trans (heap_new' _ _ _ rfl))
  have Ko := Lib.hid (show wA.heap[w.heap.size + 1]? = some (.cells #[.string ⟨#[]⟩, .string ⟨#[]⟩] 23) by rw [← hwA]; exact heap_new' _ _ _ (by simp))
  obtain ⟨m, hm⟩ : ∃ m, min a.size 210 = m := ⟨_, rfl⟩
  obtain ⟨n, hn⟩ : ∃ n, min b.size 210 = n := ⟨_, rfl⟩
  have hmI : min (a.size : Int) 210 = (m : Int) := by omega
  have hnI : min (b.size : Int) 210 = (n : Int) := by omega
  have m1 : (0 : Int) ≤ (m : Int) := by omega
  have m2 : (m : Int) ≤ (a.size : Int) := by omega
  have n1 : (0 : Int) ≤ (n : Int) := by omega
  have n2 : (n : Int) ≤ (b.size : Int) := by omega
  have hA : (a.size : Int) ≤ 9223372036854775807 := by omega
  have hB : (b.size : Int) ≤ 9223372036854775807 := by omega
  unfold cutS
  rw [hm, hn]
  obtain ⟨x, hx⟩ : ∃ x, a.extract 0 m = x := ⟨_, rfl⟩
  obtain ⟨y, hy⟩ : ∃ y, b.extract 0 n = y := ⟨_, rfl⟩
  rw [hx, hy]
  clear hm hn ha hb
  go_enter Tryz.func12, Tryz.ntmps12
  go_upto_region 1 with fail
  clear hwA
  obtain ⟨a1, a2, _, _⟩ := box2 (drew_at Ka.out)
  go_still_tail 15, (by kernel_rfl)
  change wpList _ _ _ _ _ wA.drew
  replace Ka := Lib.hid (drew_at Ka.out)
  replace Ko := Lib.hid (drew_at Ko.out)
  replace B0 := Lib.hid (below1 B0.out (Below.refl _ _).drew)
  obtain ⟨V, hV⟩ : ∃ V, wA.drew = V := ⟨_, rfl⟩
  rw [hV] at Ka Ko B0 ⊢
  clear hV a1 a2
  obtain ⟨r1, r2, r3, r4⟩ := box2 Ko.out
  obtain ⟨s1, s2, _, _⟩ := box2 (put2_heap Ko.out (.string x) (.string y))
  have HF := Lib.hid (put2_below B0.out (show w.heap.size ≤ w.heap.size + 1 by omega) (.string x) (.string y))
  clear Ka Ko
  go_wp2
  refine bodyPost_ret (v := .agg #[.string x, .string y]) (by simp [results, Tryz.results12, go_sem, s1, s2]) rfl ?_
  exact ⟨rfl, HF.out⟩
end Go.Proofs.YtcjcafekacceiaaGreatDoor
