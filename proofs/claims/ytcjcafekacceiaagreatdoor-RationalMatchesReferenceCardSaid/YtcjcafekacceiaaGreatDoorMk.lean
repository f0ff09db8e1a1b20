/- Make, walked. -/
import Derived.Test.YtcjcafekacceiaaGreatDoorVl
namespace Go.Proofs.YtcjcafekacceiaaGreatDoor
open Go.RowKit

set_option maxRecDepth 100000 in
set_option maxHeartbeats 1000000 in
theorem make_any (a b : ByteArray) (w : World) (ha : a.size ≤ 9223372036854775807) (hb : b.size ≤ 9223372036854775807) (ht : Tb w) :
    Calls Tryz.prog 27 #[.string a, .string b] w (QOut w (mkS a b)) := by
  obtain ⟨wA, hwA⟩ : ∃ wA, (w.alloc (.cells #[.string ⟨#[]⟩, .string ⟨#[]⟩] 23)).alloc (.cells #[.string a, .string b] 23) = wA := ⟨_, rfl⟩
  have hbA : Below w.heap.size w wA := by rw [← hwA]; exact ((Below.refl w.heap.size w).alloc (Nat.le_refl _) _).alloc (by simp) _
  have hsA : wA.heap.size = w.heap.size + 2 := by rw [← hwA]; simp
  have h0 : wA.heap[w.heap.size]? = some (.cells #[.string ⟨#[]⟩, .string ⟨#[]⟩] 23) := by
    rw [← hwA]; exact (Below.heap_alloc _ _ _ (by simp)).trans (heap_new' _ _ _ rfl)
  have h1 : wA.heap[w.heap.size + 1]? = some (.cells #[.string a, .string b] 23) := by
    rw [← hwA]; exact heap_new' _ _ _ (by simp)
  obtain ⟨o, ho⟩ : ∃ o, mkS a b = o := ⟨_, rfl⟩
  have CB := Lib.hid (build_any (fun k => k = w.heap.size + 1) w wA (w.heap.size + 1) (.slice none 0 0) [] a b o hbA (fun k hk => by omega) (fun k hk => by omega) rfl (Lv.nil _) (by decide) ht ha hb (fun c hc => nomatch hc)
    (fun W hW => ⟨ho.symm, bl_up h1 hW⟩))
  have H0 := Lib.hid h0
  rw [ho]
  clear h0 h1 ho ht hbA hsA
  go_enter Tryz.func27, Tryz.ntmps27
  go_wp2_with fail
  (with_reducible refine CB.out.mono ?_)
  rintro e w1 ⟨rfl, hb1, hk1⟩
  have H1 := hk1.block (b := w.heap.size) (by omega) H0.out
  obtain ⟨r1, r2, r3, r4⟩ := box2 H1
  obtain ⟨s1, s2, _, _⟩ := box2 (put2_heap H1 (.string (oN o)) (.string (oD o)))
  have HP := Lib.hid (show QOut w o (.returned (.tuple #[.agg #[.string (oN o), .string (oD o)], .int .i64 (oE o)])) (put2 w1 w.heap.size (.string (oN o)) (.string (oD o))) from ⟨rfl, put2_below hb1 (Nat.le_refl _) _ _⟩)
  clear hb1 hk1 H1
  generalize oN o = x at *
  generalize oD o = y at *
  generalize oE o = n at *
  go_wp2
  refine bodyPost_ret (v := .tuple #[.agg #[.string x, .string y], .int .i64 n]) (by simp [results, Tryz.results27, go_sem, s1, s2]) rfl ?_
  exact HP.out

set_option maxRecDepth 100000 in
set_option maxHeartbeats 1000000 in
theorem of_any (n d : Int) (hn0 : -9223372036854775808 ≤ n) (hn1 : n ≤ 9223372036854775807) (hd0 : -9223372036854775808 ≤ d) (hd1 : d ≤ 9223372036854775807) (w : World) (ht : Tb w) :
    Calls Tryz.prog 31 #[.int .i64 n, .int .i64 d] w (QOut w (mkS (str n) (str d))) := by
  have hbn : Big n := by unfold Big; exact Nat.lt_of_lt_of_le (show n.natAbs < 10 ^ 20 by omega) (Nat.pow_le_pow_right (by decide) (by decide))
  have hbd : Big d := by unfold Big; exact Nat.lt_of_lt_of_le (show d.natAbs < 10 ^ 20 by omega) (Nat.pow_le_pow_right (by decide) (by decide))
  obtain ⟨wA, hwA⟩ : ∃ wA, (w.alloc (.cells #[.string ⟨#[]⟩, .string ⟨#[]⟩] 23)) = wA := ⟨_, rfl⟩
  have hbA : Below w.heap.size w wA := by rw [← hwA]; exact (Below.refl w.heap.size w).alloc (Nat.le_refl _) _
  have h0 : wA.heap[w.heap.size]? = some (.cells #[.string ⟨#[]⟩, .string ⟨#[]⟩] 23) := by
    rw [← hwA]; exact heap_new' _ _ _ rfl
  have C1 := Lib.hid (fun W (hW : Below w.heap.size w W) => fromInt_any n hn0 hn1 W (ht.below hW))
  have C2 := Lib.hid (fun W (hW : Below w.heap.size w W) => fromInt_any d hd0 hd1 W (ht.below hW))
  have C3 := Lib.hid (fun W (hW : Below w.heap.size w W) => make_any (str n) (str d) W (str_size hbn) (str_size hbd) (ht.below hW))
  have HBA := Lib.hid hbA; have H0 := Lib.hid h0
  generalize mkS (str n) (str d) = o at *
  generalize str n = a at *
  generalize str d = b at *
  clear hbA h0 ht hbn hbd
  go_enter Tryz.func31, Tryz.ntmps31
  go_wp2_with fail
  (with_reducible refine (C1.out _ HBA.out).mono ?_)
  rintro e w1 ⟨rfl, hb1⟩
  have HB1 := Lib.hid (below1 HBA.out hb1)
  have H1 := Lib.hid (bl_up H0.out hb1)
  clear hb1
  go_wp2_with fail
  (with_reducible refine (C2.out _ HB1.out).mono ?_)
  rintro e w2 ⟨rfl, hb2⟩
  have HB2 := Lib.hid (below1 HB1.out hb2)
  have H2 := Lib.hid (bl_up H1.out hb2)
  clear hb2
  go_wp2_with fail
  (with_reducible refine (C3.out _ HB2.out).mono ?_)
  rintro e w3 ⟨rfl, hb3⟩
  have HB3 := Lib.hid (below1 HB2.out hb3)
  have H3 := bl_up H2.out hb3
  clear hb3
  obtain ⟨r1, r2, r3, r4⟩ := box2 H3
  obtain ⟨s1, s2, _, _⟩ := box2 (put2_heap H3 (.string (oN o)) (.string (oD o)))
  have HP := Lib.hid (show QOut w o (.returned (.tuple #[.agg #[.string (oN o), .string (oD o)], .int .i64 (oE o)])) (put2 w3 w.heap.size (.string (oN o)) (.string (oD o))) from ⟨rfl, put2_below HB3.out (Nat.le_refl _) _ _⟩)
  clear H3
  generalize oN o = x at *
  generalize oD o = y at *
  generalize oE o = k at *
  go_wp2
  refine bodyPost_ret (v := .tuple #[.agg #[.string x, .string y], .int .i64 k]) (by simp [results, Tryz.results31, go_sem, s1, s2]) rfl ?_
  exact HP.out
end Go.Proofs.YtcjcafekacceiaaGreatDoor
