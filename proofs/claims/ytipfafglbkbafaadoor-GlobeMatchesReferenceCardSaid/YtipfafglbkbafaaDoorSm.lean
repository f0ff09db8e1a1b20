/- Same (the library's Equal over two slices of integers), Contains. -/
import Derived.Laws.StructEq
import Derived.Test.YtipfafglbkbafaaDoorBx
namespace Go.Proofs.YtipfafglbkbafaaDoor
open Go.RowKit Go.Shelf
set_option linter.unusedVariables false
set_option linter.unusedSimpArgs false

/-- The cells of a slice that is not empty. -/
theorem Sl.at {W : World} {al : Option Addr} {n : Nat} {zs : List Int} (h : Sl W al n zs) (hn : 0 < n) : ∃ b o, al = some ⟨b, o, none⟩ ∧ b < W.heap.size ∧ ∀ i, i < n → W.cell? ⟨b, o + i, none⟩ = some (.int .i64 (zs.getD i 0)) := by
  rcases h.2.2.2 with h | h
  · omega
  · exact h
theorem first_diff : ∀ (zs ys : List Int), zs.length = ys.length → zs ≠ ys → ∃ j, j < zs.length ∧ zs.getD j 0 ≠ ys.getD j 0 ∧ ∀ i, i < j → zs.getD i 0 = ys.getD i 0
  | [], [], _, h => absurd rfl h
  | [], _ :: _, h, _ => by simp at h
  | _ :: _, [], h, _ => by simp at h
  | a :: l, b :: m, hl, h => by
    by_cases e : a = b
    · subst e
      obtain ⟨j, h1, h2, h3⟩ := first_diff l m (by simpa using hl) (fun e => h (by rw [e]))
      refine ⟨j + 1, by simp; omega, by simpa using h2, fun i hi => ?_⟩
      cases i with
      | zero => rfl
      | succ i => simpa using h3 i (by omega)
    · exact ⟨0, by simp, e, fun i hi => by omega⟩
set_option maxRecDepth 100000 in
set_option maxHeartbeats 1000000 in
theorem equal_yes (al : Option Addr) (n c : Nat) (bl : Option Addr) (d : Nat) (zs : List Int) (w : World) (h : Sl w al n zs) (h' : Sl w bl n zs) :
    Calls Tryd.prog 68 #[.slice al n c, .slice bl n d] w fun e w' => e = .returned (.bool true) ∧ ∃ k, w' = w.drewN k := by
  have hn := h.2.1
  have H := Lib.hid (And.intro h h')
  clear h h'
  go_enter Tryd.func68, Tryd.ntmps68
  go_wp2
  go_loopw [13] (fun iv wr => ∃ i k : Nat, i ≤ n ∧ iv = .int .i64 i ∧ wr = w.drewN k) (fun iv _ => n - (intOf iv).toNat)
  case atStart => exact ⟨0, 0, by omega, rfl, rfl⟩
  case round =>
    obtain ⟨i, k, hi, rfl, rfl⟩ := hrel
    have i0 : (0 : Int) ≤ i := by omega
    by_cases hlt : i < n
    · have hd : decide ((i : Int) < n) = true := by simp; omega
      have i1 : (i : Int) < n := by omega
      obtain ⟨b, o, rfl, hb, hc⟩ := H.out.1.at (by omega)
      obtain ⟨b', o', rfl, hb', hc'⟩ := H.out.2.at (by omega)
      have c0 := hc i hlt
      have c1 := hc' i hlt
      have HC := Lib.hid (And.intro hc hc')
      clear hc hc' hb hb'
      generalize zs.getD i 0 = z at c0 c1
      go_wp2
      go_quiet (fail)
      go_wp2
      exact ⟨⟨i + 1, k + nq, by omega, by go_num, rfl⟩, by simp [intOf]; omega⟩
    · obtain rfl : i = n := by omega
      have hd : decide ((i : Int) < i) = false := by simp
      go_wp2
      go_ret
      exact ⟨rfl, k, rfl⟩
set_option maxRecDepth 100000 in
set_option maxHeartbeats 1000000 in
theorem equal_len (al : Option Addr) (n c : Nat) (bl : Option Addr) (m d : Nat) (w : World) (h1 : n ≤ 140737488355328) (h2 : m ≤ 140737488355328) (hne : n ≠ m) :
    Calls Tryd.prog 68 #[.slice al n c, .slice bl m d] w fun e w' => e = .returned (.bool false) ∧ ∃ k, w' = w.drewN k := by
  have hb : ((n : Int) == m) = false := by simp; omega
  have hb2 : ((n : Int) != m) = true := by simp; omega
  have hb3 : (n == m) = false := by simp; omega
  have hb4 : (n != m) = true := by simp; omega
  clear h1 h2 hne
  go_enter Tryd.func68, Tryd.ntmps68
  go_wp2
  go_ret
  exact ⟨rfl, 0, rfl⟩
set_option maxRecDepth 100000 in
set_option maxHeartbeats 1000000 in
theorem equal_diff (al : Option Addr) (n c : Nat) (bl : Option Addr) (d : Nat) (zs ys : List Int) (w : World) (h : Sl w al n zs) (h' : Sl w bl n ys) (j : Nat) (hj : j < n) (hne : zs.getD j 0 ≠ ys.getD j 0) (hok : ∀ i, i < j → zs.getD i 0 = ys.getD i 0) :
    Calls Tryd.prog 68 #[.slice al n c, .slice bl n d] w fun e w' => e = .returned (.bool false) ∧ ∃ k, w' = w.drewN k := by
  have hn := h.2.1
  have H := Lib.hid (And.intro (h.at (by omega)) (h'.at (by omega)))
  have HE := Lib.hid (And.intro hne hok)
  clear h h' hne hok
  obtain ⟨⟨b, o, rfl, hb, hc⟩, ⟨b', o', rfl, hb', hc'⟩⟩ := H.out
  have HC := Lib.hid (And.intro hc hc')
  clear hc hc' hb hb' H
  go_enter Tryd.func68, Tryd.ntmps68
  go_wp2
  go_loopw [13] (fun iv wr => ∃ i k : Nat, i ≤ j ∧ iv = .int .i64 i ∧ wr = w.drewN k) (fun iv _ => n - (intOf iv).toNat)
  case atStart => exact ⟨0, 0, by omega, rfl, rfl⟩
  case round =>
    obtain ⟨i, k, hi, rfl, rfl⟩ := hrel
    have i0 : (0 : Int) ≤ i := by omega
    have hd : decide ((i : Int) < n) = true := by simp; omega
    have i1 : (i : Int) < n := by omega
    have c0 := HC.out.1 i (by omega)
    have c1 := HC.out.2 i (by omega)
    by_cases hlt : i < j
    · rw [HE.out.2 i hlt] at c0
      generalize ys.getD i 0 = z at c0 c1
      go_wp2
      go_quiet (fail)
      go_wp2
      exact ⟨⟨i + 1, k + nq, by omega, by go_num, rfl⟩, by simp [intOf]; omega⟩
    · obtain rfl : i = j := by omega
      have hz := HE.out.1
      generalize ys.getD i 0 = z at c0 c1 hz
      generalize zs.getD i 0 = z' at c0 c1 hz
      have hb1 : (z' == z) = false := by simpa using hz
      have hb2 : (z' != z) = true := by simpa using hz
      clear hz HE
      go_wp2
      go_quiet (fail)
      go_wp2
      go_ret
      exact ⟨rfl, k + nq, by rw [World.drewN_drewN]⟩
theorem same_any (al : Option Addr) (n c : Nat) (zs : List Int) (bl : Option Addr) (m d : Nat) (ys : List Int) (w : World) (h : Sl w al n zs) (h' : Sl w bl m ys) :
    Calls Tryd.prog 68 #[.slice al n c, .slice bl m d] w fun e w' => e = .returned (.bool (decide (zs = ys))) ∧ ∃ k, w' = w.drewN k := by
  by_cases hl : n = m
  · subst hl
    by_cases he : zs = ys
    · subst he
      rw [decide_eq_true rfl]
      exact equal_yes al n c bl d zs w h h'
    · rw [decide_eq_false he]
      obtain ⟨j, j1, j2, j3⟩ := first_diff zs ys (by rw [← h.1, ← h'.1]) he
      exact equal_diff al n c bl d zs ys w h h' j (by rw [h.1]; exact j1) j2 j3
  · rw [decide_eq_false (fun e => hl (by rw [h.1, h'.1, e]))]
    exact equal_len al n c bl m d w h.2.1 h'.2.1 hl
set_option maxRecDepth 100000 in
set_option maxHeartbeats 1000000 in
theorem sameF_any (al : Option Addr) (n c : Nat) (zs : List Int) (bl : Option Addr) (m d : Nat) (ys : List Int) (w : World) (h : Sl w al n zs) (h' : Sl w bl m ys) :
    Calls Tryd.prog 45 #[.agg #[.slice al n c], .agg #[.slice bl m d]] w fun e w' => e = .returned (.bool (decide (zs = ys))) ∧ Below w.heap.size w w' := by
  obtain ⟨W, hW, hb, hz, h0, h1⟩ : ∃ W, (w.alloc (.cells #[.slice al n c] 25)).alloc (.cells #[.slice bl m d] 25) = W ∧ Below w.heap.size w W ∧ W.heap.size = w.heap.size + 2 ∧
      W.cell? ⟨w.heap.size, 0, none⟩ = some (.slice al n c) ∧ W.cell? ⟨w.heap.size + 1, 0, none⟩ = some (.slice bl m d) := by
    refine ⟨_, rfl, ((Below.refl _ _).alloc (Nat.le_refl _) _).alloc (by simp) _, by simp, ?_, ?_⟩
    · rw [cell_of_row _ _ 0 #[.slice al n c] 25 (0, 0) (by rw [heap_old' _ _ _ (by simp), heap_new' _ _ _ rfl])]; rfl
    · rw [cell_of_row _ _ 0 #[.slice bl m d] 25 (0, 0) (by rw [heap_new' _ _ _ (by simp)])]; rfl
  have HB := Lib.hid hb
  have C := Lib.hid (same_any al n c zs bl m d ys W (h.below (Nat.le_refl _) hb) (h'.below (Nat.le_refl _) hb))
  generalize decide (zs = ys) = b at *
  clear hb hz h h'
  go_enter Tryd.func45, Tryd.ntmps45
  go_wp2_with (go_at_call 68; (with_reducible refine C.out.mono ?_); rintro e w' ⟨rfl, ⟨nq, rfl⟩⟩)
  go_ret
  exact ⟨rfl, below_dn HB.out⟩

theorem all_range_nat : ∀ (xs ys : List Nat), xs.length = ys.length → ((List.range xs.length).all fun i => xs.getD i 0 == ys.getD i 0) = (xs == ys)
  | [], [], _ => rfl
  | x :: xs, y :: ys, h => by
    have ih := all_range_nat xs ys (by simpa using h)
    rw [List.length_cons, List.range_succ_eq_map, List.all_cons, List.all_map]
    simp only [List.getD_cons_zero, Function.comp_def, List.getD_cons_succ, ih]
    simp [List.cons_beq_cons]
  | [], _ :: _, h => by simp at h
  | _ :: _, [], h => by simp at h
theorem run_equalIn_nats {P : Program} (w : World) (d : Nat) (t e : TypeId) (n : Nat) (ht : P.underlying t = some (.array n e)) (he : P.underlying e = some (.int .i64)) (hsz : ∀ w, (sizeOf e).run P w = .ok 1 w)
    (xs ys : List Nat) (hx : xs.length = n) (hy : ys.length = n) :
    (Op.equalIn (d + 2) t (.agg (xs.map iV).toArray) (.agg (ys.map iV).toArray)).run P w = .ok (xs == ys) w := by
  rw [← all_range_nat xs ys (hx.trans hy.symm), hx, List.range_eq_range', Op.equalIn]
  simp only [Sem.run_bind, run_underlying ht, Result.andThen_ok, hsz, Std.Legacy.Range.forIn_eq_forIn_range', Std.Legacy.Range.size, Nat.sub_zero, Nat.add_sub_cancel, Nat.div_one]
  have hl : ∀ i ∈ List.range' 0 n 1, i < n := fun i hi => by simpa using (List.mem_range'_1.1 hi).2
  generalize List.range' 0 n 1 = l at hl ⊢
  induction l with
  | nil => simp
  | cons i l ih =>
    have hi : i < n := hl i (by simp)
    have px : (part e (xs.map iV).toArray (i * 1)).run P w = .ok (iV (xs.getD i 0)) w := by
      simp [part, isAgg, run_underlying he, List.getD, List.getElem?_eq_getElem (show i < xs.length by omega)]
    have py : (part e (ys.map iV).toArray (i * 1)).run P w = .ok (iV (ys.getD i 0)) w := by
      simp [part, isAgg, run_underlying he, List.getD, List.getElem?_eq_getElem (show i < ys.length by omega)]
    have pe : (Op.equalIn (d + 1) e (iV (xs.getD i 0)) (iV (ys.getD i 0))).run P w = .ok (xs.getD i 0 == ys.getD i 0) w := by
      rw [run_equalIn_int w d e .i64 .i64 _ _ he]
      congr 1
      rw [Bool.eq_iff_iff]
      simp
      omega
    simp only [List.forIn_cons, Sem.run_bind, px, py, pe, Result.andThen_ok, List.all_cons]
    cases hb : (xs.getD i 0 == ys.getD i 0)
    · simp
    · simp only [Bool.not_true, Bool.false_eq_true, if_false, Sem.run_pure, Result.andThen_ok, Bool.true_and]
      exact ih fun j hj => hl j (by simp [hj])
theorem size_int : ∀ w, (sizeOf 3).run Tryd.prog w = .ok 1 w := fun w => by
  have h : (Tryd.prog.info? 3).map (·.size) = some 1 := by kernel_rfl
  cases hq : Tryd.prog.info? 3 with
  | none => rw [hq] at h; cases h
  | some i =>
    rw [hq] at h
    have hz : i.size = 1 := by simpa using h
    simp [sizeOf, typeInfo, hq, hz, go_sem]
theorem run_eqF (f g : Ar) (w : World) : (Op.equalIn 10000 62 (.agg (FC f)) (.agg (FC g))).run Tryd.prog w = .ok (rowsOf f == rowsOf g) w :=
  run_equalIn_nats w 9998 62 3 24 Tryd.underlying62 Tryd.underlying3 size_int _ _ (rows_len f) (rows_len g)
end Go.Proofs.YtipfafglbkbafaaDoor
