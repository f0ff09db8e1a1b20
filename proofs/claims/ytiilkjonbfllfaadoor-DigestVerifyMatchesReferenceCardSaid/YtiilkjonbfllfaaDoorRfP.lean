/- The reference's proofs and extensions, walked. -/
import Derived.Test.YtiilkjonbfllfaaDoorRfT
import Derived.Deep.AppendLies
namespace Go.Proofs.YtiilkjonbfllfaaDoor
open Go.RowKit
theorem rroot_at (al : Option Addr) (n c : Nat) (l : List ByteArray) (w : World) (hl : Strs w al n l) (hn : n ≤ 1000) (hnc : n ≤ c) (hc : c ≤ maxLen) (hls : ∀ s ∈ l, s.size ≤ 400000) (hT : Tab w) :
    Calls Tryd.prog 28 #[.slice al n c] w fun e w' => e = .returned (.string (root l)) ∧ Below w.heap.size w w' := by
  rcases hl.2 with h0 | ⟨g, o, h1, _, h2⟩
  · exact rroot_any n l 0 0 n c al w (Nat.le_refl _) hl.1 hn hnc hc hls hT (.inl h0)
  · exact rroot_any n l g o n c al w (Nat.le_refl _) hl.1 hn hnc hc hls hT (.inr ⟨h1, h2⟩)
theorem strown_snoc {w w' : World} {q : List ByteArray} {r : ByteArray} {v : Value} {n : Nat} (hn : q.length = n) (h : w'.ownsRow w.heap.size 9 1 v (n + 1) (q.map Value.string ++ [Value.string r])) (hb : Below w.heap.size w w') : StrOwn w (q ++ [r]) v w' := by
  subst hn
  obtain ⟨al, c, rfl, h1, h2⟩ := own_form h
  refine ⟨al, c, ?_, ?_, h2, ?_, hb⟩
  · simp
  · simpa using h1
  · simpa using h
theorem prfS_one (l : List ByteArray) (i : Nat) (h : l.length ≤ 1) : prfS l i = [] := by unfold prfS; rw [proofR_one l i h]; rfl
theorem prfS_left (l : List ByteArray) (i : Nat) (h : 2 ≤ l.length) (hi : i < half l.length) : prfS l i = prfS (l.take (half l.length)) i ++ [root (l.drop (half l.length))] := by
  unfold prfS; rw [proofR_left l i h hi, List.reverse_cons]
theorem prfS_right (l : List ByteArray) (i : Nat) (h : 2 ≤ l.length) (hi : ¬ i < half l.length) : prfS l i = prfS (l.drop (half l.length)) (i - half l.length) ++ [root (l.take (half l.length))] := by
  unfold prfS; rw [proofR_right l i h hi, List.reverse_cons]

set_option maxRecDepth 100000 in
set_option maxHeartbeats 4000000 in
theorem rproof_any (k : Nat) : ∀ (l : List ByteArray) (al : Option Addr) (n c : Nat) (w : World) (i : Nat), n ≤ k → n ≤ 1000 → n ≤ c → c ≤ maxLen → Strs w al n l → (∀ s ∈ l, s.size ≤ 400000) → Tab w → i < n →
    Calls Tryd.prog 23 #[.slice al n c, .int .i64 i] w fun e w' => ∃ v, e = .returned (.tuple #[v, .int .i64 0]) ∧ StrOwn w (prfS l i) v w' := by
  induction k with
  | zero => intro l al n c w i hk _ _ _ _ _ _ hi; omega
  | succ k ih =>
    intro l al n c w i hk hn hnc hc hst hls hT hi
    have hii : (i : Int) < n := by omega
    by_cases h1 : n = 1
    · subst h1
      rw [prfS_one l i (by rw [hst.1]; exact Nat.le_refl _)]
      clear ih hst hls
      go_enter Tryd.func23, Tryd.ntmps23
      go_wp2
      go_ret2
      exact ⟨_, rfl, strown_nil w⟩
    · have h2 : 2 ≤ n := by omega
      have hne : ((n : Int) == 1) = false := by rw [beq_eq_false_iff_ne]; omega
      have hlen := hst.1
      obtain ⟨g, o, rfl, hg, hcs⟩ := strs_out hst (show 0 < n by omega)
      have hlt := half_lt h2
      have hp := half_pos n
      have PL := Lib.hid (fun hh => prfS_left l i (by omega) hh)
      have PR := Lib.hid (fun hh => prfS_right l i (by omega) hh)
      rw [hlen] at PL PR
      obtain ⟨h, hh⟩ : ∃ h, half n = h := ⟨_, rfl⟩
      rw [hh] at hlt hp PL PR
      have hT0 : 0 < w.heap.size := hT.1
      have HT := Lib.hid hT; have HST := Lib.hid hst; have HLS := Lib.hid hls; have HLEN := Lib.hid hlen; have HH := Lib.hid hh
      have e1 := run_cut_to (P := Tryd.prog) 26 9 1 Tryd.underlying26 (by kernel_rfl) (some ⟨g, o, none⟩) n c h (by omega)
      have e2 := run_cut_from (P := Tryd.prog) 26 9 1 Tryd.underlying26 (by kernel_rfl) g o n c h (by omega) (by omega)
      have S1 := Lib.hid (hst.take (k := h) (by omega))
      have S2 := Lib.hid (strs_drop hst (k := h) (by omega))
      rw [Nat.mul_one] at e2 S2
      have R1 := Lib.hid (fun W (hW : Below w.heap.size w W) => rroot_at (some ⟨g, o, none⟩) h c (l.take h) W (S1.out.below hW) (by omega) (by omega) hc (fun s hs => HLS.out s (List.mem_of_mem_take hs)) (HT.out.below hW hT0))
      have R2 := Lib.hid (fun W (hW : Below w.heap.size w W) => rroot_at (some ⟨g, o + h, none⟩) (n - h) (c - h) (l.drop h) W (S2.out.below hW) (by omega) (by omega) (by omega) (fun s hs => HLS.out s (List.mem_of_mem_drop hs)) (HT.out.below hW hT0))
      clear hcs hst hls hlen hh hT
      by_cases hk2 : i < h
      · have IH := Lib.hid (ih (l.take h) (some ⟨g, o, none⟩) h c w i (by omega) (by omega) (by omega) hc S1.out (fun s hs => HLS.out s (List.mem_of_mem_take hs)) HT.out hk2)
        have PE := Lib.hid (PL.out hk2)
        have hpl : (prfS (l.take h) i).length ≤ 1000 := Nat.le_trans (prf_len _ _) (Nat.le_trans (digits_le _) (by rw [List.length_take]; omega))
        have hki : (i : Int) < h := by omega
        clear ih PL PR
        generalize prfS (l.take h) i = q at *
        go_enter Tryd.func23, Tryd.ntmps23
        go_wp2_with fail
        refine (rleft_any n h2 (by omega) _).mono ?_
        rw [HH.out]
        rintro e w1 ⟨rfl, rfl⟩
        go_wp2_with fail
        refine IH.out.mono ?_
        rintro e w1 ⟨v, rfl, al1, c1, rfl, hlc, hcm, hown, hb1⟩
        go_wp2_with fail
        refine (R2.out _ hb1).mono ?_
        rintro e w2 ⟨rfl, hb2⟩
        have hown2 := own_below hown hb2
        have hb12 := hb1.trans (hb2.mono hb1.size)
        clear hown hb1 hb2
        obtain ⟨i0, hi0, hz0, hz1, hz2⟩ := info_parts info9
        go_wp2_with (at_builtin; refine wpList_append_lit (by rfl) _ _ 26 9 (by rfl) Tryd.underlying26 hi0 hz0 hz1 hz2 rfl w.heap.size _ q.length _ (by rfl) hown2 _ 1 (by rfl) (by simp [Value.oneCell']) (by simp; omega) (by decide) hb12.size hb12 ?_; intro v5 w5 hown5 hb5)
        go_ret2
        exact ⟨_, rfl, by rw [PE.out]; exact strown_snoc rfl hown5 hb5⟩
      · have IH := Lib.hid (ih (l.drop h) (some ⟨g, o + h, none⟩) (n - h) (c - h) w (i - h) (by omega) (by omega) (by omega) (by omega) S2.out (fun s hs => HLS.out s (List.mem_of_mem_drop hs)) HT.out (by omega))
        have PE := Lib.hid (PR.out hk2)
        have hpl : (prfS (l.drop h) (i - h)).length ≤ 1000 := Nat.le_trans (prf_len _ _) (Nat.le_trans (digits_le _) (by rw [List.length_drop, HLEN.out]; omega))
        have hki : (h : Int) ≤ i := by omega
        rw [show ((i - h : Nat) : Int) = (i : Int) - h by omega] at IH
        clear ih PL PR
        generalize prfS (l.drop h) (i - h) = q at *
        go_enter Tryd.func23, Tryd.ntmps23
        go_wp2_with fail
        refine (rleft_any n h2 (by omega) _).mono ?_
        rw [HH.out]
        rintro e w1 ⟨rfl, rfl⟩
        go_wp2_with fail
        refine IH.out.mono ?_
        rintro e w1 ⟨v, rfl, al1, c1, rfl, hlc, hcm, hown, hb1⟩
        go_wp2_with fail
        refine (R1.out _ hb1).mono ?_
        rintro e w2 ⟨rfl, hb2⟩
        have hown2 := own_below hown hb2
        have hb12 := hb1.trans (hb2.mono hb1.size)
        clear hown hb1 hb2
        obtain ⟨i0, hi0, hz0, hz1, hz2⟩ := info_parts info9
        go_wp2_with (at_builtin; refine wpList_append_lit (by rfl) _ _ 26 9 (by rfl) Tryd.underlying26 hi0 hz0 hz1 hz2 rfl w.heap.size _ q.length _ (by rfl) hown2 _ 1 (by rfl) (by simp [Value.oneCell']) (by simp; omega) (by decide) hb12.size hb12 ?_; intro v5 w5 hown5 hb5)
        go_ret2
        exact ⟨_, rfl, by rw [PE.out]; exact strown_snoc rfl hown5 hb5⟩

section
variable {P : Program} {w1 w0 : World} {ops : Array Oper} {rest : List Oper} {o : Oper} {a : Act} {Q : Exit → Act → World → Prop}
theorem step_append_lit0 {K : Act → World → Prop} {E : Prop} (hgd : o.guard = none) (s x : Operand) (t e : TypeId)
    (ho : o.op = .call { callee := .builtin .append, args := #[s, x], argTypes := #[t, t] })
    {i0 : TypeInfo} {z : Value} {bytes : Nat} (hu : P.underlying t = some (.slice e)) (hi : P.info? e = some i0) (hz0 : i0.zero = some z) (hz1 : i0.size = 1) (hz2 : i0.bytes = bytes) (hzc : z.cells.size = 1)
    (B : Nat) (v : Value) (n : Nat) (xs : List Value) (hs : a.eval s = v) (hown : w1.ownsRow B e 1 v n xs)
    (cs : Array Value) (c : Nat) (hx : a.eval x = .slice (some ⟨w1.heap.size, 0, none⟩) cs.size c) (h1 : ∀ u ∈ cs.toList, u.oneCell' = true) (h0 : 0 < cs.size)
    (hnm : n + cs.size ≤ 10000000) (hby : bytes ≤ 16) (hB : B ≤ w1.heap.size) (hb : Below B w0 w1)
    (h : ∀ g cap w', w'.ownsRow B e 1 (.slice (some ⟨g, 0, none⟩) (n + cs.size) cap) (n + cs.size) (xs ++ cs.toList) → Below B w0 w' → (v.ownBlock = some g ∨ g = w1.heap.size + 1) → g < w'.heap.size → K (a.put o.dst (.slice (some ⟨g, 0, none⟩) (n + cs.size) cap)) w') :
    if Region.wanted o (yielded ops a.tmps) = true then Oper.wp P o a (w1.alloc (.cells cs e)) K Q else E := by
  have h16 : (n + cs.size) * bytes ≤ 10000000 * 16 := Nat.mul_le_mul hnm hby
  have hB2 : B ≤ (w1.alloc (.cells cs e)).heap.size := by simp; omega
  refine step_append_lies _ hgd s x t ho B e i0 z 1 bytes hu hi hz0 hz1 hz2 hzc (by decide) v n xs hs (hown.alloc _) ⟨w1.heap.size, 0, none⟩ cs.size c cs.toList hx (by simp) (World.news_of_block (heap_alloc_new w1 _)) h1 h0 (by unfold maxLen; omega) (by omega) hB2 (w1.heap.size + 1) (by simp) ?_
  intro g cap w' ho' hg hat hlt
  exact h g cap w' ho' ((hb.alloc hB _).grown hg hB2 (lit_lt hown)) hat hlt
end

def ptS (l : List ByteArray) (m : Nat) (b : Bool) : List ByteArray := (partR l m b).reverse
theorem ptS_all (l : List ByteArray) (m : Nat) (b : Bool) (h : 1 ≤ m) (hm : m = l.length) : ptS l m b = if b then [] else [root l] := by
  unfold ptS; rw [partR_all l m b h hm]; cases b <;> rfl
theorem ptS_left (l : List ByteArray) (m : Nat) (b : Bool) (h : 1 ≤ m) (hm : m < l.length) (hk : m ≤ half l.length) : ptS l m b = ptS (l.take (half l.length)) m b ++ [root (l.drop (half l.length))] := by
  unfold ptS; rw [partR_left l m b h hm hk, List.reverse_cons]
theorem ptS_right (l : List ByteArray) (m : Nat) (b : Bool) (hm : m < l.length) (hk : ¬ m ≤ half l.length) : ptS l m b = ptS (l.drop (half l.length)) (m - half l.length) false ++ [root (l.take (half l.length))] := by
  unfold ptS; rw [partR_right l m b hm hk, List.reverse_cons]
theorem ptS_len (l : List ByteArray) (m : Nat) (b : Bool) (h : 1 ≤ m) (hm : m ≤ l.length) : (ptS l m b).length ≤ l.length + 1 := by
  unfold ptS
  rw [List.length_reverse]
  exact Nat.le_trans (partR_len (digits l.length) l m b (digits_pow _) h hm) (Nat.succ_le_succ (digits_le _))

set_option maxRecDepth 100000 in
set_option maxHeartbeats 4000000 in
theorem rpart_any (k : Nat) : ∀ (l : List ByteArray) (al : Option Addr) (n c : Nat) (w : World) (m : Nat) (b : Bool), n ≤ k → n ≤ 1000 → n ≤ c → c ≤ maxLen → Strs w al n l → (∀ s ∈ l, s.size ≤ 400000) → Tab w → 1 ≤ m → m ≤ n →
    Calls Tryd.prog 48 #[.slice al n c, .int .i64 m, .bool b] w fun e w' => ∃ v, e = .returned v ∧ StrOwn w (ptS l m b) v w' := by
  induction k with
  | zero => intro l al n c w m b hk _ _ _ _ _ _ h1 h2; omega
  | succ k ih =>
    intro l al n c w m b hk hn hnc hc hst hls hT hm1 hmn
    by_cases h1 : m = n
    · subst h1
      rw [ptS_all l m b hm1 hst.1.symm]
      clear ih
      cases b with
      | true =>
        clear hst hls
        go_enter Tryd.func48, Tryd.ntmps48
        go_wp2
        go_ret
        exact ⟨_, rfl, strown_nil w⟩
      | false =>
        have FR := Lib.hid (rroot_at al m c l w hst hn hnc hc hls hT)
        clear hst hls
        go_enter Tryd.func48, Tryd.ntmps48
        go_wp2_with fail
        refine FR.out.mono ?_
        rintro e w1 ⟨rfl, hb1⟩
        have HO := Lib.hid (pre_own hb1 (root l))
        clear hb1
        go_wp2_with fail
        go_ret
        exact ⟨_, rfl, _, 1, rfl, Nat.le_refl _, by decide, HO.out.1, HO.out.2.1⟩
    · have h2 : 2 ≤ n := by omega
      have hlt0 : m < n := by omega
      have hne : ((m : Int) == n) = false := by rw [beq_eq_false_iff_ne]; omega
      have hlen := hst.1
      obtain ⟨g, o, rfl, hg, hcs⟩ := strs_out hst (show 0 < n by omega)
      have hlt := half_lt h2
      have hp := half_pos n
      have PL := Lib.hid (fun hh => ptS_left l m b hm1 (by omega) hh)
      have PR := Lib.hid (fun hh => ptS_right l m b (by omega) hh)
      rw [hlen] at PL PR
      obtain ⟨h, hh⟩ : ∃ h, half n = h := ⟨_, rfl⟩
      rw [hh] at hlt hp PL PR
      have hT0 : 0 < w.heap.size := hT.1
      have HT := Lib.hid hT; have HST := Lib.hid hst; have HLS := Lib.hid hls; have HLEN := Lib.hid hlen; have HH := Lib.hid hh
      have e1 := run_cut_to (P := Tryd.prog) 26 9 1 Tryd.underlying26 (by kernel_rfl) (some ⟨g, o, none⟩) n c h (by omega)
      have e2 := run_cut_from (P := Tryd.prog) 26 9 1 Tryd.underlying26 (by kernel_rfl) g o n c h (by omega) (by omega)
      have S1 := Lib.hid (hst.take (k := h) (by omega))
      have S2 := Lib.hid (strs_drop hst (k := h) (by omega))
      rw [Nat.mul_one] at e2 S2
      have R1 := Lib.hid (fun W (hW : Below w.heap.size w W) => rroot_at (some ⟨g, o, none⟩) h c (l.take h) W (S1.out.below hW) (by omega) (by omega) hc (fun s hs => HLS.out s (List.mem_of_mem_take hs)) (HT.out.below hW hT0))
      have R2 := Lib.hid (fun W (hW : Below w.heap.size w W) => rroot_at (some ⟨g, o + h, none⟩) (n - h) (c - h) (l.drop h) W (S2.out.below hW) (by omega) (by omega) (by omega) (fun s hs => HLS.out s (List.mem_of_mem_drop hs)) (HT.out.below hW hT0))
      obtain ⟨i0, hi0, hz0, hz1, hz2⟩ := info_parts info9
      clear hcs hst hls hlen hh hT
      by_cases hk2 : m ≤ h
      · have IH := Lib.hid (fun W (hW : Below w.heap.size w W) => ih (l.take h) (some ⟨g, o, none⟩) h c W m b (by omega) (by omega) (by omega) hc (S1.out.below hW) (fun s hs => HLS.out s (List.mem_of_mem_take hs)) (HT.out.below hW hT0) hm1 hk2)
        have PE := Lib.hid (PL.out hk2)
        have hpl : (ptS (l.take h) m b).length ≤ 2000 := Nat.le_trans (ptS_len _ _ _ hm1 (by rw [List.length_take, HLEN.out]; omega)) (by rw [List.length_take]; omega)
        have hki : (m : Int) ≤ h := by omega
        clear ih PL PR
        generalize ptS (l.take h) m b = q at *
        have HB0 := Lib.hid ((Below.refl w.heap.size w).drew)
        go_enter Tryd.func48, Tryd.ntmps48
        go_wp2_with fail
        refine (rleft_any n h2 (by omega) _).mono ?_
        rw [HH.out]
        rintro e w1 ⟨rfl, rfl⟩
        go_wp2_with fail
        go_region_law (first
          | (refine step_append_lit0 (by rfl) _ _ 26 9 (by rfl) Tryd.underlying26 hi0 hz0 hz1 hz2 rfl w.heap.size _ q.length _ (by rfl) hown2 _ 1 (by rfl) (by simp [Value.oneCell']) (by simp) (by simp; omega) (by decide) hb2.size hb2 ?_; intro gg cap w5 hown5 hb5 hat hlt5)
          | (go_simp; go_at_call 48; (with_reducible refine (IH.out _ HB0.out).mono ?_); rintro e w1 ⟨v, rfl, al1, c1, rfl, hlc, hcm, hown1, hb1⟩; have hb1 := HB0.out.trans hb1)
          | (go_simp; go_at_call 28; (with_reducible refine (R2.out _ hb1).mono ?_); rintro e w2 ⟨rfl, hb2'⟩; have hown2 := own_below hown1 hb2'; have hb2 := hb1.trans (hb2'.mono hb1.size)))
        all_goals go_wp2_with fail
        all_goals go_ret
        all_goals exact ⟨_, rfl, by rw [PE.out]; exact strown_snoc rfl hown5 hb5⟩
      · have IH := Lib.hid (fun W (hW : Below w.heap.size w W) => ih (l.drop h) (some ⟨g, o + h, none⟩) (n - h) (c - h) W (m - h) false (by omega) (by omega) (by omega) (by omega) (S2.out.below hW) (fun s hs => HLS.out s (List.mem_of_mem_drop hs)) (HT.out.below hW hT0) (by omega) (by omega))
        have PE := Lib.hid (PR.out hk2)
        have hpl : (ptS (l.drop h) (m - h) false).length ≤ 2000 := Nat.le_trans (ptS_len _ _ _ (by omega) (by rw [List.length_drop, HLEN.out]; omega)) (by rw [List.length_drop, HLEN.out]; omega)
        have hki : (h : Int) < m := by omega
        have hwr : IntKind.i64.wrap ((m : Int) - h) = (m : Int) - h := IntWalk.i64_in _ ⟨by omega, by omega⟩
        rw [show ((m - h : Nat) : Int) = (m : Int) - h by omega] at IH
        clear ih PL PR
        generalize ptS (l.drop h) (m - h) false = q at *
        have HB0 := Lib.hid ((Below.refl w.heap.size w).drew)
        go_enter Tryd.func48, Tryd.ntmps48
        go_wp2_with fail
        refine (rleft_any n h2 (by omega) _).mono ?_
        rw [HH.out]
        rintro e w1 ⟨rfl, rfl⟩
        go_wp2_with fail
        go_region_law (first
          | (refine step_append_lit0 (by rfl) _ _ 26 9 (by rfl) Tryd.underlying26 hi0 hz0 hz1 hz2 rfl w.heap.size _ q.length _ (by rfl) hown2 _ 1 (by rfl) (by simp [Value.oneCell']) (by simp) (by simp; omega) (by decide) hb2.size hb2 ?_; intro gg cap w5 hown5 hb5 hat hlt5)
          | (go_simp; go_at_call 48; (with_reducible refine (IH.out _ HB0.out).mono ?_); rintro e w1 ⟨v, rfl, al1, c1, rfl, hlc, hcm, hown1, hb1⟩; have hb1 := HB0.out.trans hb1)
          | (go_simp; go_at_call 28; (with_reducible refine (R1.out _ hb1).mono ?_); rintro e w2 ⟨rfl, hb2'⟩; have hown2 := own_below hown1 hb2'; have hb2 := hb1.trans (hb2'.mono hb1.size)))
        all_goals go_wp2_with fail
        all_goals go_ret
        all_goals exact ⟨_, rfl, by rw [PE.out]; exact strown_snoc rfl hown5 hb5⟩
end Go.Proofs.YtiilkjonbfllfaaDoor
