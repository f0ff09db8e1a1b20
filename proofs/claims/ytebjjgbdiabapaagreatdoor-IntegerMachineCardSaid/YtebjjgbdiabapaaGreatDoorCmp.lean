/- compare, walked. -/
import Derived.Test.YtebjjgbdiabapaaGreatDoorAbv
namespace Go.Proofs.YtebjjgbdiabapaaGreatDoor
open Go.RowKit Go.Shelf
attribute [local go_sem] Oper.semAt_some

theorem compareInt_any (x y : Int) (w : World) :
    Calls Tryz.prog 77 #[.int .i64 x, .int .i64 y] w fun e w' => e = .returned (.int .i64 (cmpZ x y)) ∧ w' = w := by
  rcases Int.lt_trichotomy x y with h | h | h
  · have e : cmpZ x y = -1 := by unfold cmpZ; rw [if_pos h]
    rw [e]
    go_enter Tryz.func77, Tryz.ntmps77
    go_wp2
    go_ret
    exact ⟨rfl, rfl⟩
  · subst h
    have e : cmpZ x x = 0 := by unfold cmpZ; rw [if_neg (by omega), if_neg (by omega)]
    rw [e]
    go_enter Tryz.func77, Tryz.ntmps77
    go_wp2
    go_ret
    exact ⟨rfl, rfl⟩
  · have e : cmpZ x y = 1 := by unfold cmpZ; rw [if_neg (by omega), if_pos h]
    rw [e]
    have h2 : ¬ x < y := by omega
    go_enter Tryz.func77, Tryz.ntmps77
    go_wp2
    go_ret
    exact ⟨rfl, rfl⟩

theorem dn_prefix {N : Nat} : ∀ (i : Nat) (h : i ≤ N) (pre : List (Fin N)) (x : Fin N), pre ++ [x] <+: dn i h → x.val < i ∧ ∀ j : Fin N, x.val < j.val → j.val < i → j ∈ pre
  | 0, _, pre, x, hp => by
    have := hp.length_le
    simp [dn] at this
  | i + 1, h, [], x, hp => by
    rw [dn, List.nil_append, List.cons_prefix_cons] at hp
    obtain ⟨rfl, _⟩ := hp
    exact ⟨Nat.lt_succ_self _, fun j h1 h2 => absurd (show i < j.val from h1) (by omega)⟩
  | i + 1, h, p :: pre, x, hp => by
    rw [dn, List.cons_append, List.cons_prefix_cons] at hp
    obtain ⟨rfl, hp⟩ := hp
    obtain ⟨h1, h2⟩ := dn_prefix i (Nat.le_of_succ_le h) pre x hp
    refine ⟨by omega, fun j h3 h4 => ?_⟩
    rcases Nat.lt_or_ge j.val i with h5 | h5
    · exact List.mem_cons_of_mem _ (h2 j h3 h5)
    · have : j = ⟨i, h⟩ := Fin.ext (show j.val = i by omega)
      rw [this]; exact List.mem_cons_self ..
theorem mem_dn {N : Nat} : ∀ (i : Nat) (h : i ≤ N) (j : Fin N), j.val < i → j ∈ dn i h
  | 0, _, j, hj => by omega
  | i + 1, h, j, hj => by
    rw [dn]
    rcases Nat.lt_or_ge j.val i with h5 | h5
    · exact List.mem_cons_of_mem _ (mem_dn i _ j h5)
    · have : j = ⟨i, h⟩ := Fin.ext (show j.val = i by omega)
      rw [this]; exact List.mem_cons_self ..

theorem cmp_found (a b : Nat) (hl : (dz 10000 a).length = (dz 10000 b).length) (pre : List (Fin (dz 10000 a).length)) (x : Fin (dz 10000 a).length) (hp : pre ++ [x] <+: dn (dz 10000 a).length (Nat.le_refl _))
    (heq : ∀ i ∈ pre, (dz 10000 a)[i.val]?.getD 0 = (dz 10000 b)[i.val]?.getD 0) (hne : (dz 10000 a)[x.val]?.getD 0 ≠ (dz 10000 b)[x.val]?.getD 0) :
    cmpZ ((dz 10000 a)[x.val]?.getD 0) ((dz 10000 b)[x.val]?.getD 0) = cmpN a b := by
  obtain ⟨h1, h2⟩ := dn_prefix _ _ pre x hp
  rw [cmpN_digit 10000 (by decide) a b x.val hl x.isLt hne (fun j hj => by
    by_cases h : j < (dz 10000 a).length
    · exact heq _ (h2 ⟨j, h⟩ hj h)
    · rw [List.getElem?_eq_none (l := dz 10000 a) (by omega), List.getElem?_eq_none (l := dz 10000 b) (by omega)])]
  unfold cmpZ
  split
  · rfl
  · rw [if_pos (by omega)]
theorem cmp_none (a b : Nat) (hl : (dz 10000 a).length = (dz 10000 b).length)
    (heq : ∀ i ∈ dn (dz 10000 a).length (Nat.le_refl _), (dz 10000 a)[i.val]?.getD 0 = (dz 10000 b)[i.val]?.getD 0) : cmpN a b = 0 := by
  refine cmpN_same 10000 (by decide) a b hl fun j => ?_
  by_cases h : j < (dz 10000 a).length
  · exact heq _ (mem_dn _ _ ⟨j, h⟩ h)
  · rw [List.getElem?_eq_none (l := dz 10000 a) (by omega), List.getElem?_eq_none (l := dz 10000 b) (by omega)]

def IntOut (w : World) (z : Int) (e : Ending) (w' : World) : Prop := e = .returned (.int .i64 z) ∧ Below w.heap.size w w'

/-- What the loop leaves behind when it has found two groups that differ. -/
def CmpFound (B : Nat) (w : World) (xs ys : List Int) (c : Code) (pre : List (Fin xs.length)) (W : World) : Prop :=
  (c = .ret ∧ ∃ pre' x, pre = pre' ++ [x] ∧ (∀ i ∈ pre', xs[i.val]?.getD 0 = ys[i.val]?.getD 0) ∧ xs[x.val]?.getD 0 ≠ ys[x.val]?.getD 0 ∧ Boxed W (B + 1) 3 (.int .i64 (cmpZ (xs[x.val]?.getD 0) (ys[x.val]?.getD 0)))) ∧ Below B w W
theorem cmpFound_own (B : Nat) (w : World) (xs ys : List Int) (hB : B ≤ w.heap.size) (B' : Nat) (hB' : B ≤ B') (c : Code) : OwnFrom B' (CmpFound B w xs ys c) := by
  rintro s X Y row ⟨⟨h1, pre', x, h2, h3, h4, h5⟩, h6⟩ hg hr
  refine ⟨⟨h1, pre', x, h2, h3, h4, (boxed_own (β := Unit) (B + 1) 3 (fun _ => .int .i64 (cmpZ (xs[x.val]?.getD 0) (ys[x.val]?.getD 0)))) () X Y row h5 hg (fun r e => (hr r e).2)⟩, ?_⟩
  exact ownFrom_below (β := Unit) hB hB' () X Y row h6 hg hr

set_option maxRecDepth 100000 in
set_option maxHeartbeats 2000000 in
theorem compare_nt (w : World) (v1 v2 : Value) (a b : Nat) (h1 : Nt w v1 a) (h2 : Nt w v2 b) (hlen : (dz 10000 a).length ≤ 20000) (hlen2 : (dz 10000 b).length ≤ 20000) :
    Calls Tryz.prog 57 #[v1, v2] w (IntOut w (cmpN a b)) := by
  unfold Nt at h1 h2
  have HCF := Lib.hid (cmp_found a b)
  have HCN := Lib.hid (cmp_none a b)
  have HCL := Lib.hid (cmpN_len 10000 (by decide) a b)
  generalize dz 10000 a = xs at *
  generalize dz 10000 b = ys at *
  generalize cmpN a b = z at *
  obtain ⟨al1, c1, rfl, hc1⟩ := h1.shape
  obtain ⟨al2, c2, rfl, hc2⟩ := h2.shape
  obtain ⟨N, hNe⟩ : ∃ N, xs.length = N := ⟨_, rfl⟩
  obtain ⟨M, hMe⟩ : ∃ M, ys.length = M := ⟨_, rfl⟩
  have HN := Lib.hid hNe; have HM := Lib.hid hMe
  rw [hNe] at hc1 hlen ⊢
  rw [hMe] at hc2 hlen2 ⊢
  have h1' := h1; have h2' := h2
  rw [hNe] at h1'; rw [hMe] at h2'
  have HL1 := Lib.hid h1'; have HL2 := Lib.hid h2'
  clear h1 h2 h1' h2' hNe hMe
  by_cases hNM : N = M
  · subst hNM
    refine (callsIn_wide (n := 3)).1 ?_
    have bY := Boxed.new w 47 (.slice al2 N c2)
    have bR := Boxed.new (w.alloc (.cells #[.slice al2 N c2] 47)) 3 (.int .i64 0)
    have bS := Boxed.new ((w.alloc (.cells #[.slice al2 N c2] 47)).alloc (.cells #[.int .i64 0] 3)) 47 (.slice al1 N c1)
    rw [World.size_alloc] at bR bS
    rw [World.size_alloc] at bS
    have hB0 : Below w.heap.size w (((w.alloc (.cells #[.slice al2 N c2] 47)).alloc (.cells #[.int .i64 0] 3)).alloc (.cells #[.slice al1 N c1] 47)) := (((Below.refl _ w).alloc (Nat.le_refl _) _).alloc (by simp) _).alloc (by simp; omega) _
    have hls0 := Lib.hid (HL1.out.below (Nat.le_refl _) hB0)
    have hblk : blkOf (w.heap.size + 2) (.slice al1 N c1) ≠ w.heap.size + 1 := by
      rcases HL1.out with ⟨h1, _⟩ | ⟨b, o, c2, h1, _, hlt2, _⟩
      · rw [h1]; simp [blkOf]
      · rw [h1]; simp [blkOf]; omega
    refine callsIn_of_wp_marks Tryz.func57 rfl trivial ?_ rfl
    simp only [Tryz.ntmps57, List.size_toArray, List.length_cons, List.length_nil, Nat.reduceAdd, Nat.reduceSub, Array.replicate_succ, Array.replicate_zero, List.push_toArray, List.append_toArray, List.nil_append, List.cons_append]
    gi_wp2_with (refine ⟨trivial, ?_⟩; gi_at_call 62; refine (backward_in Fence.wide _ trivial rfl _ _ _ _ rfl _).mono ?_; rintro e w' ⟨rfl, rfl⟩)
    refine wpIn_rangeFunc_ownG rfl (by decide) (gf := 83) (lb := #[.pointer (some ⟨w.heap.size + 2, 0, none⟩)]) rfl trivial (enters_of Tryz.func83 (by kernel_rfl) rfl)
      (backward_stops Fence.wide _ trivial rfl (by decide) (w.heap.size + 2) _ xs (by rw [HN.out]; omega) _ bS.cell hls0.out) kq_t (kq_b (by simp) (by have := blk_lt hls0.out (Bs := w.heap.size + 2) (by simp); exact this)) (Below.refl _ _) (fun _ => rfl)
      (fun pre W => (Boxed W w.heap.size 47 (.slice al2 N c2) ∧ Boxed W (w.heap.size + 1) 3 (.int .i64 0) ∧ (∀ i ∈ pre, xs[i.val]?.getD 0 = ys[i.val]?.getD 0)) ∧ Below w.heap.size w W)
      (fun c pre W => CmpFound w.heap.size w xs ys c pre W)
      (OwnFrom.and (OwnFrom.and (Own.from (boxed_own w.heap.size 47 (fun _ => .slice al2 N c2)) _) (OwnFrom.and (Own.from (boxed_own (w.heap.size + 1) 3 (fun _ => .int .i64 0)) _) (ownFrom_pure _ _))) (ownFrom_below (Nat.le_refl _) (by simp; omega)))
      (fun c => cmpFound_own _ _ _ _ (Nat.le_refl _) _ (by simp; omega) c)
      ⟨⟨(bY.alloc _).alloc _, bR.alloc _, by simp⟩, hB0⟩
      ?a1 ?assign ?body ?done ?stop
    case assign =>
      intro l x W K hK
      gi_wp2
      exact hK
    case body =>
      rintro l pre x W ⟨⟨hy, hr, heq⟩, hB⟩ hlt'
      have hcy := hy.cell; have hcr := hr.cell; have hfr := hr.frozen
      have hxN : x.val < N := by have := x.isLt; have h9 := HN.out; omega
      have hyc := HL2.out
      rcases hyc with ⟨h1, h2⟩ | ⟨b2, o2, c2', h1, hc2', hlt2, hcell2⟩
      · exfalso; have := HM.out; rw [h2] at this; simp at this; omega
      simp only [Value.slice.injEq] at h1
      obtain ⟨rfl, -, rfl⟩ := h1
      have hcx := (hB.cell (p := ⟨b2, o2 + x.val, none⟩) hlt2).trans (hcell2 x.val (by rw [HM.out]; exact hxN))
      have HEQ := Lib.hid heq; have HB := Lib.hid hB; have HY := Lib.hid hy; have HR := Lib.hid hr
      clear heq hB hcell2 hlt' hy hr
      obtain ⟨p, hp⟩ : ∃ p, xs[x.val] = p := ⟨_, rfl⟩
      obtain ⟨q, hq⟩ : ∃ q, ys[x.val]?.getD 0 = q := ⟨_, rfl⟩
      have hp0 : Hid (xs[x.val]?.getD 0 = p) := by rw [List.getElem?_eq_getElem x.isLt]; exact hp
      have hq0 := Lib.hid hq
      rw [hq] at hcx
      clear hq
      have hxr : Hid (∀ p, xs[x.val] = p → xs[x.val]?.getD 0 = p) := fun p hp => by rw [List.getElem?_eq_getElem x.isLt]; exact hp
      by_cases hpq : p = q
      · subst hpq
        have hne : (p != p) = false := by simp
        gi_wp2
        refine ⟨KeepsFrom.refl _ _, Kq.refl _ _ _, ⟨HY.out, HR.out, fun i hi => ?_⟩, HB.out⟩
        rw [List.mem_append, List.mem_singleton] at hi
        rcases hi with hi | rfl
        · exact HEQ.out i hi
        · rw [hp0.out, hq0.out]
      · have hne : (p != q) = true := by simpa using hpq
        gi_wp2_with (refine ⟨trivial, ?_⟩; gi_at_call 77; refine (CallsIn.inRound l (callsIn_wide.2 (compareInt_any _ _ _))).mono ?_; rintro e w' ⟨rfl, rfl⟩)
        refine ⟨(KeepsOthers.setCell _ _ _).from _, ⟨rfl, pre, x, rfl, HEQ.out, by rw [hp0.out, hq0.out]; exact hpq, ?_⟩, HB.out.setCell (by simp) _⟩
        rw [hp0.out, hq0.out]
        exact HR.out.set _
    case done =>
      rintro D ys' W hD hys ⟨⟨hy, hr, heq⟩, hB⟩ hK
      have hcr := hr.cell; have hfr := hr.frozen
      have hz := Lib.hid (HCN.out (by rw [HN.out, HM.out]) (by rw [← hys]; exact heq))
      clear hys heq
      gi_wp2
      have hK' := (KeepsOthers.setCell W ⟨w.heap.size + 1, 0, none⟩ (.int .i64 0)).same D _ hK rfl
      refine ⟨by simp, .inl ⟨_, _, rfl, run_takeDeferred hK', ?_⟩⟩
      have hc5 := cell_kept (World.cell?_setCell_same' W ⟨w.heap.size + 1, 0, none⟩ (.int .i64 0) (by rw [hcr]; rfl)) (grownBy_putObj' _ D (.deferred none)) (fun r e => by cases e; exact ⟨_, hK', rfl⟩)
      refine ⟨.int .i64 0, ?_, by rw [hz.out], (hB.setCell (p := ⟨w.heap.size + 1, 0, none⟩) (by simp) _).trans (belowK_b (w := w) (Nat.le_refl _) _ D _ _ (by simp at hD; omega) hK' rfl rfl)⟩
      simp [results, Tryz.f57, go_sem, hc5]
    case stop =>
      rintro D c pre W hD hpre ⟨⟨rfl, pre', x, rfl, heq, hne, hr⟩, hB⟩ hK
      have hcr := hr.cell
      gi_wp2
      refine ⟨by simp, .inl ⟨_, _, rfl, run_takeDeferred hK, ?_⟩⟩
      have hc5 := cell_kept hcr (grownBy_putObj' _ D (.deferred none)) (fun r e => by cases e; exact ⟨_, hK, rfl⟩)
      refine ⟨_, ?_, by rw [← HCF.out (by rw [HN.out, HM.out]) pre' x hpre heq hne], hB.trans (belowK_b (w := w) (Nat.le_refl _) W D _ _ (by simp at hD; omega) hK rfl rfl)⟩
      simp [results, Tryz.f57, go_sem, hc5]
  · have hz := Lib.hid (HCL.out (by rw [HN.out, HM.out]; exact hNM))
    have hzz : Hid (z = cmpZ (N : Int) (M : Int)) := by
      have := hz.out
      rw [HN.out, HM.out] at this
      rw [this]
      unfold cmpZ
      by_cases h : N < M
      · rw [if_pos h, if_pos (by omega)]
        exact Lib.hid rfl
      · rw [if_neg h, if_neg (by omega), if_pos (by omega)]
        exact Lib.hid rfl
    have hne : ((N : Int) != (M : Int)) = true := by simp; omega
    go_enter Tryz.func57, Tryz.ntmps57
    go_wp2_with (go_at_call 77; refine (compareInt_any _ _ _).mono ?_; rintro e w' ⟨rfl, rfl⟩)
    refine bodyPost_ret (v := .int .i64 (cmpZ N M)) (by simp [results, Tryz.f57, go_sem]) rfl ?_
    exact ⟨by rw [hzz.out], ((Below.refl _ w).alloc (Nat.le_refl _) _).alloc (by simp) _⟩
end Go.Proofs.YtebjjgbdiabapaaGreatDoor
