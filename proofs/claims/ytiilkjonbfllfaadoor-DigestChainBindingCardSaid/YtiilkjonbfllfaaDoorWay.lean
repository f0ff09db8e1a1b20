/- way, walked. -/
import Derived.Test.YtiilkjonbfllfaaDoorCol
namespace Go.Proofs.YtiilkjonbfllfaaDoor
open Go.RowKit

theorem own_one (w : World) (s : ByteArray) : (w.alloc (.cells #[.string s] 9)).ownsRow w.heap.size 9 1 (.slice (some ⟨w.heap.size, 0, none⟩) 1 1) 1 [.string s] :=
  ⟨rfl, .inr ⟨w.heap.size, 1, #[.string s], rfl, Nat.le_refl _, heap_new' _ _ _ rfl, Nat.le_refl _, by decide, rfl, rfl⟩⟩
theorem way_len : ∀ (q : List ByteArray) (n i : Nat) (s : ByteArray), 1 ≤ (wayR n i s q).1.length ∧ (wayR n i s q).1.length ≤ q.length + 1
  | [], n, i, s => by rw [wayR]; exact ⟨by simp, by simp⟩
  | x :: q, n, i, s => by
    rw [wayR]
    by_cases h : n ≤ 1
    · rw [if_pos h]; exact ⟨by simp, by simp⟩
    · rw [if_neg h]
      by_cases hk : i < half n
      · rw [if_pos hk]
        have := (way_len q (half n) i s).2
        exact ⟨by simp, by simp; omega⟩
      · rw [if_neg hk]
        have := (way_len q (n - half n) (i - half n) s).2
        exact ⟨by simp, by simp; omega⟩
theorem way_size : ∀ (q : List ByteArray) (n i : Nat) (s : ByteArray), (wayR n i s q).2.size = 32
  | [], n, i, s => by rw [wayR]; exact dg_size _
  | x :: q, n, i, s => by
    rw [wayR]
    by_cases h : n ≤ 1
    · rw [if_pos h]; exact dg_size _
    · rw [if_neg h]
      by_cases hk : i < half n
      · rw [if_pos hk]; exact dg_size _
      · rw [if_neg hk]; exact dg_size _
/-- The cells of a list of the call's own, as a source. -/
theorem own_src {w : World} {base n c : Nat} {al : Option Addr} {xs : List Value} (h : w.ownsRow base 9 1 (.slice al n c) n xs) (hn : 1 ≤ n) : ∃ ad, al = some ad ∧ ad.block < w.heap.size ∧ base ≤ ad.block ∧ ∀ j u, xs[j]? = some u → w.cell? (ad.add j) = some u := by
  obtain ⟨g, c', e, hb, hg, hc⟩ := own_slice h hn
  injection e with e1 _ _
  refine ⟨⟨g, 0, none⟩, e1, hg, hb, fun j u hj => ?_⟩
  rw [Go.WideShapes.add_plain, Nat.zero_add]; exact hc j u hj
theorem one_str (ps : List ByteArray) : ∀ u ∈ ps.map Value.string, u.oneCell' = true := by
  intro u hu
  obtain ⟨s, _, rfl⟩ := List.mem_map.1 hu
  rfl

theorem own_mono {w : World} {base base' n s : Nat} {e : TypeId} {v : Value} {xs : List Value} (h : w.ownsRow base e s v n xs) (hb : base' ≤ base) : w.ownsRow base' e s v n xs := by
  refine ⟨h.1, ?_⟩
  rcases h.2 with h | ⟨g, cap, cur, h1, h2, h3⟩
  · exact .inl h
  · exact .inr ⟨g, cap, cur, h1, by omega, h3⟩
/-- One text ahead of a list: what the append starts from. -/
theorem pre_own {w w1 : World} (hb : Below w.heap.size w w1) (s : ByteArray) : (w1.alloc (.cells #[.string s] 9)).ownsRow w.heap.size 9 1 (.slice (some ⟨w1.heap.size, 0, none⟩) 1 1) 1 [.string s] ∧ Below w.heap.size w (w1.alloc (.cells #[.string s] 9)) ∧ w.heap.size ≤ (w1.alloc (.cells #[.string s] 9)).heap.size :=
  ⟨own_mono (own_one w1 s) hb.size, hb.alloc hb.size _, by have := hb.size; simp; omega⟩

set_option maxRecDepth 100000 in
set_option maxHeartbeats 4000000 in
theorem way_base (N I : Nat) (s : ByteArray) (al : Option Addr) (m c : Nat) (w : World) (hs : s.size ≤ 60) (hT : Tab w) (h : N ≤ 1 ∨ m = 0) :
    Calls Tryd.prog 34 #[.int .i64 N, .int .i64 I, .string s, .slice al m c] w fun e w' => ∃ v, e = .returned (.tuple #[v, .string (leaf s)]) ∧ StrOwn w [leafB s] v w' := by
  have hz : 0 < w.heap.size := hT.1
  have hb : Below w.heap.size w (w.alloc (.cells #[.string (leafB s)] 9)) := (Below.refl _ _).alloc (Nat.le_refl _) _
  have hT2 := hT.below hb hz
  have HO := Lib.hid (own_one w (leafB s))
  by_cases h1 : N ≤ 1
  · have hd : decide ((N : Int) ≤ 1) = true := by simp; omega
    clear h
    go_enter Tryd.func34, Tryd.ntmps34
    go_wp2_with (go_at_call 15; refine (leaf_any s (by omega) _ hT2).mono ?_; rintro e w2 ⟨rfl, hb2⟩)
    go_ret2
    exact ⟨_, rfl, _, 1, rfl, Nat.le_refl _, by decide, own_below HO.out hb2, below1 hb hb2⟩
  · obtain rfl : m = 0 := h.resolve_left h1
    clear h
    have hd : decide ((N : Int) ≤ 1) = false := by simp; omega
    go_enter Tryd.func34, Tryd.ntmps34
    go_wp2_with (go_at_call 15; refine (leaf_any s (by omega) _ hT2).mono ?_; rintro e w2 ⟨rfl, hb2⟩)
    go_ret2
    exact ⟨_, rfl, _, 1, rfl, Nat.le_refl _, by decide, own_below HO.out hb2, below1 hb hb2⟩

set_option maxRecDepth 100000 in
set_option maxHeartbeats 4000000 in
theorem way_any : ∀ (q : List ByteArray) (N I : Nat) (s : ByteArray) (al : Option Addr) (m c : Nat) (ps : List ByteArray) (w : World), ps = q.reverse → Strs w al m ps → m ≤ 100 → m ≤ c → c ≤ maxLen → (∀ x ∈ ps, x.size ≤ 60) → s.size ≤ 60 → I < N → N ≤ 9223372036854775807 → Tab w →
    Calls Tryd.prog 34 #[.int .i64 N, .int .i64 I, .string s, .slice al m c] w fun e w' => ∃ v, e = .returned (.tuple #[v, .string (wayR N I s q).2]) ∧ StrOwn w (wayR N I s q).1 v w' := by
  intro q
  induction q with
  | nil =>
    intro N I s al m c ps w hps hst hm hmc hc hsz hs hI hN hT
    subst hps
    exact way_base N I s al m c w hs hT (.inr hst.1.symm)
  | cons x q ih =>
    intro N I s al m c ps w hps hst hm hmc hc hsz hs hI hN hT
    by_cases h1 : N ≤ 1
    · rw [wayR, if_pos h1]
      exact way_base N I s al m c w hs hT (.inl h1)
    · obtain ⟨i0, hi0, hz0, hz1, hz2⟩ := info_parts info9
      have hpl : ps.length = q.length + 1 := by rw [hps]; simp
      have hml : m = q.length + 1 := by rw [← hst.1]; exact hpl
      obtain ⟨M, rfl⟩ : ∃ M, m = M + 1 := ⟨q.length, hml⟩
      have hM : M = q.length := by omega
      have hpt : ps.take M = q.reverse := by rw [hps, List.reverse_cons, hM]; exact List.take_left' (by simp)
      have hpx : ps.getD M ByteArray.empty = x := by
        rw [hps, List.reverse_cons, List.getD_eq_getElem?_getD, List.getElem?_append_right (by simp; omega), List.length_reverse, hM]; simp
      have hst2 := hst.take (k := M) (by omega)
      rw [hpt] at hst2
      obtain ⟨g, o, rfl, hg, hcs⟩ := strs_out hst (show M < M + 1 by omega)
      have hc0 := hcs M (by omega)
      rw [hpx] at hc0
      have hxs : x.size ≤ 60 := hsz x (by rw [hps]; simp)
      have HQZ := Lib.hid (show ∀ y ∈ q.reverse, y.size ≤ 60 from fun y hy => hsz y (by rw [← hpt] at hy; exact List.mem_of_mem_take hy))
      have hz : 0 < w.heap.size := hT.1
      have HS2 := Lib.hid hst2; have HT := Lib.hid hT
      have hlt := half_lt (n := N) (by omega)
      have hp := half_pos N
      have hsub : IntKind.i64.wrap (((M + 1 : Nat) : Int) - 1) = M := by rw [IntWalk.i64_in _ ⟨by omega, by omega⟩]; omega
      have hcut := run_cut_to (P := Tryd.prog) 26 9 1 Tryd.underlying26 (by kernel_rfl) (some ⟨g, o, none⟩) (M + 1) c M (by omega)
      have hd : decide ((N : Int) ≤ 1) = false := by simp; omega
      have hne : (((M + 1 : Nat) : Int) == 0) = false := by rw [beq_eq_false_iff_ne]; omega
      have hM0 : (0 : Int) ≤ M := by omega
      clear hcs hst hst2 hT hsz hpt hpx hps hpl hml
      obtain ⟨h, hh⟩ : ∃ h, half N = h := ⟨_, rfl⟩
      rw [hh] at hlt hp
      have hql : q.length ≤ 100 := by omega
      have HM := Lib.hid hM; clear hM
      by_cases hk : I < h
      · have HW := Lib.hid (show wayR N I s (x :: q) = (nodeB (wayR h I s q).2 x :: (wayR h I s q).1, node (wayR h I s q).2 x) by rw [wayR, if_neg h1, hh, if_pos hk])
        have hwl := way_len q h I s
        have hws := way_size q h I s
        have IH := Lib.hid (fun W hW hTW => ih h I s (some ⟨g, o, none⟩) M c q.reverse W rfl hW (by omega) (by omega) hc HQZ.out hs hk (by omega) hTW)
        have HH := Lib.hid hh; clear hh ih
        generalize wayR h I s q = r at *
        obtain ⟨rl, rv⟩ := r
        dsimp only at hwl hws HW IH
        go_enter Tryd.func34, Tryd.ntmps34
        go_wp2_with fail
        refine (left_any N (by omega) hN _).mono ?_
        rw [HH.out]
        rintro e w1 ⟨rfl, rfl⟩
        go_wp2_with fail
        refine (IH.out _ HS2.out HT.out).mono ?_
        rintro e w1 ⟨v, rfl, al1, c1, rfl, hlc, hcm, hown, hb1⟩
        obtain ⟨ad, rfl, hadl, _, hsrc⟩ := own_src hown hwl.1
        obtain ⟨ho, hb2, hz2w⟩ := pre_own hb1 (nodeB rv x)
        have HSRC := Lib.hid (show ∀ j u, (rl.map Value.string)[j]? = some u → (w1.alloc (.cells #[.string (nodeB rv x)] 9)).cell? (ad.add j) = some u from fun j u hj => by
          have hbk : (ad.add j).block = ad.block := by unfold Addr.add; split <;> rfl
          rw [World.cell?_of_block (a := ad.add j) (heap_old' _ _ _ (by rw [hbk]; exact hadl))]; exact hsrc j u hj)
        have HONE := Lib.hid (one_str rl)
        have hrl : (rl.map Value.string).length = rl.length * 1 := by simp
        have HRL := Lib.hid hrl
        have HB2 := Lib.hid hb2
        clear hsrc hrl hown hb2
        go_wp2_with (first
          | (at_builtin; refine wpList_append_own _ rfl _ _ 26 rfl w.heap.size 9 i0 (.string ⟨#[]⟩) 1 16 Tryd.underlying26 hi0 hz0 hz1 hz2 rfl (by decide) _ _ _ rfl ho ad rl.length c1 (rl.map Value.string) rfl HRL.out HSRC.out HONE.out (by unfold maxLen; omega) (by omega) hz2w ?_; intro v' w3 hown' hgrow _; have hb3 := HB2.out.grown hgrow hz2w (own_lt ho))
          | (go_at_call 17; refine (node_any rv x (by omega) (by omega) _ (HT.out.below hb3 hz)).mono ?_; rintro e w4 ⟨rfl, hb4⟩))
        go_ret2
        have hown2 : w4.ownsRow w.heap.size 9 1 v' (rl.length + 1) (nodeB rv x :: rl |>.map Value.string) := own_below (by rw [Nat.add_comm]; exact hown') hb4
        obtain ⟨al9, c9, e9, r1, r2⟩ := own_form hown2
        refine ⟨v', by rw [HW.out]; rfl, al9, c9, ?_, ?_, r2, ?_, hb3.trans (hb4.mono hb3.size)⟩
        · rw [HW.out]; exact e9
        · rw [HW.out]; exact r1
        · rw [HW.out]; exact hown2
      · have HW := Lib.hid (show wayR N I s (x :: q) = (nodeB x (wayR (N - h) (I - h) s q).2 :: (wayR (N - h) (I - h) s q).1, node x (wayR (N - h) (I - h) s q).2) by rw [wayR, if_neg h1, hh, if_neg hk])
        have hwl := way_len q (N - h) (I - h) s
        have hws := way_size q (N - h) (I - h) s
        have IH := Lib.hid (fun W hW hTW => ih (N - h) (I - h) s (some ⟨g, o, none⟩) M c q.reverse W rfl hW (by omega) (by omega) hc HQZ.out hs (by omega) (by omega) hTW)
        have HH := Lib.hid hh; clear hh ih
        have s1 : ((N : Int) - h) = ((N - h : Nat) : Int) := by omega
        have s2 : ((I : Int) - h) = ((I - h : Nat) : Int) := by omega
        have HI := IH.out
        rw [← s1, ← s2] at HI
        have IH2 := Lib.hid HI
        clear s1 s2 HI IH
        generalize wayR (N - h) (I - h) s q = r at *
        obtain ⟨rl, rv⟩ := r
        dsimp only at hwl hws HW IH2
        go_enter Tryd.func34, Tryd.ntmps34
        go_wp2_with fail
        refine (left_any N (by omega) hN _).mono ?_
        rw [HH.out]
        rintro e w1 ⟨rfl, rfl⟩
        go_wp2_with fail
        refine (IH2.out _ HS2.out HT.out).mono ?_
        rintro e w1 ⟨v, rfl, al1, c1, rfl, hlc, hcm, hown, hb1⟩
        obtain ⟨ad, rfl, hadl, _, hsrc⟩ := own_src hown hwl.1
        obtain ⟨ho, hb2, hz2w⟩ := pre_own hb1 (nodeB x rv)
        have HSRC := Lib.hid (show ∀ j u, (rl.map Value.string)[j]? = some u → (w1.alloc (.cells #[.string (nodeB x rv)] 9)).cell? (ad.add j) = some u from fun j u hj => by
          have hbk : (ad.add j).block = ad.block := by unfold Addr.add; split <;> rfl
          rw [World.cell?_of_block (a := ad.add j) (heap_old' _ _ _ (by rw [hbk]; exact hadl))]; exact hsrc j u hj)
        have HONE := Lib.hid (one_str rl)
        have hrl : (rl.map Value.string).length = rl.length * 1 := by simp
        have HRL := Lib.hid hrl
        have HB2 := Lib.hid hb2
        clear hsrc hrl hown hb2
        go_wp2_with (first
          | (at_builtin; refine wpList_append_own _ rfl _ _ 26 rfl w.heap.size 9 i0 (.string ⟨#[]⟩) 1 16 Tryd.underlying26 hi0 hz0 hz1 hz2 rfl (by decide) _ _ _ rfl ho ad rl.length c1 (rl.map Value.string) rfl HRL.out HSRC.out HONE.out (by unfold maxLen; omega) (by omega) hz2w ?_; intro v' w3 hown' hgrow _; have hb3 := HB2.out.grown hgrow hz2w (own_lt ho))
          | (go_at_call 17; refine (node_any x rv (by omega) (by omega) _ (HT.out.below hb3 hz)).mono ?_; rintro e w4 ⟨rfl, hb4⟩))
        go_ret2
        have hown2 : w4.ownsRow w.heap.size 9 1 v' (rl.length + 1) (nodeB x rv :: rl |>.map Value.string) := own_below (by rw [Nat.add_comm]; exact hown') hb4
        obtain ⟨al9, c9, e9, r1, r2⟩ := own_form hown2
        refine ⟨v', by rw [HW.out]; rfl, al9, c9, ?_, ?_, r2, ?_, hb3.trans (hb4.mono hb3.size)⟩
        · rw [HW.out]; exact e9
        · rw [HW.out]; exact r1
        · rw [HW.out]; exact hown2
end Go.Proofs.YtiilkjonbfllfaaDoor
