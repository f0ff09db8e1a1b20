/- The reference's Digests, Verify, VerifyExtension, Extension and Proof at every argument, walked. -/
import Derived.Test.YtiilkjonbfllfaaDoorRfP
import Derived.Deep.RegionHeld3
namespace Go.Proofs.YtiilkjonbfllfaaDoor
open Go.RowKit
theorem valR_le : ∀ (q : List ByteArray) (n i : Nat) (s : ByteArray), (valR n i s q).1.size ≤ 32
  | [], n, i, s => by
    rw [valR]
    by_cases h : n = 1
    · rw [if_pos h]; exact Nat.le_of_eq (dg_size _)
    · rw [if_neg h]; exact Nat.zero_le _
  | x :: q, n, i, s => by
    rw [valR]
    by_cases h : n = 1
    · rw [if_pos h]; exact Nat.le_of_eq (dg_size _)
    · rw [if_neg h]
      by_cases hk : i < half n
      · rw [if_pos hk]; exact Nat.le_of_eq (dg_size _)
      · rw [if_neg hk]; exact Nat.le_of_eq (dg_size _)

set_option maxRecDepth 100000 in
set_option maxHeartbeats 4000000 in
theorem rvalue_any : ∀ (q : List ByteArray) (N I : Nat) (s : ByteArray) (al : Option Addr) (m c : Nat) (ps : List ByteArray) (w : World), ps = q.reverse → Strs w al m ps → m ≤ 100 → m ≤ c → c ≤ maxLen → (∀ x ∈ ps, x.size ≤ 60) → s.size ≤ 60 → I < N → N ≤ 9223372036854775807 → Tab w →
    Calls Tryd.prog 52 #[.int .i64 N, .int .i64 I, .string s, .slice al m c] w fun e w' => e = .returned (.tuple #[.string (valR N I s q).1, .bool (valR N I s q).2]) ∧ Below w.heap.size w w' := by
  intro q
  induction q with
  | nil =>
    intro N I s al m c ps w hps hst hm hmc hc hsz hs hI hN hT
    subst hps
    obtain rfl : m = 0 := hst.1.symm
    have HT := Lib.hid hT
    clear hT hst
    by_cases h1 : N = 1
    · subst h1
      rw [valR, if_pos rfl]
      go_enter Tryd.func52, Tryd.ntmps52
      go_wp2_with (go_at_call 16; refine (rleaf_any s (by omega) _ HT.out).mono ?_; rintro e w2 ⟨rfl, hb2⟩)
      go_ret2
      exact ⟨rfl, hb2⟩
    · rw [valR, if_neg h1]
      have hne : ((N : Int) == 1) = false := by rw [beq_eq_false_iff_ne]; omega
      go_enter Tryd.func52, Tryd.ntmps52
      go_wp2_with fail
      go_ret2
      exact ⟨rfl, Below.refl _ _⟩
  | cons x q ih =>
    intro N I s al m c ps w hps hst hm hmc hc hsz hs hI hN hT
    have hpl : ps.length = q.length + 1 := by rw [hps]; simp
    have hml : m = q.length + 1 := by rw [← hst.1]; exact hpl
    obtain ⟨M, rfl⟩ : ∃ M, m = M + 1 := ⟨q.length, hml⟩
    have hsub : IntKind.i64.wrap (((M + 1 : Nat) : Int) - 1) = M := by rw [IntWalk.i64_in _ ⟨by omega, by omega⟩]; omega
    have hM0 : (0 : Int) ≤ M := by omega
    by_cases h1 : N = 1
    · subst h1
      rw [valR, if_pos rfl]
      have HT := Lib.hid hT
      clear hT hst
      go_enter Tryd.func52, Tryd.ntmps52
      go_wp2_with (go_at_call 16; refine (rleaf_any s (by omega) _ HT.out).mono ?_; rintro e w2 ⟨rfl, hb2⟩)
      go_ret2
      exact ⟨rfl, hb2⟩
    · have hM : M = q.length := by omega
      have hpt : ps.take M = q.reverse := by rw [hps, List.reverse_cons, hM]; exact List.take_left' (by simp)
      have hpx : ps.getD M ByteArray.empty = x := by
        rw [hps, List.reverse_cons, List.getD_eq_getElem?_getD, List.getElem?_append_right (by simp; omega), List.length_reverse, hM]; simp
      have hst2 := hst.take (k := M) (by omega)
      rw [hpt] at hst2
      obtain ⟨g, o, rfl, hg, hcs⟩ := strs_out hst (show M < M + 1 by omega)
      have hc0 := hcs M (by omega)
      rw [hpx] at hc0
      have hxs : x.size ≤ 60 := hsz x (by rw [hps]; simp)
      have HQZ := Lib.hid (show ∀ y ∈ q.reverse, y.size ≤ 60 from fun y hy => hsz y (by rw [← hpt] at hy; exact List.mem_of_mem_take hy))
      have hz : 0 < w.heap.size := hT.1
      have HS2 := Lib.hid hst2; have HT := Lib.hid hT
      have HCX := Lib.hid (fun W (hW : Below w.heap.size w W) => (hW.cell (p := ⟨g, o + M, none⟩) hg).trans hc0)
      have hlt := half_lt (n := N) (by omega)
      have hp := half_pos N
      have hcut := run_cut_to (P := Tryd.prog) 26 9 1 Tryd.underlying26 (by kernel_rfl) (some ⟨g, o, none⟩) (M + 1) c M (by omega)
      have hne : ((N : Int) == 1) = false := by rw [beq_eq_false_iff_ne]; omega
      clear hcs hst hst2 hT hsz hpt hpx hps hpl hml hc0
      obtain ⟨h, hh⟩ : ∃ h, half N = h := ⟨_, rfl⟩
      rw [hh] at hlt hp
      by_cases hk : I < h
      · have HW := Lib.hid (show valR N I s (x :: q) = (node (valR h I s q).1 x, (valR h I s q).2) by rw [valR, if_neg h1, hh, if_pos hk])
        have hws := valR_le q h I s
        have IH := Lib.hid (fun W hW hTW => ih h I s (some ⟨g, o, none⟩) M c q.reverse W rfl hW (by omega) (by omega) hc HQZ.out hs hk (by omega) hTW)
        have HH := Lib.hid hh; clear hh ih hM
        generalize valR h I s q = r at *
        obtain ⟨rv, rb⟩ := r
        dsimp only at hws HW IH
        rw [HW.out]
        go_enter Tryd.func52, Tryd.ntmps52
        go_wp2_with fail
        refine (rleft_any N (by omega) hN _).mono ?_
        rw [HH.out]
        rintro e w1 ⟨rfl, rfl⟩
        go_wp2_with fail
        refine (IH.out _ HS2.out HT.out).mono ?_
        rintro e w1 ⟨rfl, hb1⟩
        have hcx := HCX.out _ hb1
        go_wp2_with fail
        refine (rnode_any rv x (by omega) (by omega) _ (HT.out.below hb1 hz)).mono ?_
        rintro e w2 ⟨rfl, hb2⟩
        have hb3 := hb1.trans (hb2.mono hb1.size)
        clear hcx hb1 hb2
        go_wp2_with fail
        go_ret2
        exact ⟨rfl, hb3⟩
      · have HW := Lib.hid (show valR N I s (x :: q) = (node x (valR (N - h) (I - h) s q).1, (valR (N - h) (I - h) s q).2) by rw [valR, if_neg h1, hh, if_neg hk])
        have hws := valR_le q (N - h) (I - h) s
        have IH := Lib.hid (fun W hW hTW => ih (N - h) (I - h) s (some ⟨g, o, none⟩) M c q.reverse W rfl hW (by omega) (by omega) hc HQZ.out hs (by omega) (by omega) hTW)
        rw [show ((N - h : Nat) : Int) = (N : Int) - h by omega, show ((I - h : Nat) : Int) = (I : Int) - h by omega] at IH
        have HH := Lib.hid hh; clear hh ih hM
        generalize valR (N - h) (I - h) s q = r at *
        obtain ⟨rv, rb⟩ := r
        dsimp only at hws HW IH
        rw [HW.out]
        go_enter Tryd.func52, Tryd.ntmps52
        go_wp2_with fail
        refine (rleft_any N (by omega) hN _).mono ?_
        rw [HH.out]
        rintro e w1 ⟨rfl, rfl⟩
        go_wp2_with fail
        refine (IH.out _ HS2.out HT.out).mono ?_
        rintro e w1 ⟨rfl, hb1⟩
        have hcx := HCX.out _ hb1
        go_wp2_with fail
        refine (rnode_any x rv (by omega) (by omega) _ (HT.out.below hb1 hz)).mono ?_
        rintro e w2 ⟨rfl, hb2⟩
        have hb3 := hb1.trans (hb2.mono hb1.size)
        clear hcx hb1 hb2
        go_wp2_with fail
        go_ret2
        exact ⟨rfl, hb3⟩

theorem bothR_le (old : ByteArray) (ho : old.size ≤ 60) : ∀ (q : List ByteArray) (m n : Nat) (b : Bool), (∀ x ∈ q, x.size ≤ 60) → (bothR old m n q b).1.size ≤ 60 ∧ (bothR old m n q b).2.1.size ≤ 60
  | [], m, n, b, _ => by
    rw [bothR]
    by_cases h : m = n
    · rw [if_pos h]; cases b <;> exact ⟨by first | exact ho | exact Nat.zero_le _, by first | exact ho | exact Nat.zero_le _⟩
    · rw [if_neg h]; exact ⟨Nat.zero_le _, Nat.zero_le _⟩
  | x :: q, m, n, b, hq => by
    have hx := hq x (List.mem_cons_self ..)
    have d : ∀ a b, (node a b).size ≤ 60 := fun a b => by unfold node; rw [dg_size]; decide
    rw [bothR]
    by_cases h : m = n
    · rw [if_pos h]
      cases b with
      | true => exact ⟨ho, ho⟩
      | false =>
        by_cases hq0 : q = []
        · rw [if_neg (by simp), if_pos hq0]; exact ⟨hx, hx⟩
        · rw [if_neg (by simp), if_neg hq0]; exact ⟨Nat.zero_le _, Nat.zero_le _⟩
    · rw [if_neg h]
      by_cases hk : m ≤ half n
      · rw [if_pos hk]; exact ⟨(bothR_le old ho q m (half n) b (fun y hy => hq y (List.mem_cons_of_mem _ hy))).1, d _ _⟩
      · rw [if_neg hk]; exact ⟨d _ _, d _ _⟩

/-- Where the list is whole: the proof empty, of one element, longer. -/
theorem rboth_base (N : Nat) (old : ByteArray) (b : Bool) (al : Option Addr) (m c : Nat) (ps : List ByteArray) (w : World) (hst : Strs w al m ps) (hm : m ≤ 100) :
    Calls Tryd.prog 53 #[.string old, .int .i64 N, .int .i64 N, .slice al m c, .bool b] w fun e w' => e = .returned (.tuple #[.string (if b then old else if m = 1 then ps.getD 0 ByteArray.empty else ⟨#[]⟩), .string (if b then old else if m = 1 then ps.getD 0 ByteArray.empty else ⟨#[]⟩), .bool (if b then decide (m = 0) else decide (m = 1))]) ∧ Below w.heap.size w w' := by
  by_cases h0 : m = 0
  · subst h0
    clear hst
    cases b with
    | true =>
      go_enter Tryd.func53, Tryd.ntmps53
      go_wp2_with fail
      go_ret3
      exact ⟨rfl, Below.refl _ _⟩
    | false =>
      go_enter Tryd.func53, Tryd.ntmps53
      go_wp2_with fail
      go_ret3
      exact ⟨rfl, Below.refl _ _⟩
  · obtain ⟨M, rfl⟩ : ∃ M, m = M + 1 := ⟨m - 1, by omega⟩
    have hsub : IntKind.i64.wrap (((M + 1 : Nat) : Int) - 1) = M := by rw [IntWalk.i64_in _ ⟨by omega, by omega⟩]; omega
    have hM0 : (0 : Int) ≤ M := by omega
    cases b with
    | true =>
      clear hst
      go_enter Tryd.func53, Tryd.ntmps53
      go_wp2_with fail
      go_ret3
      exact ⟨rfl, Below.refl _ _⟩
    | false =>
      by_cases hM : M = 0
      · subst hM
        obtain ⟨g, o, rfl, hg, hcs⟩ := strs_out hst (show 0 < 0 + 1 by omega)
        have hc0 := hcs 0 (by omega)
        rw [Nat.add_zero] at hc0
        clear hcs hst hsub hM0
        go_enter Tryd.func53, Tryd.ntmps53
        go_wp2_with fail
        go_quiet (fail)
        go_wp2
        go_ret3
        exact ⟨rfl, below_drewN (Below.refl _ _) _⟩
      · have hne : ((M : Int) == 0) = false := by rw [beq_eq_false_iff_ne]; omega
        have hM1 : ¬ (M + 1 = 1) := by omega
        have hF := Lib.hid (show (if (false : Bool) = true then old else if M + 1 = 1 then ps.getD 0 ByteArray.empty else ⟨#[]⟩) = ⟨#[]⟩ by rw [if_neg (by simp), if_neg hM1])
        have hG := Lib.hid (show (if (false : Bool) = true then decide (M + 1 = 0) else decide (M + 1 = 1)) = false by rw [if_neg (by simp)]; exact decide_eq_false hM1)
        rw [hF.out, hG.out]
        clear hst
        go_enter Tryd.func53, Tryd.ntmps53
        go_wp2_with fail
        go_ret3
        exact ⟨rfl, Below.refl _ _⟩

set_option maxRecDepth 100000 in
set_option maxHeartbeats 4000000 in
theorem rboth_any (old : ByteArray) (ho : old.size ≤ 60) : ∀ (q : List ByteArray) (K N : Nat) (b : Bool) (al : Option Addr) (m c : Nat) (ps : List ByteArray) (w : World), ps = q.reverse → Strs w al m ps → m ≤ 100 → m ≤ c → c ≤ maxLen → (∀ x ∈ ps, x.size ≤ 60) → 1 ≤ K → K ≤ N → N ≤ 9223372036854775807 → Tab w →
    Calls Tryd.prog 53 #[.string old, .int .i64 K, .int .i64 N, .slice al m c, .bool b] w fun e w' => e = .returned (.tuple #[.string (bothR old K N q b).1, .string (bothR old K N q b).2.1, .bool (bothR old K N q b).2.2]) ∧ Below w.heap.size w w' := by
  intro q
  induction q with
  | nil =>
    intro K N b al m c ps w hps hst hm hmc hc hsz hK hKN hN hT
    subst hps
    obtain rfl : m = 0 := hst.1.symm
    by_cases h1 : K = N
    · subst h1
      refine (rboth_base K old b al 0 c _ w hst (by omega)).mono ?_
      rintro e w' ⟨rfl, hb⟩
      refine ⟨?_, hb⟩
      rw [bothR, if_pos rfl]
      cases b <;> rfl
    · have hne : ((K : Int) == N) = false := by rw [beq_eq_false_iff_ne]; omega
      rw [bothR, if_neg h1]
      clear hst
      go_enter Tryd.func53, Tryd.ntmps53
      go_wp2_with fail
      go_ret3
      exact ⟨rfl, Below.refl _ _⟩
  | cons x q ih =>
    intro K N b al m c ps w hps hst hm hmc hc hsz hK hKN hN hT
    have hpl : ps.length = q.length + 1 := by rw [hps]; simp
    have hml : m = q.length + 1 := by rw [← hst.1]; exact hpl
    by_cases h1 : K = N
    · subst h1
      refine (rboth_base K old b al m c ps w hst hm).mono ?_
      rintro e w' ⟨rfl, hb⟩
      refine ⟨?_, hb⟩
      rw [bothR, if_pos rfl]
      cases b with
      | true => simp [show ¬ m = 0 by omega]
      | false =>
        by_cases hq : q = []
        · subst hq
          rw [hps]
          simp [hml]
        · have : ¬ m = 1 := by
            intro h
            have h2 : q.length = 0 := by omega
            exact hq (List.eq_nil_of_length_eq_zero h2)
          simp [hq, this]
    · obtain ⟨M, rfl⟩ : ∃ M, m = M + 1 := ⟨q.length, hml⟩
      have hsub : IntKind.i64.wrap (((M + 1 : Nat) : Int) - 1) = M := by rw [IntWalk.i64_in _ ⟨by omega, by omega⟩]; omega
      have hM0 : (0 : Int) ≤ M := by omega
      have hM : M = q.length := by omega
      have hpt : ps.take M = q.reverse := by rw [hps, List.reverse_cons, hM]; exact List.take_left' (by simp)
      have hpx : ps.getD M ByteArray.empty = x := by
        rw [hps, List.reverse_cons, List.getD_eq_getElem?_getD, List.getElem?_append_right (by simp; omega), List.length_reverse, hM]; simp
      have hst2 := hst.take (k := M) (by omega)
      rw [hpt] at hst2
      obtain ⟨g, o, rfl, hg, hcs⟩ := strs_out hst (show M < M + 1 by omega)
      have hc0 := hcs M (by omega)
      rw [hpx] at hc0
      have hxs : x.size ≤ 60 := hsz x (by rw [hps]; simp)
      have HQZ := Lib.hid (show ∀ y ∈ q.reverse, y.size ≤ 60 from fun y hy => hsz y (by rw [← hpt] at hy; exact List.mem_of_mem_take hy))
      have hz : 0 < w.heap.size := hT.1
      have HS2 := Lib.hid hst2; have HT := Lib.hid hT
      have HCX := Lib.hid (fun W (hW : Below w.heap.size w W) => (hW.cell (p := ⟨g, o + M, none⟩) hg).trans hc0)
      have hlt := half_lt (n := N) (by omega)
      have hp := half_pos N
      have hcut := run_cut_to (P := Tryd.prog) 26 9 1 Tryd.underlying26 (by kernel_rfl) (some ⟨g, o, none⟩) (M + 1) c M (by omega)
      have hne : ((K : Int) == N) = false := by rw [beq_eq_false_iff_ne]; omega
      clear hcs hst hst2 hT hsz hpt hpx hps hpl hml hc0
      obtain ⟨h, hh⟩ : ∃ h, half N = h := ⟨_, rfl⟩
      rw [hh] at hlt hp
      by_cases hk : K ≤ h
      · have HW := Lib.hid (show bothR old K N (x :: q) b = ((bothR old K h q b).1, node (bothR old K h q b).2.1 x, (bothR old K h q b).2.2) by rw [bothR, if_neg h1, hh, if_pos hk])
        have hws := bothR_le old ho q K h b (fun y hy => HQZ.out y (List.mem_reverse.2 hy))
        have IH := Lib.hid (fun W hW hTW => ih K h b (some ⟨g, o, none⟩) M c q.reverse W rfl hW (by omega) (by omega) hc HQZ.out hK hk (by omega) hTW)
        have HH := Lib.hid hh; clear hh ih hM
        generalize bothR old K h q b = r at *
        obtain ⟨r1, r2, rb⟩ := r
        dsimp only at hws HW IH
        obtain ⟨hw1, hw2⟩ := hws
        rw [HW.out]
        go_enter Tryd.func53, Tryd.ntmps53
        go_wp2_with fail
        refine (rleft_any N (by omega) hN _).mono ?_
        rw [HH.out]
        rintro e w1 ⟨rfl, rfl⟩
        go_wp2_with fail
        refine (IH.out _ HS2.out HT.out).mono ?_
        rintro e w1 ⟨rfl, hb1⟩
        have hcx := HCX.out _ hb1
        go_wp2_with fail
        refine (rnode_any r2 x (by omega) (by omega) _ (HT.out.below hb1 hz)).mono ?_
        rintro e w2 ⟨rfl, hb2⟩
        have hb3 := hb1.trans (hb2.mono hb1.size)
        clear hcx hb1 hb2
        go_wp2_with fail
        go_ret3
        exact ⟨rfl, hb3⟩
      · have HW := Lib.hid (show bothR old K N (x :: q) b = (node x (bothR old (K - h) (N - h) q false).1, node x (bothR old (K - h) (N - h) q false).2.1, (bothR old (K - h) (N - h) q false).2.2) by rw [bothR, if_neg h1, hh, if_neg hk])
        have hws := bothR_le old ho q (K - h) (N - h) false (fun y hy => HQZ.out y (List.mem_reverse.2 hy))
        have IH := Lib.hid (fun W hW hTW => ih (K - h) (N - h) false (some ⟨g, o, none⟩) M c q.reverse W rfl hW (by omega) (by omega) hc HQZ.out (by omega) (by omega) (by omega) hTW)
        rw [show ((N - h : Nat) : Int) = (N : Int) - h by omega, show ((K - h : Nat) : Int) = (K : Int) - h by omega] at IH
        have HH := Lib.hid hh; clear hh ih hM
        generalize bothR old (K - h) (N - h) q false = r at *
        obtain ⟨r1, r2, rb⟩ := r
        dsimp only at hws HW IH
        obtain ⟨hw1, hw2⟩ := hws
        rw [HW.out]
        go_enter Tryd.func53, Tryd.ntmps53
        go_wp2_with fail
        refine (rleft_any N (by omega) hN _).mono ?_
        rw [HH.out]
        rintro e w1 ⟨rfl, rfl⟩
        go_wp2_with fail
        refine (IH.out _ HS2.out HT.out).mono ?_
        rintro e w1 ⟨rfl, hb1⟩
        have HB1 := Lib.hid hb1
        have HKC := Lib.hid (fun W (hW : Below w1.heap.size w1 W) => HCX.out _ (hb1.trans (hW.mono hb1.size)))
        have FN1 := Lib.hid (fun W (hW : Below w1.heap.size w1 W) => rnode_any x r1 (by omega) (by omega) W (HT.out.below (HB1.out.trans (hW.mono HB1.out.size)) hz))
        have FN2 := Lib.hid (fun W (hW : Below w1.heap.size w1 W) => rnode_any x r2 (by omega) (by omega) W (HT.out.below (HB1.out.trans (hW.mono HB1.out.size)) hz))
        clear hb1
        have hbd : Below w1.heap.size w1 w1.drew := (Below.refl _ _).drew
        go_wp2_with fail
        have hMlt : (M : Int) < (M : Int) + 1 := by omega
        go_region_held3 (fun w' => w'.cell? ⟨g, o + M, none⟩ = some (.string x))
          (first
            | exact HKC.out _ hbd
            | exact HKC.out _ hB3
            | exact HKC.out _ hB2
            | go_keep)
          (first
            | (go_at_call 18; (with_reducible refine (FN1.out _ hbd).mono ?_); rintro e w2 ⟨rfl, hb2⟩; have hB2 := below1 hbd hb2)
            | (go_at_call 18; (with_reducible refine (FN2.out _ hB2).mono ?_); rintro e w3 ⟨rfl, hb3⟩; have hB3 := below1 hB2 hb3))
        all_goals go_wp2_with fail
        all_goals go_ret3
        all_goals exact ⟨rfl, HB1.out.trans (hB3.mono HB1.out.size)⟩

set_option maxHeartbeats 1000000 in
theorem rdigests_any (al : Option Addr) (n c : Nat) (ps : List ByteArray) (hn : n ≤ 1000000) (w : World) (h : Strs w al n ps) (hsz : ∀ s ∈ ps, s.size ≤ maxLen) :
    Calls Tryd.prog 51 #[.slice al n c] w fun e w' => e = .returned (.bool (okD ps)) ∧ w = w' := by
  obtain ⟨hl, hc⟩ := h
  have HL := Lib.hid hl; have HC := Lib.hid hc; have HSZ := Lib.hid hsz
  clear hl hc hsz
  go_enter Tryd.func51, Tryd.ntmps51
  go_wp2
  go_loop [3] (fun iv => ∃ k : Nat, iv = .int .i64 k ∧ k ≤ n ∧ okD (ps.take k) = true) (fun iv => n - (intOf iv).toNat)
  case atStart => exact ⟨0, rfl, Nat.zero_le _, rfl⟩
  case round =>
    obtain ⟨k, rfl, hk, hok⟩ := hrel
    have HOK := Lib.hid hok; clear hok
    by_cases hlt : k < n
    · obtain ⟨g, o, rfl, hg, hcs⟩ := HC.out.resolve_left (by omega)
      have hc := hcs k hlt
      have hmem : ps.getD k ByteArray.empty ∈ ps := by
        rw [List.getD_eq_getElem?_getD, List.getElem?_eq_getElem (by rw [HL.out]; exact hlt)]; exact List.getElem_mem _
      have hz := HSZ.out _ hmem
      have HF := Lib.hid (fun h => okD_false (ps := ps) (k := k) (by rw [HL.out]; exact hlt) h)
      have HS := Lib.hid (fun h => okD_step (ps := ps) (k := k) (by rw [HL.out]; exact hlt) HOK.out h)
      clear hcs hmem
      generalize ps.getD k ByteArray.empty = p at hc hz HF HS
      unfold maxLen at hz
      by_cases hp : p.size = 32
      · have h32 : (p.size : Int) = 32 := by omega
        have HP := Lib.hid hp; clear hp
        go_wp2
        go_round
        case rel => exact ⟨k + 1, by go_num, by omega, HS.out HP.out⟩
        case measure => simp [intOf]; omega
      · have h32 : ((p.size : Int) == 32) = false := by rw [beq_eq_false_iff_ne]; omega
        have h33 : ((p.size : Int) != 32) = true := by simpa using h32
        have HF2 := Lib.hid (HF.out hp)
        clear hp
        go_wp2
        go_ret
        exact ⟨by rw [HF2.out]; rfl, rfl⟩
    · have HE := Lib.hid (show okD ps = true by
        have h := HOK.out
        rw [List.take_of_length_le (by rw [HL.out]; omega)] at h
        exact h)
      go_wp2
      go_ret
      exact ⟨by rw [HE.out]; rfl, rfl⟩

set_option maxRecDepth 100000 in
set_option maxHeartbeats 2000000 in
theorem rverify_any (root : ByteArray) (n i : Int) (hn : n ≤ 9223372036854775807) (hi : -9223372036854775808 ≤ i) (s : ByteArray) (hs : s.size ≤ 60) (al : Option Addr) (m c : Nat) (ps : List ByteArray) (hm : m ≤ 100) (hmc : m ≤ c) (hc : c ≤ maxLen) (w : World) (h : Strs w al m ps) (hsz : ∀ s ∈ ps, s.size ≤ 60) (hT : Tab w) :
    Calls Tryd.prog 30 #[.string root, .int .i64 n, .int .i64 i, .string s, .slice al m c] w fun e w' => e = .returned (.bool (verS root n i s ps)) ∧ Below w.heap.size w w' := by
  have FD := Lib.hid (rdigests_any al m c ps (by omega) w h (fun x hx => Nat.le_trans (hsz x hx) (by decide)))
  have HST := Lib.hid h; have HSZ := Lib.hid hsz; have HT := Lib.hid hT
  clear h hsz hT
  by_cases h0 : i < 0
  · have hv : verS root n i s ps = false := by unfold verS; simp [show ¬ 0 ≤ i by omega]
    rw [hv]
    clear hv
    go_enter Tryd.func30, Tryd.ntmps30
    go_wp2_with fail
    refine FD.out.mono ?_
    rintro e w1 ⟨rfl, rfl⟩
    go_wp2_with fail
    go_ret
    exact ⟨rfl, Below.refl _ _⟩
  · have h0' : decide (i < 0) = false := by simp; omega
    by_cases h1 : n ≤ i
    · have hv : verS root n i s ps = false := by unfold verS; simp [show ¬ i < n by omega]
      rw [hv]
      clear hv
      go_enter Tryd.func30, Tryd.ntmps30
      go_wp2_with fail
      refine FD.out.mono ?_
      rintro e w1 ⟨rfl, rfl⟩
      go_wp2_with fail
      go_ret
      exact ⟨rfl, Below.refl _ _⟩
    · have h1' : decide (n ≤ i) = false := by simp; omega
      cases hok : okD ps with
      | false =>
        have hv : verS root n i s ps = false := by unfold verS; simp [hok]
        rw [hok] at FD
        rw [hv]
        clear hv hok
        go_enter Tryd.func30, Tryd.ntmps30
        go_wp2_with fail
        refine FD.out.mono ?_
        rintro e w1 ⟨rfl, rfl⟩
        go_wp2_with fail
        go_ret
        exact ⟨rfl, Below.refl _ _⟩
      | true =>
        obtain ⟨I, rfl⟩ := Int.eq_ofNat_of_zero_le (show 0 ≤ i by omega)
        obtain ⟨N, rfl⟩ := Int.eq_ofNat_of_zero_le (show 0 ≤ n by omega)
        have HV := Lib.hid (show verS root N I s ps = ((valR N I s ps.reverse).2 && decide ((valR N I s ps.reverse).1 = root)) by
          unfold verS; rw [hok]; simp [show (I : Int) < N by omega])
        rw [hok] at FD
        have FV := Lib.hid (rvalue_any ps.reverse N I s al m c ps w (by rw [List.reverse_reverse]) HST.out hm hmc hc HSZ.out hs (by omega) (by omega) HT.out)
        clear hok
        rw [HV.out]
        generalize valR N I s ps.reverse = r at *
        obtain ⟨rv, rb⟩ := r
        dsimp only at FV ⊢
        cases rb with
        | false =>
          go_enter Tryd.func30, Tryd.ntmps30
          go_wp2_with fail
          refine FD.out.mono ?_
          rintro e w1 ⟨rfl, rfl⟩
          go_wp2_with fail
          refine FV.out.mono ?_
          rintro e w1 ⟨rfl, hb1⟩
          have HB := Lib.hid hb1
          clear hb1
          go_wp2_with fail
          go_ret
          exact ⟨rfl, HB.out⟩
        | true =>
          go_enter Tryd.func30, Tryd.ntmps30
          go_wp2_with fail
          refine FD.out.mono ?_
          rintro e w1 ⟨rfl, rfl⟩
          go_wp2_with fail
          refine FV.out.mono ?_
          rintro e w1 ⟨rfl, hb1⟩
          have HB := Lib.hid hb1
          clear hb1
          go_wp2_with fail
          go_ret
          exact ⟨by rw [Bool.true_and, ← str_eq]; rfl, HB.out⟩

theorem rproof_bad (al : Option Addr) (n c : Nat) (i : Int) (hi : i < 0 ∨ n ≤ i) (w : World) :
    Calls Tryd.prog 23 #[.slice al n c, .int .i64 i] w fun e w' => e = .returned (.tuple #[.slice none 0 0, .int .i64 2]) ∧ w = w' := by
  by_cases h : i < 0
  · clear hi
    go_enter Tryd.func23, Tryd.ntmps23
    go_wp2_with fail
    go_ret2
    exact ⟨rfl, rfl⟩
  · have h0' : decide (i < 0) = false := by simp; omega
    have h1 : (n : Int) ≤ i := by omega
    clear hi h
    go_enter Tryd.func23, Tryd.ntmps23
    go_wp2_with fail
    go_ret2
    exact ⟨rfl, rfl⟩
theorem rext_bad (al : Option Addr) (n c : Nat) (m : Int) (hm : m < 0 ∨ n < m) (w : World) :
    Calls Tryd.prog 25 #[.slice al n c, .int .i64 m] w fun e w' => e = .returned (.tuple #[.slice none 0 0, .int .i64 2]) ∧ w = w' := by
  by_cases h : m < 0
  · clear hm
    go_enter Tryd.func25, Tryd.ntmps25
    go_wp2_with fail
    go_ret2
    exact ⟨rfl, rfl⟩
  · have h0' : decide (m < 0) = false := by simp; omega
    have h1 : (n : Int) < m := by omega
    clear hm h
    go_enter Tryd.func25, Tryd.ntmps25
    go_wp2_with fail
    go_ret2
    exact ⟨rfl, rfl⟩
theorem rext_at (al : Option Addr) (n c : Nat) (l : List ByteArray) (hn : n ≤ 1000) (hnc : n ≤ c) (hc : c ≤ maxLen) (w : World) (hl : Strs w al n l) (hls : ∀ s ∈ l, s.size ≤ 400000) (hT : Tab w) (k : Nat) (hk : k ≤ n) :
    Calls Tryd.prog 25 #[.slice al n c, .int .i64 k] w fun e w' => ∃ v, e = .returned (.tuple #[v, .int .i64 0]) ∧ StrOwn w (extS l k) v w' := by
  have h0' : decide ((k : Int) < 0) = false := by simp
  have h1' : decide ((n : Int) < k) = false := by simp; omega
  by_cases h0 : k = 0
  · subst h0
    rw [extS, if_pos rfl]
    clear hl hls
    go_enter Tryd.func25, Tryd.ntmps25
    go_wp2_with fail
    go_ret2
    exact ⟨_, rfl, strown_nil w⟩
  · have FP := Lib.hid (rpart_any n l al n c w k true (Nat.le_refl _) hn hnc hc hl hls hT (by omega) hk)
    have HE := Lib.hid (show extS l k = ptS l k true by rw [extS, if_neg h0]; rfl)
    have hne : ((k : Int) == 0) = false := by rw [beq_eq_false_iff_ne]; omega
    rw [HE.out]
    clear hl hls
    go_enter Tryd.func25, Tryd.ntmps25
    go_wp2_with fail
    refine FP.out.mono ?_
    rintro e w1 ⟨v, rfl, al1, c1, rfl, h1, h2, h3, h4⟩
    have HS := Lib.hid (show StrOwn w (ptS l k true) (.slice al1 (ptS l k true).length c1) w1 from ⟨al1, c1, rfl, h1, h2, h3, h4⟩)
    clear h1 h2 h3 h4
    go_wp2_with fail
    go_ret2
    exact ⟨_, rfl, HS.out⟩

set_option maxRecDepth 100000 in
set_option maxHeartbeats 4000000 in
theorem rvex_any (old root : ByteArray) (m n : Int) (hm1 : -9223372036854775808 ≤ m) (hn : n ≤ 9223372036854775807) (al : Option Addr) (k c : Nat) (ps : List ByteArray) (hk : k ≤ 100) (hkc : k ≤ c) (hc : c ≤ maxLen) (w : World) (h : Strs w al k ps) (hsz : ∀ s ∈ ps, s.size ≤ 60) (_hos : old.size ≤ maxLen) (_hrs : root.size ≤ maxLen) (hT : Tab w) :
    Calls Tryd.prog 32 #[.string old, .int .i64 m, .string root, .int .i64 n, .slice al k c] w fun e w' => e = .returned (.bool (vexS old m root n ps)) ∧ Below w.heap.size w w' := by
  unfold maxLen at _hos _hrs
  have FD := Lib.hid (rdigests_any al k c ps (by omega) w h (fun x hx => Nat.le_trans (hsz x hx) (by decide)))
  have HST := Lib.hid h; have HSZ := Lib.hid hsz; have HT := Lib.hid hT
  have HPL := Lib.hid (show ps.isEmpty = decide (k = 0) by
    rw [← h.1]; cases ps <;> simp)
  clear h hsz hT
  by_cases h0 : m < 0
  · have hv : vexS old m root n ps = false := vex_bad1 old root m n ps (.inl h0)
    rw [hv]
    clear hv
    go_enter Tryd.func32, Tryd.ntmps32
    go_wp2_with fail
    refine FD.out.mono ?_
    rintro e w1 ⟨rfl, rfl⟩
    go_wp2_with fail
    go_ret
    exact ⟨rfl, Below.refl _ _⟩
  · have h0' : decide (m < 0) = false := by simp; omega
    by_cases h1 : n < m
    · have hv : vexS old m root n ps = false := vex_bad1 old root m n ps (.inr h1)
      rw [hv]
      clear hv
      go_enter Tryd.func32, Tryd.ntmps32
      go_wp2_with fail
      refine FD.out.mono ?_
      rintro e w1 ⟨rfl, rfl⟩
      go_wp2_with fail
      go_ret
      exact ⟨rfl, Below.refl _ _⟩
    · have h1' : decide (n < m) = false := by simp; omega
      cases hok : okD ps with
      | false =>
        rw [hok] at FD
        have hv : vexS old m root n ps = false := vex_bad3 old root m n ps hok
        rw [hv]
        clear hv
        clear hok
        go_enter Tryd.func32, Tryd.ntmps32
        go_wp2_with fail
        refine FD.out.mono ?_
        rintro e w1 ⟨rfl, rfl⟩
        go_wp2_with fail
        go_ret
        exact ⟨rfl, Below.refl _ _⟩
      | true =>
        rw [hok] at FD
        by_cases ho : old.size = 32
        · by_cases hr : root.size = 32
          · have o32 : (old.size : Int) = 32 := by omega
            have r32 : (root.size : Int) = 32 := by omega
            obtain ⟨M, rfl⟩ := Int.eq_ofNat_of_zero_le (show 0 ≤ m by omega)
            obtain ⟨N, rfl⟩ := Int.eq_ofNat_of_zero_le (show 0 ≤ n by omega)
            by_cases hM : M = 0
            · subst hM
              have HV := Lib.hid (show vexS old ((0 : Nat) : Int) root N ps = (decide (k = 0) && decide (old = dg ⟨#[]⟩)) by rw [vex_zero old root N ps hok ho hr, HPL.out])
              rw [HV.out]
              clear hok ho hr
              by_cases hk0 : k = 0
              · subst hk0
                go_enter Tryd.func32, Tryd.ntmps32
                go_wp2_with fail
                refine FD.out.mono ?_
                rintro e w1 ⟨rfl, rfl⟩
                go_wp2_with fail
                refine (rsum_any ⟨#[]⟩ (by decide) _).mono ?_
                rintro e w1 ⟨rfl, hb1⟩
                have HB := Lib.hid hb1
                clear hb1
                go_wp2_with fail
                go_ret
                refine ⟨?_, HB.out⟩
                rw [← str_eq]; rfl
              · have hne : ((k : Int) == 0) = false := by rw [beq_eq_false_iff_ne]; omega
                have hkd : decide (k = 0) = false := decide_eq_false hk0
                rw [hkd]
                clear hk0 hkd
                go_enter Tryd.func32, Tryd.ntmps32
                go_wp2_with fail
                refine FD.out.mono ?_
                rintro e w1 ⟨rfl, rfl⟩
                go_wp2_with fail
                go_ret
                exact ⟨rfl, Below.refl _ _⟩
            · have hm0 : ((M : Int) == 0) = false := by rw [beq_eq_false_iff_ne]; omega
              by_cases hMN : M = N
              · subst hMN
                have HV := Lib.hid (show vexS old (M : Int) root M ps = (decide (k = 0) && decide (old = root)) by
                  unfold vexS; rw [hok, ho, hr, HPL.out]; simp; omega)
                rw [HV.out]
                clear hok ho hr
                by_cases hk0 : k = 0
                · subst hk0
                  go_enter Tryd.func32, Tryd.ntmps32
                  go_wp2_with fail
                  refine FD.out.mono ?_
                  rintro e w1 ⟨rfl, rfl⟩
                  go_wp2_with fail
                  go_ret
                  refine ⟨?_, Below.refl _ _⟩
                  rw [← str_eq]; rfl
                · have hne : ((k : Int) == 0) = false := by rw [beq_eq_false_iff_ne]; omega
                  have hkd : decide (k = 0) = false := decide_eq_false hk0
                  rw [hkd]
                  clear hk0 hkd
                  go_enter Tryd.func32, Tryd.ntmps32
                  go_wp2_with fail
                  refine FD.out.mono ?_
                  rintro e w1 ⟨rfl, rfl⟩
                  go_wp2_with fail
                  go_ret
                  exact ⟨rfl, Below.refl _ _⟩
              · have hne : ((M : Int) == N) = false := by rw [beq_eq_false_iff_ne]; omega
                have HV := Lib.hid (show vexS old (M : Int) root N ps = ((bothR old M N ps.reverse true).2.2 && decide ((bothR old M N ps.reverse true).1 = old) && decide ((bothR old M N ps.reverse true).2.1 = root)) by
                  unfold vexS
                  rw [hok, ho, hr]
                  have e1 : decide ((0 : Int) ≤ M) = true := by simp
                  have e2 : decide ((M : Int) ≤ N) = true := by simp; omega
                  rw [e1, e2, if_neg (by omega), if_neg (by omega)]
                  simp)
                have FB := Lib.hid (rboth_any old (by omega) ps.reverse M N true al k c ps w (by rw [List.reverse_reverse]) HST.out hk hkc hc HSZ.out (by omega) (by omega) (by omega) HT.out)
                rw [HV.out]
                clear hok ho hr hM hMN
                generalize bothR old M N ps.reverse true = r at *
                obtain ⟨r1, r2, rb⟩ := r
                dsimp only at FB ⊢
                cases rb with
                | false =>
                  go_enter Tryd.func32, Tryd.ntmps32
                  go_wp2_with fail
                  refine FD.out.mono ?_
                  rintro e w1 ⟨rfl, rfl⟩
                  go_wp2_with fail
                  refine FB.out.mono ?_
                  rintro e w1 ⟨rfl, hb1⟩
                  have HB := Lib.hid hb1
                  clear hb1
                  go_wp2_with fail
                  go_ret
                  exact ⟨rfl, HB.out⟩
                | true =>
                  by_cases hro : r1 = old
                  · have hh : (r1.toList == old.toList) = true := by rw [str_eq]; simpa using hro
                    have hd : decide (r1 = old) = true := decide_eq_true hro
                    rw [hd]
                    clear hd hro
                    go_enter Tryd.func32, Tryd.ntmps32
                    go_wp2_with fail
                    refine FD.out.mono ?_
                    rintro e w1 ⟨rfl, rfl⟩
                    go_wp2_with fail
                    refine FB.out.mono ?_
                    rintro e w1 ⟨rfl, hb1⟩
                    have HB := Lib.hid hb1
                    clear hb1
                    go_wp2_with fail
                    go_ret
                    exact ⟨by rw [Bool.true_and, Bool.true_and, ← str_eq]; rfl, HB.out⟩
                  · have hh : (r1.toList == old.toList) = false := by rw [str_eq]; simpa using hro
                    have hd : decide (r1 = old) = false := decide_eq_false hro
                    rw [hd]
                    clear hd hro
                    go_enter Tryd.func32, Tryd.ntmps32
                    go_wp2_with fail
                    refine FD.out.mono ?_
                    rintro e w1 ⟨rfl, rfl⟩
                    go_wp2_with fail
                    refine FB.out.mono ?_
                    rintro e w1 ⟨rfl, hb1⟩
                    have HB := Lib.hid hb1
                    clear hb1
                    go_wp2_with fail
                    go_ret
                    exact ⟨rfl, HB.out⟩
          · have o32 : (old.size : Int) = 32 := by omega
            have r32 : ((root.size : Int) == 32) = false := by rw [beq_eq_false_iff_ne]; omega
            have r33 : ((root.size : Int) != 32) = true := by simpa using r32
            have hv : vexS old m root n ps = false := vex_bad2 old root m n ps (by simp [okD, hr])
            rw [hv]
            clear hv
            clear hok hr
            go_enter Tryd.func32, Tryd.ntmps32
            go_wp2_with fail
            refine FD.out.mono ?_
            rintro e w1 ⟨rfl, rfl⟩
            go_wp2_with fail
            go_ret
            exact ⟨rfl, Below.refl _ _⟩
        · have o32 : ((old.size : Int) == 32) = false := by rw [beq_eq_false_iff_ne]; omega
          have o33 : ((old.size : Int) != 32) = true := by simpa using o32
          have hv : vexS old m root n ps = false := vex_bad2 old root m n ps (by simp [okD, ho])
          rw [hv]
          clear hv
          clear hok ho
          go_enter Tryd.func32, Tryd.ntmps32
          go_wp2_with fail
          refine FD.out.mono ?_
          rintro e w1 ⟨rfl, rfl⟩
          go_wp2_with fail
          go_ret
          exact ⟨rfl, Below.refl _ _⟩
end Go.Proofs.YtiilkjonbfllfaaDoor
