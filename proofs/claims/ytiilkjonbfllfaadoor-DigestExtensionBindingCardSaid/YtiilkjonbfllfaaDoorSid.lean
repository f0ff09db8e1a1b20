/- sides, walked. -/
import Derived.Test.YtiilkjonbfllfaaDoorAps
namespace Go.Proofs.YtiilkjonbfllfaaDoor
open Go.RowKit

theorem sides_len (old : ByteArray) : ∀ (q : List ByteArray) (m n : Nat) (b : Bool), (sidesR old m n q b).1.length ≤ q.length
  | [], m, n, b => by rw [sidesR]; exact Nat.le_refl _
  | x :: q, m, n, b => by
    rw [sidesR]
    by_cases h1 : m ≥ n
    · rw [if_pos h1]; cases b <;> simp
    · rw [if_neg h1]
      by_cases hk : m ≤ half n
      · rw [if_pos hk]
        have := sides_len old q m (half n) b
        simp; omega
      · rw [if_neg hk]
        have := sides_len old q (m - half n) (n - half n) false
        simp; omega
theorem sides_size (old : ByteArray) (ho : old.size ≤ 60) : ∀ (q : List ByteArray) (m n : Nat) (b : Bool), (∀ x ∈ q, x.size ≤ 60) → (sidesR old m n q b).2.size ≤ 60
  | [], m, n, b, _ => by rw [sidesR]; exact ho
  | x :: q, m, n, b, hq => by
    rw [sidesR]
    by_cases h1 : m ≥ n
    · rw [if_pos h1]
      cases b with
      | true => exact ho
      | false => exact hq _ (List.getLast_mem _)
    · rw [if_neg h1]
      by_cases hk : m ≤ half n
      · rw [if_pos hk]; exact Nat.le_trans (Nat.le_of_eq (dg_size _)) (by decide)
      · rw [if_neg hk]; exact Nat.le_trans (Nat.le_of_eq (dg_size _)) (by decide)
theorem sides_texts (old : ByteArray) (ho : old.size ≤ 60) : ∀ (q : List ByteArray) (m n : Nat) (b : Bool), (∀ x ∈ q, x.size ≤ 60) → ∀ x ∈ (sidesR old m n q b).1, x.size ≤ 800000
  | [], m, n, b, _, x, hx => by rw [sidesR] at hx; cases hx
  | y :: q, m, n, b, hq, x, hx => by
    rw [sidesR] at hx
    have hy := hq y (List.mem_cons_self ..)
    have hq' := fun z hz => hq z (List.mem_cons_of_mem y hz)
    by_cases h1 : m ≥ n
    · rw [if_pos h1] at hx; cases b <;> cases hx
    · rw [if_neg h1] at hx
      by_cases hk : m ≤ half n
      · rw [if_pos hk] at hx
        rcases List.mem_cons.1 hx with rfl | hx
        · unfold nodeB; rw [size_app, size_app]; have := sides_size old ho q m (half n) b hq'; show 1 + _ + y.size ≤ _; omega
        · exact sides_texts old ho q _ _ _ hq' x hx
      · rw [if_neg hk] at hx
        rcases List.mem_cons.1 hx with rfl | hx
        · unfold nodeB; rw [size_app, size_app]; have := sides_size old ho q (m - half n) (n - half n) false hq'; show 1 + y.size + _ ≤ _; omega
        · exact sides_texts old ho q _ _ _ hq' x hx

set_option maxRecDepth 100000 in
set_option maxHeartbeats 4000000 in
theorem sides_base (M N : Nat) (old : ByteArray) (whole : Bool) (al : Option Addr) (m c : Nat) (ps : List ByteArray) (w : World) (hst : Strs w al m ps) (hm : m ≤ 100) (h : N ≤ M ∨ m = 0) :
    Calls Tryd.prog 37 #[.string old, .int .i64 M, .int .i64 N, .slice al m c, .bool whole] w fun e w' => e = .returned (.tuple #[.slice none 0 0, .string (if whole = true ∨ m = 0 then old else ps.getD 0 ByteArray.empty)]) ∧ Below w.heap.size w w' := by
  by_cases hm0 : m = 0
  · subst hm0
    by_cases h1 : N ≤ M
    · have hd : decide ((N : Int) ≤ M) = true := by simp; omega
      clear h
      cases whole
      · go_enter Tryd.func37, Tryd.ntmps37
        go_wp2_with fail
        go_ret2
        exact ⟨rfl, Below.refl _ _⟩
      · go_enter Tryd.func37, Tryd.ntmps37
        go_wp2_with fail
        go_ret2
        exact ⟨rfl, Below.refl _ _⟩
    · have hd : decide ((N : Int) ≤ M) = false := by simp; omega
      clear h
      cases whole
      · go_enter Tryd.func37, Tryd.ntmps37
        go_wp2_with fail
        go_ret2
        exact ⟨rfl, Below.refl _ _⟩
      · go_enter Tryd.func37, Tryd.ntmps37
        go_wp2_with fail
        go_ret2
        exact ⟨rfl, Below.refl _ _⟩
  · have h1 : N ≤ M := h.resolve_right hm0
    have hd : decide ((N : Int) ≤ M) = true := by simp; omega
    have hne : ((m : Int) == 0) = false := by rw [beq_eq_false_iff_ne]; omega
    clear h
    obtain ⟨g, o, rfl, hg, hcs⟩ := strs_out hst (show 0 < m by omega)
    have hc0 := hcs 0 (by omega)
    rw [Nat.add_zero] at hc0
    have hlt : (0 : Int) < m := by omega
    cases whole
    · clear hcs hst
      go_enter Tryd.func37, Tryd.ntmps37
      go_wp2_with fail
      go_quiet (fail)
      go_wp2_with fail
      all_goals (go_ret2; exact ⟨rfl, below_drewN (Below.refl _ _) _⟩)
    · clear hcs hst
      go_enter Tryd.func37, Tryd.ntmps37
      go_wp2_with fail
      all_goals (go_ret2; exact ⟨rfl, Below.refl _ _⟩)

set_option maxRecDepth 100000 in
set_option maxHeartbeats 4000000 in
theorem sides_any : ∀ (q : List ByteArray) (M N : Nat) (whole : Bool) (old : ByteArray) (al : Option Addr) (m c : Nat) (ps : List ByteArray) (w : World), ps = q.reverse → Strs w al m ps → m ≤ 100 → m ≤ c → c ≤ maxLen → (∀ x ∈ ps, x.size ≤ 60) → old.size ≤ 60 → 1 ≤ M → M ≤ N → N ≤ 9223372036854775807 → Tab w →
    Calls Tryd.prog 37 #[.string old, .int .i64 M, .int .i64 N, .slice al m c, .bool whole] w fun e w' => ∃ v, e = .returned (.tuple #[v, .string (sidesR old M N q whole).2]) ∧ StrOwn w (sidesR old M N q whole).1 v w' := by
  intro q
  induction q with
  | nil =>
    intro M N whole old al m c ps w hps hst hm hmc hc hsz ho hM hN0 hN hT
    subst hps
    obtain rfl : m = 0 := hst.1.symm
    refine (sides_base M N old whole al 0 c _ w hst (by omega) (.inr rfl)).mono ?_
    rintro e w' ⟨rfl, hb⟩
    refine ⟨_, by rw [if_pos (.inr rfl), sidesR], none, 0, ?_, ?_, by decide, ?_, hb⟩
    · rw [sidesR]; rfl
    · rw [sidesR]; exact Nat.le_refl _
    · rw [sidesR]; exact ⟨rfl, .inl ⟨rfl, rfl⟩⟩
  | cons x q ih =>
    intro M N whole old al m c ps w hps hst hm hmc hc hsz ho hM hN0 hN hT
    by_cases h1 : M ≥ N
    · refine (sides_base M N old whole al m c _ w hst hm (.inl h1)).mono ?_
      rintro e w' ⟨rfl, hb⟩
      have hpl : ps.length = q.length + 1 := by rw [hps]; simp
      have hm0 : m ≠ 0 := by rw [← hst.1]; omega
      have hv : sidesR old M N (x :: q) whole = ([], if whole = true ∨ m = 0 then old else ps.getD 0 ByteArray.empty) := by
        rw [sidesR, if_pos h1]
        cases whole with
        | true => simp
        | false =>
          rw [if_neg (by decide), if_neg (by simp [hm0]), hps, List.getD_eq_getElem?_getD, ← List.head?_eq_getElem?, List.head?_reverse, List.getLast?_eq_some_getLast (List.cons_ne_nil x q)]
          rfl
      refine ⟨_, by rw [hv], none, 0, ?_, ?_, by decide, ?_, hb⟩
      · rw [hv]; rfl
      · rw [hv]; exact Nat.le_refl _
      · rw [hv]; exact ⟨rfl, .inl ⟨rfl, rfl⟩⟩
    · have hpl : ps.length = q.length + 1 := by rw [hps]; simp
      have hml : m = q.length + 1 := by rw [← hst.1]; exact hpl
      obtain ⟨M0, rfl⟩ : ∃ M0, m = M0 + 1 := ⟨q.length, hml⟩
      have hM0 : M0 = q.length := by omega
      have hpt : ps.take M0 = q.reverse := by rw [hps, List.reverse_cons, hM0]; exact List.take_left' (by simp)
      have hpx : ps.getD M0 ByteArray.empty = x := by
        rw [hps, List.reverse_cons, List.getD_eq_getElem?_getD, List.getElem?_append_right (by simp; omega), List.length_reverse, hM0]; simp
      have hst2 := hst.take (k := M0) (by omega)
      rw [hpt] at hst2
      obtain ⟨g, o, rfl, hg, hcs⟩ := strs_out hst (show M0 < M0 + 1 by omega)
      have hc0 := hcs M0 (by omega)
      rw [hpx] at hc0
      have hxs : x.size ≤ 60 := hsz x (by rw [hps]; simp)
      have HQZ := Lib.hid (show ∀ y ∈ q.reverse, y.size ≤ 60 from fun y hy => hsz y (by rw [← hpt] at hy; exact List.mem_of_mem_take hy))
      have HQX := Lib.hid (show ∀ y ∈ q, y.size ≤ 60 from fun y hy => HQZ.out y (List.mem_reverse.2 hy))
      have hz : 0 < w.heap.size := hT.1
      have HS2 := Lib.hid hst2; have HT := Lib.hid hT
      have hlt := half_lt (n := N) (by omega)
      have hp := half_pos N
      have hsub : IntKind.i64.wrap (((M0 + 1 : Nat) : Int) - 1) = M0 := by rw [IntWalk.i64_in _ ⟨by omega, by omega⟩]; omega
      have hcut := run_cut_to (P := Tryd.prog) 26 9 1 Tryd.underlying26 (by kernel_rfl) (some ⟨g, o, none⟩) (M0 + 1) c M0 (by omega)
      have hd : decide ((N : Int) ≤ M) = false := by simp; omega
      have hne : (((M0 + 1 : Nat) : Int) == 0) = false := by rw [beq_eq_false_iff_ne]; omega
      have hM00 : (0 : Int) ≤ M0 := by omega
      clear hcs hst hst2 hT hsz hpt hpx hps hpl hml
      obtain ⟨h, hh⟩ : ∃ h, half N = h := ⟨_, rfl⟩
      rw [hh] at hlt hp
      have hql : q.length ≤ 100 := by omega
      have HM := Lib.hid hM0; clear hM0
      by_cases hk : M ≤ h
      · have HW := Lib.hid (show sidesR old M N (x :: q) whole = (nodeB (sidesR old M h q whole).2 x :: (sidesR old M h q whole).1, node (sidesR old M h q whole).2 x) by rw [sidesR, if_neg h1, hh, if_pos hk])
        have hwl := sides_len old q M h whole
        have hws := sides_size old ho q M h whole (fun y hy => HQX.out y hy)
        have IH := Lib.hid (fun W hW hTW => ih M h whole old (some ⟨g, o, none⟩) M0 c q.reverse W rfl hW (by omega) (by omega) hc HQZ.out ho (by omega) (by omega) (by omega) hTW)
        have HH := Lib.hid hh; clear hh ih
        have IH2 := IH
        clear IH
        generalize sidesR old M h q whole = r at *
        obtain ⟨rl, rv⟩ := r
        dsimp only at hwl hws HW IH2
        go_enter Tryd.func37, Tryd.ntmps37
        go_wp2_with fail
        refine (left_any N (by omega) hN _).mono ?_
        rw [HH.out]
        rintro e w1 ⟨rfl, rfl⟩
        go_wp2_with fail
        refine (IH2.out _ HS2.out HT.out).mono ?_
        rintro e w1 ⟨v, rfl, al1, c1, rfl, hlc, hcm, hown, hb1⟩
        obtain ⟨ho1, hb2, hz2w⟩ := pre_own hb1 (nodeB rv x)
        have HSRC := Lib.hid (own_below hown (show Below w1.heap.size w1 (w1.alloc (.cells #[.string (nodeB rv x)] 9)) from (Below.refl _ _).alloc (Nat.le_refl _) _))
        have HB2 := Lib.hid hb2
        clear hown hb2
        go_wp2_with (first
          | (at_builtin; refine wpList_append_strs rfl _ _ rfl w.heap.size _ 1 _ rfl ho1 w.heap.size _ rl.length rl rfl HSRC.out (by omega) hz2w HB2.out ?_; intro v' w3 hown' hb3)
          | (go_at_call 17; refine (node_any rv x (by omega) (by omega) _ (HT.out.below hb3 hz)).mono ?_; rintro e w4 ⟨rfl, hb4⟩))
        go_ret2
        have hown2 : w4.ownsRow w.heap.size 9 1 v' (rl.length + 1) (nodeB rv x :: rl |>.map Value.string) := own_below (by rw [Nat.add_comm]; exact hown') hb4
        obtain ⟨al9, c9, e9, r1, r2⟩ := own_form hown2
        refine ⟨v', by rw [HW.out]; rfl, al9, c9, ?_, ?_, r2, ?_, hb3.trans (hb4.mono hb3.size)⟩
        · rw [HW.out]; exact e9
        · rw [HW.out]; exact r1
        · rw [HW.out]; exact hown2
      · have HW := Lib.hid (show sidesR old M N (x :: q) whole = (nodeB x (sidesR old (M - h) (N - h) q false).2 :: (sidesR old (M - h) (N - h) q false).1, node x (sidesR old (M - h) (N - h) q false).2) by rw [sidesR, if_neg h1, hh, if_neg hk])
        have hwl := sides_len old q (M - h) (N - h) false
        have hws := sides_size old ho q (M - h) (N - h) false (fun y hy => HQX.out y hy)
        have IH := Lib.hid (fun W hW hTW => ih (M - h) (N - h) false old (some ⟨g, o, none⟩) M0 c q.reverse W rfl hW (by omega) (by omega) hc HQZ.out ho (by omega) (by omega) (by omega) hTW)
        have HH := Lib.hid hh; clear hh ih
        have s1 : ((N : Int) - h) = ((N - h : Nat) : Int) := by omega
        have s2 : ((M : Int) - h) = ((M - h : Nat) : Int) := by omega
        have HI := IH.out
        rw [← s1, ← s2] at HI
        have IH2 := Lib.hid HI
        clear s1 s2 HI IH
        generalize sidesR old (M - h) (N - h) q false = r at *
        obtain ⟨rl, rv⟩ := r
        dsimp only at hwl hws HW IH2
        go_enter Tryd.func37, Tryd.ntmps37
        go_wp2_with fail
        refine (left_any N (by omega) hN _).mono ?_
        rw [HH.out]
        rintro e w1 ⟨rfl, rfl⟩
        go_wp2_with fail
        refine (IH2.out _ HS2.out HT.out).mono ?_
        rintro e w1 ⟨v, rfl, al1, c1, rfl, hlc, hcm, hown, hb1⟩
        obtain ⟨ho1, hb2, hz2w⟩ := pre_own hb1 (nodeB x rv)
        have HSRC := Lib.hid (own_below hown (show Below w1.heap.size w1 (w1.alloc (.cells #[.string (nodeB x rv)] 9)) from (Below.refl _ _).alloc (Nat.le_refl _) _))
        have HB2 := Lib.hid hb2
        clear hown hb2
        go_wp2_with (first
          | (at_builtin; refine wpList_append_strs rfl _ _ rfl w.heap.size _ 1 _ rfl ho1 w.heap.size _ rl.length rl rfl HSRC.out (by omega) hz2w HB2.out ?_; intro v' w3 hown' hb3)
          | (go_at_call 17; refine (node_any x rv (by omega) (by omega) _ (HT.out.below hb3 hz)).mono ?_; rintro e w4 ⟨rfl, hb4⟩))
        go_ret2
        have hown2 : w4.ownsRow w.heap.size 9 1 v' (rl.length + 1) (nodeB x rv :: rl |>.map Value.string) := own_below (by rw [Nat.add_comm]; exact hown') hb4
        obtain ⟨al9, c9, e9, r1, r2⟩ := own_form hown2
        refine ⟨v', by rw [HW.out]; rfl, al9, c9, ?_, ?_, r2, ?_, hb3.trans (hb4.mono hb3.size)⟩
        · rw [HW.out]; exact e9
        · rw [HW.out]; exact r1
        · rw [HW.out]; exact hown2
end Go.Proofs.YtiilkjonbfllfaaDoor
