/- VerifyExtension, walked. -/
import Derived.Test.YtiilkjonbfllfaaDoorVexM
import Derived.Deep.DeepCutAuto
namespace Go.Proofs.YtiilkjonbfllfaaDoor
open Go.RowKit

theorem strs_two (w : World) (a b : ByteArray) : Strs (w.alloc (Obj.cells #[Value.string a, Value.string b] 9)) (some ⟨w.heap.size, 0, none⟩) 2 [a, b] := by
  refine ⟨rfl, .inr ⟨w.heap.size, 0, rfl, by simp, fun i hi => ?_⟩⟩
  rw [cell_of_row _ _ _ _ _ _ (heap_new' _ _ _ rfl)]
  match i, hi with
  | 0, _ => rfl
  | 1, _ => rfl
/-- A slice cut behind its first elements, whatever its room. -/
theorem run_cut_tail {P : Program} (t e : TypeId) (hu : P.underlying t = some (.slice e)) (hs : (P.info? e).map (·.size) = some 1) (g o n c h : Nat) (hh : h ≤ n) (hn : n ≤ c) :
    ∃ al, (∀ w, (Instr.slice t (.slice (some ⟨g, o, none⟩) n c) (some (.int .i64 h)) none none).run P w = .ok (.slice al (n - h) (c - h)) w) ∧ (h < n → al = some ⟨g, o + h, none⟩) := by
  by_cases hc : h < c
  · exact ⟨some ⟨g, o + h * 1, none⟩, run_cut_from t e 1 hu hs g o n c h hh hc, fun _ => by rw [Nat.mul_one]⟩
  · obtain rfl : h = n := by omega
    obtain rfl : c = h := by omega
    refine ⟨some ⟨g, o, none⟩, fun w => ?_, fun h => by omega⟩
    cases hq : P.info? e with
    | none => simp [hq] at hs
    | some i =>
      simp [Instr.slice, Instr.sliceBounds, Instr.sliceBound, asIntOf, run_underlying hu, sizeOf, typeInfo, hq, go_sem]

set_option maxRecDepth 100000 in
set_option maxHeartbeats 2000000 in
theorem vex_early (old root : ByteArray) (m n : Int) (_hm1 : -9223372036854775808 ≤ m) (al : Option Addr) (k c : Nat) (ps : List ByteArray) (hk : k ≤ 1000000) (w : World) (h : Strs w al k ps) (hsz : ∀ s ∈ ps, s.size ≤ maxLen) (ho : old.size ≤ maxLen) (hr : root.size ≤ maxLen) (_hT : Tab w)
    (hbad : m < 0 ∨ n < m ∨ okD [old, root] = false ∨ okD ps = false) :
    Calls Tryd.prog 31 #[.string old, .int .i64 m, .string root, .int .i64 n, .slice al k c] w fun e w' => e = .returned (.bool (vexS old m root n ps)) ∧ Below w.heap.size w w' := by
  by_cases h0 : m < 0
  · rw [vex_bad1 old root m n ps (.inl h0)]
    have h0' : decide (m < 0) = true := by simp; omega
    go_enter Tryd.func31, Tryd.ntmps31
    go_wp2_with fail
    go_ret
    exact ⟨rfl, Below.refl _ _⟩
  · have h0' : decide (m < 0) = false := by simp; omega
    by_cases h1 : n < m
    · rw [vex_bad1 old root m n ps (.inr h1)]
      go_enter Tryd.func31, Tryd.ntmps31
      go_wp2_with fail
      go_ret
      exact ⟨rfl, Below.refl _ _⟩
    · have h1' : decide (n < m) = false := by simp; omega
      have C1 := Lib.hid (areDigests_any (some ⟨w.heap.size, 0, none⟩) 2 2 [old, root] (by omega) _ (strs_two w old root) (fun s hs => by
        rcases List.mem_cons.1 hs with rfl | hs
        · exact ho
        · obtain rfl := List.mem_singleton.1 hs; exact hr))
      have hW := h.below ((Below.refl _ _).alloc (Nat.le_refl _) (Obj.cells #[Value.string old, Value.string root] 9))
      have C2 := Lib.hid (areDigests_any al k c ps hk _ hW hsz)
      cases h2 : okD [old, root] with
      | false =>
        rw [vex_bad2 old root m n ps h2]
        have C := Lib.hid (h2 ▸ C1.out)
        clear h2 C1 C2 hbad
        go_enter Tryd.func31, Tryd.ntmps31
        go_wp2_with fail
        refine C.out.mono ?_
        rintro e w1 ⟨rfl, rfl⟩
        go_wp2_with fail
        go_ret
        exact ⟨rfl, (Below.refl _ _).alloc (Nat.le_refl _) _⟩
      | true =>
        have h3 : okD ps = false := by
          rcases hbad with h | h | h | h
          · exact absurd h h0
          · exact absurd h h1
          · rw [h2] at h; cases h
          · exact h
        rw [vex_bad3 old root m n ps h3]
        have C := Lib.hid (h2 ▸ C1.out)
        have C3 := Lib.hid (h3 ▸ C2.out)
        clear h2 h3 C1 C2 hbad
        go_enter Tryd.func31, Tryd.ntmps31
        go_wp2_with fail
        refine C.out.mono ?_
        rintro e w1 ⟨rfl, rfl⟩
        go_wp2_with fail
        refine C3.out.mono ?_
        rintro e w1 ⟨rfl, rfl⟩
        go_wp2_with fail
        go_ret
        exact ⟨rfl, (Below.refl _ _).alloc (Nat.le_refl _) _⟩

theorem strs_out {w : World} {al : Option Addr} {n : Nat} {ps : List ByteArray} (h : Strs w al n ps) {k : Nat} (hk : k < n) :
    ∃ g o, al = some ⟨g, o, none⟩ ∧ g < w.heap.size ∧ ∀ i, i < n → w.cell? ⟨g, o + i, none⟩ = some (.string (ps.getD i ByteArray.empty)) := h.2.resolve_left (by omega)

set_option maxRecDepth 100000 in
set_option maxHeartbeats 2000000 in
theorem vex_zero_any (old root : ByteArray) (n : Nat) (_hn : n ≤ 9223372036854775807) (al : Option Addr) (k c : Nat) (ps : List ByteArray) (hk : k ≤ 1000000) (w : World) (h : Strs w al k ps) (hsz : ∀ s ∈ ps, s.size ≤ maxLen) (hT : Tab w)
    (hoo : okD [old, root] = true) (hok : okD ps = true) :
    Calls Tryd.prog 31 #[.string old, .int .i64 (0 : Nat), .string root, .int .i64 n, .slice al k c] w fun e w' => e = .returned (.bool (vexS old (0 : Nat) root n ps)) ∧ Below w.heap.size w w' := by
  obtain ⟨hos, hrs⟩ := okD_two hoo
  have HV := Lib.hid (vex_zero old root n ps hok hos hrs)
  have hb0 : Below w.heap.size w (w.alloc (Obj.cells #[Value.string old, Value.string root] 9)) := (Below.refl _ _).alloc (Nat.le_refl _) _
  have C1 := areDigests_any (some ⟨w.heap.size, 0, none⟩) 2 2 [old, root] (by omega) _ (strs_two w old root) (fun s hs => by
    unfold maxLen
    rcases List.mem_cons.1 hs with rfl | hs
    · omega
    · obtain rfl := List.mem_singleton.1 hs; omega)
  have C2 := areDigests_any al k c ps hk _ (h.below hb0) hsz
  rw [hoo] at C1
  rw [hok] at C2
  have D1 := Lib.hid C1; have D2 := Lib.hid C2
  have hT1 := hT.below hb0 hT.1
  have h0' : decide (((0 : Nat) : Int) < 0) = false := by simp
  have h1' : decide ((n : Int) < 0) = false := by simp
  have hl := h.1
  have HL := Lib.hid hl
  clear C1 C2 hoo hok hos hrs h hsz hl
  by_cases hk0 : k = 0
  · subst hk0
    obtain rfl : ps = [] := List.length_eq_zero_iff.1 HL.out
    go_enter Tryd.func31, Tryd.ntmps31
    go_wp2_with fail
    refine D1.out.mono ?_
    rintro e w1 ⟨rfl, rfl⟩
    go_wp2_with fail
    refine D2.out.mono ?_
    rintro e w1 ⟨rfl, rfl⟩
    go_wp2_with fail
    refine (root_any 0 [] 0 0 0 0 none _ (Nat.le_refl _) rfl (by omega) (Nat.le_refl _) (by decide) (fun s hs => by cases hs) hT1 (.inl rfl)).mono ?_
    rintro e w2 ⟨rfl, hb2⟩
    have hB2 := below1 hb0 hb2
    clear hb2
    go_wp2_with fail
    go_ret
    refine ⟨?_, hB2⟩
    rw [HV.out, ← str_eq]; rfl
  · have hkn : ((k : Int) == 0) = false := by rw [beq_eq_false_iff_ne]; omega
    have HV2 := Lib.hid (show vexS old (0 : Nat) root n ps = false by
      rw [HV.out]
      cases ps with
      | nil => exact absurd HL.out.symm hk0
      | cons x ps => rfl)
    clear hk0
    go_enter Tryd.func31, Tryd.ntmps31
    go_wp2_with fail
    refine D1.out.mono ?_
    rintro e w1 ⟨rfl, rfl⟩
    go_wp2_with fail
    refine D2.out.mono ?_
    rintro e w1 ⟨rfl, rfl⟩
    go_wp2_with fail
    go_ret
    exact ⟨by rw [HV2.out]; rfl, hb0⟩

set_option maxRecDepth 100000 in
set_option maxHeartbeats 4000000 in
theorem vex_main (old root : ByteArray) (i n : Nat) (hi : i < n) (hn : n ≤ 9223372036854775807) (al : Option Addr) (k c : Nat) (ps : List ByteArray) (hk : k ≤ 1000000) (hkc : k ≤ c) (_hc : c ≤ maxLen) (w : World) (h : Strs w al k ps) (hsz : ∀ s ∈ ps, s.size ≤ maxLen) (hT : Tab w)
    (hoo : okD [old, root] = true) (hok : okD ps = true) :
    Calls Tryd.prog 31 #[.string old, .int .i64 (i + 1 : Nat), .string root, .int .i64 n, .slice al k c] w fun e w' => e = .returned (.bool (vexS old (i + 1 : Nat) root n ps)) ∧ Below w.heap.size w w' := by
  obtain ⟨hos, hrs⟩ := okD_two hoo
  have HV1 := Lib.hid (vex_walk old root (i + 1) n ps (by omega) (by omega) hok hos hrs)
  have HV2 := Lib.hid (vex_len old root (i + 1) n ps (by omega) (by omega) hok hos hrs)
  have hz : 0 < w.heap.size := hT.1
  have hb0 : Below w.heap.size w (w.alloc (Obj.cells #[Value.string old, Value.string root] 9)) := (Below.refl _ _).alloc (Nat.le_refl _) _
  have C1 := areDigests_any (some ⟨w.heap.size, 0, none⟩) 2 2 [old, root] (by omega) _ (strs_two w old root) (fun s hs => by
    unfold maxLen
    rcases List.mem_cons.1 hs with rfl | hs
    · omega
    · obtain rfl := List.mem_singleton.1 hs; omega)
  have C2 := areDigests_any al k c ps hk _ (h.below hb0) hsz
  rw [hoo] at C1
  rw [hok] at C2
  have D1 := Lib.hid C1; have D2 := Lib.hid C2
  have h0' : decide (((i + 1 : Nat) : Int) < 0) = false := by simp; omega
  have h1' : decide (n < i + 1) = false := by simp; omega
  have h3' : i + 1 ≤ n := by omega
  have h2' : (((i + 1 : Nat) : Int) == 0) = false := by rw [beq_eq_false_iff_ne]; omega
  have HL := Lib.hid h; have HSZ := Lib.hid hsz; have HOK := Lib.hid hok; have HOS := Lib.hid hos; have HT := Lib.hid hT
  unfold maxLen at _hc
  clear C1 C2 hoo hok hos hrs h hsz hT
  obtain ⟨M, hM⟩ : ∃ M, i + 1 = M := ⟨_, rfl⟩
  have BS := Lib.hid (fun w2 => bsB_any n i hi hn w2)
  rw [hM] at h0' h1' h2' h3' HV1 HV2 BS ⊢
  have HM := Lib.hid hM; clear hM
  go_enter Tryd.func31, Tryd.ntmps31
  go_wp2_with fail
  refine D1.out.mono ?_
  rintro e w1 ⟨rfl, rfl⟩
  go_wp2_with fail
  refine D2.out.mono ?_
  rintro e w1 ⟨rfl, rfl⟩
  go_wp2_with fail
  refine (BS.out _).mono ?_
  rintro e w1 ⟨v, rfl, hsp, hb1⟩
  have hB1 := below1 hb0 hb1
  obtain ⟨d, hd⟩ : ∃ d, dB n M = d := ⟨_, rfl⟩
  rw [hd] at hsp HV1 HV2 ⊢
  clear hb0 hb1 hd D1 D2 BS
  obtain ⟨al2, c2, rfl, hl2, hc2, hcs⟩ := hsp.form
  have HCS := Lib.hid hcs
  clear hcs hsp
  obtain ⟨⟨lf, lt⟩, bs0⟩ := d
  dsimp only at HV1 HV2 ⊢
  obtain ⟨bs, hbs⟩ : ∃ bs, bs0.reverse = bs := ⟨_, rfl⟩
  have hbl : bs0.length = bs.length := by rw [← hbs, List.length_reverse]
  rw [hbs] at HV1 HCS hl2 ⊢
  rw [hbl] at HV1 HV2
  clear hbs hbl
  have hBL : Below w.heap.size w (w1.alloc (Obj.cells #[Value.int .i64 lf, Value.int .i64 lt] 57)) := hB1.alloc hB1.size _
  have hw1 : w.heap.size ≤ w1.heap.size := hB1.size
  obtain ⟨K, hK⟩ : ∃ K, (restP lf ps).length = K := ⟨_, rfl⟩
  have HK := Lib.hid hK; clear hK
  go_upto_if 56 with (fail)
  obtain ⟨w3, hw3⟩ : ∃ w3, w1.alloc (Obj.cells #[Value.int .i64 lf, Value.int .i64 lt] 57) = w3 := ⟨_, rfl⟩
  rw [hw3] at hBL
  have hL0 : w3.cell? ⟨w1.heap.size, 0, none⟩ = some (.int .i64 lf) := by rw [← hw3, cell_of_row _ _ _ _ _ _ (heap_new' _ _ _ rfl)]; rfl
  have hz3 : w3.heap.size = w1.heap.size + 1 := by rw [← hw3]; simp
  have hB13 : Below w1.heap.size w1 w3 := by rw [← hw3]; exact (Below.refl _ _).alloc (Nat.le_refl _) _
  have hS3 := HL.out.below hBL
  have HS3 := Lib.hid hS3
  have HW3 := Lib.hid hw3
  have HBL := Lib.hid hBL
  clear hS3 hw3 hBL
  go_cut [4, 13] (fun s4 s13 wx => ∃ al3 c3 m3, s4 = .slice al3 K c3 ∧ s13 = .string (loP lf old ps) ∧ Strs w3 al3 K (restP lf ps) ∧ k = lenQ lf K ∧ wx = w3.drewN m3)
  case first =>
    rw [HW3.out]
    by_cases hlf : 0 < lf
    · have hlfI : (0 : Int) < lf := by omega
      by_cases hk0 : k = 0
      · have HV3 := Lib.hid (HV2.out (by rw [HL.out.1, hk0, lenQ, if_pos hlf]; omega))
        have hkn : ((k : Int) == 0) = true := by rw [beq_iff_eq]; omega
        clear hk0
        go_wp2_with fail
        go_ret
        exact ⟨by rw [HV3.out]; rfl, HBL.out⟩
      · have hkn : ((k : Int) == 0) = false := by rw [beq_eq_false_iff_ne]; omega
        have hk1 : (0 : Int) < k := by omega
        obtain ⟨g, o, rfl, hg, hcs⟩ := strs_out HS3.out (show 0 < k by omega)
        have hc0 := hcs 0 (by omega)
        rw [Nat.add_zero] at hc0
        obtain ⟨al3, hcut, hal3⟩ := run_cut_tail (P := Tryd.prog) 26 9 Tryd.underlying26 (by kernel_rfl) g o k c 1 (by omega) hkc
        have hcut' : ∀ w, (Instr.slice 26 (.slice (some ⟨g, o, none⟩) k c) (some (.int .i64 1)) none none).run Tryd.prog w = .ok (.slice al3 (k - 1) (c - 1)) w := hcut
        have HAL := Lib.hid hal3; have HCC := Lib.hid hcs
        have hKK : K = k - 1 := by rw [← HK.out, restP, if_pos hlf, List.length_tail, HL.out.1]
        have HKK := Lib.hid hKK
        have hlo : ps.getD 0 ByteArray.empty = loP lf old ps := by
          rw [loP, if_pos hlf]; cases ps <;> rfl
        rw [hlo] at hc0
        clear hcut hal3 hcs hKK hlo hk0
        go_wp2_with fail
        go_quiet (fail)
        go_wp2_with fail
        go_meet
        refine ⟨al3, c - 1, nq, by rw [HKK.out], rfl, ⟨HK.out, ?_⟩, ?_, rfl⟩
        · rcases Nat.eq_zero_or_pos K with h0 | h0
          · exact .inl h0
          · have := HKK.out
            refine .inr ⟨g, o + 1, HAL.out (by omega), hg, fun j hj => ?_⟩
            rw [Nat.add_assoc, HCC.out _ (by omega), restP, if_pos hlf]
            cases ps with
            | nil => have := HS3.out.1; simp at this; omega
            | cons x ps => rw [Nat.add_comm 1 j, List.getD_cons_succ]; rfl
        · rw [lenQ, if_pos hlf]; have := HKK.out; omega
    · have hlf0 : lf = 0 := by omega
      subst hlf0
      go_wp2_with fail
      go_meet
      have hKk : K = k := by rw [← HK.out]; exact HS3.out.1
      exact ⟨al, c, 0, by rw [hKk], rfl, by rw [hKk]; exact HS3.out, by rw [hKk]; rfl, rfl⟩
  case rest =>
    obtain ⟨al3, c3, m3, rfl, rfl, hS, hkq, rfl⟩ := hcut
    have HS := Lib.hid hS; have HKQ := Lib.hid hkq
    clear hS hkq
    by_cases hlen : K = bs.length
    · have HV3 := Lib.hid (HV1.out (by rw [HL.out.1, HKQ.out, hlen]))
      have hne : ((K : Int) == bs.length) = true := by rw [beq_iff_eq]; omega
      have hne2 : ((K : Int) != bs.length) = false := by simp; omega
      have HLN := Lib.hid hlen; clear hlen HV1 HV2
      unfold maxLen at hc2
      have hB3 := below_drewN HBL.out m3
      have hL3 : (w3.drewN m3).cell? ⟨w1.heap.size, 0, none⟩ = some (.int .i64 lf) := hL0
      have HS3' : Strs (w3.drewN m3) al3 K (restP lf ps) := HS.out
      have hz3' : (w3.drewN m3).heap.size = w1.heap.size + 1 := hz3
      have hB13' : Below w1.heap.size w1 (w3.drewN m3) := below_drewN hB13 m3
      generalize w3.drewN m3 = w4 at hB3 hL3 HS3' hz3' hB13' ⊢
      clear hB13 hz3 hL0 HS3 HS HW3 HBL
      have hlos : (loP lf old ps).size = 32 := by
        unfold loP
        by_cases h : 0 < lf
        · rw [if_pos h]
          have hk1 : 0 < k := by rw [HKQ.out, lenQ, if_pos h]; omega
          have hl := HL.out.1
          cases ps with
          | nil => simp at hl; omega
          | cons x ps => exact okD_at HOK.out x (List.mem_cons_self ..)
        · rw [if_neg h]; exact HOS.out
      have hK100 : K ≤ 1000000 := by have := HKQ.out; unfold lenQ at this; by_cases h : 0 < lf <;> simp [h] at this <;> omega
      have HS4 := Lib.hid HS3'
      have hT4 := HT.out.below hB3 hz
      clear HS3'
      go_wp2_with fail
      go_loopw [14, 15, 74] (fun v14 v15 iv wr => ∃ j : Nat, iv = .int .i64 j ∧ v14 = .string (bothK lf (loP lf old ps) bs (restP lf ps) j).1 ∧ v15 = .string (bothK lf (loP lf old ps) bs (restP lf ps) j).2 ∧ j ≤ K ∧ Below w4.heap.size w4 wr) (fun _ _ iv _ => K - (intOf iv).toNat)
      case atStart => exact ⟨0, rfl, rfl, rfl, Nat.zero_le _, Below.refl _ _⟩
      case round =>
        obtain ⟨j, rfl, rfl, rfl, hj, hBr⟩ := hrel
        by_cases hlt : j < K
        · have hTr := hT4.below hBr (by have := hB3.size; omega)
          obtain ⟨g, o, rfl, hg, hcs⟩ := strs_out HS4.out hlt
          have hx : (restP lf ps)[j]? = some ((restP lf ps).getD j ByteArray.empty) := by rw [List.getD_eq_getElem?_getD, List.getElem?_eq_getElem (by rw [HK.out]; exact hlt)]; rfl
          have hc0 := (hBr.cell (p := ⟨g, o + j, none⟩) hg).trans (hcs j hlt)
          obtain ⟨p, hp⟩ : ∃ p, bs[j]? = some p := ⟨bs[j]'(by rw [← HLN.out]; exact hlt), List.getElem?_eq_getElem _⟩
          obtain ⟨g2, rfl, hg2, hp0, hp1⟩ := HCS.out j p hp
          have hc1 := (hBr.cell (p := ⟨g2, j * 2, none⟩) (show g2 < w4.heap.size by omega)).trans ((hB13'.cell (p := ⟨g2, j * 2, none⟩) hg2).trans hp0)
          have hcL := (hBr.cell (p := ⟨w1.heap.size, 0, none⟩) (show w1.heap.size < w4.heap.size by omega)).trans hL3
          have hjb : (j : Int) < bs.length := by have := HLN.out; omega
          have hj0 : (0 : Int) ≤ j := by omega
          have hmem : (restP lf ps).getD j ByteArray.empty ∈ ps := by
            have hm := List.mem_of_getElem? hx
            unfold restP at hm ⊢
            by_cases h : 0 < lf
            · rw [if_pos h] at hm ⊢; exact List.mem_of_mem_tail hm
            · rw [if_neg h] at hm ⊢; exact hm
          have hxs := okD_at HOK.out _ hmem
          have hvs := bothS_size lf (loP lf old ps) hlos (bs.take j).reverse ((restP lf ps).take j).reverse
          have HSTEP := Lib.hid (bothK_step lf (loP lf old ps) bs (restP lf ps) j p _ hp hx)
          have HXS := Lib.hid (show ((restP lf ps).getD j ByteArray.empty).size ≤ 400000 by omega)
          have HVS := Lib.hid (show (bothK lf (loP lf old ps) bs (restP lf ps) j).1.size ≤ 400000 ∧ (bothK lf (loP lf old ps) bs (restP lf ps) j).2.size ≤ 400000 by unfold bothK; omega)
          clear hcs hx hp hp0 hp1 hxs hvs hmem
          generalize (restP lf ps).getD j ByteArray.empty = x at *
          generalize bothK lf (loP lf old ps) bs (restP lf ps) j = vk at *
          by_cases hpI : p.1 < lf
          · have hd : ((p.1 : Int) < lf) := by omega
            have hS := HSTEP.out
            rw [if_pos hpI] at hS
            have HSS := Lib.hid hS
            clear hS HSTEP
            go_wp2_with fail
            go_quiet (fail)
            go_wp2_with fail
            have hB4 := below_drewN hBr nq
            have hT5 := hT4.below hB4 (by have := hB3.size; omega)
            refine (node_any x vk.1 HXS.out HVS.out.1 _ hT5).mono ?_
            rintro e w5 ⟨rfl, hb5⟩
            have hB5 := hB4.trans (hb5.mono hB4.size)
            have hT6 := hT4.below hB5 (by have := hB3.size; omega)
            clear hb5 hT5
            go_wp2_with fail
            refine (node_any x vk.2 HXS.out HVS.out.2 _ hT6).mono ?_
            rintro e w6 ⟨rfl, hb6⟩
            have hB6 := hB5.trans (hb6.mono hB5.size)
            clear hb6 hT6 hBr hB4 hB5 hTr
            go_wp2_with fail
            exact ⟨⟨j + 1, by go_num, by rw [HSS.out], by rw [HSS.out], by omega, hB6⟩, by simp [intOf]; omega⟩
          · have hd : ((lf : Int) ≤ p.1) := by omega
            have hS := HSTEP.out
            rw [if_neg hpI] at hS
            have HSS := Lib.hid hS
            clear hS HSTEP
            go_wp2_with fail
            go_quiet (fail)
            go_wp2_with fail
            have hB4 := below_drewN hBr nq
            have hT5 := hT4.below hB4 (by have := hB3.size; omega)
            refine (node_any vk.2 x HVS.out.2 HXS.out _ hT5).mono ?_
            rintro e w5 ⟨rfl, hb5⟩
            have hB5 := hB4.trans (hb5.mono hB4.size)
            clear hb5 hT5 hBr hB4 hTr
            go_wp2_with fail
            exact ⟨⟨j + 1, by go_num, by rw [HSS.out], by rw [HSS.out], by omega, hB5⟩, by simp [intOf]; omega⟩
        · have hjm : j = bs.length := by have := HLN.out; omega
          have hBw : Below w.heap.size w wr := hB3.trans (hBr.mono hB3.size)
          have HJ := Lib.hid hjm
          clear hjm hT4
          have HV4 := HV3.out
          rw [← HJ.out, ← str_eq, ← str_eq] at HV4
          have HV5 := Lib.hid HV4
          clear HV4
          cases he : ((bothK lf (loP lf old ps) bs (restP lf ps) j).1.toList == old.toList) with
          | false =>
            have HE := Lib.hid (show vexS old M root n ps = false by rw [HV5.out, he]; rfl)
            go_wp2_with fail
            go_ret
            refine ⟨?_, hBw⟩
            rw [HE.out]; rfl
          | true =>
            have HE := Lib.hid (show vexS old M root n ps = ((bothK lf (loP lf old ps) bs (restP lf ps) j).2.toList == root.toList) by rw [HV5.out, he]; rfl)
            go_wp2_with fail
            go_ret
            refine ⟨?_, hBw⟩
            rw [HE.out]; rfl
    · have HV3 := Lib.hid (HV2.out (by rw [HL.out.1, HKQ.out]; unfold lenQ; by_cases h : 0 < lf <;> simp [h] <;> omega))
      have hne : ((K : Int) == bs.length) = false := by rw [beq_eq_false_iff_ne]; omega
      have hne2 : ((K : Int) != bs.length) = true := by simpa using hne
      clear hlen
      unfold maxLen at hc2
      have hB := below_drewN HBL.out m3
      go_wp2_with fail
      go_ret
      exact ⟨by rw [HV3.out]; rfl, hB⟩

theorem vex_any (old root : ByteArray) (m n : Int) (hm1 : -9223372036854775808 ≤ m) (hn : n ≤ 9223372036854775807) (al : Option Addr) (k c : Nat) (ps : List ByteArray) (hk : k ≤ 1000000) (hkc : k ≤ c) (hc : c ≤ maxLen) (w : World) (h : Strs w al k ps) (hsz : ∀ s ∈ ps, s.size ≤ maxLen) (ho : old.size ≤ maxLen) (hr : root.size ≤ maxLen) (hT : Tab w) :
    Calls Tryd.prog 31 #[.string old, .int .i64 m, .string root, .int .i64 n, .slice al k c] w fun e w' => e = .returned (.bool (vexS old m root n ps)) ∧ Below w.heap.size w w' := by
  by_cases hbad : m < 0 ∨ n < m ∨ okD [old, root] = false ∨ okD ps = false
  · exact vex_early old root m n hm1 al k c ps hk w h hsz ho hr hT hbad
  · have h0 : ¬ m < 0 := fun h => hbad (.inl h)
    have h1 : ¬ n < m := fun h => hbad (.inr (.inl h))
    have h2 : okD [old, root] = true := by
      cases h : okD [old, root] with
      | true => rfl
      | false => exact absurd (.inr (.inr (.inl h))) hbad
    have h3 : okD ps = true := by
      cases h : okD ps with
      | true => rfl
      | false => exact absurd (.inr (.inr (.inr h))) hbad
    obtain ⟨M, rfl⟩ := Int.eq_ofNat_of_zero_le (show 0 ≤ m by omega)
    obtain ⟨N, rfl⟩ := Int.eq_ofNat_of_zero_le (show 0 ≤ n by omega)
    cases M with
    | zero => exact vex_zero_any old root N (by omega) al k c ps hk w h hsz hT h2 h3
    | succ i => exact vex_main old root i N (by omega) (by omega) al k c ps hk hkc hc w h hsz hT h2 h3
end Go.Proofs.YtiilkjonbfllfaaDoor
