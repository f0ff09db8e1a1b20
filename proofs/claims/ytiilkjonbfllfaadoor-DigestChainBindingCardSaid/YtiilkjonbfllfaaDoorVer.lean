/- areDigests, besideEntry, Verify, walked. -/
import Derived.Test.YtiilkjonbfllfaaDoorDesB
namespace Go.Proofs.YtiilkjonbfllfaaDoor
open Go.RowKit

/-- A slice that holds texts. -/
def Strs (w : World) (al : Option Addr) (n : Nat) (ps : List ByteArray) : Prop :=
  ps.length = n ∧ (n = 0 ∨ ∃ g o, al = some ⟨g, o, none⟩ ∧ g < w.heap.size ∧ ∀ i, i < n → w.cell? ⟨g, o + i, none⟩ = some (.string (ps.getD i ByteArray.empty)))
theorem Strs.below {w w' : World} {al : Option Addr} {n : Nat} {ps : List ByteArray} (h : Strs w al n ps) (hb : Below w.heap.size w w') : Strs w' al n ps :=
  ⟨h.1, h.2.imp id fun ⟨g, o, e, hg, hc⟩ => ⟨g, o, e, Nat.lt_of_lt_of_le hg hb.size, fun i hi => (hb.cell (p := ⟨g, o + i, none⟩) hg).trans (hc i hi)⟩⟩
theorem Strs.far {w w' : World} {al : Option Addr} {n B : Nat} {ps : List ByteArray} (h : Strs w al n ps) (hb : Below B w w') (hB : w.heap.size ≤ B) : Strs w' al n ps := h.below (hb.mono hB)
theorem okD_take (ps : List ByteArray) (k : Nat) (h : k < ps.length) : okD (ps.take (k + 1)) = (okD (ps.take k) && (ps.getD k ByteArray.empty).size == 32) := by
  rw [List.take_succ_eq_append_getElem h, okD, List.all_append, List.getD_eq_getElem?_getD, List.getElem?_eq_getElem h]; simp [okD]
theorem okD_false {ps : List ByteArray} {k : Nat} (h : k < ps.length) (hs : (ps.getD k ByteArray.empty).size ≠ 32) : okD ps = false := by
  rw [Bool.eq_false_iff]
  intro ht
  refine hs (okD_at ht _ ?_)
  rw [List.getD_eq_getElem?_getD, List.getElem?_eq_getElem h]; exact List.getElem_mem _
theorem okD_step {ps : List ByteArray} {k : Nat} (h : k < ps.length) (h0 : okD (ps.take k) = true) (hs : (ps.getD k ByteArray.empty).size = 32) : okD (ps.take (k + 1)) = true := by
  rw [okD_take _ _ h, h0, hs]; rfl

set_option maxHeartbeats 1000000 in
theorem areDigests_any (al : Option Addr) (n c : Nat) (ps : List ByteArray) (hn : n ≤ 1000000) (w : World) (h : Strs w al n ps) (hsz : ∀ s ∈ ps, s.size ≤ maxLen) :
    Calls Tryd.prog 50 #[.slice al n c] w fun e w' => e = .returned (.bool (okD ps)) ∧ w = w' := by
  obtain ⟨hl, hc⟩ := h
  have HL := Lib.hid hl; have HC := Lib.hid hc; have HSZ := Lib.hid hsz
  clear hl hc hsz
  go_enter Tryd.func50, Tryd.ntmps50
  go_wp2
  go_loop [7] (fun iv => ∃ k : Nat, iv = .int .i64 k ∧ k ≤ n ∧ okD (ps.take k) = true) (fun iv => n - (intOf iv).toNat)
  case atStart => exact ⟨0, rfl, Nat.zero_le _, rfl⟩
  case round =>
    obtain ⟨k, rfl, hk, hok⟩ := hrel
    have HOK := Lib.hid hok; clear hok
    by_cases hlt : k < n
    · obtain ⟨g, o, rfl, hg, hcs⟩ := HC.out.resolve_left (by omega)
      have hc := hcs k hlt
      have hmem : ps.getD k ByteArray.empty ∈ ps := by
        rw [List.getD_eq_getElem?_getD, List.getElem?_eq_getElem (by rw [HL.out]; exact hlt)]; exact List.getElem_mem _
      have hz := HSZ.out _ hmem
      have HF := Lib.hid (fun h => okD_false (ps := ps) (k := k) (by rw [HL.out]; exact hlt) h)
      have HS := Lib.hid (fun h => okD_step (ps := ps) (k := k) (by rw [HL.out]; exact hlt) HOK.out h)
      clear hcs hmem
      generalize ps.getD k ByteArray.empty = p at hc hz HF HS
      unfold maxLen at hz
      by_cases hp : p.size = 32
      · have h32 : (p.size : Int) = 32 := by omega
        have HP := Lib.hid hp; clear hp
        go_wp2
        go_round
        case rel => exact ⟨k + 1, by go_num, by omega, HS.out HP.out⟩
        case measure => simp [intOf]; omega
      · have h32 : ((p.size : Int) == 32) = false := by rw [beq_eq_false_iff_ne]; omega
        have h33 : ((p.size : Int) != 32) = true := by simpa using h32
        have HF2 := Lib.hid (HF.out hp)
        clear hp
        go_wp2
        go_ret
        exact ⟨by rw [HF2.out]; rfl, rfl⟩
    · have HE := Lib.hid (show okD ps = true by
        have h := HOK.out
        rw [List.take_of_length_le (by rw [HL.out]; omega)] at h
        exact h)
      go_wp2
      go_ret
      exact ⟨by rw [HE.out]; rfl, rfl⟩

theorem SpRow.below {w w1 : World} {g c : Nat} {xs : List Sp} (h : SpRow w g c xs) (hb : Below w.heap.size w w1) : SpRow w1 g c xs := by
  obtain ⟨cur, hg, hr⟩ := h
  exact ⟨cur, (hb.block _ (Array.getElem?_eq_some_iff.1 hg).1).trans hg, hr⟩
theorem SpHeld.below {w w1 : World} {B : Nat} {v : Value} {xs : List Sp} (h : SpHeld w B v xs) (hb : Below w.heap.size w w1) : SpHeld w1 B v xs := by
  rcases h with h | ⟨g, c, h1, h2, h3, h4⟩
  · exact .inl h
  · exact .inr ⟨g, c, h1, h2, h3.below hb, h4⟩
def SpOut (w : World) (xs : List Sp) (e : Ending) (w' : World) : Prop := ∃ v, e = .returned v ∧ SpHeld w' w.heap.size v xs ∧ Below w.heap.size w w'
theorem bsE_any (n i : Nat) (hi : i < n) (hn : n ≤ 9223372036854775807) (w : World) :
    Calls Tryd.prog 44 #[.int .i64 n, .int .i64 i] w (SpOut w (bsE n i).reverse) := by
  go_enter Tryd.func44, Tryd.ntmps44
  go_wp2_with fail
  refine (descE_any n i hi hn _).mono ?_
  rintro e w1 ⟨v, rfl, hsp, hb⟩
  go_wp2_with fail
  go_ret
  refine ⟨v, rfl, ?_, (hb.alloc hb.size _)⟩
  exact hsp.below ((Below.refl _ _).alloc (Nat.le_refl _) _)

theorem SpHeld.form {w : World} {B : Nat} {v : Value} {xs : List Sp} (h : SpHeld w B v xs) :
    ∃ al c, v = .slice al xs.length c ∧ xs.length ≤ c ∧ c ≤ maxLen ∧ ∀ k p, xs[k]? = some p → ∃ g, al = some ⟨g, 0, none⟩ ∧ g < w.heap.size ∧ w.cell? ⟨g, k * 2, none⟩ = some (i64V p.1) ∧ w.cell? ⟨g, k * 2 + 1, none⟩ = some (i64V p.2) := by
  rcases h with ⟨rfl, rfl⟩ | ⟨g, c, rfl, _, hr, hc⟩
  · exact ⟨none, 0, rfl, Nat.le_refl _, by decide, fun k p hk => by simp at hk⟩
  · exact ⟨some ⟨g, 0, none⟩, c, rfl, by obtain ⟨_, _, _, hl, _⟩ := hr; exact hl, hc, fun k p hk => ⟨g, rfl, block_lt_of_cell (hr.cells hk).1, hr.cells hk⟩⟩
theorem valS_size (i : Nat) (s : ByteArray) : ∀ (bs : List Sp) (q : List ByteArray), (valS i s bs q).size = 32
  | p :: bs, x :: q => by
    rw [valS]
    by_cases h : p.1 < i
    · rw [if_pos h]; exact dg_size _
    · rw [if_neg h]; exact dg_size _
  | [], _ => by rw [valS]; exact dg_size _; intro _ _ _ _ h; cases h
  | _ :: _, [] => by rw [valS]; exact dg_size _; intro _ _ _ _ _ h; cases h
theorem str_eq (a b : ByteArray) : (a.toList == b.toList) = decide (a = b) := by
  rw [Bool.eq_iff_iff, beq_iff_eq, decide_eq_true_eq, Lib.toList_data, Lib.toList_data]
  exact ⟨fun h => ba_ext h, fun h => by rw [h]⟩
/-- The value behind the lowest k elements. -/
def valK (i : Nat) (s : ByteArray) (bs : List Sp) (ps : List ByteArray) (k : Nat) : ByteArray := valS i s (bs.take k).reverse (ps.take k).reverse
theorem valK_zero (i : Nat) (s : ByteArray) (bs : List Sp) (ps : List ByteArray) : valK i s bs ps 0 = leaf s := rfl
theorem valK_step (i : Nat) (s : ByteArray) (bs : List Sp) (ps : List ByteArray) (k : Nat) (p : Sp) (x : ByteArray) (hp : bs[k]? = some p) (hx : ps[k]? = some x) :
    valK i s bs ps (k + 1) = if p.1 < i then node x (valK i s bs ps k) else node (valK i s bs ps k) x := by
  have h1 := (List.getElem?_eq_some_iff.1 hp)
  have h2 := (List.getElem?_eq_some_iff.1 hx)
  unfold valK
  rw [List.take_succ_eq_append_getElem h1.1, List.take_succ_eq_append_getElem h2.1, List.reverse_append, List.reverse_append, h1.2, h2.2]
  rfl
theorem valK_end (i : Nat) (s : ByteArray) (bs : List Sp) (ps : List ByteArray) (k : Nat) (h1 : bs.length ≤ k) (h2 : ps.length ≤ k) : valK i s bs ps k = valS i s bs.reverse ps.reverse := by
  unfold valK; rw [List.take_of_length_le h1, List.take_of_length_le h2]
theorem verS_len {N I : Nat} (root s : ByteArray) (ps : List ByteArray) (hI : I < N) (h : ps.length ≠ (bsE N I).reverse.length) : verS root N I s ps = false := by
  have := (val_dsc I s _ 0 N ps.reverse rfl (Nat.zero_le _) hI).1
  rw [Nat.sub_zero, Nat.sub_zero] at this
  unfold verS
  rw [Int.toNat_natCast, Int.toNat_natCast, this]
  have hd : decide (ps.reverse.length = (dscR stopE 0 N I).2.length) = false := by
    rw [decide_eq_false_iff_not]; unfold bsE at h; simpa using h
  rw [hd]; simp
theorem verS_eq {N I : Nat} (root s : ByteArray) (ps : List ByteArray) (hI : I < N) (hok : okD ps = true) (h : ps.length = (bsE N I).reverse.length) : verS root N I s ps = decide (valK I s (bsE N I).reverse ps ps.length = root) := by
  have hv := val_dsc I s _ 0 N ps.reverse rfl (Nat.zero_le _) hI
  rw [Nat.sub_zero, Nat.sub_zero] at hv
  have hl : ps.reverse.length = (dscR stopE 0 N I).2.length := by unfold bsE at h; simpa using h
  unfold verS
  rw [Int.toNat_natCast, Int.toNat_natCast, hv.1, hv.2 hl, hok, valK_end _ _ _ _ _ (by omega) (Nat.le_refl _), List.reverse_reverse]
  simp [hl, hI, bsE]
  exact decide_eq_decide.2 Iff.rfl

set_option maxRecDepth 100000 in
set_option maxHeartbeats 2000000 in
theorem verify_any (root : ByteArray) (n i : Int) (hn : n ≤ 9223372036854775807) (hi : -9223372036854775808 ≤ i) (s : ByteArray) (hs : s.size ≤ 800000) (al : Option Addr) (m c : Nat) (ps : List ByteArray) (hm : m ≤ 1000000) (w : World) (h : Strs w al m ps) (hsz : ∀ s ∈ ps, s.size ≤ maxLen) (hT : Tab w) :
    Calls Tryd.prog 29 #[.string root, .int .i64 n, .int .i64 i, .string s, .slice al m c] w fun e w' => e = .returned (.bool (verS root n i s ps)) ∧ Below w.heap.size w w' := by
  by_cases h0 : i < 0
  · have hv : verS root n i s ps = false := by unfold verS; simp [show ¬ 0 ≤ i by omega]
    rw [hv]
    clear hv
    go_enter Tryd.func29, Tryd.ntmps29
    go_wp2_with fail
    go_ret
    exact ⟨rfl, Below.refl _ _⟩
  · by_cases h1 : n ≤ i
    · have hv : verS root n i s ps = false := by unfold verS; simp [show ¬ i < n by omega]
      rw [hv]
      clear hv
      have h0' : decide (i < 0) = false := by simp; omega
      go_enter Tryd.func29, Tryd.ntmps29
      go_wp2_with fail
      go_ret
      exact ⟨rfl, Below.refl _ _⟩
    · obtain ⟨I, rfl⟩ := Int.eq_ofNat_of_zero_le (show 0 ≤ i by omega)
      obtain ⟨N, rfl⟩ := Int.eq_ofNat_of_zero_le (show 0 ≤ n by omega)
      have hI : I < N := by omega
      have hz : 0 < w.heap.size := hT.1
      have h0' : decide ((I : Int) < 0) = false := by simp
      have h1' : decide ((N : Int) ≤ I) = false := by simp; omega
      cases hok : okD ps with
      | false =>
        have hv : verS root N I s ps = false := by unfold verS; simp [hok]
        rw [hv]
        have HOK := Lib.hid hok
        clear hv hok
        go_enter Tryd.func29, Tryd.ntmps29
        go_wp2_with fail
        refine (areDigests_any al m c ps hm _ h hsz).mono ?_
        rw [HOK.out]
        rintro e w1 ⟨rfl, rfl⟩
        go_wp2_with fail
        go_ret
        exact ⟨rfl, Below.refl _ _⟩
      | true =>
        have HOK := Lib.hid hok
        clear hok
        have HL1 := Lib.hid (fun h => verS_len root s ps hI h)
        have HL2 := Lib.hid (verS_eq root s ps hI HOK.out)
        go_enter Tryd.func29, Tryd.ntmps29
        go_wp2_with fail
        refine (areDigests_any al m c ps hm _ h hsz).mono ?_
        rw [HOK.out]
        rintro e w1 ⟨rfl, rfl⟩
        go_wp2_with fail
        refine (bsE_any N I hI (by omega) _).mono ?_
        rintro e w1 ⟨v, rfl, hsp, hb⟩
        obtain ⟨al2, c2, rfl, hl2, hc2, hcs⟩ := hsp.form
        have h' := h.below hb
        have hT1 := hT.below hb hz
        have HT1 := Lib.hid hT1
        obtain ⟨bs, hbs⟩ : ∃ bs, (bsE N I).reverse = bs := ⟨_, rfl⟩
        rw [hbs] at hl2 hcs HL1 HL2 ⊢
        have HCS := Lib.hid hcs
        obtain ⟨hlen, hpc⟩ := h'
        have HLEN := Lib.hid hlen; have HPC := Lib.hid hpc; have HSZ := Lib.hid hsz
        clear hcs h hlen hpc hsp hsz hbs hT
        by_cases hml : m = bs.length
        · have HV := Lib.hid (HL2.out (by rw [HLEN.out]; exact hml))
          have hne : ((m : Int) == bs.length) = true := by rw [beq_iff_eq]; omega
          have hne2 : ((m : Int) != bs.length) = false := by simp; omega
          have HML := Lib.hid hml; clear hml
          have hB1 := Lib.hid hb
          clear hb HL1 HL2
          unfold maxLen at hc2
          go_wp2_with fail
          refine (leaf_any s hs _ hT1).mono ?_
          rintro e w2 ⟨rfl, hb2⟩
          have hB2 := hB1.out.trans (hb2.mono hB1.out.size)
          have hT2 := hT1.below hb2 (by have := hB1.out.size; omega)
          have HB12 := Lib.hid hb2
          clear hb2 hT1
          go_wp2_with fail
          go_loopw [12, 39] (fun v iv wr => ∃ k : Nat, iv = .int .i64 k ∧ v = .string (valK I s bs ps k) ∧ k ≤ m ∧ Below w1.heap.size w1 wr) (fun _ iv _ => m - (intOf iv).toNat)
          case atStart => exact ⟨0, rfl, rfl, Nat.zero_le _, HB12.out⟩
          case round =>
            obtain ⟨k, rfl, rfl, hk, hBr⟩ := hrel
            have hTr : Tab wr := HT1.out.below hBr (by have := hB1.out.size; omega)
            by_cases hlt : k < m
            · obtain ⟨g, o, rfl, hg, hpc⟩ := HPC.out.resolve_left (by omega)
              have hx : ps[k]? = some (ps.getD k ByteArray.empty) := by rw [List.getD_eq_getElem?_getD, List.getElem?_eq_getElem (by rw [HLEN.out]; exact hlt)]; rfl
              have hc0 := (hBr.cell (p := ⟨g, o + k, none⟩) hg).trans (hpc k hlt)
              obtain ⟨p, hp⟩ : ∃ p, bs[k]? = some p := ⟨bs[k]'(by rw [← HML.out]; exact hlt), List.getElem?_eq_getElem _⟩
              obtain ⟨g2, rfl, hg2, hp0, hp1⟩ := HCS.out k p hp
              have hc1 := (hBr.cell (p := ⟨g2, k * 2, none⟩) hg2).trans hp0
              have hkb : (k : Int) < bs.length := by have := HML.out; omega
              have hxs := okD_at HOK.out _ (List.mem_of_getElem? hx)
              have hvs := valS_size I s (bs.take k).reverse (ps.take k).reverse
              have HSTEP := Lib.hid (valK_step I s bs ps k p _ hp hx)
              have HXS := Lib.hid (show (ps.getD k ByteArray.empty).size ≤ 400000 by omega)
              have HVS := Lib.hid (show (valK I s bs ps k).size ≤ 400000 by unfold valK; omega)
              clear hpc hx hp hp0 hp1 hxs hvs
              generalize ps.getD k ByteArray.empty = x at *
              generalize valK I s bs ps k = vk at *
              by_cases hpI : p.1 < I
              · have hd : ((p.1 : Int) < I) := by omega
                have hS := HSTEP.out
                rw [if_pos hpI] at hS
                have HS := Lib.hid hS
                clear hS HSTEP
                go_wp2_with fail
                refine (node_any x vk HXS.out HVS.out _ hTr).mono ?_
                rintro e w3 ⟨rfl, hb3⟩
                have hB3 := hBr.trans (hb3.mono hBr.size)
                clear hb3 hBr hTr
                go_wp2_with fail
                exact ⟨⟨k + 1, by go_num, by rw [HS.out], by omega, hB3⟩, by simp [intOf]; omega⟩
              · have hd : ((I : Int) ≤ p.1) := by omega
                have hS := HSTEP.out
                rw [if_neg hpI] at hS
                have HS := Lib.hid hS
                clear hS HSTEP
                go_wp2_with fail
                refine (node_any vk x HVS.out HXS.out _ hTr).mono ?_
                rintro e w3 ⟨rfl, hb3⟩
                have hB3 := hBr.trans (hb3.mono hBr.size)
                clear hb3 hBr hTr
                go_wp2_with fail
                exact ⟨⟨k + 1, by go_num, by rw [HS.out], by omega, hB3⟩, by simp [intOf]; omega⟩
            · have hkm : k = m := by omega
              subst hkm
              clear hTr
              have hBw : Below w.heap.size w wr := hB1.out.trans (hBr.mono hB1.out.size)
              go_wp2_with fail
              go_ret
              refine ⟨?_, hBw⟩
              rw [HV.out, HLEN.out, ← str_eq]; rfl
        · have HV := Lib.hid (HL1.out (by rw [HLEN.out]; exact hml))
          have hne : ((m : Int) == bs.length) = false := by rw [beq_eq_false_iff_ne]; omega
          have hne2 : ((m : Int) != bs.length) = true := by simpa using hne
          clear hml
          go_wp2_with fail
          go_ret
          exact ⟨by rw [HV.out]; rfl, hb⟩
end Go.Proofs.YtiilkjonbfllfaaDoor
