/- left, Same, collide, binary, walked. -/
import Derived.Test.YtiilkjonbfllfaaDoorFew
import Derived.Deep.RegionHeld3
namespace Go.Proofs.YtiilkjonbfllfaaDoor
open Go.RowKit

theorem left_any (n : Nat) (h2 : 2 ≤ n) (hm : n ≤ 9223372036854775807) (w : World) :
    Calls Tryd.prog 38 #[.int .i64 n] w fun e w' => e = .returned (.int .i64 (half n : Nat)) ∧ w = w' := by
  go_enter Tryd.func38, Tryd.ntmps38
  go_wp2
  go_loop [3] (fun kv => ∃ k : Nat, kv = .int .i64 k ∧ k < n ∧ 0 < k ∧ ∃ e, k = 2 ^ e) (fun kv => n - (intOf kv).toNat)
  case atStart => exact ⟨1, rfl, by omega, by omega, 0, rfl⟩
  case round =>
    obtain ⟨k, rfl, hk, h0, hp⟩ := hrel
    have HP := Lib.hid hp; clear hp
    by_cases hlt : 2 * k < n
    · have hd : (k : Int) < (n : Int) - k := by omega
      go_wp2
      go_round
      case rel =>
        obtain ⟨e, he⟩ := HP.out
        exact ⟨2 * k, by go_num, hlt, by omega, e + 1, by rw [he, Nat.pow_succ]; omega⟩
      case measure => simp [intOf]; omega
    · have hd : (n : Int) - k ≤ k := by omega
      have HH := Lib.hid (half_eq (n := n) (k := k) hk (by omega) HP.out)
      go_wp2
      go_ret
      exact ⟨by rw [HH.out]; rfl, rfl⟩

/-- Two lists of texts are the same. -/
def sameB (a b : List ByteArray) : Bool := decide (a = b)
theorem sameB_len {a b : List ByteArray} (h : a.length ≠ b.length) : sameB a b = false := by
  unfold sameB; rw [decide_eq_false_iff_not]; exact fun e => h (by rw [e])
theorem sameB_at {a b : List ByteArray} {k : Nat} (h : a.getD k ByteArray.empty ≠ b.getD k ByteArray.empty) : sameB a b = false := by
  unfold sameB; rw [decide_eq_false_iff_not]; exact fun e => h (by rw [e])
theorem sameB_end {a b : List ByteArray} {n : Nat} (h1 : a.length = n) (h2 : b.length = n) (h : a.take n = b.take n) : sameB a b = true := by
  unfold sameB; rw [decide_eq_true_eq]
  rw [List.take_of_length_le (by omega), List.take_of_length_le (by omega)] at h; exact h
theorem take_same {a b : List ByteArray} {k : Nat} (ha : k < a.length) (hb : k < b.length) (h : a.take k = b.take k) (hk : a.getD k ByteArray.empty = b.getD k ByteArray.empty) : a.take (k + 1) = b.take (k + 1) := by
  rw [List.getD_eq_getElem?_getD, List.getD_eq_getElem?_getD, List.getElem?_eq_getElem ha, List.getElem?_eq_getElem hb] at hk
  rw [List.take_succ_eq_append_getElem ha, List.take_succ_eq_append_getElem hb, h]
  have : a[k] = b[k] := hk
  rw [this]

set_option maxRecDepth 100000 in
set_option maxHeartbeats 2000000 in
theorem same_any (al bl : Option Addr) (n m c d : Nat) (a b : List ByteArray) (hn : n ≤ 1000000) (hm : m ≤ 1000000) (w : World) (ha : Strs w al n a) (hb : Strs w bl m b) :
    Calls Tryd.prog 26 #[.slice al n c, .slice bl m d] w fun e w' => e = .returned (.bool (sameB a b)) ∧ ∃ q, w' = w.drewN q := by
  have HA := Lib.hid ha; have HB := Lib.hid hb
  clear ha hb
  by_cases hnm : n = m
  · subst hnm
    have hne2 : ((n : Int) != n) = false := by simp
    go_enter Tryd.func26, Tryd.ntmps26
    go_wp2
    go_loopw [5] (fun iv wr => ∃ k q : Nat, iv = .int .i64 k ∧ k ≤ n ∧ a.take k = b.take k ∧ wr = w.drewN q) (fun iv _ => n - (intOf iv).toNat)
    case atStart => exact ⟨0, 0, rfl, Nat.zero_le _, rfl, rfl⟩
    case round =>
      obtain ⟨k, q, rfl, hk, ht, rfl⟩ := hrel
      have HT := Lib.hid ht; clear ht
      by_cases hlt : k < n
      · obtain ⟨g, o, rfl, hg, hcs⟩ := strs_out HA.out hlt
        obtain ⟨g2, o2, rfl, hg2, hcs2⟩ := strs_out HB.out hlt
        have hc1 := hcs k hlt
        have hc2 := hcs2 k hlt
        have HS := Lib.hid (fun h => take_same (a := a) (b := b) (k := k) (by rw [HA.out.1]; exact hlt) (by rw [HB.out.1]; exact hlt) HT.out h)
        have HN := Lib.hid (fun h => sameB_at (a := a) (b := b) (k := k) h)
        clear hcs hcs2
        generalize a.getD k ByteArray.empty = x at *
        generalize b.getD k ByteArray.empty = y at *
        have hki : (k : Int) < n := by omega
        have hk0 : (0 : Int) ≤ k := by omega
        by_cases hxy : x = y
        · subst hxy
          have hh : (x.toList == x.toList) = true := by simp
          have hh2 : (x.toList != x.toList) = false := by simp
          go_wp2
          go_quiet (fail)
          go_wp2
          refine ⟨⟨k + 1, q + nq, by go_num, by omega, HS.out trivial, rfl⟩, by simp [intOf]; omega⟩
        · have hh : (x.toList == y.toList) = false := by rw [str_eq]; simpa using hxy
          have hh2 : (x.toList != y.toList) = true := by rw [bne, hh]; rfl
          have HN2 := Lib.hid (HN.out hxy)
          clear hxy
          go_wp2
          go_quiet (fail)
          go_wp2
          go_ret
          exact ⟨by rw [HN2.out]; rfl, q + nq, by first | rfl | rw [World.drewN_drewN]⟩
      · have HE := Lib.hid (sameB_end HA.out.1 HB.out.1 (show a.take n = b.take n by
          have := HT.out
          rwa [show k = n by omega] at this))
        go_wp2
        go_ret
        exact ⟨by rw [HE.out]; rfl, q, rfl⟩
  · have hne : ((n : Int) == m) = false := by rw [beq_eq_false_iff_ne]; omega
    have hne2 : ((n : Int) != m) = true := by simpa using hne
    have HE := Lib.hid (sameB_len (a := a) (b := b) (by rw [HA.out.1, HB.out.1]; exact hnm))
    clear hnm
    go_enter Tryd.func26, Tryd.ntmps26
    go_wp2
    go_ret
    exact ⟨by rw [HE.out]; rfl, 0, rfl⟩

theorem coll_at {a b : List ByteArray} {k : Nat} (ha : k < a.length) (hb : k < b.length) :
    collB (a.drop k) (b.drop k) = ((decide (a.getD k ByteArray.empty ≠ b.getD k ByteArray.empty) && decide (dg (a.getD k ByteArray.empty) = dg (b.getD k ByteArray.empty))) || collB (a.drop (k + 1)) (b.drop (k + 1))) := by
  rw [List.drop_eq_getElem_cons ha, List.drop_eq_getElem_cons hb, collB, List.getD_eq_getElem?_getD, List.getD_eq_getElem?_getD, List.getElem?_eq_getElem ha, List.getElem?_eq_getElem hb]; rfl
theorem coll_out {a b : List ByteArray} {k : Nat} (h : a.length ≤ k ∨ b.length ≤ k) : collB (a.drop k) (b.drop k) = false := by
  rcases h with h | h
  · rw [List.drop_eq_nil_of_le h]; cases b.drop k <;> rfl
  · rw [List.drop_eq_nil_of_le h]; cases a.drop k <;> rfl

set_option maxRecDepth 100000 in
set_option maxHeartbeats 4000000 in
theorem collide_any (al bl : Option Addr) (n m c d : Nat) (a b : List ByteArray) (hn : n ≤ 1000000) (_hm : m ≤ 1000000) (w : World) (ha : Strs w al n a) (hb : Strs w bl m b) (hza : ∀ s ∈ a, s.size ≤ 800000) (hzb : ∀ s ∈ b, s.size ≤ 800000) (hT : Tab w) :
    Calls Tryd.prog 35 #[.slice al n c, .slice bl m d] w fun e w' => e = .returned (.bool (collB a b)) ∧ Below w.heap.size w w' := by
  have HA := Lib.hid ha; have HB := Lib.hid hb; have HZA := Lib.hid hza; have HZB := Lib.hid hzb; have HT := Lib.hid hT
  have hz : 0 < w.heap.size := hT.1
  clear ha hb hza hzb hT
  go_enter Tryd.func35, Tryd.ntmps35
  go_wp2
  go_loopg [5] n (fun gk iv wr => ∃ k : Nat, iv = .int .i64 k ∧ gk = n - k ∧ k ≤ n ∧ k ≤ m ∧ collB (a.drop k) (b.drop k) = collB a b ∧ Below w.heap.size w wr)
  case atStart => exact ⟨0, rfl, by omega, Nat.zero_le _, Nat.zero_le _, rfl, Below.refl _ _⟩
  case round =>
    obtain ⟨k, rfl, hgk, hkn, hkm, hco, hBr⟩ := hrel
    have HGK := Lib.hid hgk; have HCO := Lib.hid hco
    clear hgk hco
    by_cases h1 : k < n
    · by_cases h2 : k < m
      · obtain ⟨g, o, rfl, hg, hcs⟩ := strs_out HA.out h1
        obtain ⟨g2, o2, rfl, hg2, hcs2⟩ := strs_out HB.out h2
        have hc1 := (hBr.cell (p := ⟨g, o + k, none⟩) hg).trans (hcs k h1)
        have hc2 := (hBr.cell (p := ⟨g2, o2 + k, none⟩) hg2).trans (hcs2 k h2)
        have HC := Lib.hid (coll_at (a := a) (b := b) (k := k) (by rw [HA.out.1]; exact h1) (by rw [HB.out.1]; exact h2))
        have hma : a.getD k ByteArray.empty ∈ a := by
          rw [List.getD_eq_getElem?_getD, List.getElem?_eq_getElem (by rw [HA.out.1]; exact h1)]; exact List.getElem_mem _
        have hmb : b.getD k ByteArray.empty ∈ b := by
          rw [List.getD_eq_getElem?_getD, List.getElem?_eq_getElem (by rw [HB.out.1]; exact h2)]; exact List.getElem_mem _
        have HSA := Lib.hid (HZA.out _ hma); have HSB := Lib.hid (HZB.out _ hmb)
        clear hcs hcs2 hma hmb
        generalize a.getD k ByteArray.empty = x at *
        generalize b.getD k ByteArray.empty = y at *
        have hki : (k : Int) < n := by omega
        have hkj : (k : Int) < m := by omega
        have hk0 : (0 : Int) ≤ k := by omega
        have hgl : g < wr.heap.size := Nat.lt_of_lt_of_le hg hBr.size
        have hgl2 : g2 < wr.heap.size := Nat.lt_of_lt_of_le hg2 hBr.size
        have HTr := Lib.hid (HT.out.below hBr hz)
        have HBR := Lib.hid hBr
        by_cases hxy : x = y
        · subst hxy
          have hh : (x.toList == x.toList) = true := by simp
          have hh2 : (x.toList != x.toList) = false := by simp
          have HN := Lib.hid (show collB (a.drop (k + 1)) (b.drop (k + 1)) = collB a b by rw [← HCO.out, HC.out]; simp)
          go_wp2_with fail
          go_quiet (fail)
          go_wp2_with fail
          go_roundg (n - (k + 1))
          case measure => have := HGK.out; omega
          case rel => exact ⟨k + 1, by go_num, rfl, by omega, by omega, HN.out, below_drewN HBR.out _⟩
        · have hh : (x.toList == y.toList) = false := by rw [str_eq]; simpa using hxy
          have hh2 : (x.toList != y.toList) = true := by rw [bne, hh]; rfl
          have HXY := Lib.hid hxy; clear hxy
          have C1 := Lib.hid (fun W (hW : Below wr.heap.size wr W) => sum_any x HSA.out W (HTr.out.below hW (by have := HBR.out.size; omega)))
          have C2 := Lib.hid (fun W (hW : Below wr.heap.size wr W) => sum_any y HSB.out W (HTr.out.below hW (by have := HBR.out.size; omega)))
          have KC := Lib.hid (fun W (hW : Below wr.heap.size wr W) => And.intro ((hW.cell (p := ⟨g, o + k, none⟩) hgl).trans hc1) ((hW.cell (p := ⟨g2, o2 + k, none⟩) hgl2).trans hc2))
          go_wp2_with fail
          go_region_held3 (fun w' => w'.cell? ⟨g, o + k, none⟩ = some (.string x) ∧ w'.cell? ⟨g2, o2 + k, none⟩ = some (.string y))
            (first
              | go_keep
              | exact KC.out _ hB2
              | exact KC.out _ hB1)
            (first
              | (go_at_call 13; (with_reducible refine (C1.out _ ((Below.refl _ _).drew)).mono ?_); rintro e w1 ⟨rfl, hb1⟩; have hB1 := below1 (Below.refl _ wr).drew hb1)
              | (go_at_call 13; (with_reducible refine (C2.out _ hB1).mono ?_); rintro e w2 ⟨rfl, hb2⟩; have hB2 := below1 hB1 hb2))
          have hB3 : Below w.heap.size w w2 := HBR.out.trans (hB2.mono HBR.out.size)
          cases hd : ((dg x).toList == (dg y).toList) with
          | true =>
            have hd2 : dg x = dg y := by rw [str_eq] at hd; exact of_decide_eq_true hd
            have HN := Lib.hid (show collB a b = true by rw [← HCO.out, HC.out, decide_eq_true HXY.out, decide_eq_true hd2]; rfl)
            clear hd2
            go_wp2_with fail
            go_ret
            exact ⟨by rw [HN.out]; rfl, hB3⟩
          | false =>
            have hd2 : ¬ dg x = dg y := by rw [str_eq] at hd; exact of_decide_eq_false hd
            have HN := Lib.hid (show collB (a.drop (k + 1)) (b.drop (k + 1)) = collB a b by rw [← HCO.out, HC.out, decide_eq_false hd2]; simp)
            clear hd2
            go_wp2_with fail
            go_roundg (n - (k + 1))
            case measure => have := HGK.out; omega
            case rel => exact ⟨k + 1, by go_num, rfl, by omega, by omega, HN.out, hB3⟩
      · have HE := Lib.hid (show collB a b = false by rw [← HCO.out]; exact coll_out (.inr (by rw [HB.out.1]; omega)))
        go_wp2_with fail
        go_ret
        exact ⟨by rw [HE.out]; rfl, hBr⟩
    · have HE := Lib.hid (show collB a b = false by rw [← HCO.out]; exact coll_out (.inl (by rw [HA.out.1]; omega)))
      go_wp2_with fail
      go_ret
      exact ⟨by rw [HE.out]; rfl, hBr⟩
end Go.Proofs.YtiilkjonbfllfaaDoor
