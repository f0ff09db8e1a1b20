/- The reference's Parse, walked. -/
import Derived.StillTailTactics
import Derived.BigRegion
import Derived.Test.YtcjcafekacceiaaGreatDoorRp
import Derived.Test.YtcjcafekacceiaaGreatDoorFo
namespace Go.Proofs.YtcjcafekacceiaaGreatDoor
open Go.RowKit
set_option linter.unusedVariables false
set_option linter.unusedSimpArgs false

/-- The three ways of Parse. -/
theorem par_ways (s : ByteArray) : (fV (numS s) (denS s) = false ∧ parO s = none) ∨ (fV (numS s) (denS s) = true ∧ ((prS (numS s, denS s)).toList == s.toList) = false ∧ parO s = none) ∨
    (fV (numS s) (denS s) = true ∧ ((prS (numS s, denS s)).toList == s.toList) = true ∧ oN (parO s) = numS s ∧ oD (parO s) = denS s ∧ oE (parO s) = 0) := by
  cases h : fV (numS s) (denS s) with
  | false => exact .inl ⟨rfl, by unfold parO; rw [h]; rfl⟩
  | true =>
    cases h2 : ((prS (numS s, denS s)).toList == s.toList) with
    | false => exact .inr (.inl ⟨rfl, rfl, by unfold parO; rw [h, h2]; rfl⟩)
    | true =>
      obtain ⟨x, bx, hx1, hx2⟩ := fV_q h
      have e : parO s = some x := by unfold parO; rw [h, h2]; show mkS (numS s) (denS s) = _; rw [hx1, hx2]; exact mkS_str bx
      rw [e]
      exact .inr (.inr ⟨rfl, rfl, hx1.symm, hx2.symm, rfl⟩)
theorem byte_at {s : ByteArray} {k : Nat} (h : k < s.size) (c : UInt8) : s[k] = c ↔ s.data.toList[k]? = some c := by
  rw [List.getElem?_eq_getElem (by simpa using h)]
  simp only [Option.some.injEq]
  rfl

set_option maxRecDepth 100000 in
set_option maxHeartbeats 4000000 in
theorem rqparse_miss (s : ByteArray) (w : World) (hs : s.size ≤ 9223372036854775807) (hsl : sl s < 0) : Calls Tryz.prog 36 #[.string s] w (QOut w (parO s)) := by
  obtain ⟨n, hn0⟩ : ∃ n, s.size = n := ⟨_, rfl⟩
  have hm1 : Lib.indexByte s.data.toList 47 = -1 := by have := sl_ge s; unfold sl at this hsl; omega
  have hn : numS s = s := by unfold numS; rw [if_neg (by omega)]
  have hd : denS s = ⟨#[49]⟩ := by unfold denS; rw [if_neg (by omega)]
  have hne : ∀ k (h : k < n), s[k]'(by omega) ≠ 47 := fun k hk e => Lib.indexByte_none hm1 k ((byte_at (by omega) 47).1 e)
  clear hm1
  have hsz : (numS s).size ≤ 9223372036854775807 ∧ (denS s).size ≤ 9223372036854775807 := by
    clear hn hd hsl
    unfold numS denS
    split
    · rw [ByteArray.size_extract, ByteArray.size_extract]
      omega
    · exact ⟨hs, by decide⟩
  have CV := Lib.hid (fun W => rqvalid_any (numS s) (denS s) W hsz.1 hsz.2)
  have CP := Lib.hid (fun W => rqprint_any (numS s, denS s) W hsz)
  have hw := par_ways s
  generalize prS (numS s, denS s) = t at *
  generalize parO s = z at *
  simp only at CP
  have HNE := Lib.hid hne
  have hsI : (s.size : Int) ≤ 9223372036854775807 := by omega
  clear hsz hsl hne
  rw [hn, hd] at CV CP hw
  clear hn hd
  obtain ⟨wA, hwA⟩ : ∃ wA, ((w).alloc (.cells #[.string ⟨#[]⟩, .string ⟨#[]⟩] 23)).alloc (.cells #[.string s, .string ⟨#[49]⟩] 23) = wA := ⟨_, rfl⟩
  have B0 := Lib.hid (show Below w.heap.size w wA by rw [← hwA]; exact ((Below.refl w.heap.size w).alloc (Nat.le_refl _) _).alloc (by simp <;> omega) _)
  have Ko := Lib.hid (show wA.heap[w.heap.size]? = some (.cells #[.string ⟨#[]⟩, .string ⟨#[]⟩] 23) by rw [← hwA]; exact (Below.heap_alloc _ _ _ (by simp <;> omega)).trans (heap_new' _ _ _ rfl))
  have Kr := Lib.hid (show wA.heap[w.heap.size + 1]? = some (.cells #[.string s, .string ⟨#[49]⟩] 23) by rw [← hwA]; exact heap_new' _ _ _ (by simp))
  rcases hw with ⟨h1, rfl⟩ | ⟨h1, h2, rfl⟩ | ⟨h1, h2, h3⟩
  ·
    rw [h1] at CV
    clear h1
    go_enter Tryz.func36, Tryz.ntmps36
    go_wp2
    go_loopw [5] (fun iv wr => ∃ k : Nat, k ≤ n ∧ iv = .int .i64 k ∧ wr = wA) (fun iv _ => n - (intOf iv).toNat)
    case atStart => exact ⟨0, Nat.zero_le _, rfl, by first | trivial | rfl⟩
    case round =>
      obtain ⟨k, hk, rfl, rfl⟩ := hrel
      by_cases hkn : k < n
      · have hks : k < s.size := by omega
        have hk1 : (k : Int) < (s.size : Int) := by omega
        have hb : ((s[k].toNat : Int) == 47) = false := by
          rw [beq_eq_false_iff_ne]
          intro e
          exact HNE.out k hkn (UInt8.toNat_inj.1 (by show s[k].toNat = 47; omega))
        clear hwA
        go_wp2
        go_roundw
        case rel => exact ⟨k + 1, by omega, by go_num, by first | trivial | rfl⟩
        case measure => simp [intOf]; omega
      ·
        obtain rfl : k = n := by omega
        clear hkn hk hwA
        have hk1 : ¬ (k : Int) < (s.size : Int) := by omega
        have hk2 : decide ((k : Int) < (s.size : Int)) = false := decide_eq_false hk1
        obtain ⟨r_1, r_2, _, _⟩ := box2 Kr.out
        go_wp2_with fail
        (with_reducible refine (CV.out _).mono ?_)
        rintro e w1 ⟨rfl, hb⟩
        replace B0 := Lib.hid (below1 B0.out hb)
        replace Ko := Lib.hid (bl_up Ko.out hb)
        replace Kr := Lib.hid (bl_up Kr.out hb)
        clear hb
        clear r_1 r_2
        obtain ⟨r1, r2, r3, r4⟩ := box2 Ko.out
        obtain ⟨s1, s2, _, _⟩ := box2 (put2_heap Ko.out (.string ⟨#[]⟩) (.string ⟨#[]⟩))
        have HF := Lib.hid (put2_below B0.out (show w.heap.size ≤ w.heap.size by omega) (.string ⟨#[]⟩) (.string ⟨#[]⟩))
        clear Ko Kr
        go_wp2
        refine bodyPost_ret (v := .tuple #[.agg #[.string ⟨#[]⟩, .string ⟨#[]⟩], .int .i64 40]) (by simp [results, Tryz.results36, go_sem, s1, s2]) rfl ?_
        exact ⟨rfl, HF.out⟩
  ·
    rw [h1] at CV
    clear h1
    have HT := Lib.hid h2
    clear h2
    go_enter Tryz.func36, Tryz.ntmps36
    go_wp2
    go_loopw [5] (fun iv wr => ∃ k : Nat, k ≤ n ∧ iv = .int .i64 k ∧ wr = wA) (fun iv _ => n - (intOf iv).toNat)
    case atStart => exact ⟨0, Nat.zero_le _, rfl, by first | trivial | rfl⟩
    case round =>
      obtain ⟨k, hk, rfl, rfl⟩ := hrel
      by_cases hkn : k < n
      · have hks : k < s.size := by omega
        have hk1 : (k : Int) < (s.size : Int) := by omega
        have hb : ((s[k].toNat : Int) == 47) = false := by
          rw [beq_eq_false_iff_ne]
          intro e
          exact HNE.out k hkn (UInt8.toNat_inj.1 (by show s[k].toNat = 47; omega))
        clear hwA
        go_wp2
        go_roundw
        case rel => exact ⟨k + 1, by omega, by go_num, by first | trivial | rfl⟩
        case measure => simp [intOf]; omega
      ·
        obtain rfl : k = n := by omega
        clear hkn hk hwA
        have hk1 : ¬ (k : Int) < (s.size : Int) := by omega
        have hk2 : decide ((k : Int) < (s.size : Int)) = false := decide_eq_false hk1
        have h2 := HT.out
        obtain ⟨r_1, r_2, _, _⟩ := box2 Kr.out
        go_wp2_with fail
        (with_reducible refine (CV.out _).mono ?_)
        rintro e w1 ⟨rfl, hb⟩
        replace B0 := Lib.hid (below1 B0.out hb)
        replace Ko := Lib.hid (bl_up Ko.out hb)
        replace Kr := Lib.hid (bl_up Kr.out hb)
        clear hb
        clear r_1 r_2
        obtain ⟨r_1, r_2, _, _⟩ := box2 Kr.out
        go_wp2_with fail
        (with_reducible refine (CP.out _).mono ?_)
        rintro e w2 ⟨rfl, hb⟩
        replace B0 := Lib.hid (below1 B0.out hb)
        replace Ko := Lib.hid (bl_up Ko.out hb)
        replace Kr := Lib.hid (bl_up Kr.out hb)
        clear hb
        clear r_1 r_2
        obtain ⟨r1, r2, r3, r4⟩ := box2 Ko.out
        obtain ⟨s1, s2, _, _⟩ := box2 (put2_heap Ko.out (.string ⟨#[]⟩) (.string ⟨#[]⟩))
        have HF := Lib.hid (put2_below B0.out (show w.heap.size ≤ w.heap.size by omega) (.string ⟨#[]⟩) (.string ⟨#[]⟩))
        clear Ko Kr
        go_wp2
        refine bodyPost_ret (v := .tuple #[.agg #[.string ⟨#[]⟩, .string ⟨#[]⟩], .int .i64 40]) (by simp [results, Tryz.results36, go_sem, s1, s2]) rfl ?_
        exact ⟨rfl, HF.out⟩
  ·
    rw [h1] at CV
    clear h1
    have HN := Lib.hid h3
    clear h3
    have HT := Lib.hid h2
    clear h2
    go_enter Tryz.func36, Tryz.ntmps36
    go_wp2
    go_loopw [5] (fun iv wr => ∃ k : Nat, k ≤ n ∧ iv = .int .i64 k ∧ wr = wA) (fun iv _ => n - (intOf iv).toNat)
    case atStart => exact ⟨0, Nat.zero_le _, rfl, by first | trivial | rfl⟩
    case round =>
      obtain ⟨k, hk, rfl, rfl⟩ := hrel
      by_cases hkn : k < n
      · have hks : k < s.size := by omega
        have hk1 : (k : Int) < (s.size : Int) := by omega
        have hb : ((s[k].toNat : Int) == 47) = false := by
          rw [beq_eq_false_iff_ne]
          intro e
          exact HNE.out k hkn (UInt8.toNat_inj.1 (by show s[k].toNat = 47; omega))
        clear hwA
        go_wp2
        go_roundw
        case rel => exact ⟨k + 1, by omega, by go_num, by first | trivial | rfl⟩
        case measure => simp [intOf]; omega
      ·
        obtain rfl : k = n := by omega
        clear hkn hk hwA
        have hk1 : ¬ (k : Int) < (s.size : Int) := by omega
        have hk2 : decide ((k : Int) < (s.size : Int)) = false := decide_eq_false hk1
        have h2 := HT.out
        obtain ⟨r_1, r_2, _, _⟩ := box2 Kr.out
        go_wp2_with fail
        (with_reducible refine (CV.out _).mono ?_)
        rintro e w1 ⟨rfl, hb⟩
        replace B0 := Lib.hid (below1 B0.out hb)
        replace Ko := Lib.hid (bl_up Ko.out hb)
        replace Kr := Lib.hid (bl_up Kr.out hb)
        clear hb
        clear r_1 r_2
        obtain ⟨r_1, r_2, _, _⟩ := box2 Kr.out
        go_wp2_with fail
        (with_reducible refine (CP.out _).mono ?_)
        rintro e w2 ⟨rfl, hb⟩
        replace B0 := Lib.hid (below1 B0.out hb)
        replace Ko := Lib.hid (bl_up Ko.out hb)
        replace Kr := Lib.hid (bl_up Kr.out hb)
        clear hb
        clear r_1 r_2
        obtain ⟨r_1, r_2, _, _⟩ := box2 Kr.out
        obtain ⟨r1, r2, r3, r4⟩ := box2 Ko.out
        obtain ⟨s1, s2, _, _⟩ := box2 (put2_heap Ko.out (.string s) (.string ⟨#[49]⟩))
        have HF := Lib.hid (put2_below B0.out (show w.heap.size ≤ w.heap.size by omega) (.string s) (.string ⟨#[49]⟩))
        clear Ko Kr
        go_wp2
        refine bodyPost_ret (v := .tuple #[.agg #[.string s, .string ⟨#[49]⟩], .int .i64 0]) (by simp [results, Tryz.results36, go_sem, s1, s2]) rfl ?_
        exact ⟨by rw [HN.out.1, HN.out.2.1, HN.out.2.2], HF.out⟩
set_option maxRecDepth 100000 in
set_option maxHeartbeats 4000000 in
theorem rqparse_hit (s : ByteArray) (w : World) (hs : s.size ≤ 9223372036854775807) (hsl : 0 ≤ sl s) : Calls Tryz.prog 36 #[.string s] w (QOut w (parO s)) := by
  obtain ⟨n, hi⟩ : ∃ i : Nat, sl s = i := ⟨(sl s).toNat, by omega⟩
  obtain ⟨h1, h2⟩ := Lib.indexByte_some (show Lib.indexByte s.data.toList 47 = (n : Int) from hi)
  have hlt : n < s.size := by
    have := (List.getElem?_eq_some_iff.1 h1).1
    rw [Array.length_toList] at this; exact this
  have hn : numS s = s.extract 0 n := by unfold numS; rw [if_pos hsl, hi, Int.toNat_natCast]
  have hd : denS s = s.extract (n + 1) s.size := by unfold denS; rw [if_pos hsl, hi, Int.toNat_natCast]
  have h47 : s[n] = 47 := (byte_at hlt 47).2 h1
  have hne : ∀ k (h : k < n), s[k]'(by omega) ≠ 47 := fun k hk e => h2 k hk ((byte_at (by omega) 47).1 e)
  clear h1 h2 hi
  have hsz : (numS s).size ≤ 9223372036854775807 ∧ (denS s).size ≤ 9223372036854775807 := by
    clear hn hd hsl
    unfold numS denS
    split
    · rw [ByteArray.size_extract, ByteArray.size_extract]
      omega
    · exact ⟨hs, by decide⟩
  have CV := Lib.hid (fun W => rqvalid_any (numS s) (denS s) W hsz.1 hsz.2)
  have CP := Lib.hid (fun W => rqprint_any (numS s, denS s) W hsz)
  have hw := par_ways s
  generalize prS (numS s, denS s) = t at *
  generalize parO s = z at *
  simp only at CP
  have HNE := Lib.hid hne
  have hsI : (s.size : Int) ≤ 9223372036854775807 := by omega
  clear hsz hsl hne
  rw [hn, hd] at CV CP hw
  obtain ⟨x, hx⟩ : ∃ x, s.extract 0 n = x := ⟨_, rfl⟩
  obtain ⟨y, hy⟩ : ∃ y, s.extract (n + 1) s.size = y := ⟨_, rfl⟩
  rw [hx, hy] at CV CP hw
  have HXY := Lib.hid (And.intro hx hy)
  have H47 := Lib.hid h47
  clear hx hy h47
  clear hn hd
  obtain ⟨wA, hwA⟩ : ∃ wA, ((w).alloc (.cells #[.string ⟨#[]⟩, .string ⟨#[]⟩] 23)).alloc (.cells #[.string s, .string ⟨#[49]⟩] 23) = wA := ⟨_, rfl⟩
  have B0 := Lib.hid (show Below w.heap.size w wA by rw [← hwA]; exact ((Below.refl w.heap.size w).alloc (Nat.le_refl _) _).alloc (by simp <;> omega) _)
  have Ko := Lib.hid (show wA.heap[w.heap.size]? = some (.cells #[.string ⟨#[]⟩, .string ⟨#[]⟩] 23) by rw [← hwA]; exact (Below.heap_alloc _ _ _ (by simp <;> omega)).trans (heap_new' _ _ _ rfl))
  have Kr := Lib.hid (show wA.heap[w.heap.size + 1]? = some (.cells #[.string s, .string ⟨#[49]⟩] 23) by rw [← hwA]; exact heap_new' _ _ _ (by simp))
  rcases hw with ⟨h1, rfl⟩ | ⟨h1, h2, rfl⟩ | ⟨h1, h2, h3⟩
  ·
    rw [h1] at CV
    clear h1
    go_enter Tryz.func36, Tryz.ntmps36
    go_wp2
    go_loopw [5] (fun iv wr => ∃ k : Nat, k ≤ n ∧ iv = .int .i64 k ∧ wr = wA) (fun iv _ => n - (intOf iv).toNat)
    case atStart => exact ⟨0, Nat.zero_le _, rfl, by first | trivial | rfl⟩
    case round =>
      obtain ⟨k, hk, rfl, rfl⟩ := hrel
      by_cases hkn : k < n
      · have hks : k < s.size := by omega
        have hk1 : (k : Int) < (s.size : Int) := by omega
        have hb : ((s[k].toNat : Int) == 47) = false := by
          rw [beq_eq_false_iff_ne]
          intro e
          exact HNE.out k hkn (UInt8.toNat_inj.1 (by show s[k].toNat = 47; omega))
        clear hwA
        go_wp2
        go_roundw
        case rel => exact ⟨k + 1, by omega, by go_num, by first | trivial | rfl⟩
        case measure => simp [intOf]; omega
      ·
        obtain rfl : k = n := by omega
        clear hkn hk hwA
        have hk1 : (k : Int) < (s.size : Int) := by omega
        have hb : ((s[k].toNat : Int) == 47) = true := by rw [H47.out]; rfl
        have c1 : (0 : Int) ≤ ↑k := by omega
        have c2 : (↑k : Int) ≤ ↑s.size := by omega
        have c3 : (0 : Int) ≤ ↑k + 1 := by omega
        have c4 : (↑k + 1 : Int) ≤ ↑s.size := by omega
        have hwi : IntKind.i64.wrap ((k : Int) + 1) = (k : Int) + 1 := wrap_in _ ⟨by omega, by omega⟩
        have htn : ((k : Int) + 1).toNat = k + 1 := by omega
        go_upto_region 6 with fail
        have hx := HXY.out.1; have hy := HXY.out.2
        go_still_tail 8, (by kernel_rfl)
        change wpList _ _ _ _ _ wr.drew
        replace Kr := Lib.hid (drew_at Kr.out)
        replace Ko := Lib.hid (drew_at Ko.out)
        replace B0 := Lib.hid (below1 B0.out (Below.refl _ _).drew)
        obtain ⟨V, hV⟩ : ∃ V, wr.drew = V := ⟨_, rfl⟩
        rw [hV] at Kr Ko B0 ⊢
        clear hV
        obtain ⟨q1, q2, q3, q4⟩ := box2 Kr.out
        replace B0 := Lib.hid (put2_below B0.out (show w.heap.size ≤ w.heap.size + 1 by omega) (.string x) (.string y))
        replace Ko := Lib.hid ((put2_other (W := V) (k := w.heap.size) (B := w.heap.size + 1) (.string x) (.string y) (by omega)).trans Ko.out)
        replace Kr := Lib.hid (put2_heap Kr.out (.string x) (.string y))
        obtain ⟨r_1, r_2, _, _⟩ := box2 Kr.out
        go_wp2_with fail
        (with_reducible refine (CV.out _).mono ?_)
        rintro e w3 ⟨rfl, hb⟩
        replace B0 := Lib.hid (below1 B0.out hb)
        replace Ko := Lib.hid (bl_up Ko.out hb)
        replace Kr := Lib.hid (bl_up Kr.out hb)
        clear hb
        clear r_1 r_2
        obtain ⟨r1, r2, r3, r4⟩ := box2 Ko.out
        obtain ⟨s1, s2, _, _⟩ := box2 (put2_heap Ko.out (.string ⟨#[]⟩) (.string ⟨#[]⟩))
        have HF := Lib.hid (put2_below B0.out (show w.heap.size ≤ w.heap.size by omega) (.string ⟨#[]⟩) (.string ⟨#[]⟩))
        clear Ko Kr
        go_wp2
        refine bodyPost_ret (v := .tuple #[.agg #[.string ⟨#[]⟩, .string ⟨#[]⟩], .int .i64 40]) (by simp [results, Tryz.results36, go_sem, s1, s2]) rfl ?_
        exact ⟨rfl, HF.out⟩
  ·
    rw [h1] at CV
    clear h1
    have HT := Lib.hid h2
    clear h2
    go_enter Tryz.func36, Tryz.ntmps36
    go_wp2
    go_loopw [5] (fun iv wr => ∃ k : Nat, k ≤ n ∧ iv = .int .i64 k ∧ wr = wA) (fun iv _ => n - (intOf iv).toNat)
    case atStart => exact ⟨0, Nat.zero_le _, rfl, by first | trivial | rfl⟩
    case round =>
      obtain ⟨k, hk, rfl, rfl⟩ := hrel
      by_cases hkn : k < n
      · have hks : k < s.size := by omega
        have hk1 : (k : Int) < (s.size : Int) := by omega
        have hb : ((s[k].toNat : Int) == 47) = false := by
          rw [beq_eq_false_iff_ne]
          intro e
          exact HNE.out k hkn (UInt8.toNat_inj.1 (by show s[k].toNat = 47; omega))
        clear hwA
        go_wp2
        go_roundw
        case rel => exact ⟨k + 1, by omega, by go_num, by first | trivial | rfl⟩
        case measure => simp [intOf]; omega
      ·
        obtain rfl : k = n := by omega
        clear hkn hk hwA
        have hk1 : (k : Int) < (s.size : Int) := by omega
        have hb : ((s[k].toNat : Int) == 47) = true := by rw [H47.out]; rfl
        have c1 : (0 : Int) ≤ ↑k := by omega
        have c2 : (↑k : Int) ≤ ↑s.size := by omega
        have c3 : (0 : Int) ≤ ↑k + 1 := by omega
        have c4 : (↑k + 1 : Int) ≤ ↑s.size := by omega
        have hwi : IntKind.i64.wrap ((k : Int) + 1) = (k : Int) + 1 := wrap_in _ ⟨by omega, by omega⟩
        have htn : ((k : Int) + 1).toNat = k + 1 := by omega
        go_upto_region 6 with fail
        have hx := HXY.out.1; have hy := HXY.out.2
        go_still_tail 8, (by kernel_rfl)
        change wpList _ _ _ _ _ wr.drew
        replace Kr := Lib.hid (drew_at Kr.out)
        replace Ko := Lib.hid (drew_at Ko.out)
        replace B0 := Lib.hid (below1 B0.out (Below.refl _ _).drew)
        obtain ⟨V, hV⟩ : ∃ V, wr.drew = V := ⟨_, rfl⟩
        rw [hV] at Kr Ko B0 ⊢
        clear hV
        obtain ⟨q1, q2, q3, q4⟩ := box2 Kr.out
        replace B0 := Lib.hid (put2_below B0.out (show w.heap.size ≤ w.heap.size + 1 by omega) (.string x) (.string y))
        replace Ko := Lib.hid ((put2_other (W := V) (k := w.heap.size) (B := w.heap.size + 1) (.string x) (.string y) (by omega)).trans Ko.out)
        replace Kr := Lib.hid (put2_heap Kr.out (.string x) (.string y))
        have h2 := HT.out
        obtain ⟨r_1, r_2, _, _⟩ := box2 Kr.out
        go_wp2_with fail
        (with_reducible refine (CV.out _).mono ?_)
        rintro e w3 ⟨rfl, hb⟩
        replace B0 := Lib.hid (below1 B0.out hb)
        replace Ko := Lib.hid (bl_up Ko.out hb)
        replace Kr := Lib.hid (bl_up Kr.out hb)
        clear hb
        clear r_1 r_2
        obtain ⟨r_1, r_2, _, _⟩ := box2 Kr.out
        go_wp2_with fail
        (with_reducible refine (CP.out _).mono ?_)
        rintro e w4 ⟨rfl, hb⟩
        replace B0 := Lib.hid (below1 B0.out hb)
        replace Ko := Lib.hid (bl_up Ko.out hb)
        replace Kr := Lib.hid (bl_up Kr.out hb)
        clear hb
        clear r_1 r_2
        obtain ⟨r1, r2, r3, r4⟩ := box2 Ko.out
        obtain ⟨s1, s2, _, _⟩ := box2 (put2_heap Ko.out (.string ⟨#[]⟩) (.string ⟨#[]⟩))
        have HF := Lib.hid (put2_below B0.out (show w.heap.size ≤ w.heap.size by omega) (.string ⟨#[]⟩) (.string ⟨#[]⟩))
        clear Ko Kr
        go_wp2
        refine bodyPost_ret (v := .tuple #[.agg #[.string ⟨#[]⟩, .string ⟨#[]⟩], .int .i64 40]) (by simp [results, Tryz.results36, go_sem, s1, s2]) rfl ?_
        exact ⟨rfl, HF.out⟩
  ·
    rw [h1] at CV
    clear h1
    have HN := Lib.hid h3
    clear h3
    have HT := Lib.hid h2
    clear h2
    go_enter Tryz.func36, Tryz.ntmps36
    go_wp2
    go_loopw [5] (fun iv wr => ∃ k : Nat, k ≤ n ∧ iv = .int .i64 k ∧ wr = wA) (fun iv _ => n - (intOf iv).toNat)
    case atStart => exact ⟨0, Nat.zero_le _, rfl, by first | trivial | rfl⟩
    case round =>
      obtain ⟨k, hk, rfl, rfl⟩ := hrel
      by_cases hkn : k < n
      · have hks : k < s.size := by omega
        have hk1 : (k : Int) < (s.size : Int) := by omega
        have hb : ((s[k].toNat : Int) == 47) = false := by
          rw [beq_eq_false_iff_ne]
          intro e
          exact HNE.out k hkn (UInt8.toNat_inj.1 (by show s[k].toNat = 47; omega))
        clear hwA
        go_wp2
        go_roundw
        case rel => exact ⟨k + 1, by omega, by go_num, by first | trivial | rfl⟩
        case measure => simp [intOf]; omega
      ·
        obtain rfl : k = n := by omega
        clear hkn hk hwA
        have hk1 : (k : Int) < (s.size : Int) := by omega
        have hb : ((s[k].toNat : Int) == 47) = true := by rw [H47.out]; rfl
        have c1 : (0 : Int) ≤ ↑k := by omega
        have c2 : (↑k : Int) ≤ ↑s.size := by omega
        have c3 : (0 : Int) ≤ ↑k + 1 := by omega
        have c4 : (↑k + 1 : Int) ≤ ↑s.size := by omega
        have hwi : IntKind.i64.wrap ((k : Int) + 1) = (k : Int) + 1 := wrap_in _ ⟨by omega, by omega⟩
        have htn : ((k : Int) + 1).toNat = k + 1 := by omega
        go_upto_region 6 with fail
        have hx := HXY.out.1; have hy := HXY.out.2
        go_still_tail 8, (by kernel_rfl)
        change wpList _ _ _ _ _ wr.drew
        replace Kr := Lib.hid (drew_at Kr.out)
        replace Ko := Lib.hid (drew_at Ko.out)
        replace B0 := Lib.hid (below1 B0.out (Below.refl _ _).drew)
        obtain ⟨V, hV⟩ : ∃ V, wr.drew = V := ⟨_, rfl⟩
        rw [hV] at Kr Ko B0 ⊢
        clear hV
        obtain ⟨q1, q2, q3, q4⟩ := box2 Kr.out
        replace B0 := Lib.hid (put2_below B0.out (show w.heap.size ≤ w.heap.size + 1 by omega) (.string x) (.string y))
        replace Ko := Lib.hid ((put2_other (W := V) (k := w.heap.size) (B := w.heap.size + 1) (.string x) (.string y) (by omega)).trans Ko.out)
        replace Kr := Lib.hid (put2_heap Kr.out (.string x) (.string y))
        have h2 := HT.out
        obtain ⟨r_1, r_2, _, _⟩ := box2 Kr.out
        go_wp2_with fail
        (with_reducible refine (CV.out _).mono ?_)
        rintro e w3 ⟨rfl, hb⟩
        replace B0 := Lib.hid (below1 B0.out hb)
        replace Ko := Lib.hid (bl_up Ko.out hb)
        replace Kr := Lib.hid (bl_up Kr.out hb)
        clear hb
        clear r_1 r_2
        obtain ⟨r_1, r_2, _, _⟩ := box2 Kr.out
        go_wp2_with fail
        (with_reducible refine (CP.out _).mono ?_)
        rintro e w4 ⟨rfl, hb⟩
        replace B0 := Lib.hid (below1 B0.out hb)
        replace Ko := Lib.hid (bl_up Ko.out hb)
        replace Kr := Lib.hid (bl_up Kr.out hb)
        clear hb
        clear r_1 r_2
        obtain ⟨r_1, r_2, _, _⟩ := box2 Kr.out
        obtain ⟨r1, r2, r3, r4⟩ := box2 Ko.out
        obtain ⟨s1, s2, _, _⟩ := box2 (put2_heap Ko.out (.string x) (.string y))
        have HF := Lib.hid (put2_below B0.out (show w.heap.size ≤ w.heap.size by omega) (.string x) (.string y))
        clear Ko Kr
        go_wp2
        refine bodyPost_ret (v := .tuple #[.agg #[.string x, .string y], .int .i64 0]) (by simp [results, Tryz.results36, go_sem, s1, s2]) rfl ?_
        exact ⟨by rw [HN.out.1, HN.out.2.1, HN.out.2.2], HF.out⟩
theorem rqparse_any (s : ByteArray) (w : World) (hs : s.size ≤ 9223372036854775807) : Calls Tryz.prog 36 #[.string s] w (QOut w (parO s)) := by
  by_cases h : 0 ≤ sl s
  · exact rqparse_hit s w hs h
  · exact rqparse_miss s w hs (by omega)
end Go.Proofs.YtcjcafekacceiaaGreatDoor
