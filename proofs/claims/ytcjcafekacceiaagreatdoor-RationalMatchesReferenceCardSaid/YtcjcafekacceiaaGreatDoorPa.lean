/- strings.Cut at a slash, Parse, walked. -/
import Derived.Test.YtcjcafekacceiaaGreatDoorPr
namespace Go.Proofs.YtcjcafekacceiaaGreatDoor
open Go.RowKit

set_option maxHeartbeats 1000000 in
theorem print_no (p : Pr) (w : World) (hsp : p.1.size ≤ 9223372036854775807 ∧ p.2.size ≤ 9223372036854775807) (ht : Tb w) (hno : fVp p = false) :
    Calls Tryz.prog 33 #[.agg #[.string p.1, .string p.2]] w (PrOut w ⟨#[]⟩) := by
  have V1 := Lib.hid (fun W (hW : Below w.heap.size w W) => qvalid_any p.1 p.2 W hsp.1 hsp.2 (ht.below hW))
  unfold fVp at hno
  rw [hno] at V1
  have HA := Lib.hid ((Below.refl w.heap.size w).alloc (Nat.le_refl _) (.cells #[.string p.1, .string p.2] 23))
  generalize p.1 = x at *
  generalize p.2 = y at *
  clear hno ht
  go_enter Tryz.func33, Tryz.ntmps33
  go_wp2_with fail
  (with_reducible refine (V1.out _ HA.out).mono ?_)
  rintro e w1 ⟨rfl, hb1⟩
  have HB1 := Lib.hid (below1 HA.out hb1)
  clear hb1
  go_wp2
  go_ret
  exact ⟨rfl, HB1.out⟩
/-- What Print and the reference's Print answer. -/
def prS (p : Pr) : ByteArray := if fVp p then (match mkS p.1 p.2 with | some q => prQ q | none => ⟨#[]⟩) else ⟨#[]⟩
theorem mkS_str {q : Rat} (h : BQ q) : mkS (str q.num) (str (q.den : Int)) = some q := by
  unfold mkS
  rw [(vS_str _).2 h.1, (vS_str _).2 h.2, nS_str h.1, nS_str h.2, q_div, decide_eq_true (q_den_ne q)]; rfl
theorem prS_q {q : Rat} (h : BQ q) : prS (str q.num, str (q.den : Int)) = prQ q := by
  unfold prS fVp
  rw [fV_str h, mkS_str h]; rfl
theorem prS_no {p : Pr} (h : fVp p = false) : prS p = ⟨#[]⟩ := by unfold prS; rw [h]; rfl
theorem print_pr (p : Pr) (w : World) (hsp : p.1.size ≤ 9223372036854775807 ∧ p.2.size ≤ 9223372036854775807) (ht : Tb w) :
    Calls Tryz.prog 33 #[.agg #[.string p.1, .string p.2]] w (PrOut w (prS p)) := by
  cases hv : fVp p with
  | false => rw [prS_no hv]; exact print_no p w hsp ht hv
  | true =>
    obtain ⟨x, bx, hx1, hx2⟩ := fV_q hv
    obtain ⟨p1, p2⟩ := p
    simp only at hx1 hx2
    subst hx1 hx2
    rw [prS_q bx]
    exact print_q x bx w ht

theorem below_drawn {B : Nat} {a w : World} (h : Below B a w) (n : Nat) : Below B a (w.drewN n) := ⟨h.os, h.tape, h.output, h.size, h.block⟩
/-- Where the first slash is. -/
def sl (s : ByteArray) : Int := Lib.indexByte s.data.toList 47
def numS (s : ByteArray) : ByteArray := if 0 ≤ sl s then s.extract 0 (sl s).toNat else s
def denS (s : ByteArray) : ByteArray := if 0 ≤ sl s then s.extract ((sl s).toNat + 1) s.size else ⟨#[49]⟩
/-- What Parse answers. -/
def parO (s : ByteArray) : Option Rat := if fV (numS s) (denS s) && (prS (numS s, denS s)).toList == s.toList then mkS (numS s) (denS s) else none

def CutOut (w : World) (a b : ByteArray) (q : Bool) (e : Ending) (w' : World) : Prop := e = .returned (.tuple #[.string a, .string b, .bool q]) ∧ Below w.heap.size w w'
set_option maxHeartbeats 1000000 in
theorem scut_miss (s : ByteArray) (w : World) (h : sl s < 0) : Calls Tryz.prog 66 #[.string s, .string ⟨#[47]⟩] w (CutOut w s ⟨#[]⟩ false) := by
  have CI := Lib.hid (Tryz.stringslite_Index_one s 47)
  obtain ⟨i, hi⟩ : ∃ i, Lib.indexByte s.data.toList 47 = i := ⟨_, rfl⟩
  have hi0 : i < 0 := by rw [← hi]; exact h
  rw [hi] at CI
  clear h hi
  have CC : Hid (∀ W, Calls Tryz.prog 98 #[.string s, .string ⟨#[47]⟩] W fun e w' => e = .returned (.tuple #[.string s, .string ⟨#[]⟩, .bool false]) ∧ w' = W) := by
    intro W
    go_enter Tryz.func98, Tryz.ntmps98
    go_wp2_with fail
    (with_reducible refine (CI.out _).mono ?_)
    rintro e w1 ⟨rfl, rfl⟩
    go_wp2
    refine bodyPost_ret (v := .tuple #[.string s, .string ⟨#[]⟩, .bool false]) (by simp [results, Tryz.results98, go_sem]) rfl ?_
    exact ⟨rfl, rfl⟩
  go_enter Tryz.func66, Tryz.ntmps66
  go_wp2_with fail
  (with_reducible refine (CC.out _).mono ?_)
  rintro e w1 ⟨rfl, rfl⟩
  go_wp2
  refine bodyPost_ret (v := .tuple #[.string s, .string ⟨#[]⟩, .bool false]) (by simp [results, Tryz.results66, go_sem]) rfl ?_
  exact ⟨rfl, Below.refl _ _⟩
set_option maxHeartbeats 2000000 in
theorem scut_hit (s : ByteArray) (w : World) (i : Nat) (h : sl s = i) (hi : i < s.size) (hs : s.size ≤ 9223372036854775807) : Calls Tryz.prog 66 #[.string s, .string ⟨#[47]⟩] w (CutOut w (s.extract 0 i) (s.extract (i + 1) s.size) true) := by
  have CI := Lib.hid (Tryz.stringslite_Index_one s 47)
  rw [show Lib.indexByte s.data.toList 47 = (i : Int) from h] at CI
  clear h
  have c1 : (0 : Int) ≤ ↑i := by omega
  have c2 : (↑i : Int) ≤ ↑s.size := by omega
  have c3 : (0 : Int) ≤ ↑i + 1 := by omega
  have c4 : (↑i + 1 : Int) ≤ ↑s.size := by omega
  have hsI : (s.size : Int) ≤ 9223372036854775807 := by omega
  have hwi : IntKind.i64.wrap ((i : Int) + 1) = (i : Int) + 1 := wrap_in _ ⟨by omega, by omega⟩
  have htn : ((i : Int) + 1).toNat = i + 1 := by omega
  have CC : Hid (∀ W, Calls Tryz.prog 98 #[.string s, .string ⟨#[47]⟩] W (CutOut W (s.extract 0 i) (s.extract (i + 1) s.size) true)) := by
    intro W
    go_enter Tryz.func98, Tryz.ntmps98
    go_wp2_with fail
    (with_reducible refine (CI.out _).mono ?_)
    rintro e w1 ⟨rfl, rfl⟩
    go_wp2_with fail
    go_quiet (fail)
    go_wp2
    refine bodyPost_ret (v := .tuple #[.string (s.extract 0 i), .string (s.extract (i + 1) s.size), .bool true]) (by simp [results, Tryz.results98, go_sem]) rfl ?_
    exact ⟨rfl, below_drawn (Below.refl _ _) _⟩
  generalize s.extract 0 i = a at *
  generalize s.extract (i + 1) s.size = b at *
  go_enter Tryz.func66, Tryz.ntmps66
  go_wp2_with fail
  (with_reducible refine (CC.out _).mono ?_)
  rintro e w1 ⟨rfl, hb1⟩
  have HB1 := Lib.hid hb1
  clear hb1
  go_wp2
  refine bodyPost_ret (v := .tuple #[.string a, .string b, .bool true]) (by simp [results, Tryz.results66, go_sem]) rfl ?_
  exact ⟨rfl, HB1.out⟩

theorem sl_ge (s : ByteArray) : -1 ≤ sl s := Lib.indexByte_ge _ _
theorem ba_ext {a b : ByteArray} (h : a.data.toList = b.data.toList) : a = b := by
  apply ByteArray.ext
  exact Array.toList_inj.1 h
theorem cut_pr {q : Rat} {s : ByteArray} (h : s.data.toList = prL q) : numS s = str q.num ∧ denS s = str (q.den : Int) := by
  unfold prL at h
  by_cases hd : q.den = 1
  · rw [if_pos hd] at h
    have hs : s = str q.num := ba_ext (by rw [h, str_data])
    have hn : ¬ 0 ≤ sl s := fun h0 => by
      obtain ⟨o, ho⟩ : ∃ o : Nat, sl s = o := ⟨(sl s).toNat, by omega⟩
      obtain ⟨h1, _⟩ := Lib.indexByte_some (show Lib.indexByte s.data.toList 47 = (o : Int) from ho)
      exact shw_noslash q.num (by rw [← h]; exact List.mem_of_getElem? h1)
    unfold numS denS
    rw [if_neg hn, if_neg hn, hd]
    exact ⟨hs, str1⟩
  · rw [if_neg hd] at h
    have hsl : sl s = ((shw q.num).length : Int) := by
      have hge := sl_ge s
      have hat : s.data.toList[(shw q.num).length]? = some 47 := by rw [h]; simp
      by_cases h0 : sl s = -1
      · exact absurd hat (Lib.indexByte_none (show Lib.indexByte s.data.toList 47 = -1 from h0) _)
      · obtain ⟨o, ho⟩ : ∃ o : Nat, sl s = o := ⟨(sl s).toNat, by omega⟩
        obtain ⟨h1, h2⟩ := Lib.indexByte_some (show Lib.indexByte s.data.toList 47 = (o : Int) from ho)
        rcases Nat.lt_trichotomy o (shw q.num).length with hlt | heq | hgt
        · rw [h, List.getElem?_append_left hlt] at h1
          exact absurd (List.mem_of_getElem? h1) (shw_noslash _)
        · rw [ho, heq]
        · exact absurd hat (h2 _ hgt)
    unfold numS denS
    rw [hsl, if_pos (by omega), if_pos (by omega), Int.toNat_natCast]
    have hsz : s.size = (shw q.num).length + 1 + (shw (q.den : Int)).length := by
      show s.data.size = _
      rw [← Array.length_toList, h]; simp; omega
    constructor
    · apply ba_ext
      rw [str_data, ByteArray.data_extract, Array.toList_extract, h]
      simp
    · apply ba_ext
      rw [str_data, ByteArray.data_extract, Array.toList_extract, h, hsz]
      simp [List.extract_eq_take_drop]
theorem par_eq (s : ByteArray) : (match mkS (numS s) (denS s) with | none => none | some q => if (prQ q).toList == s.toList then some q else none) = parO s := by
  unfold parO
  cases hv : fV (numS s) (denS s) with
  | true =>
    obtain ⟨x, bx, hx1, hx2⟩ := fV_q hv
    rw [hx1, hx2, mkS_str bx, prS_q bx]
    simp
  | false =>
    cases hm : mkS (numS s) (denS s) with
    | none => rfl
    | some q =>
      have bq := mkS_bq hm
      have hne : ((prQ q).toList == s.toList) = false := by
        rw [beq_eq_false_iff_ne, ByteArray.toList_eq, ByteArray.toList_eq]
        intro e
        obtain ⟨h1, h2⟩ := cut_pr (q := q) (s := s) (by rw [← e]; simp [prQ])
        rw [h1, h2, fV_str bq] at hv
        cases hv
      show (if ((prQ q).toList == s.toList) = true then some q else none) = none
      rw [hne]; rfl

set_option maxRecDepth 100000 in
set_option maxHeartbeats 2000000 in
theorem parse_any (s : ByteArray) (w : World) (hs : s.size ≤ 9223372036854775807) (ht : Tb w) : Calls Tryz.prog 34 #[.string s] w (QOut w (parO s)) := by
  obtain ⟨wA, hwA⟩ : ∃ wA, w.alloc (.cells #[.string ⟨#[]⟩, .string ⟨#[]⟩] 23) = wA := ⟨_, rfl⟩
  have hbA : Below w.heap.size w wA := by rw [← hwA]; exact (Below.refl w.heap.size w).alloc (Nat.le_refl _) _
  have h0 : wA.heap[w.heap.size]? = some (.cells #[.string ⟨#[]⟩, .string ⟨#[]⟩] 23) := by rw [← hwA]; exact heap_new' _ _ _ rfl
  have hsz : (numS s).size ≤ 9223372036854775807 ∧ (denS s).size ≤ 9223372036854775807 := by
    unfold numS denS
    split
    · rw [ByteArray.size_extract, ByteArray.size_extract]
      omega
    · exact ⟨hs, by decide⟩
  obtain ⟨wr, x, hcut, hden⟩ : ∃ wr x, (∀ W, Calls Tryz.prog 66 #[.string s, .string ⟨#[47]⟩] W (CutOut W (numS s) x wr)) ∧ (if wr then x else ⟨#[49]⟩) = denS s := by
    by_cases h : 0 ≤ sl s
    · obtain ⟨i, hi⟩ : ∃ i : Nat, sl s = i := ⟨(sl s).toNat, by omega⟩
      obtain ⟨h1, _⟩ := Lib.indexByte_some (show Lib.indexByte s.data.toList 47 = (i : Int) from hi)
      have hlt : i < s.size := by
        have := (List.getElem?_eq_some_iff.1 h1).1
        rw [Array.length_toList] at this; exact this
      refine ⟨true, denS s, fun W => ?_, rfl⟩
      have := scut_hit s W i hi hlt hs
      unfold numS denS
      rw [if_pos h, if_pos h, hi, Int.toNat_natCast]
      exact this
    · refine ⟨false, ⟨#[]⟩, fun W => ?_, by unfold denS; rw [if_neg h]; rfl⟩
      have := scut_miss s W (by omega)
      unfold numS
      rw [if_neg h]
      exact this
  have hpe := par_eq s
  have CCU := Lib.hid hcut
  have CM := Lib.hid (fun W (hW : Below w.heap.size w W) => make_any (numS s) (denS s) W hsz.1 hsz.2 (ht.below hW))
  have CP := Lib.hid (fun q (hq : BQ q) W (hW : Below w.heap.size w W) => print_q q hq W (ht.below hW))
  have HBQ := Lib.hid (fun q (h : mkS (numS s) (denS s) = some q) => mkS_bq h)
  have H0 := Lib.hid h0; have HBA := Lib.hid hbA
  have HPE := Lib.hid hpe
  generalize mkS (numS s) (denS s) = o at *
  generalize parO s = z at *
  generalize numS s = a at *
  generalize denS s = b at *
  clear hcut hpe hsz hbA h0 ht
  go_enter Tryz.func34, Tryz.ntmps34
  go_wp2_with fail
  (with_reducible refine (CCU.out _).mono ?_)
  rintro e w1 ⟨rfl, hb1⟩
  have HB1 := Lib.hid hb1; have HB1w := Lib.hid (below1 HBA.out hb1)
  clear hb1
  have HDEN := Lib.hid hden
  clear hden
  cases wr with
  | false =>
    obtain rfl : b = ⟨#[49]⟩ := HDEN.out.symm
    go_wp2_with fail
    (with_reducible refine (CM.out _ HB1w.out).mono ?_)
    rintro e w2 ⟨rfl, hb2⟩
    have HB2 := Lib.hid (below1 HB1.out hb2)
    have HB2w := Lib.hid (below1 HB1w.out hb2)
    have HR2 := Lib.hid (bl_up H0.out HB2.out)
    clear hb2
    cases o with
    | none =>
      have HZ := Lib.hid (show z = none from HPE.out.symm)
      have H2 := bl_up HR2.out ((Below.refl w2.heap.size w2).alloc (Nat.le_refl _) (.cells #[.string (oN none), .string (oD none)] 23))
      obtain ⟨r1, r2, r3, r4⟩ := box2 H2
      obtain ⟨s1, s2, _, _⟩ := box2 (put2_heap H2 (.string ⟨#[]⟩) (.string ⟨#[]⟩))
      have HP := Lib.hid (show QOut w none (.returned (.tuple #[.agg #[.string ⟨#[]⟩, .string ⟨#[]⟩], .int .i64 40])) (put2 (w2.alloc (.cells #[.string ⟨#[]⟩, .string ⟨#[]⟩] 23)) w.heap.size (.string ⟨#[]⟩) (.string ⟨#[]⟩)) from
        ⟨rfl, put2_below (HB2w.out.alloc HB2w.out.size _) (Nat.le_refl _) _ _⟩)
      rw [show oN none = ⟨#[]⟩ from rfl, show oD none = ⟨#[]⟩ from rfl] at r1 r2 r3 r4 s1 s2
      rw [show oN none = ⟨#[]⟩ from rfl, show oD none = ⟨#[]⟩ from rfl, show oE none = 40 from rfl]
      clear H2
      go_wp2
      refine bodyPost_ret (v := .tuple #[.agg #[.string ⟨#[]⟩, .string ⟨#[]⟩], .int .i64 40]) (by simp [results, Tryz.results34, go_sem, s1, s2]) rfl ?_
      rw [HZ.out]
      exact HP.out
    | some q =>
      have bq := HBQ.out q rfl
      have HZ := Lib.hid (show (if (prQ q).toList == s.toList then some q else none) = z from HPE.out)
      rw [show oN (some q) = str q.num from rfl, show oD (some q) = str (q.den : Int) from rfl, show oE (some q) = 0 from rfl]
      have HA3 := Lib.hid ((Below.refl w2.heap.size w2).alloc (Nat.le_refl _) (.cells #[.string (str q.num), .string (str (q.den : Int))] 23))
      have HK3 := Lib.hid (heap_new' w2 (.cells #[.string (str q.num), .string (str (q.den : Int))] 23) w2.heap.size rfl)
      have HB3 := Lib.hid (below1 HB2w.out HA3.out)
      have HR3 := Lib.hid (bl_up HR2.out HA3.out)
      have CQ := Lib.hid (CP.out q bq)
      have HPQ := Lib.hid (fun W (hb : Below w.heap.size w W) => show QOut w (some q) (.returned (.tuple #[.agg #[.string (str q.num), .string (str (q.den : Int))], .int .i64 0])) (put2 W w.heap.size (.string (str q.num)) (.string (str (q.den : Int)))) from ⟨rfl, put2_below hb (Nat.le_refl _) _ _⟩)
      have HPN := Lib.hid (fun W (hb : Below w.heap.size w W) => show QOut w none (.returned (.tuple #[.agg #[.string ⟨#[]⟩, .string ⟨#[]⟩], .int .i64 40])) (put2 W w.heap.size (.string ⟨#[]⟩) (.string ⟨#[]⟩)) from ⟨rfl, put2_below hb (Nat.le_refl _) _ _⟩)
      obtain ⟨bb, hbb⟩ : ∃ bb, ((prQ q).toList == s.toList) = bb := ⟨_, rfl⟩
      rw [hbb] at HZ
      generalize prQ q = t at *
      generalize str q.num = u at *
      generalize str (q.den : Int) = v at *
      have HBB := Lib.hid hbb
      clear bq hbb
      go_wp2_with fail
      (with_reducible refine (CQ.out _ HB3.out).mono ?_)
      rintro e w4 ⟨rfl, hb4⟩
      have H4 := bl_up HR3.out hb4
      have H5 := bl_up HK3.out hb4
      have HB4 := Lib.hid (below1 HB3.out hb4)
      clear hb4
      obtain ⟨r1, r2, r3, r4⟩ := box2 H4
      obtain ⟨q1, q2, _, _⟩ := box2 H5
      cases bb with
      | true =>
        obtain ⟨s1, s2, _, _⟩ := box2 (put2_heap H4 (.string u) (.string v))
        have hbb := HBB.out
        clear H4 H5
        go_wp2
        refine bodyPost_ret (v := .tuple #[.agg #[.string u, .string v], .int .i64 0]) (by simp [results, Tryz.results34, go_sem, s1, s2]) rfl ?_
        rw [show z = some q from HZ.out.symm]
        exact HPQ.out _ HB4.out
      | false =>
        obtain ⟨s1, s2, _, _⟩ := box2 (put2_heap H4 (.string ⟨#[]⟩) (.string ⟨#[]⟩))
        have hbb := HBB.out
        clear H4 H5
        go_wp2
        refine bodyPost_ret (v := .tuple #[.agg #[.string ⟨#[]⟩, .string ⟨#[]⟩], .int .i64 40]) (by simp [results, Tryz.results34, go_sem, s1, s2]) rfl ?_
        rw [show z = none from HZ.out.symm]
        exact HPN.out _ HB4.out
  | true =>
    obtain rfl : b = x := HDEN.out.symm
    go_wp2_with fail
    (with_reducible refine (CM.out _ HB1w.out).mono ?_)
    rintro e w2 ⟨rfl, hb2⟩
    have HB2 := Lib.hid (below1 HB1.out hb2)
    have HB2w := Lib.hid (below1 HB1w.out hb2)
    have HR2 := Lib.hid (bl_up H0.out HB2.out)
    clear hb2
    cases o with
    | none =>
      have HZ := Lib.hid (show z = none from HPE.out.symm)
      have H2 := bl_up HR2.out ((Below.refl w2.heap.size w2).alloc (Nat.le_refl _) (.cells #[.string (oN none), .string (oD none)] 23))
      obtain ⟨r1, r2, r3, r4⟩ := box2 H2
      obtain ⟨s1, s2, _, _⟩ := box2 (put2_heap H2 (.string ⟨#[]⟩) (.string ⟨#[]⟩))
      have HP := Lib.hid (show QOut w none (.returned (.tuple #[.agg #[.string ⟨#[]⟩, .string ⟨#[]⟩], .int .i64 40])) (put2 (w2.alloc (.cells #[.string ⟨#[]⟩, .string ⟨#[]⟩] 23)) w.heap.size (.string ⟨#[]⟩) (.string ⟨#[]⟩)) from
        ⟨rfl, put2_below (HB2w.out.alloc HB2w.out.size _) (Nat.le_refl _) _ _⟩)
      rw [show oN none = ⟨#[]⟩ from rfl, show oD none = ⟨#[]⟩ from rfl] at r1 r2 r3 r4 s1 s2
      rw [show oN none = ⟨#[]⟩ from rfl, show oD none = ⟨#[]⟩ from rfl, show oE none = 40 from rfl]
      clear H2
      go_wp2
      refine bodyPost_ret (v := .tuple #[.agg #[.string ⟨#[]⟩, .string ⟨#[]⟩], .int .i64 40]) (by simp [results, Tryz.results34, go_sem, s1, s2]) rfl ?_
      rw [HZ.out]
      exact HP.out
    | some q =>
      have bq := HBQ.out q rfl
      have HZ := Lib.hid (show (if (prQ q).toList == s.toList then some q else none) = z from HPE.out)
      rw [show oN (some q) = str q.num from rfl, show oD (some q) = str (q.den : Int) from rfl, show oE (some q) = 0 from rfl]
      have HA3 := Lib.hid ((Below.refl w2.heap.size w2).alloc (Nat.le_refl _) (.cells #[.string (str q.num), .string (str (q.den : Int))] 23))
      have HK3 := Lib.hid (heap_new' w2 (.cells #[.string (str q.num), .string (str (q.den : Int))] 23) w2.heap.size rfl)
      have HB3 := Lib.hid (below1 HB2w.out HA3.out)
      have HR3 := Lib.hid (bl_up HR2.out HA3.out)
      have CQ := Lib.hid (CP.out q bq)
      have HPQ := Lib.hid (fun W (hb : Below w.heap.size w W) => show QOut w (some q) (.returned (.tuple #[.agg #[.string (str q.num), .string (str (q.den : Int))], .int .i64 0])) (put2 W w.heap.size (.string (str q.num)) (.string (str (q.den : Int)))) from ⟨rfl, put2_below hb (Nat.le_refl _) _ _⟩)
      have HPN := Lib.hid (fun W (hb : Below w.heap.size w W) => show QOut w none (.returned (.tuple #[.agg #[.string ⟨#[]⟩, .string ⟨#[]⟩], .int .i64 40])) (put2 W w.heap.size (.string ⟨#[]⟩) (.string ⟨#[]⟩)) from ⟨rfl, put2_below hb (Nat.le_refl _) _ _⟩)
      obtain ⟨bb, hbb⟩ : ∃ bb, ((prQ q).toList == s.toList) = bb := ⟨_, rfl⟩
      rw [hbb] at HZ
      generalize prQ q = t at *
      generalize str q.num = u at *
      generalize str (q.den : Int) = v at *
      have HBB := Lib.hid hbb
      clear bq hbb
      go_wp2_with fail
      (with_reducible refine (CQ.out _ HB3.out).mono ?_)
      rintro e w4 ⟨rfl, hb4⟩
      have H4 := bl_up HR3.out hb4
      have H5 := bl_up HK3.out hb4
      have HB4 := Lib.hid (below1 HB3.out hb4)
      clear hb4
      obtain ⟨r1, r2, r3, r4⟩ := box2 H4
      obtain ⟨q1, q2, _, _⟩ := box2 H5
      cases bb with
      | true =>
        obtain ⟨s1, s2, _, _⟩ := box2 (put2_heap H4 (.string u) (.string v))
        have hbb := HBB.out
        clear H4 H5
        go_wp2
        refine bodyPost_ret (v := .tuple #[.agg #[.string u, .string v], .int .i64 0]) (by simp [results, Tryz.results34, go_sem, s1, s2]) rfl ?_
        rw [show z = some q from HZ.out.symm]
        exact HPQ.out _ HB4.out
      | false =>
        obtain ⟨s1, s2, _, _⟩ := box2 (put2_heap H4 (.string ⟨#[]⟩) (.string ⟨#[]⟩))
        have hbb := HBB.out
        clear H4 H5
        go_wp2
        refine bodyPost_ret (v := .tuple #[.agg #[.string ⟨#[]⟩, .string ⟨#[]⟩], .int .i64 40]) (by simp [results, Tryz.results34, go_sem, s1, s2]) rfl ?_
        rw [show z = none from HZ.out.symm]
        exact HPN.out _ HB4.out
end Go.Proofs.YtcjcafekacceiaaGreatDoor
