/- numberOf, numbersOf and integer, walked. -/
import Derived.Test.YtebjjgbdiabapaaGreatDoorNud
namespace Go.Proofs.YtebjjgbdiabapaaGreatDoor
open Go.RowKit

/-- Is the text valid, and which number is read: 0 if it is not. -/
def vS (s : ByteArray) : Bool := vld s.data.toList
def nS (s : ByteArray) : Int := if vS s then num s.data.toList else 0
theorem nS_big (s : ByteArray) : Big (nS s) := by
  unfold nS
  split
  · next h => exact (shw_num _ h).2
  · unfold Big; exact Nat.pow_pos (by decide)
theorem vS_str (z : Int) : vS (str z) = true ↔ Big z := by unfold vS; rw [str_data]; exact shw_vld z
theorem nS_str {z : Int} (h : Big z) : nS (str z) = z := by
  unfold nS
  rw [if_pos ((vS_str z).2 h), str_data, num_shw]
theorem str_nS {s : ByteArray} (h : vS s = true) : s = str (nS s) := by
  have := (shw_num _ h).1
  unfold nS
  rw [if_pos h]
  apply ByteArray.ext
  apply Array.ext'
  rw [str_data]
  exact this
theorem big_len {z : Int} (h : Big z) : (dz 10000 z.natAbs).length ≤ 50 := by
  rw [len4]
  unfold Big at h
  have e : 10000 ^ 50 = 10 ^ 200 := by rw [show (10000 : Nat) = 10 ^ 4 from rfl, ← Nat.pow_mul]
  rw [e]; exact h
def NoOut (w : World) (s : ByteArray) (e : Ending) (w' : World) : Prop := ∃ v, e = .returned (.tuple #[v, .bool (vS s)]) ∧ Nm w' v (nS s) ∧ Below w.heap.size w w'
theorem no_end {w w1 : World} {B : Nat} {T : TypeId} {q0 : Bool} {al0 : Option Addr} {n0 c0 : Nat} {b1 : Bool} {al : Option Addr} {L c : Nat} {s : ByteArray} {bb : Bool} (HK : w1.heap[B]? = some (.cells #[.bool q0, .slice al0 n0 c0] T)) (hb : b1 = decide (nS s < 0)) (hs : Nt w1 (.slice al L c) (nS s).natAbs)
    (hB : Below w.heap.size w w1) (hle : w.heap.size ≤ B) (hbb : bb = vS s) : NoOut w s (.returned (.tuple #[.agg #[.bool b1, .slice al L c], .bool bb])) ((w1.setCell ⟨B, 0, none⟩ (.bool b1)).setCell ⟨B, 1, none⟩ (.slice al L c)) :=
  ⟨_, by rw [hbb], nm_mk hb (put2_nt HK hs _ _), put2_below hB hle _ _⟩
theorem vS_body {s : ByteArray} (h : vS s = true) : (body s.data.toList).all isD = true ∧ (body s.data.toList).length ≤ 200 := by
  unfold vS vld at h
  simp only [Bool.and_eq_true, decide_eq_true_eq] at h
  exact ⟨h.1.2, h.1.1.2⟩
theorem vS_num {s : ByteArray} (h : vS s = true) : (vz 10 (digN (body s.data.toList))).toNat = (nS s).natAbs ∧ decide (s.data.toList.head? = some 45) = decide (nS s < 0) := by
  have hs := str_nS h
  obtain ⟨z, hz⟩ : ∃ z, nS s = z := ⟨_, rfl⟩
  rw [hz] at hs ⊢
  rw [hs, str_data, body_shw, decide_eq_decide]
  exact ⟨by rw [digN_txt]; rfl, head_shw z⟩

set_option maxRecDepth 100000 in
set_option maxHeartbeats 2000000 in
theorem numberOf_any (s : ByteArray) (w : World) (hs : s.size ≤ 9223372036854775807) : Calls Tryz.prog 47 #[.string s] w (NoOut w s) := by
  have CV := Lib.hid (fun W => valid_any s W hs)
  rw [show vld s.data.toList = vS s from rfl] at CV
  cases hv : vS s with
  | false =>
    rw [hv] at CV
    have hn : nS s = 0 := by unfold nS; rw [hv]; rfl
    have HN := Lib.hid hn; have HV := Lib.hid hv
    clear hn hv
    go_enter Tryz.func47, Tryz.ntmps47
    go_wp2_with (go_at_call 23; (with_reducible refine (CV.out _).mono ?_); rintro e w2 ⟨rfl, rfl⟩)
    refine bodyPost_ret (v := .tuple #[.agg #[.bool false, .slice none 0 0], .bool false]) (by simp [results, Tryz.results47, go_sem]) rfl ?_
    exact ⟨_, by rw [HV.out], nm_mk (by rw [HN.out]; rfl) (by rw [HN.out]; exact Nt.zero _), (Below.refl _ _).alloc (Nat.le_refl _) _⟩
  | true =>
    rw [hv] at CV
    obtain ⟨hall, hlen⟩ := vS_body hv
    obtain ⟨hnum, hsg⟩ := vS_num hv
    have CC := Lib.hid (Tryz.strings_CutPrefix s ⟨#[45]⟩)
    rw [show (⟨#[45]⟩ : ByteArray).data.toList = [45] from rfl, trim_body, has_body, hsg] at CC
    have CN := Lib.hid (fun W => naturalOf_nt ⟨(body s.data.toList).toArray⟩ (by simpa using hall) (by show (body s.data.toList).toArray.size ≤ _; rw [List.size_toArray]; omega) W)
    rw [show (⟨(body s.data.toList).toArray⟩ : ByteArray).data.toList = body s.data.toList from by simp, hnum] at CN
    have HV := Lib.hid hv
    clear hv hall hlen hnum hsg
    generalize body s.data.toList = bd at *
    obtain ⟨q, hq⟩ : ∃ q, decide (nS s < 0) = q := ⟨_, rfl⟩
    rw [hq] at CC
    have HQ := Lib.hid hq
    clear hq
    go_enter Tryz.func47, Tryz.ntmps47
    go_wp2_with (first
      | (go_at_call 23; (with_reducible refine (CV.out _).mono ?_); rintro e w2 ⟨rfl, rfl⟩)
      | (go_at_call 68; (with_reducible refine (CC.out _).mono ?_); rintro e w3 ⟨rfl, rfl⟩)
      | (go_at_call 69; (with_reducible refine (CN.out _).mono ?_); rintro e w4 ⟨v4, rfl, hv4, hb4⟩; obtain ⟨al4, c4, rfl⟩ := hv4.shape; have HV4 := Lib.hid hv4; have HB4 := Lib.hid hb4; have HK := Lib.hid ((hb4.block w.heap.size (by simp)).trans (heap_new' w (.cells #[.bool false, .slice none 0 0] 49) w.heap.size rfl)); obtain ⟨q1, q2, q3, q4⟩ := box2 HK.out; clear hv4 hb4))
    obtain ⟨r1, r2, _⟩ := box2 (put2_heap HK.out (.bool q) (.slice al4 (dz 10000 (nS s).natAbs).length c4))
    exact bodyPost_ret (v := .tuple #[.agg #[.bool q, .slice al4 (dz 10000 (nS s).natAbs).length c4], .bool true]) (by simp [results, Tryz.results47, go_sem, r1, r2]) rfl
      (no_end HK.out HQ.out.symm HV4.out (((Below.refl w.heap.size w).alloc (Nat.le_refl _) _).trans (HB4.out.mono (by simp))) (Nat.le_refl _) HV.out.symm)

/-- Both numbers, and whether both texts are valid. -/
def No2Out (w : World) (a b : ByteArray) (e : Ending) (w' : World) : Prop := ∃ v1 v2, e = .returned (.tuple #[v1, v2, .bool (vS a && vS b)]) ∧ Nm w' v1 (nS a) ∧ Nm w' v2 (nS b) ∧ Below w.heap.size w w'
theorem nt_drew {w : World} {v : Value} {n : Nat} (h : Nt w v n) : Nt w.drew v n := h
theorem no2_end {w w1 : World} {B C : Nat} {T : TypeId} {p1 p2 bb : Bool} {al1 al2 : Option Addr} {L1 c1 L2 c2 : Nat} {a b : ByteArray} (HA : w1.heap[B]? = some (.cells #[.bool p1, .slice al1 L1 c1] T)) (HC : w1.heap[C]? = some (.cells #[.bool p2, .slice al2 L2 c2] T)) (hne : B ≠ C)
    (h1 : p1 = decide (nS a < 0)) (h2 : p2 = decide (nS b < 0)) (hs1 : Nt w1 (.slice al1 L1 c1) (nS a).natAbs) (hs2 : Nt w1 (.slice al2 L2 c2) (nS b).natAbs) (hB : Below w.heap.size w w1) (hlB : w.heap.size ≤ B) (hlC : w.heap.size ≤ C) (hbb : bb = (vS a && vS b)) :
    No2Out w a b (.returned (.tuple #[.agg #[.bool p1, .slice al1 L1 c1], .agg #[.bool p2, .slice al2 L2 c2], .bool bb]))
      (((((w1.setCell ⟨B, 0, none⟩ (.bool p1)).setCell ⟨B, 1, none⟩ (.slice al1 L1 c1)).setCell ⟨C, 0, none⟩ (.bool p2)).setCell ⟨C, 1, none⟩ (.slice al2 L2 c2)).drew) := by
  have hC2 := (put2_other (W := w1) (B := B) (k := C) (.bool p1) (.slice al1 L1 c1) (fun e => hne e.symm)).trans HC
  refine ⟨_, _, by rw [hbb], nm_mk h1 ?_, nm_mk h2 ?_, (put2_below (put2_below hB hlB _ _) hlC _ _).drew⟩
  · exact nt_drew (put2_nt hC2 (put2_nt HA hs1 _ _) _ _)
  · exact nt_drew (put2_nt hC2 (put2_nt HA hs2 _ _) _ _)

set_option maxRecDepth 100000 in
set_option maxHeartbeats 2000000 in
theorem numbersOf_any (a b : ByteArray) (w : World) (ha : a.size ≤ 9223372036854775807) (hb : b.size ≤ 9223372036854775807) : Calls Tryz.prog 38 #[.string a, .string b] w (No2Out w a b) := by
  have HB0 := Lib.hid (((Below.refl w.heap.size w).alloc (Nat.le_refl _) (.cells #[.bool false, .slice none 0 0] 49)).alloc (by simp) (.cells #[.bool false, .slice none 0 0] 49))
  have H00 := Lib.hid ((Below.heap_alloc (w.alloc (.cells #[.bool false, .slice none 0 0] 49)) (.cells #[.bool false, .slice none 0 0] 49) w.heap.size (by simp)).trans (heap_new' w (.cells #[.bool false, .slice none 0 0] 49) w.heap.size rfl))
  have H01 := Lib.hid (heap_new' (w.alloc (.cells #[.bool false, .slice none 0 0] 49)) (.cells #[.bool false, .slice none 0 0] 49) (w.heap.size + 1) (by simp))
  have hlt : w.heap.size + 1 < ((w.alloc (.cells #[.bool false, .slice none 0 0] 49)).alloc (.cells #[.bool false, .slice none 0 0] 49)).heap.size := by simp
  have CA := Lib.hid (numberOf_any a ((w.alloc (.cells #[.bool false, .slice none 0 0] 49)).alloc (.cells #[.bool false, .slice none 0 0] 49)) ha)
  have CB := Lib.hid (fun W => numberOf_any b W hb)
  go_enter Tryz.func38, Tryz.ntmps38
  go_wp2_with fail
  refine CA.out.mono ?_
  rintro e w1 ⟨v1, rfl, hn1, hb1⟩
  obtain ⟨p1, al1, L1, c1, rfl, hp1, hL1, hs1⟩ := hn1.open
  have K0 := Lib.hid ((hb1.block w.heap.size (by omega)).trans H00.out)
  have K1 := Lib.hid ((hb1.block (w.heap.size + 1) hlt).trans H01.out)
  obtain ⟨q1, q2, q3, q4⟩ := box2 K0.out
  have HB1 := Lib.hid (HB0.out.trans (hb1.mono HB0.out.size))
  clear hn1 hb1 hlt
  obtain ⟨xa, hxa⟩ : ∃ xa, vS a = xa := ⟨_, rfl⟩
  rw [hxa]
  have HXA := Lib.hid hxa
  clear hxa
  go_wp2_with fail
  obtain ⟨W2, hW2⟩ : ∃ W2, put2 w1 w.heap.size (.bool p1) (.slice al1 L1 c1) = W2 := ⟨_, rfl⟩
  have hA := put2_heap K0.out (.bool p1) (.slice al1 L1 c1)
  have hB := (put2_other (W := w1) (B := w.heap.size) (k := w.heap.size + 1) (.bool p1) (.slice al1 L1 c1) (by omega)).trans K1.out
  have hS := put2_nt K0.out hs1.out (.bool p1) (.slice al1 L1 c1)
  have hBW := put2_below HB1.out (Nat.le_refl _) (.bool p1) (.slice al1 L1 c1)
  have hW3 := hW2
  unfold put2 at hW3
  rw [hW2] at hA hB hS hBW
  rw [hW3]
  have HA := Lib.hid hA; have HB := Lib.hid hB; have HS := Lib.hid hS; have HBW := Lib.hid hBW
  clear hW2 hW3 hA hB hS hBW q1 q2 q3 q4
  refine (CB.out W2).mono ?_
  rintro e w4 ⟨v4, rfl, hn4, hb4⟩
  obtain ⟨p2, al2, L2, c2, rfl, hp2, hL2, hs2⟩ := hn4.open
  have K0' := Lib.hid ((hb4.block w.heap.size (Array.getElem?_eq_some_iff.1 HA.out).1).trans HA.out)
  have K1' := Lib.hid ((hb4.block (w.heap.size + 1) (Array.getElem?_eq_some_iff.1 HB.out).1).trans HB.out)
  have HS' := Lib.hid (HS.out.below (Nat.le_refl _) hb4)
  have HBW' := Lib.hid (HBW.out.trans (hb4.mono HBW.out.size))
  clear hn4 hb4
  obtain ⟨xb, hxb⟩ : ∃ xb, vS b = xb := ⟨_, rfl⟩
  rw [hxb]
  have HXB := Lib.hid hxb
  clear hxb
  obtain ⟨q1, q2, q3, q4⟩ := box2 K1'.out
  go_upto_region 3 with fail
  obtain ⟨W5, hW5⟩ : ∃ W5, put2 w4 (w.heap.size + 1) (.bool p2) (.slice al2 L2 c2) = W5 := ⟨_, rfl⟩
  have hA := (put2_other (W := w4) (B := w.heap.size + 1) (k := w.heap.size) (.bool p2) (.slice al2 L2 c2) (by omega)).trans K0'.out
  have hB := put2_heap K1'.out (.bool p2) (.slice al2 L2 c2)
  have hS1 := put2_nt K1'.out HS'.out (.bool p2) (.slice al2 L2 c2)
  have hS2 := put2_nt K1'.out hs2.out (.bool p2) (.slice al2 L2 c2)
  have hBW := put2_below HBW'.out (show w.heap.size ≤ w.heap.size + 1 by omega) (.bool p2) (.slice al2 L2 c2)
  have hW3 := hW5
  unfold put2 at hW3
  rw [hW5] at hA hB hS1 hS2 hBW
  rw [hW3]
  have HA5 := Lib.hid hA; have HB5 := Lib.hid hB; have HS5 := Lib.hid hS1; have HT5 := Lib.hid hS2; have HBW5 := Lib.hid hBW
  clear hW5 hW3 hA hB hS1 hS2 hBW q1 q2 q3 q4
  obtain ⟨g1, g2, g3, g4⟩ := box2 HA5.out
  obtain ⟨g5, g6, g7, g8⟩ := box2 HB5.out
  cases xa
  all_goals
    go_region
    go_wp2
    have hC2 := (put2_other (W := W5) (B := w.heap.size) (k := w.heap.size + 1) (.bool p1) (.slice al1 L1 c1) (by omega)).trans HB5.out
    have hf2 := put2_heap hC2 (.bool p2) (.slice al2 L2 c2)
    have hf1 := (put2_other (B := w.heap.size + 1) (k := w.heap.size) (.bool p2) (.slice al2 L2 c2) (by omega)).trans (put2_heap HA5.out (.bool p1) (.slice al1 L1 c1))
    obtain ⟨r1, r2, _⟩ := box2 hf1
    obtain ⟨r3, r4, _⟩ := box2 hf2
    first
      | exact bodyPost_ret (v := .tuple #[.agg #[.bool p1, .slice al1 L1 c1], .agg #[.bool p2, .slice al2 L2 c2], .bool false]) (by simp [results, Tryz.results38, go_sem, r1, r2, r3, r4]) rfl
          (no2_end HA5.out HB5.out (by omega) hp1.out hp2.out HS5.out HT5.out HBW5.out (Nat.le_refl _) (by omega) (by rw [HXA.out, HXB.out]; rfl))
      | exact bodyPost_ret (v := .tuple #[.agg #[.bool p1, .slice al1 L1 c1], .agg #[.bool p2, .slice al2 L2 c2], .bool xb]) (by simp [results, Tryz.results38, go_sem, r1, r2, r3, r4]) rfl
          (no2_end HA5.out HB5.out (by omega) hp1.out hp2.out HS5.out HT5.out HBW5.out (Nat.le_refl _) (by omega) (by rw [HXA.out, HXB.out]; rfl))
end Go.Proofs.YtebjjgbdiabapaaGreatDoor
