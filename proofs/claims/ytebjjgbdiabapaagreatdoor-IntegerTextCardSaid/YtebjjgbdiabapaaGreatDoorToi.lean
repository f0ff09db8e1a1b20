/- FromInt and ToInt, walked. -/
import Derived.Lib.AtoiAll
import Derived.Test.YtebjjgbdiabapaaGreatDoorStr
namespace Go.Proofs.YtebjjgbdiabapaaGreatDoor
open Go.RowKit Go.Shelf

/-- The digits read on from a number. -/
def dgF (acc : Nat) (l : List UInt8) : Nat := l.foldl (fun v c => 10 * v + (c.toNat - 48)) acc
theorem dgF_zero (l : List UInt8) : dgF 0 l = dgv l := rfl
theorem dgF_ge : ∀ (l : List UInt8) (acc : Nat), acc ≤ dgF acc l
  | [], _ => Nat.le_refl _
  | c :: l, acc => by
    have h := dgF_ge l (10 * acc + (c.toNat - 48))
    show acc ≤ dgF (10 * acc + (c.toNat - 48)) l
    omega
theorem parse_digits : ∀ (l : List UInt8) (acc : Nat), l.all isD = true → acc < 18446744073709551616 →
    Lib.parseUint10 acc l = if dgF acc l < 18446744073709551616 then .ok (dgF acc l) else .range
  | [], acc, _, ha => by
    show Lib.NumEnd.ok acc = _
    rw [show dgF acc [] = acc from rfl, if_pos ha]
  | c :: l, acc, hall, ha => by
    rw [List.all_cons, Bool.and_eq_true] at hall
    have hc := hall.1
    simp only [isD, Bool.and_eq_true, decide_eq_true_eq] at hc
    have e : dgF acc (c :: l) = dgF (10 * acc + (c.toNat - 48)) l := rfl
    have hge := dgF_ge l (10 * acc + (c.toNat - 48))
    rw [Lib.parseUint10, if_pos hc, e]
    by_cases h1 : 1844674407370955162 ≤ acc
    · rw [if_pos h1, if_neg (by omega)]
    · rw [if_neg h1]
      by_cases h2 : 18446744073709551616 ≤ acc * 10 + (c.toNat - 48)
      · rw [if_pos h2, if_neg (by omega)]
      · rw [if_neg h2, Nat.mul_comm acc 10]
        exact parse_digits l _ hall.2 (by omega)
theorem dgv_txt (n : Nat) : dgv (txt n) = n := by
  have := dgv_eq (txt n) (txt_all n)
  rw [digN_txt] at this
  omega
theorem parse_txt (n : Nat) : Lib.parseMag (txt n) = if n < 18446744073709551616 then .ok n else .range := by
  unfold Lib.parseMag
  rw [if_neg (txt_ne n), parse_digits _ _ (txt_all n) (by decide), dgF_zero, dgv_txt]
/-- Does an int hold z? -/
def inR (z : Int) : Bool := decide (-9223372036854775808 ≤ z) && decide (z ≤ 9223372036854775807)
theorem inR_iff (z : Int) : inR z = true ↔ -9223372036854775808 ≤ z ∧ z ≤ 9223372036854775807 := by unfold inR; simp
theorem atoi_shw (z : Int) : Lib.atoiAll (shw z) = if inR z then .ok z else .range := by
  by_cases hz : z < 0
  · have e : shw z = 45 :: txt z.natAbs := by unfold shw; rw [if_pos hz]
    rw [e]
    unfold Lib.atoiAll
    have e2 : (45 : UInt8).toNat = 45 := by decide
    simp only [e2, if_true, or_true, parse_txt]
    by_cases h1 : z.natAbs < 18446744073709551616
    · rw [if_pos h1]
      simp only [not_true_eq_false, false_and, if_false, true_and]
      by_cases h2 : inR z = true
      · have := (inR_iff z).1 h2
        rw [if_neg (by omega), if_pos h2]
        congr 1; omega
      · rw [if_pos (by rw [inR_iff] at h2; omega), if_neg h2]
    · rw [if_neg h1]
      simp only []
      rw [if_neg (by rw [inR_iff]; omega)]
  · have e : shw z = txt z.natAbs := by unfold shw; rw [if_neg hz]
    rw [e]
    have hall := txt_all z.natAbs
    have hpt := parse_txt z.natAbs
    cases ht : txt z.natAbs with
    | nil => exact absurd ht (txt_ne _)
    | cons c r =>
      rw [ht] at hall hpt
      rw [List.all_cons, Bool.and_eq_true] at hall
      have hc := hall.1
      simp only [isD, Bool.and_eq_true, decide_eq_true_eq] at hc
      unfold Lib.atoiAll
      simp only [show ¬ c.toNat = 43 by omega, show ¬ c.toNat = 45 by omega, or_self, if_false, hpt]
      by_cases h1 : z.natAbs < 18446744073709551616
      · rw [if_pos h1]
        simp only [not_false_eq_true, true_and, false_and, if_false]
        by_cases h2 : inR z = true
        · have := (inR_iff z).1 h2
          rw [if_neg (by omega), if_pos h2]
          congr 1; omega
        · rw [if_pos (by rw [inR_iff] at h2; omega), if_neg h2]
      · rw [if_neg h1]
        simp only []
        rw [if_neg (by rw [inR_iff]; omega)]

/-- The library's error for numbers that are too great is an error. -/
def Er (w : World) : Prop := ∃ te pe, w.cell? ⟨1, 0, none⟩ = some (.iface te pe)
theorem Er.below {w w' : World} (h : Er w) (hb : Below w.heap.size w w') : Er w' := by
  obtain ⟨te, pe, h⟩ := h
  exact ⟨te, pe, (hb.cell (p := ⟨1, 0, none⟩) (block_lt_of_cell h)).trans h⟩

set_option maxHeartbeats 1000000 in
theorem fromInt_any (z : Int) (h0 : -9223372036854775808 ≤ z) (h1 : z ≤ 9223372036854775807) (w : World) (ht : Tb w) :
    Calls Tryz.prog 27 #[.int .i64 z] w fun e w' => e = .returned (.string (str z)) ∧ Below w.heap.size w w' := by
  have CI := Lib.hid (Tryz.strconv_Itoa z h0 h1 w ht)
  rw [itoa_shw] at CI
  clear ht
  go_enter Tryz.func27, Tryz.ntmps27
  go_wp2_with (go_at_call 54; refine CI.out.mono ?_; rintro e w1 ⟨rfl, q, os, hw⟩; have HB1 := Lib.hid (show Below w.heap.size w w1 by rw [hw]; exact below_grow w q os); clear hw)
  go_ret
  exact ⟨rfl, HB1.out⟩

def tiV (s : ByteArray) : Int := if vS s && inR (nS s) then nS s else 0
def tiE (s : ByteArray) : Int := if vS s && inR (nS s) then 0 else 30
def TiOut (w : World) (v n : Int) (e : Ending) (w' : World) : Prop := e = .returned (.tuple #[.int .i64 v, .int .i64 n]) ∧ Below w.heap.size w w'
set_option maxHeartbeats 1000000 in
theorem toInt_any (s : ByteArray) (w : World) (hs : s.size ≤ 281474976710656) (he : Er w) :
    Calls Tryz.prog 21 #[.string s] w (TiOut w (tiV s) (tiE s)) := by
  have CV := Lib.hid (fun W => valid_any s W (by omega))
  rw [show vld s.data.toList = vS s from rfl] at CV
  cases hv : vS s with
  | false =>
    have e1 : tiV s = 0 := by unfold tiV; rw [hv]; rfl
    have e2 : tiE s = 30 := by unfold tiE; rw [hv]; rfl
    rw [e1, e2]
    rw [hv] at CV
    clear hv e1 e2 he
    go_enter Tryz.func21, Tryz.ntmps21
    go_wp2_with (go_at_call 23; (with_reducible refine (CV.out _).mono ?_); rintro e w2 ⟨rfl, rfl⟩)
    go_ret2
    exact ⟨rfl, Below.refl _ _⟩
  | true =>
    rw [hv] at CV
    have hstr : s.data.toList = shw (nS s) := by
      have := str_nS hv
      conv => lhs; rw [this]
      rw [str_data]
    have hat := atoi_shw (nS s)
    rw [← hstr] at hat
    cases hr : inR (nS s) with
    | true =>
      have e1 : tiV s = nS s := by unfold tiV; rw [hv, hr]; rfl
      have e2 : tiE s = 0 := by unfold tiE; rw [hv, hr]; rfl
      rw [e1, e2]
      rw [hr, if_pos rfl] at hat
      have CA := Lib.hid (fun W => Tryz.strconv_Atoi_ok s (by omega) (nS s) hat W)
      have hb := (inR_iff _).1 hr
      generalize nS s = z at *
      clear hv hr e1 e2 he hat hstr
      go_enter Tryz.func21, Tryz.ntmps21
      go_wp2_with (first
        | (go_at_call 23; (with_reducible refine (CV.out _).mono ?_); rintro e w2 ⟨rfl, rfl⟩)
        | (go_at_call 51; (with_reducible refine (CA.out _).mono ?_); rintro e w3 ⟨rfl, hw⟩; have HB := Lib.hid (show Below w2.heap.size w2 w3 from by rcases hw with rfl | ⟨t, rfl⟩; exact Below.refl _ _; exact Lib.bytesWorld_below _ _ _); clear hw))
      go_ret2
      exact ⟨rfl, HB.out⟩
    | false =>
      have e1 : tiV s = 0 := by unfold tiV; rw [hv, hr]; rfl
      have e2 : tiE s = 30 := by unfold tiE; rw [hv, hr]; rfl
      rw [e1, e2]
      rw [hr] at hat
      obtain ⟨te, pe, hcell⟩ := he
      have CA := Lib.hid (Tryz.strconv_Atoi_range s hs hat (.iface te pe) w hcell (.inr ⟨te, pe, rfl⟩))
      clear hv hr e1 e2 hat hstr hcell
      go_enter Tryz.func21, Tryz.ntmps21
      go_wp2_with (first
        | (go_at_call 23; (with_reducible refine (CV.out _).mono ?_); rintro e w2 ⟨rfl, rfl⟩)
        | (go_at_call 51; (with_reducible refine CA.out.mono ?_); rintro e w3 ⟨N, rfl, _, hN, hb⟩; have HB := Lib.hid hb; clear hb hN))
      go_ret2
      exact ⟨rfl, HB.out⟩
end Go.Proofs.YtebjjgbdiabapaaGreatDoor
