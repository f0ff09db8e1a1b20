/- Valid, walked; what the layer's functions answer. -/
import Derived.Deep.RegionHeld3
import Derived.Test.YtcjcafekacceiaaGreatDoorK
import Derived.Test.YtcjcafekacceiaaGreatDoorQm
namespace Go.Proofs.YtcjcafekacceiaaGreatDoor
open Go.RowKit

/-- Is a/b valid? -/
def fV (a b : ByteArray) : Bool := vS a && vS b && decide (gcdZ (nS a) (nS b) = 1) && decide (0 < nS b)
theorem fV_q {a b : ByteArray} (h : fV a b = true) : ∃ q : Rat, BQ q ∧ a = str q.num ∧ b = str (q.den : Int) := by
  unfold fV at h
  simp only [Bool.and_eq_true, decide_eq_true_eq] at h
  obtain ⟨⟨⟨ha, hb⟩, hg⟩, hd⟩ := h
  obtain ⟨q, h1, h2⟩ := q_of hd hg
  refine ⟨q, ⟨by rw [← h1]; exact nS_big a, by rw [← h2]; exact nS_big b⟩, by rw [← h1]; exact str_nS ha, by rw [← h2]; exact str_nS hb⟩
theorem fV_str {q : Rat} (h : BQ q) : fV (str q.num) (str (q.den : Int)) = true := by
  unfold fV
  rw [(vS_str _).2 h.1, (vS_str _).2 h.2, nS_str h.1, nS_str h.2, q_gcd]
  rw [decide_eq_true (q_den_pos q)]; rfl
/-- The fraction of two texts. -/
def mkS (a b : ByteArray) : Option Rat := if vS a && vS b && decide (nS b ≠ 0) then some (Rat.divInt (nS a) (nS b)) else none
theorem mkS_bq {a b : ByteArray} {q : Rat} (h : mkS a b = some q) : BQ q := by
  unfold mkS at h
  split at h
  · rename_i hc
    simp only [Bool.and_eq_true, decide_eq_true_eq] at hc
    cases h
    exact bq_div hc.2 (nS_big a) (nS_big b)
  · cases h
/-- A fraction's texts, and nothing's. -/
def oN : Option Rat → ByteArray | none => ⟨#[]⟩ | some q => str q.num
def oD : Option Rat → ByteArray | none => ⟨#[]⟩ | some q => str (q.den : Int)
def oE : Option Rat → Int | none => 40 | some _ => 0
def rV (a b : ByteArray) : Value := .agg #[.string a, .string b]
def QOut (w : World) (o : Option Rat) (e : Ending) (w' : World) : Prop := e = .returned (.tuple #[.agg #[.string (oN o), .string (oD o)], .int .i64 (oE o)]) ∧ Below w.heap.size w w'
def BOut (w : World) (b : Bool) (e : Ending) (w' : World) : Prop := e = .returned (.bool b) ∧ Below w.heap.size w w'

theorem isOne {z : Int} : ((str z).toList == [49]) = decide (z = 1) := by
  rw [ByteArray.toList_eq, str_data, show ([49] : List UInt8) = shw 1 from by decide +kernel]
  by_cases h : z = 1
  · subst h; simp
  · simp only [h, decide_false, beq_eq_false_iff_ne]
    exact fun e => h (shw_inj _ _ e)

set_option maxRecDepth 100000 in
set_option maxHeartbeats 1000000 in
theorem qvalid_any (a b : ByteArray) (w : World) (ha : a.size ≤ 9223372036854775807) (hb : b.size ≤ 9223372036854775807) (ht : Tb w) :
    Calls Tryz.prog 29 #[.agg #[.string a, .string b]] w (BOut w (fV a b)) := by
  have CG := Lib.hid (fun W (hW : Below w.heap.size w W) => gcd_any a b W ha hb (ht.below hW))
  have CC := Lib.hid (fun W => compare_any b ⟨#[48]⟩ W hb (by decide))
  have HA := Lib.hid ((Below.refl w.heap.size w).alloc (Nat.le_refl _) (.cells #[.string a, .string b] 23))
  clear ht
  cases hv : (vS a && vS b) with
  | false =>
    rw [show opS gcdZ a b = ⟨#[]⟩ from by unfold opS; rw [hv]; rfl, show opE gcdZ a b = 30 from by unfold opE; rw [hv]; rfl] at CG
    rw [show fV a b = false from by unfold fV; rw [hv]; rfl]
    clear hv
    go_enter Tryz.func29, Tryz.ntmps29
    go_wp2_with fail
    (with_reducible refine (CG.out _ HA.out).mono ?_)
    rintro e w1 ⟨rfl, hb1⟩
    have HB1 := Lib.hid (HA.out.trans (hb1.mono HA.out.size))
    clear hb1
    go_wp2
    go_ret
    exact ⟨rfl, HB1.out⟩
  | true =>
    have hgb := big_gcd (nS_big a) (nS_big b)
    rw [show opS gcdZ a b = str (gcdZ (nS a) (nS b)) from by unfold opS; rw [hv, if_pos rfl, resS_ok hgb], show opE gcdZ a b = 0 from by unfold opE; rw [hv, if_pos rfl, resE_ok hgb]] at CG
    obtain ⟨va, vb⟩ : vS a = true ∧ vS b = true := by simpa using hv
    have hz : vS ⟨#[48]⟩ = true := by decide +kernel
    have hz0 : nS ⟨#[48]⟩ = 0 := by decide +kernel
    rw [show cmpS b ⟨#[48]⟩ = cmpZ (nS b) 0 from by unfold cmpS; rw [vb, hz, hz0]; rfl] at CC
    have hf : fV a b = (decide (gcdZ (nS a) (nS b) = 1) && decide (0 < nS b)) := by unfold fV; rw [va, vb]; rfl
    have hi := isOne (z := gcdZ (nS a) (nS b))
    have hk : decide (0 < cmpZ (nS b) 0) = decide (0 < nS b) := by
      unfold cmpZ
      rcases Int.lt_trichotomy (nS b) 0 with h | h | h
      · rw [if_pos h]; simp; omega
      · rw [h]; rfl
      · rw [if_neg (by omega), if_pos h]; simp; omega
    rw [hf, ← hi, ← hk]
    generalize str (gcdZ (nS a) (nS b)) = g at *
    generalize cmpZ (nS b) 0 = k at *
    clear hv va vb hz hz0 hf hi hk hgb
    obtain ⟨b1, h1⟩ : ∃ b1, (g.toList == [49]) = b1 := ⟨_, rfl⟩
    obtain ⟨b2, h2⟩ : ∃ b2, decide (0 < k) = b2 := ⟨_, rfl⟩
    rw [h1, h2]
    cases b1 with
    | false =>
      have HH := Lib.hid h2
      clear h2
      go_enter Tryz.func29, Tryz.ntmps29
      go_wp2_with fail
      (with_reducible refine (CG.out _ HA.out).mono ?_)
      rintro e w1 ⟨rfl, hb1⟩
      have HB1 := Lib.hid (HA.out.trans (hb1.mono HA.out.size))
      clear hb1
      go_wp2
      go_ret
      exact ⟨rfl, HB1.out⟩
    | true =>
      have HK := Lib.hid (heap_new' w (.cells #[.string a, .string b] 23) w.heap.size rfl)
      go_enter Tryz.func29, Tryz.ntmps29
      go_wp2_with fail
      (with_reducible refine (CG.out _ HA.out).mono ?_)
      rintro e w1 ⟨rfl, hb1⟩
      obtain ⟨q1, q2, _, _⟩ := box2 ((hb1.block w.heap.size (by simp)).trans HK.out)
      have HB1 := Lib.hid (HA.out.trans (hb1.mono HA.out.size))
      clear hb1
      go_wp2_with fail
      (with_reducible refine (CC.out _).mono ?_)
      rintro e w2 ⟨rfl, hb2⟩
      have HB2 := Lib.hid (HB1.out.trans (hb2.mono HB1.out.size))
      clear hb2
      go_wp2
      go_ret
      exact ⟨rfl, HB2.out⟩
end Go.Proofs.YtcjcafekacceiaaGreatDoor
