/- A number's text with its sign, and calculate, walked. -/
import Derived.Test.YtebjjgbdiabapaaGreatDoorNuo
namespace Go.Proofs.YtebjjgbdiabapaaGreatDoor
open Go.RowKit

def bigB (z : Int) : Bool := decide (z.natAbs < 10 ^ 200)
theorem bigB_iff (z : Int) : bigB z = true ↔ Big z := by unfold bigB Big; exact decide_eq_true_iff
/-- What is answered where the result is z. -/
def resS (z : Int) : ByteArray := if bigB z then str z else ⟨#[]⟩
def resE (z : Int) : Int := if bigB z then 0 else 30
theorem resS_ok {z : Int} (h : Big z) : resS z = str z := by unfold resS; rw [if_pos ((bigB_iff z).2 h)]
theorem resE_ok {z : Int} (h : Big z) : resE z = 0 := by unfold resE; rw [if_pos ((bigB_iff z).2 h)]
theorem resS_no {z : Int} (h : ¬ Big z) : resS z = ⟨#[]⟩ := by unfold resS; rw [if_neg (by rw [bigB_iff]; exact h)]
theorem resE_no {z : Int} (h : ¬ Big z) : resE z = 30 := by unfold resE; rw [if_neg (by rw [bigB_iff]; exact h)]
def ResOut (w : World) (s : ByteArray) (n : Int) (e : Ending) (w' : World) : Prop := e = .returned (.tuple #[.string s, .int .i64 n]) ∧ Below w.heap.size w w'
theorem txt_big (n : Nat) : (txt n).length ≤ 200 ↔ n < 10 ^ 200 := txt_length n 200 (by decide)
theorem minus_app (l : List UInt8) : (⟨#[45]⟩ : ByteArray) ++ (⟨l.toArray⟩ : ByteArray) = ⟨(45 :: l).toArray⟩ := by
  apply ByteArray.ext
  apply Array.ext'
  simp [ByteArray.data_append]
set_option maxRecDepth 100000 in
set_option maxHeartbeats 1000000 in
theorem integer_any (w : World) (v : Value) (z : Int) (h : Nm w v z) (hl : (dz 10000 z.natAbs).length ≤ 5000) (ht : Tb w) : Calls Tryz.prog 41 #[v] w (ResOut w (resS z) (resE z)) := by
  obtain ⟨b, al, L, c, rfl, hb, hL, hs⟩ := h.open
  clear h
  have HB0 := Lib.hid ((Below.refl w.heap.size w).alloc (Nat.le_refl _) (.cells #[.bool b, .slice al L c] 49))
  have CT := Lib.hid (text_any (w.alloc (.cells #[.bool b, .slice al L c] 49)) _ _ (hs.out.below (Nat.le_refl _) HB0.out) (Tb.below ht HB0.out) (by omega))
  have hbig := txt_big z.natAbs
  have hshw : Hid (shw z = if b then 45 :: txt z.natAbs else txt z.natAbs) := by
    show shw z = _
    rw [hb.out]; unfold shw; by_cases h : z < 0 <;> simp [h]
  have HT := Lib.hid ht
  clear ht hl
  generalize hl : txt z.natAbs = l at *
  by_cases h200 : Big z
  · rw [resS_ok h200, resE_ok h200]
    have hll : (l.length : Int) ≤ 200 := by have := hbig.2 h200; omega
    unfold str
    rw [hshw.out]
    clear hbig h200 hl hshw
    cases b
    · go_enter Tryz.func41, Tryz.ntmps41
      go_wp2_with fail
      refine CT.out.mono ?_
      rintro e w1 ⟨rfl, hb1⟩
      obtain ⟨q1, q2, q3, q4⟩ := box2 ((hb1.block w.heap.size (by simp)).trans (heap_new' w (.cells #[.bool false, .slice al L c] 49) w.heap.size rfl))
      have HB1 := Lib.hid (HB0.out.trans (hb1.mono HB0.out.size))
      clear hb1
      go_wp2
      go_ret2
      exact ⟨rfl, HB1.out⟩
    · have hma := minus_app l
      go_enter Tryz.func41, Tryz.ntmps41
      go_wp2_with fail
      refine CT.out.mono ?_
      rintro e w1 ⟨rfl, hb1⟩
      obtain ⟨q1, q2, q3, q4⟩ := box2 ((hb1.block w.heap.size (by simp)).trans (heap_new' w (.cells #[.bool true, .slice al L c] 49) w.heap.size rfl))
      have HB1 := Lib.hid (HB0.out.trans (hb1.mono HB0.out.size))
      clear hb1
      go_wp2
      go_ret2
      exact ⟨rfl, HB1.out⟩
  · rw [resS_no h200, resE_no h200]
    have hll : (200 : Int) < l.length := by have : ¬ l.length ≤ 200 := fun h => h200 (hbig.1 h); omega
    clear hbig h200 hl hshw
    go_enter Tryz.func41, Tryz.ntmps41
    go_wp2_with fail
    refine CT.out.mono ?_
    rintro e w1 ⟨rfl, hb1⟩
    have HB1 := Lib.hid (HB0.out.trans (hb1.mono HB0.out.size))
    clear hb1
    go_wp2
    go_ret2
    exact ⟨rfl, HB1.out⟩

/-- What an operation on two texts answers. -/
def opS (f : Int → Int → Int) (a b : ByteArray) : ByteArray := if vS a && vS b then resS (f (nS a) (nS b)) else ⟨#[]⟩
def opE (f : Int → Int → Int) (a b : ByteArray) : Int := if vS a && vS b then resE (f (nS a) (nS b)) else 30
theorem opS_ok {f : Int → Int → Int} {x y : Int} (hx : Big x) (hy : Big y) : opS f (str x) (str y) = resS (f x y) := by
  unfold opS
  rw [(vS_str x).2 hx, (vS_str y).2 hy, nS_str hx, nS_str hy]; rfl
theorem opE_ok {f : Int → Int → Int} {x y : Int} (hx : Big x) (hy : Big y) : opE f (str x) (str y) = resE (f x y) := by
  unfold opE
  rw [(vS_str x).2 hx, (vS_str y).2 hy, nS_str hx, nS_str hy]; rfl
def gcdZ (x y : Int) : Int := ((Nat.gcd x.natAbs y.natAbs : Nat) : Int)
theorem len_add (x y : Int) (hx : Big x) (hy : Big y) : (dz 10000 (x + y).natAbs).length ≤ 5000 := by
  have h1 := big_len hx
  have h2 := big_len hy
  have h3 := sum_len x.natAbs y.natAbs 50 h1 h2
  have h4 := dz_length_mono 10000 (by decide) (x + y).natAbs (x.natAbs + y.natAbs) (by omega)
  omega
theorem len_sub (x y : Int) (hx : Big x) (hy : Big y) : (dz 10000 (x - y).natAbs).length ≤ 5000 := by
  have h1 := big_len hx
  have h2 := big_len hy
  have h3 := sum_len x.natAbs y.natAbs 50 h1 h2
  have h4 := dz_length_mono 10000 (by decide) (x - y).natAbs (x.natAbs + y.natAbs) (by omega)
  omega
theorem len_mul (x y : Int) (hx : Big x) (hy : Big y) : (dz 10000 (x * y).natAbs).length ≤ 5000 := by
  have h1 := big_len hx
  have h2 := big_len hy
  rw [Int.natAbs_mul]
  have h3 := mul_len x.natAbs y.natAbs 50 50 h1 h2
  omega
theorem gcd_le_add (a b : Nat) : Nat.gcd a b ≤ a + b := by
  rcases Nat.eq_zero_or_pos a with h | h
  · subst h; rw [Nat.gcd_zero_left]; omega
  · have := Nat.gcd_le_left b h; omega
theorem len_gcd (x y : Int) (hx : Big x) (hy : Big y) : (dz 10000 (gcdZ x y).natAbs).length ≤ 5000 := by
  have h1 := big_len hx
  have h2 := big_len hy
  have h3 := sum_len x.natAbs y.natAbs 50 h1 h2
  have h5 := gcd_le_add x.natAbs y.natAbs
  have h4 := dz_length_mono 10000 (by decide) (gcdZ x y).natAbs (x.natAbs + y.natAbs) (by unfold gcdZ; omega)
  omega
end Go.Proofs.YtebjjgbdiabapaaGreatDoor
