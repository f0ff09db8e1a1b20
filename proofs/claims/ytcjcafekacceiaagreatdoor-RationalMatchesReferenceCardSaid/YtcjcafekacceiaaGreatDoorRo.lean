/- The steps of round, walked. -/
import Derived.Test.YtcjcafekacceiaaGreatDoorShelf
import Derived.Test.YtcjcafekacceiaaGreatDoorAr
namespace Go.Proofs.YtcjcafekacceiaaGreatDoor
open Go.RowKit

/-- 1 and n zeros behind it. -/
def pwS (n : Nat) : ByteArray := str ((10 ^ n : Nat) : Int)
theorem txt_pow : ∀ n : Nat, txt (10 ^ n) = 49 :: List.replicate n 48
  | 0 => by decide +kernel
  | n + 1 => by
    have hp : 0 < 10 ^ n := Nat.pow_pos (by decide)
    have h1 : 10 ^ (n + 1) ≠ 0 := by have := Nat.pow_pos (n := n + 1) (show 0 < 10 by decide); omega
    have h2 : 10 ^ n ≠ 0 := by omega
    have ih := txt_pow n
    unfold txt at ih ⊢
    rw [if_neg h2] at ih
    rw [if_neg h1, dz_pos 10 (by decide) _ (by omega), show 10 ^ (n + 1) % 10 = 0 by rw [Nat.pow_succ]; omega, show 10 ^ (n + 1) / 10 = 10 ^ n by rw [Nat.pow_succ]; omega]
    unfold txtD at ih ⊢
    rw [List.map_cons, List.reverse_cons, ih, List.cons_append, List.replicate_succ']
    rfl
theorem pw_app (n : Nat) (l : List UInt8) (hl : l = List.replicate n 48) : (⟨#[49]⟩ : ByteArray) ++ (⟨l.toArray⟩ : ByteArray) = pwS n := by
  subst hl
  unfold pwS str shw
  rw [if_neg (Int.not_lt.2 (Int.natCast_nonneg _)), Int.natAbs_natCast, txt_pow]
  apply ByteArray.ext
  rw [ByteArray.data_append]
  simp
theorem pw_size (n : Nat) (h : n ≤ 30) : (pwS n).size ≤ 9223372036854775807 := by
  unfold pwS
  refine str_size ?_
  unfold Big
  rw [Int.natAbs_natCast]
  exact Nat.pow_lt_pow_right (by decide) (by omega)
theorem rep_list (n : Nat) : Lib.repeatL (⟨#[48]⟩ : ByteArray).data.toList n = List.replicate n 48 := by
  show Lib.repeatL [48] n = _
  induction n with
  | zero => rfl
  | succ n ih =>
    show [48] ++ Lib.repeatL [48] n = _
    rw [ih]; rfl

/-- May fractions be rounded to so many places? -/
def plV (n : Int) : Bool := decide (0 ≤ n) && decide (n ≤ 30)
def Rd40 (W : World) (e : Ending) (w' : World) : Prop := e = .returned (.int .i64 40) ∧ Below W.heap.size W w'
set_option maxRecDepth 100000 in
set_option maxHeartbeats 1000000 in
theorem rd1_no (W : World) (Bp R : Nat) (n : Int) (hp : W.cell? ⟨Bp, 0, none⟩ = some (.int .i64 n)) (hn : plV n = false) :
    Calls Tryz.prog 87 #[.pointer (some ⟨Bp, 0, none⟩), .pointer (some ⟨R, 0, none⟩)] W (Rd40 W) := by
  unfold plV at hn
  by_cases h0 : n < 0
  · clear hn
    go_enter Tryz.func87, Tryz.ntmps87
    go_wp2
    go_ret
    exact ⟨rfl, Below.refl _ _⟩
  · have h30 : 30 < n := by
      simp only [Bool.and_eq_false_iff, decide_eq_false_iff_not] at hn
      omega
    clear hn
    go_enter Tryz.func87, Tryz.ntmps87
    go_wp2
    go_ret
    exact ⟨rfl, Below.refl _ _⟩
def RdOut (W : World) (R : Nat) (s : ByteArray) (e : Ending) (w' : World) : Prop := ∃ W1, Below W.heap.size W W1 ∧ e = .returned (.int .i64 0) ∧ w' = W1.setCell ⟨R, 1, none⟩ (.string s)
set_option maxRecDepth 100000 in
set_option maxHeartbeats 1000000 in
theorem rd1_yes (W : World) (Bp R : Nat) (n : Nat) (x y : ByteArray) (hp : W.cell? ⟨Bp, 0, none⟩ = some (.int .i64 n)) (hR : W.heap[R]? = some (.cells #[.string x, .string y] 23)) (hn : n ≤ 30) :
    Calls Tryz.prog 87 #[.pointer (some ⟨Bp, 0, none⟩), .pointer (some ⟨R, 0, none⟩)] W (RdOut W R (pwS n)) := by
  have CR := Lib.hid (Tryz.strings_Repeat ⟨#[48]⟩ n W (by omega) (by show 1 * n ≤ _; omega))
  have hl := rep_list n
  obtain ⟨l, hl2⟩ : ∃ l, Lib.repeatL (⟨#[48]⟩ : ByteArray).data.toList n = l := ⟨_, rfl⟩
  rw [hl2] at CR hl
  have happ := pw_app n l hl
  have hsz : l.toArray.size ≤ 30 := by rw [hl]; simp; omega
  have HA := Lib.hid happ
  have KR := Lib.hid (fun W' (h : Below W.heap.size W W') => box2 (bl_up hR h))
  obtain ⟨t, ht⟩ : ∃ t : ByteArray, (⟨l.toArray⟩ : ByteArray) = t := ⟨_, rfl⟩
  rw [ht] at CR HA
  have htz : t.size ≤ 30 := by rw [← ht]; exact hsz
  have hnI : (n : Int) ≤ 30 := by omega
  have hnI0 : (0 : Int) ≤ (n : Int) := by omega
  generalize pwS n = z at *
  clear hl hl2 happ hsz ht hR
  go_enter Tryz.func87, Tryz.ntmps87
  go_wp2_with fail
  (with_reducible refine CR.out.mono ?_)
  rintro e w1 ⟨rfl, hb1⟩
  have HB1 := Lib.hid hb1
  obtain ⟨r1, r2, r3, r4⟩ := KR.out _ hb1
  have ha := HA.out
  clear hb1
  go_wp2
  go_ret
  exact ⟨w1, HB1.out, rfl, by first | rfl | rw [ha]⟩

def Rd2Out (W : World) (U V : Nat) (a b : ByteArray) (n : Int) (e : Ending) (w' : World) : Prop := ∃ W1, Below W.heap.size W W1 ∧ e = .returned (.int .i64 n) ∧ w' = (W1.setCell ⟨U, 0, none⟩ (.string a)).setCell ⟨V, 0, none⟩ (.string b)
set_option maxRecDepth 100000 in
set_option maxHeartbeats 1000000 in
theorem rd2_any (W : World) (Bs A U V : Nat) (s : ByteArray) (p : Pr) (u v : ByteArray) (hs : W.cell? ⟨Bs, 0, none⟩ = some (.string s)) (hA : W.cell? ⟨A, 1, none⟩ = some (.string p.2))
    (hU : W.heap[U]? = some (.cells #[.string u] 9)) (hV : W.heap[V]? = some (.cells #[.string v] 9)) (hne : U ≠ V) (h1 : s.size ≤ 9223372036854775807) (h2 : p.2.size ≤ 9223372036854775807) (ht : Tb W) :
    Calls Tryz.prog 89 #[.pointer (some ⟨Bs, 0, none⟩), .pointer (some ⟨A, 0, none⟩), .pointer (some ⟨U, 0, none⟩), .pointer (some ⟨V, 0, none⟩)] W (Rd2Out W U V (divQ s p.2) (divR s p.2) (divE s p.2)) := by
  have CD := Lib.hid (div_any s p.2 W h1 h2 ht)
  have KU := Lib.hid (fun W' (h : Below W.heap.size W W') => box1 (bl_up hU h))
  have KV := Lib.hid (fun W' (h : Below W.heap.size W W') x => box1 (set_far (zo := 0) (bl_up hV h) (Ne.symm hne) x))
  generalize divQ s p.2 = a at *
  generalize divR s p.2 = b at *
  generalize divE s p.2 = n at *
  generalize p.2 = y at *
  clear hU hV ht hne
  go_enter Tryz.func89, Tryz.ntmps89
  go_wp2_with fail
  (with_reducible refine CD.out.mono ?_)
  rintro e w1 ⟨rfl, hb1⟩
  have HB1 := Lib.hid hb1
  obtain ⟨r1, r2⟩ := KU.out _ hb1
  obtain ⟨r3, r4⟩ := KV.out _ hb1 (.string a)
  clear hb1
  go_wp2
  go_ret
  exact ⟨w1, HB1.out, rfl, rfl⟩

/-- What Down and Up make of the quotient and the remainder. -/
def dnS (q _r : ByteArray) : ByteArray := q
def dnE (_q _r : ByteArray) : Int := 0
def upS (q r : ByteArray) : ByteArray := if r.toList == [48] then q else opS (fun x y => x + y) q ⟨#[49]⟩
def upE (q r : ByteArray) : Int := if r.toList == [48] then 0 else opE (fun x y => x + y) q ⟨#[49]⟩
set_option maxHeartbeats 1000000 in
theorem down1_any (q r : ByteArray) (w : World) : Calls Tryz.prog 56 #[.string q, .string r] w (ResOut w (dnS q r) (dnE q r)) := by
  go_enter Tryz.func56, Tryz.ntmps56
  go_wp2
  go_ret2
  exact ⟨rfl, Below.refl _ _⟩
set_option maxHeartbeats 1000000 in
theorem up1_any (q r : ByteArray) (w : World) (hq : q.size ≤ 9223372036854775807) (ht : Tb w) : Calls Tryz.prog 58 #[.string q, .string r] w (ResOut w (upS q r) (upE q r)) := by
  cases h : (r.toList == [48]) with
  | true =>
    rw [show upS q r = q from by unfold upS; rw [h]; rfl, show upE q r = 0 from by unfold upE; rw [h]; rfl]
    clear ht
    go_enter Tryz.func58, Tryz.ntmps58
    go_wp2
    go_ret2
    exact ⟨rfl, Below.refl _ _⟩
  | false =>
    rw [show upS q r = opS (fun x y => x + y) q ⟨#[49]⟩ from by unfold upS; rw [h]; rfl, show upE q r = opE (fun x y => x + y) q ⟨#[49]⟩ from by unfold upE; rw [h]; rfl]
    have CA := Lib.hid (add_any q ⟨#[49]⟩ w hq (by decide) ht)
    generalize opS (fun x y => x + y) q ⟨#[49]⟩ = s at *
    generalize opE (fun x y => x + y) q ⟨#[49]⟩ = n at *
    clear ht
    go_enter Tryz.func58, Tryz.ntmps58
    go_wp2_with fail
    (with_reducible refine CA.out.mono ?_)
    rintro e w1 ⟨rfl, hb1⟩
    have HB1 := Lib.hid hb1
    clear hb1
    go_wp2
    go_ret2
    exact ⟨rfl, HB1.out⟩
end Go.Proofs.YtcjcafekacceiaaGreatDoor
