/- Integer layer, merged: Mth, Mem, Ari, Txt, Rfm, Rfn. -/
import Derived.Lib.Hide
import Derived.WalkKit
import Derived.OwnWalk
import Derived.Laws.OwnMore
import Derived.Lib.ItoaNum
/-! Numbers and their digits, lowest first, in any base: of no program. -/
namespace Go.Proofs.YtcjcafekacceiaaGreatDoor

/-- The value of digits, lowest first. -/
def vz (b : Int) : List Int → Int
  | [] => 0
  | d :: l => d + b * vz b l
/-- The value of digits with a number above them. -/
def vt (b : Int) : List Int → Int → Int
  | [], t => t
  | d :: l, t => d + b * vt b l t
/-- The digits of a number, by fuel. -/
def dzF (b : Nat) : Nat → Nat → List Int
  | 0, _ => []
  | f + 1, n => if n = 0 then [] else ((n % b : Nat) : Int) :: dzF b f (n / b)
/-- The digits of a number, lowest first; the highest one is not 0. -/
def dz (b n : Nat) : List Int := dzF b (n.log2 + 1) n

theorem dzF_any (b : Nat) (hb : 2 ≤ b) : ∀ (f g n : Nat), n < 2 ^ f → n < 2 ^ g → dzF b f n = dzF b g n
  | 0, 0, _, _, _ => rfl
  | 0, g + 1, n, h, _ => by
    have : n = 0 := by simpa using h
    simp [dzF, this]
  | f + 1, 0, n, _, h => by
    have : n = 0 := by simpa using h
    simp [dzF, this]
  | f + 1, g + 1, n, h1, h2 => by
    rw [dzF, dzF]
    by_cases h : n = 0
    · simp [h]
    · rw [if_neg h, if_neg h]
      have e : n / b ≤ n / 2 := Nat.div_le_div_left hb (by decide)
      rw [Nat.pow_succ] at h1 h2
      rw [dzF_any b hb f g (n / b) (by omega) (by omega)]
theorem lt_log2 (n : Nat) : n < 2 ^ (n.log2 + 1) := Nat.lt_log2_self
theorem dz_zero (b : Nat) : dz b 0 = [] := by simp [dz, dzF]
theorem dz_pos (b : Nat) (hb : 2 ≤ b) (n : Nat) (h : n ≠ 0) : dz b n = ((n % b : Nat) : Int) :: dz b (n / b) := by
  unfold dz
  rw [dzF, if_neg h]
  congr 1
  have e : n / b ≤ n / 2 := Nat.div_le_div_left hb (by decide)
  have := lt_log2 n
  rw [Nat.pow_succ] at this
  exact dzF_any b hb _ _ _ (by omega) (lt_log2 _)
theorem dz_induct (b : Nat) (hb : 2 ≤ b) {C : Nat → Prop} (h0 : C 0) (h1 : ∀ n, n ≠ 0 → C (n / b) → C n) : ∀ n, C n := by
  intro n
  induction n using Nat.strongRecOn with
  | _ n ih =>
    by_cases h : n = 0
    · rw [h]; exact h0
    · exact h1 n h (ih _ (Nat.div_lt_self (by omega) hb))
theorem vz_dz (b : Nat) (hb : 2 ≤ b) : ∀ n, vz b (dz b n) = n := by
  refine dz_induct b hb (by simp [dz_zero, vz]) ?_
  intro n hn ih
  rw [dz_pos b hb n hn, vz, ih]
  have := Nat.mod_add_div n b
  omega
theorem dz_digit (b : Nat) (hb : 2 ≤ b) : ∀ n, ∀ d ∈ dz b n, 0 ≤ d ∧ d < b := by
  refine dz_induct b hb (by simp [dz_zero]) ?_
  intro n hn ih d hd
  rw [dz_pos b hb n hn, List.mem_cons] at hd
  rcases hd with rfl | hd
  · have := Nat.mod_lt n (show 0 < b by omega)
    omega
  · exact ih d hd
theorem dz_nil (b : Nat) (hb : 2 ≤ b) (n : Nat) : dz b n = [] ↔ n = 0 := by
  constructor
  · intro h
    by_cases hn : n = 0
    · exact hn
    · rw [dz_pos b hb n hn] at h; simp at h
  · rintro rfl; exact dz_zero b
theorem dz_length_pos (b : Nat) (hb : 2 ≤ b) (n : Nat) : 0 < (dz b n).length ↔ n ≠ 0 := by
  rw [List.length_pos_iff, Ne, dz_nil b hb]
theorem vz_nonneg (b : Int) (hb : 0 ≤ b) : ∀ l : List Int, (∀ d ∈ l, 0 ≤ d) → 0 ≤ vz b l
  | [], _ => by simp [vz]
  | d :: l, h => by
    have h1 := vz_nonneg b hb l (fun x hx => h x (List.mem_cons_of_mem _ hx))
    have h2 := h d (List.mem_cons_self ..)
    have := Int.mul_nonneg hb h1
    rw [vz]; omega
theorem mul_step (b : Nat) (x y : Int) (h : x + 1 ≤ y) : (b : Int) * x + b ≤ b * y := by
  have := Int.mul_le_mul_of_nonneg_left h (show (0 : Int) ≤ b by omega)
  rw [Int.mul_add, Int.mul_one] at this
  exact this
theorem vz_lt (b : Nat) : ∀ l : List Int, (∀ d ∈ l, 0 ≤ d ∧ d < b) → vz b l < (b ^ l.length : Nat)
  | [], _ => by simp [vz]
  | d :: l, h => by
    have h1 := vz_lt b l (fun x hx => h x (List.mem_cons_of_mem _ hx))
    have h2 := h d (List.mem_cons_self ..)
    have := mul_step b _ _ h1
    rw [vz, List.length_cons, Nat.pow_succ, Nat.mul_comm]
    rw [Int.natCast_mul]; omega
theorem vz_zeros (b : Int) : ∀ l : List Int, (∀ d ∈ l, d = 0) → vz b l = 0
  | [], _ => rfl
  | d :: l, h => by
    rw [vz, vz_zeros b l (fun x hx => h x (List.mem_cons_of_mem _ hx)), h d (List.mem_cons_self ..)]; simp
theorem vz_append (b : Int) (y : List Int) : ∀ l : List Int, vz b (l ++ y) = vt b l (vz b y)
  | [] => rfl
  | d :: l => by rw [List.cons_append, vz, vt, vz_append b y l]
theorem vt_snoc (b : Int) (g t : Int) : ∀ l : List Int, vt b (l ++ [g]) t = vt b l (g + b * t)
  | [] => rfl
  | d :: l => by rw [List.cons_append, vt, vt, vt_snoc b g t l]
theorem vt_zero (b : Int) : ∀ l : List Int, vt b l 0 = vz b l
  | [] => rfl
  | d :: l => by rw [vt, vz, vt_zero b l]
theorem vt_eq (b : Int) (t : Int) : ∀ l : List Int, vt b l t = vz b l + b ^ l.length * t
  | [] => by simp [vt, vz]
  | d :: l => by
    rw [vt, vz, vt_eq b t l, List.length_cons, Int.mul_add, Int.pow_succ, ← Int.mul_assoc, Int.mul_comm b (b ^ _)]; omega

/-- Digits without the zeros above them are those of their value. -/
theorem canon (b : Nat) (hb : 2 ≤ b) : ∀ (l : List Int) (m : Nat), (∀ d ∈ l, 0 ≤ d ∧ d < b) → m ≤ l.length → (∀ i, m ≤ i → l[i]?.getD 0 = 0) → (m = 0 ∨ l[m - 1]?.getD 0 ≠ 0) →
    l.take m = dz b (vz b l).toNat
  | [], m, _, hm, _, _ => by simp [vz, dz_zero]
  | d :: l, 0, _, _, hz, _ => by
    rw [vz_zeros]
    · simp [dz_zero]
    · intro x hx
      obtain ⟨i, hi, rfl⟩ := List.getElem_of_mem hx
      have := hz i (Nat.zero_le _)
      rw [List.getElem?_eq_getElem hi] at this
      simpa using this
  | d :: l, m + 1, hd, hm, hz, hl => by
    have h1 := hd d (List.mem_cons_self ..)
    have hd' : ∀ x ∈ l, 0 ≤ x ∧ x < (b : Int) := fun x hx => hd x (List.mem_cons_of_mem _ hx)
    have hz' : ∀ i, m ≤ i → l[i]?.getD 0 = 0 := fun i hi => by simpa using hz (i + 1) (by omega)
    have hl' : m = 0 ∨ l[m - 1]?.getD 0 ≠ 0 := by
      cases m with
      | zero => exact .inl rfl
      | succ m => right; simpa using hl
    have ih := canon b hb l m hd' (by simpa using hm) hz' hl'
    have h0 := vz_nonneg b (by omega) l (fun x hx => (hd' x hx).1)
    obtain ⟨v, hv⟩ := Int.eq_ofNat_of_zero_le h0
    rw [hv, Int.toNat_natCast] at ih
    obtain ⟨k, rfl⟩ := Int.eq_ofNat_of_zero_le h1.1
    have e : (vz b (((k : Nat) : Int) :: l)).toNat = k + b * v := by
      rw [vz, hv]
      have : ((b : Int) * v) = ((b * v : Nat) : Int) := by rw [Int.natCast_mul]
      omega
    have hkb : k < b := by omega
    have hne : k + b * v ≠ 0 := by
      intro h
      have hk : k = 0 := by omega
      have hbv : b * v = 0 := by omega
      have hv0 : v = 0 := by
        rcases Nat.mul_eq_zero.1 hbv with h | h <;> omega
      rw [hv0, dz_zero] at ih
      cases m with
      | zero => simp [hk] at hl
      | succ m =>
        rw [List.take_eq_nil_iff] at ih
        rcases ih with h | h
        · omega
        · subst h; simp at hm
    rw [e, dz_pos b hb _ hne, List.take_succ_cons, ih]
    congr 1
    · rw [Nat.add_mul_mod_self_left, Nat.mod_eq_of_lt hkb]
    · rw [Nat.add_mul_div_left _ _ (by omega), Nat.div_eq_of_lt hkb, Nat.zero_add]

theorem dz_last (b : Nat) (hb : 2 ≤ b) : ∀ n, n ≠ 0 → (dz b n)[(dz b n).length - 1]?.getD 0 ≠ 0 := by
  refine dz_induct b hb (by simp) ?_
  intro n hn ih _
  rw [dz_pos b hb n hn]
  by_cases h : n / b = 0
  · rw [h, dz_zero]
    have := Nat.mod_add_div n b
    rw [h] at this
    simp; omega
  · have := ih h
    have hp := (dz_length_pos b hb (n / b)).2 h
    rw [List.length_cons, show (dz b (n / b)).length + 1 - 1 = ((dz b (n / b)).length - 1) + 1 by omega, List.getElem?_cons_succ]
    exact this
/-- Digits whose highest one is not 0 are those of their value. -/
theorem canon_all (b : Nat) (hb : 2 ≤ b) (l : List Int) (hd : ∀ d ∈ l, 0 ≤ d ∧ d < b) (h : l = [] ∨ l[l.length - 1]?.getD 0 ≠ 0) : l = dz b (vz b l).toNat := by
  have := canon b hb l l.length hd (Nat.le_refl _) (fun i hi => by rw [List.getElem?_eq_none hi]; rfl) (by rcases h with rfl | h; exact .inl rfl; exact .inr h)
  rwa [List.take_length] at this

theorem dz_length_le (b : Nat) (hb : 2 ≤ b) : ∀ (k n : Nat), n < b ^ k → (dz b n).length ≤ k
  | 0, n, h => by
    have : n = 0 := by simpa using h
    simp [this, dz_zero]
  | k + 1, n, h => by
    by_cases hn : n = 0
    · simp [hn, dz_zero]
    · rw [dz_pos b hb n hn, List.length_cons]
      have := dz_length_le b hb k (n / b) (by rw [Nat.div_lt_iff_lt_mul (by omega)]; rwa [Nat.pow_succ] at h)
      omega
theorem dz_lt (b : Nat) (hb : 2 ≤ b) (n : Nat) : n < b ^ (dz b n).length := by
  have := vz_lt b (dz b n) (dz_digit b hb n)
  rw [vz_dz b hb] at this
  omega
theorem dz_length_iff (b : Nat) (hb : 2 ≤ b) (k n : Nat) : (dz b n).length ≤ k ↔ n < b ^ k :=
  ⟨fun h => Nat.lt_of_lt_of_le (dz_lt b hb n) (Nat.pow_le_pow_right (by omega) h), dz_length_le b hb k n⟩
theorem dz_length_mono (b : Nat) (hb : 2 ≤ b) (m n : Nat) (h : m ≤ n) : (dz b m).length ≤ (dz b n).length :=
  dz_length_le b hb _ _ (Nat.lt_of_le_of_lt h (dz_lt b hb n))

/-- The higher digit decides. -/
theorem vz_less (b : Nat) : ∀ (x y : List Int) (i : Nat), (∀ d ∈ x, 0 ≤ d ∧ d < b) → (∀ d ∈ y, 0 ≤ d ∧ d < b) → x.length = y.length → i < x.length → x[i]?.getD 0 < y[i]?.getD 0 →
    (∀ j, i < j → x[j]?.getD 0 = y[j]?.getD 0) → vz b x < vz b y
  | [], _, _, _, _, _, hi, _, _ => by simp at hi
  | _ :: _, [], _, _, _, hl, _, _, _ => by simp at hl
  | d :: x, e :: y, 0, hx, hy, hl, _, h, hj => by
    have : x = y := by
      apply List.ext_getElem (by simpa using hl)
      intro i h1 h2
      have := hj (i + 1) (by omega)
      simpa [List.getElem?_eq_getElem h1, List.getElem?_eq_getElem h2] using this
    subst this
    simp at h
    simp [vz]; omega
  | d :: x, e :: y, i + 1, hx, hy, hl, hi, h, hj => by
    have ih := vz_less b x y i (fun z hz => hx z (List.mem_cons_of_mem _ hz)) (fun z hz => hy z (List.mem_cons_of_mem _ hz)) (by simpa using hl) (by simpa using hi) (by simpa using h)
      (fun j hj' => by simpa using hj (j + 1) (by omega))
    have h1 := hx d (List.mem_cons_self ..)
    have h2 := hy e (List.mem_cons_self ..)
    have := mul_step b _ _ ih
    rw [vz, vz]; omega
/-- What comparing two numbers answers. -/
def cmpN (m n : Nat) : Int := if m < n then -1 else if n < m then 1 else 0
def cmpZ (m n : Int) : Int := if m < n then -1 else if n < m then 1 else 0
theorem cmpN_len (b : Nat) (hb : 2 ≤ b) (m n : Nat) (h : (dz b m).length ≠ (dz b n).length) : cmpN m n = if (dz b m).length < (dz b n).length then -1 else 1 := by
  unfold cmpN
  rcases Nat.lt_trichotomy m n with h1 | h1 | h1
  · have := dz_length_mono b hb m n (by omega)
    rw [if_pos h1, if_pos (by omega)]
  · subst h1; exact absurd rfl h
  · have := dz_length_mono b hb n m (by omega)
    rw [if_neg (by omega), if_pos h1, if_neg (by omega)]
theorem cmpN_digit (b : Nat) (hb : 2 ≤ b) (m n : Nat) (i : Nat) (hl : (dz b m).length = (dz b n).length) (hi : i < (dz b m).length) (h : (dz b m)[i]?.getD 0 ≠ (dz b n)[i]?.getD 0)
    (hj : ∀ j, i < j → (dz b m)[j]?.getD 0 = (dz b n)[j]?.getD 0) : cmpN m n = if (dz b m)[i]?.getD 0 < (dz b n)[i]?.getD 0 then -1 else 1 := by
  unfold cmpN
  by_cases h1 : (dz b m)[i]?.getD 0 < (dz b n)[i]?.getD 0
  · have := vz_less b _ _ i (dz_digit b hb m) (dz_digit b hb n) hl hi h1 hj
    rw [vz_dz b hb, vz_dz b hb] at this
    rw [if_pos h1, if_pos (by omega)]
  · have := vz_less b _ _ i (dz_digit b hb n) (dz_digit b hb m) hl.symm (by omega) (by omega) (fun j hj' => (hj j hj').symm)
    rw [vz_dz b hb, vz_dz b hb] at this
    rw [if_neg h1, if_neg (by omega), if_pos (by omega)]
theorem dz_inj (b : Nat) (hb : 2 ≤ b) (m n : Nat) (h : dz b m = dz b n) : m = n := by
  have := vz_dz b hb m
  rw [h, vz_dz b hb n] at this
  omega
theorem cmpN_same (b : Nat) (hb : 2 ≤ b) (m n : Nat) (hl : (dz b m).length = (dz b n).length) (hj : ∀ j : Nat, (dz b m)[j]?.getD 0 = (dz b n)[j]?.getD 0) : cmpN m n = 0 := by
  have : dz b m = dz b n := by
    apply List.ext_getElem hl
    intro i h1 h2
    have := hj i
    simpa [List.getElem?_eq_getElem h1, List.getElem?_eq_getElem h2] using this
  have := dz_inj b hb m n this
  subst this
  simp [cmpN]
end Go.Proofs.YtcjcafekacceiaaGreatDoor

/-! Lists of integers in memory: what a slice reads as. -/
namespace Go.Proofs.YtcjcafekacceiaaGreatDoor
open Go.RowKit

/-- The slice v reads as the list zs. -/
def Ls (w : World) (v : Value) (zs : List Int) : Prop :=
  (v = .slice none 0 0 ∧ zs = []) ∨ ∃ b o c, v = .slice (some ⟨b, o, none⟩) zs.length c ∧ zs.length ≤ c ∧ b < w.heap.size ∧ ∀ i, i < zs.length → w.cell? ⟨b, o + i, none⟩ = some (.int .i64 (zs[i]?.getD 0))
/-- The slice v reads as the number n in groups of four digits. -/
def Nt (w : World) (v : Value) (n : Nat) : Prop := Ls w v (dz 10000 n)

theorem Ls.nil (w : World) : Ls w (.slice none 0 0) [] := .inl ⟨rfl, rfl⟩
theorem Nt.zero (w : World) : Nt w (.slice none 0 0) 0 := by unfold Nt; rw [dz_zero]; exact Ls.nil w
theorem Ls.below {B : Nat} {w w' : World} {v : Value} {zs : List Int} (h : Ls w v zs) (hB : w.heap.size ≤ B) (hb : Below B w w') : Ls w' v zs := by
  rcases h with h | ⟨b, o, c, hv, hc, hlt, hcell⟩
  · exact .inl h
  · have := hb.size
    exact .inr ⟨b, o, c, hv, hc, by omega, fun i hi => (hb.cell (p := ⟨b, o + i, none⟩) (show b < B by omega)).trans (hcell i hi)⟩
theorem Nt.below {B : Nat} {w w' : World} {v : Value} {n : Nat} (h : Nt w v n) (hB : w.heap.size ≤ B) (hb : Below B w w') : Nt w' v n := Ls.below h hB hb
theorem Ls.own {w : World} {base : Nat} {e : TypeId} {v : Value} {n : Nat} {xs : List Value} (h : w.ownsRow base e 1 v n xs) (zs : List Int) (hx : xs = zs.map (Value.int .i64)) : Ls w v zs := by
  subst hx
  have h1 := h.1
  rw [List.length_map, Nat.mul_one] at h1
  subst h1
  rcases h.2 with ⟨rfl, h2⟩ | ⟨g, cap, cur, rfl, hb, hg, hc, hm, hcs, ht⟩
  · left
    exact ⟨rfl, by simpa using h2⟩
  · right
    refine ⟨g, 0, cap, rfl, hc, (Array.getElem?_eq_some_iff.1 hg).1, fun i hi => ?_⟩
    rw [Nat.zero_add, h.cellAt i (by omega), List.getElem?_map, List.getElem?_eq_getElem hi]
    rfl
theorem ownNone {w : World} {base : Nat} {e : TypeId} {size : Nat} {v : Value} {n : Nat} {xs : List Value} (h : w.ownsRow base e size v n xs) : ∀ k, v.ownBlock = some k → base ≤ k := by
  intro k hk
  rcases h.2 with ⟨rfl, _⟩ | ⟨g, cap, cur, rfl, hb, _⟩
  · simp [Value.ownBlock] at hk
  · simp [Value.ownBlock] at hk
    omega
/-- The same elements, one of them set. -/
def setZ (zs : List Int) (i : Nat) (z : Int) : List Int := zs.set i z
theorem map_set (zs : List Int) (i : Nat) (z : Int) : (zs.map (Value.int .i64)).set i (.int .i64 z) = (zs.set i z).map (Value.int .i64) := by rw [List.map_set]

/-- Two lists put together, element by element; what the longer one has besides stays. -/
def zipL (f : Int → Int → Int) : List Int → List Int → List Int
  | a :: x, c :: y => f a c :: zipL f x y
  | x, [] => x
  | [], _ => []
theorem zipL_nil (f : Int → Int → Int) (x : List Int) : zipL f x [] = x := by cases x <;> rfl
theorem zipL_length (f : Int → Int → Int) : ∀ x y : List Int, (zipL f x y).length = x.length
  | a :: x, c :: y => by simp [zipL, zipL_length f x y]
  | [], [] => rfl
  | _ :: _, [] => rfl
  | [], _ :: _ => rfl
theorem zipL_get (f : Int → Int → Int) : ∀ (x y : List Int) (i : Nat), y.length ≤ x.length → (zipL f x y)[i]?.getD 0 = if i < y.length then f (x[i]?.getD 0) (y[i]?.getD 0) else x[i]?.getD 0
  | a :: x, c :: y, 0, _ => by simp [zipL]
  | a :: x, c :: y, i + 1, h => by simpa [zipL] using zipL_get f x y i (by simpa using h)
  | [], [], i, _ => by simp [zipL]
  | _ :: _, [], i, _ => by simp [zipL]
  | [], _ :: _, i, h => by simp at h
theorem zipL_take (f : Int → Int → Int) : ∀ (x y : List Int) (k : Nat), y.length ≤ x.length → k < y.length → zipL f x (y.take (k + 1)) = (zipL f x (y.take k)).set k (f (x[k]?.getD 0) (y[k]?.getD 0))
  | a :: x, c :: y, 0, _, _ => by simp [zipL, zipL_nil]
  | a :: x, c :: y, k + 1, h, hk => by
    rw [List.take_succ_cons, List.take_succ_cons, zipL, zipL, zipL_take f x y k (by simpa using h) (by simpa using hk)]
    simp
  | [], [], _, _, hk => by simp at hk
  | _ :: _, [], _, _, hk => by simp at hk
  | [], _ :: _, _, h, _ => by simp at h
theorem vz_add (b : Int) : ∀ x y : List Int, y.length ≤ x.length → vz b (zipL (· + ·) x y) = vz b x + vz b y
  | a :: x, c :: y, h => by
    have ih := vz_add b x y (by simpa using h)
    rw [zipL, vz, vz, vz, ih, Int.mul_add]; omega
  | [], [], _ => by simp [zipL, vz]
  | _ :: _, [], _ => by simp [zipL, vz]
  | [], _ :: _, h => by simp at h
theorem vz_sub (b : Int) : ∀ x y : List Int, y.length ≤ x.length → vz b (zipL (· - ·) x y) = vz b x - vz b y
  | a :: x, c :: y, h => by
    have ih := vz_sub b x y (by simpa using h)
    rw [zipL, vz, vz, vz, ih, Int.mul_sub]; omega
  | [], [], _ => by simp [zipL, vz]
  | _ :: _, [], _ => by simp [zipL, vz]
  | [], _ :: _, h => by simp at h
theorem vz_scale (b k : Int) : ∀ x : List Int, vz b (x.map (· * k)) = vz b x * k
  | [] => by simp [vz]
  | a :: x => by rw [List.map_cons, vz, vz, vz_scale b k x, Int.add_mul, Int.mul_assoc]
theorem zipL_mem (f : Int → Int → Int) (p : Int → Prop) : ∀ x y : List Int, (∀ a ∈ x, p a) → (∀ a ∈ x, ∀ c ∈ y, p (f a c)) → ∀ z ∈ zipL f x y, p z
  | a :: x, c :: y, h1, h2, z, hz => by
    rw [zipL, List.mem_cons] at hz
    rcases hz with rfl | hz
    · exact h2 a (List.mem_cons_self ..) c (List.mem_cons_self ..)
    · exact zipL_mem f p x y (fun d hd => h1 d (List.mem_cons_of_mem _ hd)) (fun d hd e he => h2 d (List.mem_cons_of_mem _ hd) e (List.mem_cons_of_mem _ he)) z hz
  | [], [], _, _, z, hz => by simp [zipL] at hz
  | _ :: _, [], h1, _, z, hz => h1 z hz
  | [], _ :: _, _, _, z, hz => by simp [zipL] at hz
end Go.Proofs.YtcjcafekacceiaaGreatDoor

/-! What the methods calculate, step by step: of no program. -/
namespace Go.Proofs.YtcjcafekacceiaaGreatDoor

abbrev B4 : Nat := 10000
theorem dig4 (n : Nat) : ∀ d ∈ dz 10000 n, 0 ≤ d ∧ d < 10000 := dz_digit 10000 (by decide) n
theorem vz4 (n : Nat) : vz 10000 (dz 10000 n) = n := vz_dz 10000 (by decide) n
theorem len4 (n k : Nat) : (dz 10000 n).length ≤ k ↔ n < 10000 ^ k := dz_length_iff 10000 (by decide) k n
theorem getD_mem {p : Int → Prop} (l : List Int) (h0 : p 0) (h : ∀ d ∈ l, p d) (i : Nat) : p (l[i]?.getD 0) := by
  by_cases hi : i < l.length
  · rw [List.getElem?_eq_getElem hi]; exact h _ (List.getElem_mem hi)
  · rw [List.getElem?_eq_none (by omega)]; exact h0
theorem dig4_at (n i : Nat) : 0 ≤ (dz 10000 n)[i]?.getD 0 ∧ (dz 10000 n)[i]?.getD 0 < 10000 := getD_mem (p := fun d => 0 ≤ d ∧ d < 10000) _ (by decide) (dig4 n) i

/-- A column is carried. -/
theorem carry_step (gs : List Int) (c col : Int) (rest : List Int) : vt 10000 gs (c + vz 10000 (col :: rest)) = vt 10000 (gs ++ [(c + col) % 10000]) ((c + col) / 10000 + vz 10000 rest) := by
  rw [vt_snoc, vz]
  congr 1
  omega
theorem carry_end (gs : List Int) (hg : ∀ d ∈ gs, 0 ≤ d ∧ d < 10000) (c : Int) (h : 0 ≤ vt 10000 gs c) : 0 ≤ c := by
  have h1 : vz 10000 gs < ((10000 ^ gs.length : Nat) : Int) := vz_lt 10000 gs hg
  rw [vt_eq] at h
  by_cases hc : 0 ≤ c
  · exact hc
  · have h2 : ((10000 : Int) ^ gs.length) * c ≤ 10000 ^ gs.length * (-1) := Int.mul_le_mul_of_nonneg_left (by omega) (Int.le_of_lt (Int.pow_pos (by decide)))
    have h3 : ((10000 ^ gs.length : Nat) : Int) = (10000 : Int) ^ gs.length := by rw [Int.natCast_pow]; rfl
    omega
theorem tmod_pos (t : Int) (h : 0 ≤ t.tmod 10000) : t.tmod 10000 = t % 10000 := by
  by_cases ht : 0 ≤ t
  · exact Int.tmod_eq_emod_of_nonneg ht
  · have e : t.tmod 10000 = -((-t).tmod 10000) := by rw [Int.neg_tmod, Int.neg_neg]
    have := Int.tmod_eq_emod_of_nonneg (a := -t) (b := 10000) (by omega)
    omega
theorem tmod_neg (t : Int) (h : t.tmod 10000 < 0) : t.tmod 10000 + 10000 = t % 10000 := by
  by_cases ht : 0 ≤ t
  · have := Int.tmod_eq_emod_of_nonneg (b := 10000) ht
    omega
  · have e : t.tmod 10000 = -((-t).tmod 10000) := by rw [Int.neg_tmod, Int.neg_neg]
    have := Int.tmod_eq_emod_of_nonneg (a := -t) (b := 10000) (by omega)
    omega
theorem tdiv_exact (t : Int) : (t - t % 10000).tdiv 10000 = t / 10000 := by
  have e : t - t % 10000 = 10000 * (t / 10000) := by omega
  rw [e, Int.mul_tdiv_cancel_left _ (by decide)]

theorem dz_drop (b : Nat) (hb : 2 ≤ b) : ∀ k n, (dz b n).drop k = dz b (n / b ^ k)
  | 0, n => by simp
  | k + 1, n => by
    by_cases h : n = 0
    · subst h; simp [dz_zero]
    · rw [dz_pos b hb n h, List.drop_succ_cons, dz_drop b hb k, Nat.div_div_eq_div_mul, Nat.pow_succ, Nat.mul_comm]
theorem dz_getD (b : Nat) (hb : 2 ≤ b) (n i : Nat) : (dz b n)[i]?.getD 0 = ((n / b ^ i % b : Nat) : Int) := by
  have h := dz_drop b hb i n
  have e : (dz b n)[i]? = ((dz b n).drop i)[0]? := by simp
  rw [e, h]
  by_cases h0 : n / b ^ i = 0
  · rw [h0, dz_zero]; simp
  · rw [dz_pos b hb _ h0]; simp
theorem vz_rep (b : Int) (l : List Int) : ∀ k, vz b (List.replicate k 0 ++ l) = b ^ k * vz b l
  | 0 => by simp
  | k + 1 => by
    rw [List.replicate_succ, List.cons_append, vz, vz_rep b l k, Int.pow_succ, ← Int.mul_assoc, Int.mul_comm b (b ^ k)]; omega
/-- The number above the lowest groups, group by group from the top. -/
theorem above_step (b : Nat) (_hb : 2 ≤ b) (n i : Nat) : n / b ^ i = n / b ^ (i + 1) * b + n / b ^ i % b := by
  rw [Nat.pow_succ, ← Nat.div_div_eq_div_mul]
  have := Nat.mod_add_div (n / b ^ i) b
  rw [Nat.mul_comm] at this
  omega

theorem div_step (b m g d : Nat) : (b * m + g) / d = b * (m / d) + (b * (m % d) + g) / d ∨ d = 0 := by
  rcases Nat.eq_zero_or_pos d with h | h
  · exact .inr h
  · left
    have e : b * m + g = d * (b * (m / d)) + (b * (m % d) + g) := by
      conv => lhs; rw [← Nat.mod_add_div m d]
      rw [Nat.mul_add, ← Nat.mul_assoc, ← Nat.mul_assoc, Nat.mul_comm b d]; omega
    rw [e, Nat.mul_add_div h]
theorem mod_step (b m g d : Nat) : (b * m + g) % d = (b * (m % d) + g) % d := by
  have e : b * m + g = d * (b * (m / d)) + (b * (m % d) + g) := by
    conv => lhs; rw [← Nat.mod_add_div m d]
    rw [Nat.mul_add, ← Nat.mul_assoc, ← Nat.mul_assoc, Nat.mul_comm b d]; omega
  rw [e, Nat.mul_add_mod]
/-- The next group of a quotient is below the base. -/
theorem next_lt (b r g d : Nat) (hr : r < d) (hg : g < b) : b * r + g < d * b := by
  have : b * (r + 1) ≤ b * d := Nat.mul_le_mul_left _ hr
  rw [Nat.mul_add, Nat.mul_comm b d] at this
  omega
theorem pow_le_of_len (b : Nat) (hb : 2 ≤ b) (d k : Nat) (h : k < (dz b d).length) : b ^ k ≤ d := by
  by_cases hd : d < b ^ k
  · have := (dz_length_iff b hb k d).2 hd
    omega
  · omega

theorem least_le (n d P : Nat) (hd : 0 < d) (hP : 0 < P) : n / P / (d / P + 1) ≤ n / d := by
  rw [Nat.le_div_iff_mul_le hd]
  have h1 : d ≤ P * (d / P + 1) := by
    have := Nat.lt_mul_div_succ d hP
    omega
  calc n / P / (d / P + 1) * d ≤ n / P / (d / P + 1) * (P * (d / P + 1)) := Nat.mul_le_mul_left _ h1
    _ = (n / P / (d / P + 1) * (d / P + 1)) * P := by rw [Nat.mul_comm P, ← Nat.mul_assoc]
    _ ≤ n / P * P := Nat.mul_le_mul_right _ (Nat.div_mul_le_self _ _)
    _ ≤ n := Nat.div_mul_le_self _ _
theorem le_most (n d P : Nat) (hD : 0 < d / P) (hP : 0 < P) : n / d ≤ n / P / (d / P) := by
  rw [Nat.le_div_iff_mul_le hD, Nat.le_div_iff_mul_le hP]
  calc n / d * (d / P) * P = n / d * (d / P * P) := Nat.mul_assoc ..
    _ ≤ n / d * d := Nat.mul_le_mul_left _ (Nat.div_mul_le_self _ _)
    _ ≤ n := Nat.div_mul_le_self _ _
theorem count_lt : ∀ (m k : Nat), k ≤ m → (List.range m).countP (fun i => decide (i < k)) = k
  | 0, k, h => by
    have : k = 0 := by omega
    subst this; rfl
  | m + 1, k, h => by
    rw [List.range_succ, List.countP_append]
    rcases Nat.lt_or_ge m k with h1 | h1
    · have : k = m + 1 := by omega
      subst this
      have e : (List.range m).countP (fun i => decide (i < m + 1)) = m := by
        have : (List.range m).countP (fun i => decide (i < m + 1)) = (List.range m).length := by
          rw [List.countP_eq_length]
          intro a ha
          have := List.mem_range.1 ha
          simp; omega
        rw [this, List.length_range]
      rw [e]; simp
    · rw [count_lt m k h1]
      have : ¬ m < k := by omega
      simp [this]
theorem over_iff (n d k : Nat) (hd : 0 < d) : n < k * d ↔ n / d < k := by
  rw [Nat.div_lt_iff_lt_mul hd]

/-- Newton's step does not fall below the root. -/
theorem newton_ge (n g s : Nat) (hs : s * s ≤ n) (hg : 0 < g) : s ≤ (g + n / g) / 2 := by
  have h : 2 * s ≤ g + n / g := by
    by_cases h2 : 2 * s ≤ g
    · exact Nat.le_trans h2 (Nat.le_add_right _ _)
    · have h3 : 2 * s - g ≤ n / g := by
        rw [Nat.le_div_iff_mul_le hg]
        refine Nat.le_trans ?_ hs
        rcases Nat.le_total s g with h4 | h4
        · obtain ⟨t, rfl⟩ : ∃ t, g = s + t := ⟨g - s, by omega⟩
          have e : 2 * s - (s + t) = s - t := by omega
          obtain ⟨u, rfl⟩ : ∃ u, s = t + u := ⟨s - t, by omega⟩
          rw [e, show t + u - t = u by omega]
          have : (t + u) * (t + u) = t * t + 2 * (t * u) + u * u := by
            rw [Nat.add_mul, Nat.mul_add, Nat.mul_add, Nat.mul_comm u t]; omega
          rw [this, Nat.mul_add, Nat.mul_add, Nat.mul_comm u t]; omega
        · obtain ⟨t, rfl⟩ : ∃ t, s = g + t := ⟨s - g, by omega⟩
          have e : 2 * (g + t) - g = g + 2 * t := by omega
          rw [e]
          have h1 : (g + t) * (g + t) = g * g + 2 * (t * g) + t * t := by
            rw [Nat.add_mul, Nat.mul_add, Nat.mul_add, Nat.mul_comm g t]; omega
          have h2 : (g + 2 * t) * g = g * g + 2 * (t * g) := by
            rw [Nat.add_mul, Nat.mul_assoc]
          omega
      omega
  omega
theorem newton_end (n g s : Nat) (hs2 : n < (s + 1) * (s + 1)) (hg : 0 < g) (hsg : s ≤ g) (h : g ≤ (g + n / g) / 2) : g = s := by
  have h1 : g ≤ n / g := by omega
  rw [Nat.le_div_iff_mul_le hg] at h1
  by_cases hlt : s + 1 ≤ g
  · have := Nat.mul_le_mul hlt hlt
    omega
  · omega
theorem root_ex : ∀ n : Nat, ∃ s, s * s ≤ n ∧ n < (s + 1) * (s + 1)
  | 0 => ⟨0, by decide, by decide⟩
  | n + 1 => by
    obtain ⟨s, h1, h2⟩ := root_ex n
    by_cases h : n + 1 < (s + 1) * (s + 1)
    · exact ⟨s, by omega, h⟩
    · refine ⟨s + 1, by omega, ?_⟩
      have : (s + 1 + 1) * (s + 1 + 1) = (s + 1) * (s + 1) + 2 * (s + 1) + 1 := by
        rw [Nat.add_mul (s + 1) 1, Nat.mul_add (s + 1) (s + 1) 1]; omega
      omega
theorem root_unique (n s t : Nat) (h1 : s * s ≤ n) (h2 : n < (s + 1) * (s + 1)) (h3 : t * t ≤ n) (h4 : n < (t + 1) * (t + 1)) : s = t := by
  rcases Nat.lt_trichotomy s t with h | h | h
  · have := Nat.mul_le_mul (show s + 1 ≤ t from h) (show s + 1 ≤ t from h); omega
  · exact h
  · have := Nat.mul_le_mul (show t + 1 ≤ s from h) (show t + 1 ≤ s from h); omega
end Go.Proofs.YtcjcafekacceiaaGreatDoor

/-! Integers as decimal texts: of no program. -/
namespace Go.Proofs.YtcjcafekacceiaaGreatDoor

/-- The byte of a digit. -/
def chr (d : Int) : UInt8 := UInt8.ofNat (48 + d.toNat)
/-- The text of digits, which stand lowest first. -/
def txtD (l : List Int) : List UInt8 := (l.map chr).reverse
/-- A number's decimal text. -/
def txt (n : Nat) : List UInt8 := if n = 0 then [48] else txtD (dz 10 n)
def shw (z : Int) : List UInt8 := if z < 0 then 45 :: txt z.natAbs else txt z.natAbs
def str (z : Int) : ByteArray := ⟨(shw z).toArray⟩
def isD (c : UInt8) : Bool := decide (48 ≤ c.toNat) && decide (c.toNat ≤ 57)
/-- What stands behind the sign. -/
def body (s : List UInt8) : List UInt8 := if s.head? = some 45 then s.tail else s
/-- A valid integer: at most 200 digits. -/
def vld (s : List UInt8) : Bool := !(body s).isEmpty && decide ((body s).length ≤ 200) && (body s).all isD && ((body s).head? != some 48 || s == [48])
/-- The digits of a text, lowest first. -/
def digN (d : List UInt8) : List Int := d.reverse.map (fun c => (c.toNat : Int) - 48)
def num (s : List UInt8) : Int := if s.head? = some 45 then -vz 10 (digN (body s)) else vz 10 (digN s)
def Big (z : Int) : Prop := z.natAbs < 10 ^ 200

theorem chr_toNat (d : Int) (h0 : 0 ≤ d) (h1 : d < 10) : ((chr d).toNat : Int) = 48 + d := by
  unfold chr
  rw [UInt8.toNat_ofNat']
  omega
theorem chr_isD (d : Int) (h0 : 0 ≤ d) (h1 : d < 10) : isD (chr d) = true := by
  have := chr_toNat d h0 h1
  unfold isD
  simp; omega
theorem dig10 (n : Nat) : ∀ d ∈ dz 10 n, 0 ≤ d ∧ d < 10 := dz_digit 10 (by decide) n
theorem digN_txtD (l : List Int) (h : ∀ d ∈ l, 0 ≤ d ∧ d < 10) : digN (txtD l) = l := by
  unfold digN txtD
  rw [List.reverse_reverse, List.map_map]
  conv => rhs; rw [← List.map_id l]
  apply List.map_congr_left
  intro d hd
  have := chr_toNat d (h d hd).1 (h d hd).2
  simp; omega
theorem txtD_digN (d : List UInt8) (h : d.all isD = true) : txtD (digN d) = d := by
  unfold digN txtD
  rw [List.map_map, ← List.map_reverse, List.reverse_reverse]
  conv => rhs; rw [← List.map_id d]
  apply List.map_congr_left
  intro c hc
  have := List.all_eq_true.1 h c hc
  simp [isD] at this
  have h2 := UInt8.toNat_lt c
  apply UInt8.toNat.inj
  simp only [Function.comp, chr, id]
  rw [UInt8.toNat_ofNat']
  omega
theorem digN_digit (d : List UInt8) (h : d.all isD = true) : ∀ x ∈ digN d, 0 ≤ x ∧ x < 10 := by
  intro x hx
  unfold digN at hx
  rw [List.mem_map] at hx
  obtain ⟨c, hc, rfl⟩ := hx
  have := List.all_eq_true.1 h c (by simpa using hc)
  simp [isD] at this
  omega
theorem txtD_length (l : List Int) : (txtD l).length = l.length := by simp [txtD]
theorem digN_length (d : List UInt8) : (digN d).length = d.length := by simp [digN]
theorem txtD_all (l : List Int) (h : ∀ d ∈ l, 0 ≤ d ∧ d < 10) : (txtD l).all isD = true := by
  rw [List.all_eq_true]
  intro c hc
  unfold txtD at hc
  rw [List.mem_reverse, List.mem_map] at hc
  obtain ⟨d, hd, rfl⟩ := hc
  exact chr_isD d (h d hd).1 (h d hd).2
theorem digN_txt (n : Nat) : vz 10 (digN (txt n)) = n := by
  unfold txt
  split
  · next h => subst h; decide
  · rw [digN_txtD _ (dig10 n)]; exact vz_dz 10 (by decide) n
theorem txt_all (n : Nat) : (txt n).all isD = true := by
  unfold txt
  split
  · decide
  · exact txtD_all _ (dig10 n)
theorem txt_ne (n : Nat) : txt n ≠ [] := by
  unfold txt
  split
  · simp
  · next h =>
    have := (dz_length_pos 10 (by decide) n).2 h
    intro h2
    have h3 := congrArg List.length h2
    rw [txtD_length, List.length_nil] at h3; omega
theorem txt_head (n : Nat) (h : n ≠ 0) : (txt n).head? ≠ some 48 := by
  unfold txt
  rw [if_neg h]
  have hl := dz_last 10 (by decide) n h
  have hp := (dz_length_pos 10 (by decide) n).2 h
  have hm : (dz 10 n)[(dz 10 n).length - 1] ∈ dz 10 n := List.getElem_mem _
  have hd := dig10 n _ hm
  rw [List.getElem?_eq_getElem (by omega)] at hl
  unfold txtD
  rw [List.head?_reverse, List.getLast?_eq_getElem?, List.length_map, List.getElem?_map, List.getElem?_eq_getElem (by omega)]
  simp only [Option.map_some, Option.getD_some] at hl ⊢
  intro h2
  have h3 := chr_toNat _ hd.1 hd.2
  rw [Option.some.inj h2] at h3
  have : ((48 : UInt8).toNat : Int) = 48 := by decide
  omega
theorem txt_length (n k : Nat) (hk : 1 ≤ k) : (txt n).length ≤ k ↔ n < 10 ^ k := by
  unfold txt
  split
  · next h => subst h; simp; exact ⟨fun _ => Nat.pow_pos (by decide), fun _ => hk⟩
  · rw [txtD_length]; exact dz_length_iff 10 (by decide) k n
/-- Digits without a zero in front are the text of their value. -/
theorem txt_of (d : List UInt8) (hd : d.all isD = true) (hne : d ≠ []) (h : d.head? ≠ some 48 ∨ d = [48]) : txt (vz 10 (digN d)).toNat = d := by
  rcases h with h | rfl
  · have hl : digN d = dz 10 (vz 10 (digN d)).toNat := by
      apply canon_all 10 (by decide) _ (digN_digit d hd)
      right
      have hp : 0 < d.length := List.length_pos_iff.2 hne
      unfold digN
      rw [List.length_map, List.length_reverse, List.getElem?_map, List.getElem?_reverse (by omega), show d.length - 1 - (d.length - 1) = 0 by omega, List.getElem?_eq_getElem hp]
      simp only [Option.map_some, Option.getD_some]
      intro h2
      apply h
      rw [List.head?_eq_getElem?, List.getElem?_eq_getElem hp]
      congr 1
      apply UInt8.toNat.inj
      have : (48 : UInt8).toNat = 48 := by decide
      omega
    have hn : (vz 10 (digN d)).toNat ≠ 0 := by
      intro h0
      rw [h0, dz_zero] at hl
      have := congrArg List.length hl
      rw [digN_length] at this
      exact hne (List.length_eq_zero_iff.1 this)
    unfold txt
    rw [if_neg hn, ← hl]
    exact txtD_digN d hd
  · decide
theorem txt_not_minus (n : Nat) : (txt n).head? ≠ some 45 := by
  intro h
  have hall := txt_all n
  cases ht : txt n with
  | nil => rw [ht] at h; simp at h
  | cons c l =>
    rw [ht] at h hall
    simp at h
    subst h
    simp [isD] at hall
theorem body_shw (z : Int) : body (shw z) = txt z.natAbs := by
  unfold shw body
  split
  · simp
  · rw [if_neg (txt_not_minus _)]
theorem head_shw (z : Int) : ((shw z).head? = some 45) ↔ z < 0 := by
  unfold shw
  split
  · next h => simp [h]
  · next h => simp [h, txt_not_minus]
theorem num_shw (z : Int) : num (shw z) = z := by
  unfold num
  by_cases h : z < 0
  · rw [if_pos ((head_shw z).2 h), body_shw, digN_txt]; omega
  · rw [if_neg (by rw [head_shw]; exact h)]
    unfold shw
    rw [if_neg h, digN_txt]; omega
theorem vld_shw (z : Int) (hz : Big z) : vld (shw z) = true := by
  unfold vld
  rw [body_shw]
  have h1 := txt_ne z.natAbs
  have h2 := (txt_length z.natAbs 200 (by decide)).2 hz
  have h3 := txt_all z.natAbs
  have h4 : ((txt z.natAbs).head? != some 48 || shw z == [48]) = true := by
    by_cases h : z = 0
    · subst h; decide
    · have := txt_head z.natAbs (by omega)
      simp [this]
  simp [h1, h2, h3, h4]
theorem shw_num (s : List UInt8) (h : vld s = true) : s = shw (num s) ∧ Big (num s) := by
  unfold vld at h
  simp only [Bool.and_eq_true, decide_eq_true_eq, Bool.not_eq_true', List.isEmpty_eq_false_iff] at h
  obtain ⟨⟨⟨hne, hlen⟩, hall⟩, hz⟩ := h
  have hz' : (body s).head? ≠ some 48 ∨ s = [48] := by
    simpa [Bool.or_eq_true] using hz
  have h0 := vz_nonneg 10 (by decide) (digN (body s)) (fun d hd => (digN_digit _ hall d hd).1)
  by_cases hm : s.head? = some 45
  · have hs : s = 45 :: body s := by
      unfold body
      rw [if_pos hm]
      cases s with
      | nil => simp at hm
      | cons c l => simp at hm; subst hm; rfl
    have hz2 : (body s).head? ≠ some 48 := by
      rcases hz' with h | h
      · exact h
      · subst h; simp at hm
    have ht := txt_of (body s) hall hne (.inl hz2)
    have hn : num s = -vz 10 (digN (body s)) := by unfold num; rw [if_pos hm]
    have hpos : (vz 10 (digN (body s))).toNat ≠ 0 := by
      intro h
      rw [h] at ht
      rw [← ht] at hz2
      exact hz2 (by decide)
    have hab : (num s).natAbs = (vz 10 (digN (body s))).toNat := by rw [hn]; omega
    constructor
    · unfold shw
      rw [if_pos (by rw [hn]; omega), hab, ht]
      exact hs
    · unfold Big
      rw [hab, ← txt_length _ 200 (by decide), ht]
      exact hlen
  · have hs : body s = s := by unfold body; rw [if_neg hm]
    rw [hs] at hall hne hz' hlen h0
    have ht := txt_of s hall hne hz'
    have hn : num s = vz 10 (digN s) := by unfold num; rw [if_neg hm]
    have hab : (num s).natAbs = (vz 10 (digN s)).toNat := by rw [hn]; omega
    constructor
    · unfold shw
      rw [if_neg (by rw [hn]; omega), hab, ht]
    · unfold Big
      rw [hab, ← txt_length _ 200 (by decide), ht]
      exact hlen
theorem str_data (z : Int) : (str z).data.toList = shw z := by simp [str]
/-- Each string is a valid integer's text, or not valid. -/
theorem cases_int (s : ByteArray) : vld s.data.toList = false ∨ ∃ z : Int, Big z ∧ s = str z := by
  cases h : vld s.data.toList with
  | false => exact .inl rfl
  | true =>
    obtain ⟨h1, h2⟩ := shw_num _ h
    refine .inr ⟨num s.data.toList, h2, ?_⟩
    apply ByteArray.ext
    apply Array.ext'
    rw [str_data]; exact h1
theorem shw_inj (y z : Int) (h : shw y = shw z) : y = z := by
  have := num_shw y
  rw [h, num_shw] at this
  exact this.symm
theorem str_inj (y z : Int) (h : str y = str z) : y = z := by
  apply shw_inj
  rw [← str_data, ← str_data, h]
theorem shw_vld (z : Int) : vld (shw z) = true ↔ Big z := by
  constructor
  · intro h
    have := (shw_num _ h).2
    rwa [num_shw] at this
  · exact vld_shw z
theorem shw_length (z : Int) (hz : Big z) : (shw z).length ≤ 201 := by
  have := (txt_length z.natAbs 200 (by decide)).2 hz
  unfold shw
  split <;> simp <;> omega
theorem decDigits_txt : ∀ n : Nat, Go.Lib.decDigits n = txt n := by
  intro n
  induction n using Nat.strongRecOn with
  | _ n ih =>
    rw [Go.Lib.decDigits]
    split
    · next h =>
      unfold txt
      split
      · next h0 => subst h0; rfl
      · next h0 =>
        rw [dz_pos 10 (by decide) n h0, show n / 10 = 0 by omega, dz_zero, show n % 10 = n by omega]
        simp [txtD, chr]
    · next h =>
      rw [ih (n / 10) (by omega)]
      unfold txt
      rw [if_neg (by omega), if_neg (by omega), dz_pos 10 (by decide) n (by omega)]
      simp [txtD, chr]
      congr 1
theorem itoa_shw (z : Int) : Go.Lib.itoa z = shw z := by
  unfold Go.Lib.itoa shw
  split
  · rw [decDigits_txt]
  · rw [decDigits_txt]; congr 1; omega
end Go.Proofs.YtcjcafekacceiaaGreatDoor

/-! What the reference calculates digit by digit: of no program. -/
namespace Go.Proofs.YtcjcafekacceiaaGreatDoor

theorem vz10 (n : Nat) : vz 10 (dz 10 n) = n := vz_dz 10 (by decide) n
theorem len10 (n k : Nat) : (dz 10 n).length ≤ k ↔ n < 10 ^ k := dz_length_iff 10 (by decide) k n
theorem dig10_at (n i : Nat) : 0 ≤ (dz 10 n)[i]?.getD 0 ∧ (dz 10 n)[i]?.getD 0 < 10 := getD_mem (p := fun d => 0 ≤ d ∧ d < 10) _ (by decide) (dig10 n) i
theorem drop_vz (zs : List Int) (k : Nat) : vz 10 (zs.drop k) = zs[k]?.getD 0 + 10 * vz 10 (zs.drop (k + 1)) := by
  by_cases h : k < zs.length
  · rw [List.drop_eq_getElem_cons h, vz, List.getElem?_eq_getElem h]; rfl
  · rw [List.drop_eq_nil_of_le (by omega), List.drop_eq_nil_of_le (by omega), List.getElem?_eq_none (by omega)]; rfl
theorem drop_vz_end (zs : List Int) (k : Nat) (h : zs.length ≤ k) : vz 10 (zs.drop k) = 0 := by rw [List.drop_eq_nil_of_le h]; rfl
theorem drop_vz_nonneg (n k : Nat) : 0 ≤ vz 10 ((dz 10 n).drop k) := vz_nonneg 10 (by decide) _ (fun d hd => (dig10 n d (List.mem_of_mem_drop hd)).1)

/-- The first k digits of a number, zeros above it included. -/
def dk (s : Nat) : Nat → List Int
  | 0 => []
  | k + 1 => dk s k ++ [((s / 10 ^ k % 10 : Nat) : Int)]
theorem dk_length (s : Nat) : ∀ k, (dk s k).length = k
  | 0 => rfl
  | k + 1 => by simp [dk, dk_length s k]
theorem dk_digit (s : Nat) : ∀ k, ∀ d ∈ dk s k, 0 ≤ d ∧ d < 10
  | 0, d, h => by simp [dk] at h
  | k + 1, d, h => by
    rw [dk, List.mem_append, List.mem_singleton] at h
    rcases h with h | rfl
    · exact dk_digit s k d h
    · omega
theorem dk_vz (s : Nat) : ∀ k t, vt 10 (dk s k) t = ((s % 10 ^ k : Nat) : Int) + 10 ^ k * t
  | 0, t => by simp [dk, vt, Nat.mod_one]
  | k + 1, t => by
    rw [dk, vt_snoc, dk_vz s k, Int.mul_add, ← Int.mul_assoc, ← Int.pow_succ]
    have h1 : s % 10 ^ (k + 1) = s % 10 ^ k + 10 ^ k * (s / 10 ^ k % 10) := by
      rw [Nat.pow_succ, Nat.mod_mul]
    rw [h1, Int.natCast_add, Int.natCast_mul, Int.natCast_pow]
    show _ + (_ + _) = _ + _ + _
    rw [Int.add_assoc]
    rfl
/-- A number's digits are its first ones, up to the highest. -/
theorem dk_dz (s k : Nat) (h1 : s < 10 ^ k) (h2 : k = 0 ∨ 10 ^ (k - 1) ≤ s) : dk s k = dz 10 s := by
  have hv : vz 10 (dk s k) = (s : Int) := by rw [← vt_zero, dk_vz, Nat.mod_eq_of_lt h1, Int.mul_zero, Int.add_zero]
  have := canon_all 10 (by decide) (dk s k) (dk_digit s k) (by
    rcases h2 with rfl | h2
    · exact .inl rfl
    · cases k with
      | zero => exact .inl rfl
      | succ j =>
        right
        rw [dk_length, dk, List.getElem?_append_right (by rw [dk_length]; omega), dk_length]
        rw [Nat.add_sub_cancel] at h2
        have h3 : 0 < s / 10 ^ j := Nat.div_pos h2 (Nat.pow_pos (by decide))
        have h4 : s / 10 ^ j < 10 := by rw [Nat.div_lt_iff_lt_mul (Nat.pow_pos (by decide)), Nat.mul_comm, ← Nat.pow_succ]; exact h1
        generalize s / 10 ^ j = q at *
        simp
        omega)
  rw [show ((10 : Nat) : Int) = 10 from rfl, hv, Int.toNat_natCast] at this
  exact this

/-- plus, a round: the digits so far, and what is left to add. -/
def PlusN (a b k : Nat) (c : Int) (gs : List Int) : Prop :=
  gs = dk (a + b) k ∧ (0 ≤ c ∧ c ≤ 1) ∧ vt 10 gs (c + vz 10 ((dz 10 a).drop k) + vz 10 ((dz 10 b).drop k)) = ((a + b : Nat) : Int) ∧ (k = 0 ∨ 10 ^ (k - 1) ≤ a + b)
theorem plusN_start (a b : Nat) : PlusN a b 0 0 [] := ⟨rfl, ⟨by decide, by decide⟩, by simp [vt, vz10], .inl rfl⟩
theorem dz_getD10 (n i : Nat) : (dz 10 n)[i]?.getD 0 = ((n / 10 ^ i % 10 : Nat) : Int) := dz_getD 10 (by decide) n i
theorem lt_len (n k : Nat) : k < (dz 10 n).length ↔ 10 ^ k ≤ n := by
  have := len10 n k
  omega
theorem dk_next (s k : Nat) (u : Int) (h : vt 10 (dk s k) u = (s : Int)) : u = ((s / 10 ^ k : Nat) : Int) := by
  rw [dk_vz] at h
  have h1 : (s : Int) = ((s % 10 ^ k : Nat) : Int) + 10 ^ k * ((s / 10 ^ k : Nat) : Int) := by
    have := Nat.mod_add_div s (10 ^ k)
    have h2 : ((s % 10 ^ k + 10 ^ k * (s / 10 ^ k) : Nat) : Int) = (s : Int) := by rw [this]
    rw [Int.natCast_add, Int.natCast_mul, Int.natCast_pow] at h2
    exact h2.symm
  have hp : (10 : Int) ^ k ≠ 0 := Int.ne_of_gt (Int.pow_pos (by decide))
  have h3 : (10 : Int) ^ k * u = 10 ^ k * ((s / 10 ^ k : Nat) : Int) := by omega
  exact Int.eq_of_mul_eq_mul_left hp h3
theorem plusN_step (a b k : Nat) (c n : Int) (gs : List Int) (h : PlusN a b k c gs) (hn : n = c + (dz 10 a)[k]?.getD 0 + (dz 10 b)[k]?.getD 0) (hgo : k < (dz 10 a).length ∨ k < (dz 10 b).length ∨ 0 < c) :
    PlusN a b (k + 1) (n / 10) (gs ++ [n % 10]) ∧ 0 ≤ n ∧ n ≤ 19 := by
  obtain ⟨rfl, ⟨h0, h1⟩, hv, hk⟩ := h
  have ha := dig10_at a k
  have hb := dig10_at b k
  have e := dk_next _ _ _ hv
  rw [drop_vz _ k, drop_vz (dz 10 b) k] at e
  have hna := drop_vz_nonneg a (k + 1)
  have hnb := drop_vz_nonneg b (k + 1)
  have ev : vt 10 (dk (a + b) k) (n % 10 + 10 * (n / 10 + vz 10 ((dz 10 a).drop (k + 1)) + vz 10 ((dz 10 b).drop (k + 1)))) = ((a + b : Nat) : Int) := by
    rw [← hv]
    congr 1
    rw [drop_vz _ k, drop_vz (dz 10 b) k]
    omega
  refine ⟨⟨?_, by omega, ?_, .inr ?_⟩, by omega, by omega⟩
  · rw [dk]
    congr 2
    omega
  · rw [vt_snoc]; exact ev
  · rw [Nat.add_sub_cancel]
    rcases hgo with h | h | h
    · have := (lt_len a k).1 h; omega
    · have := (lt_len b k).1 h; omega
    · have h2 : 0 < (a + b) / 10 ^ k := by omega
      have h3 := Nat.div_mul_le_self (a + b) (10 ^ k)
      have h4 : 10 ^ k ≤ (a + b) / 10 ^ k * 10 ^ k := Nat.le_mul_of_pos_left _ h2
      omega
theorem plusN_end (a b k : Nat) (c : Int) (gs : List Int) (h : PlusN a b k c gs) (h1 : (dz 10 a).length ≤ k) (h2 : (dz 10 b).length ≤ k) (h3 : ¬ 0 < c) : gs = dz 10 (a + b) := by
  obtain ⟨rfl, ⟨h0, _⟩, hv, hk⟩ := h
  have e := dk_next _ _ _ hv
  rw [drop_vz_end _ _ h1, drop_vz_end _ _ h2] at e
  have hz : (a + b) / 10 ^ k = 0 := by omega
  have hlt : a + b < 10 ^ k := by
    rcases Nat.div_eq_zero_iff.1 hz with h | h
    · have := Nat.pow_pos (n := k) (show 0 < 10 by decide); omega
    · exact h
  exact dk_dz _ _ hlt hk

theorem plusN_over (a b k : Nat) (c : Int) (gs : List Int) (h : PlusN a b k c gs) (h1 : (dz 10 a).length < k) (h2 : (dz 10 b).length < k) : ¬ 0 < c := by
  obtain ⟨rfl, _, hv, _⟩ := h
  have e := dk_next _ _ _ hv
  rw [drop_vz_end _ _ (by omega), drop_vz_end _ _ (by omega)] at e
  obtain ⟨j, rfl⟩ : ∃ j, k = j + 1 := ⟨k - 1, by omega⟩
  have h3 := (len10 a j).1 (by omega)
  have h4 := (len10 b j).1 (by omega)
  have hz : (a + b) / 10 ^ (j + 1) = 0 := Nat.div_eq_of_lt (by rw [Nat.pow_succ]; omega)
  omega
/-- minus, a round. -/
def MinusN (a b k : Nat) (c : Int) (gs : List Int) : Prop :=
  (∀ d ∈ gs, 0 ≤ d ∧ d < 10) ∧ (0 ≤ c ∧ c ≤ 1) ∧ vt 10 gs (vz 10 ((dz 10 a).drop k) - vz 10 ((dz 10 b).drop k) - c) = (a : Int) - b ∧ gs.length = k
theorem minusN_start (a b : Nat) : MinusN a b 0 0 [] := ⟨by simp, ⟨by decide, by decide⟩, by simp [vt, vz10], rfl⟩
theorem minusN_step (a b k : Nat) (c n m c' : Int) (gs : List Int) (h : MinusN a b k c gs) (hn : n = (dz 10 a)[k]?.getD 0 - c - (dz 10 b)[k]?.getD 0) (hm : m = n + 10 * c') (hc : c' = if n < 0 then 1 else 0) :
    MinusN a b (k + 1) c' (gs ++ [m]) := by
  obtain ⟨hd, ⟨h0, h1⟩, hv, hl⟩ := h
  have ha := dig10_at a k
  have hb := dig10_at b k
  have hc01 : (n < 0 ∧ c' = 1) ∨ (0 ≤ n ∧ c' = 0) := by
    split at hc <;> omega
  refine ⟨?_, by omega, ?_, by simp [hl]⟩
  · intro d h
    rw [List.mem_append, List.mem_singleton] at h
    rcases h with h | rfl
    · exact hd d h
    · omega
  · rw [vt_snoc, ← hv]
    congr 1
    rw [drop_vz _ k, drop_vz (dz 10 b) k]
    omega
theorem carry_end10 (gs : List Int) (hg : ∀ d ∈ gs, 0 ≤ d ∧ d < 10) (c : Int) (h : 0 ≤ vt 10 gs c) : 0 ≤ c := by
  have h1 : vz 10 gs < ((10 ^ gs.length : Nat) : Int) := vz_lt 10 gs hg
  rw [vt_eq] at h
  by_cases hc : 0 ≤ c
  · exact hc
  · have h2 : ((10 : Int) ^ gs.length) * c ≤ 10 ^ gs.length * (-1) := Int.mul_le_mul_of_nonneg_left (by omega) (Int.le_of_lt (Int.pow_pos (by decide)))
    have h3 : ((10 ^ gs.length : Nat) : Int) = (10 : Int) ^ gs.length := by rw [Int.natCast_pow]; rfl
    omega
theorem minusN_end (a b k : Nat) (c : Int) (gs : List Int) (h : MinusN a b k c gs) (h1 : (dz 10 a).length ≤ k) (hle : b ≤ a) : vz 10 gs = ((a - b : Nat) : Int) := by
  obtain ⟨hd, ⟨h0, _⟩, hv, hl⟩ := h
  have h2 := dz_length_mono 10 (by decide) b a hle
  rw [drop_vz_end _ _ h1, drop_vz_end _ _ (by omega)] at hv
  have h3 := carry_end10 gs hd (0 - 0 - c) (by rw [hv]; omega)
  have hc : c = 0 := by omega
  subst hc
  rw [show (0 : Int) - 0 - 0 = 0 by decide, vt_zero] at hv
  omega

theorem vz_set (b : Int) : ∀ (zs : List Int) (i : Nat) (v : Int), i < zs.length → vz b (zs.set i v) = vz b zs + (v - zs[i]?.getD 0) * b ^ i
  | d :: zs, 0, v, _ => by simp [vz]; omega
  | d :: zs, i + 1, v, h => by
    have e : b * ((v - zs[i]?.getD 0) * b ^ i) = (v - zs[i]?.getD 0) * b ^ (i + 1) := by rw [Int.mul_left_comm, Int.mul_comm b (b ^ i), Int.pow_succ]
    rw [List.set_cons_succ, vz, vz, vz_set b zs i v (by simpa using h), List.getElem?_cons_succ, Int.mul_add, e]
    omega
theorem set_digit (zs : List Int) (i : Nat) (v : Int) (h : ∀ d ∈ zs, 0 ≤ d ∧ d < 10) (hv : 0 ≤ v ∧ v < 10) : ∀ d ∈ zs.set i v, 0 ≤ d ∧ d < 10 := by
  intro d hd
  rcases List.mem_or_eq_of_mem_set hd with h1 | h1
  · exact h d h1
  · subst h1; exact hv
/-- times, a round of the inner loop: what stands, and what is left of the row. -/
def TimesN (a b i k : Nat) (c : Int) (zs : List Int) : Prop :=
  (∀ d ∈ zs, 0 ≤ d ∧ d < 10) ∧ zs.length = (dz 10 a).length + (dz 10 b).length ∧ (0 ≤ c ∧ c ≤ 9) ∧
    vz 10 zs + 10 ^ (i + k) * (c + ((a / 10 ^ i % 10 : Nat) : Int) * vz 10 ((dz 10 b).drop k)) = ((a % 10 ^ (i + 1) * b : Nat) : Int)
def RowN (a b i : Nat) (zs : List Int) : Prop :=
  (∀ d ∈ zs, 0 ≤ d ∧ d < 10) ∧ zs.length = (dz 10 a).length + (dz 10 b).length ∧ vz 10 zs = ((a % 10 ^ i * b : Nat) : Int)
theorem timesN_start (a b i : Nat) (zs : List Int) (h : RowN a b i zs) : TimesN a b i 0 0 zs := by
  obtain ⟨h1, h2, h3⟩ := h
  refine ⟨h1, h2, ⟨by decide, by decide⟩, ?_⟩
  rw [h3, Nat.add_zero, List.drop_zero, vz10, Int.zero_add]
  have e : a % 10 ^ (i + 1) = a % 10 ^ i + 10 ^ i * (a / 10 ^ i % 10) := by rw [Nat.pow_succ, Nat.mod_mul]
  rw [e, Nat.add_mul, Int.natCast_add, Nat.mul_assoc, Int.natCast_mul (10 ^ i), Int.natCast_mul (a / 10 ^ i % 10), Int.natCast_pow]
  rfl
theorem timesN_end (a b i k : Nat) (c : Int) (zs : List Int) (h : TimesN a b i k c zs) (hk : (dz 10 b).length ≤ k) (hc : ¬ 0 < c) : RowN a b (i + 1) zs := by
  obtain ⟨h1, h2, h3, h4⟩ := h
  refine ⟨h1, h2, ?_⟩
  rw [drop_vz_end _ _ hk] at h4
  have : c = 0 := by omega
  subst this
  simpa using h4
theorem timesN_bound (a b i k : Nat) (c : Int) (zs : List Int) (h : TimesN a b i k c zs) (hi : i < (dz 10 a).length) (hgo : k < (dz 10 b).length ∨ 0 < c) : i + k < (dz 10 a).length + (dz 10 b).length := by
  rcases hgo with h1 | h1
  · omega
  · obtain ⟨h2, h3, h4, h5⟩ := h
    by_cases hlt : i + k < (dz 10 a).length + (dz 10 b).length
    · exact hlt
    · exfalso
      have hz := vz_nonneg 10 (by decide) zs (fun d hd => (h2 d hd).1)
      have ha := dz_lt 10 (by decide) a
      have hb := dz_lt 10 (by decide) b
      have hd := Int.mul_nonneg (show (0 : Int) ≤ ((a / 10 ^ i % 10 : Nat) : Int) by omega) (drop_vz_nonneg b k)
      have h6 : (10 : Int) ^ (i + k) * 1 ≤ 10 ^ (i + k) * (c + ((a / 10 ^ i % 10 : Nat) : Int) * vz 10 ((dz 10 b).drop k)) := Int.mul_le_mul_of_nonneg_left (by omega) (Int.le_of_lt (Int.pow_pos (by decide)))
      have h7 : a % 10 ^ (i + 1) * b ≤ a * b := Nat.mul_le_mul_right _ (Nat.mod_le _ _)
      have h8 : a * b < 10 ^ (dz 10 a).length * 10 ^ (dz 10 b).length := by
        have h9 : a * b ≤ a * 10 ^ (dz 10 b).length := Nat.mul_le_mul_left _ (Nat.le_of_lt hb)
        have h10 : a * 10 ^ (dz 10 b).length < 10 ^ (dz 10 a).length * 10 ^ (dz 10 b).length := Nat.mul_lt_mul_of_pos_right ha (Nat.pow_pos (by decide))
        omega
      rw [← Nat.pow_add] at h8
      have h11 : 10 ^ ((dz 10 a).length + (dz 10 b).length) ≤ 10 ^ (i + k) := Nat.pow_le_pow_right (by decide) (by omega)
      have h12 : ((10 ^ (i + k) : Nat) : Int) = (10 : Int) ^ (i + k) := by rw [Int.natCast_pow]; rfl
      omega
theorem timesN_step (a b i k : Nat) (c n : Int) (zs : List Int) (h : TimesN a b i k c zs) (hb : i + k < zs.length) (hn : n = zs[i + k]?.getD 0 + c + ((a / 10 ^ i % 10 : Nat) : Int) * (dz 10 b)[k]?.getD 0) :
    TimesN a b i (k + 1) (n / 10) (zs.set (i + k) (n % 10)) ∧ 0 ≤ n ∧ n ≤ 99 := by
  obtain ⟨h1, h2, h3, h4⟩ := h
  have hz := getD_mem (p := fun d => 0 ≤ d ∧ d < 10) zs (by decide) h1 (i + k)
  have hy := dig10_at b k
  have hx : 0 ≤ ((a / 10 ^ i % 10 : Nat) : Int) ∧ ((a / 10 ^ i % 10 : Nat) : Int) ≤ 9 := by omega
  have hp0 := Int.mul_nonneg hx.1 hy.1
  have hp1 : ((a / 10 ^ i % 10 : Nat) : Int) * (dz 10 b)[k]?.getD 0 ≤ 9 * 9 := Int.mul_le_mul hx.2 (by omega) hy.1 (by decide)
  have hn0 : 0 ≤ n ∧ n ≤ 99 := by omega
  refine ⟨⟨set_digit zs _ _ h1 (by omega), by rw [List.length_set]; exact h2, by omega, ?_⟩, hn0⟩
  rw [vz_set 10 zs (i + k) _ hb, ← h4, drop_vz _ k, ← Nat.add_assoc, Int.pow_succ]
  generalize (10 : Int) ^ (i + k) = p at *
  generalize vz 10 ((dz 10 b).drop (k + 1)) = t at *
  generalize ((a / 10 ^ i % 10 : Nat) : Int) = x at *
  generalize (dz 10 b)[k]?.getD 0 = y at *
  generalize zs[i + k]?.getD 0 = z at *
  rw [Int.mul_comm (n % 10 - z) p, Int.mul_assoc p 10, Int.add_assoc, ← Int.mul_add]
  congr 2
  have e1 : x * (y + 10 * t) = x * y + 10 * (x * t) := by rw [Int.mul_add, ← Int.mul_assoc, ← Int.mul_assoc, Int.mul_comm x 10]
  rw [e1]
  generalize x * t = u at *
  omega
end Go.Proofs.YtcjcafekacceiaaGreatDoor

/-! Division, the root and the texts of the reference, digit by digit: of no program. -/
namespace Go.Proofs.YtcjcafekacceiaaGreatDoor

/-- divided: the places below i are still 0, the ones from i on are the quotient's. -/
def QuoN (n d i : Nat) (qs : List Int) : Prop :=
  ∃ l, qs = List.replicate i 0 ++ l ∧ (∀ x ∈ l, 0 ≤ x ∧ x < 10) ∧ vz 10 l = ((n / 10 ^ i / d : Nat) : Int) ∧ i + l.length = (dz 10 n).length
theorem quoN_start (n d : Nat) : QuoN n d (dz 10 n).length (List.replicate (dz 10 n).length 0) := by
  refine ⟨[], by simp, by simp, ?_, by simp⟩
  rw [Nat.div_eq_of_lt (dz_lt 10 (by decide) n)]
  simp [vz]
theorem rem_start (n : Nat) : n / 10 ^ (dz 10 n).length = 0 := Nat.div_eq_of_lt (dz_lt 10 (by decide) n)
theorem rem_next (n d i : Nat) : 10 * (n / 10 ^ (i + 1) % d) + n / 10 ^ i % 10 = (n / 10 ^ i - 10 * (d * (n / 10 ^ (i + 1) / d))) := by
  have h := above_step 10 (by decide) n i
  have h2 := Nat.mod_add_div (n / 10 ^ (i + 1)) d
  omega
/-- While the i-th place is counted. -/
def CntN (n d i : Nat) (r q : Nat) (qs : List Int) : Prop :=
  ∃ l, qs = List.replicate i 0 ++ (q : Int) :: l ∧ (∀ x ∈ l, 0 ≤ x ∧ x < 10) ∧ vz 10 l = ((n / 10 ^ (i + 1) / d : Nat) : Int) ∧ i + 1 + l.length = (dz 10 n).length ∧
    r + q * d = 10 * (n / 10 ^ (i + 1) % d) + n / 10 ^ i % 10
theorem cntN_start (n d i : Nat) (qs : List Int) (h : QuoN n d (i + 1) qs) : CntN n d i (10 * (n / 10 ^ (i + 1) % d) + n / 10 ^ i % 10) 0 qs := by
  obtain ⟨l, h1, h2, h3, h4⟩ := h
  refine ⟨l, ?_, h2, h3, h4, by omega⟩
  rw [h1, List.replicate_succ', List.append_assoc]; rfl
theorem rep_set (i : Nat) (x v : Int) (l : List Int) : (List.replicate i 0 ++ x :: l).set i v = List.replicate i 0 ++ v :: l := by
  rw [List.set_append_right _ _ (by simp)]; simp
theorem rep_get (i : Nat) (x : Int) (l : List Int) : (List.replicate i 0 ++ x :: l)[i]?.getD 0 = x := by
  rw [List.getElem?_append_right (by simp)]; simp
theorem cntN_get (n d i r q : Nat) (qs : List Int) (h : CntN n d i r q qs) : qs[i]?.getD 0 = q ∧ i < qs.length := by
  obtain ⟨l, h1, _⟩ := h
  subst h1
  exact ⟨rep_get i q l, by simp⟩
theorem cntN_step (n d i r q : Nat) (qs : List Int) (h : CntN n d i r q qs) (hr : d ≤ r) : CntN n d i (r - d) (q + 1) (qs.set i ((q : Int) + 1)) := by
  obtain ⟨l, h1, h2, h3, h4, h5⟩ := h
  refine ⟨l, by rw [h1, rep_set]; rfl, h2, h3, h4, ?_⟩
  rw [Nat.add_mul]; omega
theorem cnt_lt (n d i : Nat) (hd : 0 < d) : 10 * (n / 10 ^ (i + 1) % d) + n / 10 ^ i % 10 < 10 * d := by
  have := Nat.mod_lt (n / 10 ^ (i + 1)) hd
  omega
theorem cntN_small (n d i r q : Nat) (qs : List Int) (hd : 0 < d) (h : CntN n d i r q qs) : q ≤ 9 := by
  obtain ⟨l, h1, h2, h3, h4, h5⟩ := h
  have := cnt_lt n d i hd
  by_cases hq : q ≤ 9
  · exact hq
  · have : 10 * d ≤ q * d := Nat.mul_le_mul_right _ (by omega)
    omega
theorem cntN_end (n d i r q : Nat) (qs : List Int) (hd : 0 < d) (h : CntN n d i r q qs) (hr : r < d) : QuoN n d i qs ∧ r = n / 10 ^ i % d := by
  have hq := cntN_small n d i r q qs hd h
  obtain ⟨l, h1, h2, h3, h4, h5⟩ := h
  have hs := above_step 10 (by decide) n i
  have hm := Nat.mod_add_div (n / 10 ^ (i + 1)) d
  generalize n / 10 ^ (i + 1) = m at *
  have e : n / 10 ^ i = r + d * (10 * (m / d) + q) := by
    rw [Nat.mul_add, Nat.mul_comm d q]
    have : d * (10 * (m / d)) = 10 * (d * (m / d)) := by rw [← Nat.mul_assoc, Nat.mul_comm d 10, Nat.mul_assoc]
    omega
  have hdiv : n / 10 ^ i / d = 10 * (m / d) + q := by
    rw [e, Nat.add_mul_div_left _ _ hd, Nat.div_eq_of_lt hr, Nat.zero_add]
  refine ⟨⟨(q : Int) :: l, h1, ?_, ?_, by simp; omega⟩, ?_⟩
  · intro x hx
    rcases List.mem_cons.1 hx with rfl | hx
    · omega
    · exact h2 x hx
  · rw [vz, h3, hdiv]; omega
  · rw [e, Nat.add_mul_mod_self_left, Nat.mod_eq_of_lt hr]
theorem quoN_end (n d : Nat) (qs : List Int) (h : QuoN n d 0 qs) : (∀ x ∈ qs, 0 ≤ x ∧ x < 10) ∧ vz 10 qs = ((n / d : Nat) : Int) := by
  obtain ⟨l, h1, h2, h3, h4⟩ := h
  rw [List.replicate_zero, List.nil_append] at h1
  subst h1
  rw [Nat.pow_zero, Nat.div_one] at h3
  exact ⟨h2, h3⟩

/-- The root's places from i on are found; the ones below are 0. -/
def RootN (n i : Nat) (zs : List Int) : Prop :=
  ∃ l R : _, zs = List.replicate i 0 ++ l ∧ (∀ x ∈ l, 0 ≤ x ∧ x < 10) ∧ vz 10 l = ((R : Nat) : Int) ∧ (R * 10 ^ i) * (R * 10 ^ i) ≤ n ∧ n < ((R + 1) * 10 ^ i) * ((R + 1) * 10 ^ i)
/-- While a digit is tried at place i. -/
def TryN (n i d : Nat) (zs : List Int) : Prop :=
  ∃ l R : _, zs = List.replicate i 0 ++ ((d : Nat) : Int) :: l ∧ (∀ x ∈ l, 0 ≤ x ∧ x < 10) ∧ vz 10 l = ((R : Nat) : Int) ∧ (R * 10 * 10 ^ i) * (R * 10 * 10 ^ i) ≤ n ∧ n < ((R * 10 + d + 1) * 10 ^ i) * ((R * 10 + d + 1) * 10 ^ i) ∧ d ≤ 9
theorem rootN_start (n : Nat) : RootN n (((dz 10 n).length + 1) / 2) (List.replicate (((dz 10 n).length + 1) / 2) 0) := by
  refine ⟨[], 0, by simp, by simp, by simp [vz], by simp, ?_⟩
  rw [Nat.zero_add, Nat.one_mul, ← Nat.pow_add]
  have h := dz_lt 10 (by decide) n
  have h2 : 10 ^ (dz 10 n).length ≤ 10 ^ (((dz 10 n).length + 1) / 2 + ((dz 10 n).length + 1) / 2) := Nat.pow_le_pow_right (by decide) (by omega)
  omega
theorem tryN_start (n i : Nat) (zs : List Int) (h : RootN n (i + 1) zs) : TryN n i 9 (zs.set i 9) ∧ i < zs.length := by
  obtain ⟨l, R, h1, h2, h3, h4, h5⟩ := h
  rw [List.replicate_succ', List.append_assoc] at h1
  have e : ∀ x : Nat, x * 10 ^ (i + 1) = x * 10 * 10 ^ i := fun x => by rw [Nat.pow_succ, Nat.mul_assoc, Nat.mul_comm 10]
  refine ⟨⟨l, R, ?_, h2, h3, ?_, ?_, by decide⟩, by rw [h1]; simp⟩
  · rw [h1]; exact rep_set i 0 9 l
  · rw [← e]; exact h4
  · rw [e, Nat.add_mul] at h5; exact h5
theorem try_cast (R d i : Nat) : (((d : Nat) : Int) + 10 * ((R : Nat) : Int)) * 10 ^ i = (((R * 10 + d) * 10 ^ i : Nat) : Int) := by
  rw [Int.natCast_mul, Int.natCast_pow]
  congr 1
  omega
theorem tryN_val (n i d : Nat) (zs : List Int) (h : TryN n i d zs) : ∃ v : Nat, vz 10 zs = v ∧ (∀ x ∈ zs, 0 ≤ x ∧ x < 10) ∧ zs[i]?.getD 0 = d ∧ i < zs.length := by
  obtain ⟨l, R, h1, h2, h3, h4, h5, h6⟩ := h
  subst h1
  refine ⟨(R * 10 + d) * 10 ^ i, ?_, ?_, rep_get i d l, by simp⟩
  · rw [vz_rep, vz, h3, Int.mul_comm]
    exact try_cast R _ i
  · intro x hx
    rw [List.mem_append, List.mem_cons] at hx
    rcases hx with hx | rfl | hx
    · have := (List.mem_replicate.1 hx).2; omega
    · omega
    · exact h2 x hx
theorem tryN_step (n i d v : Nat) (zs : List Int) (h : TryN n i (d + 1) zs) (hv : vz 10 zs = v) (hgt : n < v * v) : TryN n i d (zs.set i ((d : Nat) : Int)) := by
  obtain ⟨l, R, h1, h2, h3, h4, h5, h6⟩ := h
  have hval : (v : Int) = (((R * 10 + (d + 1)) * 10 ^ i : Nat) : Int) := by
    rw [← hv, h1, vz_rep, vz, h3, Int.mul_comm]
    exact try_cast R _ i
  have hv2 : v = (R * 10 + (d + 1)) * 10 ^ i := by omega
  refine ⟨l, R, by rw [h1, rep_set], h2, h3, h4, ?_, by omega⟩
  rw [← Nat.add_assoc] at hv2
  rw [← hv2]; exact hgt
theorem tryN_end (n i d v : Nat) (zs : List Int) (h : TryN n i d zs) (hv : vz 10 zs = v) (hle : d = 0 ∨ v * v ≤ n) : RootN n i zs := by
  obtain ⟨l, R, h1, h2, h3, h4, h5, h6⟩ := h
  have hval : (v : Int) = (((R * 10 + d) * 10 ^ i : Nat) : Int) := by
    rw [← hv, h1, vz_rep, vz, h3, Int.mul_comm]
    exact try_cast R _ i
  have hv2 : v = (R * 10 + d) * 10 ^ i := by omega
  refine ⟨(d : Int) :: l, R * 10 + d, h1, ?_, ?_, ?_, h5⟩
  · intro x hx
    rcases List.mem_cons.1 hx with rfl | hx
    · omega
    · exact h2 x hx
  · rw [vz, h3]; omega
  · rcases hle with rfl | hle
    · exact h4
    · rw [← hv2]; exact hle
theorem rootN_end (n : Nat) (zs : List Int) (h : RootN n 0 zs) : ∃ s : Nat, (∀ x ∈ zs, 0 ≤ x ∧ x < 10) ∧ vz 10 zs = s ∧ s * s ≤ n ∧ n < (s + 1) * (s + 1) := by
  obtain ⟨l, R, h1, h2, h3, h4, h5⟩ := h
  rw [List.replicate_zero, List.nil_append] at h1
  subst h1
  rw [Nat.pow_zero, Nat.mul_one] at h4
  rw [Nat.pow_zero, Nat.mul_one] at h5
  exact ⟨R, h2, h3, h4, h5⟩

/-- FromInt, a round: the digits so far, and what is left. -/
theorem from_round (m : Int) (hm : m ≠ 0) (gs : List Int) (N : Nat) (h : gs ++ dz 10 m.natAbs = dz 10 N) : (gs ++ [((m.tmod 10).natAbs : Int)]) ++ dz 10 (m.tdiv 10).natAbs = dz 10 N := by
  have hne : m.natAbs ≠ 0 := by omega
  rw [← h, dz_pos 10 (by decide) _ hne, List.append_assoc]
  have e1 : (m.tmod 10).natAbs = m.natAbs % 10 := by rw [Int.natAbs_tmod]; rfl
  have e2 : (m.tdiv 10).natAbs = m.natAbs / 10 := by rw [Int.natAbs_tdiv]; rfl
  rw [e1, e2]
  rfl
end Go.Proofs.YtcjcafekacceiaaGreatDoor
