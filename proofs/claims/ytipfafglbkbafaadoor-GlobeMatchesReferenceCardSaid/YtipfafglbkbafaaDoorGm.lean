/- Areas of the globe, as sets of columns and rows: what the layer reckons, without a program. -/
namespace Go.Proofs.YtipfafglbkbafaaDoor
set_option linter.unusedVariables false
set_option linter.unusedSimpArgs false

/-- The number whose lower n bits are as f says. -/
def bitsTo (f : Nat → Bool) : Nat → Nat
  | 0 => 0
  | n + 1 => (if f n then 2 ^ n else 0) + bitsTo f n
theorem bitsTo_lt (f : Nat → Bool) : ∀ n, bitsTo f n < 2 ^ n
  | 0 => by simp [bitsTo]
  | n + 1 => by
    have := bitsTo_lt f n
    unfold bitsTo
    rw [Nat.pow_succ]
    split <;> omega
theorem bitsTo_bit (f : Nat → Bool) : ∀ n x, (bitsTo f n).testBit x = (decide (x < n) && f x)
  | 0, x => by simp [bitsTo]
  | n + 1, x => by
    have hb := bitsTo_lt f n
    have ih := bitsTo_bit f n x
    unfold bitsTo
    rcases Nat.lt_trichotomy x n with h | rfl | h
    · have e : decide (x < n + 1) = decide (x < n) := by rw [decide_eq_decide]; omega
      rw [e]
      split
      · rw [Nat.testBit_two_pow_add_gt h]; exact ih
      · rw [Nat.zero_add]; exact ih
    · have hz : (bitsTo f x).testBit x = false := Nat.testBit_lt_two_pow hb
      split
      · rename_i hf
        rw [Nat.testBit_two_pow_add_eq, hz, hf]; simp
      · rename_i hf
        rw [Nat.zero_add, hz]; simp [hf]
    · have hlt : (if f n then 2 ^ n else 0) + bitsTo f n < 2 ^ x := by
        have h2 : 2 ^ (n + 1) ≤ 2 ^ x := Nat.pow_le_pow_right (by decide) h
        rw [Nat.pow_succ] at h2
        split <;> omega
      rw [Nat.testBit_lt_two_pow hlt]
      have e : decide (x < n + 1) = false := by rw [decide_eq_false_iff_not]; omega
      rw [e]; rfl
theorem ext_bits {n a b : Nat} (ha : a < 2 ^ n) (hb : b < 2 ^ n) (h : ∀ x, x < n → a.testBit x = b.testBit x) : a = b := by
  apply Nat.eq_of_testBit_eq
  intro x
  by_cases hx : x < n
  · exact h x hx
  · have h2 : 2 ^ n ≤ 2 ^ x := Nat.pow_le_pow_right (by decide) (by omega)
    rw [Nat.testBit_lt_two_pow (Nat.lt_of_lt_of_le ha h2), Nat.testBit_lt_two_pow (Nat.lt_of_lt_of_le hb h2)]
theorem bits_of {n a : Nat} (ha : a < 2 ^ n) : bitsTo (fun x => a.testBit x) n = a :=
  ext_bits (bitsTo_lt _ n) ha (fun x hx => by rw [bitsTo_bit]; simp [hx])
theorem bits_congr {n : Nat} {f g : Nat → Bool} (h : ∀ x, x < n → f x = g x) : bitsTo f n = bitsTo g n :=
  ext_bits (bitsTo_lt _ n) (bitsTo_lt _ n) (fun x hx => by rw [bitsTo_bit, bitsTo_bit, h x hx])
theorem bits_inj {n : Nat} {f g : Nat → Bool} (h : bitsTo f n = bitsTo g n) {x : Nat} (hx : x < n) : f x = g x := by
  have := congrArg (fun a => a.testBit x) h
  simp only [bitsTo_bit, hx, decide_true, Bool.true_and] at this
  exact this
theorem bits_or (f g : Nat → Bool) (n : Nat) : bitsTo f n ||| bitsTo g n = bitsTo (fun x => f x || g x) n := by
  refine ext_bits (Nat.or_lt_two_pow (bitsTo_lt _ n) (bitsTo_lt _ n)) (bitsTo_lt _ n) (fun x hx => ?_)
  rw [Nat.testBit_or, bitsTo_bit, bitsTo_bit, bitsTo_bit]; simp [hx]
theorem bits_and (f g : Nat → Bool) (n : Nat) : bitsTo f n &&& bitsTo g n = bitsTo (fun x => f x && g x) n := by
  refine ext_bits (Nat.and_lt_two_pow _ (bitsTo_lt _ n)) (bitsTo_lt _ n) (fun x hx => ?_)
  rw [Nat.testBit_and, bitsTo_bit, bitsTo_bit, bitsTo_bit]; simp [hx]
/-- One bit more. -/
theorem bits_put (f : Nat → Bool) {n k : Nat} (hk : k < n) : bitsTo f n ||| 2 ^ k = bitsTo (fun x => f x || x == k) n := by
  have h2 : 2 ^ k < 2 ^ n := Nat.pow_lt_pow_right (by decide) hk
  refine ext_bits (Nat.or_lt_two_pow (bitsTo_lt _ n) h2) (bitsTo_lt _ n) (fun x hx => ?_)
  rw [Nat.testBit_or, bitsTo_bit, bitsTo_bit, Nat.testBit_two_pow]
  simp only [hx, decide_true, Bool.true_and]
  congr 1
  by_cases e : x = k
  · subst e; simp
  · have : k ≠ x := fun h => e h.symm
    simp [e, this]

/-- A set of cells. -/
abbrev Ar := Nat → Nat → Bool
def rowOf (f : Ar) (y : Nat) : Nat := bitsTo (fun x => f x y) 48
def rowsOf (f : Ar) : List Nat := (List.range 24).map (rowOf f)
theorem rows_len (f : Ar) : (rowsOf f).length = 24 := by unfold rowsOf; simp
theorem rows_at (f : Ar) {y : Nat} (hy : y < 24) : (rowsOf f)[y]? = some (rowOf f y) := by
  unfold rowsOf; rw [List.getElem?_map, List.getElem?_range hy]; rfl
theorem row_lt (f : Ar) (y : Nat) : rowOf f y < 281474976710656 := bitsTo_lt _ 48
def Eqv (f g : Ar) : Prop := ∀ x y, x < 48 → y < 24 → f x y = g x y
theorem rows_eqv {f g : Ar} : rowsOf f = rowsOf g ↔ Eqv f g := by
  constructor
  · intro h x y hx hy
    have h1 := rows_at f hy
    have h2 := rows_at g hy
    rw [h, h2] at h1
    have h3 := Option.some.inj h1
    exact (bits_inj h3 hx).symm
  · intro h
    unfold rowsOf
    apply List.map_congr_left
    intro y hy
    exact bits_congr (fun x hx => h x y hx (List.mem_range.1 hy))
/-- Every valid area is that of a set. -/
theorem rows_of {l : List Nat} (hl : l.length = 24) (h : ∀ r ∈ l, r < 281474976710656) : ∃ f : Ar, rowsOf f = l := by
  refine ⟨fun x y => (l.getD y 0).testBit x, ?_⟩
  apply List.ext_getElem?
  intro y
  by_cases hy : y < 24
  · rw [rows_at _ hy]
    have h2 : l[y]? = some (l[y]'(by omega)) := List.getElem?_eq_getElem _
    have h3 : l.getD y 0 = l[y]'(by omega) := by rw [List.getD_eq_getElem?_getD, h2]; rfl
    have h4 := bits_of (n := 48) (h _ (List.getElem_mem (show y < l.length by omega)))
    rw [h2]
    refine congrArg some (Eq.trans ?_ h4)
    exact bits_congr (fun x _ => by show (l.getD y 0).testBit x = _; rw [h3])
  · rw [List.getElem?_eq_none (by rw [rows_len]; omega), List.getElem?_eq_none (by omega)]

/-- How many bits, how many cells. -/
def cntTo (f : Nat → Bool) : Nat → Nat
  | 0 => 0
  | n + 1 => (if f n then 1 else 0) + cntTo f n
theorem cnt_congr {f g : Nat → Bool} : ∀ {n}, (∀ x, x < n → f x = g x) → cntTo f n = cntTo g n
  | 0, _ => rfl
  | n + 1, h => by unfold cntTo; rw [h n (by omega), cnt_congr (fun x hx => h x (by omega))]
theorem cnt_le (f : Nat → Bool) : ∀ n, cntTo f n ≤ n
  | 0 => by simp [cntTo]
  | n + 1 => by have := cnt_le f n; unfold cntTo; split <;> omega
theorem cnt_or (f g : Nat → Bool) : ∀ n, cntTo (fun x => f x || g x) n + cntTo (fun x => f x && g x) n = cntTo f n + cntTo g n
  | 0 => rfl
  | n + 1 => by
    have := cnt_or f g n
    unfold cntTo
    cases f n <;> cases g n <;> simp <;> omega
theorem cnt_less (f g : Nat → Bool) : ∀ n, cntTo (fun x => f x && !g x) n + cntTo (fun x => f x && g x) n = cntTo f n
  | 0 => rfl
  | n + 1 => by
    have := cnt_less f g n
    unfold cntTo
    cases f n <;> cases g n <;> simp <;> omega
theorem cnt_zero {f : Nat → Bool} : ∀ {n}, cntTo f n = 0 ↔ ∀ x, x < n → f x = false
  | 0 => by simp [cntTo]
  | n + 1 => by
    unfold cntTo
    rw [Nat.add_eq_zero_iff, cnt_zero (n := n)]
    constructor
    · rintro ⟨h1, h2⟩ x hx
      by_cases e : x = n
      · subst e; cases hf : f x with | false => rfl | true => rw [hf] at h1; cases h1
      · exact h2 x (by omega)
    · intro h
      exact ⟨by rw [h n (by omega)]; rfl, fun x hx => h x (by omega)⟩
theorem cnt_split (f : Nat → Bool) (n : Nat) : ∀ m, cntTo f (n + m) = cntTo (fun x => f (n + x)) m + cntTo f n
  | 0 => by simp [cntTo]
  | m + 1 => by
    have e1 : cntTo (fun x => f (n + x)) (m + 1) = (if f (n + m) then 1 else 0) + cntTo (fun x => f (n + x)) m := rfl
    show (if f (n + m) then 1 else 0) + cntTo f (n + m) = _
    rw [cnt_split f n m, e1]
    omega
/-- Turned around, there are as many. -/
theorem cnt_turn (f : Nat → Bool) {n k : Nat} (hk : k ≤ n) : cntTo (fun x => f ((x + k) % n)) n = cntTo f n := by
  rcases Nat.eq_zero_or_pos n with rfl | hn
  · rfl
  obtain ⟨m, rfl⟩ : ∃ m, n = k + m := ⟨n - k, by omega⟩
  have h1 : cntTo (fun x => f ((x + k) % (k + m))) (m + k) = cntTo (fun x => f ((m + x + k) % (k + m))) k + cntTo (fun x => f ((x + k) % (k + m))) m := cnt_split _ m k
  rw [Nat.add_comm k m] at *
  rw [h1]
  have h2 : cntTo (fun x => f ((m + x + k) % (m + k))) k = cntTo f k := cnt_congr (fun x hx => by
    congr 1
    rw [show m + x + k = x + (m + k) by omega, Nat.add_mod_right, Nat.mod_eq_of_lt (by omega)])
  have h3 : cntTo (fun x => f ((x + k) % (m + k))) m = cntTo (fun x => f (k + x)) m := cnt_congr (fun x hx => by
    congr 1
    rw [Nat.mod_eq_of_lt (by omega)]; omega)
  rw [h2, h3, Nat.add_comm m k, cnt_split f k m]
  omega
def sumTo (g : Nat → Nat) : Nat → Nat
  | 0 => 0
  | n + 1 => g n + sumTo g n
theorem sum_congr {g h : Nat → Nat} : ∀ {n}, (∀ y, y < n → g y = h y) → sumTo g n = sumTo h n
  | 0, _ => rfl
  | n + 1, e => by unfold sumTo; rw [e n (by omega), sum_congr (fun y hy => e y (by omega))]
theorem sum_add (g h : Nat → Nat) : ∀ n, sumTo (fun y => g y + h y) n = sumTo g n + sumTo h n
  | 0 => rfl
  | n + 1 => by unfold sumTo; rw [sum_add g h n]; omega
theorem sum_zero {g : Nat → Nat} : ∀ {n}, sumTo g n = 0 ↔ ∀ y, y < n → g y = 0
  | 0 => by simp [sumTo]
  | n + 1 => by
    unfold sumTo
    rw [Nat.add_eq_zero_iff, sum_zero (n := n)]
    constructor
    · rintro ⟨h1, h2⟩ y hy
      by_cases e : y = n
      · subst e; exact h1
      · exact h2 y (by omega)
    · intro h; exact ⟨h n (by omega), fun y hy => h y (by omega)⟩
def count (f : Ar) : Nat := sumTo (fun y => cntTo (fun x => f x y) 48) 24
theorem count_eqv {f g : Ar} (h : Eqv f g) : count f = count g := sum_congr (fun y hy => cnt_congr (fun x hx => h x y hx hy))
theorem count_or (f g : Ar) : count (fun x y => f x y || g x y) + count (fun x y => f x y && g x y) = count f + count g := by
  unfold count
  rw [← sum_add, ← sum_add]
  exact sum_congr (fun y _ => cnt_or _ _ 48)
theorem count_less (f g : Ar) : count (fun x y => f x y && !g x y) + count (fun x y => f x y && g x y) = count f := by
  unfold count
  rw [← sum_add]
  exact sum_congr (fun y _ => cnt_less _ _ 48)
theorem count_zero {f : Ar} : count f = 0 ↔ Eqv f (fun _ _ => false) := by
  unfold count Eqv
  rw [sum_zero]
  constructor
  · intro h x y hx hy; exact cnt_zero.1 (h y hy) x hx
  · intro h y hy; exact cnt_zero.2 (fun x hx => h x y hx hy)
/-- Shifted by k columns to the east, k from 0 to 47. -/
def turn (f : Ar) (k : Nat) : Ar := fun x y => f ((x + (48 - k)) % 48) y
theorem count_turn (f : Ar) {k : Nat} : count (turn f k) = count f := sum_congr (fun y _ => cnt_turn (fun x => f x y) (by omega))
/-- The distance of two columns, and of two cells. -/
def dx (a b : Nat) : Nat := min ((a + (48 - b)) % 48) ((b + (48 - a)) % 48)
def dy (a b : Nat) : Nat := (a - b) + (b - a)
def near (a b c d : Nat) : Nat := max (dx a c) (dy b d)
theorem dx_self {a : Nat} (h : a < 48) : dx a a = 0 := by unfold dx; omega
theorem dx_comm (a b : Nat) : dx a b = dx b a := by unfold dx; exact Nat.min_comm _ _
theorem dx_zero {a b : Nat} (ha : a < 48) (hb : b < 48) : dx a b = 0 ↔ a = b := by unfold dx; omega
theorem dx_tri {a b c : Nat} (ha : a < 48) (hb : b < 48) (hc : c < 48) : dx a b ≤ dx a c + dx c b := by unfold dx; omega
theorem dx_le (a b : Nat) (ha : a < 48) (hb : b < 48) : dx a b ≤ 24 := by unfold dx; omega
theorem dx_turn {a b k : Nat} (ha : a < 48) (hb : b < 48) : dx ((a + k) % 48) ((b + k) % 48) = dx a b := by unfold dx; omega
/-- Between two columns there is one at every distance. -/
theorem dx_mid {a b i k : Nat} (ha : a < 48) (hb : b < 48) (h : dx a b ≤ i + k) : ∃ c, c < 48 ∧ dx a c ≤ i ∧ dx c b ≤ k := by
  by_cases hi : dx a b ≤ i
  · exact ⟨b, hb, hi, by rw [dx_self hb]; omega⟩
  · by_cases he : (b + (48 - a)) % 48 ≤ 24
    · refine ⟨(a + i) % 48, Nat.mod_lt _ (by decide), ?_, ?_⟩ <;> unfold dx at * <;> omega
    · refine ⟨(a + (48 - i)) % 48, Nat.mod_lt _ (by decide), ?_, ?_⟩ <;> unfold dx at * <;> omega
theorem dy_self (a : Nat) : dy a a = 0 := by unfold dy; omega
theorem dy_comm (a b : Nat) : dy a b = dy b a := by unfold dy; omega
theorem dy_tri (a b c : Nat) : dy a b ≤ dy a c + dy c b := by unfold dy; omega
theorem dy_mid {a b i k : Nat} (ha : a < 24) (hb : b < 24) (h : dy a b ≤ i + k) : ∃ c, c < 24 ∧ dy a c ≤ i ∧ dy c b ≤ k := by
  by_cases hi : dy a b ≤ i
  · exact ⟨b, hb, hi, by rw [dy_self]; omega⟩
  · by_cases he : a ≤ b
    · refine ⟨a + i, ?_, ?_, ?_⟩ <;> unfold dy at * <;> omega
    · refine ⟨a - i, ?_, ?_, ?_⟩ <;> unfold dy at * <;> omega
theorem near_tri {a b c d e f : Nat} (ha : a < 48) (hc : c < 48) (he : e < 48) : near a b c d ≤ near a b e f + near e f c d := by
  have h1 := dx_tri (a := a) (b := c) (c := e) ha hc he
  have h2 := dy_tri b d f
  unfold near
  omega
theorem near_comm (a b c d : Nat) : near a b c d = near c d a b := by unfold near; rw [dx_comm, dy_comm]
theorem near_zero {a b c d : Nat} (ha : a < 48) (hc : c < 48) : near a b c d = 0 ↔ a = c ∧ b = d := by
  have h1 := dx_zero ha hc
  have h2 : dy b d = 0 ↔ b = d := by unfold dy; omega
  unfold near
  omega
theorem near_mid {a b c d i k : Nat} (ha : a < 48) (hb : b < 24) (hc : c < 48) (hd : d < 24) (h : near a b c d ≤ i + k) : ∃ e f, e < 48 ∧ f < 24 ∧ near a b e f ≤ i ∧ near e f c d ≤ k := by
  unfold near at h
  obtain ⟨e, he, h1, h2⟩ := dx_mid (a := a) (b := c) (i := i) (k := k) ha hc (by omega)
  obtain ⟨f, hf, h3, h4⟩ := dy_mid (a := b) (b := d) (i := i) (k := k) hb hd (by omega)
  exact ⟨e, f, he, hf, by unfold near; omega, by unfold near; omega⟩
def anyTo (f : Nat → Bool) : Nat → Bool
  | 0 => false
  | n + 1 => f n || anyTo f n
theorem any_iff {f : Nat → Bool} : ∀ {n}, anyTo f n = true ↔ ∃ x, x < n ∧ f x = true
  | 0 => by simp [anyTo]
  | n + 1 => by
    unfold anyTo
    rw [Bool.or_eq_true, any_iff (n := n)]
    constructor
    · rintro (h | ⟨x, hx, h⟩)
      · exact ⟨n, by omega, h⟩
      · exact ⟨x, by omega, h⟩
    · rintro ⟨x, hx, h⟩
      by_cases e : x = n
      · subst e; exact .inl h
      · exact .inr ⟨x, by omega, h⟩
/-- All cells at a distance of at most n. -/
def grown (f : Ar) (n : Nat) : Ar := fun x y => anyTo (fun a => anyTo (fun b => f a b && decide (near a b x y ≤ n)) 24) 48
theorem grown_iff {f : Ar} {n x y : Nat} : grown f n x y = true ↔ ∃ a b, a < 48 ∧ b < 24 ∧ f a b = true ∧ near a b x y ≤ n := by
  unfold grown
  rw [any_iff]
  constructor
  · rintro ⟨a, ha, h⟩
    obtain ⟨b, hb, h2⟩ := any_iff.1 h
    simp only [Bool.and_eq_true, decide_eq_true_eq] at h2
    exact ⟨a, b, ha, hb, h2.1, h2.2⟩
  · rintro ⟨a, b, ha, hb, h1, h2⟩
    exact ⟨a, ha, any_iff.2 ⟨b, hb, by simp [h1, h2]⟩⟩
theorem eqv_iff {f g : Ar} (h : ∀ x y, x < 48 → y < 24 → (f x y = true ↔ g x y = true)) : Eqv f g := fun x y hx hy => Bool.eq_iff_iff.2 (h x y hx hy)
theorem grown_eqv {f g : Ar} (h : Eqv f g) (n : Nat) : Eqv (grown f n) (grown g n) := eqv_iff fun x y hx hy => by
  rw [grown_iff, grown_iff]
  constructor
  · rintro ⟨a, b, ha, hb, h1, h2⟩; exact ⟨a, b, ha, hb, by rw [← h a b ha hb]; exact h1, h2⟩
  · rintro ⟨a, b, ha, hb, h1, h2⟩; exact ⟨a, b, ha, hb, by rw [h a b ha hb]; exact h1, h2⟩
theorem grown_twice (f : Ar) (i k : Nat) : Eqv (grown (grown f i) k) (grown f (i + k)) := eqv_iff fun x y hx hy => by
  rw [grown_iff, grown_iff]
  constructor
  · rintro ⟨a, b, ha, hb, h1, h2⟩
    obtain ⟨c, d, hc, hd, h3, h4⟩ := grown_iff.1 h1
    exact ⟨c, d, hc, hd, h3, by have := near_tri (a := c) (b := d) (c := x) (d := y) (e := a) (f := b) hc hx ha; omega⟩
  · rintro ⟨a, b, ha, hb, h1, h2⟩
    obtain ⟨e, g, he, hg, h3, h4⟩ := near_mid ha hb hx hy h2
    exact ⟨e, g, he, hg, grown_iff.2 ⟨a, b, ha, hb, h1, h3⟩, h4⟩
theorem grown_or (f g : Ar) (n : Nat) : Eqv (grown (fun x y => f x y || g x y) n) (fun x y => grown f n x y || grown g n x y) := eqv_iff fun x y hx hy => by
  rw [grown_iff, Bool.or_eq_true, grown_iff, grown_iff]
  constructor
  · rintro ⟨a, b, ha, hb, h1, h2⟩
    rcases Bool.or_eq_true _ _ ▸ h1 with h | h
    · exact .inl ⟨a, b, ha, hb, h, h2⟩
    · exact .inr ⟨a, b, ha, hb, h, h2⟩
  · rintro (⟨a, b, ha, hb, h1, h2⟩ | ⟨a, b, ha, hb, h1, h2⟩)
    · exact ⟨a, b, ha, hb, by simp [h1], h2⟩
    · exact ⟨a, b, ha, hb, by simp [h1], h2⟩
theorem grown_has {f : Ar} {n x y : Nat} (hx : x < 48) (hy : y < 24) (h : f x y = true) : grown f n x y = true :=
  grown_iff.2 ⟨x, y, hx, hy, h, by rw [(near_zero hx hx).2 ⟨rfl, rfl⟩]; omega⟩
theorem grown_0 (f : Ar) : Eqv (grown f 0) f := eqv_iff fun x y hx hy => by
  rw [grown_iff]
  constructor
  · rintro ⟨a, b, ha, hb, h1, h2⟩
    obtain ⟨rfl, rfl⟩ := (near_zero (b := b) (d := y) ha hx).1 (by omega)
    exact h1
  · intro h; exact grown_iff.1 (grown_has hx hy h)
theorem turn_at {k x : Nat} (hk : k < 48) (hx : x < 48) : ((x + (48 - k)) % 48 + k) % 48 = x := by omega
theorem turn_ta {k x : Nat} (hk : k < 48) (hx : x < 48) : ((x + k) % 48 + (48 - k)) % 48 = x := by omega
theorem turn_eqv {f g : Ar} (h : Eqv f g) {k : Nat} : Eqv (turn f k) (turn g k) := fun x y hx hy => h _ _ (Nat.mod_lt _ (by decide)) hy
theorem grown_turn (f : Ar) {k : Nat} (hk : k < 48) (n : Nat) : Eqv (grown (turn f k) n) (turn (grown f n) k) := eqv_iff fun x y hx hy => by
  unfold turn
  rw [grown_iff, grown_iff]
  constructor
  · rintro ⟨a, b, ha, hb, h1, h2⟩
    exact ⟨(a + (48 - k)) % 48, b, Nat.mod_lt _ (by decide), hb, h1, by unfold near at *; rw [dx_turn ha hx]; exact h2⟩
  · rintro ⟨a, b, ha, hb, h1, h2⟩
    refine ⟨(a + k) % 48, b, Nat.mod_lt _ (by decide), hb, by rw [turn_ta hk ha]; exact h1, ?_⟩
    have e := dx_turn (a := a) (b := (x + (48 - k)) % 48) (k := k) ha (Nat.mod_lt _ (by decide))
    rw [turn_at hk hx] at e
    unfold near at *
    rw [e]; exact h2
theorem turn_turn (f : Ar) (i k : Nat) (hi : i < 48) (hk : k < 48) : Eqv (turn (turn f i) k) (turn f ((i + k) % 48)) := fun x y hx hy => by
  show f _ y = f _ y
  congr 1
  omega
theorem turn_0 (f : Ar) : Eqv (turn f 0) f := fun x y hx hy => by show f _ y = f x y; congr 1; omega
/-- wide columns, from cx eastward, and high rows, from cy northward. -/
def box (cx cy wide high : Nat) : Ar := fun x y => decide ((x + (48 - cx)) % 48 < wide) && (decide (cy ≤ y) && decide (y < cy + high))
theorem cnt_lt {w : Nat} : ∀ {n}, w ≤ n → cntTo (fun x => decide (x < w)) n = w
  | 0, h => by obtain rfl : w = 0 := by omega
               rfl
  | n + 1, h => by
    show (if decide (n < w) then 1 else 0) + cntTo (fun x => decide (x < w)) n = w
    by_cases e : w = n + 1
    · subst e
      have h2 : cntTo (fun x => decide (x < n + 1)) n = cntTo (fun x => decide (x < n)) n := cnt_congr (fun x hx => by rw [decide_eq_decide]; omega)
      rw [h2, cnt_lt (Nat.le_refl n)]
      simp; omega
    · rw [cnt_lt (show w ≤ n by omega)]
      have : ¬ n < w := by omega
      simp [this]
theorem cnt_false : ∀ n, cntTo (fun _ => false) n = 0
  | 0 => rfl
  | n + 1 => by show (if false then 1 else 0) + cntTo (fun _ => false) n = 0; rw [cnt_false n]; rfl
theorem sum_band (w cy high : Nat) : ∀ n, sumTo (fun y => if cy ≤ y ∧ y < cy + high then w else 0) n = w * (min n (cy + high) - min n cy)
  | 0 => by simp [sumTo]
  | n + 1 => by
    show (if cy ≤ n ∧ n < cy + high then w else 0) + sumTo (fun y => if cy ≤ y ∧ y < cy + high then w else 0) n = _
    rw [sum_band w cy high n]
    by_cases h : cy ≤ n ∧ n < cy + high
    · rw [if_pos h, show min (n + 1) (cy + high) - min (n + 1) cy = min n (cy + high) - min n cy + 1 by omega, Nat.mul_add]; omega
    · rw [if_neg h, show min (n + 1) (cy + high) - min (n + 1) cy = min n (cy + high) - min n cy by omega]; omega
theorem count_box {cx cy w h : Nat} (hx : cx < 48) (hw : w ≤ 48) (hh : cy + h ≤ 24) : count (box cx cy w h) = w * h := by
  have e : ∀ y, cntTo (fun x => box cx cy w h x y) 48 = if cy ≤ y ∧ y < cy + h then w else 0 := fun y => by
    by_cases c : cy ≤ y ∧ y < cy + h
    · rw [if_pos c]
      have h1 : cntTo (fun x => box cx cy w h x y) 48 = cntTo (fun x => decide ((x + (48 - cx)) % 48 < w)) 48 := cnt_congr (fun x _ => by unfold box; simp [c.1, c.2])
      rw [h1, cnt_turn (fun x => decide (x < w)) (n := 48) (k := 48 - cx) (by omega), cnt_lt hw]
    · rw [if_neg c]
      have h1 : cntTo (fun x => box cx cy w h x y) 48 = cntTo (fun _ => false) 48 := cnt_congr (fun x _ => by
        unfold box
        rw [Bool.and_eq_false_iff]; right
        rw [← Bool.decide_and, decide_eq_false_iff_not]; exact c)
      rw [h1, cnt_false]
  unfold count
  rw [sum_congr (fun y _ => e y), sum_band]
  congr 1
  omega
theorem box_beside {cx cy w v h : Nat} (hx : cx < 48) (hw : w + v ≤ 48) : Eqv (fun x y => box cx cy w h x y || box ((cx + w) % 48) cy v h x y) (box cx cy (w + v) h) := eqv_iff fun x y hx' hy => by
  unfold box
  simp only [Bool.or_eq_true, Bool.and_eq_true, decide_eq_true_eq]
  omega
theorem box_above {cx cy w h k : Nat} : Eqv (fun x y => box cx cy w h x y || box cx (cy + h) w k x y) (box cx cy w (h + k)) := eqv_iff fun x y hx' hy => by
  unfold box
  simp only [Bool.or_eq_true, Bool.and_eq_true, decide_eq_true_eq]
  omega
/-- The cells of a row, and of an area, in order. -/
def rowCells (f : Ar) (y n : Nat) : List (Nat × Nat) := ((List.range n).filter (fun x => f x y)).map (fun x => (x, y))
def cellsTo (f : Ar) : Nat → List (Nat × Nat)
  | 0 => []
  | n + 1 => cellsTo f n ++ rowCells f n 48
theorem rowCells_succ (f : Ar) (y n : Nat) : rowCells f y (n + 1) = rowCells f y n ++ if f n y then [(n, y)] else [] := by
  unfold rowCells
  rw [List.range_succ, List.filter_append, List.map_append]
  congr 1
  by_cases h : f n y <;> simp [h]
theorem rowCells_len (f : Ar) (y : Nat) : ∀ n, (rowCells f y n).length = cntTo (fun x => f x y) n
  | 0 => rfl
  | n + 1 => by
    rw [rowCells_succ, List.length_append, rowCells_len f y n]
    show _ = (if f n y then 1 else 0) + _
    split <;> simp <;> omega
theorem cells_len (f : Ar) : (cellsTo f 24).length = count f := by
  have : ∀ n, (cellsTo f n).length = sumTo (fun y => cntTo (fun x => f x y) 48) n := by
    intro n
    induction n with
    | zero => rfl
    | succ n ih =>
      show (cellsTo f n ++ rowCells f n 48).length = _
      rw [List.length_append, ih, rowCells_len]
      show _ = cntTo (fun x => f x n) 48 + _
      omega
  exact this 24
theorem cells_mem {f : Ar} {n : Nat} {c : Nat × Nat} : c ∈ cellsTo f n ↔ c.2 < n ∧ c.1 < 48 ∧ f c.1 c.2 = true := by
  induction n with
  | zero => simp [cellsTo]
  | succ n ih =>
    show c ∈ cellsTo f n ++ rowCells f n 48 ↔ _
    rw [List.mem_append, ih]
    unfold rowCells
    rw [List.mem_map]
    constructor
    · rintro (⟨h1, h2, h3⟩ | ⟨x, hx, rfl⟩)
      · exact ⟨by omega, h2, h3⟩
      · rw [List.mem_filter, List.mem_range] at hx
        exact ⟨by show n < n + 1; omega, hx.1, hx.2⟩
    · rintro ⟨h1, h2, h3⟩
      by_cases e : c.2 = n
      · refine .inr ⟨c.1, ?_, by rw [← e]⟩
        rw [List.mem_filter, List.mem_range]
        exact ⟨h2, by rw [← e]; exact h3⟩
      · exact .inl ⟨by omega, h2, h3⟩
/-- Before, in the order of cells. -/
def cellLt (c d : Nat × Nat) : Prop := c.2 < d.2 ∨ (c.2 = d.2 ∧ c.1 < d.1)
theorem cells_sorted (f : Ar) : ∀ n, (cellsTo f n).Pairwise cellLt
  | 0 => List.Pairwise.nil
  | n + 1 => by
    show (cellsTo f n ++ rowCells f n 48).Pairwise cellLt
    rw [List.pairwise_append]
    refine ⟨cells_sorted f n, ?_, ?_⟩
    · unfold rowCells
      rw [List.pairwise_map]
      refine (List.Pairwise.filter _ List.pairwise_lt_range).imp ?_
      intro a b h
      exact .inr ⟨rfl, h⟩
    · intro c hc d hd
      have h1 := (cells_mem.1 hc).1
      unfold rowCells at hd
      obtain ⟨x, _, rfl⟩ := List.mem_map.1 hd
      exact .inl h1
theorem cells_eqv {f g : Ar} (h : Eqv f g) : ∀ n, n ≤ 24 → cellsTo f n = cellsTo g n
  | 0, _ => rfl
  | n + 1, hn => by
    show cellsTo f n ++ rowCells f n 48 = cellsTo g n ++ rowCells g n 48
    rw [cells_eqv h n (by omega)]
    congr 1
    unfold rowCells
    congr 1
    exact List.filter_congr (fun x hx => h x n (List.mem_range.1 hx) (by omega))
theorem bits_shl (f : Nat → Bool) (n k : Nat) : ∀ x, (bitsTo f n <<< k).testBit x = (decide (k ≤ x) && decide (x - k < n) && f (x - k)) := fun x => by
  rw [Nat.testBit_shiftLeft, bitsTo_bit]
  simp [Bool.and_assoc]
theorem bits_shr (f : Nat → Bool) (n k : Nat) : ∀ x, (bitsTo f n >>> k).testBit x = (decide (k + x < n) && f (k + x)) := fun x => by
  rw [Nat.testBit_shiftRight, bitsTo_bit]
/-- A row, turned around by bits. -/
theorem bits_turn (f : Nat → Bool) {k : Nat} (hk : k < 48) : ((bitsTo f 48 <<< k) ||| (bitsTo f 48 >>> (48 - k))) % 281474976710656 = bitsTo (fun x => f ((x + (48 - k)) % 48)) 48 := by
  refine ext_bits (n := 48) (Nat.mod_lt _ (by decide)) (bitsTo_lt _ 48) (fun x hx => ?_)
  rw [show (281474976710656 : Nat) = 2 ^ 48 from rfl, Nat.testBit_mod_two_pow, Nat.testBit_or, bits_shl, bits_shr, bitsTo_bit]
  simp only [hx, decide_true, Bool.true_and]
  by_cases h : k ≤ x
  · have h1 : (x + (48 - k)) % 48 = x - k := by omega
    have h2 : decide (48 - k + x < 48) = false := by rw [decide_eq_false_iff_not]; omega
    have h3 : decide (x - k < 48) = true := by rw [decide_eq_true_eq]; omega
    rw [h1, h2, h3]; simp [h]
  · have h1 : (x + (48 - k)) % 48 = 48 - k + x := by omega
    have h2 : decide (48 - k + x < 48) = true := by rw [decide_eq_true_eq]; omega
    rw [h1, h2]; simp [h]
end Go.Proofs.YtipfafglbkbafaaDoor
