/- Integers as decimal texts: of no program. -/
import Derived.Test.YtebjjgbdiabapaaGreatDoorMth
import Derived.Lib.ItoaNum
namespace Go.Proofs.YtebjjgbdiabapaaGreatDoor

/-- The byte of a digit. -/
def chr (d : Int) : UInt8 := UInt8.ofNat (48 + d.toNat)
/-- The text of digits, which stand lowest first. -/
def txtD (l : List Int) : List UInt8 := (l.map chr).reverse
/-- A number's decimal text. -/
def txt (n : Nat) : List UInt8 := if n = 0 then [48] else txtD (dz 10 n)
def shw (z : Int) : List UInt8 := if z < 0 then 45 :: txt z.natAbs else txt z.natAbs
def str (z : Int) : ByteArray := ⟨(shw z).toArray⟩
def isD (c : UInt8) : Bool := decide (48 ≤ c.toNat) && decide (c.toNat ≤ 57)
/-- What stands behind the sign. -/
def body (s : List UInt8) : List UInt8 := if s.head? = some 45 then s.tail else s
/-- A valid integer: at most 200 digits. -/
def vld (s : List UInt8) : Bool := !(body s).isEmpty && decide ((body s).length ≤ 200) && (body s).all isD && ((body s).head? != some 48 || s == [48])
/-- The digits of a text, lowest first. -/
def digN (d : List UInt8) : List Int := d.reverse.map (fun c => (c.toNat : Int) - 48)
def num (s : List UInt8) : Int := if s.head? = some 45 then -vz 10 (digN (body s)) else vz 10 (digN s)
def Big (z : Int) : Prop := z.natAbs < 10 ^ 200

theorem chr_toNat (d : Int) (h0 : 0 ≤ d) (h1 : d < 10) : ((chr d).toNat : Int) = 48 + d := by
  unfold chr
  rw [UInt8.toNat_ofNat']
  omega
theorem chr_isD (d : Int) (h0 : 0 ≤ d) (h1 : d < 10) : isD (chr d) = true := by
  have := chr_toNat d h0 h1
  unfold isD
  simp; omega
theorem dig10 (n : Nat) : ∀ d ∈ dz 10 n, 0 ≤ d ∧ d < 10 := dz_digit 10 (by decide) n
theorem digN_txtD (l : List Int) (h : ∀ d ∈ l, 0 ≤ d ∧ d < 10) : digN (txtD l) = l := by
  unfold digN txtD
  rw [List.reverse_reverse, List.map_map]
  conv => rhs; rw [← List.map_id l]
  apply List.map_congr_left
  intro d hd
  have := chr_toNat d (h d hd).1 (h d hd).2
  simp; omega
theorem txtD_digN (d : List UInt8) (h : d.all isD = true) : txtD (digN d) = d := by
  unfold digN txtD
  rw [List.map_map, ← List.map_reverse, List.reverse_reverse]
  conv => rhs; rw [← List.map_id d]
  apply List.map_congr_left
  intro c hc
  have := List.all_eq_true.1 h c hc
  simp [isD] at this
  have h2 := UInt8.toNat_lt c
  apply UInt8.toNat.inj
  simp only [Function.comp, chr, id]
  rw [UInt8.toNat_ofNat']
  omega
theorem digN_digit (d : List UInt8) (h : d.all isD = true) : ∀ x ∈ digN d, 0 ≤ x ∧ x < 10 := by
  intro x hx
  unfold digN at hx
  rw [List.mem_map] at hx
  obtain ⟨c, hc, rfl⟩ := hx
  have := List.all_eq_true.1 h c (by simpa using hc)
  simp [isD] at this
  omega
theorem txtD_length (l : List Int) : (txtD l).length = l.length := by simp [txtD]
theorem digN_length (d : List UInt8) : (digN d).length = d.length := by simp [digN]
theorem txtD_all (l : List Int) (h : ∀ d ∈ l, 0 ≤ d ∧ d < 10) : (txtD l).all isD = true := by
  rw [List.all_eq_true]
  intro c hc
  unfold txtD at hc
  rw [List.mem_reverse, List.mem_map] at hc
  obtain ⟨d, hd, rfl⟩ := hc
  exact chr_isD d (h d hd).1 (h d hd).2
theorem digN_txt (n : Nat) : vz 10 (digN (txt n)) = n := by
  unfold txt
  split
  · next h => subst h; decide
  · rw [digN_txtD _ (dig10 n)]; exact vz_dz 10 (by decide) n
theorem txt_all (n : Nat) : (txt n).all isD = true := by
  unfold txt
  split
  · decide
  · exact txtD_all _ (dig10 n)
theorem txt_ne (n : Nat) : txt n ≠ [] := by
  unfold txt
  split
  · simp
  · next h =>
    have := (dz_length_pos 10 (by decide) n).2 h
    intro h2
    have h3 := congrArg List.length h2
    rw [txtD_length, List.length_nil] at h3; omega
theorem txt_head (n : Nat) (h : n ≠ 0) : (txt n).head? ≠ some 48 := by
  unfold txt
  rw [if_neg h]
  have hl := dz_last 10 (by decide) n h
  have hp := (dz_length_pos 10 (by decide) n).2 h
  have hm : (dz 10 n)[(dz 10 n).length - 1] ∈ dz 10 n := List.getElem_mem _
  have hd := dig10 n _ hm
  rw [List.getElem?_eq_getElem (by omega)] at hl
  unfold txtD
  rw [List.head?_reverse, List.getLast?_eq_getElem?, List.length_map, List.getElem?_map, List.getElem?_eq_getElem (by omega)]
  simp only [Option.map_some, Option.getD_some] at hl ⊢
  intro h2
  have h3 := chr_toNat _ hd.1 hd.2
  rw [Option.some.inj h2] at h3
  have : ((48 : UInt8).toNat : Int) = 48 := by decide
  omega
theorem txt_length (n k : Nat) (hk : 1 ≤ k) : (txt n).length ≤ k ↔ n < 10 ^ k := by
  unfold txt
  split
  · next h => subst h; simp; exact ⟨fun _ => Nat.pow_pos (by decide), fun _ => hk⟩
  · rw [txtD_length]; exact dz_length_iff 10 (by decide) k n
/-- Digits without a zero in front are the text of their value. -/
theorem txt_of (d : List UInt8) (hd : d.all isD = true) (hne : d ≠ []) (h : d.head? ≠ some 48 ∨ d = [48]) : txt (vz 10 (digN d)).toNat = d := by
  rcases h with h | rfl
  · have hl : digN d = dz 10 (vz 10 (digN d)).toNat := by
      apply canon_all 10 (by decide) _ (digN_digit d hd)
      right
      have hp : 0 < d.length := List.length_pos_iff.2 hne
      unfold digN
      rw [List.length_map, List.length_reverse, List.getElem?_map, List.getElem?_reverse (by omega), show d.length - 1 - (d.length - 1) = 0 by omega, List.getElem?_eq_getElem hp]
      simp only [Option.map_some, Option.getD_some]
      intro h2
      apply h
      rw [List.head?_eq_getElem?, List.getElem?_eq_getElem hp]
      congr 1
      apply UInt8.toNat.inj
      have : (48 : UInt8).toNat = 48 := by decide
      omega
    have hn : (vz 10 (digN d)).toNat ≠ 0 := by
      intro h0
      rw [h0, dz_zero] at hl
      have := congrArg List.length hl
      rw [digN_length] at this
      exact hne (List.length_eq_zero_iff.1 this)
    unfold txt
    rw [if_neg hn, ← hl]
    exact txtD_digN d hd
  · decide
theorem txt_not_minus (n : Nat) : (txt n).head? ≠ some 45 := by
  intro h
  have hall := txt_all n
  cases ht : txt n with
  | nil => rw [ht] at h; simp at h
  | cons c l =>
    rw [ht] at h hall
    simp at h
    subst h
    simp [isD] at hall
theorem body_shw (z : Int) : body (shw z) = txt z.natAbs := by
  unfold shw body
  split
  · simp
  · rw [if_neg (txt_not_minus _)]
theorem head_shw (z : Int) : ((shw z).head? = some 45) ↔ z < 0 := by
  unfold shw
  split
  · next h => simp [h]
  · next h => simp [h, txt_not_minus]
theorem num_shw (z : Int) : num (shw z) = z := by
  unfold num
  by_cases h : z < 0
  · rw [if_pos ((head_shw z).2 h), body_shw, digN_txt]; omega
  · rw [if_neg (by rw [head_shw]; exact h)]
    unfold shw
    rw [if_neg h, digN_txt]; omega
theorem vld_shw (z : Int) (hz : Big z) : vld (shw z) = true := by
  unfold vld
  rw [body_shw]
  have h1 := txt_ne z.natAbs
  have h2 := (txt_length z.natAbs 200 (by decide)).2 hz
  have h3 := txt_all z.natAbs
  have h4 : ((txt z.natAbs).head? != some 48 || shw z == [48]) = true := by
    by_cases h : z = 0
    · subst h; decide
    · have := txt_head z.natAbs (by omega)
      simp [this]
  simp [h1, h2, h3, h4]
theorem shw_num (s : List UInt8) (h : vld s = true) : s = shw (num s) ∧ Big (num s) := by
  unfold vld at h
  simp only [Bool.and_eq_true, decide_eq_true_eq, Bool.not_eq_true', List.isEmpty_eq_false_iff] at h
  obtain ⟨⟨⟨hne, hlen⟩, hall⟩, hz⟩ := h
  have hz' : (body s).head? ≠ some 48 ∨ s = [48] := by
    simpa [Bool.or_eq_true] using hz
  have h0 := vz_nonneg 10 (by decide) (digN (body s)) (fun d hd => (digN_digit _ hall d hd).1)
  by_cases hm : s.head? = some 45
  · have hs : s = 45 :: body s := by
      unfold body
      rw [if_pos hm]
      cases s with
      | nil => simp at hm
      | cons c l => simp at hm; subst hm; rfl
    have hz2 : (body s).head? ≠ some 48 := by
      rcases hz' with h | h
      · exact h
      · subst h; simp at hm
    have ht := txt_of (body s) hall hne (.inl hz2)
    have hn : num s = -vz 10 (digN (body s)) := by unfold num; rw [if_pos hm]
    have hpos : (vz 10 (digN (body s))).toNat ≠ 0 := by
      intro h
      rw [h] at ht
      rw [← ht] at hz2
      exact hz2 (by decide)
    have hab : (num s).natAbs = (vz 10 (digN (body s))).toNat := by rw [hn]; omega
    constructor
    · unfold shw
      rw [if_pos (by rw [hn]; omega), hab, ht]
      exact hs
    · unfold Big
      rw [hab, ← txt_length _ 200 (by decide), ht]
      exact hlen
  · have hs : body s = s := by unfold body; rw [if_neg hm]
    rw [hs] at hall hne hz' hlen h0
    have ht := txt_of s hall hne hz'
    have hn : num s = vz 10 (digN s) := by unfold num; rw [if_neg hm]
    have hab : (num s).natAbs = (vz 10 (digN s)).toNat := by rw [hn]; omega
    constructor
    · unfold shw
      rw [if_neg (by rw [hn]; omega), hab, ht]
    · unfold Big
      rw [hab, ← txt_length _ 200 (by decide), ht]
      exact hlen
theorem str_data (z : Int) : (str z).data.toList = shw z := by simp [str]
/-- Each string is a valid integer's text, or not valid. -/
theorem cases_int (s : ByteArray) : vld s.data.toList = false ∨ ∃ z : Int, Big z ∧ s = str z := by
  cases h : vld s.data.toList with
  | false => exact .inl rfl
  | true =>
    obtain ⟨h1, h2⟩ := shw_num _ h
    refine .inr ⟨num s.data.toList, h2, ?_⟩
    apply ByteArray.ext
    apply Array.ext'
    rw [str_data]; exact h1
theorem shw_inj (y z : Int) (h : shw y = shw z) : y = z := by
  have := num_shw y
  rw [h, num_shw] at this
  exact this.symm
theorem str_inj (y z : Int) (h : str y = str z) : y = z := by
  apply shw_inj
  rw [← str_data, ← str_data, h]
theorem shw_vld (z : Int) : vld (shw z) = true ↔ Big z := by
  constructor
  · intro h
    have := (shw_num _ h).2
    rwa [num_shw] at this
  · exact vld_shw z
theorem shw_length (z : Int) (hz : Big z) : (shw z).length ≤ 201 := by
  have := (txt_length z.natAbs 200 (by decide)).2 hz
  unfold shw
  split <;> simp <;> omega
theorem decDigits_txt : ∀ n : Nat, Go.Lib.decDigits n = txt n := by
  intro n
  induction n using Nat.strongRecOn with
  | _ n ih =>
    rw [Go.Lib.decDigits]
    split
    · next h =>
      unfold txt
      split
      · next h0 => subst h0; rfl
      · next h0 =>
        rw [dz_pos 10 (by decide) n h0, show n / 10 = 0 by omega, dz_zero, show n % 10 = n by omega]
        simp [txtD, chr]
    · next h =>
      rw [ih (n / 10) (by omega)]
      unfold txt
      rw [if_neg (by omega), if_neg (by omega), dz_pos 10 (by decide) n (by omega)]
      simp [txtD, chr]
      congr 1
theorem itoa_shw (z : Int) : Go.Lib.itoa z = shw z := by
  unfold Go.Lib.itoa shw
  split
  · rw [decDigits_txt]
  · rw [decDigits_txt]; congr 1; omega
end Go.Proofs.YtebjjgbdiabapaaGreatDoor
