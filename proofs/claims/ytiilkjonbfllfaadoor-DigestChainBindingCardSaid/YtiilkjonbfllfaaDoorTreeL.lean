/- What proofs and extensions show, on plain lists. -/
import Derived.Test.YtiilkjonbfllfaaDoorTreeM
namespace Go.Proofs.YtiilkjonbfllfaaDoor
theorem half_le_pow {n e : Nat} (h2 : 2 ≤ n) (h : n ≤ 2 ^ (e + 1)) : half n ≤ 2 ^ e := by
  have := half_lt h2
  unfold half at *
  have h3 : 2 ^ Nat.log2 (n - 1) < 2 ^ (e + 1) := by omega
  have := (Nat.pow_lt_pow_iff_right (by decide : 1 < 2)).1 h3
  exact Nat.pow_le_pow_right (by decide) (by omega)
theorem get_take {α : Type} (l : List α) {i k : Nat} (h : i < k) : (l.take k)[i]? = l[i]? := by rw [List.getElem?_take]; simp [h]
theorem val_proof : ∀ (n : Nat) (l : List ByteArray) (i : Nat) (s : ByteArray), l.length = n → l[i]? = some s → valR n i s (proofR l i) = (root l, true) := by
  intro n
  induction n using Nat.strongRecOn with
  | _ n ih =>
    intro l i s hl hs
    have hi : i < l.length := (List.getElem?_eq_some_iff.1 hs).1
    by_cases h1 : n = 1
    · subst h1
      rw [proofR_one _ _ (by omega), valR, if_pos rfl]
      match l, hl with
      | [t], _ =>
        have : i = 0 := by simpa using hi
        subst this
        simp at hs; subst hs; rfl
    · have hlt := half_lt (n := n) (by omega)
      have hp := half_pos n
      by_cases hk : i < half n
      · rw [proofR_left l i (by omega) (by rw [hl]; exact hk), valR, if_neg h1, if_pos hk, hl]
        rw [ih (half n) hlt (l.take (half n)) i s (by rw [List.length_take]; omega) (by rw [get_take _ hk]; exact hs)]
        rw [root_split l (by omega), hl]
      · rw [proofR_right l i (by omega) (by rw [hl]; exact hk), valR, if_neg h1, if_neg hk, hl]
        rw [ih (n - half n) (by omega) (l.drop (half n)) (i - half n) s (by rw [List.length_drop]; omega) (by rw [List.getElem?_drop, show half n + (i - half n) = i by omega]; exact hs)]
        rw [root_split l (by omega), hl]
theorem proofR_len : ∀ (e : Nat) (l : List ByteArray) (i : Nat), l.length ≤ 2 ^ e → (proofR l i).length ≤ e
  | 0, l, i, h => by rw [proofR_one _ _ (by simpa using h)]; simp
  | e + 1, l, i, h => by
    by_cases h1 : l.length ≤ 1
    · rw [proofR_one _ _ h1]; simp
    · have hh := half_le_pow (by omega) h
      have h2 := half_le (n := l.length) (by omega)
      by_cases hk : i < half l.length
      · rw [proofR_left _ _ (by omega) hk, List.length_cons]
        exact Nat.succ_le_succ (proofR_len e _ _ (by rw [List.length_take]; omega))
      · rw [proofR_right _ _ (by omega) hk, List.length_cons]
        exact Nat.succ_le_succ (proofR_len e _ _ (by rw [List.length_drop]; omega))
theorem proofR_32 : ∀ (n : Nat) (l : List ByteArray) (i : Nat), l.length = n → ∀ x ∈ proofR l i, x.size = 32 := by
  intro n
  induction n using Nat.strongRecOn with
  | _ n ih =>
    intro l i hl x hx
    by_cases h1 : l.length ≤ 1
    · rw [proofR_one _ _ h1] at hx; cases hx
    · have hlt := half_lt (n := l.length) (by omega)
      have hp := half_pos l.length
      by_cases hk : i < half l.length
      · rw [proofR_left _ _ (by omega) hk] at hx
        rcases List.mem_cons.1 hx with rfl | hx
        · exact root_size _
        · exact ih (half l.length) (by omega) _ i (by rw [List.length_take]; exact Nat.min_eq_left (by omega)) x hx
      · rw [proofR_right _ _ (by omega) hk] at hx
        rcases List.mem_cons.1 hx with rfl | hx
        · exact root_size _
        · exact ih _ (by omega) _ _ (List.length_drop ..) x hx
theorem val_len : ∀ (q p : List ByteArray) (n i : Nat) (s t : ByteArray), (valR n i s q).2 = true → (valR n i t p).2 = true → q.length = p.length
  | [], [], _, _, _, _, _, _ => rfl
  | [], y :: p, n, i, s, t, h1, h2 => by
    have : n = 1 := by
      rw [valR] at h1
      by_cases h : n = 1
      · exact h
      · rw [if_neg h] at h1; cases h1
    rw [valR, if_pos this] at h2; cases h2
  | x :: q, [], n, i, s, t, h1, h2 => by
    have : n = 1 := by
      rw [valR] at h2
      by_cases h : n = 1
      · exact h
      · rw [if_neg h] at h2; cases h2
    rw [valR, if_pos this] at h1; cases h1
  | x :: q, y :: p, n, i, s, t, h1, h2 => by
    rw [valR] at h1 h2
    by_cases h : n = 1
    · rw [if_pos h] at h1; cases h1
    · rw [if_neg h] at h1 h2
      by_cases hk : i < half n
      · rw [if_pos hk] at h1 h2
        rw [List.length_cons, List.length_cons, val_len q p _ _ s t h1 h2]
      · rw [if_neg hk] at h1 h2
        rw [List.length_cons, List.length_cons, val_len q p _ _ s t h1 h2]
theorem both_part (old : ByteArray) : ∀ (n : Nat) (l : List ByteArray) (m : Nat) (b : Bool), l.length = n → 1 ≤ m → m ≤ n → (b = true → old = root (l.take m)) → bothR old m n (partR l m b) b = (root (l.take m), root l, true) := by
  intro n
  induction n using Nat.strongRecOn with
  | _ n ih =>
    intro l m b hl h1 hmn ho
    by_cases hm : m = n
    · have hr : l.take m = l := List.take_of_length_le (by omega)
      rw [partR_all l m b h1 (by omega), hr]
      cases b with
      | true => rw [if_pos rfl, bothR, if_pos hm, if_pos rfl, ho rfl, hr]
      | false => rw [if_neg (by decide), bothR, if_pos hm, if_neg (by decide), if_pos rfl]
    · have hlt := half_lt (n := n) (by omega)
      have hp := half_pos n
      by_cases hk : m ≤ half n
      · rw [partR_left l m b h1 (by omega) (by rw [hl]; exact hk), bothR, if_neg hm, if_pos hk, hl]
        have e : (l.take (half n)).take m = l.take m := by rw [List.take_take, Nat.min_eq_left hk]
        rw [ih (half n) hlt (l.take (half n)) m b (by rw [List.length_take]; omega) h1 hk (fun hb => by rw [e]; exact ho hb), e]
        rw [root_split l (by omega), hl]
      · rw [partR_right l m b (by omega) (by rw [hl]; exact hk), bothR, if_neg hm, if_neg hk, hl]
        rw [ih (n - half n) (by omega) (l.drop (half n)) (m - half n) false (by rw [List.length_drop]; omega) (by omega) (by omega) (fun h => by cases h)]
        have hh : half m = half n := half_eq (by omega) (by have := half_le (n := n) (by omega); omega) ⟨_, rfl⟩
        have hlm : (l.take m).length = m := by rw [List.length_take]; omega
        rw [root_split l (by omega), hl, root_split (l.take m) (by omega), hlm, hh, List.take_take, Nat.min_eq_left (by omega), List.drop_take]
theorem partR_len : ∀ (e : Nat) (l : List ByteArray) (m : Nat) (b : Bool), l.length ≤ 2 ^ e → 1 ≤ m → m ≤ l.length → (partR l m b).length ≤ e + 1
  | 0, l, m, b, h, h1, h2 => by
    rw [partR_all l m b h1 (by simp at h; omega)]
    cases b <;> simp
  | e + 1, l, m, b, h, h1, h2 => by
    by_cases hm : m = l.length
    · rw [partR_all l m b h1 hm]
      cases b <;> simp
    · have hh := half_le_pow (by omega) h
      have hd := half_le (n := l.length) (by omega)
      by_cases hk : m ≤ half l.length
      · rw [partR_left l m b h1 (by omega) hk, List.length_cons]
        exact Nat.succ_le_succ (partR_len e _ _ _ (by rw [List.length_take]; omega) h1 (by rw [List.length_take]; omega))
      · rw [partR_right l m b (by omega) hk, List.length_cons]
        exact Nat.succ_le_succ (partR_len e _ _ _ (by rw [List.length_drop]; omega) (by omega) (by rw [List.length_drop]; omega))
theorem partR_32 : ∀ (n : Nat) (l : List ByteArray) (m : Nat) (b : Bool), l.length = n → 1 ≤ m → m ≤ n → ∀ x ∈ partR l m b, x.size = 32 := by
  intro n
  induction n using Nat.strongRecOn with
  | _ n ih =>
    intro l m b hl h1 h2 x hx
    by_cases hm : m = l.length
    · rw [partR_all l m b h1 hm] at hx
      cases b with
      | true => rw [if_pos rfl] at hx; cases hx
      | false =>
        rw [if_neg (by decide)] at hx
        obtain rfl := List.mem_singleton.1 hx
        exact root_size _
    · have hlt := half_lt (n := l.length) (by omega)
      have hp := half_pos l.length
      by_cases hk : m ≤ half l.length
      · rw [partR_left l m b h1 (by omega) hk] at hx
        rcases List.mem_cons.1 hx with rfl | hx
        · exact root_size _
        · exact ih _ (by omega) _ m b (by rw [List.length_take]; exact Nat.min_eq_left (by omega)) h1 hk x hx
      · rw [partR_right l m b (by omega) hk] at hx
        rcases List.mem_cons.1 hx with rfl | hx
        · exact root_size _
        · exact ih _ (by omega) _ _ false (List.length_drop ..) (by omega) (by omega) x hx

/-- An extension as the program returns it. -/
def extS (l : List ByteArray) (m : Nat) : List ByteArray := if m = 0 then [] else (partR l m true).reverse
def prfS (l : List ByteArray) (i : Nat) : List ByteArray := (proofR l i).reverse
theorem okD_of {l : List ByteArray} (h : ∀ x ∈ l, x.size = 32) : okD l = true := by
  unfold okD; rw [List.all_eq_true]; intro x hx; rw [h x hx]; rfl
theorem okD_at {l : List ByteArray} (h : okD l = true) : ∀ x ∈ l, x.size = 32 := by
  unfold okD at h; rw [List.all_eq_true] at h; intro x hx; have := h x hx; simpa using this
theorem ver_proof (l : List ByteArray) (i : Nat) (s : ByteArray) (hs : l[i]? = some s) : verS (root l) l.length i s (prfS l i) = true := by
  have hi : i < l.length := (List.getElem?_eq_some_iff.1 hs).1
  have h32 : okD (prfS l i) = true := okD_of fun x hx => proofR_32 _ l i rfl x (List.mem_reverse.1 hx)
  unfold verS
  rw [h32, prfS, List.reverse_reverse, Int.toNat_natCast, Int.toNat_natCast, val_proof _ l i s rfl hs]
  simp [hi]
theorem ver_len (r r' : ByteArray) (n i : Int) (s s' : ByteArray) (p p' : List ByteArray) (h : verS r n i s p = true) (h' : verS r' n i s' p' = true) : p.length = p'.length := by
  unfold verS at h h'
  simp only [Bool.and_eq_true] at h h'
  have := val_len _ _ _ _ _ _ h.1.2 h'.1.2
  simpa using this
theorem vex_ext (l : List ByteArray) (m : Nat) (hm : m ≤ l.length) : vexS (root (l.take m)) m (root l) l.length (extS l m) = true := by
  unfold vexS
  by_cases h0 : m = 0
  · subst h0
    simp [extS, okD, root_size, root_nil, dg_size]
  · have h32 : okD (extS l m) = true := okD_of fun x hx => by
      unfold extS at hx; rw [if_neg h0] at hx
      exact partR_32 _ l m true rfl (by omega) hm x (List.mem_reverse.1 hx)
    rw [h32, root_size, root_size]
    by_cases hn : m = l.length
    · rw [if_neg (by omega), if_pos (by omega), extS, if_neg h0, partR_all l m true (by omega) hn, List.take_of_length_le (by omega)]
      simp [hm]
    · have hb := both_part (root (l.take m)) _ l m true rfl (by omega) hm (fun _ => rfl)
      rw [if_neg (by omega), if_neg (by omega), extS, if_neg h0, List.reverse_reverse, Int.toNat_natCast, Int.toNat_natCast, hb]
      simp [hm]

/-- How many binary digits a number has. -/
def digits (n : Nat) : Nat := if n = 0 then 0 else Nat.log2 n + 1
theorem digits_step {n : Nat} (h : 0 < n) : digits n = digits (n / 2) + 1 := by
  unfold digits
  rw [if_neg (by omega)]
  by_cases h1 : n / 2 = 0
  · rw [if_pos h1]
    have : n = 1 := by omega
    subst this; decide
  · rw [if_neg h1, Nat.log2_def]
    rw [if_pos (by omega)]
theorem digits_pow (n : Nat) : n ≤ 2 ^ digits n := by
  unfold digits
  by_cases h : n = 0
  · subst h; simp
  · rw [if_neg h]; exact Nat.le_of_lt Nat.lt_log2_self
theorem prf_len (l : List ByteArray) (i : Nat) : (prfS l i).length ≤ digits l.length := by
  unfold prfS; rw [List.length_reverse]; exact proofR_len _ _ _ (digits_pow _)
theorem ext_len (l : List ByteArray) (m : Nat) (hm : m ≤ l.length) : (extS l m).length ≤ 2 * digits l.length := by
  unfold extS
  by_cases h0 : m = 0
  · rw [if_pos h0]; simp
  · rw [if_neg h0, List.length_reverse]
    have := partR_len _ l m true (digits_pow _) (by omega) hm
    have : 1 ≤ digits l.length := by unfold digits; rw [if_neg (by omega)]; omega
    omega
end Go.Proofs.YtiilkjonbfllfaaDoor
