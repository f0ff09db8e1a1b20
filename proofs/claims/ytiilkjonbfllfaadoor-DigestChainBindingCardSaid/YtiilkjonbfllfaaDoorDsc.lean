/- The halves beside an entry or a beginning, as the program collects them, and what proofs and values are by them. -/
import Derived.Test.YtiilkjonbfllfaaDoorTreeB
namespace Go.Proofs.YtiilkjonbfllfaaDoor
def dsc (stop : Nat → Nat → Bool) : Nat → Nat → Nat → Nat → (Nat × Nat) × List (Nat × Nat)
  | 0, a, b, _ => ((a, b), [])
  | f + 1, a, b, i => if stop a b then ((a, b), [])
    else if i < a + half (b - a) then ((dsc stop f a (a + half (b - a)) i).1, (a + half (b - a), b) :: (dsc stop f a (a + half (b - a)) i).2)
    else ((dsc stop f (a + half (b - a)) b i).1, (a, a + half (b - a)) :: (dsc stop f (a + half (b - a)) b i).2)
/-- Every list of one entry is the end. -/
def Ends (stop : Nat → Nat → Bool) (i : Nat) : Prop := ∀ a b, a ≤ i → i < b → b - a ≤ 1 → stop a b = true
theorem dsc_fuel (stop : Nat → Nat → Bool) (i : Nat) (hs : Ends stop i) : ∀ (f g a b : Nat), a ≤ i → i < b → b - a ≤ f → b - a ≤ g → dsc stop f a b i = dsc stop g a b i
  | 0, g, a, b, h1, h2, h, _ => by omega
  | f + 1, 0, a, b, h1, h2, _, h => by omega
  | f + 1, g + 1, a, b, h1, h2, hf, hg => by
    rw [dsc, dsc]
    cases hst : stop a b with
    | true => rfl
    | false =>
      have h2' : 2 ≤ b - a := by
        rcases Nat.lt_or_ge (b - a) 2 with h | h
        · rw [hs a b h1 h2 (by omega)] at hst; cases hst
        · exact h
      have hlt := half_lt h2'
      have hp := half_pos (b - a)
      rw [if_neg Bool.false_ne_true, if_neg Bool.false_ne_true]
      by_cases hk : i < a + half (b - a)
      · rw [if_pos hk, if_pos hk, dsc_fuel stop i hs f g a _ h1 hk (by omega) (by omega)]
      · rw [if_neg hk, if_neg hk, dsc_fuel stop i hs f g _ b (by omega) h2 (by omega) (by omega)]
def dscR (stop : Nat → Nat → Bool) (a b i : Nat) : (Nat × Nat) × List (Nat × Nat) := dsc stop (b - a) a b i
theorem dscR_stop (stop : Nat → Nat → Bool) (a b i : Nat) (h : stop a b = true) : dscR stop a b i = ((a, b), []) := by
  unfold dscR
  cases b - a with
  | zero => rfl
  | succ f => rw [dsc, if_pos h]
theorem dscR_two {stop : Nat → Nat → Bool} {i : Nat} (hs : Ends stop i) {a b : Nat} (h1 : a ≤ i) (h2 : i < b) (h : stop a b = false) : 2 ≤ b - a := by
  rcases Nat.lt_or_ge (b - a) 2 with h' | h'
  · rw [hs a b h1 h2 (by omega)] at h; cases h
  · exact h'
theorem dscR_left {stop : Nat → Nat → Bool} {i : Nat} (hs : Ends stop i) {a b : Nat} (h1 : a ≤ i) (h2 : i < b) (h : stop a b = false) (hk : i < a + half (b - a)) :
    dscR stop a b i = ((dscR stop a (a + half (b - a)) i).1, (a + half (b - a), b) :: (dscR stop a (a + half (b - a)) i).2) := by
  have ht := dscR_two hs h1 h2 h
  have hlt := half_lt ht
  obtain ⟨f, hf⟩ : ∃ f, b - a = f + 1 := ⟨b - a - 1, by omega⟩
  have e := dsc_fuel stop i hs f (a + half (b - a) - a) a (a + half (b - a)) h1 hk (by omega) (Nat.le_refl _)
  unfold dscR
  rw [show dsc stop (b - a) a b i = dsc stop (f + 1) a b i by rw [hf], dsc, if_neg (by rw [h]; exact Bool.false_ne_true), if_pos hk, e]
theorem dscR_right {stop : Nat → Nat → Bool} {i : Nat} (hs : Ends stop i) {a b : Nat} (h1 : a ≤ i) (h2 : i < b) (h : stop a b = false) (hk : ¬ i < a + half (b - a)) :
    dscR stop a b i = ((dscR stop (a + half (b - a)) b i).1, (a, a + half (b - a)) :: (dscR stop (a + half (b - a)) b i).2) := by
  have ht := dscR_two hs h1 h2 h
  have hp := half_pos (b - a)
  obtain ⟨f, hf⟩ : ∃ f, b - a = f + 1 := ⟨b - a - 1, by omega⟩
  have e := dsc_fuel stop i hs f (b - (a + half (b - a))) (a + half (b - a)) b (by omega) h2 (by omega) (Nat.le_refl _)
  unfold dscR
  rw [show dsc stop (b - a) a b i = dsc stop (f + 1) a b i by rw [hf], dsc, if_neg (by rw [h]; exact Bool.false_ne_true), if_neg hk, e]

/-- The entries of a span. -/
def sub (l : List ByteArray) (a b : Nat) : List ByteArray := (l.drop a).take (b - a)
theorem sub_len (l : List ByteArray) (a b : Nat) (h : b ≤ l.length) : (sub l a b).length = b - a := by
  unfold sub; rw [List.length_take, List.length_drop]; omega
theorem sub_take (l : List ByteArray) (a b k : Nat) (h : k ≤ b - a) : (sub l a b).take k = sub l a (a + k) := by
  unfold sub; rw [List.take_take, show a + k - a = k by omega, Nat.min_eq_left h]
theorem sub_drop (l : List ByteArray) (a b k : Nat) (_h : a + k ≤ b) : (sub l a b).drop k = sub l (a + k) b := by
  unfold sub; rw [List.drop_take, List.drop_drop, show b - a - k = b - (a + k) by omega]
theorem sub_all (l : List ByteArray) : sub l 0 l.length = l := by unfold sub; simp
def rootSp (l : List ByteArray) (s : Nat × Nat) : ByteArray := root (sub l s.1 s.2)

/-- The end of an entry's descent. -/
def stopE (a b : Nat) : Bool := b - a == 1
theorem ends_E (i : Nat) : Ends stopE i := fun a b _ _ _ => by unfold stopE; rw [beq_iff_eq]; omega
theorem stopE_two {a b i : Nat} (h1 : a ≤ i) (h2 : i < b) (h : stopE a b = false) : 2 ≤ b - a := dscR_two (ends_E i) h1 h2 h
def bsE (n i : Nat) : List (Nat × Nat) := (dscR stopE 0 n i).2
theorem proof_dsc (l : List ByteArray) (i : Nat) : ∀ (n a b : Nat), b - a = n → a ≤ i → i < b → b ≤ l.length → proofR (sub l a b) (i - a) = (dscR stopE a b i).2.map (rootSp l) := by
  intro n
  induction n using Nat.strongRecOn with
  | _ n ih =>
    intro a b hn h1 h2 hb
    cases hst : stopE a b with
    | true =>
      unfold stopE at hst
      rw [beq_iff_eq] at hst
      rw [dscR_stop _ _ _ _ (by unfold stopE; rw [beq_iff_eq]; exact hst), proofR_one _ _ (by rw [sub_len _ _ _ hb]; omega)]; rfl
    | false =>
      have ht := stopE_two h1 h2 hst
      have hlt := half_lt ht
      have hp := half_pos (b - a)
      have hl := sub_len l a b hb
      by_cases hk : i < a + half (b - a)
      · rw [dscR_left (ends_E i) h1 h2 hst hk, proofR_left _ _ (by omega) (by rw [hl]; omega), hl, sub_take _ _ _ _ (by omega), sub_drop _ _ _ _ (by omega)]
        rw [ih _ (by omega) a (a + half (b - a)) rfl h1 hk (by omega)]; rfl
      · rw [dscR_right (ends_E i) h1 h2 hst hk, proofR_right _ _ (by omega) (by rw [hl]; omega), hl, sub_take _ _ _ _ (by omega), sub_drop _ _ _ _ (by omega)]
        rw [show i - a - half (b - a) = i - (a + half (b - a)) by omega, ih _ (by omega) (a + half (b - a)) b rfl (by omega) h2 hb]; rfl
theorem prfS_dsc (l : List ByteArray) (i : Nat) (h : i < l.length) : prfS l i = ((bsE l.length i).reverse.map (rootSp l)) := by
  have := proof_dsc l i _ 0 l.length rfl (Nat.zero_le _) h (Nat.le_refl _)
  rw [sub_all, Nat.sub_zero] at this
  rw [prfS, this, bsE, List.map_reverse]

/-- The value of a proof by the spans beside, both from the root on. -/
def valS (i : Nat) (s : ByteArray) : List (Nat × Nat) → List ByteArray → ByteArray
  | p :: bs, x :: q => if p.1 < i then node x (valS i s bs q) else node (valS i s bs q) x
  | _, _ => leaf s
theorem val_dsc (i : Nat) (s : ByteArray) : ∀ (n a b : Nat) (q : List ByteArray), b - a = n → a ≤ i → i < b →
    (valR (b - a) (i - a) s q).2 = decide (q.length = (dscR stopE a b i).2.length) ∧ (q.length = (dscR stopE a b i).2.length → (valR (b - a) (i - a) s q).1 = valS i s (dscR stopE a b i).2 q) := by
  intro n
  induction n using Nat.strongRecOn with
  | _ n ih =>
    intro a b q hn h1 h2
    cases hst : stopE a b with
    | true =>
      have hd := dscR_stop _ a b i hst
      unfold stopE at hst
      rw [beq_iff_eq] at hst
      rw [hd, hst]
      cases q with
      | nil => rw [valR, if_pos rfl]; exact ⟨rfl, fun _ => rfl⟩
      | cons x q => rw [valR, if_pos rfl]; exact ⟨by simp, fun h => by simp at h⟩
    | false =>
      have ht := stopE_two h1 h2 hst
      have hlt := half_lt ht
      have hp := half_pos (b - a)
      by_cases hk : i < a + half (b - a)
      · rw [dscR_left (ends_E i) h1 h2 hst hk]
        cases q with
        | nil => rw [valR, if_neg (by omega)]; exact ⟨by simp, fun h => by simp at h⟩
        | cons x q =>
          obtain ⟨i1, i2⟩ := ih _ (by omega) a (a + half (b - a)) q rfl h1 hk
          rw [show a + half (b - a) - a = half (b - a) by omega] at i1 i2
          rw [valR, if_neg (by omega), if_pos (by omega), valS, if_neg (by omega)]
          refine ⟨by rw [i1]; simp, fun h => ?_⟩
          rw [i2 (by simpa using h)]
      · rw [dscR_right (ends_E i) h1 h2 hst hk]
        cases q with
        | nil => rw [valR, if_neg (by omega)]; exact ⟨by simp, fun h => by simp at h⟩
        | cons x q =>
          obtain ⟨i1, i2⟩ := ih _ (by omega) (a + half (b - a)) b q rfl (by omega) h2
          rw [show b - (a + half (b - a)) = b - a - half (b - a) by omega, show i - (a + half (b - a)) = i - a - half (b - a) by omega] at i1 i2
          rw [valR, if_neg (by omega), if_neg (by omega), valS, if_pos (by omega)]
          refine ⟨by rw [i1]; simp, fun h => ?_⟩
          rw [i2 (by simpa using h)]

/-- The end of a beginning's descent. -/
def stopB (m : Nat) (_a b : Nat) : Bool := b == m
theorem ends_B (m : Nat) (hm : 1 ≤ m) : Ends (stopB m) (m - 1) := fun a b _ _ _ => by unfold stopB; rw [beq_iff_eq]; omega
theorem last_B (m : Nat) (hm : 1 ≤ m) : ∀ (n a b : Nat), b - a = n → a < m → m ≤ b → a ≤ (dscR (stopB m) a b (m - 1)).1.1 ∧ (dscR (stopB m) a b (m - 1)).1.1 < m ∧ (dscR (stopB m) a b (m - 1)).1.2 = m := by
  intro n
  induction n using Nat.strongRecOn with
  | _ n ih =>
    intro a b hn h1 h2
    cases hst : stopB m a b with
    | true =>
      rw [dscR_stop _ _ _ _ hst]
      unfold stopB at hst; rw [beq_iff_eq] at hst
      exact ⟨Nat.le_refl _, h1, hst⟩
    | false =>
      have ht := dscR_two (ends_B m hm) (show a ≤ m - 1 by omega) (show m - 1 < b by omega) hst
      have hlt := half_lt ht
      have hp := half_pos (b - a)
      by_cases hk : m - 1 < a + half (b - a)
      · rw [dscR_left (ends_B m hm) (by omega) (by omega) hst hk]
        exact ih _ (by omega) a _ rfl h1 (by omega)
      · rw [dscR_right (ends_B m hm) (by omega) (by omega) hst hk]
        obtain ⟨j1, j2, j3⟩ := ih _ (by omega) (a + half (b - a)) b rfl (by omega) h2
        exact ⟨show a ≤ _ from Nat.le_trans (Nat.le_add_right _ _) j1, j2, j3⟩
/-- The spans of an extension, from the root on. -/
def low (p : Nat × Nat) : List (Nat × Nat) := if 0 < p.1 then [p] else []
theorem part_dsc (l : List ByteArray) (m : Nat) (hm : 1 ≤ m) : ∀ (n a b : Nat), b - a = n → a < m → m ≤ b → b ≤ l.length →
    partR (sub l a b) (m - a) (a == 0) = ((dscR (stopB m) a b (m - 1)).2 ++ low (dscR (stopB m) a b (m - 1)).1).map (rootSp l) := by
  intro n
  induction n using Nat.strongRecOn with
  | _ n ih =>
    intro a b hn h1 h2 hb
    have hl := sub_len l a b hb
    cases hst : stopB m a b with
    | true =>
      rw [dscR_stop _ _ _ _ hst]
      unfold stopB at hst; rw [beq_iff_eq] at hst
      rw [partR_all (sub l a b) (m - a) (a == 0) (by omega) (by rw [hl, hst])]
      unfold low
      by_cases h0 : a = 0
      · subst h0; rfl
      · rw [show (a == 0) = false by simp [h0], if_neg Bool.false_ne_true, if_pos (show 0 < (a, b).1 from Nat.pos_of_ne_zero h0)]; rfl
    | false =>
      have ht := dscR_two (ends_B m hm) (show a ≤ m - 1 by omega) (show m - 1 < b by omega) hst
      have hlt := half_lt ht
      have hp := half_pos (b - a)
      have hne : m ≠ b := by
        intro h; unfold stopB at hst; rw [h, beq_self_eq_true] at hst; cases hst
      by_cases hk : m - 1 < a + half (b - a)
      · rw [dscR_left (ends_B m hm) (by omega) (by omega) hst hk, partR_left _ _ _ (by omega) (by rw [hl]; omega) (by rw [hl]; omega), hl, sub_take _ _ _ _ (by omega), sub_drop _ _ _ _ (by omega)]
        rw [ih _ (by omega) a (a + half (b - a)) rfl h1 (by omega) (by omega)]; rfl
      · rw [dscR_right (ends_B m hm) (by omega) (by omega) hst hk, partR_right _ _ _ (by rw [hl]; omega) (by rw [hl]; omega), hl, sub_take _ _ _ _ (by omega), sub_drop _ _ _ _ (by omega)]
        have := ih _ (by omega) (a + half (b - a)) b rfl (by omega) h2 hb
        rw [show (a + half (b - a) == 0) = false by rw [beq_eq_false_iff_ne]; omega, show m - (a + half (b - a)) = m - a - half (b - a) by omega] at this
        rw [this]; rfl
def dB (n m : Nat) : (Nat × Nat) × List (Nat × Nat) := dscR (stopB m) 0 n (m - 1)
theorem extS_dsc (l : List ByteArray) (m : Nat) (h0 : 1 ≤ m) (h : m ≤ l.length) : extS l m = ((low (dB l.length m).1 ++ (dB l.length m).2.reverse).map (rootSp l)) := by
  have := part_dsc l m h0 _ 0 l.length rfl h0 h (Nat.le_refl _)
  rw [sub_all, Nat.sub_zero, beq_self_eq_true] at this
  rw [extS, if_neg (by omega), this, ← List.map_reverse, List.reverse_append]
  have hr : (low (dB l.length m).1).reverse = low (dB l.length m).1 := by unfold low; split <;> rfl
  show List.map _ ((low (dB l.length m).1).reverse ++ (dB l.length m).2.reverse) = _
  rw [hr]

/-- The two values by the spans beside, both from the root on. -/
def bothS (lf : Nat) (lo : ByteArray) : List (Nat × Nat) → List ByteArray → ByteArray × ByteArray
  | p :: bs, x :: q => if p.1 < lf then (node x (bothS lf lo bs q).1, node x (bothS lf lo bs q).2) else ((bothS lf lo bs q).1, node (bothS lf lo bs q).2 x)
  | _, _ => (lo, lo)
/-- The proof without its lowest element, where that is the last list's root; and the lowest value. -/
def cutQ (lf : Nat) (q : List ByteArray) : List ByteArray := if 0 < lf then q.dropLast else q
def lowQ (lf : Nat) (old : ByteArray) (q : List ByteArray) : ByteArray := if 0 < lf then q.getLastD ⟨#[]⟩ else old
def lenQ (lf k : Nat) : Nat := if 0 < lf then k + 1 else k
theorem both_dsc (old : ByteArray) (m : Nat) (hm : 1 ≤ m) : ∀ (n a b : Nat) (q : List ByteArray), b - a = n → a < m → m ≤ b →
    (bothR old (m - a) (b - a) q (a == 0)).2.2 = decide (q.length = lenQ (dscR (stopB m) a b (m - 1)).1.1 (dscR (stopB m) a b (m - 1)).2.length) ∧
    (q.length = lenQ (dscR (stopB m) a b (m - 1)).1.1 (dscR (stopB m) a b (m - 1)).2.length →
      (bothR old (m - a) (b - a) q (a == 0)).1 = (bothS (dscR (stopB m) a b (m - 1)).1.1 (lowQ (dscR (stopB m) a b (m - 1)).1.1 old q) (dscR (stopB m) a b (m - 1)).2 (cutQ (dscR (stopB m) a b (m - 1)).1.1 q)).1 ∧
      (bothR old (m - a) (b - a) q (a == 0)).2.1 = (bothS (dscR (stopB m) a b (m - 1)).1.1 (lowQ (dscR (stopB m) a b (m - 1)).1.1 old q) (dscR (stopB m) a b (m - 1)).2 (cutQ (dscR (stopB m) a b (m - 1)).1.1 q)).2) := by
  intro n
  induction n using Nat.strongRecOn with
  | _ n ih =>
    intro a b q hn h1 h2
    cases hst : stopB m a b with
    | true =>
      rw [dscR_stop _ _ _ _ hst]
      unfold stopB at hst; rw [beq_iff_eq] at hst
      subst hst
      dsimp only
      by_cases h0 : a = 0
      · subst h0
        cases q with
        | nil => simp [bothR, lenQ, bothS, lowQ]
        | cons x q => simp [bothR, lenQ, bothS]
      · rw [show (a == 0) = false by simp [h0]]
        have hp : 0 < a := by omega
        match q with
        | [] => simp [bothR, lenQ, hp]
        | [x] => simp [bothR, lenQ, bothS, lowQ, hp]
        | x :: y :: q => simp [bothR, lenQ, hp]
    | false =>
      have ht := dscR_two (ends_B m hm) (show a ≤ m - 1 by omega) (show m - 1 < b by omega) hst
      have hlt := half_lt ht
      have hp := half_pos (b - a)
      have hne : m ≠ b := by
        intro h; unfold stopB at hst; rw [h, beq_self_eq_true] at hst; cases hst
      by_cases hk : m - 1 < a + half (b - a)
      · obtain ⟨e1, e2, e3⟩ := last_B m hm _ a (a + half (b - a)) rfl h1 (by omega)
        rw [dscR_left (ends_B m hm) (by omega) (by omega) hst hk]
        generalize hD : dscR (stopB m) a (a + half (b - a)) (m - 1) = D at e1 e2 e3
        obtain ⟨⟨lf, lt⟩, bs⟩ := D
        dsimp only at e1 e2 e3 ⊢
        cases q with
        | nil =>
          rw [bothR, if_neg (by omega)]
          unfold lenQ
          refine ⟨by by_cases h : 0 < lf <;> simp [h], fun h => ?_⟩
          by_cases h' : 0 < lf <;> simp [h'] at h
        | cons x q =>
          obtain ⟨i1, i2⟩ := ih _ (by omega) a (a + half (b - a)) q rfl h1 (by omega)
          rw [hD, show a + half (b - a) - a = half (b - a) by omega] at i1 i2
          dsimp only at i1 i2
          rw [bothR, if_neg (by omega), if_pos (by omega)]
          unfold lenQ cutQ lowQ at *
          by_cases h : 0 < lf
          · rw [if_pos h] at i1 i2 ⊢
            rw [if_pos h] at i2
            rw [if_pos h, if_pos h]
            refine ⟨by rw [i1]; simp, fun hl => ?_⟩
            have hl' : q.length = bs.length + 1 := by simpa using hl
            have hq : q ≠ [] := fun e => by rw [e] at hl'; simp at hl'
            obtain ⟨j1, j2⟩ := i2 hl'
            rw [if_pos h] at j1 j2
            rw [List.dropLast_cons_of_ne_nil hq, bothS, if_neg (by omega)]
            have hg : (x :: q).getLastD ⟨#[]⟩ = q.getLastD ⟨#[]⟩ := by
              cases q with
              | nil => exact absurd rfl hq
              | cons y q => rfl
            rw [hg, j1, j2]; exact ⟨rfl, rfl⟩
          · rw [if_neg h] at i1 i2 ⊢
            rw [if_neg h] at i2
            rw [if_neg h, if_neg h]
            refine ⟨by rw [i1]; simp, fun hl => ?_⟩
            obtain ⟨j1, j2⟩ := i2 (by simpa using hl)
            rw [if_neg h] at j1 j2
            rw [bothS, if_neg (by omega), j1, j2]; exact ⟨rfl, rfl⟩
      · obtain ⟨e1, e2, e3⟩ := last_B m hm _ (a + half (b - a)) b rfl (by omega) h2
        rw [dscR_right (ends_B m hm) (by omega) (by omega) hst hk]
        generalize hD : dscR (stopB m) (a + half (b - a)) b (m - 1) = D at e1 e2 e3
        obtain ⟨⟨lf, lt⟩, bs⟩ := D
        dsimp only at e1 e2 e3 ⊢
        have h : 0 < lf := by omega
        cases q with
        | nil =>
          rw [bothR, if_neg (by omega)]
          unfold lenQ
          exact ⟨by simp [h], fun hh => by simp [h] at hh⟩
        | cons x q =>
          obtain ⟨i1, i2⟩ := ih _ (by omega) (a + half (b - a)) b q rfl (by omega) h2
          rw [hD, show b - (a + half (b - a)) = b - a - half (b - a) by omega, show m - (a + half (b - a)) = m - a - half (b - a) by omega, show (a + half (b - a) == 0) = false by rw [beq_eq_false_iff_ne]; omega] at i1 i2
          dsimp only at i1 i2
          rw [bothR, if_neg (by omega), if_neg (by omega)]
          unfold lenQ cutQ lowQ at *
          rw [if_pos h] at i1 i2 ⊢
          rw [if_pos h] at i2
          rw [if_pos h, if_pos h]
          refine ⟨by rw [i1]; simp, fun hl => ?_⟩
          have hl' : q.length = bs.length + 1 := by simpa using hl
          have hq : q ≠ [] := fun e => by rw [e] at hl'; simp at hl'
          obtain ⟨j1, j2⟩ := i2 hl'
          rw [if_pos h] at j1 j2
          rw [List.dropLast_cons_of_ne_nil hq, bothS, if_pos (by omega)]
          have hg : (x :: q).getLastD ⟨#[]⟩ = q.getLastD ⟨#[]⟩ := by
            cases q with
            | nil => exact absurd rfl hq
            | cons y q => rfl
          rw [hg, j1, j2]; exact ⟨rfl, rfl⟩
end Go.Proofs.YtiilkjonbfllfaaDoor
