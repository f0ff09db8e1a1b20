/- Whoever proves two things has found two texts with one digest, on plain lists. -/
import Derived.Test.YtiilkjonbfllfaaDoorTreeL
namespace Go.Proofs.YtiilkjonbfllfaaDoor
def collB : List ByteArray → List ByteArray → Bool
  | x :: a, y :: b => (decide (x ≠ y) && decide (dg x = dg y)) || collB a b
  | _, _ => false
theorem coll_head {x y : ByteArray} {a b : List ByteArray} (h : x ≠ y) (hd : dg x = dg y) : collB (x :: a) (y :: b) = true := by
  rw [collB, Bool.or_eq_true]; exact .inl (by simp [h, hd])
theorem coll_tail {x y : ByteArray} {a b : List ByteArray} (h : collB a b = true) : collB (x :: a) (y :: b) = true := by
  rw [collB, Bool.or_eq_true]; exact .inr h
theorem ba_ext {a b : ByteArray} (h : a.data.toList = b.data.toList) : a = b := by
  cases a; cases b; simpa [Array.toList_inj] using h
theorem ba_append (a b : ByteArray) : (a ++ b).data.toList = a.data.toList ++ b.data.toList := by simp
theorem ba_len (a : ByteArray) : a.data.toList.length = a.size := rfl
theorem leafB_inj {s t : ByteArray} (h : leafB s = leafB t) : s = t := by
  have := congrArg (fun x : ByteArray => x.data.toList) h
  simp only [leafB, ba_append] at this
  exact ba_ext (List.append_cancel_left this)
theorem two_inj {a b c d : ByteArray} (hs : a.size = c.size) (h : a.data.toList ++ b.data.toList = c.data.toList ++ d.data.toList) : a = c ∧ b = d := by
  obtain ⟨h1, h2⟩ := List.append_inj h hs
  exact ⟨ba_ext h1, ba_ext h2⟩
theorem nodeB_inj {a b c d : ByteArray} (hs : a.size = c.size) (h : nodeB a b = nodeB c d) : a = c ∧ b = d := by
  have := congrArg (fun x : ByteArray => x.data.toList) h
  simp only [nodeB, ba_append, List.append_assoc] at this
  exact two_inj hs (List.append_cancel_left this)
theorem chainB_inj {a b c d : ByteArray} (hs : a.size = c.size) (h : chainB a b = chainB c d) : a = c ∧ b = d := by
  have := congrArg (fun x : ByteArray => x.data.toList) h
  simp only [chainB, ba_append, List.append_assoc] at this
  exact two_inj hs (List.append_cancel_left this)

/-- The texts that are hashed for a proof, from the root on, and the value. -/
def wayR : Nat → Nat → ByteArray → List ByteArray → List ByteArray × ByteArray
  | _, _, s, [] => ([leafB s], leaf s)
  | n, i, s, x :: q => if n ≤ 1 then ([leafB s], leaf s) else if i < half n then (nodeB (wayR (half n) i s q).2 x :: (wayR (half n) i s q).1, node (wayR (half n) i s q).2 x)
    else (nodeB x (wayR (n - half n) (i - half n) s q).2 :: (wayR (n - half n) (i - half n) s q).1, node x (wayR (n - half n) (i - half n) s q).2)
theorem val_size : ∀ (q : List ByteArray) (n i : Nat) (s : ByteArray), (valR n i s q).2 = true → (valR n i s q).1.size = 32
  | [], n, i, s, h => by
    rw [valR] at h ⊢
    by_cases h1 : n = 1
    · rw [if_pos h1]; exact dg_size _
    · rw [if_neg h1] at h; cases h
  | x :: q, n, i, s, h => by
    rw [valR] at h ⊢
    by_cases h1 : n = 1
    · rw [if_pos h1] at h; cases h
    · rw [if_neg h1]
      by_cases hk : i < half n
      · rw [if_pos hk]; exact dg_size _
      · rw [if_neg hk]; exact dg_size _
theorem way_val : ∀ (q : List ByteArray) (n i : Nat) (s : ByteArray), i < n → (valR n i s q).2 = true → (wayR n i s q).2 = (valR n i s q).1
  | [], n, i, s, hi, h => by
    rw [valR] at h
    by_cases h1 : n = 1
    · rw [wayR, valR, if_pos h1]
    · rw [if_neg h1] at h; cases h
  | x :: q, n, i, s, hi, h => by
    rw [valR] at h
    by_cases h1 : n = 1
    · rw [if_pos h1] at h; cases h
    · have hlt := half_lt (n := n) (by omega)
      rw [if_neg h1] at h
      rw [wayR, valR, if_neg (show ¬ n ≤ 1 by omega), if_neg h1]
      by_cases hk : i < half n
      · rw [if_pos hk] at h ⊢
        rw [if_pos hk, way_val q _ _ _ hk h]
      · rw [if_neg hk] at h ⊢
        rw [if_neg hk, way_val q _ _ _ (by omega) h]
theorem bind : ∀ (q p : List ByteArray) (n i : Nat) (s t : ByteArray), i < n → (∀ x ∈ q, x.size = 32) → (∀ x ∈ p, x.size = 32) → (valR n i s q).2 = true → (valR n i t p).2 = true → s ≠ t →
    (valR n i s q).1 = (valR n i t p).1 → collB (wayR n i s q).1 (wayR n i t p).1 = true
  | [], p, n, i, s, t, hi, _, _, h1, h2, hne, hv => by
    have hl := val_len _ _ _ _ _ _ h1 h2
    obtain rfl : p = [] := List.length_eq_zero_iff.1 hl.symm
    rw [valR] at h1
    by_cases h : n = 1
    · rw [valR, valR, if_pos h, if_pos h] at hv
      rw [wayR, wayR]
      exact coll_head (fun e => hne (leafB_inj e)) hv
    · rw [if_neg h] at h1; cases h1
  | x :: q, [], n, i, s, t, _, _, _, h1, h2, _, _ => by
    have hl := val_len _ _ _ _ _ _ h1 h2
    cases hl
  | x :: q, y :: p, n, i, s, t, hi, hq, hp, h1, h2, hne, hv => by
    have hx := hq x (List.mem_cons_self ..)
    have hy := hp y (List.mem_cons_self ..)
    have hq' := fun z hz => hq z (List.mem_cons_of_mem x hz)
    have hp' := fun z hz => hp z (List.mem_cons_of_mem y hz)
    rw [valR] at h1 h2
    rw [valR, valR] at hv
    by_cases h : n = 1
    · rw [if_pos h] at h1; cases h1
    · have hlt := half_lt (n := n) (by omega)
      rw [if_neg h] at h1 h2
      rw [if_neg h, if_neg h] at hv
      rw [wayR, wayR, if_neg (show ¬ n ≤ 1 by omega), if_neg (show ¬ n ≤ 1 by omega)]
      by_cases hk : i < half n
      · rw [if_pos hk] at h1 h2
        rw [if_pos hk, if_pos hk] at hv
        rw [if_pos hk, if_pos hk, way_val _ _ _ _ hk h1, way_val _ _ _ _ hk h2]
        by_cases he : nodeB (valR (half n) i s q).1 x = nodeB (valR (half n) i t p).1 y
        · obtain ⟨e1, e2⟩ := nodeB_inj (by rw [val_size _ _ _ _ h1, val_size _ _ _ _ h2]) he
          exact coll_tail (bind q p _ _ s t hk hq' hp' h1 h2 hne e1)
        · exact coll_head he hv
      · rw [if_neg hk] at h1 h2
        rw [if_neg hk, if_neg hk] at hv
        rw [if_neg hk, if_neg hk, way_val _ _ _ _ (by omega) h1, way_val _ _ _ _ (by omega) h2]
        by_cases he : nodeB x (valR (n - half n) (i - half n) s q).1 = nodeB y (valR (n - half n) (i - half n) t p).1
        · obtain ⟨e1, e2⟩ := nodeB_inj (by rw [hx, hy]) he
          exact coll_tail (bind q p _ _ s t (by omega) hq' hp' h1 h2 hne e2)
        · exact coll_head he hv
theorem ver_bind (r : ByteArray) (n i : Int) (s t : ByteArray) (p q : List ByteArray) (h1 : verS r n i s p = true) (h2 : verS r n i t q = true) (hne : s ≠ t) :
    collB (wayR n.toNat i.toNat s p.reverse).1 (wayR n.toNat i.toNat t q.reverse).1 = true := by
  unfold verS at h1 h2
  simp only [Bool.and_eq_true, decide_eq_true_eq] at h1 h2
  obtain ⟨⟨⟨⟨a1, a2⟩, a3⟩, a4⟩, a5⟩ := h1
  obtain ⟨⟨⟨_, b3⟩, b4⟩, b5⟩ := h2
  exact bind _ _ _ _ _ _ (by omega) (fun x hx => okD_at a3 x (List.mem_reverse.1 hx)) (fun x hx => okD_at b3 x (List.mem_reverse.1 hx)) a4 b4 hne (by rw [a5, b5])

/-- The texts that are hashed for a head, the last one first, and the head: of the records, the last one first. -/
def zer32 : ByteArray := strN (List.replicate 32 0)
def headsR : List ByteArray → List ByteArray × ByteArray
  | [] => ([], zer32)
  | r :: q => (chainB (headsR q).2 r :: (headsR q).1, chain (headsR q).2 r)
theorem heads_size (q : List ByteArray) : (headsR q).2.size = 32 := by
  cases q with
  | nil => rfl
  | cons r q => exact dg_size _
theorem heads_len (q : List ByteArray) : (headsR q).1.length = q.length := by
  induction q with
  | nil => rfl
  | cons r q ih => rw [headsR, List.length_cons, List.length_cons, ih]
def zeroAt (x y : List ByteArray) : Bool := decide (x.length ≠ y.length) && decide (dg ((if y.length > x.length then y else x).getD (min x.length y.length) ⟨#[]⟩) = zer32)
theorem zero_tail {x y : ByteArray} {a b : List ByteArray} (h : zeroAt a b = true) : zeroAt (x :: a) (y :: b) = true := by
  unfold zeroAt at *
  simp only [Bool.and_eq_true, decide_eq_true_eq, List.length_cons] at *
  refine ⟨by omega, ?_⟩
  rw [show min (a.length + 1) (b.length + 1) = min a.length b.length + 1 by omega]
  by_cases hl : b.length > a.length
  · rw [if_pos hl] at h; rw [if_pos (by omega), List.getD_cons_succ]; exact h.2
  · rw [if_neg hl] at h; rw [if_neg (by omega), List.getD_cons_succ]; exact h.2
theorem heads_bind : ∀ (q p : List ByteArray), q ≠ p → (headsR q).2 = (headsR p).2 → collB (headsR q).1 (headsR p).1 = true ∨ zeroAt (headsR q).1 (headsR p).1 = true
  | [], [], h, _ => absurd rfl h
  | [], r :: p, _, h => by
    refine .inr ?_
    rw [headsR, headsR] at h
    have h' : dg (chainB (headsR p).2 r) = zer32 := h.symm
    unfold zeroAt; rw [headsR, headsR]; simp [h']
  | r :: q, [], _, h => by
    refine .inr ?_
    have h' : dg (chainB (headsR q).2 r) = zer32 := h
    unfold zeroAt; rw [headsR, headsR]; simp [h']
  | r :: q, s :: p, hne, h => by
    have h' : dg (chainB (headsR q).2 r) = dg (chainB (headsR p).2 s) := h
    rw [headsR, headsR]
    by_cases he : chainB (headsR q).2 r = chainB (headsR p).2 s
    · obtain ⟨e1, e2⟩ := chainB_inj (by rw [heads_size, heads_size]) he
      subst e2
      rcases heads_bind q p (fun e => hne (by rw [e])) e1 with h | h
      · exact .inl (coll_tail h)
      · exact .inr (zero_tail h)
    · exact .inl (coll_head he h')

/-- The texts that are hashed for an extension, from the root on, and the value. -/
def sidesR (old : ByteArray) : Nat → Nat → List ByteArray → Bool → List ByteArray × ByteArray
  | _, _, [], _ => ([], old)
  | m, n, x :: q, whole => if m ≥ n then (if whole then ([], old) else ([], (x :: q).getLast (List.cons_ne_nil _ _)))
    else if m ≤ half n then (nodeB (sidesR old m (half n) q whole).2 x :: (sidesR old m (half n) q whole).1, node (sidesR old m (half n) q whole).2 x)
    else (nodeB x (sidesR old (m - half n) (n - half n) q false).2 :: (sidesR old (m - half n) (n - half n) q false).1, node x (sidesR old (m - half n) (n - half n) q false).2)
theorem both_size (old : ByteArray) (ho : old.size = 32) : ∀ (q : List ByteArray) (m n : Nat) (b : Bool), (∀ x ∈ q, x.size = 32) → (bothR old m n q b).2.2 = true → (bothR old m n q b).2.1.size = 32
  | [], m, n, b, _, h => by
    rw [bothR] at h ⊢
    by_cases h1 : m = n
    · rw [if_pos h1] at h ⊢
      cases b with
      | true => exact ho
      | false => cases h
    · rw [if_neg h1] at h; cases h
  | x :: q, m, n, b, hq, h => by
    rw [bothR] at h ⊢
    by_cases h1 : m = n
    · rw [if_pos h1] at h ⊢
      cases b with
      | true => cases h
      | false =>
        rw [if_neg (by decide)] at h ⊢
        by_cases h2 : q = []
        · rw [if_pos h2]; exact hq x (List.mem_cons_self ..)
        · rw [if_neg h2] at h; cases h
    · rw [if_neg h1]
      by_cases hk : m ≤ half n
      · rw [if_pos hk]; exact dg_size _
      · rw [if_neg hk]; exact dg_size _
theorem sides_val (old : ByteArray) : ∀ (q : List ByteArray) (m n : Nat) (b : Bool), 1 ≤ m → m ≤ n → (bothR old m n q b).2.2 = true → (sidesR old m n q b).2 = (bothR old m n q b).2.1
  | [], m, n, b, _, _, h => by
    rw [bothR] at h
    rw [sidesR, bothR]
    by_cases h1 : m = n
    · rw [if_pos h1] at h ⊢
      cases b with
      | true => rfl
      | false => cases h
    · rw [if_neg h1] at h; cases h
  | x :: q, m, n, b, hm, hn, h => by
    rw [bothR] at h
    rw [sidesR, bothR]
    by_cases h1 : m = n
    · rw [if_pos h1] at h ⊢
      rw [if_pos (by omega)]
      cases b with
      | true => cases h
      | false =>
        rw [if_neg (by decide)] at h ⊢
        by_cases h2 : q = []
        · subst h2; rfl
        · rw [if_neg h2] at h; cases h
    · rw [if_neg h1] at h ⊢
      have hlt := half_lt (n := n) (by omega)
      rw [if_neg (show ¬ m ≥ n by omega)]
      by_cases hk : m ≤ half n
      · rw [if_pos hk] at h ⊢
        rw [if_pos hk, sides_val old q _ _ _ hm hk h]
      · rw [if_neg hk] at h ⊢
        rw [if_neg hk, sides_val old q _ _ _ (by omega) (by omega) h]
theorem ext_bind (a b : ByteArray) (ha : a.size = 32) (hb : b.size = 32) : ∀ (q p : List ByteArray) (m n : Nat) (w : Bool), 1 ≤ m → m ≤ n → (∀ x ∈ q, x.size = 32) → (∀ x ∈ p, x.size = 32) →
    (bothR a m n q w).2.2 = true → (bothR b m n p w).2.2 = true → (bothR a m n q w).2.1 = (bothR b m n p w).2.1 → (bothR a m n q w).1 ≠ (bothR b m n p w).1 → collB (sidesR a m n q w).1 (sidesR b m n p w).1 = true
  | [], p, m, n, w, _, _, _, _, h1, h2, hv, hne => by
    rw [bothR] at h1 hv hne
    by_cases h : m = n
    · rw [if_pos h] at h1 hv hne
      cases w with
      | false => cases h1
      | true =>
        cases p with
        | nil => rw [bothR, if_pos h] at hv hne; exact absurd hv hne
        | cons y p => rw [bothR, if_pos h] at h2; cases h2
    · rw [if_neg h] at h1; cases h1
  | x :: q, [], m, n, w, _, _, _, _, h1, h2, hv, hne => by
    rw [bothR] at h2
    by_cases h : m = n
    · rw [if_pos h] at h2
      cases w with
      | false => cases h2
      | true => rw [bothR, if_pos h] at h1; cases h1
    · rw [if_neg h] at h2; cases h2
  | x :: q, y :: p, m, n, w, hm, hn, hq, hp, h1, h2, hv, hne => by
    have hx := hq x (List.mem_cons_self ..)
    have hy := hp y (List.mem_cons_self ..)
    have hq' := fun z hz => hq z (List.mem_cons_of_mem x hz)
    have hp' := fun z hz => hp z (List.mem_cons_of_mem y hz)
    rw [bothR] at h1 h2
    rw [bothR, bothR] at hv hne
    by_cases h : m = n
    · rw [if_pos h] at h1 h2
      rw [if_pos h, if_pos h] at hv hne
      cases w with
      | true => cases h1
      | false =>
        rw [if_neg Bool.false_ne_true] at h1 h2
        rw [if_neg Bool.false_ne_true, if_neg Bool.false_ne_true] at hv hne
        by_cases e1 : q = []
        · by_cases e2 : p = []
          · rw [if_pos e1, if_pos e2] at hv hne; exact absurd hv hne
          · rw [if_neg e2] at h2; cases h2
        · rw [if_neg e1] at h1; cases h1
    · have hlt := half_lt (n := n) (by omega)
      rw [if_neg h] at h1 h2
      rw [if_neg h, if_neg h] at hv hne
      rw [sidesR, sidesR, if_neg (show ¬ m ≥ n by omega), if_neg (show ¬ m ≥ n by omega)]
      by_cases hk : m ≤ half n
      · rw [if_pos hk] at h1 h2
        rw [if_pos hk, if_pos hk] at hv hne
        rw [if_pos hk, if_pos hk, sides_val _ _ _ _ _ hm hk h1, sides_val _ _ _ _ _ hm hk h2]
        by_cases he : nodeB (bothR a m (half n) q w).2.1 x = nodeB (bothR b m (half n) p w).2.1 y
        · obtain ⟨e1, e2⟩ := nodeB_inj (by rw [both_size a ha _ _ _ _ hq' h1, both_size b hb _ _ _ _ hp' h2]) he
          exact coll_tail (ext_bind a b ha hb q p _ _ w hm hk hq' hp' h1 h2 e1 hne)
        · exact coll_head he hv
      · rw [if_neg hk] at h1 h2
        rw [if_neg hk, if_neg hk] at hv hne
        rw [if_neg hk, if_neg hk, sides_val _ _ _ _ _ (by omega) (by omega) h1, sides_val _ _ _ _ _ (by omega) (by omega) h2]
        by_cases he : nodeB x (bothR a (m - half n) (n - half n) q false).2.1 = nodeB y (bothR b (m - half n) (n - half n) p false).2.1
        · obtain ⟨e1, e2⟩ := nodeB_inj (by rw [hx, hy]) he
          subst e1
          exact coll_tail (ext_bind a b ha hb q p _ _ false (by omega) (by omega) hq' hp' h1 h2 e2 (fun e => hne (congrArg (node x) e)))
        · exact coll_head he hv
theorem vex_bind (a b : ByteArray) (m : Int) (r : ByteArray) (n : Int) (p q : List ByteArray) (h1 : vexS a m r n p = true) (h2 : vexS b m r n q = true) (hne : a ≠ b) :
    collB (sidesR a m.toNat n.toNat p.reverse true).1 (sidesR b m.toNat n.toNat q.reverse true).1 = true := by
  unfold vexS at h1 h2
  simp only [Bool.and_eq_true, decide_eq_true_eq] at h1 h2
  obtain ⟨⟨⟨⟨⟨a1, a2⟩, a3⟩, a4⟩, a5⟩, a6⟩ := h1
  obtain ⟨⟨⟨⟨_, b3⟩, b4⟩, _⟩, b6⟩ := h2
  by_cases h0 : m = 0
  · rw [if_pos h0] at a6 b6
    simp only [Bool.and_eq_true, decide_eq_true_eq] at a6 b6
    exact absurd (a6.2.trans b6.2.symm) hne
  · rw [if_neg h0] at a6 b6
    by_cases hn : m = n
    · rw [if_pos hn] at a6 b6
      simp only [Bool.and_eq_true, decide_eq_true_eq] at a6 b6
      exact absurd (a6.2.trans b6.2.symm) hne
    · rw [if_neg hn] at a6 b6
      simp only [Bool.and_eq_true, decide_eq_true_eq] at a6 b6
      exact ext_bind a b (by simpa using a4) (by simpa using b4) _ _ _ _ true (by omega) (by omega) (fun x hx => okD_at a3 x (List.mem_reverse.1 hx)) (fun x hx => okD_at b3 x (List.mem_reverse.1 hx))
        a6.1.1 b6.1.1 (by rw [a6.2, b6.2]) (by rw [a6.1.2, b6.1.2]; exact hne)
end Go.Proofs.YtiilkjonbfllfaaDoor
