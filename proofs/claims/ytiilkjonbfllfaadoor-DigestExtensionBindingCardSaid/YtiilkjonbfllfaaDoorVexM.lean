/- What VerifyExtension computes, on plain lists. -/
import Derived.Test.YtiilkjonbfllfaaDoorBeg
namespace Go.Proofs.YtiilkjonbfllfaaDoor
def restP (lf : Nat) (ps : List ByteArray) : List ByteArray := if 0 < lf then ps.tail else ps
def loP (lf : Nat) (old : ByteArray) (ps : List ByteArray) : ByteArray := if 0 < lf then ps.headD ⟨#[]⟩ else old
theorem cutQ_rev (lf : Nat) (ps : List ByteArray) : cutQ lf ps.reverse = (restP lf ps).reverse := by
  unfold cutQ restP
  by_cases h : 0 < lf
  · rw [if_pos h, if_pos h, List.dropLast_reverse]
  · rw [if_neg h, if_neg h]
theorem lowQ_rev (lf : Nat) (old : ByteArray) (ps : List ByteArray) : lowQ lf old ps.reverse = loP lf old ps := by
  unfold lowQ loP
  by_cases h : 0 < lf
  · rw [if_pos h, if_pos h]
    cases ps with
    | nil => rfl
    | cons x ps => simp
  · rw [if_neg h, if_neg h]
theorem vex_pos (old r : ByteArray) (m n : Nat) (ps : List ByteArray) (hm : 1 ≤ m) (hmn : m ≤ n) (hok : okD ps = true) (ho : old.size = 32) (hr : r.size = 32) :
    vexS old m r n ps = (decide (ps.length = lenQ (dB n m).1.1 (dB n m).2.length) && decide ((bothS (dB n m).1.1 (loP (dB n m).1.1 old ps) (dB n m).2 (restP (dB n m).1.1 ps).reverse).1 = old) &&
      decide ((bothS (dB n m).1.1 (loP (dB n m).1.1 old ps) (dB n m).2 (restP (dB n m).1.1 ps).reverse).2 = r)) := by
  have hd := both_dsc old m hm _ 0 n ps.reverse rfl (by omega) hmn
  rw [Nat.sub_zero, Nat.sub_zero, beq_self_eq_true, cutQ_rev, lowQ_rev, List.length_reverse] at hd
  have hd' : (bothR old m n ps.reverse true).2.2 = decide (ps.length = lenQ (dB n m).1.1 (dB n m).2.length) := hd.1
  have hd2 : ps.length = lenQ (dB n m).1.1 (dB n m).2.length → (bothR old m n ps.reverse true).1 = (bothS (dB n m).1.1 (loP (dB n m).1.1 old ps) (dB n m).2 (restP (dB n m).1.1 ps).reverse).1 ∧ (bothR old m n ps.reverse true).2.1 = (bothS (dB n m).1.1 (loP (dB n m).1.1 old ps) (dB n m).2 (restP (dB n m).1.1 ps).reverse).2 := hd.2
  unfold vexS
  rw [hok, ho, hr]
  have e1 : decide ((0 : Int) ≤ m) = true := by simp
  have e2 : decide ((m : Int) ≤ n) = true := by simp; omega
  rw [e1, e2, if_neg (by omega)]
  by_cases hmn' : m = n
  · subst hmn'
    rw [if_pos rfl]
    have hD : dB m m = ((0, m), []) := dscR_stop _ _ _ _ (by unfold stopB; rw [beq_self_eq_true])
    rw [hD]
    cases ps with
    | nil => simp [lenQ, bothS, loP]
    | cons x ps => simp [lenQ]
  · rw [if_neg (by omega), Int.toNat_natCast, Int.toNat_natCast, hd']
    by_cases hl : ps.length = lenQ (dB n m).1.1 (dB n m).2.length
    · obtain ⟨h1, h2⟩ := hd2 hl
      rw [h1, h2]; simp
    · have : decide (ps.length = lenQ (dB n m).1.1 (dB n m).2.length) = false := decide_eq_false hl
      rw [this]; simp
theorem vex_zero (old r : ByteArray) (n : Nat) (ps : List ByteArray) (hok : okD ps = true) (ho : old.size = 32) (hr : r.size = 32) : vexS old (0 : Nat) r n ps = (ps.isEmpty && decide (old = dg ⟨#[]⟩)) := by
  unfold vexS
  rw [hok, ho, hr]; simp
theorem vex_bad1 (old r : ByteArray) (m n : Int) (ps : List ByteArray) (h : m < 0 ∨ n < m) : vexS old m r n ps = false := by
  unfold vexS
  rcases h with h | h
  · simp [show ¬ 0 ≤ m by omega]
  · simp [show ¬ m ≤ n by omega]
theorem vex_bad2 (old r : ByteArray) (m n : Int) (ps : List ByteArray) (h : okD [old, r] = false) : vexS old m r n ps = false := by
  have h' : (old.size == 32 && r.size == 32) = false := by simpa [okD] using h
  unfold vexS
  cases e1 : (old.size == 32) <;> cases e2 : (r.size == 32) <;> simp [e1, e2] at h' ⊢
theorem vex_bad3 (old r : ByteArray) (m n : Int) (ps : List ByteArray) (h : okD ps = false) : vexS old m r n ps = false := by
  unfold vexS; simp [h]
theorem okD_two {a b : ByteArray} (h : okD [a, b] = true) : a.size = 32 ∧ b.size = 32 := by simpa [okD] using h

/-- The two values behind the lowest j elements. -/
def bothK (lf : Nat) (lo : ByteArray) (bs : List Sp) (ps : List ByteArray) (j : Nat) : ByteArray × ByteArray := bothS lf lo (bs.take j).reverse (ps.take j).reverse
theorem bothK_zero (lf : Nat) (lo : ByteArray) (bs : List Sp) (ps : List ByteArray) : bothK lf lo bs ps 0 = (lo, lo) := rfl
theorem bothK_step (lf : Nat) (lo : ByteArray) (bs : List Sp) (ps : List ByteArray) (k : Nat) (p : Sp) (x : ByteArray) (hp : bs[k]? = some p) (hx : ps[k]? = some x) :
    bothK lf lo bs ps (k + 1) = if p.1 < lf then (node x (bothK lf lo bs ps k).1, node x (bothK lf lo bs ps k).2) else ((bothK lf lo bs ps k).1, node (bothK lf lo bs ps k).2 x) := by
  have h1 := (List.getElem?_eq_some_iff.1 hp)
  have h2 := (List.getElem?_eq_some_iff.1 hx)
  unfold bothK
  rw [List.take_succ_eq_append_getElem h1.1, List.take_succ_eq_append_getElem h2.1, List.reverse_append, List.reverse_append, h1.2, h2.2]
  rfl
theorem bothS_size (lf : Nat) (lo : ByteArray) (hlo : lo.size = 32) : ∀ (bs : List Sp) (q : List ByteArray), (bothS lf lo bs q).1.size = 32 ∧ (bothS lf lo bs q).2.size = 32
  | p :: bs, x :: q => by
    rw [bothS]
    by_cases h : p.1 < lf
    · rw [if_pos h]; exact ⟨dg_size _, dg_size _⟩
    · rw [if_neg h]; exact ⟨(bothS_size lf lo hlo bs q).1, dg_size _⟩
  | [], _ => by rw [bothS]; exact ⟨hlo, hlo⟩; intro _ _ _ _ h; cases h
  | _ :: _, [] => by rw [bothS]; exact ⟨hlo, hlo⟩; intro _ _ _ _ _ h; cases h
theorem bothK_end (lf : Nat) (lo : ByteArray) (bs : List Sp) (ps : List ByteArray) (k : Nat) (h1 : bs.length ≤ k) (h2 : ps.length ≤ k) : bothK lf lo bs ps k = bothS lf lo bs.reverse ps.reverse := by
  unfold bothK; rw [List.take_of_length_le h1, List.take_of_length_le h2]
theorem vex_walk (old r : ByteArray) (m n : Nat) (ps : List ByteArray) (hm : 1 ≤ m) (hmn : m ≤ n) (hok : okD ps = true) (ho : old.size = 32) (hr : r.size = 32) (hl : ps.length = lenQ (dB n m).1.1 (dB n m).2.length) :
    vexS old m r n ps = (decide ((bothK (dB n m).1.1 (loP (dB n m).1.1 old ps) (dB n m).2.reverse (restP (dB n m).1.1 ps) (dB n m).2.reverse.length).1 = old) && decide ((bothK (dB n m).1.1 (loP (dB n m).1.1 old ps) (dB n m).2.reverse (restP (dB n m).1.1 ps) (dB n m).2.reverse.length).2 = r)) := by
  have hr2 : (restP (dB n m).1.1 ps).length ≤ (dB n m).2.reverse.length := by
    rw [List.length_reverse]
    unfold restP; unfold lenQ at hl
    by_cases h : 0 < (dB n m).1.1
    · rw [if_pos h] at hl ⊢; rw [List.length_tail]; omega
    · rw [if_neg h] at hl ⊢; omega
  rw [vex_pos old r m n ps hm hmn hok ho hr, bothK_end _ _ _ _ _ (Nat.le_refl _) hr2, List.reverse_reverse, decide_eq_true hl]; simp
theorem vex_len (old r : ByteArray) (m n : Nat) (ps : List ByteArray) (hm : 1 ≤ m) (hmn : m ≤ n) (hok : okD ps = true) (ho : old.size = 32) (hr : r.size = 32) (hl : ps.length ≠ lenQ (dB n m).1.1 (dB n m).2.length) :
    vexS old m r n ps = false := by
  rw [vex_pos old r m n ps hm hmn hok ho hr, decide_eq_false hl]; simp
end Go.Proofs.YtiilkjonbfllfaaDoor
