/- Trees of digests on plain lists: roots, proofs, extensions and their values, as the chapter describes them. Proofs are kept from the root on ('R': the last element first). -/
import Derived.Test.YtiilkjonbfllfaaDoorSumM
namespace Go.Proofs.YtiilkjonbfllfaaDoor
def dg (s : ByteArray) : ByteArray := strN (sha (nums s))
def leafB (s : ByteArray) : ByteArray := ⟨#[0]⟩ ++ s
def nodeB (a b : ByteArray) : ByteArray := ⟨#[1]⟩ ++ a ++ b
def chainB (h r : ByteArray) : ByteArray := ⟨#[2]⟩ ++ h ++ r
def leaf (s : ByteArray) : ByteArray := dg (leafB s)
def node (a b : ByteArray) : ByteArray := dg (nodeB a b)
def chain (h r : ByteArray) : ByteArray := dg (chainB h r)
theorem strN_size (l : List Nat) : (strN l).size = l.length := by simp [strN, ByteArray.size]
theorem dg_size (s : ByteArray) : (dg s).size = 32 := by rw [dg, strN_size]; exact digL_length _
def half (n : Nat) : Nat := 2 ^ Nat.log2 (n - 1)
theorem half_pos (n : Nat) : 0 < half n := Nat.pow_pos (by decide)
theorem half_lt {n : Nat} (h : 2 ≤ n) : half n < n := by
  have := Nat.log2_self_le (n := n - 1) (by omega)
  unfold half; omega
theorem half_le {n : Nat} (h : 2 ≤ n) : n ≤ 2 * half n := by
  have := Nat.lt_log2_self (n := n - 1)
  unfold half; rw [Nat.pow_succ] at this; omega
theorem half_eq {n k : Nat} (h1 : k < n) (h2 : n ≤ 2 * k) (h3 : ∃ e, k = 2 ^ e) : half n = k := by
  obtain ⟨e, rfl⟩ := h3
  have : Nat.log2 (n - 1) = e := (Nat.log2_eq_iff (by omega)).2 ⟨by omega, by rw [Nat.pow_succ]; omega⟩
  rw [half, this]

def rootF : Nat → List ByteArray → ByteArray
  | 0, _ => dg ⟨#[]⟩
  | f + 1, l => match l with
    | [] => dg ⟨#[]⟩
    | [s] => leaf s
    | s :: t :: r => node (rootF f ((s :: t :: r).take (half (r.length + 2)))) (rootF f ((s :: t :: r).drop (half (r.length + 2))))
def root (l : List ByteArray) : ByteArray := rootF l.length l
theorem rootF_eq : ∀ (f g : Nat) (l : List ByteArray), l.length ≤ f → l.length ≤ g → rootF f l = rootF g l
  | 0, g, l, h, _ => by
    obtain rfl : l = [] := List.length_eq_zero_iff.1 (by omega)
    cases g <;> rfl
  | f + 1, 0, l, _, h => by
    obtain rfl : l = [] := List.length_eq_zero_iff.1 (by omega)
    rfl
  | f + 1, g + 1, l, h1, h2 => by
    match l with
    | [] => rfl
    | [s] => rfl
    | s :: t :: r =>
      have hl := half_lt (n := r.length + 2) (by omega)
      have hp := half_pos (r.length + 2)
      simp only [List.length_cons] at h1 h2
      rw [rootF, rootF, rootF_eq f g _ (by rw [List.length_take]; simp only [List.length_cons]; omega) (by rw [List.length_take]; simp only [List.length_cons]; omega),
        rootF_eq f g _ (by rw [List.length_drop]; simp only [List.length_cons]; omega) (by rw [List.length_drop]; simp only [List.length_cons]; omega)]
theorem root_nil : root [] = dg ⟨#[]⟩ := rfl
theorem root_one (s : ByteArray) : root [s] = leaf s := rfl
theorem root_split (l : List ByteArray) (h : 2 ≤ l.length) : root l = node (root (l.take (half l.length))) (root (l.drop (half l.length))) := by
  match l, h with
  | s :: t :: r, _ =>
    have hl := half_lt (n := r.length + 2) (by omega)
    have hp := half_pos (r.length + 2)
    show rootF (r.length + 1 + 1) (s :: t :: r) = _
    rw [rootF]
    have e1 := rootF_eq (r.length + 1) ((s :: t :: r).take (half (r.length + 2))).length ((s :: t :: r).take (half (r.length + 2))) (by rw [List.length_take]; simp only [List.length_cons]; omega) (Nat.le_refl _)
    have e2 := rootF_eq (r.length + 1) ((s :: t :: r).drop (half (r.length + 2))).length ((s :: t :: r).drop (half (r.length + 2))) (by rw [List.length_drop]; simp only [List.length_cons]; omega) (Nat.le_refl _)
    rw [e1, e2]; rfl
theorem root_size (l : List ByteArray) : (root l).size = 32 := by
  match l with
  | [] => exact dg_size _
  | [s] => exact dg_size _
  | s :: t :: r => rw [root_split _ (by simp)]; exact dg_size _

/-- The elements of a proof, from the root on. -/
def proofF : Nat → List ByteArray → Nat → List ByteArray
  | 0, _, _ => []
  | f + 1, l, i => if l.length ≤ 1 then [] else if i < half l.length then root (l.drop (half l.length)) :: proofF f (l.take (half l.length)) i else root (l.take (half l.length)) :: proofF f (l.drop (half l.length)) (i - half l.length)
theorem proofF_eq : ∀ (f g : Nat) (l : List ByteArray) (i : Nat), l.length ≤ f → l.length ≤ g → proofF f l i = proofF g l i
  | 0, g, l, i, h, _ => by
    cases g with
    | zero => rfl
    | succ g => rw [proofF, proofF, if_pos (by omega)]
  | f + 1, 0, l, i, _, h => by rw [proofF, proofF, if_pos (by omega)]
  | f + 1, g + 1, l, i, h1, h2 => by
    rw [proofF, proofF]
    by_cases h : l.length ≤ 1
    · rw [if_pos h, if_pos h]
    · have hl := half_lt (n := l.length) (by omega)
      have hp := half_pos l.length
      rw [if_neg h, if_neg h, proofF_eq f g _ _ (by rw [List.length_take]; omega) (by rw [List.length_take]; omega), proofF_eq f g _ _ (by rw [List.length_drop]; omega) (by rw [List.length_drop]; omega)]
def proofR (l : List ByteArray) (i : Nat) : List ByteArray := proofF l.length l i
theorem proofR_one (l : List ByteArray) (i : Nat) (h : l.length ≤ 1) : proofR l i = [] := by
  unfold proofR
  cases e : l.length with
  | zero => rfl
  | succ n => rw [proofF, if_pos h]
theorem proofR_left (l : List ByteArray) (i : Nat) (h : 2 ≤ l.length) (hi : i < half l.length) : proofR l i = root (l.drop (half l.length)) :: proofR (l.take (half l.length)) i := by
  obtain ⟨f, hf⟩ : ∃ f, l.length = f + 1 := ⟨l.length - 1, by omega⟩
  have hl := half_lt h
  have e := proofF_eq f (l.take (half l.length)).length (l.take (half l.length)) i (by rw [List.length_take]; omega) (Nat.le_refl _)
  unfold proofR
  rw [show proofF l.length l i = proofF (f + 1) l i by rw [hf], proofF, if_neg (by omega), if_pos hi, e]
theorem proofR_right (l : List ByteArray) (i : Nat) (h : 2 ≤ l.length) (hi : ¬ i < half l.length) : proofR l i = root (l.take (half l.length)) :: proofR (l.drop (half l.length)) (i - half l.length) := by
  obtain ⟨f, hf⟩ : ∃ f, l.length = f + 1 := ⟨l.length - 1, by omega⟩
  have hp := half_pos l.length
  have e := proofF_eq f (l.drop (half l.length)).length (l.drop (half l.length)) (i - half l.length) (by rw [List.length_drop]; omega) (Nat.le_refl _)
  unfold proofR
  rw [show proofF l.length l i = proofF (f + 1) l i by rw [hf], proofF, if_neg (by omega), if_neg hi, e]

/-- The value of a proof, and whether it has the right length. -/
def valR : Nat → Nat → ByteArray → List ByteArray → ByteArray × Bool
  | n, _, s, [] => if n = 1 then (leaf s, true) else (⟨#[]⟩, false)
  | n, i, s, x :: q => if n = 1 then (leaf s, false) else if i < half n then (node (valR (half n) i s q).1 x, (valR (half n) i s q).2) else (node x (valR (n - half n) (i - half n) s q).1, (valR (n - half n) (i - half n) s q).2)

/-- The elements of an extension, from the root on. -/
def partF : Nat → List ByteArray → Nat → Bool → List ByteArray
  | 0, _, _, _ => []
  | f + 1, l, m, whole => if m = l.length then (if whole then [] else [root l]) else if m ≤ half l.length then root (l.drop (half l.length)) :: partF f (l.take (half l.length)) m whole else root (l.take (half l.length)) :: partF f (l.drop (half l.length)) (m - half l.length) false
theorem partF_eq : ∀ (f g : Nat) (l : List ByteArray) (m : Nat) (b : Bool), l.length ≤ f → l.length ≤ g → 1 ≤ m → m ≤ l.length → partF f l m b = partF g l m b
  | 0, g, l, m, b, h, _, hm, hl => by omega
  | f + 1, 0, l, m, b, _, h, hm, hl => by omega
  | f + 1, g + 1, l, m, b, h1, h2, hm, hl => by
    rw [partF, partF]
    by_cases h : m = l.length
    · rw [if_pos h, if_pos h]
    · have hl := half_lt (n := l.length) (by omega)
      have hp := half_pos l.length
      rw [if_neg h, if_neg h]
      by_cases hk : m ≤ half l.length
      · rw [if_pos hk, if_pos hk, partF_eq f g _ _ _ (by rw [List.length_take]; omega) (by rw [List.length_take]; omega) hm (by rw [List.length_take]; omega)]
      · rw [if_neg hk, if_neg hk, partF_eq f g _ _ _ (by rw [List.length_drop]; omega) (by rw [List.length_drop]; omega) (by omega) (by rw [List.length_drop]; omega)]
def partR (l : List ByteArray) (m : Nat) (whole : Bool) : List ByteArray := partF l.length l m whole
theorem partR_all (l : List ByteArray) (m : Nat) (b : Bool) (h : 1 ≤ m) (hm : m = l.length) : partR l m b = if b then [] else [root l] := by
  obtain ⟨f, hf⟩ : ∃ f, l.length = f + 1 := ⟨l.length - 1, by omega⟩
  unfold partR
  rw [show partF l.length l m b = partF (f + 1) l m b by rw [hf], partF, if_pos hm]
theorem partR_left (l : List ByteArray) (m : Nat) (b : Bool) (h : 1 ≤ m) (hm : m < l.length) (hk : m ≤ half l.length) : partR l m b = root (l.drop (half l.length)) :: partR (l.take (half l.length)) m b := by
  obtain ⟨f, hf⟩ : ∃ f, l.length = f + 1 := ⟨l.length - 1, by omega⟩
  have hl := half_lt (n := l.length) (by omega)
  have e := partF_eq f (l.take (half l.length)).length (l.take (half l.length)) m b (by rw [List.length_take]; omega) (Nat.le_refl _) h (by rw [List.length_take]; omega)
  unfold partR
  rw [show partF l.length l m b = partF (f + 1) l m b by rw [hf], partF, if_neg (by omega), if_pos hk, e]
theorem partR_right (l : List ByteArray) (m : Nat) (b : Bool) (hm : m < l.length) (hk : ¬ m ≤ half l.length) : partR l m b = root (l.take (half l.length)) :: partR (l.drop (half l.length)) (m - half l.length) false := by
  obtain ⟨f, hf⟩ : ∃ f, l.length = f + 1 := ⟨l.length - 1, by omega⟩
  have hp := half_pos l.length
  have e := partF_eq f (l.drop (half l.length)).length (l.drop (half l.length)) (m - half l.length) false (by rw [List.length_drop]; omega) (Nat.le_refl _) (by omega) (by rw [List.length_drop]; omega)
  unfold partR
  rw [show partF l.length l m b = partF (f + 1) l m b by rw [hf], partF, if_neg (by omega), if_neg hk, e]

/-- The two values of an extension, and whether it has the right length. -/
def bothR (old : ByteArray) : Nat → Nat → List ByteArray → Bool → ByteArray × ByteArray × Bool
  | m, n, [], whole => if m = n then (if whole then (old, old, true) else (⟨#[]⟩, ⟨#[]⟩, false)) else (⟨#[]⟩, ⟨#[]⟩, false)
  | m, n, x :: q, whole => if m = n then (if whole then (old, old, false) else if q = [] then (x, x, true) else (⟨#[]⟩, ⟨#[]⟩, false))
    else if m ≤ half n then ((bothR old m (half n) q whole).1, node (bothR old m (half n) q whole).2.1 x, (bothR old m (half n) q whole).2.2)
    else (node x (bothR old (m - half n) (n - half n) q false).1, node x (bothR old (m - half n) (n - half n) q false).2.1, (bothR old (m - half n) (n - half n) q false).2.2)

def okD (l : List ByteArray) : Bool := l.all fun s => s.size == 32
def verS (r : ByteArray) (n i : Int) (s : ByteArray) (p : List ByteArray) : Bool :=
  decide (0 ≤ i) && decide (i < n) && okD p && (valR n.toNat i.toNat s p.reverse).2 && decide ((valR n.toNat i.toNat s p.reverse).1 = r)
def vexS (old : ByteArray) (m : Int) (r : ByteArray) (n : Int) (p : List ByteArray) : Bool :=
  decide (0 ≤ m) && decide (m ≤ n) && okD p && (old.size == 32) && (r.size == 32) &&
    if m = 0 then p.isEmpty && decide (old = dg ⟨#[]⟩)
    else if m = n then p.isEmpty && decide (old = r)
    else (bothR old m.toNat n.toNat p.reverse true).2.2 && decide ((bothR old m.toNat n.toNat p.reverse true).1 = old) && decide ((bothR old m.toNat n.toNat p.reverse true).2.1 = r)
end Go.Proofs.YtiilkjonbfllfaaDoor
