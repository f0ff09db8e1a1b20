/- A block's words, as plain lists. -/
import Derived.Test.YtiilkjonbfllfaaDoorShaM
namespace Go.Proofs.YtiilkjonbfllfaaDoor
def bstep (x y : Nat) : Nat := x * 256 % 4294967296 ||| y
def accW (b : List Nat) (i j : Nat) : Nat := (((b.take i).drop (4 * j)).take 4).foldl bstep 0
def accL (b : List Nat) (i : Nat) : List Nat := (List.range 64).map (accW b i)

theorem accW_eq (b : List Nat) (i j : Nat) : accW b i j = ((b.drop (4 * j)).take (min 4 (i - 4 * j))).foldl bstep 0 := by
  unfold accW; rw [List.drop_take, List.take_take]
theorem accW_other (b : List Nat) (i j : Nat) (h : j ≠ i / 4) : accW b (i + 1) j = accW b i j := by
  rw [accW_eq, accW_eq]
  rcases Nat.lt_or_gt_of_ne h with h | h
  · rw [Nat.min_eq_left (by omega), Nat.min_eq_left (by omega)]
  · rw [show i + 1 - 4 * j = 0 by omega, show i - 4 * j = 0 by omega]
theorem accW_same (b : List Nat) (i y : Nat) (h : b[i]? = some y) : accW b (i + 1) (i / 4) = bstep (accW b i (i / 4)) y := by
  rw [accW_eq, accW_eq, Nat.min_eq_right (by omega), Nat.min_eq_right (by omega), show i + 1 - 4 * (i / 4) = (i - 4 * (i / 4)) + 1 by omega]
  have hlt : i < b.length := (List.getElem?_eq_some_iff.1 h).1
  rw [List.take_succ_eq_append_getElem (by rw [List.length_drop]; omega), List.foldl_append, List.getElem_drop]
  have e : b[4 * (i / 4) + (i - 4 * (i / 4))]'(by omega) = y := by
    have : b[4 * (i / 4) + (i - 4 * (i / 4))]? = some y := by rw [show 4 * (i / 4) + (i - 4 * (i / 4)) = i by omega]; exact h
    exact (List.getElem?_eq_some_iff.1 this).2
  rw [e]; rfl
theorem accL_length (b : List Nat) (i : Nat) : (accL b i).length = 64 := by simp [accL]
theorem accL_at (b : List Nat) (i j : Nat) (h : j < 64) : (accL b i)[j]? = some (accW b i j) := by
  simp [accL, List.getElem?_map, List.getElem?_range h]
theorem accL_step (b : List Nat) (i y : Nat) (h : b[i]? = some y) : accL b (i + 1) = (accL b i).set (i / 4) (bstep (accW b i (i / 4)) y) := by
  apply List.ext_getElem?
  intro j
  rw [List.getElem?_set]
  by_cases hj : j < 64
  · rw [accL_at _ _ _ hj, accL_length]
    by_cases e : i / 4 = j
    · subst e
      rw [if_pos rfl, if_pos hj, accW_same b i y h]
    · rw [if_neg e, accL_at _ _ _ hj, accW_other b i j (fun h => e h.symm)]
  · rw [List.getElem?_eq_none (by rw [accL_length]; omega), accL_length]
    by_cases e : i / 4 = j
    · rw [if_pos e, if_neg (by omega)]
    · rw [if_neg e, List.getElem?_eq_none (by rw [accL_length]; omega)]
theorem bstep_eq (x y : Nat) (h : y < 256) : bstep x y = x * 256 % 4294967296 + y := by
  unfold bstep
  have := Nat.two_pow_add_eq_or_of_lt (i := 8) (b := y) h (x % 16777216)
  rw [show 2 ^ 8 * (x % 16777216) = x * 256 % 4294967296 by omega] at this
  exact this.symm
theorem bstep_lt (x y : Nat) (h : y < 256) : bstep x y < 4294967296 := by rw [bstep_eq x y h]; omega
theorem foldl_bstep_lt : ∀ (l : List Nat) (x : Nat), (∀ y ∈ l, y < 256) → x < 4294967296 → l.foldl bstep x < 4294967296
  | [], _, _, h => h
  | y :: l, x, hb, _ => foldl_bstep_lt l _ (fun z hz => hb z (List.mem_cons_of_mem _ hz)) (bstep_lt x y (hb y (List.mem_cons_self ..)))
theorem accW_lt (b : List Nat) (i j : Nat) (hb : ∀ x ∈ b, x < 256) : accW b i j < 4294967296 :=
  foldl_bstep_lt _ _ (fun y hy => hb y (List.mem_of_mem_take (List.mem_of_mem_drop (List.mem_of_mem_take hy)))) (by decide)
theorem accW_be (b : List Nat) (hl : b.length = 64) (hb : ∀ x ∈ b, x < 256) (j : Nat) (h : j < 16) : accW b 64 j = beW b j := by
  rw [accW_eq, Nat.min_eq_left (by omega)]
  have a : ∀ k, k < 64 → ∃ x, b[k]? = some x ∧ x < 256 := fun k hk => ⟨b[k]'(by omega), List.getElem?_eq_getElem _, hb _ (List.getElem_mem _)⟩
  obtain ⟨x0, e0, l0⟩ := a (4 * j) (by omega)
  obtain ⟨x1, e1, l1⟩ := a (4 * j + 1) (by omega)
  obtain ⟨x2, e2, l2⟩ := a (4 * j + 2) (by omega)
  obtain ⟨x3, e3, l3⟩ := a (4 * j + 3) (by omega)
  have ht : (b.drop (4 * j)).take 4 = [x0, x1, x2, x3] := by
    apply List.ext_getElem?
    intro k
    rw [List.getElem?_take]
    match k with
    | 0 => simpa using e0
    | 1 => simpa using e1
    | 2 => simpa using e2
    | 3 => simpa using e3
    | k + 4 => simp; omega
  rw [ht]
  simp only [List.foldl_cons, List.foldl_nil, beW, List.getD_eq_getElem?_getD, e0, e1, e2, e3, Option.getD_some]
  rw [bstep_eq _ _ l0, bstep_eq _ _ l1, bstep_eq _ _ l2, bstep_eq _ _ l3]
  omega
theorem words16_length (b : List Nat) : (words16 b).length = 16 := by simp [words16]
theorem accL_end (b : List Nat) (hl : b.length = 64) (hb : ∀ x ∈ b, x < 256) : accL b 64 = words16 b ++ List.replicate 48 0 := by
  apply List.ext_getElem?
  intro j
  by_cases hj : j < 16
  · rw [accL_at _ _ _ (by omega), List.getElem?_append_left (by rw [words16_length]; exact hj), accW_be b hl hb j hj]
    simp [words16, List.getElem?_map, List.getElem?_range hj]
  · rw [List.getElem?_append_right (by rw [words16_length]; omega), words16_length]
    by_cases h64 : j < 64
    · rw [accL_at _ _ _ h64, List.getElem?_replicate, if_pos (by omega), accW_eq, List.drop_eq_nil_of_le (by omega), List.take_nil]; rfl
    · rw [List.getElem?_eq_none (by rw [accL_length]; omega), List.getElem?_replicate, if_neg (by omega)]
theorem wext_length (n : Nat) (l : List Nat) : (wext n l).length = l.length + n := by
  induction n with
  | zero => rfl
  | succ n ih => rw [wext, List.length_append, ih]; simp; omega
theorem wext_step (n : Nat) (l : List Nat) (hl : l.length = 16) (hn : n < 48) :
    wext (n + 1) l ++ List.replicate (48 - (n + 1)) 0 = (wext n l ++ List.replicate (48 - n) 0).set (16 + n) (wnext (wext n l) (16 + n)) := by
  have h := wext_length n l
  rw [List.set_append_right _ _ (by omega), h, hl, show 16 + n - (16 + n) = 0 by omega, show 48 - n = (48 - (n + 1)) + 1 by omega, List.replicate_succ, List.set_cons_zero, wext, List.append_assoc]
  rfl
theorem wext_lt (n : Nat) (l : List Nat) (h : ∀ x ∈ l, x < 4294967296) : ∀ x ∈ wext n l, x < 4294967296 := by
  induction n with
  | zero => exact h
  | succ n ih =>
    intro x hx
    rw [wext, List.mem_append] at hx
    rcases hx with hx | hx
    · exact ih x hx
    · rw [List.mem_singleton] at hx; subst hx; exact Nat.mod_lt _ (by decide)
theorem words16_lt (b : List Nat) (hl : b.length = 64) (hb : ∀ x ∈ b, x < 256) : ∀ x ∈ words16 b, x < 4294967296 := by
  intro x hx
  obtain ⟨j, hj, rfl⟩ := List.mem_map.1 hx
  have := accW_be b hl hb j (List.mem_range.1 hj)
  rw [← this]; exact accW_lt b 64 j hb
end Go.Proofs.YtiilkjonbfllfaaDoor
