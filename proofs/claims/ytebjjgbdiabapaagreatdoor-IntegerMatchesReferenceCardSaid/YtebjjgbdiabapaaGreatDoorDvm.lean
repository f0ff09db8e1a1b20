/- The steps of a division, group by group: of no program. -/
import Derived.Test.YtebjjgbdiabapaaGreatDoorHld
namespace Go.Proofs.YtebjjgbdiabapaaGreatDoor
open Go.RowKit

/-- The rest and the quotient's groups behind one more group. -/
def dvStep (d : Nat) (zs : List Int) (s : Nat × List Int) (x : Fin zs.length) : Nat × List Int :=
  ((zs[x.val].toNat + 10000 * s.1) % d, s.2.set x.val (((zs[x.val].toNat + 10000 * s.1) / d : Nat) : Int))
def dvSt (d : Nat) (zs : List Int) (r0 : Nat) (pre : List (Fin zs.length)) : Nat × List Int := pre.foldl (dvStep d zs) (r0, List.replicate zs.length 0)
theorem dvSt_snoc (d : Nat) (zs : List Int) (r0 : Nat) (pre : List (Fin zs.length)) (x : Fin zs.length) : dvSt d zs r0 (pre ++ [x]) = dvStep d zs (dvSt d zs r0 pre) x := by
  unfold dvSt; rw [List.foldl_append]; rfl
theorem foldl_inv {α β : Type} (f : β → α → β) (p : β → Prop) (hf : ∀ s x, p s → p (f s x)) : ∀ (l : List α) (s : β), p s → p (l.foldl f s)
  | [], s, h => h
  | x :: l, s, h => by rw [List.foldl_cons]; exact foldl_inv f p hf l _ (hf s x h)
theorem dvSt_inv (d : Nat) (hd : 0 < d) (zs : List Int) (hz : ∀ z ∈ zs, 0 ≤ z ∧ z < 10000) (r0 : Nat) (hr : r0 < d) (pre : List (Fin zs.length)) :
    (dvSt d zs r0 pre).1 < d ∧ (dvSt d zs r0 pre).2.length = zs.length ∧ ∀ q ∈ (dvSt d zs r0 pre).2, 0 ≤ q ∧ q < 10000 := by
  refine foldl_inv (dvStep d zs) (fun s => s.1 < d ∧ s.2.length = zs.length ∧ ∀ q ∈ s.2, 0 ≤ q ∧ q < 10000) ?_ pre _ ⟨hr, by simp, fun q hq => by have := (List.mem_replicate.1 hq).2; omega⟩
  rintro ⟨r, qs⟩ x ⟨h1, h2, h3⟩
  refine ⟨Nat.mod_lt _ hd, by simp [dvStep, h2], fun q hq => ?_⟩
  simp only [dvStep] at hq
  rcases List.mem_or_eq_of_mem_set hq with hq | rfl
  · exact h3 q hq
  · have hzx := hz _ (List.getElem_mem x.isLt)
    have h4 := next_lt 10000 r zs[x.val].toNat d h1 (by omega)
    have h5 : (zs[x.val].toNat + 10000 * r) / d < 10000 := by rw [Nat.div_lt_iff_lt_mul hd, Nat.mul_comm 10000 d]; omega
    generalize (zs[x.val].toNat + 10000 * r) / d = y at *
    omega
/-- What the groups from the top down give. -/
theorem dvSt_dn (n d S : Nat) (hd : 0 < d) (zs : List Int) (hS : zs.length = S) (hz : ∀ i, i < S → zs[i]?.getD 0 = ((n / 10000 ^ i % 10000 : Nat) : Int)) (hr : n / 10000 ^ S < d) :
    (dvSt d zs (n / 10000 ^ S) (dn zs.length (Nat.le_refl _))).1 = n % d ∧ vz 10000 (dvSt d zs (n / 10000 ^ S) (dn zs.length (Nat.le_refl _))).2 = ((n / d : Nat) : Int) := by
  have key : ∀ (i : Nat) (hi : i ≤ zs.length) (pre : List (Fin zs.length)), (dvSt d zs (n / 10000 ^ S) pre).1 = n / 10000 ^ i % d → (dvSt d zs (n / 10000 ^ S) pre).2.length = zs.length →
      vz 10000 ((dvSt d zs (n / 10000 ^ S) pre).2.drop i) = ((n / 10000 ^ i / d : Nat) : Int) → (∀ j, j < i → (dvSt d zs (n / 10000 ^ S) pre).2[j]?.getD 0 = 0) →
      (dvSt d zs (n / 10000 ^ S) (pre ++ dn i hi)).1 = n % d ∧ vz 10000 (dvSt d zs (n / 10000 ^ S) (pre ++ dn i hi)).2 = ((n / d : Nat) : Int) := by
    intro i
    induction i with
    | zero => intro hi pre h1 h2 h3 h4; rw [dn, List.append_nil]; exact ⟨by simpa using h1, by simpa using h3⟩
    | succ i ih =>
      intro hi pre h1 h2 h3 h4
      rw [dn, show pre ++ (⟨i, hi⟩ :: dn i (Nat.le_of_succ_le hi)) = (pre ++ [⟨i, hi⟩]) ++ dn i (Nat.le_of_succ_le hi) by simp]
      have hstep := above_step 10000 (by decide) n i
      have hzi := hz i (by omega)
      rw [List.getElem?_eq_getElem hi, Option.getD_some] at hzi
      generalize n / 10000 ^ i = A at *
      generalize n / 10000 ^ (i + 1) = m at *
      have hA : A = 10000 * m + A % 10000 := by omega
      generalize A % 10000 = g at *
      have e1 : A / d = 10000 * (m / d) + (10000 * (m % d) + g) / d := by rw [hA]; exact (div_step 10000 m g d).resolve_right (by omega)
      have e2 : A % d = (10000 * (m % d) + g) % d := by rw [hA]; exact mod_step 10000 m g d
      have hst : dvSt d zs (n / 10000 ^ S) (pre ++ [⟨i, hi⟩]) = ((10000 * (m % d) + g) % d, (dvSt d zs (n / 10000 ^ S) pre).2.set i (((10000 * (m % d) + g) / d : Nat) : Int)) := by
        rw [dvSt_snoc, dvStep, h1]
        simp only [hzi, Int.toNat_natCast]
        rw [Nat.add_comm g]
      apply ih
      · rw [hst, e2]
      · rw [hst]; simpa using h2
      · rw [hst]
        simp only
        rw [List.drop_eq_getElem_cons (by simp; omega), List.getElem_set_self, List.drop_set_of_lt (by omega), vz, h3, e1]
        omega
      · intro j hj
        rw [hst]
        simp only
        rw [List.getElem?_set_ne (by omega)]
        exact h4 j (by omega)
  have := key zs.length (Nat.le_refl _) [] (by
      show n / 10000 ^ S = _
      rw [hS, Nat.mod_eq_of_lt hr]) (by simp [dvSt]) (by
      show vz 10000 ((List.replicate zs.length 0).drop zs.length) = _
      rw [hS, Nat.div_eq_of_lt hr, List.drop_eq_nil_of_le (by simp), vz]; rfl) (fun j hj => by
      show (List.replicate zs.length (0 : Int))[j]?.getD 0 = 0
      rw [List.getElem?_replicate, if_pos hj]; rfl)
  simpa using this
/-- Where a division begins: what is left above is less than the divisor. -/
theorem start_lt (n d : Nat) (hd : 0 < d) : n / 10000 ^ ((dz 10000 n).length - ((dz 10000 d).length - 1)) < d := by
  have h1 := dz_lt 10000 (by decide) n
  have hdp : (dz 10000 d).length ≠ 0 := by have := (dz_length_pos 10000 (by decide) d).2 (by omega); omega
  have h2 := pow_le_of_len 10000 (by decide) d ((dz 10000 d).length - 1) (by omega)
  refine Nat.lt_of_lt_of_le ?_ h2
  rw [Nat.div_lt_iff_lt_mul (Nat.pow_pos (by decide)), ← Nat.pow_add]
  exact Nat.lt_of_lt_of_le h1 (Nat.pow_le_pow_right (by decide) (by omega))
theorem take_digits (n S : Nat) (i : Nat) (hi : i < S) : ((dz 10000 n).take S)[i]?.getD 0 = ((n / 10000 ^ i % 10000 : Nat) : Int) := by
  rw [List.getElem?_take, if_pos hi, dz_getD 10000 (by decide)]
theorem cons_dz (g r : Nat) (_hg : g < 10000) : vz 10000 (((g : Nat) : Int) :: dz 10000 r) = ((g + 10000 * r : Nat) : Int) := by
  rw [vz, vz4]; omega
theorem mod_sub (x d : Nat) : x - d * (x / d) = x % d := by
  have := Nat.mod_add_div x d
  omega
end Go.Proofs.YtebjjgbdiabapaaGreatDoor
