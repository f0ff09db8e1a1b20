/- Division, the root and the texts of the reference, digit by digit: of no program. -/
import Derived.Test.YtebjjgbdiabapaaGreatDoorRfm
namespace Go.Proofs.YtebjjgbdiabapaaGreatDoor

/-- divided: the places below i are still 0, the ones from i on are the quotient's. -/
def QuoN (n d i : Nat) (qs : List Int) : Prop :=
  ∃ l, qs = List.replicate i 0 ++ l ∧ (∀ x ∈ l, 0 ≤ x ∧ x < 10) ∧ vz 10 l = ((n / 10 ^ i / d : Nat) : Int) ∧ i + l.length = (dz 10 n).length
theorem quoN_start (n d : Nat) : QuoN n d (dz 10 n).length (List.replicate (dz 10 n).length 0) := by
  refine ⟨[], by simp, by simp, ?_, by simp⟩
  rw [Nat.div_eq_of_lt (dz_lt 10 (by decide) n)]
  simp [vz]
theorem rem_start (n : Nat) : n / 10 ^ (dz 10 n).length = 0 := Nat.div_eq_of_lt (dz_lt 10 (by decide) n)
theorem rem_next (n d i : Nat) : 10 * (n / 10 ^ (i + 1) % d) + n / 10 ^ i % 10 = (n / 10 ^ i - 10 * (d * (n / 10 ^ (i + 1) / d))) := by
  have h := above_step 10 (by decide) n i
  have h2 := Nat.mod_add_div (n / 10 ^ (i + 1)) d
  omega
/-- While the i-th place is counted. -/
def CntN (n d i : Nat) (r q : Nat) (qs : List Int) : Prop :=
  ∃ l, qs = List.replicate i 0 ++ (q : Int) :: l ∧ (∀ x ∈ l, 0 ≤ x ∧ x < 10) ∧ vz 10 l = ((n / 10 ^ (i + 1) / d : Nat) : Int) ∧ i + 1 + l.length = (dz 10 n).length ∧
    r + q * d = 10 * (n / 10 ^ (i + 1) % d) + n / 10 ^ i % 10
theorem cntN_start (n d i : Nat) (qs : List Int) (h : QuoN n d (i + 1) qs) : CntN n d i (10 * (n / 10 ^ (i + 1) % d) + n / 10 ^ i % 10) 0 qs := by
  obtain ⟨l, h1, h2, h3, h4⟩ := h
  refine ⟨l, ?_, h2, h3, h4, by omega⟩
  rw [h1, List.replicate_succ', List.append_assoc]; rfl
theorem rep_set (i : Nat) (x v : Int) (l : List Int) : (List.replicate i 0 ++ x :: l).set i v = List.replicate i 0 ++ v :: l := by
  rw [List.set_append_right _ _ (by simp)]; simp
theorem rep_get (i : Nat) (x : Int) (l : List Int) : (List.replicate i 0 ++ x :: l)[i]?.getD 0 = x := by
  rw [List.getElem?_append_right (by simp)]; simp
theorem cntN_get (n d i r q : Nat) (qs : List Int) (h : CntN n d i r q qs) : qs[i]?.getD 0 = q ∧ i < qs.length := by
  obtain ⟨l, h1, _⟩ := h
  subst h1
  exact ⟨rep_get i q l, by simp⟩
theorem cntN_step (n d i r q : Nat) (qs : List Int) (h : CntN n d i r q qs) (hr : d ≤ r) : CntN n d i (r - d) (q + 1) (qs.set i ((q : Int) + 1)) := by
  obtain ⟨l, h1, h2, h3, h4, h5⟩ := h
  refine ⟨l, by rw [h1, rep_set]; rfl, h2, h3, h4, ?_⟩
  rw [Nat.add_mul]; omega
theorem cnt_lt (n d i : Nat) (hd : 0 < d) : 10 * (n / 10 ^ (i + 1) % d) + n / 10 ^ i % 10 < 10 * d := by
  have := Nat.mod_lt (n / 10 ^ (i + 1)) hd
  omega
theorem cntN_small (n d i r q : Nat) (qs : List Int) (hd : 0 < d) (h : CntN n d i r q qs) : q ≤ 9 := by
  obtain ⟨l, h1, h2, h3, h4, h5⟩ := h
  have := cnt_lt n d i hd
  by_cases hq : q ≤ 9
  · exact hq
  · have : 10 * d ≤ q * d := Nat.mul_le_mul_right _ (by omega)
    omega
theorem cntN_end (n d i r q : Nat) (qs : List Int) (hd : 0 < d) (h : CntN n d i r q qs) (hr : r < d) : QuoN n d i qs ∧ r = n / 10 ^ i % d := by
  have hq := cntN_small n d i r q qs hd h
  obtain ⟨l, h1, h2, h3, h4, h5⟩ := h
  have hs := above_step 10 (by decide) n i
  have hm := Nat.mod_add_div (n / 10 ^ (i + 1)) d
  generalize n / 10 ^ (i + 1) = m at *
  have e : n / 10 ^ i = r + d * (10 * (m / d) + q) := by
    rw [Nat.mul_add, Nat.mul_comm d q]
    have : d * (10 * (m / d)) = 10 * (d * (m / d)) := by rw [← Nat.mul_assoc, Nat.mul_comm d 10, Nat.mul_assoc]
    omega
  have hdiv : n / 10 ^ i / d = 10 * (m / d) + q := by
    rw [e, Nat.add_mul_div_left _ _ hd, Nat.div_eq_of_lt hr, Nat.zero_add]
  refine ⟨⟨(q : Int) :: l, h1, ?_, ?_, by simp; omega⟩, ?_⟩
  · intro x hx
    rcases List.mem_cons.1 hx with rfl | hx
    · omega
    · exact h2 x hx
  · rw [vz, h3, hdiv]; omega
  · rw [e, Nat.add_mul_mod_self_left, Nat.mod_eq_of_lt hr]
theorem quoN_end (n d : Nat) (qs : List Int) (h : QuoN n d 0 qs) : (∀ x ∈ qs, 0 ≤ x ∧ x < 10) ∧ vz 10 qs = ((n / d : Nat) : Int) := by
  obtain ⟨l, h1, h2, h3, h4⟩ := h
  rw [List.replicate_zero, List.nil_append] at h1
  subst h1
  rw [Nat.pow_zero, Nat.div_one] at h3
  exact ⟨h2, h3⟩

/-- The root's places from i on are found; the ones below are 0. -/
def RootN (n i : Nat) (zs : List Int) : Prop :=
  ∃ l R : _, zs = List.replicate i 0 ++ l ∧ (∀ x ∈ l, 0 ≤ x ∧ x < 10) ∧ vz 10 l = ((R : Nat) : Int) ∧ (R * 10 ^ i) * (R * 10 ^ i) ≤ n ∧ n < ((R + 1) * 10 ^ i) * ((R + 1) * 10 ^ i)
/-- While a digit is tried at place i. -/
def TryN (n i d : Nat) (zs : List Int) : Prop :=
  ∃ l R : _, zs = List.replicate i 0 ++ ((d : Nat) : Int) :: l ∧ (∀ x ∈ l, 0 ≤ x ∧ x < 10) ∧ vz 10 l = ((R : Nat) : Int) ∧ (R * 10 * 10 ^ i) * (R * 10 * 10 ^ i) ≤ n ∧ n < ((R * 10 + d + 1) * 10 ^ i) * ((R * 10 + d + 1) * 10 ^ i) ∧ d ≤ 9
theorem rootN_start (n : Nat) : RootN n (((dz 10 n).length + 1) / 2) (List.replicate (((dz 10 n).length + 1) / 2) 0) := by
  refine ⟨[], 0, by simp, by simp, by simp [vz], by simp, ?_⟩
  rw [Nat.zero_add, Nat.one_mul, ← Nat.pow_add]
  have h := dz_lt 10 (by decide) n
  have h2 : 10 ^ (dz 10 n).length ≤ 10 ^ (((dz 10 n).length + 1) / 2 + ((dz 10 n).length + 1) / 2) := Nat.pow_le_pow_right (by decide) (by omega)
  omega
theorem tryN_start (n i : Nat) (zs : List Int) (h : RootN n (i + 1) zs) : TryN n i 9 (zs.set i 9) ∧ i < zs.length := by
  obtain ⟨l, R, h1, h2, h3, h4, h5⟩ := h
  rw [List.replicate_succ', List.append_assoc] at h1
  have e : ∀ x : Nat, x * 10 ^ (i + 1) = x * 10 * 10 ^ i := fun x => by rw [Nat.pow_succ, Nat.mul_assoc, Nat.mul_comm 10]
  refine ⟨⟨l, R, ?_, h2, h3, ?_, ?_, by decide⟩, by rw [h1]; simp⟩
  · rw [h1]; exact rep_set i 0 9 l
  · rw [← e]; exact h4
  · rw [e, Nat.add_mul] at h5; exact h5
theorem try_cast (R d i : Nat) : (((d : Nat) : Int) + 10 * ((R : Nat) : Int)) * 10 ^ i = (((R * 10 + d) * 10 ^ i : Nat) : Int) := by
  rw [Int.natCast_mul, Int.natCast_pow]
  congr 1
  omega
theorem tryN_val (n i d : Nat) (zs : List Int) (h : TryN n i d zs) : ∃ v : Nat, vz 10 zs = v ∧ (∀ x ∈ zs, 0 ≤ x ∧ x < 10) ∧ zs[i]?.getD 0 = d ∧ i < zs.length := by
  obtain ⟨l, R, h1, h2, h3, h4, h5, h6⟩ := h
  subst h1
  refine ⟨(R * 10 + d) * 10 ^ i, ?_, ?_, rep_get i d l, by simp⟩
  · rw [vz_rep, vz, h3, Int.mul_comm]
    exact try_cast R _ i
  · intro x hx
    rw [List.mem_append, List.mem_cons] at hx
    rcases hx with hx | rfl | hx
    · have := (List.mem_replicate.1 hx).2; omega
    · omega
    · exact h2 x hx
theorem tryN_step (n i d v : Nat) (zs : List Int) (h : TryN n i (d + 1) zs) (hv : vz 10 zs = v) (hgt : n < v * v) : TryN n i d (zs.set i ((d : Nat) : Int)) := by
  obtain ⟨l, R, h1, h2, h3, h4, h5, h6⟩ := h
  have hval : (v : Int) = (((R * 10 + (d + 1)) * 10 ^ i : Nat) : Int) := by
    rw [← hv, h1, vz_rep, vz, h3, Int.mul_comm]
    exact try_cast R _ i
  have hv2 : v = (R * 10 + (d + 1)) * 10 ^ i := by omega
  refine ⟨l, R, by rw [h1, rep_set], h2, h3, h4, ?_, by omega⟩
  rw [← Nat.add_assoc] at hv2
  rw [← hv2]; exact hgt
theorem tryN_end (n i d v : Nat) (zs : List Int) (h : TryN n i d zs) (hv : vz 10 zs = v) (hle : d = 0 ∨ v * v ≤ n) : RootN n i zs := by
  obtain ⟨l, R, h1, h2, h3, h4, h5, h6⟩ := h
  have hval : (v : Int) = (((R * 10 + d) * 10 ^ i : Nat) : Int) := by
    rw [← hv, h1, vz_rep, vz, h3, Int.mul_comm]
    exact try_cast R _ i
  have hv2 : v = (R * 10 + d) * 10 ^ i := by omega
  refine ⟨(d : Int) :: l, R * 10 + d, h1, ?_, ?_, ?_, h5⟩
  · intro x hx
    rcases List.mem_cons.1 hx with rfl | hx
    · omega
    · exact h2 x hx
  · rw [vz, h3]; omega
  · rcases hle with rfl | hle
    · exact h4
    · rw [← hv2]; exact hle
theorem rootN_end (n : Nat) (zs : List Int) (h : RootN n 0 zs) : ∃ s : Nat, (∀ x ∈ zs, 0 ≤ x ∧ x < 10) ∧ vz 10 zs = s ∧ s * s ≤ n ∧ n < (s + 1) * (s + 1) := by
  obtain ⟨l, R, h1, h2, h3, h4, h5⟩ := h
  rw [List.replicate_zero, List.nil_append] at h1
  subst h1
  rw [Nat.pow_zero, Nat.mul_one] at h4
  rw [Nat.pow_zero, Nat.mul_one] at h5
  exact ⟨R, h2, h3, h4, h5⟩

/-- FromInt, a round: the digits so far, and what is left. -/
theorem from_round (m : Int) (hm : m ≠ 0) (gs : List Int) (N : Nat) (h : gs ++ dz 10 m.natAbs = dz 10 N) : (gs ++ [((m.tmod 10).natAbs : Int)]) ++ dz 10 (m.tdiv 10).natAbs = dz 10 N := by
  have hne : m.natAbs ≠ 0 := by omega
  rw [← h, dz_pos 10 (by decide) _ hne, List.append_assoc]
  have e1 : (m.tmod 10).natAbs = m.natAbs % 10 := by rw [Int.natAbs_tmod]; rfl
  have e2 : (m.tdiv 10).natAbs = m.natAbs / 10 := by rw [Int.natAbs_tdiv]; rfl
  rw [e1, e2]
  rfl
end Go.Proofs.YtebjjgbdiabapaaGreatDoor
