/- Counting the bits of a word by adding neighbours: what the library's OnesCount64 reckons. -/
import Derived.Test.YtipfafglbkbafaaDoorGm
namespace Go.Proofs.YtipfafglbkbafaaDoor
set_option linter.unusedVariables false
set_option linter.unusedSimpArgs false

/-- Bytes, the lowest first, as one number. -/
def val : List Nat → Nat
  | [] => 0
  | a :: l => a + 256 * val l
def mask (c : Nat) : Nat → Nat
  | 0 => 0
  | n + 1 => c + 256 * mask c n
theorem and_split {a r m M : Nat} (ha : a < 256) (hm : m < 256) : (a + 256 * r) &&& (m + 256 * M) = (a &&& m) + 256 * (r &&& M) := by
  have h1 : ((a + 256 * r) &&& (m + 256 * M)) % 2 ^ 8 = a &&& m := by
    rw [Nat.and_mod_two_pow]
    congr 1 <;> omega
  have h2 : ((a + 256 * r) &&& (m + 256 * M)) / 2 ^ 8 = r &&& M := by
    rw [Nat.and_div_two_pow]
    congr 1 <;> omega
  omega
def g1 (a : Nat) : Nat := (a / 2 &&& 85) + (a &&& 85)
def g2 (a : Nat) : Nat := (a / 4 &&& 51) + (a &&& 51)
def g3 (a : Nat) : Nat := (a / 16 + a) % 16
def pc8 (a : Nat) : Nat := cntTo (fun x => a.testBit x) 8
theorem low1 : ∀ a : Fin 256, ∀ t : Fin 2, (a.val / 2 + 128 * t.val) &&& 85 = a.val / 2 &&& 85 := by decide +kernel
theorem low2 : ∀ a : Fin 256, ∀ t : Fin 4, (a.val / 4 + 64 * t.val) &&& 51 = a.val / 4 &&& 51 := by decide +kernel
theorem g1_lt : ∀ a : Fin 256, g1 a.val < 256 := by decide +kernel
theorem g2_ok : ∀ a : Fin 256, g2 (g1 a.val) < 256 ∧ g2 (g1 a.val) / 16 ≤ 4 ∧ g2 (g1 a.val) % 16 ≤ 4 := by decide +kernel
theorem g3_ok : ∀ a : Fin 256, g3 (g2 (g1 a.val)) = pc8 a.val ∧ pc8 a.val ≤ 8 := by decide +kernel
theorem step1 : ∀ l : List Nat, (∀ a ∈ l, a < 256) → (val l / 2 &&& mask 85 l.length) + (val l &&& mask 85 l.length) = val (l.map g1)
  | [], _ => rfl
  | a :: l, h => by
    have ha := h a (List.mem_cons_self ..)
    have ih := step1 l (fun b hb => h b (List.mem_cons_of_mem _ hb))
    have hl := low1 ⟨a, ha⟩ ⟨val l % 2, Nat.mod_lt _ (by decide)⟩
    show ((a + 256 * val l) / 2 &&& (85 + 256 * mask 85 l.length)) + ((a + 256 * val l) &&& (85 + 256 * mask 85 l.length)) = g1 a + 256 * val (l.map g1)
    rw [show (a + 256 * val l) / 2 = (a / 2 + 128 * (val l % 2)) + 256 * (val l / 2) by omega, and_split (by omega) (by decide), and_split ha (by decide), ← ih]
    dsimp only at hl
    rw [hl]
    unfold g1
    omega
theorem step2 : ∀ l : List Nat, (∀ a ∈ l, a < 256) → (val l / 4 &&& mask 51 l.length) + (val l &&& mask 51 l.length) = val (l.map g2)
  | [], _ => rfl
  | a :: l, h => by
    have ha := h a (List.mem_cons_self ..)
    have ih := step2 l (fun b hb => h b (List.mem_cons_of_mem _ hb))
    have hl := low2 ⟨a, ha⟩ ⟨val l % 4, Nat.mod_lt _ (by decide)⟩
    show ((a + 256 * val l) / 4 &&& (51 + 256 * mask 51 l.length)) + ((a + 256 * val l) &&& (51 + 256 * mask 51 l.length)) = g2 a + 256 * val (l.map g2)
    rw [show (a + 256 * val l) / 4 = (a / 4 + 64 * (val l % 4)) + 256 * (val l / 4) by omega, and_split (by omega) (by decide), and_split ha (by decide), ← ih]
    dsimp only at hl
    rw [hl]
    unfold g2
    omega
theorem step3 : ∀ l : List Nat, (∀ a ∈ l, a < 256 ∧ a / 16 ≤ 4 ∧ a % 16 ≤ 4) → (val l / 16 + val l) &&& mask 15 l.length = val (l.map g3)
  | [], _ => rfl
  | a :: l, h => by
    have ha := h a (List.mem_cons_self ..)
    have ih := step3 l (fun b hb => h b (List.mem_cons_of_mem _ hb))
    have hv : val l % 16 ≤ 4 := by
      cases l with
      | nil => simp [val]
      | cons b l' =>
        have := h b (List.mem_cons_of_mem _ (List.mem_cons_self ..))
        unfold val; omega
    show ((a + 256 * val l) / 16 + (a + 256 * val l)) &&& (15 + 256 * mask 15 l.length) = g3 a + 256 * val (l.map g3)
    rw [show (a + 256 * val l) / 16 + (a + 256 * val l) = (a / 16 + a + 16 * (val l % 16)) + 256 * (val l / 16 + val l) by omega, and_split (by omega) (by decide), ih,
      show (15 : Nat) = 2 ^ 4 - 1 from rfl, Nat.and_two_pow_sub_one_eq_mod]
    unfold g3
    omega
theorem val_lt : ∀ l : List Nat, (∀ a ∈ l, a < 256) → val l < 256 ^ l.length
  | [], _ => by decide
  | a :: l, h => by
    have := val_lt l (fun b hb => h b (List.mem_cons_of_mem _ hb))
    have ha := h a (List.mem_cons_self ..)
    show a + 256 * val l < 256 ^ (l.length + 1)
    rw [Nat.pow_succ]; omega
/-- A word as its eight bytes. -/
def bytes : Nat → Nat → List Nat
  | 0, _ => []
  | n + 1, x => x % 256 :: bytes n (x / 256)
theorem bytes_len : ∀ n x, (bytes n x).length = n
  | 0, _ => rfl
  | n + 1, x => by show (bytes n (x / 256)).length + 1 = n + 1; rw [bytes_len n]
theorem bytes_lt : ∀ n x, ∀ a ∈ bytes n x, a < 256
  | 0, _, a, h => by cases h
  | n + 1, x, a, h => by
    rcases List.mem_cons.1 h with rfl | h
    · exact Nat.mod_lt _ (by decide)
    · exact bytes_lt n _ a h
theorem bytes_val : ∀ n x, x < 256 ^ n → val (bytes n x) = x
  | 0, x, h => by simp at h; subst h; rfl
  | n + 1, x, h => by
    rw [Nat.pow_succ] at h
    have := bytes_val n (x / 256) (by omega)
    show x % 256 + 256 * val (bytes n (x / 256)) = x
    rw [this]; omega
def sumL : List Nat → Nat
  | [] => 0
  | a :: l => a + sumL l
theorem cnt_val : ∀ l : List Nat, (∀ a ∈ l, a < 256) → cntTo (fun x => (val l).testBit x) (8 * l.length) = sumL (l.map pc8)
  | [], _ => rfl
  | a :: l, h => by
    have ha := h a (List.mem_cons_self ..)
    have ih := cnt_val l (fun b hb => h b (List.mem_cons_of_mem _ hb))
    show cntTo (fun x => (a + 256 * val l).testBit x) (8 * (l.length + 1)) = pc8 a + sumL (l.map pc8)
    rw [show 8 * (l.length + 1) = 8 + 8 * l.length by omega, cnt_split]
    have h1 : cntTo (fun x => (a + 256 * val l).testBit (8 + x)) (8 * l.length) = cntTo (fun x => (val l).testBit x) (8 * l.length) := cnt_congr (fun x _ => by
      rw [Nat.add_comm 8 x, Nat.testBit_add]
      congr 1
      omega)
    have h2 : cntTo (fun x => (a + 256 * val l).testBit x) 8 = pc8 a := cnt_congr (fun x hx => by
      rw [Nat.testBit_eq_decide_div_mod_eq, Nat.testBit_eq_decide_div_mod_eq]
      congr 1
      have : (a + 256 * val l) / 2 ^ x % 2 = a / 2 ^ x % 2 := by
        match x, hx with
        | 0, _ | 1, _ | 2, _ | 3, _ | 4, _ | 5, _ | 6, _ | 7, _ => simp only [Nat.reducePow]; omega
      rw [this])
    rw [h1, h2, ih]; omega
/-- The word of the library's first three steps. -/
def w3 (x : Nat) : Nat :=
  let y := (x / 2 &&& 6148914691236517205) + (x &&& 6148914691236517205)
  let z := (y / 4 &&& 3689348814741910323) + (y &&& 3689348814741910323)
  (z / 16 + z) &&& 1085102592571150095
theorem mask85 : mask 85 8 = 6148914691236517205 := by decide
theorem mask51 : mask 51 8 = 3689348814741910323 := by decide
theorem mask15 : mask 15 8 = 1085102592571150095 := by decide
theorem map_ok (l : List Nat) (g : Nat → Nat) (P Q : Nat → Prop) (h : ∀ a ∈ l, P a) (hg : ∀ a, P a → Q (g a)) : ∀ a ∈ l.map g, Q a := by
  intro a ha
  obtain ⟨b, hb, rfl⟩ := List.mem_map.1 ha
  exact hg b (h b hb)
structure Words (x y z v : Nat) : Prop where
  hy : (x / 2 &&& 6148914691236517205) + (x &&& 6148914691236517205) = y
  hz : (y / 4 &&& 3689348814741910323) + (y &&& 3689348814741910323) = z
  hv : (z / 16 + z) &&& 1085102592571150095 = v
  by64 : y < 18446744073709551616
  bz64 : z < 18446744073709551616
  bz68 : z / 16 + z < 18446744073709551616
  bv : v < 651061555542690058
  fin : (v + v / 256 + (v + v / 256) / 65536 + (v + v / 256 + (v + v / 256) / 65536) / 4294967296) % 128 = cntTo (fun k => x.testBit k) 64
theorem adds {a0 a1 a2 a3 a4 a5 a6 a7 v : Nat} (h0 : a0 ≤ 8) (h1 : a1 ≤ 8) (h2 : a2 ≤ 8) (h3 : a3 ≤ 8) (h4 : a4 ≤ 8) (h5 : a5 ≤ 8) (h6 : a6 ≤ 8) (h7 : a7 ≤ 8)
    (hv : v = a0 + 256 * (a1 + 256 * (a2 + 256 * (a3 + 256 * (a4 + 256 * (a5 + 256 * (a6 + 256 * (a7 + 256 * 0)))))))) :
    (v + v / 256 + (v + v / 256) / 65536 + (v + v / 256 + (v + v / 256) / 65536) / 4294967296) % 128 = a0 + (a1 + (a2 + (a3 + (a4 + (a5 + (a6 + (a7 + 0))))))) := by
  have e1 : v / 256 = a1 + 256 * (a2 + 256 * (a3 + 256 * (a4 + 256 * (a5 + 256 * (a6 + 256 * a7))))) := by omega
  obtain ⟨p, hp⟩ : ∃ p, v + v / 256 = p := ⟨_, rfl⟩
  rw [hp]
  have e2 : p = (a0 + a1) + 256 * ((a1 + a2) + 256 * ((a2 + a3) + 256 * ((a3 + a4) + 256 * ((a4 + a5) + 256 * ((a5 + a6) + 256 * ((a6 + a7) + 256 * a7)))))) := by omega
  clear e1 hp hv
  have e3 : p / 65536 = (a2 + a3) + 256 * ((a3 + a4) + 256 * ((a4 + a5) + 256 * ((a5 + a6) + 256 * ((a6 + a7) + 256 * a7)))) := by omega
  obtain ⟨q, hq⟩ : ∃ q, p + p / 65536 = q := ⟨_, rfl⟩
  rw [hq]
  have e4 : q = (a0 + a1 + a2 + a3) + 256 * ((a1 + a2 + a3 + a4) + 256 * ((a2 + a3 + a4 + a5) + 256 * ((a3 + a4 + a5 + a6) + 256 * ((a4 + a5 + a6 + a7) + 256 * ((a5 + a6 + a7) + 256 * ((a6 + a7) + 256 * a7)))))) := by omega
  clear e2 e3 hq
  have e5 : q / 4294967296 = (a4 + a5 + a6 + a7) + 256 * ((a5 + a6 + a7) + 256 * ((a6 + a7) + 256 * a7)) := by omega
  rw [e5, e4]
  omega
theorem words (x : Nat) (hx : x < 18446744073709551616) : ∃ y z v, Words x y z v := by
  have h0 := bytes_val 8 x hx
  have hl := bytes_len 8 x
  have hlt := bytes_lt 8 x
  have hc := cnt_val _ hlt
  have e1 := step1 _ hlt
  have lt1 : ∀ a ∈ (bytes 8 x).map g1, a < 256 := map_ok _ _ _ _ hlt (fun a ha => g1_lt ⟨a, ha⟩)
  have e2 := step2 _ lt1
  have ok2 : ∀ a ∈ ((bytes 8 x).map g1).map g2, a < 256 ∧ a / 16 ≤ 4 ∧ a % 16 ≤ 4 := by
    rw [List.map_map]
    exact map_ok _ _ _ (fun a => a < 256 ∧ a / 16 ≤ 4 ∧ a % 16 ≤ 4) hlt (fun a ha => g2_ok ⟨a, ha⟩)
  have e3 := step3 _ ok2
  have b1 := val_lt _ lt1
  have b2 := val_lt _ (fun a ha => (ok2 a ha).1)
  simp only [List.length_map, hl] at e1 e2 e3 b1 b2 hc
  rw [mask85, h0] at e1
  rw [mask51] at e2
  rw [mask15] at e3
  rw [h0] at hc
  have e4 : (((bytes 8 x).map g1).map g2).map g3 = (bytes 8 x).map pc8 := by
    rw [List.map_map, List.map_map]
    exact List.map_congr_left (fun a ha => (g3_ok ⟨a, hlt a ha⟩).1)
  have le8 : ∀ a ∈ (bytes 8 x).map pc8, a ≤ 8 := map_ok _ _ _ (fun a => a ≤ 8) hlt (fun a ha => (g3_ok ⟨a, ha⟩).2)
  rw [e4] at e3
  have hl2 : ((bytes 8 x).map pc8).length = 8 := by rw [List.length_map, hl]
  have b3 : val (((bytes 8 x).map g1).map g2) / 16 + val (((bytes 8 x).map g1).map g2) < 18446744073709551616 := by
    have key : ∀ l : List Nat, (∀ a ∈ l, a < 256 ∧ a / 16 ≤ 4 ∧ a % 16 ≤ 4) → val l * 15 ≤ 4 * (256 ^ l.length - 1) := by
      intro l
      induction l with
      | nil => intro _; simp [val]
      | cons a l ih =>
        intro h
        have h1 := ih (fun b hb => h b (List.mem_cons_of_mem _ hb))
        have h2 := h a (List.mem_cons_self ..)
        have h3 : 0 < 256 ^ l.length := Nat.pow_pos (by decide)
        show (a + 256 * val l) * 15 ≤ 4 * (256 ^ (l.length + 1) - 1)
        rw [Nat.pow_succ]
        omega
    have := key _ ok2
    simp only [List.length_map, hl] at this
    omega
  generalize val (((bytes 8 x).map g1).map g2) = z at *
  generalize val ((bytes 8 x).map g1) = y at *
  generalize (bytes 8 x).map pc8 = p at *
  match p, hl2 with
  | [a0, a1, a2, a3, a4, a5, a6, a7], _ =>
    simp only [List.mem_cons, List.not_mem_nil, or_false, forall_eq_or_imp, forall_eq] at le8
    obtain ⟨l0, l1, l2, l3, l4, l5, l6, l7⟩ := le8
    simp only [val, sumL] at e3 hc
    refine ⟨y, z, _, e1, e2, rfl, b1, b2, b3, ?_, ?_⟩
    · rw [e3]; omega
    · rw [e3]
      show _ = cntTo (fun k => x.testBit k) (8 * 8)
      rw [hc]
      exact adds l0 l1 l2 l3 l4 l5 l6 l7 rfl
theorem cnt_low (x : Nat) (h : x < 281474976710656) : cntTo (fun k => x.testBit k) 64 = cntTo (fun k => x.testBit k) 48 := by
  rw [show (64 : Nat) = 48 + 16 from rfl, cnt_split]
  have : cntTo (fun k => x.testBit (48 + k)) 16 = 0 := cnt_zero.2 (fun k _ => Nat.testBit_lt_two_pow (Nat.lt_of_lt_of_le h (show 2 ^ 48 ≤ 2 ^ (48 + k) from Nat.pow_le_pow_right (by decide) (by omega))))
  rw [this]; omega
end Go.Proofs.YtipfafglbkbafaaDoor
