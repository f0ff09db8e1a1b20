/- The text of a number out of its groups of four digits: of no program. -/
import Derived.Test.YtebjjgbdiabapaaGreatDoorTxt
import Derived.Test.YtebjjgbdiabapaaGreatDoorAri
import Derived.Test.YtebjjgbdiabapaaGreatDoorBwd
import Derived.Lib.TrimByte
namespace Go.Proofs.YtebjjgbdiabapaaGreatDoor

theorem snoc_ind {α : Type} {p : List α → Prop} (h0 : p []) (h1 : ∀ l x, p l → p (l ++ [x])) (l : List α) : p l := by
  rw [← List.reverse_reverse l]
  induction l.reverse with
  | nil => exact h0
  | cons x l ih => rw [List.reverse_cons]; exact h1 _ _ ih
/-- The four digits of a group, lowest first. -/
def d4 (g : Int) : List Int := [g % 10, g / 10 % 10, g / 100 % 10, g / 1000 % 10]
def blk4 (g : Int) : List UInt8 := txtD (d4 g)
theorem d4_digit (g : Int) : ∀ d ∈ d4 g, 0 ≤ d ∧ d < 10 := by
  intro d hd
  simp only [d4, List.mem_cons, List.not_mem_nil, or_false] at hd
  rcases hd with rfl | rfl | rfl | rfl <;> omega
theorem vz_d4 (g v : Int) (h0 : 0 ≤ g) (h1 : g < 10000) : vt 10 (d4 g) v = g + 10000 * v := by
  simp only [d4, vt]
  omega
theorem vz_flat : ∀ gs : List Int, (∀ g ∈ gs, 0 ≤ g ∧ g < 10000) → vz 10 (gs.flatMap d4) = vz 10000 gs
  | [], _ => rfl
  | g :: gs, h => by
    have hg := h g (List.mem_cons_self ..)
    rw [List.flatMap_cons, vz_append, vz_d4 _ _ hg.1 hg.2, vz_flat gs (fun x hx => h x (List.mem_cons_of_mem _ hx)), vz]
theorem txtD_append (a b : List Int) : txtD (a ++ b) = txtD b ++ txtD a := by simp [txtD]
theorem trimD (F : List Int) : (∀ d ∈ F, 0 ≤ d ∧ d < 10) → (txtD F).dropWhile (· == 48) = txtD (dz 10 (vz 10 F).toNat) := by
  refine snoc_ind (p := fun F => (∀ d ∈ F, 0 ≤ d ∧ d < 10) → (txtD F).dropWhile (· == 48) = txtD (dz 10 (vz 10 F).toNat)) ?_ ?_ F
  · intro _; simp [txtD, vz, dz_zero]
  · intro F d ih h
    have hd := h d (by simp)
    have e : txtD (F ++ [d]) = chr d :: txtD F := by rw [txtD_append]; rfl
    have hc := chr_toNat d hd.1 hd.2
    rw [e]
    by_cases h0 : d = 0
    · subst h0
      have ec : chr 0 = 48 := by decide
      rw [ec, List.dropWhile_cons_of_pos (by decide), ih (fun x hx => h x (by simp [hx]))]
      rw [vz_append, vz, show vz 10 [] = 0 from rfl, Int.mul_zero, Int.add_zero, vt_zero]
    · have hne : ¬ (chr d == 48) = true := by
        intro hh
        have : chr d = 48 := by simpa using hh
        rw [this] at hc
        have h48 : ((48 : UInt8).toNat : Int) = 48 := by decide
        omega
      rw [List.dropWhile_cons, if_neg hne, ← e]
      congr 1
      apply canon_all 10 (by decide) _ h
      right
      simp [h0]
/-- What has been written when the groups have come from the top down. -/
def accT (zs : List Int) (pre : List (Fin zs.length)) : List UInt8 := pre.flatMap (fun x => blk4 zs[x.val])
theorem accT_snoc (zs : List Int) (pre : List (Fin zs.length)) (x : Fin zs.length) : accT zs (pre ++ [x]) = accT zs pre ++ blk4 zs[x.val] := by simp [accT]
theorem accT_length (zs : List Int) (pre : List (Fin zs.length)) : (accT zs pre).length = 4 * pre.length := by
  refine snoc_ind (p := fun pre => (accT zs pre).length = 4 * pre.length) rfl ?_ pre
  intro pre x ih
  rw [accT_snoc, List.length_append, ih]; simp [blk4, txtD, d4]; omega
theorem accT_dn (zs : List Int) : ∀ (i : Nat) (h : i ≤ zs.length), accT zs (dn i h) = txtD ((zs.take i).flatMap d4)
  | 0, _ => by simp [accT, dn, txtD]
  | i + 1, h => by
    rw [dn, List.take_succ_eq_append_getElem h, List.flatMap_append, txtD_append]
    show blk4 zs[i] ++ accT zs (dn i _) = _
    rw [accT_dn zs i]
    simp [blk4]
theorem text_done (n : Nat) : (Go.Lib.trimLeftB (accT (dz 10000 n) (dn (dz 10000 n).length (Nat.le_refl _))) 48) = if n = 0 then [] else txt n := by
  unfold Go.Lib.trimLeftB
  rw [accT_dn, List.take_length, trimD _ (fun d hd => by
    rw [List.mem_flatMap] at hd
    obtain ⟨g, _, hd⟩ := hd
    exact d4_digit g d hd), vz_flat _ (dig4 n), vz4, Int.toNat_natCast]
  split
  · next h => subst h; rw [dz_zero]; rfl
  · next h => unfold txt; rw [if_neg h]
theorem itoa_group (g : Nat) (h : g < 10000) : Go.Lib.itoa ((10000 + g : Nat) : Int) = 49 :: blk4 g := by
  unfold Go.Lib.itoa
  rw [if_neg (by omega), Int.toNat_natCast]
  rw [Go.Lib.decDigits, dif_neg (by omega), Go.Lib.decDigits, dif_neg (by omega), Go.Lib.decDigits, dif_neg (by omega), Go.Lib.decDigits, dif_neg (by omega), Go.Lib.decDigits, dif_pos (by omega)]
  have e1 : (10000 + g) / 10 / 10 / 10 / 10 = 1 := by omega
  have e2 : (10000 + g) / 10 / 10 / 10 % 10 = g / 1000 % 10 := by omega
  have e3 : (10000 + g) / 10 / 10 % 10 = g / 100 % 10 := by omega
  have e4 : (10000 + g) / 10 % 10 = g / 10 % 10 := by omega
  have e5 : (10000 + g) % 10 = g % 10 := by omega
  rw [e1, e2, e3, e4, e5]
  have c : ∀ x : Nat, chr ((x : Nat) : Int) = UInt8.ofNat (48 + x) := fun x => by unfold chr; rw [Int.toNat_natCast]
  have f1 : (g : Int) / 1000 % 10 = ((g / 1000 % 10 : Nat) : Int) := by omega
  have f2 : (g : Int) / 100 % 10 = ((g / 100 % 10 : Nat) : Int) := by omega
  have f3 : (g : Int) / 10 % 10 = ((g / 10 % 10 : Nat) : Int) := by omega
  have f4 : (g : Int) % 10 = ((g % 10 : Nat) : Int) := by omega
  unfold blk4 d4 txtD
  rw [f1, f2, f3, f4]
  simp only [List.map_cons, List.map_nil, c]
  rfl
end Go.Proofs.YtebjjgbdiabapaaGreatDoor
