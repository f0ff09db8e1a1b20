/- Every slice of rows is an area, or none. -/
import Derived.Test.YtbgdlfkeimaaiaaDoorLn
namespace Go.Proofs.YtbgdlfkeimaaiaaDoor
open Go.RowKit
set_option linter.unusedSimpArgs false
set_option linter.unusedVariables false
theorem bits_of {n a : Nat} (ha : a < 2 ^ n) : bitsTo (fun x => a.testBit x) n = a :=
  ext_bits (bitsTo_lt _ n) ha (fun x hx => by rw [bitsTo_bit]; simp [hx])
theorem rows_of {l : List Nat} (hl : l.length = 24) (h : ∀ r ∈ l, r < 281474976710656) : ∃ f : Ar, rowsOf f = l := by
  refine ⟨fun x y => (l.getD y 0).testBit x, ?_⟩
  apply List.ext_getElem?
  intro y
  by_cases hy : y < 24
  · rw [rows_at _ hy]
    have h2 : l[y]? = some (l[y]'(by omega)) := List.getElem?_eq_getElem _
    have h3 : l.getD y 0 = l[y]'(by omega) := by rw [List.getD_eq_getElem?_getD, h2]; rfl
    have h4 := bits_of (n := 48) (h _ (List.getElem_mem (show y < l.length by omega)))
    rw [h2]
    refine congrArg some (Eq.trans ?_ h4)
    exact bits_congr (fun x _ => by show (l.getD y 0).testBit x = _; rw [h3])
  · rw [List.getElem?_eq_none (by rw [rows_len]; omega), List.getElem?_eq_none (by omega)]

theorem is_ex (zs : List Int) : ∃ o, Is zs o := by
  by_cases h : zs.length = 24 ∧ ∀ z ∈ zs, inR z
  · obtain ⟨f, hf⟩ := rows_of (l := zs.map Int.toNat) (by rw [List.length_map]; exact h.1) (by
      intro r hr
      obtain ⟨z, hz, rfl⟩ := List.mem_map.1 hr
      have := h.2 z hz
      unfold inR at this; omega)
    refine ⟨some f, ?_⟩
    show zs = rz f
    unfold rz
    rw [hf, List.map_map]
    symm
    have : ∀ z ∈ zs, (Int.ofNat ∘ Int.toNat) z = z := fun z hz => by
      have := (h.2 z hz).1
      show ((z.toNat : Nat) : Int) = z
      omega
    rw [List.map_congr_left this, List.map_id']
  · exact ⟨none, h⟩
end Go.Proofs.YtbgdlfkeimaaiaaDoor
