/- Of globe's texts: one cell more, a made row of 24. -/
import Derived.Test.YtbgdlfkeimaaiaaDoorGd
namespace Go.Proofs.YtbgdlfkeimaaiaaDoor
open Go.RowKit
set_option linter.unusedVariables false
set_option linter.unusedSimpArgs false
/-- One bit more. -/
theorem bits_put (f : Nat → Bool) {n k : Nat} (hk : k < n) : bitsTo f n ||| 2 ^ k = bitsTo (fun x => f x || x == k) n := by
  have h2 : 2 ^ k < 2 ^ n := Nat.pow_lt_pow_right (by decide) hk
  refine ext_bits (Nat.or_lt_two_pow (bitsTo_lt _ n) h2) (bitsTo_lt _ n) (fun x hx => ?_)
  rw [Nat.testBit_or, bitsTo_bit, bitsTo_bit, Nat.testBit_two_pow]
  simp only [hx, decide_true, Bool.true_and]
  congr 1
  by_cases e : x = k
  · subst e; simp
  · have : k ≠ x := fun h => e h.symm
    simp [e, this]

theorem i64_or_nat (a b : Nat) (ha : a < 2 ^ 63) (hb : b < 2 ^ 63) : bits .or .i64 (a : Int) (b : Int) = ((a ||| b : Nat) : Int) := by
  have hx : a ||| b < 2 ^ 63 := Nat.or_lt_two_pow ha hb
  have h1 : (BitVec.ofInt 64 (a : Int)).toNat = a := by
    rw [BitVec.ofInt_natCast, BitVec.toNat_ofNat]; exact Nat.mod_eq_of_lt (by omega)
  have h2 : (BitVec.ofInt 64 (b : Int)).toNat = b := by
    rw [BitVec.ofInt_natCast, BitVec.toNat_ofNat]; exact Nat.mod_eq_of_lt (by omega)
  show IntKind.i64.wrap ((BitVec.ofInt 64 (a : Int) ||| BitVec.ofInt 64 (b : Int)).toNat : Int) = _
  rw [BitVec.toNat_or, h1, h2, IntKind.wrap_i64]
  omega
theorem SA.mk {W : World} {b o : Nat} {f : Ar} (hb : b < W.heap.size) (hc : ∀ y, y < 24 → W.cell? ⟨b, o + y, none⟩ = some (iV (rowOf f y))) : SA W (some ⟨b, o, none⟩) 24 f := by
  refine ⟨(rz_len f).symm, by decide, fun z hz => by have := rz_mem f z hz; omega, .inr ⟨b, o, rfl, hb, fun i hi => ?_⟩⟩
  rw [hc i hi, rz_at f hi]
theorem HasF.sa {W : World} {g : Nat} {t : TypeId} {f : Ar} (h : HasF W g t f) : SA W (some ⟨g, 0, none⟩) 24 f :=
  SA.mk h.lt (fun y hy => by rw [Nat.zero_add]; exact h.cell hy)

theorem HasF.other {w : World} {b c : Nat} {t : TypeId} {f : Ar} (h : HasF w c t f) {i : Nat} {v : Value} (hne : c ≠ b) : HasF (w.setCell ⟨b, i, none⟩ v) c t f := (heap_setCell_other _ _ _ _ hne).trans h
theorem or48 {a b : Nat} (ha : a < 281474976710656) (hb : b < 281474976710656) : bits .or .i64 (a : Int) (b : Int) = ((a ||| b : Nat) : Int) ∧ a ||| b < 281474976710656 :=
  ⟨i64_or_nat a b (by omega) (by omega), Nat.or_lt_two_pow (n := 48) ha hb⟩
theorem iV_or {a b : Nat} (ha : a < 281474976710656) (hb : b < 281474976710656) : Value.int .i64 (bits .or .i64 (a : Int) (b : Int)) = iV (a ||| b) := by rw [(or48 ha hb).1]
/-- f with one cell more. -/
def putA (f : Ar) (a b : Nat) : Ar := fun x y => f x y || (x == a && y == b)
theorem put_row {f : Ar} {a b : Nat} (ha : a < 48) : rowOf (putA f a b) b = rowOf f b ||| 2 ^ a := by
  unfold rowOf
  rw [bits_put _ ha]
  exact bits_congr (fun x _ => by unfold putA; simp)
theorem put_other {f : Ar} {a b y : Nat} (h : y ≠ b) (x : Nat) : putA f a b x y = f x y := by
  unfold putA
  have : (y == b) = false := by simpa using h
  simp [this]
theorem pow48 {a : Nat} (ha : a < 48) : 2 ^ a < 281474976710656 := show 2 ^ a < 2 ^ 48 from Nat.pow_lt_pow_right (by decide) ha
theorem shl1 (a : Nat) (ha : a < 48) : wrap64 ((2 : Int) ^ a) = ((2 ^ a : Nat) : Int) := by
  have h2 := pow48 ha
  have e : (2 : Int) ^ a = ((2 ^ a : Nat) : Int) := by rw [Int.natCast_pow]; rfl
  rw [e, wrap64]
  generalize 2 ^ a = x at *
  omega
theorem infoInt : (Tryd.prog.info? 3).map (fun i => (i.zero, i.size, i.bytes)) = some (some (.int .i64 0), 1, 8) := by kernel_rfl
theorem made24 : madeCells (Value.int .i64 0).cells (Int.toNat 24 * 1) = FC nul := by
  rw [FC_nul]
  kernel_rfl
theorem run_make24 (W : World) : (Instr.makeSlice 25 (.int .i64 24) (.int .i64 24)).run Tryd.prog W = .ok (.slice (some ⟨W.heap.size, 0, none⟩) 24 24) (W.alloc (.cells (FC nul) 3)) := by
  obtain ⟨i, hi, hz, hs, hb⟩ := info_parts' infoInt
  have h := run_make (P := Tryd.prog) W 25 3 i (.int .i64 0) Tryd.underlying25 hi hz .i64 .i64 24 24 (by decide) (by decide) (by rw [hb]; decide) (by decide)
  rw [hs] at h
  rw [h, made24]
  rfl
end Go.Proofs.YtbgdlfkeimaaiaaDoor
