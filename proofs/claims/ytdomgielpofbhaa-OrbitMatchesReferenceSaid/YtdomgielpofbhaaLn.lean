/- What the laws of the orbit call: picked numbers, made orbits, rows, columns and cells without delays. -/
import Derived.Test.YtdomgielpofbhaaSn
import Derived.Test.YtdomgielpofbhaaRm
namespace Go.Proofs.Ytdomgielpofbhaa
open Go.RowKit Go.Shelf Go.Maps
set_option linter.unusedSimpArgs false
set_option linter.unusedVariables false
theorem lpV (z : Int) (h0 : -9223372036854775808 ≤ z) (h1 : z ≤ 9223372036854775807) (n : Nat) (hn : 0 < n) (hn2 : n ≤ 2000000000) (N : Int) (hN : N = (n : Int)) :
    ∃ i : Nat, i < n ∧ ∀ w : World, Calls Try.prog 14 #[.int .i64 z, .int .i64 N] w (OutV w (iV i)) :=
  ⟨pickZ z n, pickZ_lt z hn, fun w => (lpick_any z h0 h1 n hn hn2 N hN w).mono fun _ _ ⟨he, hw⟩ => ⟨he, hw ▸ Below.refl _ _⟩⟩
abbrev X7 (x0 x1 x2 x3 x4 x5 x6 : Int) : Value := .agg #[.int .i64 x0, .int .i64 x1, .int .i64 x2, .int .i64 x3, .int .i64 x4, .int .i64 x5, .int .i64 x6]
theorem madeV (x0 x1 x2 x3 x4 x5 x6 : Int) (r : I64 x0 ∧ I64 x1 ∧ I64 x2 ∧ I64 x3 ∧ I64 x4 ∧ I64 x5 ∧ I64 x6) :
    ∃ o : Orb, okO o ∧ o.sl ≤ 3 ∧ ∀ w : World, Calls Try.prog 11 #[X7 x0 x1 x2 x3 x4 x5 x6] w (OutV w (OV o)) :=
  ⟨_, (made_ok x0 x1 x2 x3 x4 x5 x6).1, (made_ok x0 x1 x2 x3 x4 x5 x6).2, fun w => made_any x0 x1 x2 x3 x4 x5 x6 r.1 r.2.1 r.2.2.1 r.2.2.2.1 r.2.2.2.2.1 r.2.2.2.2.2.1 r.2.2.2.2.2.2 w⟩
theorem rowA (o : Orb) (ho : okO o) (m : Int) (h0 : 0 ≤ m) (h1 : m ≤ 1000000) (w : World) : Calls Try.prog 15 #[OV o, .int .i64 m, .int .i64 0] w (OutV w (.tuple #[.int .i64 (rowZ o m), .int .i64 0])) := by
  have h := rowS_yes o m 0 (asked_iff.2 ⟨ho, ⟨h0, h1⟩, by decide⟩) w
  rwa [Int.sub_zero] at h
theorem colA (o : Orb) (ho : okO o) (m : Int) (h0 : 0 ≤ m) (h1 : m ≤ 1000000) (w : World) : Calls Try.prog 17 #[OV o, .int .i64 m, .int .i64 0] w (OutV w (.tuple #[.int .i64 (colZ o m), .int .i64 0])) := by
  have h := colS_yes o m 0 (asked_iff.2 ⟨ho, ⟨h0, h1⟩, by decide⟩) w
  rwa [Int.sub_zero] at h
theorem atA (o : Orb) (ho : okO o) (m : Int) (h0 : 0 ≤ m) (h1 : m ≤ 1000000) (w : World) : Calls Try.prog 19 #[OV o, .int .i64 m, .int .i64 0] w (OutV w (.tuple #[KV (celO o m), .int .i64 0])) := by
  have h := atS_yes o m 0 (asked_iff.2 ⟨ho, ⟨h0, h1⟩, by decide⟩) w
  rwa [Int.sub_zero] at h
theorem okO_bd {o : Orb} (h : okO o) : (20 ≤ o.p ∧ o.p ≤ 2000) ∧ (0 ≤ o.f ∧ o.f < 2000) ∧ (0 ≤ o.lo ∧ o.lo < 24000) ∧ (0 ≤ o.hi ∧ o.hi < 24000) ∧ (0 ≤ o.nd ∧ o.nd < 48000) ∧ (-2000 ≤ o.tn ∧ o.tn ≤ 2000) ∧ (0 ≤ o.sl ∧ o.sl ≤ 10) := by
  unfold okO at h
  omega
end Go.Proofs.Ytdomgielpofbhaa
