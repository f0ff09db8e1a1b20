/- combine$1: two fields joined row by row, by a function that came in. -/
import Derived.Shelf.Abstract
import Derived.Test.YtipfafglbkbafaaDoorGn
namespace Go.Proofs.YtipfafglbkbafaaDoor
open Go.RowKit Go.Shelf
set_option linter.unusedVariables false
set_option linter.unusedSimpArgs false

/-- A join of rows, and of cells. -/
structure Joins (k : Nat) (jn : Nat → Nat → Nat) (jb : Ar → Ar → Ar) : Prop where
  enters : ∀ args w, (callFunc k args).run Tryd.prog w = .ok (.enter k args) w
  calls : ∀ a b, a < 281474976710656 → b < 281474976710656 → ∀ w, Calls Tryd.prog k #[iV a, iV b] w fun e w' => e = .returned (iV (jn a b)) ∧ w' = w
  rows : ∀ f g y, rowOf (jb f g) y = jn (rowOf f y) (rowOf g y)

set_option maxRecDepth 100000 in
set_option maxHeartbeats 1000000 in
theorem combC_any (k : Nat) (jn : Nat → Nat → Nat) (jb : Ar → Ar → Ar) (J : Joins k jn jb) (f g : Ar) (B1 B2 : Nat) (w : World) (hB1 : B1 < w.heap.size) (hc : w.cell? ⟨B1, 0, none⟩ = some (.func (.func k) #[] #[])) (hG : HasF w B2 62 g) :
    Calls Tryd.prog 72 #[FV f, .pointer (some ⟨B1, 0, none⟩), .pointer (some ⟨B2, 0, none⟩)] w fun e w' => e = .returned (FV (jb f g)) ∧ Below w.heap.size w w' := by
  obtain ⟨W, hW, hb, hz, hF, hN⟩ := box_two w f nul
  have HFF := Lib.hid hF; have HNN := Lib.hid hN; have HB := Lib.hid hb; have HZ := Lib.hid hz
  have HC := Lib.hid (fun W' (h : Below w.heap.size w W') => (h.cell (p := ⟨B1, 0, none⟩) hB1).trans hc)
  have HG := Lib.hid (fun W' (h : Below w.heap.size w W') => hG.below h hG.lt)
  have hB2 := hG.lt
  have hE := J.enters
  have HJ := Lib.hid J
  clear J
  rw [FC_nul] at hW
  rw [FV_eq, FV_eq]
  clear hF hN hb hz hc hG hB1
  go_enter Tryd.func72, Tryd.ntmps72
  go_wp2
  clear hW
  go_loopw [6] (fun iv wr => ∃ i : Nat, i ≤ 24 ∧ iv = .int .i64 i ∧ HasF wr w.heap.size 62 (upto (jb f g) f i) ∧ HasF wr (w.heap.size + 1) 62 nul ∧ Below w.heap.size w wr) (fun iv _ => 24 - (intOf iv).toNat)
  case atStart => exact ⟨0, by omega, rfl, HFF.out.eqv (upto_0 _ _), HNN.out, HB.out⟩
  case round =>
    obtain ⟨i, hi, rfl, hF, hN, hb⟩ := hrel
    clear HFF HNN HB HZ
    have HFF := Lib.hid hF; have HNN := Lib.hid hN; have HB := Lib.hid hb
    clear hF hN hb
    have hi0 : (0 : Int) ≤ i := by omega
    by_cases hlt : i < 24
    · have hi1 : (i : Int) < 24 := by omega
      have hca := HFF.out.cell hlt; have hfa := HFF.out.frozen i
      rw [upto_row] at hca
      have hcb := (HG.out wr HB.out).cell hlt
      have hcj := HC.out wr HB.out
      have HR := Lib.hid (And.intro (row_lt f i) (row_lt g i))
      have HW := Lib.hid (HJ.out.rows f g i)
      generalize rowOf f i = r0 at hca HR HW
      generalize rowOf g i = r1 at hcb HR HW
      have CJ := Lib.hid (fun w => HJ.out.calls r0 r1 HR.out.1 HR.out.2 w)
      go_wp2
      refine wp_region_still_tail 10 (by kernel_rfl) (by kernel_rfl) ?_
      simp only [List.take_succ_cons, List.take_zero, List.drop_succ_cons, List.drop_zero]
      repeat still_step
      still_call (CJ.out _)
      repeat still_step
      refine wpStill_nil ?_
      go_wp2
      refine ⟨⟨i + 1, by omega, by go_num, ?_⟩, by simp [intOf]; omega⟩
      exact ⟨(HFF.out.drewN (n := 1)).step hlt HW.out, (HNN.out.drewN (n := 1)).other (by omega), (below_dn HB.out (n := 1)).setCell (Nat.le_refl _) _⟩
    · obtain rfl : i = 24 := by omega
      have HF2 := Lib.hid (HFF.out.eqv (upto_24 _ _))
      clear HFF hE HG HC
      go_wp2_with (first
        | (refine wpList_load_row rfl 62 _ rfl w.heap.size rfl 62 (FC (jb f g)) (0, 0) _ HF2.out Tryd.underlying62 rfl (infoFC _) ?_)
        | (refine wpList_store_row rfl 62 _ _ rfl (w.heap.size + 1) (FC (jb f g)) rfl rfl 62 (FC nul) HNN.out (infoFC _) (by rw [FC_size, FC_size]) (FC_one _) ?_))
      exact bodyPost_ret (v := .agg (FC (jb f g))) (results_cell_row rfl _ _ (w.heap.size + 1) 62 _ (0, 0) _ rfl (HNN.out.store (jb f g)) Tryd.underlying62 rfl (infoFC _)) rfl ⟨rfl, below_setRow HB.out (by omega) _⟩

def orA (f g : Ar) : Ar := fun x y => f x y || g x y
def andA (f g : Ar) : Ar := fun x y => f x y && g x y
def lessA (f g : Ar) : Ar := fun x y => f x y && !g x y
theorem bits_less (f g : Nat → Bool) : bitsTo f 48 &&& (281474976710655 - bitsTo g 48) = bitsTo (fun x => f x && !g x) 48 := by
  have h1 := bitsTo_lt f 48
  have h2 := bitsTo_lt g 48
  refine ext_bits (n := 48) (Nat.lt_of_le_of_lt Nat.and_le_left h1) (bitsTo_lt _ 48) (fun x hx => ?_)
  rw [Nat.testBit_and, show (281474976710655 : Nat) - bitsTo g 48 = 2 ^ 48 - (bitsTo g 48 + 1) by omega, Nat.testBit_two_pow_sub_succ h2, bitsTo_bit, bitsTo_bit, bitsTo_bit]
  simp [hx]
theorem swapw {k : Nat} {args : Array Value} {w : World} {v : Value} (h : Calls Tryd.prog k args w fun e w' => e = .returned v ∧ w = w') : Calls Tryd.prog k args w fun e w' => e = .returned v ∧ w' = w :=
  h.mono fun _ _ ⟨a, b⟩ => ⟨a, b.symm⟩
theorem joins_or : Joins 64 (· ||| ·) orA :=
  ⟨enters_of Tryd.func64 (by kernel_rfl) rfl, fun a b ha hb w => swapw (union1_any a b ha hb w), fun f g y => (bits_or _ _ 48).symm⟩
theorem joins_and : Joins 66 (· &&& ·) andA :=
  ⟨enters_of Tryd.func66 (by kernel_rfl) rfl, fun a b ha hb w => swapw (meet1_any a b ha hb w), fun f g y => (bits_and _ _ 48).symm⟩
theorem joins_less : Joins 67 (fun a b => a &&& (281474976710655 - b)) lessA :=
  ⟨enters_of Tryd.func67 (by kernel_rfl) rfl, fun a b ha hb w => swapw (less1_any a b ha hb w), fun f g y => (bits_less _ _).symm⟩
end Go.Proofs.YtipfafglbkbafaaDoor
