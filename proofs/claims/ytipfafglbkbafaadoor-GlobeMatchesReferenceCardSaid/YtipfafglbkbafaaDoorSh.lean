/- A field shifted, walked. -/
import Derived.Test.YtipfafglbkbafaaDoorRd
namespace Go.Proofs.YtipfafglbkbafaaDoor
open Go.RowKit
set_option linter.unusedSimpArgs false
set_option linter.unusedVariables false

/-- Rows below i by g, the others by f. -/
def upto (g f : Ar) (i : Nat) : Ar := fun x y => if y < i then g x y else f x y
theorem upto_0 (g f : Ar) : Eqv f (upto g f 0) := fun x y _ _ => by unfold upto; rw [if_neg (by omega)]
theorem upto_24 (g f : Ar) : Eqv (upto g f 24) g := fun x y _ hy => by unfold upto; rw [if_pos hy]
theorem upto_row {g f : Ar} {i : Nat} : rowOf (upto g f i) i = rowOf f i := bits_congr (fun x _ => by unfold upto; rw [if_neg (by omega)])
theorem upto_new {g f : Ar} {i : Nat} : rowOf (upto g f (i + 1)) i = rowOf g i := bits_congr (fun x _ => by unfold upto; rw [if_pos (by omega)])
theorem upto_old {g f : Ar} {i y : Nat} (h : y ≠ i) (x : Nat) : upto g f (i + 1) x y = upto g f i x y := by
  unfold upto
  by_cases c : y < i
  · rw [if_pos c, if_pos (by omega)]
  · rw [if_neg c, if_neg (by omega)]
theorem HasF.eqv {w : World} {g : Nat} {t : TypeId} {f f' : Ar} (h : HasF w g t f) (e : Eqv f f') : HasF w g t f' := by unfold HasF; rw [← FC_eqv e]; exact h
theorem HasF.step {w : World} {b : Nat} {t : TypeId} {g f : Ar} {i : Nat} (h : HasF w b t (upto g f i)) (hi : i < 24) {r : Nat} (hr : rowOf g i = r) : HasF (w.setCell ⟨b, i, none⟩ (iV r)) b t (upto g f (i + 1)) :=
  h.set hi (upto_new.trans hr) (fun y _ hy x _ => upto_old hy x)
theorem HasF.other {w : World} {b c : Nat} {t : TypeId} {f : Ar} (h : HasF w c t f) {i : Nat} {v : Value} (hne : c ≠ b) : HasF (w.setCell ⟨b, i, none⟩ v) c t f := (heap_setCell_other _ _ _ _ hne).trans h
theorem HasF.drewN {w : World} {b n : Nat} {t : TypeId} {f : Ar} (h : HasF w b t f) : HasF (w.drewN n) b t f := h
theorem HasF.store {w : World} {b : Nat} {t : TypeId} {f : Ar} (h : HasF w b t f) (g : Ar) : HasF (w.setRow b (FC g)) b t g := setRow_heap w b _ (FC g) _ _ h
theorem HasF.storeOther {w : World} {b c : Nat} {t : TypeId} {f : Ar} (h : HasF w c t f) (g : Array Value) (hne : c ≠ b) : HasF (w.setRow b g) c t f := (setRow_other w b c g hne).trans h
theorem turn_row (f : Ar) {k : Nat} (hk : k < 48) (y : Nat) : rowOf (turn f k) y = turnN (rowOf f y) k := (bits_turn (fun x => f x y) hk).symm
/-- Two boxes of the call's own: a field that came in, and one for the result. -/
theorem box_two (w : World) (f g : Ar) : ∃ W, (w.alloc (.cells (FC f) 62)).alloc (.cells (FC g) 62) = W ∧ Below w.heap.size w W ∧ W.heap.size = w.heap.size + 2 ∧
    HasF W w.heap.size 62 f ∧ HasF W (w.heap.size + 1) 62 g := by
  refine ⟨_, rfl, ((Below.refl _ _).alloc (Nat.le_refl _) _).alloc (by simp) _, by simp, ?_, ?_⟩
  · unfold HasF
    rw [heap_old' _ _ _ (by simp), heap_new' _ _ _ rfl]
  · unfold HasF
    rw [heap_new' _ _ _ (by simp)]
theorem below_dn {B n : Nat} {w w' : World} (h : Below B w w') : Below B w (w'.drewN n) := ⟨h.os, h.tape, h.output, h.size, h.block⟩

set_option maxRecDepth 100000 in
set_option maxHeartbeats 1000000 in
theorem shifted_any (f : Ar) (c : Int) (k : Nat) (hk : k < 48) (hck : c % 48 = (k : Int)) (w : World) :
    Calls Tryd.prog 60 #[FV f, .int .i64 c] w fun e w' => e = .returned (FV (turn f k)) ∧ Below w.heap.size w w' := by
  obtain ⟨W, hW, hB, hz, hF, hN⟩ := box_two w f nul
  have HFF := Lib.hid hF
  have HNN := Lib.hid hN
  have HB := Lib.hid hB
  have HZ := Lib.hid hz
  have C := Lib.hid (fun r hr => turned_any r hr c k hk hck)
  rw [FC_nul] at hW
  rw [FV_eq, FV_eq]
  have HK := Lib.hid hk
  clear hF hN hB hz hck hk
  go_enter Tryd.func60, Tryd.ntmps60
  go_wp2
  clear hW
  go_loopw [6] (fun iv wr => ∃ i : Nat, i ≤ 24 ∧ iv = .int .i64 i ∧ wr.heap.size = w.heap.size + 2 ∧ HasF wr w.heap.size 62 (upto (turn f k) f i) ∧ HasF wr (w.heap.size + 1) 62 nul ∧ Below w.heap.size w wr) (fun iv _ => 24 - (intOf iv).toNat)
  case atStart => exact ⟨0, by omega, rfl, HZ.out, HFF.out.eqv (upto_0 _ _), HNN.out, HB.out⟩
  case round =>
    obtain ⟨i, hi, rfl, hz, hF, hN, hB⟩ := hrel
    clear HFF HNN HB HZ
    have HFF := Lib.hid hF
    have HNN := Lib.hid hN
    have HB := Lib.hid hB
    have HZ := Lib.hid hz
    clear hF hN hB hz
    by_cases hlt : i < 24
    · have hc := HFF.out.cell hlt
      have hf := HFF.out.frozen i
      rw [upto_row] at hc
      have hr := row_lt f i
      have HT := Lib.hid (turn_row f HK.out i)
      generalize rowOf f i = r at hc hr HT
      have hi0 : (0 : Int) ≤ i := by omega
      have hi1 : (i : Int) < 24 := by omega
      go_wp2_with (go_at_call 51; (with_reducible refine (C.out _ hr _).mono ?_); rintro e w' ⟨rfl, ⟨nq, rfl⟩⟩)
      refine ⟨⟨i + 1, by omega, by go_num, by simpa using HZ.out, ?_, ?_, ?_⟩, by simp [intOf]; omega⟩
      · exact (HFF.out.drewN (n := nq)).step hlt HT.out
      · exact (HNN.out.drewN (n := nq)).other (by omega)
      · exact (below_dn HB.out).setCell (Nat.le_refl _) _
    · obtain rfl : i = 24 := by omega
      have HG := Lib.hid (HFF.out.eqv (upto_24 _ _))
      clear HFF
      go_wp2_with (first
        | (refine wpList_load_row rfl 62 _ rfl w.heap.size rfl 62 (FC (turn f k)) (0, 0) _ HG.out Tryd.underlying62 rfl (infoFC _) ?_)
        | (refine wpList_store_row rfl 62 _ _ rfl (w.heap.size + 1) (FC (turn f k)) rfl rfl 62 (FC nul) HNN.out (infoFC _) (by rw [FC_size, FC_size]) (FC_one _) ?_))
      refine bodyPost_ret (v := .agg (FC (turn f k))) (results_cell_row rfl _ _ (w.heap.size + 1) 62 _ (0, 0) _ rfl (HNN.out.store (turn f k)) Tryd.underlying62 rfl (infoFC _)) rfl ⟨rfl, below_setRow HB.out (by omega) _⟩
end Go.Proofs.YtipfafglbkbafaaDoor
