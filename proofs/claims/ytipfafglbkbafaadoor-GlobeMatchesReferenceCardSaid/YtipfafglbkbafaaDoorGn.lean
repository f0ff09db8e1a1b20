/- Grown$1: a field grown so many times; Shifted$1, With$1. -/
import Derived.Test.YtipfafglbkbafaaDoorGw
namespace Go.Proofs.YtipfafglbkbafaaDoor
open Go.RowKit
set_option linter.unusedVariables false
set_option linter.unusedSimpArgs false

theorem dx_1 {a x : Nat} (ha : a < 48) (hx : x < 48) : dx a x ≤ 1 ↔ a = x ∨ a = (x + (48 - 1)) % 48 ∨ a = (x + (48 - 47)) % 48 := by unfold dx; omega
theorem wide_iff {f : Ar} {x y : Nat} (hx : x < 48) : wideA f x y = true ↔ ∃ a, a < 48 ∧ f a y = true ∧ dx a x ≤ 1 := by
  unfold wideA turn
  rw [Bool.or_eq_true, Bool.or_eq_true]
  constructor
  · rintro (h | h | h)
    · exact ⟨x, hx, h, (dx_1 hx hx).2 (.inl rfl)⟩
    · exact ⟨_, Nat.mod_lt _ (by decide), h, (dx_1 (Nat.mod_lt _ (by decide)) hx).2 (.inr (.inl rfl))⟩
    · exact ⟨_, Nat.mod_lt _ (by decide), h, (dx_1 (Nat.mod_lt _ (by decide)) hx).2 (.inr (.inr rfl))⟩
  · rintro ⟨a, ha, h, hd⟩
    rcases (dx_1 ha hx).1 hd with rfl | rfl | rfl
    · exact .inl h
    · exact .inr (.inl h)
    · exact .inr (.inr h)
theorem cross_iff {g : Ar} {x y : Nat} (hy : y < 24) : crossA g 24 x y = true ↔ ∃ b, b < 24 ∧ g x b = true ∧ dy b y ≤ 1 := by
  unfold crossA
  rw [Bool.or_eq_true, Bool.or_eq_true, Bool.and_eq_true, Bool.and_eq_true, decide_eq_true_eq, decide_eq_true_eq]
  constructor
  · rintro (h | ⟨h1, h⟩ | ⟨h1, h⟩)
    · exact ⟨y, hy, h, by unfold dy; omega⟩
    · exact ⟨y - 1, by omega, h, by unfold dy; omega⟩
    · exact ⟨y + 1, by omega, h, by unfold dy; omega⟩
  · rintro ⟨b, hb, h, hd⟩
    unfold dy at hd
    rcases Nat.lt_trichotomy b y with e | e | e
    · have : b = y - 1 := by omega
      subst this
      exact .inr (.inl ⟨by omega, h⟩)
    · subst e; exact .inl h
    · have : b = y + 1 := by omega
      subst this
      exact .inr (.inr ⟨by omega, h⟩)
theorem cross_wide (f : Ar) : Eqv (crossA (wideA f) 24) (grown f 1) := eqv_iff fun x y hx hy => by
  rw [cross_iff hy, grown_iff]
  constructor
  · rintro ⟨b, hb, h, hd⟩
    obtain ⟨a, ha, h2, hd2⟩ := (wide_iff hx).1 h
    exact ⟨a, b, ha, hb, h2, by unfold near; omega⟩
  · rintro ⟨a, b, ha, hb, h, hd⟩
    unfold near at hd
    exact ⟨b, hb, (wide_iff hx).2 ⟨a, ha, h, by omega⟩, by omega⟩
theorem Eqv.trans {f g h : Ar} (a : Eqv f g) (b : Eqv g h) : Eqv f h := fun x y hx hy => (a x y hx hy).trans (b x y hx hy)
theorem Eqv.symm {f g : Ar} (a : Eqv f g) : Eqv g f := fun x y hx hy => (a x y hx hy).symm
theorem grown_next (f : Ar) (n : Nat) : Eqv (crossA (wideA (grown f n)) 24) (grown f (n + 1)) := (cross_wide _).trans (grown_twice f n 1)
theorem grown2_any (f : Ar) (w : World) :
    Calls Tryd.prog 62 #[FV f] w fun e w' => e = .returned (FV (grown f 1)) ∧ Below w.heap.size w w' :=
  (grown1_any f w).mono fun e w' ⟨h, hb⟩ => ⟨by rw [h, FV_eqv (cross_wide f)], hb⟩

set_option maxRecDepth 100000 in
set_option maxHeartbeats 1000000 in
theorem grownC_any (f : Ar) (B n : Nat) (hn : n ≤ 24) (w : World) (hB : B < w.heap.size) (hc : w.cell? ⟨B, 0, none⟩ = some (.int .i64 n)) :
    Calls Tryd.prog 61 #[FV f, .pointer (some ⟨B, 0, none⟩)] w fun e w' => e = .returned (FV (grown f n)) ∧ Below w.heap.size w w' := by
  obtain ⟨W, hW, hb, hz, hF, hN⟩ := box_two w f nul
  have hcW : W.cell? ⟨B, 0, none⟩ = some (.int .i64 n) := (hb.cell (p := ⟨B, 0, none⟩) hB).trans hc
  have HFF := Lib.hid hF; have HNN := Lib.hid hN; have HB := Lib.hid hb; have HZ := Lib.hid hz
  have C := Lib.hid (fun g W' => grown1_any g W')
  rw [FC_nul] at hW
  simp only [FV_eq] at C
  rw [FV_eq, FV_eq]
  clear hF hN hb hz hc
  have hn1 : (n : Int) ≤ 24 := by omega
  go_enter Tryd.func61, Tryd.ntmps61
  go_wp2
  clear hW hcW
  go_loopw [5] (fun iv wr => ∃ i : Nat, i ≤ n ∧ iv = .int .i64 i ∧ w.heap.size + 2 ≤ wr.heap.size ∧ HasF wr w.heap.size 62 (grown f i) ∧ HasF wr (w.heap.size + 1) 62 nul ∧ Below w.heap.size w wr) (fun iv _ => n - (intOf iv).toNat)
  case atStart => exact ⟨0, by omega, rfl, by have := HZ.out; omega, HFF.out.eqv (grown_0 f).symm, HNN.out, HB.out⟩
  case round =>
    obtain ⟨i, hi, rfl, hz, hF, hN, hb⟩ := hrel
    clear HFF HNN HB HZ
    have HFF := Lib.hid hF; have HNN := Lib.hid hN; have HB := Lib.hid hb; have HZ := Lib.hid hz
    clear hF hN hb hz
    by_cases hlt : i < n
    · have hd : decide ((i : Int) < n) = true := by simp; omega
      obtain ⟨w1, hw1⟩ : ∃ w1 : World, w1 = wr := ⟨_, rfl⟩
      go_wp2_with (first
        | (refine wpList_load_row rfl 62 _ rfl w.heap.size rfl 62 (FC (grown f i)) (0, 0) _ HFF.out Tryd.underlying62 rfl (infoFC _) ?_)
        | (go_at_call 62; (with_reducible refine (C.out _ _).mono ?_); rintro e w' ⟨rfl, hb⟩; have HF2 := Lib.hid (HFF.out.below hb (by have := HZ.out; omega)); have HN2 := Lib.hid (HNN.out.below hb (by have := HZ.out; omega)); have HB2 := Lib.hid (HB.out.trans (hb.mono (by have := HZ.out; omega))); have HZ2 := Lib.hid (Nat.le_trans HZ.out hb.size); clear hb)
        | (refine wpList_store_row rfl 62 _ _ rfl w.heap.size (FC (crossA (wideA (grown f i)) 24)) rfl rfl 62 (FC (grown f i)) HF2.out (infoFC _) (by rw [FC_size, FC_size]) (FC_one _) ?_))
      refine ⟨⟨i + 1, by omega, by go_num, by rw [setRow_size]; exact HZ2.out, (HF2.out.store _).eqv (grown_next f i), HN2.out.storeOther _ (by omega), below_setRow HB2.out (Nat.le_refl _) _⟩, by simp [intOf]; omega⟩
    · obtain rfl : i = n := by omega
      have hd : decide ((i : Int) < i) = false := by simp
      go_wp2_with (first
        | (refine wpList_load_row rfl 62 _ rfl w.heap.size rfl 62 (FC (grown f i)) (0, 0) _ HFF.out Tryd.underlying62 rfl (infoFC _) ?_)
        | (refine wpList_store_row rfl 62 _ _ rfl (w.heap.size + 1) (FC (grown f i)) rfl rfl 62 (FC nul) HNN.out (infoFC _) (by rw [FC_size, FC_size]) (FC_one _) ?_))
      exact bodyPost_ret (v := .agg (FC (grown f i))) (results_cell_row rfl _ _ (w.heap.size + 1) 62 _ (0, 0) _ rfl (HNN.out.store (grown f i)) Tryd.underlying62 rfl (infoFC _)) rfl ⟨rfl, below_setRow HB.out (by omega) _⟩

set_option maxRecDepth 100000 in
set_option maxHeartbeats 1000000 in
theorem shiftedC_any (f : Ar) (B : Nat) (c : Int) (k : Nat) (hk : k < 48) (hck : c % 48 = (k : Int)) (w : World) (hB : B < w.heap.size) (hc : w.cell? ⟨B, 0, none⟩ = some (.int .i64 c)) :
    Calls Tryd.prog 59 #[FV f, .pointer (some ⟨B, 0, none⟩)] w fun e w' => e = .returned (FV (turn f k)) ∧ Below w.heap.size w w' := by
  obtain ⟨W, hW, hb, hz, hF, hN⟩ := box_two w f nul
  have hcW : W.cell? ⟨B, 0, none⟩ = some (.int .i64 c) := (hb.cell (p := ⟨B, 0, none⟩) hB).trans hc
  have HFF := Lib.hid hF; have HNN := Lib.hid hN; have HB := Lib.hid hb; have HZ := Lib.hid hz
  have C := Lib.hid (fun W' => shifted_any f c k hk hck W')
  rw [FC_nul] at hW
  simp only [FV_eq] at C
  rw [FV_eq, FV_eq]
  clear hF hN hb hz hc hck hk
  go_enter Tryd.func59, Tryd.ntmps59
  go_wp2_with (first
    | (refine wpList_load_row rfl 62 _ rfl w.heap.size rfl 62 (FC f) (0, 0) _ HFF.out Tryd.underlying62 rfl (infoFC _) ?_)
    | (go_at_call 60; (with_reducible refine (C.out _).mono ?_); rintro e w' ⟨rfl, hb⟩; have HN2 := Lib.hid (HNN.out.below hb (by have := HZ.out; omega)); have HB2 := Lib.hid (HB.out.trans (hb.mono (by have := HZ.out; omega))); clear hb hW hcW)
    | (refine wpList_store_row rfl 62 _ _ rfl (w.heap.size + 1) (FC (turn f k)) rfl rfl 62 (FC nul) HN2.out (infoFC _) (by rw [FC_size, FC_size]) (FC_one _) ?_))
  exact bodyPost_ret (v := .agg (FC (turn f k))) (results_cell_row rfl _ _ (w.heap.size + 1) 62 _ (0, 0) _ rfl (HN2.out.store (turn f k)) Tryd.underlying62 rfl (infoFC _)) rfl ⟨rfl, below_setRow HB2.out (by omega) _⟩

/-- f with one cell more. -/
def putA (f : Ar) (a b : Nat) : Ar := fun x y => f x y || (x == a && y == b)
theorem put_row {f : Ar} {a b : Nat} (ha : a < 48) : rowOf (putA f a b) b = rowOf f b ||| 2 ^ a := by
  unfold rowOf
  rw [bits_put _ ha]
  exact bits_congr (fun x _ => by unfold putA; simp)
theorem put_other {f : Ar} {a b y : Nat} (h : y ≠ b) (x : Nat) : putA f a b x y = f x y := by
  unfold putA
  have : (y == b) = false := by simpa using h
  simp [this]
theorem pow48 {a : Nat} (ha : a < 48) : 2 ^ a < 281474976710656 := show 2 ^ a < 2 ^ 48 from Nat.pow_lt_pow_right (by decide) ha
theorem shl1 (a : Nat) (ha : a < 48) : wrap64 ((2 : Int) ^ a) = ((2 ^ a : Nat) : Int) := by
  have h2 := pow48 ha
  have e : (2 : Int) ^ a = ((2 ^ a : Nat) : Int) := by rw [Int.natCast_pow]; rfl
  rw [e, wrap64]
  generalize 2 ^ a = x at *
  omega
set_option maxRecDepth 100000 in
set_option maxHeartbeats 1000000 in
theorem withC_any (f : Ar) (B a b : Nat) (ha : a < 48) (hb' : b < 24) (w : World) (hB : B < w.heap.size) (hc0 : w.cell? ⟨B, 0, none⟩ = some (.int .i64 a)) (hc1 : w.cell? ⟨B, 1, none⟩ = some (.int .i64 b)) :
    Calls Tryd.prog 58 #[FV f, .pointer (some ⟨B, 0, none⟩)] w fun e w' => e = .returned (FV (putA f a b)) ∧ Below w.heap.size w w' := by
  obtain ⟨W, hW, hb, hz, hF, hN⟩ := box_two w f nul
  have hcW : W.cell? ⟨B, 0, none⟩ = some (.int .i64 a) := (hb.cell (p := ⟨B, 0, none⟩) hB).trans hc0
  have hcV : W.cell? ⟨B, 1, none⟩ = some (.int .i64 b) := (hb.cell (p := ⟨B, 1, none⟩) hB).trans hc1
  have HFF := Lib.hid hF; have HNN := Lib.hid hN; have HB := Lib.hid hb; have HZ := Lib.hid hz
  have hcc := hF.cell hb'; have hff := hF.frozen b
  have HR := Lib.hid (row_lt f b); have HP := Lib.hid (put_row (f := f) (b := b) ha)
  generalize rowOf f b = r at hcc HR HP
  have HS := Lib.hid (shl1 a ha)
  rw [FC_nul] at hW
  rw [FV_eq, FV_eq]
  clear hF hN hb hz hc0 hc1
  have b0 : (0 : Int) ≤ b := by omega
  have b1 : (b : Int) < 24 := by omega
  have a0 : (0 : Int) ≤ a := by omega
  have a1 : (a : Int) < 48 := by omega
  go_enter Tryd.func58, Tryd.ntmps58
  go_wp2_with fail
  go_still_tail 9, (by kernel_rfl)
  clear hW hcW hcV
  go_upto_region 2 with (fail)
  obtain ⟨V, hV⟩ : ∃ V, (W.setCell ⟨w.heap.size, b, none⟩ (.int .i64 (bits .or .i64 (r : Int) (wrap64 (2 ^ a))))).drew = V := ⟨_, rfl⟩
  have HF2 := Lib.hid (show HasF V w.heap.size 62 (putA f a b) from by
    rw [← hV, HS.out, iV_or HR.out (pow48 ha)]
    exact (HFF.out.set (f' := putA f a b) hb' HP.out (fun y _ hy x _ => put_other hy x)))
  have HN2 := Lib.hid (show HasF V (w.heap.size + 1) 62 nul from by rw [← hV]; exact HNN.out.other (by omega))
  have HB2 := Lib.hid (show Below w.heap.size w V from by rw [← hV]; exact (HB.out.setCell (p := ⟨w.heap.size, b, none⟩) (Nat.le_refl _) _).drew)
  rw [hV]
  clear hV HFF HNN HB hcc hff
  go_wp2_with (first
    | (refine wpList_load_row rfl 62 _ rfl w.heap.size rfl 62 (FC (putA f a b)) (0, 0) _ HF2.out Tryd.underlying62 rfl (infoFC _) ?_)
    | (refine wpList_store_row rfl 62 _ _ rfl (w.heap.size + 1) (FC (putA f a b)) rfl rfl 62 (FC nul) HN2.out (infoFC _) (by rw [FC_size, FC_size]) (FC_one _) ?_))
  exact bodyPost_ret (v := .agg (FC (putA f a b))) (results_cell_row rfl _ _ (w.heap.size + 1) 62 _ (0, 0) _ rfl (HN2.out.store (putA f a b)) Tryd.underlying62 rfl (infoFC _)) rfl ⟨rfl, below_setRow HB2.out (by omega) _⟩
end Go.Proofs.YtipfafglbkbafaaDoor
