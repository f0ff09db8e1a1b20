/- What a law carries along; the reference's leaves. -/
import Derived.Laws.MakeOwn
import Derived.Test.YtbgdlfkeimaaiaaDoorGc
namespace Go.Proofs.YtbgdlfkeimaaiaaDoor
open Go.RowKit Go.Shelf
set_option linter.unusedVariables false
set_option linter.unusedSimpArgs false

theorem swapw {k : Nat} {args : Array Value} {w : World} {v : Value} (h : Calls Tryd.prog k args w fun e w' => e = .returned v ∧ w = w') : Calls Tryd.prog k args w fun e w' => e = .returned v ∧ w' = w :=
  h.mono fun _ _ ⟨a, b⟩ => ⟨a, b.symm⟩
/-- What pick makes of a number. -/
def pickZ (c : Int) (n : Nat) : Nat := ((if c < 0 then -(c + 1) else c) % (n : Int)).toNat
theorem pickZ_lt (c : Int) {n : Nat} (hn : 0 < n) : pickZ c n < n := by
  unfold pickZ
  have h1 := Int.emod_nonneg (if c < 0 then -(c + 1) else c) (show (n : Int) ≠ 0 by omega)
  have h2 := Int.emod_lt_of_pos (if c < 0 then -(c + 1) else c) (show (0 : Int) < n by omega)
  omega
set_option maxHeartbeats 400000 in
theorem rpick_any (c : Int) (h0 : -9223372036854775808 ≤ c) (h1 : c ≤ 9223372036854775807) (n : Nat) (hn : 0 < n) (hn2 : n ≤ 2000000000) (N : Int) (hN : N = (n : Int)) (w : World) :
    Calls Tryd.prog 32 #[.int .i64 c, .int .i64 N] w fun e w' => e = .returned (.int .i64 (pickZ c n : Nat)) ∧ w = w' := by
  subst hN
  by_cases hc : c < 0
  · have hp : pickZ c n = (-(c + 1) % (n : Int)).toNat := by unfold pickZ; rw [if_pos hc]
    rw [hp]
    obtain ⟨d, hd⟩ : ∃ d, -(c + 1) = d := ⟨_, rfl⟩
    have hd0 : 0 ≤ d ∧ d ≤ 9223372036854775807 := by omega
    have hm0 := Int.emod_nonneg d (show (n : Int) ≠ 0 by omega)
    have hm1 := Int.emod_lt_of_pos d (show (0 : Int) < n by omega)
    obtain ⟨r, hr⟩ := Int.eq_ofNat_of_zero_le hm0
    have HR := Lib.hid hr
    rw [hr] at hm1
    go_enter Tryd.func32, Tryd.ntmps32
    go_wp2
    go_ret
    refine ⟨?_, rfl⟩
    have h := HR.out
    first
      | (rw [hd, h]; rfl)
      | (rw [h]; rfl)
  · have hp : pickZ c n = (c % (n : Int)).toNat := by unfold pickZ; rw [if_neg hc]
    rw [hp]
    have hc0 : 0 ≤ c := by omega
    have hm0 := Int.emod_nonneg c (show (n : Int) ≠ 0 by omega)
    have hm1 := Int.emod_lt_of_pos c (show (0 : Int) < n by omega)
    obtain ⟨r, hr⟩ := Int.eq_ofNat_of_zero_le hm0
    have HR := Lib.hid hr
    rw [hr] at hm1
    go_enter Tryd.func32, Tryd.ntmps32
    go_wp2
    go_ret
    refine ⟨?_, rfl⟩
    have h := HR.out
    first
      | rfl
      | (rw [h]; rfl)
set_option maxHeartbeats 400000 in
theorem lpick_any (c : Int) (h0 : -9223372036854775808 ≤ c) (h1 : c ≤ 9223372036854775807) (n : Nat) (hn : 0 < n) (hn2 : n ≤ 2000000000) (N : Int) (hN : N = (n : Int)) (w : World) :
    Calls Tryd.prog 13 #[.int .i64 c, .int .i64 N] w fun e w' => e = .returned (.int .i64 (pickZ c n : Nat)) ∧ w = w' := by
  subst hN
  by_cases hc : c < 0
  · have hp : pickZ c n = (-(c + 1) % (n : Int)).toNat := by unfold pickZ; rw [if_pos hc]
    rw [hp]
    obtain ⟨d, hd⟩ : ∃ d, -(c + 1) = d := ⟨_, rfl⟩
    have hd0 : 0 ≤ d ∧ d ≤ 9223372036854775807 := by omega
    have hm0 := Int.emod_nonneg d (show (n : Int) ≠ 0 by omega)
    have hm1 := Int.emod_lt_of_pos d (show (0 : Int) < n by omega)
    obtain ⟨r, hr⟩ := Int.eq_ofNat_of_zero_le hm0
    have HR := Lib.hid hr
    rw [hr] at hm1
    go_enter Tryd.func13, Tryd.ntmps13
    go_wp2
    go_ret
    refine ⟨?_, rfl⟩
    have h := HR.out
    first
      | (rw [hd, h]; rfl)
      | (rw [h]; rfl)
  · have hp : pickZ c n = (c % (n : Int)).toNat := by unfold pickZ; rw [if_neg hc]
    rw [hp]
    have hc0 : 0 ≤ c := by omega
    have hm0 := Int.emod_nonneg c (show (n : Int) ≠ 0 by omega)
    have hm1 := Int.emod_lt_of_pos c (show (0 : Int) < n by omega)
    obtain ⟨r, hr⟩ := Int.eq_ofNat_of_zero_le hm0
    have HR := Lib.hid hr
    rw [hr] at hm1
    go_enter Tryd.func13, Tryd.ntmps13
    go_wp2
    go_ret
    refine ⟨?_, rfl⟩
    have h := HR.out
    first
      | rfl
      | (rw [h]; rfl)
set_option maxRecDepth 100000 in
set_option maxHeartbeats 1000000 in
theorem rcell_any (a b : Int) (ha0 : -9223372036854775808 ≤ a) (ha1 : a ≤ 9223372036854775807) (hb0 : -9223372036854775808 ≤ b) (hb1 : b ≤ 9223372036854775807) (w : World) :
    Calls Tryd.prog 12 #[.agg #[.int .i64 a, .int .i64 b]] w fun e w' => e = .returned (CV (pickZ a 48 : Nat) (pickZ b 24 : Nat)) ∧ Below w.heap.size w w' := by
  have C1 := Lib.hid (fun W => swapw (rpick_any a ha0 ha1 48 (by decide) (by decide) 48 rfl W))
  have C2 := Lib.hid (fun W => swapw (rpick_any b hb0 hb1 24 (by decide) (by decide) 24 rfl W))
  generalize pickZ a 48 = p at *
  generalize pickZ b 24 = q at *
  obtain ⟨W, hW, hb, hz, h0, h1⟩ : ∃ W, (w.alloc (.cells #[.int .i64 a, .int .i64 b] 32)).alloc (.cells #[.int .i64 0, .int .i64 0] 23) = W ∧ Below w.heap.size w W ∧ W.heap.size = w.heap.size + 2 ∧
      W.heap[w.heap.size]? = some (.cells #[.int .i64 a, .int .i64 b] 32 (0, 0)) ∧ W.heap[w.heap.size + 1]? = some (.cells #[.int .i64 0, .int .i64 0] 23 (0, 0)) := by
    refine ⟨_, rfl, ((Below.refl _ _).alloc (Nat.le_refl _) _).alloc (by simp) _, by simp, ?_, ?_⟩
    · rw [heap_old' _ _ _ (by simp), heap_new' _ _ _ rfl]
    · rw [heap_new' _ _ _ (by simp)]
  have a0 := (row_cell h0 0).trans (show _ = some (.int .i64 a) from rfl)
  have a1 := (row_cell h0 1).trans (show _ = some (.int .i64 b) from rfl)
  have k0 := (row_cell h1 0).trans (show _ = some (.int .i64 0) from rfl)
  have k1 := (row_cell h1 1).trans (show _ = some (.int .i64 0) from rfl)
  have f0 := frozen_of_row W (w.heap.size + 1) 0 _ _ h1
  have f1 := frozen_of_row W (w.heap.size + 1) 1 _ _ h1
  have HB := Lib.hid hb
  have H1 := Lib.hid h1
  clear h0 h1 hb hz ha0 ha1 hb0 hb1
  go_enter Tryd.func12, Tryd.ntmps12
  go_wp2_with fail
  clear hW
  refine wp_region_still_tail 7 (by kernel_rfl) (by kernel_rfl) ?_
  simp only [List.take_succ_cons, List.take_zero, List.drop_succ_cons, List.drop_zero]
  repeat still_step
  still_call (C1.out _)
  repeat still_step
  still_call (C2.out _)
  repeat still_step
  refine wpStill_nil ?_
  go_wp2
  obtain ⟨X, hX⟩ : ∃ X, ((W.setCell ⟨w.heap.size + 1, 0, none⟩ (.int .i64 (p : Int))).setCell ⟨w.heap.size + 1, 1, none⟩ (.int .i64 (q : Int))).drew = X := ⟨_, rfl⟩
  have hh : X.heap[w.heap.size + 1]? = some (.cells #[.int .i64 (p : Int), .int .i64 (q : Int)] 23 (0, 0)) := by
    rw [← hX]
    exact heap_setCell_same _ _ 1 _ _ _ (heap_setCell_same _ _ 0 _ _ _ H1.out)
  have c0 := (row_cell hh 0).trans (show _ = some (.int .i64 (p : Int)) from rfl)
  have c1 := (row_cell hh 1).trans (show _ = some (.int .i64 (q : Int)) from rfl)
  have hbX : Below w.heap.size w X := by rw [← hX]; exact ((HB.out.setCell (p := ⟨w.heap.size + 1, 0, none⟩) (by show _ ≤ w.heap.size + 1; omega) _).setCell (p := ⟨w.heap.size + 1, 1, none⟩) (by show _ ≤ w.heap.size + 1; omega) _).drew
  rw [hX]
  exact bodyPost_ret (v := CV p q) (by simp [results, Tryd.results12, go_sem, c0, c1]) rfl ⟨rfl, hbX⟩
end Go.Proofs.YtbgdlfkeimaaiaaDoor

namespace Go.Proofs.YtbgdlfkeimaaiaaDoor
open Go.RowKit Go.Shelf
set_option linter.unusedVariables false
set_option linter.unusedSimpArgs false

/-- A slice of rows of four integers. -/
def S4 (W : World) (al : Option Addr) (n : Nat) : Prop :=
  n ≤ 9223372036854775807 ∧ (n = 0 ∨ ∃ b o, al = some ⟨b, o, none⟩ ∧ b < W.heap.size ∧ ∀ i, i < n → ∃ z0 z1 z2 z3 : Int,
    (-9223372036854775808 ≤ z0 ∧ z0 ≤ 9223372036854775807) ∧ (-9223372036854775808 ≤ z1 ∧ z1 ≤ 9223372036854775807) ∧ (-9223372036854775808 ≤ z2 ∧ z2 ≤ 9223372036854775807) ∧ (-9223372036854775808 ≤ z3 ∧ z3 ≤ 9223372036854775807) ∧
    W.cell? ⟨b, o + i * 4, none⟩ = some (.int .i64 z0) ∧ W.cell? ⟨b, o + i * 4 + 1, none⟩ = some (.int .i64 z1) ∧ W.cell? ⟨b, o + i * 4 + 2, none⟩ = some (.int .i64 z2) ∧ W.cell? ⟨b, o + i * 4 + 3, none⟩ = some (.int .i64 z3))
theorem S4.below {W W' : World} {al : Option Addr} {n : Nat} (h : S4 W al n) (hb : Below W.heap.size W W') : S4 W' al n := by
  refine ⟨h.1, ?_⟩
  rcases h.2 with h | ⟨b, o, rfl, hlt, hc⟩
  · exact .inl h
  · refine .inr ⟨b, o, rfl, Nat.lt_of_lt_of_le hlt hb.size, fun i hi => ?_⟩
    obtain ⟨z0, z1, z2, z3, r0, r1, r2, r3, c0, c1, c2, c3⟩ := hc i hi
    exact ⟨z0, z1, z2, z3, r0, r1, r2, r3, (hb.cell (p := ⟨b, o + i * 4, none⟩) hlt).trans c0, (hb.cell (p := ⟨b, o + i * 4 + 1, none⟩) hlt).trans c1, (hb.cell (p := ⟨b, o + i * 4 + 2, none⟩) hlt).trans c2, (hb.cell (p := ⟨b, o + i * 4 + 3, none⟩) hlt).trans c3⟩
end Go.Proofs.YtbgdlfkeimaaiaaDoor

namespace Go.Proofs.YtbgdlfkeimaaiaaDoor
open Go.RowKit Go.Shelf
set_option linter.unusedVariables false
set_option linter.unusedSimpArgs false

/-- A fact that stays, whatever is made behind. -/
def Up (w : World) (P : World → Prop) : Prop := ∀ W, Below w.heap.size w W → P W
theorem Up.next {w w' : World} {P : World → Prop} (h : Up w P) (hb : Below w.heap.size w w') : Up w' P := fun W hW => h W (hb.trans (hW.mono hb.size))
theorem Up.now {w : World} {P : World → Prop} (h : Up w P) : P w := h w (Below.refl _ _)
/-- A variable that holds an area. -/
abbrev VA (B b o c : Nat) (f : Ar) (W : World) : Prop := SA W (some ⟨b, o, none⟩) 24 f ∧ W.heap[B]? = some (.cells #[.slice (some ⟨b, o, none⟩) 24 c] 27 (0, 0))
/-- A variable of whatever cells. -/
abbrev VR (B : Nat) (cs : Array Value) (t : TypeId) (W : World) : Prop := W.heap[B]? = some (.cells cs t (0, 0))
/-- What the law leaves as it was. -/
abbrev VB (w : World) (W : World) : Prop := Below w.heap.size w W ∧ Tab W
theorem up_va {w : World} {B b o c : Nat} {f : Ar} (h : SA w (some ⟨b, o, none⟩) 24 f) (hk : w.heap[B]? = some (.cells #[.slice (some ⟨b, o, none⟩) 24 c] 27 (0, 0))) : Up w (VA B b o c f) := fun W hb =>
  ⟨Sl.below h (Nat.le_refl _) hb, (hb.block B (Array.getElem?_eq_some_iff.1 hk).1).trans hk⟩
theorem up_vr {w : World} {B : Nat} {cs : Array Value} {t : TypeId} (hk : w.heap[B]? = some (.cells cs t (0, 0))) : Up w (VR B cs t) := fun W hb => (hb.block B (Array.getElem?_eq_some_iff.1 hk).1).trans hk
theorem up_vb {w w' : World} (hb : Below w.heap.size w w') (hT : Tab w) : Up w' (VB w) := fun W h =>
  ⟨hb.trans (h.mono hb.size), hT.below (hb.trans (h.mono hb.size)) hT.1⟩
theorem up_s4 {w : World} {al : Option Addr} {n : Nat} (h : S4 w al n) : Up w (fun W => S4 W al n) := fun _ hb => h.below hb
theorem VA.cell {B b o c : Nat} {f : Ar} {W : World} (h : VA B b o c f W) : W.cell? ⟨B, 0, none⟩ = some (.slice (some ⟨b, o, none⟩) 24 c) := (row_cell h.2 0).trans rfl
theorem VA.row {B b o c : Nat} {f : Ar} {W : World} (h : VA B b o c f W) {y : Nat} (hy : y < 24) : W.cell? ⟨b, o + y, none⟩ = some (iV (rowOf f y)) := by
  obtain ⟨_, b', o', he, _, hc⟩ := SA.parts h.1
  cases he
  exact hc y hy
theorem box1 (w : World) (cs : Array Value) (t : TypeId) : ∃ w' B, w.alloc (.cells cs t) = w' ∧ w.heap.size = B ∧ Below w.heap.size w w' ∧ w'.heap[B]? = some (.cells cs t (0, 0)) :=
  ⟨_, _, rfl, rfl, (Below.refl _ _).alloc (Nat.le_refl _) _, heap_new' _ _ _ rfl⟩
def OutF (w : World) (g : Ar) (e : Ending) (w' : World) : Prop :=
  ∃ b o c, e = .returned (.tuple #[.agg #[.slice (some ⟨b, o, none⟩) 24 c], .int .i64 0]) ∧ SA w' (some ⟨b, o, none⟩) 24 g ∧ Below w.heap.size w w'
def OutN (w : World) (e : Ending) (w' : World) : Prop := e = .returned (.tuple #[.agg #[.slice none 0 0], .int .i64 50]) ∧ Below w.heap.size w w'
def OutE (w : World) (g : Ar) (e : Ending) (w' : World) : Prop :=
  ∃ b o c, e = .returned (.agg #[.slice (some ⟨b, o, none⟩) 24 c]) ∧ SA w' (some ⟨b, o, none⟩) 24 g ∧ Below w.heap.size w w'
def OutV (w : World) (v : Value) (e : Ending) (w' : World) : Prop := e = .returned v ∧ Below w.heap.size w w'
theorem OutA.n {w w' : World} {e : Ending} (h : OutA w none e w') : ∃ c al, e = .returned (.tuple #[.agg #[.slice al 0 c], .int .i64 50]) ∧ Below w.heap.size w w' := by
  obtain ⟨al, n, c, he, hs, hf, hb⟩ := h
  have hn : n = 0 := hs.1
  subst hn
  exact ⟨c, al, he, hb⟩
def OutX (w : World) (e : Ending) (w' : World) : Prop := ∃ c al, e = .returned (.tuple #[.agg #[.slice al 0 c], .int .i64 50]) ∧ Below w.heap.size w w'
theorem Cs.len {W : World} {al : Option Addr} {n : Nat} {l : List (Nat × Nat)} (h : Cs W al n l) : n = l.length := h.1
theorem OutV.as {w : World} {v v' : Value} (h : v = v') : ∀ e w', OutV w v e w' → OutV w v' e w' := fun e w' => by rw [h]; exact id
section
variable {w : World} {b o c b' o' c' : Nat} {f g : Ar}
end
end Go.Proofs.YtbgdlfkeimaaiaaDoor

namespace Go.Proofs.YtbgdlfkeimaaiaaDoor
open Go.RowKit Go.Shelf
set_option linter.unusedVariables false
set_option linter.unusedSimpArgs false
/-- A variable that holds an area, valid or not. -/
abbrev VG (B : Nat) (al : Option Addr) (n c : Nat) (zs : List Int) (W : World) : Prop := Sl W al n zs ∧ W.heap[B]? = some (.cells #[.slice al n c] 27 (0, 0))
theorem up_vg {w : World} {B : Nat} {al : Option Addr} {n c : Nat} {zs : List Int} (h : Sl w al n zs) (hk : w.heap[B]? = some (.cells #[.slice al n c] 27 (0, 0))) : Up w (VG B al n c zs) := fun W hb =>
  ⟨Sl.below h (Nat.le_refl _) hb, (hb.block B (Array.getElem?_eq_some_iff.1 hk).1).trans hk⟩
theorem VG.cell {B : Nat} {al : Option Addr} {n c : Nat} {zs : List Int} {W : World} (h : VG B al n c zs W) : W.cell? ⟨B, 0, none⟩ = some (.slice al n c) := (row_cell h.2 0).trans rfl
theorem up_bl (w : World) : Up w (fun W => Below w.heap.size w W) := fun _ hb => hb
set_option maxHeartbeats 400000 in
theorem rvalidCell_any (x y : Int) (w : World) : Calls Tryd.prog 40 #[CV x y] w (OutV w (.bool (onG x y))) := by
  go_enter Tryd.func40, Tryd.ntmps40
  go_wp2
  all_goals
    go_ret
    exact ⟨ret_bool' (Bool.eq_iff_iff.2 (by unfold onG; simp only [decide_eq_true_eq, Bool.false_eq_true, true_iff, false_iff]; omega)), (Below.refl _ _).alloc (Nat.le_refl _) _⟩
/-- The bit of a row, as the reference asks for it. -/
theorem rbit_at (f : Ar) (x y : Nat) (hx : x < 48) : (((rowOf f y : Int) / 2 ^ x) % 2 == 1) = f x y := by
  have e1 : (rowOf f y : Int) / 2 ^ x = ((rowOf f y / 2 ^ x : Nat) : Int) := by rw [Int.natCast_ediv, Int.natCast_pow]; rfl
  have e3 : (rowOf f y).testBit x = f x y := by unfold rowOf; rw [bitsTo_bit]; simp [hx]
  rw [e1, ← e3, Nat.testBit_eq_decide_div_mod_eq]
  rw [Bool.eq_iff_iff]; simp; omega
set_option maxHeartbeats 400000 in
theorem rhas_any (b o c : Nat) (f : Ar) (x y : Nat) (hx : x < 48) (hy : y < 24) (w : World) (h : SA w (some ⟨b, o, none⟩) 24 f) : Calls Tryd.prog 57 #[.agg #[.slice (some ⟨b, o, none⟩) 24 c], .int .i64 (x : Int), .int .i64 (y : Int)] w (OutV w (.bool (f x y))) := by
  obtain ⟨W, hW, hb, hz, h0⟩ := box_one_area w (some ⟨b, o, none⟩) 24 c
  obtain ⟨_, b', o', he, hb0, hcs⟩ := SA.parts (h.below (Nat.le_refl _) hb : SA W (some ⟨b, o, none⟩) 24 f)
  cases he
  have HV := Lib.hid (rbit_at f x y hx)
  have hc := hcs y hy
  have hr := row_lt f y
  generalize rowOf f y = r at hc HV hr
  have y0 : (0 : Int) ≤ y := by omega
  have y1 : (y : Int) < 24 := by omega
  have x0 : (0 : Int) ≤ x := by omega
  have x1 : (x : Int) < 48 := by omega
  have HB := Lib.hid hb
  clear hb hz h hcs hb0
  go_enter Tryd.func57, Tryd.ntmps57
  go_wp2
  go_ret
  exact ⟨ret_bool' HV.out, HB.out⟩
theorem take_all {zs : List Int} (h : zs.length ≤ 25) : zs.take 25 = zs := List.take_of_length_le h
theorem is_take {zs : List Int} {o : Option Ar} (hO : Is zs o) (h : ∀ z ∈ zs.take 25, inR z) : o.isSome = ((zs.length : Int) == 24) := by
  rw [Bool.eq_iff_iff, beq_iff_eq]
  cases o with
  | some f => have := (is_some_ok hO).1; simp; omega
  | none =>
    have hn : ¬ (zs.length = 24 ∧ ∀ z ∈ zs, inR z) := hO
    simp only [Option.isSome, Bool.false_eq_true, false_iff]
    intro he
    exact hn ⟨by omega, by rw [take_all (by omega)] at h; exact h⟩
theorem is_bad {zs : List Int} {o : Option Ar} (hO : Is zs o) (h : ¬ ∀ z ∈ zs.take 25, inR z) : o.isSome = false := by
  cases o with
  | some f => exact absurd (fun z hz => (is_some_ok hO).2 z (List.mem_of_mem_take hz)) h
  | none => rfl
theorem getD_take {zs : List Int} {i : Nat} (h : i < 25) : (zs.take 25).getD i 0 = zs.getD i 0 := by
  rw [List.getD_eq_getElem?_getD, List.getD_eq_getElem?_getD, List.getElem?_take, if_pos h]
set_option maxRecDepth 100000 in
set_option maxHeartbeats 1000000 in
theorem rvalid_good (al : Option Addr) (n c : Nat) (zs : List Int) (w : World) (h : Sl w al n zs) (r : Bool) (hr : ((n : Int) == 24) = r) (hg : ∀ z ∈ zs.take 25, inR z) :
    Calls Tryd.prog 45 #[.agg #[.slice al n c]] w (OutV w (.bool r)) := by
  obtain ⟨W, hW, hb, hz, h0⟩ := box_one_area w al n c
  have HS := Lib.hid (h.below (Nat.le_refl _) hb)
  have HB := Lib.hid hb
  have HG := Lib.hid (show ∀ i, i < n → i < 25 → inR (zs.getD i 0) from fun i h1 h2 => by
    have hl : i < zs.length := by rw [← h.1]; exact h1
    rw [List.getD_eq_getElem?_getD, List.getElem?_eq_getElem hl]
    exact hg _ (List.mem_take_iff_getElem.2 ⟨i, by omega, rfl⟩))
  have hn : n ≤ 140737488355328 := h.2.1
  clear hb hz h hg
  go_enter Tryd.func45, Tryd.ntmps45
  go_wp2
  clear hW
  go_loop [3] (fun iv => ∃ i : Nat, i ≤ n ∧ i ≤ 25 ∧ iv = .int .i64 i) (fun iv => 25 - (intOf iv).toNat)
  case atStart => exact ⟨0, by omega, by omega, rfl⟩
  case round =>
    obtain ⟨i, hi, hj, rfl⟩ := hrel
    have i0 : (0 : Int) ≤ i := by omega
    have i2 : (i : Int) ≤ 25 := by omega
    rcases (show (i < n ∧ i < 25) ∨ (i = n) ∨ (i < n ∧ i = 25) by omega) with ⟨l1, l2⟩ | l1 | ⟨l1, l2⟩
    · have d1 : (i : Int) < n := by omega
      have d2 : (i : Int) < 25 := by omega
      have hq := HG.out i l1 l2
      obtain ⟨r1, r2⟩ : 0 ≤ zs.getD i 0 ∧ zs.getD i 0 ≤ 281474976710655 := hq
      obtain ⟨b, o, rfl, hb0, hcs⟩ := HS.out.at (by omega)
      have hc := hcs i l1
      clear hcs hb0 hr
      generalize zs.getD i 0 = z at hc r1 r2
      go_wp2
      go_round
      case rel => exact ⟨i + 1, by omega, by omega, by go_num⟩
      case measure => simp [intOf]; omega
    · have d1 : ¬ ((i : Int) < n) := by omega
      clear hj
      go_wp2
      go_ret
      exact ⟨rfl, HB.out⟩
    · have d1 : (i : Int) < n := by omega
      have d2 : ¬ ((i : Int) < 25) := by omega
      go_wp2
      go_ret
      exact ⟨rfl, HB.out⟩
set_option maxRecDepth 100000 in
set_option maxHeartbeats 1000000 in
theorem rvalid_bad (al : Option Addr) (n c : Nat) (zs : List Int) (w : World) (h : Sl w al n zs) (j : Nat) (hj : j < n) (hj2 : j < 25) (hbad : ¬ inR (zs.getD j 0)) (hok : ∀ i, i < j → inR (zs.getD i 0)) :
    Calls Tryd.prog 45 #[.agg #[.slice al n c]] w (OutV w (.bool false)) := by
  obtain ⟨W, hW, hb, hz, h0⟩ := box_one_area w al n c
  obtain ⟨b, o, rfl, hb0, hcs⟩ := (h.below (Nat.le_refl _) hb).at (by omega)
  have HC := Lib.hid hcs
  have HB := Lib.hid hb
  have HBAD := Lib.hid hbad
  have HOK := Lib.hid hok
  clear hb hz hcs hb0 hbad hok h
  go_enter Tryd.func45, Tryd.ntmps45
  go_wp2
  clear hW
  go_loop [3] (fun iv => ∃ i : Nat, i ≤ j ∧ iv = .int .i64 i) (fun iv => 25 - (intOf iv).toNat)
  case atStart => exact ⟨0, by omega, rfl⟩
  case round =>
    obtain ⟨i, hi, rfl⟩ := hrel
    have i0 : (0 : Int) ≤ i := by omega
    have d1 : (i : Int) < n := by omega
    have d2 : (i : Int) < 25 := by omega
    have hc := HC.out i (by omega)
    by_cases hlt : i < j
    · have hr := HOK.out i hlt
      obtain ⟨r1, r2⟩ : 0 ≤ zs.getD i 0 ∧ zs.getD i 0 ≤ 281474976710655 := hr
      generalize zs.getD i 0 = z at hc r1 r2
      go_wp2
      go_round
      case rel => exact ⟨i + 1, by omega, by go_num⟩
      case measure => simp [intOf]; omega
    · obtain rfl : i = j := by omega
      have hr : zs.getD i 0 < 0 ∨ 281474976710655 < zs.getD i 0 := by have := HBAD.out; unfold inR at this; omega
      generalize zs.getD i 0 = z at hc hr
      clear HBAD HOK
      rcases hr with h2 | h2
      · go_wp2
        go_ret
        exact ⟨rfl, HB.out⟩
      · have h1 : 0 ≤ z := by omega
        go_wp2
        go_ret
        exact ⟨rfl, HB.out⟩
theorem rvalid_any (al : Option Addr) (n c : Nat) (zs : List Int) (o : Option Ar) (hO : Is zs o) (w : World) (h : Sl w al n zs) :
    Calls Tryd.prog 45 #[.agg #[.slice al n c]] w (OutV w (.bool o.isSome)) := by
  by_cases hg : ∀ z ∈ zs.take 25, inR z
  · exact rvalid_good al n c zs w h _ (by rw [is_take hO hg, h.1]) hg
  · rw [is_bad hO hg]
    obtain ⟨j, j1, j2, j3⟩ := first_bad _ hg
    have hl : (zs.take 25).length = min 25 zs.length := List.length_take
    have hn := h.1
    exact rvalid_bad al n c zs w h j (by omega) (by omega) (by rw [← getD_take (by omega)]; exact j2) (fun i hi => by rw [← getD_take (by omega)]; exact j3 i hi)
end Go.Proofs.YtbgdlfkeimaaiaaDoor
