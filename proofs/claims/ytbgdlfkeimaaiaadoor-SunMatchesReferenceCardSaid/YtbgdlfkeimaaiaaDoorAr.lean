/- The reference's Area: an area that integers determine. -/
import Derived.Test.YtbgdlfkeimaaiaaDoorGx
import Derived.Test.YtbgdlfkeimaaiaaDoorSe
namespace Go.Proofs.YtbgdlfkeimaaiaaDoor
open Go.RowKit
set_option linter.unusedVariables false
set_option linter.unusedSimpArgs false
/-- A slice of pairs of integers. -/
def S2 (W : World) (al : Option Addr) (n : Nat) : Prop :=
  n ≤ 9223372036854775807 ∧ (n = 0 ∨ ∃ b o, al = some ⟨b, o, none⟩ ∧ b < W.heap.size ∧ ∀ i, i < n → ∃ z0 z1 : Int,
    (-9223372036854775808 ≤ z0 ∧ z0 ≤ 9223372036854775807) ∧ (-9223372036854775808 ≤ z1 ∧ z1 ≤ 9223372036854775807) ∧
    W.cell? ⟨b, o + i * 2, none⟩ = some (.int .i64 z0) ∧ W.cell? ⟨b, o + i * 2 + 1, none⟩ = some (.int .i64 z1))
theorem S2.below {W W' : World} {al : Option Addr} {n : Nat} (h : S2 W al n) (hb : Below W.heap.size W W') : S2 W' al n := by
  refine ⟨h.1, ?_⟩
  rcases h.2 with h | ⟨b, o, rfl, hlt, hc⟩
  · exact .inl h
  · refine .inr ⟨b, o, rfl, Nat.lt_of_lt_of_le hlt hb.size, fun i hi => ?_⟩
    obtain ⟨z0, z1, r0, r1, c0, c1⟩ := hc i hi
    exact ⟨z0, z1, r0, r1, (hb.cell (p := ⟨b, o + i * 2, none⟩) hlt).trans c0, (hb.cell (p := ⟨b, o + i * 2 + 1, none⟩) hlt).trans c1⟩
/-- The state of the loop. -/
def ArI (w : World) (g B : Nat) (wr : World) : Prop :=
  (∃ f : Ar, HasF wr g 3 f ∧ f 0 12 = true) ∧ Below w.heap.size w wr ∧ BX wr w.heap.size #[.slice none 0 0] 27 ∧ BX wr B #[.slice (some ⟨g, 0, none⟩) 24 24] 27
set_option maxRecDepth 100000 in
set_option maxHeartbeats 4000000 in
theorem area_any (al : Option Addr) (n c : Nat) (w : World) (h : S2 w al n) :
    Calls Tryd.prog 26 #[.slice al n c] w fun e w' => ∃ g f, e = .returned (.agg #[.slice (some ⟨g, 0, none⟩) 24 24]) ∧ w.heap.size ≤ g ∧ HasF w' g 3 f ∧ f 0 12 = true ∧ Below w.heap.size w w' := by
  obtain ⟨W, hW⟩ : ∃ W, w.alloc (.cells #[.slice none 0 0] 27) = W := ⟨_, rfl⟩
  have hb : Below w.heap.size w W := by rw [← hW]; exact (Below.refl _ _).alloc (Nat.le_refl _) _
  have h0 : BX W w.heap.size #[.slice none 0 0] 27 := by rw [← hW]; exact BX.new rfl
  have hz : W.heap.size = w.heap.size + 1 := by rw [← hW]; simp
  obtain ⟨V, hV⟩ : ∃ V, W.alloc (.cells (FC nul) 3) = V := ⟨_, rfl⟩
  have hbV : Below W.heap.size W V := by rw [← hV]; exact (Below.refl _ _).alloc (Nat.le_refl _) _
  have hF : HasF V W.heap.size 3 nul := by rw [← hV]; exact heap_new' _ _ _ rfl
  have hzV : V.heap.size = W.heap.size + 1 := by rw [← hV]; simp
  obtain ⟨U, hU⟩ : ∃ U, V.alloc (.cells #[.slice (some ⟨W.heap.size, 0, none⟩) 24 24] 27) = U := ⟨_, rfl⟩
  have hbU : Below V.heap.size V U := by rw [← hU]; exact (Below.refl _ _).alloc (Nat.le_refl _) _
  have hA : BX U V.heap.size #[.slice (some ⟨W.heap.size, 0, none⟩) 24 24] 27 := by rw [← hU]; exact BX.new rfl
  have hFU : HasF U W.heap.size 3 nul := hF.below hbU hF.lt
  have h0U : BX U w.heap.size #[.slice none 0 0] 27 := (h0.next hbV).next hbU
  have HS := Lib.hid h
  have hmk := run_make24 W
  have HB := Lib.hid (below_tr (below_tr hb hbV) hbU)
  have HZ := Lib.hid (And.intro hz hzV)
  have HF := Lib.hid hFU; have HA := Lib.hid hA; have H0 := Lib.hid h0U
  have a0 := hA.cell 0
  have r12 : U.cell? ⟨W.heap.size, 12, none⟩ = some (iV (rowOf nul 12)) := hFU.cell (by decide)
  have f12 := hFU.frozen 12
  have hn := h.1
  clear h hb h0 hbV hF hzV hbU hA hFU h0U hz
  go_enter Tryd.func26, Tryd.ntmps26
  go_wp2
  obtain ⟨g, hg⟩ : ∃ g, W.heap.size = g := ⟨_, rfl⟩
  obtain ⟨Ba, hBa⟩ : ∃ Ba, V.heap.size = Ba := ⟨_, rfl⟩
  have HI := Lib.hid (show ArI w g Ba (U.setCell ⟨g, 12, none⟩ (.int .i64 1)) from by
    have hF := HF.out; have hA := HA.out; have h0 := H0.out; have hB := HB.out; have hz := HZ.out
    rw [hg] at hF hz hA
    rw [hBa] at hA hz
    refine ⟨⟨putA nul 0 12, HasF.set (f' := putA nul 0 12) (k := 12) (r := 1) hF (by decide) (by rw [put_row (by decide), rows_nul]; rfl) (fun y _ hy x _ => put_other hy x), by unfold putA; simp⟩, ?_, ?_, ?_⟩
    · exact hB.setCell (p := ⟨g, 12, none⟩) (by show w.heap.size ≤ g; omega) _
    · exact (heap_setCell_other _ _ _ _ (show w.heap.size ≠ g by omega)).trans h0
    · exact (heap_setCell_other _ _ _ _ (show Ba ≠ g by omega)).trans hA)
  have n1 : w.heap.size ≠ g := by have := HZ.out; omega
  have n2 : Ba ≠ g := by have := HZ.out; omega
  have n4 : w.heap.size ≤ g := by have := HZ.out; omega
  rw [hg, hBa]
  clear a0 r12 f12 hmk hU hV hW HF HA H0 HB hg hBa HZ
  go_loopw [4] (fun iv wr => ∃ i : Nat, i ≤ 12 ∧ iv = iV i ∧ ArI w g Ba wr) (fun iv _ => 12 - (intOf iv).toNat)
  case atStart => exact ⟨0, by omega, rfl, HI.out⟩
  case round =>
    obtain ⟨i, hi, rfl, hI⟩ := hrel
    clear HI
    have HI := Lib.hid hI
    clear hI
    have i0 : (0 : Int) ≤ i := by omega
    by_cases hlt : i < n ∧ i < 12
    · obtain ⟨l1, l2⟩ := hlt
      have d1 : decide ((i : Int) < n) = true := by simp; omega
      have d2 : decide ((i : Int) < 12) = true := by simp; omega
      have i1 : (i : Int) < n := by omega
      have i2 : (i : Int) < 12 := by omega
      obtain ⟨b, o, rfl, hbl, z0, z1, r0, r1, c0, c1⟩ : ∃ b o, al = some ⟨b, o, none⟩ ∧ b < w.heap.size ∧ ∃ z0 z1 : Int,
          (-9223372036854775808 ≤ z0 ∧ z0 ≤ 9223372036854775807) ∧ (-9223372036854775808 ≤ z1 ∧ z1 ≤ 9223372036854775807) ∧
          wr.cell? ⟨b, o + i * 2, none⟩ = some (.int .i64 z0) ∧ wr.cell? ⟨b, o + i * 2 + 1, none⟩ = some (.int .i64 z1) := by
        rcases HS.out.2 with h | ⟨b, o, h1, h2, h3⟩
        · omega
        · obtain ⟨z0, z1, r0, r1, c0, c1⟩ := h3 i l1
          exact ⟨b, o, h1, h2, z0, z1, r0, r1, (HI.out.2.1.cell (p := ⟨b, o + i * 2, none⟩) h2).trans c0, (HI.out.2.1.cell (p := ⟨b, o + i * 2 + 1, none⟩) h2).trans c1⟩
      have hp0 := pickZ_lt z0 (n := 48) (by decide)
      have hp1 := pickZ_lt z1 (n := 24) (by decide)
      have C := Lib.hid (rcell_any z0 z1 r0.1 r0.2 r1.1 r1.2)
      generalize pickZ z0 48 = p at *
      generalize pickZ z1 24 = q at *
      clear r0 r1
      go_wp2_with fail
      (with_reducible refine (C.out _).mono ?_)
      rintro e w1 ⟨rfl, hb1⟩
      obtain ⟨X, hX⟩ : ∃ X, w1.alloc (.cells #[.int .i64 (p : Int), .int .i64 (q : Int)] 23) = X := ⟨_, rfl⟩
      have hbX : Below wr.heap.size wr X := by rw [← hX]; exact hb1.alloc hb1.size _
      obtain ⟨⟨f, hF, hf0⟩, hB, h0, hA⟩ := HI.out
      have HFX := Lib.hid (show HasF X g 3 f from hF.below hbX hF.lt)
      have HBX := Lib.hid (show Below w.heap.size w X from below_tr hB hbX)
      have H0X := Lib.hid (h0.next hbX)
      have HAX := Lib.hid (hA.next hbX)
      obtain ⟨Bq, hBq⟩ : ∃ Bq, w1.heap.size = Bq := ⟨_, rfl⟩
      have HCX := Lib.hid (show BX X Bq #[.int .i64 (p : Int), .int .i64 (q : Int)] 23 from by rw [← hX, ← hBq]; exact BX.new rfl)
      clear hF hB h0 hA hb1 hbX c0 c1 HI C d1 d2
      go_wp2_with fail
      clear hX
      have hr := HFX.out.cell hp1
      have hfz := HFX.out.frozen q
      have hr2 := row_lt f q
      have a1 : X.cell? ⟨Ba, 0, none⟩ = some (.slice (some ⟨g, 0, none⟩) 24 24) := HAX.out.cell 0
      have a2 : X.cell? ⟨Bq, 0, none⟩ = some (.int .i64 (p : Int)) := HCX.out.cell 0
      have a3 : X.cell? ⟨Bq, 1, none⟩ = some (.int .i64 (q : Int)) := HCX.out.cell 1
      have HP := Lib.hid (put_row (f := f) (b := q) hp0)
      generalize rowOf f q = r at hr HP hr2
      have HR2 := Lib.hid hr2
      have p0 : (0 : Int) ≤ p := by omega
      have p1 : (p : Int) < 48 := by omega
      have q0 : (0 : Int) ≤ q := by omega
      have q1 : (q : Int) < 24 := by omega
      have HSH := Lib.hid (And.intro (shl1 p hp0) (pow48 hp0))
      have HPQ := Lib.hid (And.intro hp0 hp1)
      clear hr2 hp0 hp1 hBq
      go_still_tail 15, (by kernel_rfl)
      go_wp2
      have hbit : Value.int .i64 (bits BinOp.or IntKind.i64 (r : Int) (wrap64 (2 ^ p))) = iV (r ||| 2 ^ p) := by rw [HSH.out.1, iV_or HR2.out HSH.out.2]
      have hF := HasF.set (f' := putA f p q) (k := q) (r := r ||| 2 ^ p) HFX.out HPQ.out.2 HP.out (fun y _ hy x _ => put_other hy x)
      have hF' := hF.below (Below.refl _ _).drew hF.lt
      rw [← hbit] at hF'
      refine ⟨⟨i + 1, by omega, ret_i (by omega), ⟨_, hF', by unfold putA; rw [hf0]; rfl⟩, ?_, ?_, ?_⟩, by simp only [intOf]; omega⟩
      · exact (HBX.out.setCell (p := ⟨g, q, none⟩) n4 _).drew
      · exact (heap_setCell_other _ _ _ _ n1).trans H0X.out
      · exact (heap_setCell_other _ _ _ _ n2).trans HAX.out
    · have HE := Lib.hid hlt
      obtain ⟨⟨f, hF, hf0⟩, hB, h0, hA⟩ := HI.out
      have HR := Lib.hid (And.intro hF (And.intro hf0 (And.intro hB h0)))
      have a1 : wr.cell? ⟨Ba, 0, none⟩ = some (.slice (some ⟨g, 0, none⟩) 24 24) := hA.cell 0
      have a2 : wr.cell? ⟨w.heap.size, 0, none⟩ = some (.slice none 0 0) := h0.cell 0
      have a3 := h0.frozen 0
      clear hF hf0 hB h0 hA HI
      have hfin : ∀ W', W' = wr.setCell ⟨w.heap.size, 0, none⟩ (.slice (some ⟨g, 0, none⟩) 24 24) → W'.cell? ⟨w.heap.size, 0, none⟩ = some (.slice (some ⟨g, 0, none⟩) 24 24) ∧ HasF W' g 3 f ∧ Below w.heap.size w W' := by
        rintro W' rfl
        obtain ⟨hF, hf0, hB, h0⟩ := HR.out
        exact ⟨World.cell?_setCell_same' _ _ _ (by rw [h0.cell 0]; rfl), hF.other (Ne.symm n1), hB.setCell (p := ⟨w.heap.size, 0, none⟩) (Nat.le_refl _) _⟩
      have HFIN := Lib.hid hfin
      clear hfin
      by_cases hin : i < n
      · have d1' : decide (i < n) = true := by simp; omega
        have d2 : decide ((i : Int) < 12) = false := by have := HE.out; simp; omega
        clear hlt hin
        go_wp2
        obtain ⟨e1, e2, e3⟩ := HFIN.out _ rfl
        exact bodyPost_ret (v := .agg #[.slice (some ⟨g, 0, none⟩) 24 24]) (by simp [results, Tryd.results26, go_sem, e1]) rfl ⟨g, f, rfl, n4, e2, HR.out.2.1, e3⟩
      · have d1 : decide ((i : Int) < n) = false := by simp; omega
        have d1' : decide (i < n) = false := by simp; omega
        clear hlt hin
        go_wp2
        obtain ⟨e1, e2, e3⟩ := HFIN.out _ rfl
        exact bodyPost_ret (v := .agg #[.slice (some ⟨g, 0, none⟩) 24 24]) (by simp [results, Tryd.results26, go_sem, e1]) rfl ⟨g, f, rfl, n4, e2, HR.out.2.1, e3⟩
end Go.Proofs.YtbgdlfkeimaaiaaDoor
