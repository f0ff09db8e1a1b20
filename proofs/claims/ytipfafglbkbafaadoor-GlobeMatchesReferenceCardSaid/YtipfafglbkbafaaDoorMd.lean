/- The reference's Made: an area that integers determine. -/
import Derived.Test.YtipfafglbkbafaaDoorRx
namespace Go.Proofs.YtipfafglbkbafaaDoor
open Go.RowKit Go.Shelf
set_option linter.unusedVariables false
set_option linter.unusedSimpArgs false

/-- A slice of rows of four integers. -/
def S4 (W : World) (al : Option Addr) (n : Nat) : Prop :=
  n ≤ 9223372036854775807 ∧ (n = 0 ∨ ∃ b o, al = some ⟨b, o, none⟩ ∧ b < W.heap.size ∧ ∀ i, i < n → ∃ z0 z1 z2 z3 : Int,
    (-9223372036854775808 ≤ z0 ∧ z0 ≤ 9223372036854775807) ∧ (-9223372036854775808 ≤ z1 ∧ z1 ≤ 9223372036854775807) ∧ (-9223372036854775808 ≤ z2 ∧ z2 ≤ 9223372036854775807) ∧ (-9223372036854775808 ≤ z3 ∧ z3 ≤ 9223372036854775807) ∧
    W.cell? ⟨b, o + i * 4, none⟩ = some (.int .i64 z0) ∧ W.cell? ⟨b, o + i * 4 + 1, none⟩ = some (.int .i64 z1) ∧ W.cell? ⟨b, o + i * 4 + 2, none⟩ = some (.int .i64 z2) ∧ W.cell? ⟨b, o + i * 4 + 3, none⟩ = some (.int .i64 z3))
theorem S4.below {W W' : World} {al : Option Addr} {n : Nat} (h : S4 W al n) (hb : Below W.heap.size W W') : S4 W' al n := by
  refine ⟨h.1, ?_⟩
  rcases h.2 with h | ⟨b, o, rfl, hlt, hc⟩
  · exact .inl h
  · refine .inr ⟨b, o, rfl, Nat.lt_of_lt_of_le hlt hb.size, fun i hi => ?_⟩
    obtain ⟨z0, z1, z2, z3, r0, r1, r2, r3, c0, c1, c2, c3⟩ := hc i hi
    exact ⟨z0, z1, z2, z3, r0, r1, r2, r3, (hb.cell (p := ⟨b, o + i * 4, none⟩) hlt).trans c0, (hb.cell (p := ⟨b, o + i * 4 + 1, none⟩) hlt).trans c1, (hb.cell (p := ⟨b, o + i * 4 + 2, none⟩) hlt).trans c2, (hb.cell (p := ⟨b, o + i * 4 + 3, none⟩) hlt).trans c3⟩
/-- The state of Made's loops. -/
def MdI (w : World) (g B : Nat) (wr : World) : Prop :=
  (∃ f : Ar, HasF wr g 3 f) ∧ Below w.heap.size w wr ∧ wr.heap[w.heap.size]? = some (.cells #[.slice none 0 0] 25 (0, 0)) ∧ wr.heap[B]? = some (.cells #[.slice (some ⟨g, 0, none⟩) 24 24] 25 (0, 0))
set_option maxRecDepth 100000 in
set_option maxHeartbeats 4000000 in
theorem made_any (al : Option Addr) (n c : Nat) (w : World) (h : S4 w al n) :
    Calls Tryd.prog 11 #[.slice al n c] w fun e w' => ∃ g f, e = .returned (.agg #[.slice (some ⟨g, 0, none⟩) 24 24]) ∧ w.heap.size ≤ g ∧ HasF w' g 3 f ∧ Below w.heap.size w w' := by
  obtain ⟨W, hW⟩ : ∃ W, w.alloc (.cells #[.slice none 0 0] 25) = W := ⟨_, rfl⟩
  have hb : Below w.heap.size w W := by rw [← hW]; exact (Below.refl _ _).alloc (Nat.le_refl _) _
  have h0 : W.heap[w.heap.size]? = some (.cells #[.slice none 0 0] 25 (0, 0)) := by rw [← hW]; exact heap_new' _ _ _ rfl
  have hz : w.heap.size < W.heap.size := by rw [← hW]; simp
  have CE := Lib.hid (rempty_any W)
  have HS := Lib.hid h
  have hn := h.1
  clear h
  go_enter Tryd.func11, Tryd.ntmps11
  go_wp2_with fail
  (with_reducible refine CE.out.mono ?_)
  rintro e w1 ⟨g, rfl, hge, hG, hb1⟩
  obtain ⟨B, hB⟩ : ∃ B, w1.heap.size = B := ⟨_, rfl⟩
  obtain ⟨V, hV⟩ : ∃ V, w1.alloc (.cells #[.slice (some ⟨g, 0, none⟩) 24 24] 25) = V := ⟨_, rfl⟩
  have hbV : Below w1.heap.size w1 V := by rw [← hV]; exact (Below.refl _ _).alloc (Nat.le_refl _) _
  have HI := Lib.hid (show MdI w g B V from ⟨⟨nul, hG.below hbV hG.lt⟩, hb.trans ((hb1.trans (hbV.mono hb1.size)).mono hb.size), (hbV.block _ (Nat.lt_of_lt_of_le hz hb1.size)).trans ((hb1.block _ hz).trans h0), by rw [← hV, ← hB]; exact heap_new' _ _ _ rfl⟩)
  have n1 : g ≠ w.heap.size := by omega
  have n2 : g ≠ B := by have := hG.lt; omega
  have n3 : w.heap.size < g := by omega
  have n4 : w.heap.size ≤ g := by omega
  clear hb1 hbV hG hb hz h0 hW
  go_wp2
  clear hV hB hge
  go_loopw [4] (fun iv wr => ∃ i : Nat, i ≤ 8 ∧ iv = .int .i64 i ∧ MdI w g B wr) (fun iv _ => 8 - (intOf iv).toNat)
  case atStart => exact ⟨0, by omega, rfl, HI.out⟩
  case round =>
    obtain ⟨i, hi, rfl, hI⟩ := hrel
    clear HI
    have HI := Lib.hid hI
    clear hI
    have i0 : (0 : Int) ≤ i := by omega
    by_cases hlt : i < n ∧ i < 8
    · obtain ⟨l1, l2⟩ := hlt
      have d1 : decide ((i : Int) < n) = true := by simp; omega
      have d2 : decide ((i : Int) < 8) = true := by simp; omega
      have i1 : (i : Int) < n := by omega
      have i8 : (i : Int) < 8 := by omega
      obtain ⟨b, o, rfl, hbl, z0, z1, z2, z3, r0, r1, r2, r3, hc⟩ : ∃ b o, al = some ⟨b, o, none⟩ ∧ b < w.heap.size ∧ ∃ z0 z1 z2 z3 : Int,
          (-9223372036854775808 ≤ z0 ∧ z0 ≤ 9223372036854775807) ∧ (-9223372036854775808 ≤ z1 ∧ z1 ≤ 9223372036854775807) ∧ (-9223372036854775808 ≤ z2 ∧ z2 ≤ 9223372036854775807) ∧ (-9223372036854775808 ≤ z3 ∧ z3 ≤ 9223372036854775807) ∧
          ∀ W', Below w.heap.size w W' → W'.cell? ⟨b, o + i * 4, none⟩ = some (.int .i64 z0) ∧ W'.cell? ⟨b, o + i * 4 + 1, none⟩ = some (.int .i64 z1) ∧ W'.cell? ⟨b, o + i * 4 + 2, none⟩ = some (.int .i64 z2) ∧ W'.cell? ⟨b, o + i * 4 + 3, none⟩ = some (.int .i64 z3) := by
        rcases HS.out.2 with h | ⟨b, o, h1, h2, h3⟩
        · omega
        · obtain ⟨z0, z1, z2, z3, r0, r1, r2, r3, c0, c1, c2, c3⟩ := h3 i l1
          exact ⟨b, o, h1, h2, z0, z1, z2, z3, r0, r1, r2, r3, fun W' hb => ⟨(hb.cell (p := ⟨b, o + i * 4, none⟩) h2).trans c0, (hb.cell (p := ⟨b, o + i * 4 + 1, none⟩) h2).trans c1, (hb.cell (p := ⟨b, o + i * 4 + 2, none⟩) h2).trans c2, (hb.cell (p := ⟨b, o + i * 4 + 3, none⟩) h2).trans c3⟩⟩
      have HC := Lib.hid hc
      have C0 := Lib.hid (fun W => rpick_any z0 r0.1 r0.2 48 (by decide) (by decide) 48 rfl W)
      have C1 := Lib.hid (fun W => rpick_any z1 r1.1 r1.2 24 (by decide) (by decide) 24 rfl W)
      have C2 := Lib.hid (fun W => rpick_any z2 r2.1 r2.2 8 (by decide) (by decide) 8 rfl W)
      have C3 := Lib.hid (fun W => rpick_any z3 r3.1 r3.2 8 (by decide) (by decide) 8 rfl W)
      have p0 := pickZ_lt z0 (n := 48) (by decide)
      have p1 := pickZ_lt z1 (n := 24) (by decide)
      have p2 := pickZ_lt z2 (n := 8) (by decide)
      have p3 := pickZ_lt z3 (n := 8) (by decide)
      generalize pickZ z0 48 = a at *
      generalize pickZ z1 24 = d at *
      generalize pickZ z2 8 = wd at *
      generalize pickZ z3 8 = ht at *
      have p0' : (a : Int) < 48 := by omega
      have p1' : (d : Int) < 24 := by omega
      have p2' : (wd : Int) < 8 := by omega
      have p3' : (ht : Int) < 8 := by omega
      clear hc r0 r1 r2 r3
      go_wp2
      clear d1 d2
      go_loopw [5] (fun yv wr => ∃ y : Nat, y ≤ 8 ∧ yv = .int .i64 y ∧ MdI w g B wr) (fun yv _ => 8 - (intOf yv).toNat)
      case atStart => exact ⟨0, by omega, rfl, HI.out⟩
      case round =>
        obtain ⟨y, hy, rfl, hI⟩ := hrel
        clear HI
        have HI := Lib.hid hI
        clear hI
        have y0 : (0 : Int) ≤ y := by omega
        have y8 : (y : Int) ≤ 8 := by omega
        rename World => wy
        have hc3 := (HC.out wy HI.out.2.1).2.2.2
        by_cases hyl : y ≤ ht
        · have dy : decide ((y : Int) ≤ ht) = true := by simp; omega
          go_wp2_with (go_at_call 48; (with_reducible refine (C3.out _).mono ?_); rintro e w' ⟨rfl, rfl⟩)
          clear dy hc3
          go_loopw [6] (fun kv wr => ∃ k : Nat, k ≤ 8 ∧ kv = .int .i64 k ∧ MdI w g B wr) (fun kv _ => 8 - (intOf kv).toNat)
          case atStart => exact ⟨0, by omega, rfl, HI.out⟩
          case round =>
            obtain ⟨k, hk, rfl, hI⟩ := hrel
            clear HI
            have HI := Lib.hid hI
            clear hI
            have k0 : (0 : Int) ≤ k := by omega
            have k8 : (k : Int) ≤ 8 := by omega
            have hcs := HC.out wr HI.out.2.1
            have hc1 := hcs.2.1
            have hc2 := hcs.2.2.1
            by_cases hkl : k ≤ wd
            · have dk : decide ((k : Int) ≤ wd) = true := by simp; omega
              by_cases hin : d + y < 24
              · have di : decide ((d : Int) + y < 24) = true := by simp; omega
                have hc0 := hcs.1
                obtain ⟨f, hF⟩ := HI.out.1
                have HFF := Lib.hid hF
                have CP := Lib.hid (fun W hF => put_any g 24 f ((a : Int) + k) (d + y) hin W hF)
                have ecast : ((d : Int) + y) = ((d + y : Nat) : Int) := by omega
                simp only [← ecast] at CP
                have hB0 := (row_cell HI.out.2.2.2 0).trans (show _ = some (.slice (some ⟨g, 0, none⟩) 24 24) from rfl)
                have HE := Lib.hid ecast
                have HCS := Lib.hid hcs
                clear hF ecast hcs
                go_wp2_with (first
                  | (go_at_call 48; (with_reducible refine (C2.out _).mono ?_); rintro e w' ⟨rfl, rfl⟩)
                  | (go_at_call 48; (with_reducible refine (C1.out _).mono ?_); rintro e w' ⟨rfl, rfl⟩))
                have q1 : b < wr.heap.size := Nat.lt_of_lt_of_le hbl HI.out.2.1.size
                have q2 : b ≠ g := by omega
                have q3 : B < wr.heap.size := (Array.getElem?_eq_some_iff.1 HI.out.2.2.2).1
                have q4 : B ≠ g := fun e => n2 e.symm
                have HFD := Lib.hid (show HasF wr.drew g 3 f from HFF.out)
                have wa : IntKind.i64.wrap ((a : Int) + k) = (a : Int) + k := IntWalk.i64_in _ ⟨by omega, by omega⟩
                have wd' : IntKind.i64.wrap ((d : Int) + y) = (d : Int) + y := IntWalk.i64_in _ ⟨by omega, by omega⟩
                refine wp_region_held_drew (S := fun w' => ∀ b o, b < wr.heap.size → b ≠ g → w'.cell? ⟨b, o, none⟩ = wr.cell? ⟨b, o, none⟩) (by kernel_rfl) (fun b o h hn => rfl) (fun hHeld => ?_)
                refine wpAnyH_take (i := 0) (oi := _) (v := ?_) rfl (by kernel_rfl) (by kernel_rfl) (by kernel_rfl) (fun _ _ _ h => h) (Or.inl ⟨by rfl, ?_⟩) (by assumption) ?_
                rotate_left 1
                · (intro w hSw; (try dsimp only at hSw); go_simp; try with_reducible rfl)
                try simp only [List.getElem_toArray, List.getElem_cons_zero, List.getElem_cons_succ, Act.put, List.setIfInBounds_toArray, List.set_cons_zero, List.set_cons_succ]
                refine wpAnyH_take (i := 1) (oi := _) (v := ?_) rfl (by kernel_rfl) (by kernel_rfl) (by kernel_rfl) (fun _ _ _ h => h) (Or.inl ⟨by rfl, ?_⟩) (by assumption) ?_
                rotate_left 1
                · (intro w hSw; (try dsimp only at hSw); go_simp; try with_reducible rfl)
                try simp only [List.getElem_toArray, List.getElem_cons_zero, List.getElem_cons_succ, Act.put, List.setIfInBounds_toArray, List.set_cons_zero, List.set_cons_succ]
                refine wpAnyH_take (i := 2) (oi := _) (v := ?_) rfl (by kernel_rfl) (by kernel_rfl) (by kernel_rfl) (fun _ _ _ h => h) (Or.inl ⟨by rfl, ?_⟩) (by assumption) ?_
                rotate_left 1
                · (intro w hSw; (try dsimp only at hSw); go_simp; try with_reducible rfl)
                try simp only [List.getElem_toArray, List.getElem_cons_zero, List.getElem_cons_succ, Act.put, List.setIfInBounds_toArray, List.set_cons_zero, List.set_cons_succ]
                refine wpAnyH_take (i := 3) (oi := _) (v := ?_) rfl (by kernel_rfl) (by kernel_rfl) (by kernel_rfl) (fun _ _ _ h => h) (Or.inl ⟨by rfl, ?_⟩) (by assumption) ?_
                rotate_left 1
                · (intro w hSw; (try dsimp only at hSw); go_simp; try with_reducible rfl)
                try simp only [List.getElem_toArray, List.getElem_cons_zero, List.getElem_cons_succ, Act.put, List.setIfInBounds_toArray, List.set_cons_zero, List.set_cons_succ]
                refine wpAnyH_take (i := 4) (oi := _) (v := ?_) rfl (by kernel_rfl) (by kernel_rfl) (by kernel_rfl) (fun _ _ _ h => h) (Or.inl ⟨by rfl, ?_⟩) (by assumption) ?_
                rotate_left 1
                · (intro w hSw; (try dsimp only at hSw); go_simp; try with_reducible rfl)
                try simp only [List.getElem_toArray, List.getElem_cons_zero, List.getElem_cons_succ, Act.put, List.setIfInBounds_toArray, List.set_cons_zero, List.set_cons_succ]
                refine wpAnyH_take (i := 5) (oi := _) (v := ?_) rfl (by kernel_rfl) (by kernel_rfl) (by kernel_rfl) (fun _ _ _ h => h) (Or.inl ⟨by rfl, ?_⟩) (by assumption) ?_
                rotate_left 1
                · (intro w hSw; (try dsimp only at hSw); go_simp; try with_reducible rfl)
                try simp only [List.getElem_toArray, List.getElem_cons_zero, List.getElem_cons_succ, Act.put, List.setIfInBounds_toArray, List.set_cons_zero, List.set_cons_succ]
                refine wpAnyH_take (i := 7) (oi := _) (v := ?_) rfl (by kernel_rfl) (by kernel_rfl) (by kernel_rfl) (fun _ _ _ h => h) (Or.inl ⟨by rfl, ?_⟩) (by assumption) ?_
                rotate_left 1
                · (intro w hSw; (try dsimp only at hSw); go_simp; try with_reducible rfl)
                try simp only [List.getElem_toArray, List.getElem_cons_zero, List.getElem_cons_succ, Act.put, List.setIfInBounds_toArray, List.set_cons_zero, List.set_cons_succ]
                refine wpAnyH_take (i := 9) (oi := _) (v := ?_) rfl (by kernel_rfl) (by kernel_rfl) (by kernel_rfl) (fun _ _ _ h => h) (Or.inl ⟨by rfl, ?_⟩) (by assumption) ?_
                rotate_left 1
                · (intro w hSw; (try dsimp only at hSw); go_simp; try with_reducible rfl)
                try simp only [List.getElem_toArray, List.getElem_cons_zero, List.getElem_cons_succ, Act.put, List.setIfInBounds_toArray, List.set_cons_zero, List.set_cons_succ]
                refine wpAnyH_take (i := 10) (oi := _) (v := ?_) rfl (by kernel_rfl) (by kernel_rfl) (by kernel_rfl) (fun _ _ _ h => h) (Or.inl ⟨by rfl, ?_⟩) (by assumption) ?_
                rotate_left 1
                · (intro w hSw; (try dsimp only at hSw); go_simp; try with_reducible rfl)
                try simp only [List.getElem_toArray, List.getElem_cons_zero, List.getElem_cons_succ, Act.put, List.setIfInBounds_toArray, List.set_cons_zero, List.set_cons_succ]
                refine wpAnyH_take (i := 11) (oi := _) (v := ?_) rfl (by kernel_rfl) (by kernel_rfl) (by kernel_rfl) (fun _ _ _ h => h) (Or.inl ⟨by rfl, ?_⟩) (by assumption) ?_
                rotate_left 1
                · (intro w hSw; (try dsimp only at hSw); go_simp; try with_reducible rfl)
                try simp only [List.getElem_toArray, List.getElem_cons_zero, List.getElem_cons_succ, Act.put, List.setIfInBounds_toArray, List.set_cons_zero, List.set_cons_succ]
                refine wpAnyH_take (i := 12) (oi := _) (v := ?_) rfl (by kernel_rfl) (by kernel_rfl) (by kernel_rfl) (fun _ _ _ h => h) (Or.inl ⟨by rfl, ?_⟩) (by assumption) ?_
                rotate_left 1
                · (intro w hSw; (try dsimp only at hSw); go_simp; try with_reducible rfl)
                try simp only [List.getElem_toArray, List.getElem_cons_zero, List.getElem_cons_succ, Act.put, List.setIfInBounds_toArray, List.set_cons_zero, List.set_cons_succ]
                refine wpAnyH_take (i := 13) (oi := _) (v := ?_) rfl (by kernel_rfl) (by kernel_rfl) (by kernel_rfl) (fun _ _ _ h => h) (Or.inl ⟨by rfl, ?_⟩) (by assumption) ?_
                rotate_left 1
                · (intro w hSw; (try dsimp only at hSw); go_simp; try with_reducible rfl)
                try simp only [List.getElem_toArray, List.getElem_cons_zero, List.getElem_cons_succ, Act.put, List.setIfInBounds_toArray, List.set_cons_zero, List.set_cons_succ]
                refine wpAnyH_take (i := 15) (oi := _) (v := ?_) rfl (by kernel_rfl) (by kernel_rfl) (by kernel_rfl) (fun _ _ _ h => h) (Or.inl ⟨by rfl, ?_⟩) (by assumption) ?_
                rotate_left 1
                · (intro w hSw; (try dsimp only at hSw); go_simp; try with_reducible rfl)
                try simp only [List.getElem_toArray, List.getElem_cons_zero, List.getElem_cons_succ, Act.put, List.setIfInBounds_toArray, List.set_cons_zero, List.set_cons_succ]
                refine wpAnyH_ready (rs := [6]) (by kernel_rfl) (by simp) ?_
                refine AllReadyH.cons (o := _) rfl (fun K hK => ?_) AllReadyH.nil
                rw [if_pos (by kernel_rfl)]
                simp only [List.getElem_toArray, List.getElem_cons_zero, List.getElem_cons_succ]
                go_simp
                (with_reducible refine (C0.out _).mono ?_)
                rintro e wq ⟨rfl, rfl⟩
                have HX := Lib.hid hHeld; clear hHeld
                refine hK.out _ _ (fun b o h hn => HX.out b o h hn) (fun hHeld => ?_)
                clear hK K
                try simp only [List.getElem_toArray, List.getElem_cons_zero, List.getElem_cons_succ, Act.put, List.setIfInBounds_toArray, List.set_cons_zero, List.set_cons_succ]
                refine wpAnyH_take (i := 8) (oi := _) (v := ?_) rfl (by kernel_rfl) (by kernel_rfl) (by kernel_rfl) (fun _ _ _ h => h) (Or.inl ⟨by rfl, ?_⟩) (by assumption) ?_
                rotate_left 1
                · (intro w hSw; (try dsimp only at hSw); go_simp; try with_reducible rfl)
                try simp only [List.getElem_toArray, List.getElem_cons_zero, List.getElem_cons_succ, Act.put, List.setIfInBounds_toArray, List.set_cons_zero, List.set_cons_succ]
                refine wpAnyH_ready (rs := [14]) (by kernel_rfl) (by simp) ?_
                refine AllReadyH.cons (o := _) rfl (fun K hK => ?_) AllReadyH.nil
                rw [if_pos (by kernel_rfl)]
                simp only [List.getElem_toArray, List.getElem_cons_zero, List.getElem_cons_succ]
                go_simp
                (with_reducible refine (C1.out _).mono ?_)
                rintro e wq ⟨rfl, rfl⟩
                have HX := Lib.hid hHeld; clear hHeld
                refine hK.out _ _ (fun b o h hn => HX.out b o h hn) (fun hHeld => ?_)
                clear hK K
                try simp only [List.getElem_toArray, List.getElem_cons_zero, List.getElem_cons_succ, Act.put, List.setIfInBounds_toArray, List.set_cons_zero, List.set_cons_succ]
                refine wpAnyH_take (i := 16) (oi := _) (v := ?_) rfl (by kernel_rfl) (by kernel_rfl) (by kernel_rfl) (fun _ _ _ h => h) (Or.inl ⟨by rfl, ?_⟩) (by assumption) ?_
                rotate_left 1
                · (intro w hSw; (try dsimp only at hSw); go_simp; try with_reducible rfl)
                try simp only [List.getElem_toArray, List.getElem_cons_zero, List.getElem_cons_succ, Act.put, List.setIfInBounds_toArray, List.set_cons_zero, List.set_cons_succ]
                refine wpAnyH_ready (rs := [17]) (by kernel_rfl) (by simp) ?_
                refine AllReadyH.cons (o := _) rfl (fun K hK => ?_) AllReadyH.nil
                rw [if_pos (by kernel_rfl)]
                simp only [List.getElem_toArray, List.getElem_cons_zero, List.getElem_cons_succ]
                go_simp
                (with_reducible refine (CP.out _ HFD.out).mono ?_)
                rintro e w5 ⟨rfl, hF5, hz5, ho5, hb5⟩
                clear hHeld
                refine hK.out _ _ (fun b o h hn => World.cell?_of_block (a := ⟨b, o, none⟩) (ho5 b h hn)) (fun hHeld => ?_)
                clear hK K
                try simp only [List.getElem_toArray, List.getElem_cons_zero, List.getElem_cons_succ, Act.put, List.setIfInBounds_toArray, List.set_cons_zero, List.set_cons_succ]
                refine wpAnyH_done (by kernel_rfl) ?_ _
                clear wa wd' hHeld q1 q2 q3 q4 di
                have hI5 : MdI w g B w5 := ⟨⟨_, hF5⟩, HI.out.2.1.drew.trans (hb5 w.heap.size n4 HI.out.2.1.size), (ho5 _ ((Array.getElem?_eq_some_iff.1 HI.out.2.2.1).1) (fun e => n1 e.symm)).trans HI.out.2.2.1, (ho5 _ ((Array.getElem?_eq_some_iff.1 HI.out.2.2.2).1) (fun e => n2 e.symm)).trans HI.out.2.2.2⟩
                have HI5 := Lib.hid hI5
                clear hI5 hF5 hz5 ho5 hb5 hB0 hc0 hc1 hc2
                go_wp2
                exact ⟨⟨k + 1, by omega, by go_num, HI5.out⟩, by simp [intOf]; omega⟩
              · have di : decide ((d : Int) + y < 24) = false := by simp; omega
                go_wp2_with (first
                  | (go_at_call 48; (with_reducible refine (C2.out _).mono ?_); rintro e w' ⟨rfl, rfl⟩)
                  | (go_at_call 48; (with_reducible refine (C1.out _).mono ?_); rintro e w' ⟨rfl, rfl⟩))
                exact ⟨⟨k + 1, by omega, by go_num, HI.out⟩, by simp [intOf]; omega⟩
            · have dk : decide ((k : Int) ≤ wd) = false := by simp; omega
              go_wp2_with (go_at_call 48; (with_reducible refine (C2.out _).mono ?_); rintro e w' ⟨rfl, rfl⟩)
              exact ⟨⟨y + 1, by omega, by go_num, HI.out⟩, by simp [intOf]; omega⟩
        · have dy : decide ((y : Int) ≤ ht) = false := by simp; omega
          go_wp2_with (go_at_call 48; (with_reducible refine (C3.out _).mono ?_); rintro e w' ⟨rfl, rfl⟩)
          exact ⟨⟨i + 1, by omega, by go_num, HI.out⟩, by simp [intOf]; omega⟩
    · obtain ⟨f, hF⟩ := HI.out.1
      have HFF := Lib.hid hF
      have hB0 := (row_cell HI.out.2.2.2 0).trans (show _ = some (.slice (some ⟨g, 0, none⟩) 24 24) from rfl)
      have hR0 := (row_cell HI.out.2.2.1 0).trans (show _ = some (.slice none 0 0) from rfl)
      have hRf := frozen_of_row wr _ 0 _ _ HI.out.2.2.1
      clear hF
      have hcase : n ≤ i ∨ (i < n ∧ 8 ≤ i) := by omega
      clear hlt
      rcases hcase with h1 | ⟨h1, h2⟩
      · have d1 : decide ((i : Int) < n) = false := by simp; omega
        go_wp2
        exact bodyPost_ret (v := .agg #[.slice (some ⟨g, 0, none⟩) 24 24]) (by simp [results, Tryd.results11, go_sem, hR0]) rfl
          ⟨g, f, rfl, n4, HFF.out.other n1, HI.out.2.1.setCell (Nat.le_refl _) _⟩
      · have d1 : decide ((i : Int) < n) = true := by simp; omega
        have d2 : decide ((i : Int) < 8) = false := by simp; omega
        go_wp2
        exact bodyPost_ret (v := .agg #[.slice (some ⟨g, 0, none⟩) 24 24]) (by simp [results, Tryd.results11, go_sem, hR0]) rfl
          ⟨g, f, rfl, n4, HFF.out.other n1, HI.out.2.1.setCell (Nat.le_refl _) _⟩
end Go.Proofs.YtipfafglbkbafaaDoor
