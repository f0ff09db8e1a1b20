/- SunRanges, walked. -/
import Derived.Deep.Cut
import Derived.Deep.CutBlock
import Derived.Deep.DeepCutAuto
import Derived.Test.YtbgdlfkeimaaiaaDoorLn
namespace Go.Proofs.YtbgdlfkeimaaiaaDoor
open Go.RowKit
set_option linter.unusedSimpArgs false
set_option linter.unusedVariables false
theorem lpQr (z : Int) (h0 : -9223372036854775808 ≤ z) (h1 : z ≤ 9223372036854775807) (n : Nat) (hn : 0 < n) (hn2 : n ≤ 2000000000) (N : Int) (hN : N = (n : Int)) :
    ∃ i : Nat, i < n ∧ ∀ w : World, Calls Tryd.prog 13 #[.int .i64 z, .int .i64 N] w fun e w' => e = .returned (iV i) ∧ w' = w :=
  ⟨pickZ z n, pickZ_lt z hn, fun w => (lpick_any z h0 h1 n hn hn2 N hN w).mono fun _ _ ⟨he, hw⟩ => ⟨he, hw.symm⟩⟩
/-- Which of the two bounds have been reached. -/
def rcZ (l h : Int) (L : List Int) : Int := (if l ∈ L then 1 else 0) + (if h ∈ L then 2 else 0)
theorem rc_nil (l h : Int) : rcZ l h [] = 0 := rfl
theorem rc_full {l h : Int} {L : List Int} (h1 : l ∈ L) (h2 : h ∈ L) : rcZ l h L = 3 := by unfold rcZ; rw [if_pos h1, if_pos h2]; rfl
theorem rc_bd (l h : Int) (L : List Int) : 0 ≤ rcZ l h L ∧ rcZ l h L ≤ 3 := by unfold rcZ; split <;> split <;> decide
theorem rc_nn {l h x : Int} {L : List Int} (h1 : x ≠ l) (h2 : x ≠ h) : rcZ l h (L ++ [x]) = rcZ l h L := by
  have e1 : l ∈ L ++ [x] ↔ l ∈ L := by simp [Ne.symm h1]
  have e2 : h ∈ L ++ [x] ↔ h ∈ L := by simp [Ne.symm h2]
  unfold rcZ; simp only [e1, e2]
theorem rc_yn {l h x : Int} {L : List Int} (h1 : x = l) (h2 : x ≠ h) : rcZ l h (L ++ [x]) = bits .or .i64 (rcZ l h L) 1 := by
  have e1 : l ∈ L ++ [x] := by simp [h1]
  have e2 : h ∈ L ++ [x] ↔ h ∈ L := by simp [Ne.symm h2]
  unfold rcZ; rw [if_pos e1]; simp only [e2]; split <;> split <;> decide
theorem rc_ny {l h x : Int} {L : List Int} (h1 : x ≠ l) (h2 : x = h) : rcZ l h (L ++ [x]) = bits .or .i64 (rcZ l h L) 2 := by
  have e1 : l ∈ L ++ [x] ↔ l ∈ L := by simp [Ne.symm h1]
  have e2 : h ∈ L ++ [x] := by simp [h2]
  unfold rcZ; rw [if_pos e2]; simp only [e1]; split <;> split <;> decide
theorem rc_yy {l h x : Int} {L : List Int} (h1 : x = l) (h2 : x = h) : rcZ l h (L ++ [x]) = bits .or .i64 (bits .or .i64 (rcZ l h L) 1) 2 := by
  have e1 : l ∈ L ++ [x] := by simp [h1]
  have e2 : h ∈ L ++ [x] := by simp [h2]
  unfold rcZ; rw [if_pos e1, if_pos e2]; split <;> split <;> decide
theorem laV {al : Option Addr} {n c : Nat} {w : World} (h : S2 w al n) : Calls Tryd.prog 26 #[.slice al n c] w fun e w' => ∃ g f, e = .returned (.agg #[.slice (some ⟨g, 0, none⟩) 24 24]) ∧ w.heap.size ≤ g ∧ HasF w' g 3 f ∧ f 0 12 = true ∧ Below w.heap.size w w' := area_any al n c w h
theorem up_s2 {w : World} {al : Option Addr} {n : Nat} (h : S2 w al n) : Up w (fun W => S2 W al n) := fun _ hb => h.below hb
theorem up_hf {w : World} {g : Nat} {f : Ar} (h : HasF w g 3 f) : Up w (fun W => HasF W g 3 f) := fun _ hb => h.below hb h.lt
theorem up_vr_set {x : World} {B S i : Nat} {cs : Array Value} {t : TypeId} {v : Value} (h : VR B cs t x) (hne : B ≠ S) : Up (x.setCell ⟨S, i, none⟩ v).drew (VR B cs t) := fun W hW => (up_vr ((heap_setCell_other _ _ _ _ hne).trans h)).next (Below.refl _ _).drew W hW
theorem up_hf_set {x : World} {g S i : Nat} {f : Ar} {v : Value} (h : HasF x g 3 f) (hne : g ≠ S) : Up (x.setCell ⟨S, i, none⟩ v).drew (fun W => HasF W g 3 f) := fun W hW => (up_hf (h.other hne)).next (Below.refl _ _).drew W hW
theorem up_vb_set {w x : World} {S i : Nat} {v : Value} (h : VB w x) (h3 : 3 < w.heap.size) (hS : w.heap.size ≤ S) : Up (x.setCell ⟨S, i, none⟩ v).drew (VB w) := fun W hW => by
  have h1 : Below w.heap.size x (x.setCell ⟨S, i, none⟩ v).drew := ((Below.refl _ _).setCell (p := ⟨S, i, none⟩) hS v).drew
  have h2 := h1.trans (hW.mono (Nat.le_trans h.1.size h1.size))
  exact ⟨h.1.trans h2, h.2.below h2 h3⟩
theorem bx_set {x : World} {S : Nat} {a b c : Value} {t : TypeId} (h : BX x S #[a, b] t) : BX (x.setCell ⟨S, 1, none⟩ c).drew S #[a, c] t := (heap_setCell_same x S 1 #[a, b] t c h).trans rfl
theorem mem_range' {t N s : Nat} : s ∈ List.range' t N ↔ t ≤ s ∧ s < t + N := List.mem_range'_1
theorem cells_more (f : Ar) (p q : Nat) (c : Nat × Nat) (h : c ∈ cellsTo f 24) : c ∈ cellsTo (putA f p q) 24 := by
  rw [cellsTo_on] at h ⊢
  exact ⟨h.1, h.2.1, by unfold putA; rw [h.2.2]; rfl⟩
theorem cells_some (f : Ar) (h : f 0 12 = true) : 0 < (cellsTo f 24).length := List.length_pos_of_mem ((cellsTo_on f 24 (0, 12)).2 ⟨by decide, by decide, h⟩)
set_option maxRecDepth 100000 in
set_option maxHeartbeats 8000000 in
theorem ranges_any (al : Option Addr) (n c : Nat) (z0 z1 a b d : Int) (z00 : -9223372036854775808 ≤ z0) (z01 : z0 ≤ 9223372036854775807) (z10 : -9223372036854775808 ≤ z1) (z11 : z1 ≤ 9223372036854775807) (a0 : -9223372036854775808 ≤ a) (a1 : a ≤ 9223372036854775807) (b0 : -9223372036854775808 ≤ b) (b1 : b ≤ 9223372036854775807) (d0 : -9223372036854775808 ≤ d) (d1 : d ≤ 9223372036854775807) (w : World) (hT : Tab w) (hx : S2 w al n) :
    Calls Tryd.prog 10 #[.slice al n c, .agg #[.int .i64 z0, .int .i64 z1], .int .i64 a, .int .i64 b, .int .i64 d] w (OutV w (.bool true)) := by
  have HU := Lib.hid (up_vb (Below.refl w.heap.size w) hT : Up w (VB w))
  have H3 := Lib.hid hT.1
  obtain ⟨w0, P, eA, eB, hbP, hkP⟩ := box1 w #[.int .i64 z0, .int .i64 z1] 32
  replace HU := Lib.hid (HU.out.next hbP)
  have UP := Lib.hid (up_vr hkP : Up w0 (VR P #[.int .i64 z0, .int .i64 z1] 32))
  have US := Lib.hid ((up_s2 hx).next hbP)
  obtain ⟨p, q, hp, hq, CC⟩ := lcV z0 z1 z00 z01 z10 z11
  obtain ⟨t, ht, CT⟩ := lpV a a0 a1 999960 (by decide) (by decide) 999960 rfl
  obtain ⟨m, hm, CM⟩ := lpQr b b0 b1 8 (by decide) (by decide) 8 rfl
  obtain ⟨l, hl, CL⟩ := lpQr d d0 d1 9 (by decide) (by decide) 9 rfl
  obtain ⟨N, hN⟩ : ∃ N : Nat, 1 + m = N := ⟨_, rfl⟩
  obtain ⟨e, he⟩ : ∃ e : Nat, t + N = e := ⟨_, rfl⟩
  obtain ⟨k, hk⟩ : ∃ k : Nat, e + l = k := ⟨_, rfl⟩
  have HC := Lib.hid CC; have HT := Lib.hid CT; have HM := Lib.hid CM; have HLL := Lib.hid CL
  have HE := Lib.hid (show (t : Int) + 1 + m = (e : Int) ∧ (e : Int) + l = (k : Int) from ⟨by omega, by omega⟩)
  have HL := Lib.hid (show (p < 48 ∧ q < 24) ∧ t + N = e ∧ 0 < N ∧ N ≤ 8 ∧ t + (N + l) = k ∧ l ≤ 8 ∧ k ≤ 999976 ∧ e ≤ 999968 from ⟨⟨hp, hq⟩, by omega, by omega, by omega, by omega, by omega, by omega, by omega⟩)
  have HBD := Lib.hid (show t < 999960 ∧ m < 8 ∧ l < 9 ∧ e ≤ 999968 from ⟨ht, hm, hl, by omega⟩)
  clear CC CT CM CL hp hq ht hm hl hN he hk z00 z01 z10 z11 a0 a1 b0 b1 d0 d1 hT hx hbP hkP
  go_enter Tryd.func10, Tryd.ntmps10
  go_wp2_with fail
  clear eA eB
  (with_reducible refine (sane_any _ HU.out.now.2).mono ?_)
  rintro e v1 ⟨rfl, hb⟩
  replace HU := Lib.hid (HU.out.next hb)
  replace UP := Lib.hid (UP.out.next hb)
  replace US := Lib.hid (US.out.next hb)
  clear hb
  go_wp2_with fail
  (with_reducible refine (laV US.out.now).mono ?_)
  rintro e v2 ⟨g, f, rfl, hg, hF, hf0, hb⟩
  have hF2 := hF.lt
  have hW0 := HU.out.now.1.size
  replace HU := Lib.hid (HU.out.next hb)
  replace UP := Lib.hid (UP.out.next hb)
  replace US := Lib.hid (US.out.next hb)
  have HG := Lib.hid (show w.heap.size ≤ g from Nat.le_trans hW0 hg)
  have UF := Lib.hid (up_hf hF)
  have HF0 := Lib.hid hf0
  clear hb hF hf0 hg
  obtain ⟨x2, B, ex2, eb2, hb, hk⟩ := box1 v2 #[.slice (some ⟨g, 0, none⟩) 24 24] 27
  replace HU := Lib.hid (HU.out.next hb)
  replace UP := Lib.hid (UP.out.next hb)
  replace US := Lib.hid (US.out.next hb)
  replace UF := Lib.hid (UF.out.next hb)
  have UB := Lib.hid (up_vr hk : Up x2 (VR B #[.slice (some ⟨g, 0, none⟩) 24 24] 27))
  have HBG := Lib.hid (show g < B from by rw [← eb2]; exact hF2)
  clear hb hk
  go_wp2_with fail
  clear ex2 eb2
  (with_reducible refine (HT.out _).mono ?_)
  rintro e v3 ⟨rfl, hb⟩
  replace HU := Lib.hid (HU.out.next hb)
  replace UP := Lib.hid (UP.out.next hb)
  replace US := Lib.hid (US.out.next hb)
  replace UF := Lib.hid (UF.out.next hb)
  replace UB := Lib.hid (UB.out.next hb)
  clear hb
  have hUBW := UB.out.now
  have hUPW := UP.out.now
  obtain ⟨x3, S, ex3, eb3, hb, hk⟩ := box1 v3 #[.int .i64 (t : Int), .int .i64 0] 29
  replace HU := Lib.hid (HU.out.next hb)
  replace UP := Lib.hid (UP.out.next hb)
  replace US := Lib.hid (US.out.next hb)
  replace UF := Lib.hid (UF.out.next hb)
  replace UB := Lib.hid (UB.out.next hb)
  have HS0 := Lib.hid (show BX x3 S #[.int .i64 (t : Int), .int .i64 0] 29 from hk)
  have HPS := Lib.hid (show P < S from by rw [← eb3]; exact (Array.getElem?_eq_some_iff.1 (show v3.heap[P]? = _ from hUPW)).1)
  have HSV := Lib.hid (show B < S from by rw [← eb3]; exact (Array.getElem?_eq_some_iff.1 (show v3.heap[B]? = _ from hUBW)).1)
  have HEX := Lib.hid (And.intro ex3 eb3)
  clear hb hk hUBW hUPW hF2 hW0 ex3 eb3
  go_upto_region 5 with fail
  rw [HEX.out.1, HEX.out.2]
  clear HEX
  have s0 : x3.cell? ⟨S, 0, none⟩ = some (.int .i64 (t : Int)) := HS0.out.cell 0
  have s1 : x3.cell? ⟨S, 1, none⟩ = some (.int .i64 0) := HS0.out.cell 1
  have s2 := HS0.out.frozen 1
  have t0 : (0 : Int) ≤ t := by omega
  have t1 : (t : Int) < 999960 := by have := HBD.out; omega
  have m0 : (0 : Int) ≤ m := by omega
  have m1 : (m : Int) < 8 := by have := HBD.out; omega
  go_still_tail 7, (by kernel_rfl)
  still_call (HM.out _)
  repeat still_step
  refine wpStill_nil ?_
  change wpList _ _ _ _ _ x3.drew
  rw [show IntKind.i64.wrap (IntKind.i64.wrap ((t : Int) + 1) + (m : Int)) = (e : Int) from by have := HE.out.1; rw [IntKind.wrap_i64, IntKind.wrap_i64]; omega, show IntKind.i64.wrap ((t : Int) + 1) = (t : Int) + 1 from by rw [IntKind.wrap_i64]; omega]
  clear s0 t0 t1 m0 m1
  go_upto_region 6 with fail
  obtain ⟨Z, hZ⟩ : ∃ Z, (x3.setCell ⟨S, 1, none⟩ (.int .i64 (e : Int))).drew = Z := ⟨_, rfl⟩
  rw [hZ]
  replace HU := Lib.hid (show Up Z (VB w) from by rw [← hZ]; exact up_vb_set HU.out.now H3.out (by have := HG.out; have := HBG.out; have := HSV.out; omega))
  replace UP := Lib.hid (show Up Z (VR P #[.int .i64 z0, .int .i64 z1] 32) from by rw [← hZ]; exact up_vr_set UP.out.now (by have := HPS.out; omega))
  replace UF := Lib.hid (show Up Z (fun W => HasF W g 3 f) from by rw [← hZ]; exact up_hf_set UF.out.now (by have := HBG.out; have := HSV.out; omega))
  replace UB := Lib.hid (show Up Z (VR B #[.slice (some ⟨g, 0, none⟩) 24 24] 27) from by rw [← hZ]; exact up_vr_set UB.out.now (by have := HSV.out; omega))
  have UX := Lib.hid (show Up Z (VR S #[.int .i64 (t : Int), .int .i64 (e : Int)] 29) from up_vr (by rw [← hZ]; exact bx_set HS0.out))
  clear hZ HS0 US s1 s2
  have a0 : Z.cell? ⟨B, 0, none⟩ = some (.slice (some ⟨g, 0, none⟩) 24 24) := row_cell UB.out.now 0
  have a1 : Z.cell? ⟨S, 0, none⟩ = some (.int .i64 (t : Int)) := row_cell UX.out.now 0
  have a2 : Z.cell? ⟨S, 1, none⟩ = some (.int .i64 (e : Int)) := row_cell UX.out.now 1
  have CR := Lib.hid (range_yes (some ⟨g, 0, none⟩) 24 24 (rz f) (some f) rfl t N e HL.out.2.1 HL.out.2.2.1 (by have := HL.out; omega) (by have := HL.out; omega) (cells_some f HF0.out) Z UF.out.now.sa HU.out.now.2)
  rw [show of (some f) = f from rfl] at CR
  go_wp2_with fail
  clear a0 a1 a2
  (with_reducible refine (CR.out).mono ?_)
  rintro e v5 ⟨rfl, hb⟩
  replace HU := Lib.hid (HU.out.next hb)
  replace UP := Lib.hid (UP.out.next hb)
  replace UF := Lib.hid (UF.out.next hb)
  replace UB := Lib.hid (UB.out.next hb)
  replace UX := Lib.hid (UX.out.next hb)
  clear hb
  clear CR
  have HLO := Lib.hid (show ∀ x y s, x < 48 → y < 24 → f x y = true → t ≤ s → s < e → lo (hsT (cellsTo f 24) (List.range' t N)) ≤ hgt x y s ∧ hgt x y s ≤ hi (hsT (cellsTo f 24) (List.range' t N)) from fun x y s hx hy hf h1 h2 => by
    have : hgt x y s ∈ hsT (cellsTo f 24) (List.range' t N) := hsT_mem.2 ⟨(x, y), (cellsTo_on f 24 (x, y)).2 ⟨hy, hx, hf⟩, s, mem_range'.2 ⟨h1, by have := HL.out; omega⟩, rfl⟩
    exact ⟨lo_le this, hi_le this⟩)
  have HRE := Lib.hid (show rcZ (lo (hsT (cellsTo f 24) (List.range' t N))) (hi (hsT (cellsTo f 24) (List.range' t N))) (hsC (cellsTo f 24) (List.range' t N)) = 3 from by
    have hne : hsT (cellsTo f 24) (List.range' t N) ≠ [] := by
      have hN0 : 0 < N := HL.out.2.2.1
      have hm : t ∈ List.range' t N := mem_range'.2 ⟨Nat.le_refl _, by omega⟩
      exact List.ne_nil_of_mem (hsT_mem.2 ⟨(0, 12), (cellsTo_on f 24 (0, 12)).2 ⟨by decide, by decide, HF0.out⟩, t, hm, rfl⟩)
    exact rc_full (hsC_mem.2 (lo_reached (hsT_bd _ _) hne)) (hsC_mem.2 (hi_reached (hsT_bd _ _) hne)))
  have HM2 := Lib.hid (show ∀ f' N', (∀ c ∈ cellsTo f 24, c ∈ cellsTo f' 24) → N ≤ N' → lo (hsT (cellsTo f' 24) (List.range' t N')) ≤ lo (hsT (cellsTo f 24) (List.range' t N)) ∧ hi (hsT (cellsTo f 24) (List.range' t N)) ≤ hi (hsT (cellsTo f' 24) (List.range' t N')) from fun f' N' hc hN => by
    have hs : ∀ x ∈ hsT (cellsTo f 24) (List.range' t N), x ∈ hsT (cellsTo f' 24) (List.range' t N') := fun x hx => by
      obtain ⟨c, h1, s, h2, h3⟩ := hsT_mem.1 hx
      have := mem_range'.1 h2
      exact hsT_mem.2 ⟨c, hc c h1, s, mem_range'.2 ⟨this.1, by omega⟩, h3⟩
    exact ⟨lo_sub hs, hi_sub hs⟩)
  generalize lo (hsT (cellsTo f 24) (List.range' t N)) = lo0 at *
  generalize hi (hsT (cellsTo f 24) (List.range' t N)) = hi0 at *
  have a0 : v5.cell? ⟨B, 0, none⟩ = some (.slice (some ⟨g, 0, none⟩) 24 24) := row_cell UB.out.now 0
  go_wp2
  clear a0
  go_loopw [16, 17] (fun rv iv wr => ∃ y : Nat, y ≤ 24 ∧ iv = iV y ∧ rv = .int .i64 (rcZ lo0 hi0 (hsC (cellsTo f y) (List.range' t N))) ∧ Below v5.heap.size v5 wr) (fun _ iv _ => 24 - (intOf iv).toNat)
  case atStart => exact ⟨0, by omega, rfl, rfl, Below.refl _ _⟩
  case round =>
    obtain ⟨y, hy, rfl, rfl, hby⟩ := hrel
    have HBY := Lib.hid hby
    clear hby
    have y0 : (0 : Int) ≤ y := by omega
    by_cases hy24 : y < 24
    · have y1 : (y : Int) < 24 := by omega
      go_wp2
      go_loopw [16, 18] (fun rv iv wr => ∃ x : Nat, x ≤ 48 ∧ iv = iV x ∧ rv = .int .i64 (rcZ lo0 hi0 (hsC (cellsTo f y ++ rowCells f y x) (List.range' t N))) ∧ Below v5.heap.size v5 wr) (fun _ iv _ => 48 - (intOf iv).toNat)
      case atStart => exact ⟨0, by omega, rfl, by simp [rowCells], HBY.out⟩
      case round =>
        obtain ⟨x, hx, rfl, rfl, hbx⟩ := hrel
        have HBX := Lib.hid hbx
        clear HBY
        have x0 : (0 : Int) ≤ x := by omega
        by_cases hx48 : x < 48
        · have x1 : (x : Int) < 48 := by omega
          have hc0 : wr.cell? ⟨B, 0, none⟩ = some (.slice (some ⟨g, 0, none⟩) 24 24) := row_cell (UB.out _ hbx) 0
          have s0 : wr.cell? ⟨S, 0, none⟩ = some (.int .i64 (t : Int)) := row_cell (UX.out _ hbx) 0
          have hr : wr.cell? ⟨g, y, none⟩ = some (iV (rowOf f y)) := (UF.out _ hbx).cell hy24
          have hrl := row_lt f y
          clear hbx
          by_cases hf : f x y = true
          · have hbit := rbit_yes f x y hx48 hf
            have HF := Lib.hid hf
            generalize rowOf f y = r at hr hbit hrl
            clear hf
            go_wp2
            clear s0 hr hc0 hbit hrl
            generalize hL : hsC (cellsTo f y ++ rowCells f y x) (List.range' t N) = L at *
            have HLL2 := Lib.hid hL
            clear hL
            go_loopw [16, 19] (fun rv iv wr => ∃ k : Nat, k ≤ N ∧ iv = iV (t + k) ∧ rv = .int .i64 (rcZ lo0 hi0 (L ++ colH (x, y) (List.range' t k))) ∧ Below v5.heap.size v5 wr) (fun _ iv _ => e - (intOf iv).toNat)
            case atStart => exact ⟨0, by omega, rfl, by simp [colH], HBX.out⟩
            case round =>
              obtain ⟨k, hk, rfl, rfl, hbk⟩ := hrel
              have HBK := Lib.hid hbk
              have s1 : wr.cell? ⟨S, 1, none⟩ = some (.int .i64 (e : Int)) := row_cell (UX.out _ hbk) 1
              clear hbk HBX
              have HR := Lib.hid (colH_snoc (x, y) t k)
              obtain ⟨s, hs⟩ : ∃ s, t + k = s := ⟨_, rfl⟩
              have HSS := Lib.hid hs
              rw [hs]
              clear hs
              have t0 : (0 : Int) ≤ s := by omega
              have t1 : (s : Int) ≤ 1000001 := by have := HL.out; have := HSS.out; omega
              obtain ⟨M, hM⟩ : ∃ M, L ++ colH (x, y) (List.range' t k) = M := ⟨_, rfl⟩
              have HMM := Lib.hid hM
              rw [hM]
              clear hM
              have HRB := Lib.hid (rc_bd lo0 hi0 M)
              by_cases hlt : k < N
              · have hd : decide (s < e) = true := by have := HL.out; have := HSS.out; simp <;> omega
                have hs1 : s ≤ 1000000 := by have := HL.out; have := HSS.out; omega
                go_wp2_with fail
                (with_reducible refine (heightS_yes x y s hx48 hy24 hs1 _).mono ?_)
                rintro ee w5 ⟨rfl, hb5⟩
                have HB5 := Lib.hid (below_tr HBK.out hb5)
                have hbd := HLO.out x y s hx48 hy24 HF.out (by have := HSS.out; omega) (by have := HSS.out; have := HL.out; omega)
                obtain ⟨h, hh⟩ : ∃ h, hgt x y s = h := ⟨_, rfl⟩
                have hgs : hgt x y (t + k) = h := by rw [HSS.out]; exact hh
                have HNX := Lib.hid (show L ++ colH (x, y) (List.range' t (k + 1)) = M ++ [h] from by rw [HR.out, ← List.append_assoc, HMM.out]; show M ++ [hgt x y (t + k)] = M ++ [h]; rw [hgs])
                rw [hh] at hbd ⊢
                have d1 : decide (h < lo0) = false := by simp <;> omega
                have d2 : decide (hi0 < h) = false := by simp <;> omega
                clear hb5 s1 hbd hh hgs hs1 hd
                by_cases h1 : h = lo0
                · by_cases h2 : h = hi0
                  · have HC2 := Lib.hid (rc_yy (L := M) h1 h2)
                    have q1 : (h == lo0) = true := by rw [beq_iff_eq]; exact h1
                    have q2 : (h == hi0) = true := by rw [beq_iff_eq]; exact h2
                    clear h1 h2
                    go_wp2
                    exact ⟨⟨k + 1, by omega, ret_i (by have := HSS.out; omega), by rw [HNX.out, HC2.out], HB5.out⟩, by have := HSS.out; have := HL.out; simp only [intOf]; omega⟩
                  · have HC2 := Lib.hid (rc_yn (L := M) h1 h2)
                    have q1 : (h == lo0) = true := by rw [beq_iff_eq]; exact h1
                    have q2 : (h == hi0) = false := by rw [beq_eq_false_iff_ne]; exact h2
                    clear h1 h2
                    go_wp2
                    exact ⟨⟨k + 1, by omega, ret_i (by have := HSS.out; omega), by rw [HNX.out, HC2.out], HB5.out⟩, by have := HSS.out; have := HL.out; simp only [intOf]; omega⟩
                · by_cases h2 : h = hi0
                  · have HC2 := Lib.hid (rc_ny (L := M) h1 h2)
                    have q1 : (h == lo0) = false := by rw [beq_eq_false_iff_ne]; exact h1
                    have q2 : (h == hi0) = true := by rw [beq_iff_eq]; exact h2
                    clear h1 h2
                    go_wp2
                    exact ⟨⟨k + 1, by omega, ret_i (by have := HSS.out; omega), by rw [HNX.out, HC2.out], HB5.out⟩, by have := HSS.out; have := HL.out; simp only [intOf]; omega⟩
                  · have HC2 := Lib.hid (rc_nn (L := M) h1 h2)
                    have q1 : (h == lo0) = false := by rw [beq_eq_false_iff_ne]; exact h1
                    have q2 : (h == hi0) = false := by rw [beq_eq_false_iff_ne]; exact h2
                    clear h1 h2
                    go_wp2
                    exact ⟨⟨k + 1, by omega, ret_i (by have := HSS.out; omega), by rw [HNX.out, HC2.out], HB5.out⟩, by have := HSS.out; have := HL.out; simp only [intOf]; omega⟩
              · obtain rfl : k = N := by omega
                have hd : decide (s < e) = false := by have := HL.out; have := HSS.out; simp <;> omega
                go_wp2
                have HY := Lib.hid (hsC_row_yes f y x (cellsTo f y) (List.range' t k) HF.out)
                exact ⟨⟨x + 1, by omega, ret_i (by omega), by rw [HY.out, HLL2.out, HMM.out], HBK.out⟩, by simp only [intOf]; omega⟩
          · have hf : f x y = false := by simpa using hf
            have hbit := rbit_no f x y hx48 hf
            have HF := Lib.hid (hsC_row_no f y x (cellsTo f y) (List.range' t N) hf)
            generalize rowOf f y = r at hr hbit hrl
            clear hf
            go_wp2
            exact ⟨⟨x + 1, by omega, ret_i (by omega), by rw [HF.out], HBX.out⟩, by simp only [intOf]; omega⟩
        · obtain rfl : x = 48 := by omega
          go_wp2
          exact ⟨⟨y + 1, by omega, ret_i (by omega), rfl, HBX.out⟩, by simp only [intOf]; omega⟩
    · obtain rfl : y = 24 := by omega
      rw [HRE.out]
      have hUU := HU.out.next HBY.out
      have hUP := UP.out.next HBY.out
      have hUF := UF.out.next HBY.out
      have hUB := UB.out.next HBY.out
      have hUX := UX.out.next HBY.out
      replace HU := Lib.hid hUU
      replace UP := Lib.hid hUP
      replace UF := Lib.hid hUF
      replace UB := Lib.hid hUB
      replace UX := Lib.hid hUX
      clear hUU hUP hUF hUB hUX HBY HRE HLO y0 hy24 hy
      have m0 : wr.cell? ⟨P, 0, none⟩ = some (.int .i64 z0) := row_cell UP.out.now 0
      have m1 : wr.cell? ⟨P, 1, none⟩ = some (.int .i64 z1) := row_cell UP.out.now 1
      go_wp2_with fail
      clear m0 m1
      (with_reducible refine (HC.out _).mono ?_)
      rintro e v6 ⟨rfl, hb⟩
      replace HU := Lib.hid (HU.out.next hb)
      replace UP := Lib.hid (UP.out.next hb)
      replace UF := Lib.hid (UF.out.next hb)
      replace UB := Lib.hid (UB.out.next hb)
      replace UX := Lib.hid (UX.out.next hb)
      clear hb
      obtain ⟨x6, Q, ex6, eb6, hb, hk6⟩ := box1 v6 #[.int .i64 (p : Int), .int .i64 (q : Int)] 23
      replace HU := Lib.hid (HU.out.next hb)
      replace UP := Lib.hid (UP.out.next hb)
      replace UF := Lib.hid (UF.out.next hb)
      replace UB := Lib.hid (UB.out.next hb)
      replace UX := Lib.hid (UX.out.next hb)
      have UQ := Lib.hid (up_vr hk6 : Up x6 (VR Q #[.int .i64 (p : Int), .int .i64 (q : Int)] 23))
      have HEX := Lib.hid (And.intro ex6 eb6)
      clear hb hk6 ex6 eb6
      go_upto_region 28 with fail
      rw [HEX.out.1, HEX.out.2]
      clear HEX
      have hq24 := HL.out.1.2
      have hr := UF.out.now.cell hq24
      have hfz := UF.out.now.frozen q
      have hr2 := row_lt f q
      have a1 : x6.cell? ⟨B, 0, none⟩ = some (.slice (some ⟨g, 0, none⟩) 24 24) := row_cell UB.out.now 0
      have a2 : x6.cell? ⟨Q, 0, none⟩ = some (.int .i64 (p : Int)) := row_cell UQ.out.now 0
      have a3 : x6.cell? ⟨Q, 1, none⟩ = some (.int .i64 (q : Int)) := row_cell UQ.out.now 1
      have HPR := Lib.hid (put_row (f := f) (b := q) HL.out.1.1)
      have HRW := Lib.hid (show rowOf f q = rowOf f q from rfl)
      generalize rowOf f q = r at hr HPR hr2
      have HR2 := Lib.hid hr2
      have p0 : (0 : Int) ≤ p := by omega
      have p1 : (p : Int) < 48 := by have := HL.out.1.1; omega
      have q0 : (0 : Int) ≤ q := by omega
      have q1 : (q : Int) < 24 := by omega
      have HSH := Lib.hid (And.intro (shl1 p HL.out.1.1) (pow48 HL.out.1.1))
      clear hr2 hq24 HRW
      go_still_tail 15, (by kernel_rfl)
      change wpList _ _ _ _ _ x6.drew
      go_upto_region 29 with fail
      obtain ⟨Y, hY⟩ : ∃ Y, (x6.setCell ⟨g, q, none⟩ (Value.int IntKind.i64 (bits BinOp.or IntKind.i64 (r : Int) (wrap64 (2 ^ p))))).drew = Y := ⟨_, rfl⟩
      rw [hY]
      have hbit : Value.int .i64 (bits BinOp.or IntKind.i64 (r : Int) (wrap64 (2 ^ p))) = iV (r ||| 2 ^ p) := by rw [HSH.out.1, iV_or HR2.out HSH.out.2]
      rw [hbit] at hY
      replace HU := Lib.hid (show Up Y (VB w) from by rw [← hY]; exact up_vb_set HU.out.now H3.out HG.out)
      replace UF := Lib.hid (show Up Y (fun W => HasF W g 3 (putA f p q)) from by
        rw [← hY]
        have hF := HasF.set (f' := putA f p q) (k := q) (r := r ||| 2 ^ p) UF.out.now HL.out.1.2 HPR.out (fun y _ hy x _ => put_other hy x)
        exact (up_hf hF).next (Below.refl _ _).drew)
      replace UB := Lib.hid (show Up Y (VR B #[.slice (some ⟨g, 0, none⟩) 24 24] 27) from by rw [← hY]; exact up_vr_set UB.out.now (by have := HBG.out; omega))
      replace UX := Lib.hid (show Up Y (VR S #[.int .i64 (t : Int), .int .i64 (e : Int)] 29) from by rw [← hY]; exact up_vr_set UX.out.now (by have := HBG.out; have := HSV.out; omega))
      clear hbit hY hr hfz a1 a2 a3 p0 p1 q0 q1 HSH HR2 HPR UQ UP
      have HMM2 := Lib.hid (HM2.out (putA f p q) (N + l) (cells_more f p q) (by omega))
      have CR2 := Lib.hid (fun W' (hW : Below Y.heap.size Y W') => range_yes (some ⟨g, 0, none⟩) 24 24 (rz (putA f p q)) (some (putA f p q)) rfl t (N + l) k (by have := HL.out; omega) (by have := HL.out; omega) (by have := HL.out; omega) (by have := HL.out; omega) (cells_some (putA f p q) (by unfold putA; rw [HF0.out]; rfl)) W' (UF.out _ hW).sa (HU.out _ hW).2)
      rw [show of (some (putA f p q)) = putA f p q from rfl] at CR2
      generalize lo (hsT (cellsTo (putA f p q) 24) (List.range' t (N + l))) = lo1 at *
      generalize hi (hsT (cellsTo (putA f p q) 24) (List.range' t (N + l))) = hi1 at *
      have KC := Lib.hid (fun W' (hW : Below Y.heap.size Y W') => show W'.cell? ⟨B, 0, none⟩ = some (.slice (some ⟨g, 0, none⟩) 24 24) ∧ W'.cell? ⟨S, 0, none⟩ = some (.int .i64 (t : Int)) ∧ W'.cell? ⟨S, 1, none⟩ = some (.int .i64 (e : Int)) from ⟨row_cell (UB.out _ hW) 0, row_cell (UX.out _ hW) 0, row_cell (UX.out _ hW) 1⟩)
      have hB : Below Y.heap.size Y Y.drew := (Below.refl _ _).drew
      have wk : IntKind.i64.wrap ((e : Int) + (l : Int)) = (k : Int) := by have := HE.out.2; have := HL.out; rw [IntKind.wrap_i64]; omega
      go_region_held3 (fun w' => w'.cell? ⟨B, 0, none⟩ = some (.slice (some ⟨g, 0, none⟩) 24 24) ∧ w'.cell? ⟨S, 0, none⟩ = some (.int .i64 (t : Int)) ∧ w'.cell? ⟨S, 1, none⟩ = some (.int .i64 (e : Int)))
        (first
          | exact KC.out _ hB
          | go_keep)
        (first
          | (go_at_call 13; (with_reducible refine (HLL.out _).mono ?_); rintro e9 wi ⟨rfl, rfl⟩)
          | (go_at_call 28; (with_reducible refine (CR2.out _ hB).mono ?_); rintro e9 wj ⟨rfl, hb⟩; replace hB := below_tr hB hb))
      all_goals
        have HF := Lib.hid (HU.out _ hB).1
        clear wk
        have d1 : decide (lo1 ≤ lo0) = true := by have := HMM2.out; simp <;> omega
        have d2 : decide (hi0 ≤ hi1) = true := by have := HMM2.out; simp <;> omega
        go_wp2
        go_ret
        exact ⟨rfl, HF.out⟩
end Go.Proofs.YtbgdlfkeimaaiaaDoor
