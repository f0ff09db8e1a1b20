/- The path: how far up, row, column, cell. -/
import Derived.Test.YtdomgielpofbhaaVa
namespace Go.Proofs.Ytdomgielpofbhaa
open Go.RowKit Go.Shelf
set_option linter.unusedSimpArgs false
set_option linter.unusedVariables false
/-- Minutes that are asked for. -/
def okM (m : Int) : Prop := -20 ≤ m ∧ m ≤ 2000000
set_option maxRecDepth 100000 in
set_option maxHeartbeats 1000000 in
theorem climb_any (o : Orb) (m : Int) (h : okO o) (hm : okM m) (w : World) :
    Calls Try.prog 45 #[.agg #[.int .i64 o.p, .int .i64 o.f], .int .i64 m] w (OutV w (.int .i64 (vZ o m))) := by
  obtain ⟨V, B, hV, hBn, hb, hk⟩ := box1 w #[.int .i64 o.p, .int .i64 o.f] 61
  have HB := Lib.hid hb
  have c0 := (row_cell hk 0).trans (show _ = some (.int .i64 o.p) from rfl)
  have c1 := (row_cell hk 1).trans (show _ = some (.int .i64 o.f) from rfl)
  have HU := Lib.hid (u_bd h m)
  unfold okO at h
  unfold okM at hm
  obtain ⟨hp2, p0, p1, f0, f1, -⟩ := h
  obtain ⟨m0, m1⟩ := hm
  have CA := Lib.hid (fun W => aroundm_any (m + o.f) o.p (by omega) (by omega) (by omega) (by omega) W)
  have f2 : o.f ≤ 2000 := by omega
  have HE := Lib.hid (show (m + o.f) % o.p = uZ o m ∧ min (uZ o m) (o.p - uZ o m) = vZ o m from ⟨rfl, rfl⟩)
  clear hb hk hp2
  go_enter Try.func45, Try.ntmps45
  go_wp2_with fail
  (with_reducible refine (CA.out _).mono ?_)
  rintro e w1 ⟨rfl, rfl⟩
  rw [HE.out.1]
  have u0 := HU.out.1
  have u1 := HU.out.2
  generalize uZ o m = u at *
  go_wp2
  go_ret
  exact ⟨ret_int' HE.out.2, HB.out⟩
set_option maxRecDepth 100000 in
set_option maxHeartbeats 1000000 in
theorem pcol_any (o : Orb) (m : Int) (h : okO o) (hm : okM m) (w : World) :
    Calls Try.prog 35 #[PV o, .int .i64 m] w (OutV w (.int .i64 (colZ o m))) := by
  obtain ⟨V, B, hV, hBn, hb, hk⟩ := box1 w #[.int .i64 o.p, .int .i64 o.f, .int .i64 o.lo, .int .i64 (o.hi - o.lo), .int .i64 o.nd, .int .i64 o.tn] 63
  have HB := Lib.hid hb
  have c4 := (row_cell hk 4).trans (show _ = some (.int .i64 o.nd) from rfl)
  have c5 := (row_cell hk 5).trans (show _ = some (.int .i64 o.tn) from rfl)
  unfold okO at h
  unfold okM at hm
  have hq : -4000000000 ≤ o.tn * m ∧ o.tn * m ≤ 4000000000 := by
    have h1 : -2000 ≤ o.tn := by omega
    have h2 : o.tn ≤ 2000 := by omega
    by_cases hs : 0 ≤ m
    · have a := Int.mul_le_mul_of_nonneg_right h1 hs
      have b := Int.mul_le_mul_of_nonneg_right h2 hs
      omega
    · have a := Int.mul_le_mul_of_nonpos_right h1 (show m ≤ 0 by omega)
      have b := Int.mul_le_mul_of_nonpos_right h2 (show m ≤ 0 by omega)
      omega
  obtain ⟨q, hq'⟩ : ∃ q, o.tn * m = q := ⟨_, rfl⟩
  rw [hq'] at hq
  obtain ⟨q0, q1⟩ := hq
  have n0 : 0 ≤ o.nd := by omega
  have n1 : o.nd < 48000 := by omega
  have CA := Lib.hid (fun W => around_any (o.nd + q) 48000 (by omega) (by omega) (by omega) (by omega) W)
  have HE := Lib.hid (show (o.nd + q) % 48000 = colZ o m from by unfold colZ; rw [hq'])
  clear hb hk h hm
  go_enter Try.func35, Try.ntmps35
  go_wp2_with fail
  (with_reducible refine (CA.out _).mono ?_)
  rintro e w1 ⟨rfl, rfl⟩
  clear hq'
  go_wp2
  go_ret
  exact ⟨ret_int' HE.out, HB.out⟩
theorem wrap_in {z : Int} (h0 : -9223372036854775808 ≤ z) (h1 : z ≤ 9223372036854775807) : IntKind.i64.wrap z = z := by
  rw [IntKind.wrap_i64]; omega
theorem row_val {D v p Q lo : Int} (d0 : 0 ≤ D) (d1 : D < 24000) (s0 : 0 ≤ D * 2 * v) (s1 : D * 2 * v ≤ 48000000) (hQ : D * 2 * v / p = Q) (q0 : 0 ≤ Q) (q1 : Q ≤ D) (l0 : 0 ≤ lo) (l1 : lo < 24000) :
    IntKind.i64.wrap (lo + IntKind.i64.wrap ((IntKind.i64.wrap (IntKind.i64.wrap (D * 2) * v)).tdiv p)) = lo + Q := by
  rw [wrap_in (z := D * 2) (by omega) (by omega), wrap_in (z := D * 2 * v) (by omega) (by omega), Int.tdiv_eq_ediv_of_nonneg s0, hQ, wrap_in (z := Q) (by omega) (by omega), wrap_in (by omega) (by omega)]
set_option maxRecDepth 100000 in
set_option maxHeartbeats 1000000 in
theorem prow_any (o : Orb) (m : Int) (h : okO o) (hm : okM m) (w : World) :
    Calls Try.prog 32 #[PV o, .int .i64 m] w (OutV w (.int .i64 (rowZ o m))) := by
  obtain ⟨V, B, hV, hBn, hb, hk⟩ := box1 w #[.int .i64 o.p, .int .i64 o.f, .int .i64 o.lo, .int .i64 (o.hi - o.lo), .int .i64 o.nd, .int .i64 o.tn] 63
  have HB := Lib.hid hb
  have HK := Lib.hid hk
  have CC := Lib.hid (fun W => climb_any o m h hm W)
  have HV := Lib.hid (v_bd h m)
  have HU := Lib.hid (up_bd h m)
  have HR := Lib.hid (show o.lo + (o.hi - o.lo) * 2 * vZ o m / o.p = rowZ o m from rfl)
  unfold okO at h
  have p0 : 20 ≤ o.p := by omega
  have p1 : o.p ≤ 2000 := by omega
  have l0 : 0 ≤ o.lo := by omega
  have l1 : o.lo < 24000 := by omega
  obtain ⟨D, hD⟩ : ∃ D, o.hi - o.lo = D := ⟨_, rfl⟩
  have d0 : 0 ≤ D := by omega
  have d1 : D < 24000 := by omega
  show Calls Try.prog 32 #[.agg #[.int .i64 o.p, .int .i64 o.f, .int .i64 o.lo, .int .i64 (o.hi - o.lo), .int .i64 o.nd, .int .i64 o.tn], .int .i64 m] w _
  rw [hD] at HU HR HK hV ⊢
  generalize vZ o m = v at *
  obtain ⟨S, hS⟩ : ∃ S, D * 2 * v = S := ⟨_, rfl⟩
  rw [hS] at HU HR
  have c0 := (row_cell HK.out 0).trans (show _ = some (.int .i64 o.p) from rfl)
  have c1 := (row_cell HK.out 1).trans (show _ = some (.int .i64 o.f) from rfl)
  have c2 := (row_cell HK.out 2).trans (show _ = some (.int .i64 o.lo) from rfl)
  have c3 := (row_cell HK.out 3).trans (show _ = some (.int .i64 D) from rfl)
  have hBV : B < V.heap.size := (Array.getElem?_eq_some_iff.1 HK.out).1
  clear hb hk h hD
  go_enter Try.func32, Try.ntmps32
  go_wp2_with fail
  have hB : Below V.heap.size V V.drew := (Below.refl _ _).drew
  have K := Lib.hid (fun w' (h : Below V.heap.size V w') => show w'.cell? ⟨B, 0, none⟩ = some (.int .i64 o.p) ∧ w'.cell? ⟨B, 1, none⟩ = some (.int .i64 o.f) ∧ w'.cell? ⟨B, 2, none⟩ = some (.int .i64 o.lo) ∧ w'.cell? ⟨B, 3, none⟩ = some (.int .i64 D) from
    ⟨(h.cell (p := ⟨B, 0, none⟩) hBV).trans c0, (h.cell (p := ⟨B, 1, none⟩) hBV).trans c1, (h.cell (p := ⟨B, 2, none⟩) hBV).trans c2, (h.cell (p := ⟨B, 3, none⟩) hBV).trans c3⟩)
  have s0 := HU.out.1
  have s1 := HU.out.2.1
  have q0 := HU.out.2.2.1
  have q1 := HU.out.2.2.2
  obtain ⟨Q, hQ⟩ : ∃ Q, S / o.p = Q := ⟨_, rfl⟩
  rw [hQ] at q0 q1 HR
  have hpz : (o.p == 0) = false := by simp; omega
  have hpn : ¬ o.p = 0 := by omega
  go_region_held3 (fun w' => w'.cell? ⟨B, 0, none⟩ = some (.int .i64 o.p) ∧ w'.cell? ⟨B, 1, none⟩ = some (.int .i64 o.f) ∧ w'.cell? ⟨B, 2, none⟩ = some (.int .i64 o.lo) ∧ w'.cell? ⟨B, 3, none⟩ = some (.int .i64 D))
    (first
      | exact K.out _ hB
      | go_keep)
    ((go_at_call 45; (with_reducible refine (CC.out _).mono ?_); rintro e wi ⟨rfl, hb⟩; replace hB := hB.trans (hb.mono hB.size)))
  all_goals
    go_wp2
    go_ret
    exact ⟨ret_int' (by
      rw [← HR.out]
      first
        | (subst hS; exact row_val d0 d1 s0 s1 hQ q0 q1 l0 l1)
        | (rw [IntKind.wrap_i64]; omega)), HB.out.trans (hB.mono HB.out.size)⟩
set_option maxRecDepth 100000 in
set_option maxHeartbeats 1000000 in
theorem pcell_any (o : Orb) (m : Int) (h : okO o) (hm : okM m) (w : World) :
    Calls Try.prog 37 #[PV o, .int .i64 m] w (OutV w (KV (celO o m))) := by
  obtain ⟨V, B, hV, hBn, hb, hk⟩ := box1 w #[.int .i64 o.p, .int .i64 o.f, .int .i64 o.lo, .int .i64 (o.hi - o.lo), .int .i64 o.nd, .int .i64 o.tn] 63
  obtain ⟨X, C, hX, hCn, hb2, hk2⟩ := box1 V #[.int .i64 0, .int .i64 0] 38
  have HB := Lib.hid (below_tr hb hb2)
  have HC := Lib.hid (show BX X C #[.int .i64 0, .int .i64 0] 38 from hk2)
  have HP := Lib.hid (show BX X B #[.int .i64 o.p, .int .i64 o.f, .int .i64 o.lo, .int .i64 (o.hi - o.lo), .int .i64 o.nd, .int .i64 o.tn] 63 from BX.next hk hb2)
  have CC := Lib.hid (fun W => pcol_any o m h hm W)
  have CR := Lib.hid (fun W => prow_any o m h hm W)
  have HX := Lib.hid (cel_x o m)
  have HY := Lib.hid (cel_y h m)
  have c0 := col_bd o m
  have r0 := row_24 h m
  obtain ⟨ca, cb⟩ := c0
  obtain ⟨ra, rb⟩ := r0
  generalize colZ o m = cz at *
  generalize rowZ o m = rz at *
  have HN := Lib.hid (show B ≠ C ∧ w.heap.size ≤ C from by have := (Array.getElem?_eq_some_iff.1 hk).1; constructor <;> omega)
  clear hb hk hb2 hk2
  go_enter Try.func37, Try.ntmps37
  go_wp2_with fail
  have hB : Below X.heap.size X X.drew := (Below.refl _ _).drew
  have KP := Lib.hid (fun w' (h : BX w' B #[.int .i64 o.p, .int .i64 o.f, .int .i64 o.lo, .int .i64 (o.hi - o.lo), .int .i64 o.nd, .int .i64 o.tn] 63) => show w'.cell? ⟨B, 0, none⟩ = some (.int .i64 o.p) ∧ w'.cell? ⟨B, 1, none⟩ = some (.int .i64 o.f) ∧ w'.cell? ⟨B, 2, none⟩ = some (.int .i64 o.lo) ∧ w'.cell? ⟨B, 3, none⟩ = some (.int .i64 (o.hi - o.lo)) ∧ w'.cell? ⟨B, 4, none⟩ = some (.int .i64 o.nd) ∧ w'.cell? ⟨B, 5, none⟩ = some (.int .i64 o.tn) from
    ⟨h.cell 0, h.cell 1, h.cell 2, h.cell 3, h.cell 4, h.cell 5⟩)
  have K := Lib.hid (fun w' (h : Below X.heap.size X w') => KP.out w' (BX.next HP.out h))
  have KS := Lib.hid (fun w' (h : Below X.heap.size X w') (a b : Value) => KP.out ((w'.setCell ⟨C, 0, none⟩ a).setCell ⟨C, 1, none⟩ b) (BX.far (BX.far (BX.next HP.out h) HN.out.1 a) HN.out.1 b))
  have KC := Lib.hid (fun w' (h : Below X.heap.size X w') => BX.next HC.out h)
  clear hV hX hBn hCn
  go_region_held3 (fun w' => w'.cell? ⟨B, 0, none⟩ = some (.int .i64 o.p) ∧ w'.cell? ⟨B, 1, none⟩ = some (.int .i64 o.f) ∧ w'.cell? ⟨B, 2, none⟩ = some (.int .i64 o.lo) ∧ w'.cell? ⟨B, 3, none⟩ = some (.int .i64 (o.hi - o.lo)) ∧ w'.cell? ⟨B, 4, none⟩ = some (.int .i64 o.nd) ∧ w'.cell? ⟨B, 5, none⟩ = some (.int .i64 o.tn))
    (first
      | exact K.out _ hB
      | exact KS.out _ hB _ _
      | go_keep)
    (first
      | (go_at_call 35; (with_reducible refine (CC.out _).mono ?_); rintro e wi ⟨rfl, hb⟩; replace hB := hB.trans (hb.mono hB.size))
      | (go_at_call 32; (with_reducible refine (CR.out _).mono ?_); rintro e wi ⟨rfl, hb⟩; replace hB := hB.trans (hb.mono hB.size); have k0 := BX.cell (KC.out _ hB) 0; have k1 := BX.cell (KC.out _ hB) 1; have k2 := BX.frozen (KC.out _ hB) 0; have k3 := BX.frozen (KC.out _ hB) 1))
  all_goals
    rw [show IntKind.i64.wrap (cz.tdiv 1000) = ((celO o m).1.1 : Int) from by rw [HX.out, Int.tdiv_eq_ediv_of_nonneg ca]; exact wrap_in (by omega) (by omega),
      show IntKind.i64.wrap (rz.tdiv 1000) = ((celO o m).1.2 : Int) from by rw [HY.out, Int.tdiv_eq_ediv_of_nonneg ra]; exact wrap_in (by omega) (by omega)]
    obtain ⟨Z, hZ⟩ : ∃ Z, (wi.setCell ⟨C, 0, none⟩ (iV (celO o m).1.1)).setCell ⟨C, 1, none⟩ (iV (celO o m).1.2) = Z := ⟨_, rfl⟩
    have hz1 : BX Z C #[iV (celO o m).1.1, iV (celO o m).1.2] 38 := by rw [← hZ]; exact BX.put (BX.put (KC.out _ hB) _) _
    have hz2 : Below w.heap.size w Z := by rw [← hZ]; exact ((HB.out.trans (hB.mono HB.out.size)).setCell (p := ⟨C, 0, none⟩) HN.out.2 _).setCell (p := ⟨C, 1, none⟩) HN.out.2 _
    rw [hZ]
    clear hZ k0 k1 k2 k3
    go_wp2
    exact bodyPost_ret (results_cell_row rfl _ _ C 38 _ (0, 0) _ rfl hz1 Try.underlying38 rfl sizeCell) rfl ⟨rfl, hz2⟩
end Go.Proofs.Ytdomgielpofbhaa
