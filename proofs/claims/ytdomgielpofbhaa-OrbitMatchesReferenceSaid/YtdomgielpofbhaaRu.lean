/- The reference's Must, out of what its Could hands back. -/
import Derived.Test.YtdomgielpofbhaaCo
namespace Go.Proofs.Ytdomgielpofbhaa
open Go.RowKit Go.Shelf Go.Maps
set_option linter.unusedSimpArgs false
set_option linter.unusedVariables false
set_option maxRecDepth 100000 in
set_option maxHeartbeats 2000000 in
theorem rmust_no_of (o : Orb) (t : Int) (CA0 : ∀ W, Calls Try.prog 22 #[OV o, .int .i64 t] W (OutL W [] 70)) (w : World) :
    Calls Try.prog 24 #[OV o, .int .i64 t] w (OutV w (.tuple #[CV 0 0, .bool false])) := by
  have CA := Lib.hid CA0
  obtain ⟨V, B, hV, hBn, hb, hk⟩ := box1 w (OC o) 24
  obtain ⟨X, C, hX, hCn, hb2, hk2⟩ := box1 V #[.int .i64 0, .int .i64 0] 38
  have HN := Lib.hid (show w.heap.size ≤ C from by have := hb.size; omega)
  have HP := Lib.hid (show BX X B (OC o) 24 from BX.next hk hb2)
  have HC := Lib.hid (show BX X C #[.int .i64 0, .int .i64 0] 38 from hk2)
  have HB := Lib.hid (below_tr hb hb2)
  have c0 := BX.cell HP.out 0; have c1 := BX.cell HP.out 1; have c2 := BX.cell HP.out 2; have c3 := BX.cell HP.out 3; have c4 := BX.cell HP.out 4; have c5 := BX.cell HP.out 5; have c6 := BX.cell HP.out 6
  clear hb hk hb2 hk2
  clear CA0
  go_enter Try.func24, Try.ntmps24
  go_wp2_with fail
  (with_reducible refine (CA.out _).mono ?_)
  rintro e w1 ⟨al, c, rfl, hcs, hb⟩
  replace HB := Lib.hid (below_tr HB.out hb)
  replace HC := Lib.hid (BX.next HC.out hb)
  have k0 := BX.cell HC.out 0; have k1 := BX.cell HC.out 1; have k2 := BX.frozen HC.out 0; have k3 := BX.frozen HC.out 1
  clear hb c0 c1 c2 c3 c4 c5 c6 hcs
  go_wp2
  obtain ⟨Z, hZ⟩ : ∃ Z, (w1.setCell ⟨C, 0, none⟩ (iZ 0)).setCell ⟨C, 1, none⟩ (iZ 0) = Z := ⟨_, rfl⟩
  have hz1 : BX Z C #[(iZ 0), (iZ 0)] 38 := by rw [← hZ]; exact BX.put (BX.put HC.out _) _
  have hz2 : Below w.heap.size w Z := by rw [← hZ]; exact (HB.out.setCell (p := ⟨C, 0, none⟩) HN.out _).setCell (p := ⟨C, 1, none⟩) HN.out _
  rw [hZ]
  exact bodyPost_ret (results_row_tmp rfl _ _ C 38 _ (0, 0) _ rfl hz1 Try.underlying38 rfl sizeCell _ rfl) rfl ⟨rfl, hz2⟩
set_option maxRecDepth 100000 in
set_option maxHeartbeats 2000000 in
theorem rmust_yes_of (o : Orb) (t : Int) (CA0 : ∀ W, Calls Try.prog 22 #[OV o, .int .i64 t] W fun e w' => ∃ l, Could o t l ∧ OutL W l 0 e w') (w : World) :
    Calls Try.prog 24 #[OV o, .int .i64 t] w fun e w' => ∃ l, Could o t l ∧ OutV w (mustV l) e w' := by
  have CA := Lib.hid CA0
  obtain ⟨V, B, hV, hBn, hb, hk⟩ := box1 w (OC o) 24
  obtain ⟨X, C, hX, hCn, hb2, hk2⟩ := box1 V #[.int .i64 0, .int .i64 0] 38
  have HN := Lib.hid (show w.heap.size ≤ C from by have := hb.size; omega)
  have HP := Lib.hid (show BX X B (OC o) 24 from BX.next hk hb2)
  have HC := Lib.hid (show BX X C #[.int .i64 0, .int .i64 0] 38 from hk2)
  have HB := Lib.hid (below_tr hb hb2)
  have c0 := BX.cell HP.out 0; have c1 := BX.cell HP.out 1; have c2 := BX.cell HP.out 2; have c3 := BX.cell HP.out 3; have c4 := BX.cell HP.out 4; have c5 := BX.cell HP.out 5; have c6 := BX.cell HP.out 6
  clear hb hk hb2 hk2
  clear CA0
  go_enter Try.func24, Try.ntmps24
  go_wp2_with fail
  (with_reducible refine (CA.out _).mono ?_)
  rintro e w1 ⟨l, hl, al, c, rfl, hcs, hb⟩
  replace HB := Lib.hid (below_tr HB.out hb)
  replace HC := Lib.hid (BX.next HC.out hb)
  have k0 := BX.cell HC.out 0; have k1 := BX.cell HC.out 1; have k2 := BX.frozen HC.out 0; have k3 := BX.frozen HC.out 1
  have HL := Lib.hid hl
  have HS := Lib.hid hcs
  clear hb c0 c1 c2 c3 c4 c5 c6 hcs
  by_cases h1 : l.length = 1
  · obtain ⟨x, rfl⟩ := List.length_eq_one_iff.1 h1
    obtain ⟨b, rfl, hb, hc⟩ := HS.out.pos (by simp)
    have q := hc 0 x rfl
    have q0 := q.1
    have q1 := q.2
    clear q hc hb h1 hl
    go_wp2
    obtain ⟨Z, hZ⟩ : ∃ Z, (w1.setCell ⟨C, 0, none⟩ (iV x.1.1)).setCell ⟨C, 1, none⟩ (iV x.1.2) = Z := ⟨_, rfl⟩
    have hz1 : BX Z C #[(iV x.1.1), (iV x.1.2)] 38 := by rw [← hZ]; exact BX.put (BX.put HC.out _) _
    have hz2 : Below w.heap.size w Z := by rw [← hZ]; exact (HB.out.setCell (p := ⟨C, 0, none⟩) HN.out _).setCell (p := ⟨C, 1, none⟩) HN.out _
    rw [hZ]
    exact bodyPost_ret (results_row_tmp rfl _ _ C 38 _ (0, 0) _ rfl hz1 Try.underlying38 rfl sizeCell _ rfl) rfl ⟨[x], HL.out, rfl, hz2⟩
  · have hne : ((l.length : Int) == 1) = false := by simp; omega
    have HM := Lib.hid (show mustV l = .tuple #[CV 0 0, .bool false] from by
      rcases l with _ | ⟨x, _ | ⟨y, r⟩⟩
      · rfl
      · exact absurd rfl h1
      · rfl)
    clear h1 hl
    go_wp2
    obtain ⟨Z, hZ⟩ : ∃ Z, (w1.setCell ⟨C, 0, none⟩ (iZ 0)).setCell ⟨C, 1, none⟩ (iZ 0) = Z := ⟨_, rfl⟩
    have hz1 : BX Z C #[(iZ 0), (iZ 0)] 38 := by rw [← hZ]; exact BX.put (BX.put HC.out _) _
    have hz2 : Below w.heap.size w Z := by rw [← hZ]; exact (HB.out.setCell (p := ⟨C, 0, none⟩) HN.out _).setCell (p := ⟨C, 1, none⟩) HN.out _
    rw [hZ]
    exact bodyPost_ret (results_row_tmp rfl _ _ C 38 _ (0, 0) _ rfl hz1 Try.underlying38 rfl sizeCell _ rfl) rfl ⟨l, HL.out, by rw [HM.out]; rfl, hz2⟩
end Go.Proofs.Ytdomgielpofbhaa
