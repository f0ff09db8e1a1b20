/- ArW: walked. -/
import Derived.Test.YtipfafglbkbafaaDoorSa
namespace Go.Proofs.YtipfafglbkbafaaDoor
open Go.RowKit Go.Shelf
set_option linter.unusedVariables false
set_option linter.unusedSimpArgs false
theorem vr_c0 {B : Nat} {a b : Value} {t : TypeId} {W : World} (h : VR B #[a, b] t W) : W.cell? ⟨B, 0, none⟩ = some a := (row_cell h 0).trans rfl
theorem vr_c1 {B : Nat} {a b : Value} {t : TypeId} {W : World} (h : VR B #[a, b] t W) : W.cell? ⟨B, 1, none⟩ = some b := (row_cell h 1).trans rfl
theorem ar_shift {w : World} {b o c : Nat} {f : Ar} (z : Int) (k : Nat) (e : k48 z = k) (h : SA w (some ⟨b, o, none⟩) 24 f) : Calls Tryd.prog 33 #[.agg #[.slice (some ⟨b, o, none⟩) 24 c], .int .i64 z] w (OutF w (turn f k)) := by
  rw [← e]; exact shiftedV z h
theorem ar_ct {f : Ar} {n : Nat} (k : Nat) (h : count f = n) : count (turn f k) = n := (count_turn f).trans h
theorem ar_and (f g : Ar) (k : Nat) : Eqv (andA (turn f k) (turn g k)) (turn (andA f g) k) := fun x y _ _ => rfl
theorem ar_pick (z : Int) (n : Nat) (h0 : -9223372036854775808 ≤ z) (h1 : z ≤ 9223372036854775807) (e : pickZ z 48 = n) {w : World} : Calls Tryd.prog 12 #[.int .i64 z, .int .i64 48] w (OutV w (.int .i64 (n : Nat))) := by
  obtain ⟨i, _, ei, h⟩ := pickV z h0 h1 48 (by decide) (by decide) 48 rfl
  rw [← e, ← ei]; exact h w
theorem ar_has (f : Ar) (k : Nat) {x xn y : Nat} {r : Bool} (e : (xn + (48 - k)) % 48 = x) (h : f x y = r) : turn f k xn y = r := by
  show f ((xn + (48 - k)) % 48) y = r
  rw [e]; exact h
theorem ar_ints (p q : Nat) (hp : p < 200) (hq : q < 200) : ∃ (i k s z : Int) (ki kk : Nat), ki < 48 ∧ kk < 48 ∧ IntKind.i64.wrap ((p : Int) - 100) = i ∧ IntKind.i64.wrap ((q : Int) - 100) = k ∧ IntKind.i64.wrap (i + k) = s ∧ IntKind.i64.wrap (s + 48) = z ∧ k48 i = ki ∧ k48 k = kk ∧ k48 z = (ki + kk) % 48 ∧
    ∀ x : Nat, x < 48 → ∃ (x1 x2 : Int) (xn : Nat), IntKind.i64.wrap ((x : Int) + i) = x1 ∧ IntKind.i64.wrap (x1 + 960) = x2 ∧ -9223372036854775808 ≤ x2 ∧ x2 ≤ 9223372036854775807 ∧ pickZ x2 48 = xn ∧ xn < 48 ∧ (xn + (48 - ki)) % 48 = x := by
  refine ⟨(p : Int) - 100, (q : Int) - 100, (p : Int) - 100 + ((q : Int) - 100), (p : Int) - 100 + ((q : Int) - 100) + 48, _, _, k48_lt ((p : Int) - 100), k48_lt ((q : Int) - 100), ?_, ?_, ?_, ?_, rfl, rfl, ?_, fun x hx => ⟨(x : Int) + ((p : Int) - 100), (x : Int) + ((p : Int) - 100) + 960, ((x : Int) + ((p : Int) - 100) + 960).toNat % 48, ?_, ?_, ?_, ?_, ?_, ?_, ?_⟩⟩
  · rw [IntKind.wrap_i64]; omega
  · rw [IntKind.wrap_i64]; omega
  · rw [IntKind.wrap_i64]; omega
  · rw [IntKind.wrap_i64]; omega
  · unfold k48; omega
  · rw [IntKind.wrap_i64]; omega
  · rw [IntKind.wrap_i64]; omega
  · omega
  · omega
  · unfold pickZ; rw [if_neg (by omega)]; omega
  · omega
  · unfold k48; omega
set_option maxRecDepth 100000 in
set_option maxHeartbeats 8000000 in
theorem around_any (al : Option Addr) (n c : Nat) (bl : Option Addr) (m d : Nat) (one two dd : Int) (z0 z1 : Int) (one0 : -9223372036854775808 ≤ one) (one1 : one ≤ 9223372036854775807) (two0 : -9223372036854775808 ≤ two) (two1 : two ≤ 9223372036854775807) (dd0 : -9223372036854775808 ≤ dd) (dd1 : dd ≤ 9223372036854775807) (k00 : -9223372036854775808 ≤ z0) (k01 : z0 ≤ 9223372036854775807) (k10 : -9223372036854775808 ≤ z1) (k11 : z1 ≤ 9223372036854775807) (w : World) (hT : Tab w) (hx : S4 w al n) (hy : S4 w bl m) :
    Calls Tryd.prog 5 #[.slice al n c, .slice bl m d, .int .i64 one, .int .i64 two, .int .i64 dd, .agg #[.int .i64 z0, .int .i64 z1]] w (OutV w (.bool true)) := by
  obtain ⟨w0, P, eA, eB, hbP, hkP⟩ := box1 w #[.int .i64 z0, .int .i64 z1] 35
  have UC := Lib.hid (up_vr hkP : Up w0 (VR P #[.int .i64 z0, .int .i64 z1] 35))
  have HU := Lib.hid ((up_vb (Below.refl w.heap.size w) hT : Up w (VB w)).next hbP)
  have UX := Lib.hid ((up_s4 hx).next hbP)
  have UY := Lib.hid ((up_s4 hy).next hbP)
  obtain ⟨x, y, hx48, hy24, PC⟩ := cellV z0 z1 k00 k01 k10 k11
  have hxy := Lib.hid (show x < 48 ∧ y < 24 from ⟨hx48, hy24⟩)
  replace PC := Lib.hid PC
  obtain ⟨pi, hpi, ep, PI⟩ := pickV one one0 one1 200 (by decide) (by decide) 200 rfl
  obtain ⟨pk, hpk, eq, PK⟩ := pickV two two0 two1 200 (by decide) (by decide) 200 rfl
  obtain ⟨d', hd', ed, PD⟩ := pickV dd dd0 dd1 6 (by decide) (by decide) 6 rfl
  obtain ⟨i, k, s, z, ki, kk, hki, hkk, HI⟩ := ar_ints pi pk hpi hpk
  have HK := Lib.hid (show ki < 48 ∧ kk < 48 ∧ d' ≤ 24 from ⟨hki, hkk, by omega⟩)
  replace HI := Lib.hid HI
  replace PI := Lib.hid PI
  replace PK := Lib.hid PK
  replace PD := Lib.hid PD
  clear ep eq ed hpi hpk hd' hki hkk one0 one1 two0 two1 dd0 dd1
  clear hT hx hy hx48 hy24 k00 k01 k10 k11 hbP hkP
  go_enter Tryd.func5, Tryd.ntmps5
  go_wp2_with fail
  clear eA eB
  (with_reducible refine (sane_any _ HU.out.now.2).mono ?_)
  rintro e w1 ⟨rfl, hb⟩
  replace HU := Lib.hid (HU.out.next hb)
  replace UX := Lib.hid (UX.out.next hb)
  replace UY := Lib.hid (UY.out.next hb)
  replace UC := Lib.hid (UC.out.next hb)
  clear hb
  go_wp2_with fail
  (with_reducible refine (madeV UX.out.now).mono ?_)
  rintro e w2 ⟨a, b2, o2, c2, rfl, hs, hb⟩
  replace HU := Lib.hid (HU.out.next hb)
  replace UX := Lib.hid (UX.out.next hb)
  replace UY := Lib.hid (UY.out.next hb)
  replace UC := Lib.hid (UC.out.next hb)
  obtain ⟨x2, B2, e1, e2, hb2, hk⟩ := box1 w2 #[.slice (some ⟨b2, o2, none⟩) 24 c2] 25
  have U2 := Lib.hid (up_va (Sl.below hs (Nat.le_refl _) hb2) hk : Up x2 (VA B2 b2 o2 c2 (a)))
  replace HU := Lib.hid (HU.out.next hb2)
  replace UX := Lib.hid (UX.out.next hb2)
  replace UY := Lib.hid (UY.out.next hb2)
  replace UC := Lib.hid (UC.out.next hb2)
  clear hs hb hb2 hk
  go_wp2_with fail
  clear e1 e2
  (with_reducible refine (madeV UY.out.now).mono ?_)
  rintro e w3 ⟨b, b3, o3, c3, rfl, hs, hb⟩
  replace HU := Lib.hid (HU.out.next hb)
  replace UX := Lib.hid (UX.out.next hb)
  replace UY := Lib.hid (UY.out.next hb)
  replace UC := Lib.hid (UC.out.next hb)
  replace U2 := Lib.hid (U2.out.next hb)
  obtain ⟨x3, B3, e1, e2, hb2, hk⟩ := box1 w3 #[.slice (some ⟨b3, o3, none⟩) 24 c3] 25
  have U3 := Lib.hid (up_va (Sl.below hs (Nat.le_refl _) hb2) hk : Up x3 (VA B3 b3 o3 c3 (b)))
  replace HU := Lib.hid (HU.out.next hb2)
  replace UX := Lib.hid (UX.out.next hb2)
  replace UY := Lib.hid (UY.out.next hb2)
  replace UC := Lib.hid (UC.out.next hb2)
  replace U2 := Lib.hid (U2.out.next hb2)
  clear hs hb hb2 hk
  go_wp2_with fail
  clear e1 e2
  (with_reducible refine (PI.out _).mono ?_)
  rintro e w4 ⟨rfl, hb⟩
  replace HU := Lib.hid (HU.out.next hb)
  replace UX := Lib.hid (UX.out.next hb)
  replace UY := Lib.hid (UY.out.next hb)
  replace UC := Lib.hid (UC.out.next hb)
  replace U2 := Lib.hid (U2.out.next hb)
  replace U3 := Lib.hid (U3.out.next hb)
  clear hb
  have hl := HI.out.1
  go_wp2_with fail
  clear hl
  (with_reducible refine (PK.out _).mono ?_)
  rintro e w5 ⟨rfl, hb⟩
  replace HU := Lib.hid (HU.out.next hb)
  replace UX := Lib.hid (UX.out.next hb)
  replace UY := Lib.hid (UY.out.next hb)
  replace UC := Lib.hid (UC.out.next hb)
  replace U2 := Lib.hid (U2.out.next hb)
  replace U3 := Lib.hid (U3.out.next hb)
  clear hb
  have hl := HI.out.2.1
  go_wp2_with fail
  clear hl
  (with_reducible refine (PD.out _).mono ?_)
  rintro e w6 ⟨rfl, hb⟩
  replace HU := Lib.hid (HU.out.next hb)
  replace UX := Lib.hid (UX.out.next hb)
  replace UY := Lib.hid (UY.out.next hb)
  replace UC := Lib.hid (UC.out.next hb)
  replace U2 := Lib.hid (U2.out.next hb)
  replace U3 := Lib.hid (U3.out.next hb)
  clear hb
  have hl0 := U2.out.now.cell
  go_wp2_with fail
  clear hl0
  (with_reducible refine (ar_shift i ki HI.out.2.2.2.2.1 U2.out.now.1).mono ?_)
  rintro e w7 ⟨b7, o7, c7, rfl, hs, hb⟩
  replace HU := Lib.hid (HU.out.next hb)
  replace UX := Lib.hid (UX.out.next hb)
  replace UY := Lib.hid (UY.out.next hb)
  replace UC := Lib.hid (UC.out.next hb)
  replace U2 := Lib.hid (U2.out.next hb)
  replace U3 := Lib.hid (U3.out.next hb)
  obtain ⟨x7, B7, e1, e2, hb2, hk⟩ := box1 w7 #[.slice (some ⟨b7, o7, none⟩) 24 c7] 25
  have U7 := Lib.hid (up_va (Sl.below hs (Nat.le_refl _) hb2) hk : Up x7 (VA B7 b7 o7 c7 (turn a ki)))
  replace HU := Lib.hid (HU.out.next hb2)
  replace UX := Lib.hid (UX.out.next hb2)
  replace UY := Lib.hid (UY.out.next hb2)
  replace UC := Lib.hid (UC.out.next hb2)
  replace U2 := Lib.hid (U2.out.next hb2)
  replace U3 := Lib.hid (U3.out.next hb2)
  clear hs hb hb2 hk
  have hl0 := U7.out.now.cell
  go_wp2_with fail
  clear e1 e2
  clear hl0
  (with_reducible refine (ar_shift k kk HI.out.2.2.2.2.2.1 U7.out.now.1).mono ?_)
  rintro e w8 ⟨b8, o8, c8, rfl, hs, hb⟩
  replace HU := Lib.hid (HU.out.next hb)
  replace UX := Lib.hid (UX.out.next hb)
  replace UY := Lib.hid (UY.out.next hb)
  replace UC := Lib.hid (UC.out.next hb)
  replace U2 := Lib.hid (U2.out.next hb)
  replace U3 := Lib.hid (U3.out.next hb)
  replace U7 := Lib.hid (U7.out.next hb)
  obtain ⟨x8, B8, e1, e2, hb2, hk⟩ := box1 w8 #[.slice (some ⟨b8, o8, none⟩) 24 c8] 25
  have U8 := Lib.hid (up_va (Sl.below hs (Nat.le_refl _) hb2) hk : Up x8 (VA B8 b8 o8 c8 (turn (turn a ki) kk)))
  replace HU := Lib.hid (HU.out.next hb2)
  replace UX := Lib.hid (UX.out.next hb2)
  replace UY := Lib.hid (UY.out.next hb2)
  replace UC := Lib.hid (UC.out.next hb2)
  replace U2 := Lib.hid (U2.out.next hb2)
  replace U3 := Lib.hid (U3.out.next hb2)
  replace U7 := Lib.hid (U7.out.next hb2)
  clear hs hb hb2 hk
  have hm1 := HI.out.2.2.1
  have hm2 := HI.out.2.2.2.1
  have hl0 := U2.out.now.cell
  go_wp2_with fail
  clear e1 e2
  clear hl0
  clear hm1 hm2
  (with_reducible refine (ar_shift z ((ki + kk) % 48) HI.out.2.2.2.2.2.2.1 U2.out.now.1).mono ?_)
  rintro e w9 ⟨b9, o9, c9, rfl, hs, hb⟩
  replace HU := Lib.hid (HU.out.next hb)
  replace UX := Lib.hid (UX.out.next hb)
  replace UY := Lib.hid (UY.out.next hb)
  replace UC := Lib.hid (UC.out.next hb)
  replace U2 := Lib.hid (U2.out.next hb)
  replace U3 := Lib.hid (U3.out.next hb)
  replace U7 := Lib.hid (U7.out.next hb)
  replace U8 := Lib.hid (U8.out.next hb)
  obtain ⟨x9, B9, e1, e2, hb2, hk⟩ := box1 w9 #[.slice (some ⟨b9, o9, none⟩) 24 c9] 25
  have U9 := Lib.hid (up_va (Sl.below hs (Nat.le_refl _) hb2) hk : Up x9 (VA B9 b9 o9 c9 (turn a ((ki + kk) % 48))))
  replace HU := Lib.hid (HU.out.next hb2)
  replace UX := Lib.hid (UX.out.next hb2)
  replace UY := Lib.hid (UY.out.next hb2)
  replace UC := Lib.hid (UC.out.next hb2)
  replace U2 := Lib.hid (U2.out.next hb2)
  replace U3 := Lib.hid (U3.out.next hb2)
  replace U7 := Lib.hid (U7.out.next hb2)
  replace U8 := Lib.hid (U8.out.next hb2)
  clear hs hb hb2 hk
  have hl0 := U3.out.now.cell
  go_wp2_with fail
  clear e1 e2
  clear hl0
  (with_reducible refine (ar_shift i ki HI.out.2.2.2.2.1 U3.out.now.1).mono ?_)
  rintro e w10 ⟨b10, o10, c10, rfl, hs, hb⟩
  replace HU := Lib.hid (HU.out.next hb)
  replace UX := Lib.hid (UX.out.next hb)
  replace UY := Lib.hid (UY.out.next hb)
  replace UC := Lib.hid (UC.out.next hb)
  replace U2 := Lib.hid (U2.out.next hb)
  replace U3 := Lib.hid (U3.out.next hb)
  replace U7 := Lib.hid (U7.out.next hb)
  replace U8 := Lib.hid (U8.out.next hb)
  replace U9 := Lib.hid (U9.out.next hb)
  obtain ⟨x10, B10, e1, e2, hb2, hk⟩ := box1 w10 #[.slice (some ⟨b10, o10, none⟩) 24 c10] 25
  have U10 := Lib.hid (up_va (Sl.below hs (Nat.le_refl _) hb2) hk : Up x10 (VA B10 b10 o10 c10 (turn b ki)))
  replace HU := Lib.hid (HU.out.next hb2)
  replace UX := Lib.hid (UX.out.next hb2)
  replace UY := Lib.hid (UY.out.next hb2)
  replace UC := Lib.hid (UC.out.next hb2)
  replace U2 := Lib.hid (U2.out.next hb2)
  replace U3 := Lib.hid (U3.out.next hb2)
  replace U7 := Lib.hid (U7.out.next hb2)
  replace U8 := Lib.hid (U8.out.next hb2)
  replace U9 := Lib.hid (U9.out.next hb2)
  clear hs hb hb2 hk
  go_wp2
  clear e1 e2
  obtain ⟨ca, hca⟩ : ∃ n, count a = n := ⟨_, rfl⟩
  replace hca := Lib.hid hca
  have hd : Below x10.heap.size x10 x10.drew := (Below.refl _ _).drew
  replace HU := Lib.hid (HU.out.next hd)
  replace UX := Lib.hid (UX.out.next hd)
  replace UY := Lib.hid (UY.out.next hd)
  replace UC := Lib.hid (UC.out.next hd)
  replace U2 := Lib.hid (U2.out.next hd)
  replace U3 := Lib.hid (U3.out.next hd)
  replace U7 := Lib.hid (U7.out.next hd)
  replace U8 := Lib.hid (U8.out.next hd)
  replace U9 := Lib.hid (U9.out.next hd)
  replace U10 := Lib.hid (U10.out.next hd)
  clear hd
  refine wp_region_held_drew (S := fun w' => w'.cell? ⟨B7, 0, none⟩ = some (.slice (some ⟨b7, o7, none⟩) 24 c7) ∧ w'.cell? ⟨B8, 0, none⟩ = some (.slice (some ⟨b8, o8, none⟩) 24 c8) ∧ w'.cell? ⟨B9, 0, none⟩ = some (.slice (some ⟨b9, o9, none⟩) 24 c9) ∧ w'.cell? ⟨B2, 0, none⟩ = some (.slice (some ⟨b2, o2, none⟩) 24 c2)) (by kernel_rfl) ⟨U7.out.now.cell, U8.out.now.cell, U9.out.now.cell, U2.out.now.cell⟩ (fun hHeld => ?_)
  refine wpAnyH_take (i := 0) (oi := _) (v := ?_) rfl (by kernel_rfl) (by kernel_rfl) (by kernel_rfl) (fun _ _ _ h => h) (Or.inl ⟨by rfl, ?_⟩) (by assumption) ?_
  rotate_left 1
  · (intro w hSw; (try dsimp only at hSw); go_simp; try with_reducible rfl)
  try simp only [List.getElem_toArray, List.getElem_cons_zero, List.getElem_cons_succ, Act.put, List.setIfInBounds_toArray, List.set_cons_zero, List.set_cons_succ]
  refine wpAnyH_take (i := 1) (oi := _) (v := ?_) rfl (by kernel_rfl) (by kernel_rfl) (by kernel_rfl) (fun _ _ _ h => h) (Or.inl ⟨by rfl, ?_⟩) (by assumption) ?_
  rotate_left 1
  · (intro w hSw; (try dsimp only at hSw); go_simp; try with_reducible rfl)
  try simp only [List.getElem_toArray, List.getElem_cons_zero, List.getElem_cons_succ, Act.put, List.setIfInBounds_toArray, List.set_cons_zero, List.set_cons_succ]
  refine wpAnyH_take (i := 2) (oi := _) (v := ?_) rfl (by kernel_rfl) (by kernel_rfl) (by kernel_rfl) (fun _ _ _ h => h) (Or.inl ⟨by rfl, ?_⟩) (by assumption) ?_
  rotate_left 1
  · (intro w hSw; (try dsimp only at hSw); go_simp; try with_reducible rfl)
  try simp only [List.getElem_toArray, List.getElem_cons_zero, List.getElem_cons_succ, Act.put, List.setIfInBounds_toArray, List.set_cons_zero, List.set_cons_succ]
  refine wpAnyH_take (i := 3) (oi := _) (v := ?_) rfl (by kernel_rfl) (by kernel_rfl) (by kernel_rfl) (fun _ _ _ h => h) (Or.inl ⟨by rfl, ?_⟩) (by assumption) ?_
  rotate_left 1
  · (intro w hSw; (try dsimp only at hSw); go_simp; try with_reducible rfl)
  try simp only [List.getElem_toArray, List.getElem_cons_zero, List.getElem_cons_succ, Act.put, List.setIfInBounds_toArray, List.set_cons_zero, List.set_cons_succ]
  refine wpAnyH_take (i := 4) (oi := _) (v := ?_) rfl (by kernel_rfl) (by kernel_rfl) (by kernel_rfl) (fun _ _ _ h => h) (Or.inl ⟨by rfl, ?_⟩) (by assumption) ?_
  rotate_left 1
  · (intro w hSw; (try dsimp only at hSw); go_simp; try with_reducible rfl)
  try simp only [List.getElem_toArray, List.getElem_cons_zero, List.getElem_cons_succ, Act.put, List.setIfInBounds_toArray, List.set_cons_zero, List.set_cons_succ]
  refine wpAnyH_take (i := 5) (oi := _) (v := ?_) rfl (by kernel_rfl) (by kernel_rfl) (by kernel_rfl) (fun _ _ _ h => h) (Or.inl ⟨by rfl, ?_⟩) (by assumption) ?_
  rotate_left 1
  · (intro w hSw; (try dsimp only at hSw); go_simp; try with_reducible rfl)
  try simp only [List.getElem_toArray, List.getElem_cons_zero, List.getElem_cons_succ, Act.put, List.setIfInBounds_toArray, List.set_cons_zero, List.set_cons_succ]
  refine wpAnyH_take (i := 6) (oi := _) (v := ?_) rfl (by kernel_rfl) (by kernel_rfl) (by kernel_rfl) (fun _ _ _ h => h) (Or.inl ⟨by rfl, ?_⟩) (by assumption) ?_
  rotate_left 1
  · (intro w hSw; (try dsimp only at hSw); go_simp; try with_reducible rfl)
  try simp only [List.getElem_toArray, List.getElem_cons_zero, List.getElem_cons_succ, Act.put, List.setIfInBounds_toArray, List.set_cons_zero, List.set_cons_succ]
  refine wpAnyH_take (i := 7) (oi := _) (v := ?_) rfl (by kernel_rfl) (by kernel_rfl) (by kernel_rfl) (fun _ _ _ h => h) (Or.inl ⟨by rfl, ?_⟩) (by assumption) ?_
  rotate_left 1
  · (intro w hSw; (try dsimp only at hSw); go_simp; try with_reducible rfl)
  try simp only [List.getElem_toArray, List.getElem_cons_zero, List.getElem_cons_succ, Act.put, List.setIfInBounds_toArray, List.set_cons_zero, List.set_cons_succ]
  refine wpAnyH_take (i := 8) (oi := _) (v := ?_) rfl (by kernel_rfl) (by kernel_rfl) (by kernel_rfl) (fun _ _ _ h => h) (Or.inl ⟨by rfl, ?_⟩) (by assumption) ?_
  rotate_left 1
  · (intro w hSw; (try dsimp only at hSw); go_simp; try with_reducible rfl)
  try simp only [List.getElem_toArray, List.getElem_cons_zero, List.getElem_cons_succ, Act.put, List.setIfInBounds_toArray, List.set_cons_zero, List.set_cons_succ]
  refine wpAnyH_take (i := 9) (oi := _) (v := ?_) rfl (by kernel_rfl) (by kernel_rfl) (by kernel_rfl) (fun _ _ _ h => h) (Or.inl ⟨by rfl, ?_⟩) (by assumption) ?_
  rotate_left 1
  · (intro w hSw; (try dsimp only at hSw); go_simp; try with_reducible rfl)
  try simp only [List.getElem_toArray, List.getElem_cons_zero, List.getElem_cons_succ, Act.put, List.setIfInBounds_toArray, List.set_cons_zero, List.set_cons_succ]
  refine wpAnyH_take (i := 10) (oi := _) (v := ?_) rfl (by kernel_rfl) (by kernel_rfl) (by kernel_rfl) (fun _ _ _ h => h) (Or.inl ⟨by rfl, ?_⟩) (by assumption) ?_
  rotate_left 1
  · (intro w hSw; (try dsimp only at hSw); go_simp; try with_reducible rfl)
  try simp only [List.getElem_toArray, List.getElem_cons_zero, List.getElem_cons_succ, Act.put, List.setIfInBounds_toArray, List.set_cons_zero, List.set_cons_succ]
  refine wpAnyH_take (i := 11) (oi := _) (v := ?_) rfl (by kernel_rfl) (by kernel_rfl) (by kernel_rfl) (fun _ _ _ h => h) (Or.inl ⟨by rfl, ?_⟩) (by assumption) ?_
  rotate_left 1
  · (intro w hSw; (try dsimp only at hSw); go_simp; try with_reducible rfl)
  try simp only [List.getElem_toArray, List.getElem_cons_zero, List.getElem_cons_succ, Act.put, List.setIfInBounds_toArray, List.set_cons_zero, List.set_cons_succ]
  refine wpAnyH_take (i := 12) (oi := _) (v := ?_) rfl (by kernel_rfl) (by kernel_rfl) (by kernel_rfl) (fun _ _ _ h => h) (Or.inl ⟨by rfl, ?_⟩) (by assumption) ?_
  rotate_left 1
  · (intro w hSw; (try dsimp only at hSw); go_simp; try with_reducible rfl)
  try simp only [List.getElem_toArray, List.getElem_cons_zero, List.getElem_cons_succ, Act.put, List.setIfInBounds_toArray, List.set_cons_zero, List.set_cons_succ]
  refine wpAnyH_take (i := 13) (oi := _) (v := ?_) rfl (by kernel_rfl) (by kernel_rfl) (by kernel_rfl) (fun _ _ _ h => h) (Or.inl ⟨by rfl, ?_⟩) (by assumption) ?_
  rotate_left 1
  · (intro w hSw; (try dsimp only at hSw); go_simp; try with_reducible rfl)
  try simp only [List.getElem_toArray, List.getElem_cons_zero, List.getElem_cons_succ, Act.put, List.setIfInBounds_toArray, List.set_cons_zero, List.set_cons_succ]
  refine wpAnyH_take (i := 14) (oi := _) (v := ?_) rfl (by kernel_rfl) (by kernel_rfl) (by kernel_rfl) (fun _ _ _ h => h) (Or.inl ⟨by rfl, ?_⟩) (by assumption) ?_
  rotate_left 1
  · (intro w hSw; (try dsimp only at hSw); go_simp; try with_reducible rfl)
  try simp only [List.getElem_toArray, List.getElem_cons_zero, List.getElem_cons_succ, Act.put, List.setIfInBounds_toArray, List.set_cons_zero, List.set_cons_succ]
  refine wpAnyH_take (i := 15) (oi := _) (v := ?_) rfl (by kernel_rfl) (by kernel_rfl) (by kernel_rfl) (fun _ _ _ h => h) (Or.inl ⟨by rfl, ?_⟩) (by assumption) ?_
  rotate_left 1
  · (intro w hSw; (try dsimp only at hSw); go_simp; try with_reducible rfl)
  try simp only [List.getElem_toArray, List.getElem_cons_zero, List.getElem_cons_succ, Act.put, List.setIfInBounds_toArray, List.set_cons_zero, List.set_cons_succ]
  refine wpAnyH_take (i := 16) (oi := _) (v := ?_) rfl (by kernel_rfl) (by kernel_rfl) (by kernel_rfl) (fun _ _ _ h => h) (Or.inl ⟨by rfl, ?_⟩) (by assumption) ?_
  rotate_left 1
  · (intro w hSw; (try dsimp only at hSw); go_simp; try with_reducible rfl)
  try simp only [List.getElem_toArray, List.getElem_cons_zero, List.getElem_cons_succ, Act.put, List.setIfInBounds_toArray, List.set_cons_zero, List.set_cons_succ]
  refine wpAnyH_ready (rs := [17]) (by kernel_rfl) (by simp) ?_
  refine AllReadyH.cons (o := _) rfl (fun K hK => ?_) AllReadyH.nil
  rw [if_pos (by kernel_rfl)]
  simp only [List.getElem_toArray, List.getElem_cons_zero, List.getElem_cons_succ]
  go_simp
  (with_reducible refine (rsameV (turn_turn a ki kk HK.out.1 HK.out.2.1) U8.out.now.1 U9.out.now.1).mono ?_)
  rintro e w11 ⟨rfl, hb⟩
  replace HU := Lib.hid (HU.out.next hb)
  replace UX := Lib.hid (UX.out.next hb)
  replace UY := Lib.hid (UY.out.next hb)
  replace UC := Lib.hid (UC.out.next hb)
  replace U2 := Lib.hid (U2.out.next hb)
  replace U3 := Lib.hid (U3.out.next hb)
  replace U7 := Lib.hid (U7.out.next hb)
  replace U8 := Lib.hid (U8.out.next hb)
  replace U9 := Lib.hid (U9.out.next hb)
  replace U10 := Lib.hid (U10.out.next hb)
  clear hb hHeld
  refine hK.out _ _ ⟨U7.out.now.cell, U8.out.now.cell, U9.out.now.cell, U2.out.now.cell⟩ (fun hHeld => ?_)
  clear hK K
  try simp only [List.getElem_toArray, List.getElem_cons_zero, List.getElem_cons_succ, Act.put, List.setIfInBounds_toArray, List.set_cons_zero, List.set_cons_succ]
  refine wpAnyH_take (i := 18) (oi := _) (v := ?_) rfl (by kernel_rfl) (by kernel_rfl) (by kernel_rfl) (fun _ _ _ h => h) (Or.inl ⟨by rfl, ?_⟩) (by assumption) ?_
  rotate_left 1
  · (intro w hSw; (try dsimp only at hSw); go_simp; try with_reducible rfl)
  try simp only [List.getElem_toArray, List.getElem_cons_zero, List.getElem_cons_succ, Act.put, List.setIfInBounds_toArray, List.set_cons_zero, List.set_cons_succ]
  refine wpAnyH_take (i := 19) (oi := _) (v := ?_) rfl (by kernel_rfl) (by kernel_rfl) (by kernel_rfl) (fun _ _ _ h => h) (Or.inl ⟨by rfl, ?_⟩) (by assumption) ?_
  rotate_left 1
  · (intro w hSw; (try dsimp only at hSw); go_simp; try with_reducible rfl)
  try simp only [List.getElem_toArray, List.getElem_cons_zero, List.getElem_cons_succ, Act.put, List.setIfInBounds_toArray, List.set_cons_zero, List.set_cons_succ]
  refine wpAnyH_take (i := 20) (oi := _) (v := ?_) rfl (by kernel_rfl) (by kernel_rfl) (by kernel_rfl) (fun _ _ _ h => h) (Or.inl ⟨by rfl, ?_⟩) (by assumption) ?_
  rotate_left 1
  · (intro w hSw; (try dsimp only at hSw); go_simp; try with_reducible rfl)
  try simp only [List.getElem_toArray, List.getElem_cons_zero, List.getElem_cons_succ, Act.put, List.setIfInBounds_toArray, List.set_cons_zero, List.set_cons_succ]
  refine wpAnyH_take (i := 21) (oi := _) (v := ?_) rfl (by kernel_rfl) (by kernel_rfl) (by kernel_rfl) (fun _ _ _ h => h) (Or.inl ⟨by rfl, ?_⟩) (by assumption) ?_
  rotate_left 1
  · (intro w hSw; (try dsimp only at hSw); go_simp; try with_reducible rfl)
  try simp only [List.getElem_toArray, List.getElem_cons_zero, List.getElem_cons_succ, Act.put, List.setIfInBounds_toArray, List.set_cons_zero, List.set_cons_succ]
  refine wpAnyH_take (i := 23) (oi := _) (v := ?_) rfl (by kernel_rfl) (by kernel_rfl) (by kernel_rfl) (fun _ _ _ h => h) (Or.inl ⟨by rfl, ?_⟩) (by assumption) ?_
  rotate_left 1
  · (intro w hSw; (try dsimp only at hSw); go_simp; try with_reducible rfl)
  try simp only [List.getElem_toArray, List.getElem_cons_zero, List.getElem_cons_succ, Act.put, List.setIfInBounds_toArray, List.set_cons_zero, List.set_cons_succ]
  refine wpAnyH_ready (rs := [22]) (by kernel_rfl) (by simp) ?_
  refine AllReadyH.cons (o := _) rfl (fun K hK => ?_) AllReadyH.nil
  rw [if_pos (by kernel_rfl)]
  simp only [List.getElem_toArray, List.getElem_cons_zero, List.getElem_cons_succ]
  go_simp
  (with_reducible refine (s_count (n := ca) U7.out.now.1 (ca : Int) rfl (ar_ct ki hca.out)).mono ?_)
  rintro e w12 ⟨rfl, hb⟩
  replace HU := Lib.hid (HU.out.next hb)
  replace UX := Lib.hid (UX.out.next hb)
  replace UY := Lib.hid (UY.out.next hb)
  replace UC := Lib.hid (UC.out.next hb)
  replace U2 := Lib.hid (U2.out.next hb)
  replace U3 := Lib.hid (U3.out.next hb)
  replace U7 := Lib.hid (U7.out.next hb)
  replace U8 := Lib.hid (U8.out.next hb)
  replace U9 := Lib.hid (U9.out.next hb)
  replace U10 := Lib.hid (U10.out.next hb)
  clear hb hHeld
  refine hK.out _ _ ⟨U7.out.now.cell, U8.out.now.cell, U9.out.now.cell, U2.out.now.cell⟩ (fun hHeld => ?_)
  clear hK K
  try simp only [List.getElem_toArray, List.getElem_cons_zero, List.getElem_cons_succ, Act.put, List.setIfInBounds_toArray, List.set_cons_zero, List.set_cons_succ]
  refine wpAnyH_ready (rs := [24]) (by kernel_rfl) (by simp) ?_
  refine AllReadyH.cons (o := _) rfl (fun K hK => ?_) AllReadyH.nil
  rw [if_pos (by kernel_rfl)]
  simp only [List.getElem_toArray, List.getElem_cons_zero, List.getElem_cons_succ]
  go_simp
  (with_reducible refine (s_count (n := ca) U2.out.now.1 (ca : Int) rfl hca.out).mono ?_)
  rintro e w13 ⟨rfl, hb⟩
  replace HU := Lib.hid (HU.out.next hb)
  replace UX := Lib.hid (UX.out.next hb)
  replace UY := Lib.hid (UY.out.next hb)
  replace UC := Lib.hid (UC.out.next hb)
  replace U2 := Lib.hid (U2.out.next hb)
  replace U3 := Lib.hid (U3.out.next hb)
  replace U7 := Lib.hid (U7.out.next hb)
  replace U8 := Lib.hid (U8.out.next hb)
  replace U9 := Lib.hid (U9.out.next hb)
  replace U10 := Lib.hid (U10.out.next hb)
  clear hb hHeld
  refine hK.out _ _ ⟨U7.out.now.cell, U8.out.now.cell, U9.out.now.cell, U2.out.now.cell⟩ (fun hHeld => ?_)
  clear hK K
  try simp only [List.getElem_toArray, List.getElem_cons_zero, List.getElem_cons_succ, Act.put, List.setIfInBounds_toArray, List.set_cons_zero, List.set_cons_succ]
  refine wpAnyH_take (i := 25) (oi := _) (v := ?_) rfl (by kernel_rfl) (by kernel_rfl) (by kernel_rfl) (fun _ _ _ h => h) (Or.inl ⟨by rfl, ?_⟩) (by assumption) ?_
  rotate_left 1
  · (intro w hSw; (try dsimp only at hSw); go_simp; try with_reducible rfl)
  try simp only [List.getElem_toArray, List.getElem_cons_zero, List.getElem_cons_succ, Act.put, List.setIfInBounds_toArray, List.set_cons_zero, List.set_cons_succ]
  refine wpAnyH_take (i := 26) (oi := _) (v := ?_) rfl (by kernel_rfl) (by kernel_rfl) (by kernel_rfl) (fun _ _ _ h => h) (Or.inl ⟨by rfl, ?_⟩) (by assumption) ?_
  rotate_left 1
  · (intro w hSw; (try dsimp only at hSw); go_simp; try with_reducible rfl)
  try simp only [List.getElem_toArray, List.getElem_cons_zero, List.getElem_cons_succ, Act.put, List.setIfInBounds_toArray, List.set_cons_zero, List.set_cons_succ]
  refine wpAnyH_done (by kernel_rfl) ?_ _
  clear U8
  clear U9
  have hl0 := U2.out.now.cell
  have hl1 := U3.out.now.cell
  go_wp2_with fail
  clear hl0 hl1
  (with_reducible refine (meetV U2.out.now.1 U3.out.now.1).mono ?_)
  rintro e w14 ⟨b14, o14, c14, rfl, hs, hb⟩
  replace HU := Lib.hid (HU.out.next hb)
  replace UX := Lib.hid (UX.out.next hb)
  replace UY := Lib.hid (UY.out.next hb)
  replace UC := Lib.hid (UC.out.next hb)
  replace U2 := Lib.hid (U2.out.next hb)
  replace U3 := Lib.hid (U3.out.next hb)
  replace U7 := Lib.hid (U7.out.next hb)
  replace U10 := Lib.hid (U10.out.next hb)
  obtain ⟨x14, B14, e1, e2, hb2, hk⟩ := box1 w14 #[.slice (some ⟨b14, o14, none⟩) 24 c14] 25
  have U14 := Lib.hid (up_va (Sl.below hs (Nat.le_refl _) hb2) hk : Up x14 (VA B14 b14 o14 c14 (andA a b)))
  replace HU := Lib.hid (HU.out.next hb2)
  replace UX := Lib.hid (UX.out.next hb2)
  replace UY := Lib.hid (UY.out.next hb2)
  replace UC := Lib.hid (UC.out.next hb2)
  replace U2 := Lib.hid (U2.out.next hb2)
  replace U3 := Lib.hid (U3.out.next hb2)
  replace U7 := Lib.hid (U7.out.next hb2)
  replace U10 := Lib.hid (U10.out.next hb2)
  clear hs hb hb2 hk
  have hl0 := U7.out.now.cell
  have hl1 := U10.out.now.cell
  go_wp2_with fail
  clear e1 e2
  clear hl0 hl1
  (with_reducible refine (meetV U7.out.now.1 U10.out.now.1).mono ?_)
  rintro e w15 ⟨b15, o15, c15, rfl, hs, hb⟩
  replace HU := Lib.hid (HU.out.next hb)
  replace UX := Lib.hid (UX.out.next hb)
  replace UY := Lib.hid (UY.out.next hb)
  replace UC := Lib.hid (UC.out.next hb)
  replace U2 := Lib.hid (U2.out.next hb)
  replace U3 := Lib.hid (U3.out.next hb)
  replace U7 := Lib.hid (U7.out.next hb)
  replace U10 := Lib.hid (U10.out.next hb)
  replace U14 := Lib.hid (U14.out.next hb)
  obtain ⟨x15, B15, e1, e2, hb2, hk⟩ := box1 w15 #[.slice (some ⟨b15, o15, none⟩) 24 c15] 25
  have U15 := Lib.hid (up_va (Sl.below hs (Nat.le_refl _) hb2) hk : Up x15 (VA B15 b15 o15 c15 (andA (turn a ki) (turn b ki))))
  replace HU := Lib.hid (HU.out.next hb2)
  replace UX := Lib.hid (UX.out.next hb2)
  replace UY := Lib.hid (UY.out.next hb2)
  replace UC := Lib.hid (UC.out.next hb2)
  replace U2 := Lib.hid (U2.out.next hb2)
  replace U3 := Lib.hid (U3.out.next hb2)
  replace U7 := Lib.hid (U7.out.next hb2)
  replace U10 := Lib.hid (U10.out.next hb2)
  replace U14 := Lib.hid (U14.out.next hb2)
  clear hs hb hb2 hk
  have hl0 := U2.out.now.cell
  go_wp2_with fail
  clear e1 e2
  clear hl0
  (with_reducible refine (grownV d' HK.out.2.2 U2.out.now.1).mono ?_)
  rintro e w16 ⟨b16, o16, c16, rfl, hs, hb⟩
  replace HU := Lib.hid (HU.out.next hb)
  replace UX := Lib.hid (UX.out.next hb)
  replace UY := Lib.hid (UY.out.next hb)
  replace UC := Lib.hid (UC.out.next hb)
  replace U2 := Lib.hid (U2.out.next hb)
  replace U3 := Lib.hid (U3.out.next hb)
  replace U7 := Lib.hid (U7.out.next hb)
  replace U10 := Lib.hid (U10.out.next hb)
  replace U14 := Lib.hid (U14.out.next hb)
  replace U15 := Lib.hid (U15.out.next hb)
  obtain ⟨x16, B16, e1, e2, hb2, hk⟩ := box1 w16 #[.slice (some ⟨b16, o16, none⟩) 24 c16] 25
  have U16 := Lib.hid (up_va (Sl.below hs (Nat.le_refl _) hb2) hk : Up x16 (VA B16 b16 o16 c16 (grown a d')))
  replace HU := Lib.hid (HU.out.next hb2)
  replace UX := Lib.hid (UX.out.next hb2)
  replace UY := Lib.hid (UY.out.next hb2)
  replace UC := Lib.hid (UC.out.next hb2)
  replace U2 := Lib.hid (U2.out.next hb2)
  replace U3 := Lib.hid (U3.out.next hb2)
  replace U7 := Lib.hid (U7.out.next hb2)
  replace U10 := Lib.hid (U10.out.next hb2)
  replace U14 := Lib.hid (U14.out.next hb2)
  replace U15 := Lib.hid (U15.out.next hb2)
  clear hs hb hb2 hk
  have hl0 := U7.out.now.cell
  go_wp2_with fail
  clear e1 e2
  clear hl0
  (with_reducible refine (grownV d' HK.out.2.2 U7.out.now.1).mono ?_)
  rintro e w17 ⟨b17, o17, c17, rfl, hs, hb⟩
  replace HU := Lib.hid (HU.out.next hb)
  replace UX := Lib.hid (UX.out.next hb)
  replace UY := Lib.hid (UY.out.next hb)
  replace UC := Lib.hid (UC.out.next hb)
  replace U2 := Lib.hid (U2.out.next hb)
  replace U3 := Lib.hid (U3.out.next hb)
  replace U7 := Lib.hid (U7.out.next hb)
  replace U10 := Lib.hid (U10.out.next hb)
  replace U14 := Lib.hid (U14.out.next hb)
  replace U15 := Lib.hid (U15.out.next hb)
  replace U16 := Lib.hid (U16.out.next hb)
  obtain ⟨x17, B17, e1, e2, hb2, hk⟩ := box1 w17 #[.slice (some ⟨b17, o17, none⟩) 24 c17] 25
  have U17 := Lib.hid (up_va (Sl.below hs (Nat.le_refl _) hb2) hk : Up x17 (VA B17 b17 o17 c17 (grown (turn a ki) d')))
  replace HU := Lib.hid (HU.out.next hb2)
  replace UX := Lib.hid (UX.out.next hb2)
  replace UY := Lib.hid (UY.out.next hb2)
  replace UC := Lib.hid (UC.out.next hb2)
  replace U2 := Lib.hid (U2.out.next hb2)
  replace U3 := Lib.hid (U3.out.next hb2)
  replace U7 := Lib.hid (U7.out.next hb2)
  replace U10 := Lib.hid (U10.out.next hb2)
  replace U14 := Lib.hid (U14.out.next hb2)
  replace U15 := Lib.hid (U15.out.next hb2)
  replace U16 := Lib.hid (U16.out.next hb2)
  clear hs hb hb2 hk
  have hl0 := U14.out.now.cell
  go_wp2_with fail
  clear e1 e2
  clear hl0
  (with_reducible refine (ar_shift i ki HI.out.2.2.2.2.1 U14.out.now.1).mono ?_)
  rintro e w18 ⟨b18, o18, c18, rfl, hs, hb⟩
  replace HU := Lib.hid (HU.out.next hb)
  replace UX := Lib.hid (UX.out.next hb)
  replace UY := Lib.hid (UY.out.next hb)
  replace UC := Lib.hid (UC.out.next hb)
  replace U2 := Lib.hid (U2.out.next hb)
  replace U3 := Lib.hid (U3.out.next hb)
  replace U7 := Lib.hid (U7.out.next hb)
  replace U10 := Lib.hid (U10.out.next hb)
  replace U14 := Lib.hid (U14.out.next hb)
  replace U15 := Lib.hid (U15.out.next hb)
  replace U16 := Lib.hid (U16.out.next hb)
  replace U17 := Lib.hid (U17.out.next hb)
  obtain ⟨x18, B18, e1, e2, hb2, hk⟩ := box1 w18 #[.slice (some ⟨b18, o18, none⟩) 24 c18] 25
  have U18 := Lib.hid (up_va (Sl.below hs (Nat.le_refl _) hb2) hk : Up x18 (VA B18 b18 o18 c18 (turn (andA a b) ki)))
  replace HU := Lib.hid (HU.out.next hb2)
  replace UX := Lib.hid (UX.out.next hb2)
  replace UY := Lib.hid (UY.out.next hb2)
  replace UC := Lib.hid (UC.out.next hb2)
  replace U2 := Lib.hid (U2.out.next hb2)
  replace U3 := Lib.hid (U3.out.next hb2)
  replace U7 := Lib.hid (U7.out.next hb2)
  replace U10 := Lib.hid (U10.out.next hb2)
  replace U14 := Lib.hid (U14.out.next hb2)
  replace U15 := Lib.hid (U15.out.next hb2)
  replace U16 := Lib.hid (U16.out.next hb2)
  replace U17 := Lib.hid (U17.out.next hb2)
  clear hs hb hb2 hk
  have hl0 := U16.out.now.cell
  go_wp2_with fail
  clear e1 e2
  clear hl0
  (with_reducible refine (ar_shift i ki HI.out.2.2.2.2.1 U16.out.now.1).mono ?_)
  rintro e w19 ⟨b19, o19, c19, rfl, hs, hb⟩
  replace HU := Lib.hid (HU.out.next hb)
  replace UX := Lib.hid (UX.out.next hb)
  replace UY := Lib.hid (UY.out.next hb)
  replace UC := Lib.hid (UC.out.next hb)
  replace U2 := Lib.hid (U2.out.next hb)
  replace U3 := Lib.hid (U3.out.next hb)
  replace U7 := Lib.hid (U7.out.next hb)
  replace U10 := Lib.hid (U10.out.next hb)
  replace U14 := Lib.hid (U14.out.next hb)
  replace U15 := Lib.hid (U15.out.next hb)
  replace U16 := Lib.hid (U16.out.next hb)
  replace U17 := Lib.hid (U17.out.next hb)
  replace U18 := Lib.hid (U18.out.next hb)
  obtain ⟨x19, B19, e1, e2, hb2, hk⟩ := box1 w19 #[.slice (some ⟨b19, o19, none⟩) 24 c19] 25
  have U19 := Lib.hid (up_va (Sl.below hs (Nat.le_refl _) hb2) hk : Up x19 (VA B19 b19 o19 c19 (turn (grown a d') ki)))
  replace HU := Lib.hid (HU.out.next hb2)
  replace UX := Lib.hid (UX.out.next hb2)
  replace UY := Lib.hid (UY.out.next hb2)
  replace UC := Lib.hid (UC.out.next hb2)
  replace U2 := Lib.hid (U2.out.next hb2)
  replace U3 := Lib.hid (U3.out.next hb2)
  replace U7 := Lib.hid (U7.out.next hb2)
  replace U10 := Lib.hid (U10.out.next hb2)
  replace U14 := Lib.hid (U14.out.next hb2)
  replace U15 := Lib.hid (U15.out.next hb2)
  replace U16 := Lib.hid (U16.out.next hb2)
  replace U17 := Lib.hid (U17.out.next hb2)
  replace U18 := Lib.hid (U18.out.next hb2)
  clear hs hb hb2 hk
  have hl0 := U15.out.now.cell
  have hl1 := U18.out.now.cell
  go_wp2_with fail
  clear e1 e2
  clear hl0 hl1
  (with_reducible refine (rsameV (ar_and a b ki) U15.out.now.1 U18.out.now.1).mono ?_)
  rintro e w20 ⟨rfl, hb⟩
  replace HU := Lib.hid (HU.out.next hb)
  replace UX := Lib.hid (UX.out.next hb)
  replace UY := Lib.hid (UY.out.next hb)
  replace UC := Lib.hid (UC.out.next hb)
  replace U2 := Lib.hid (U2.out.next hb)
  replace U3 := Lib.hid (U3.out.next hb)
  replace U7 := Lib.hid (U7.out.next hb)
  replace U10 := Lib.hid (U10.out.next hb)
  replace U14 := Lib.hid (U14.out.next hb)
  replace U15 := Lib.hid (U15.out.next hb)
  replace U16 := Lib.hid (U16.out.next hb)
  replace U17 := Lib.hid (U17.out.next hb)
  replace U18 := Lib.hid (U18.out.next hb)
  replace U19 := Lib.hid (U19.out.next hb)
  clear hb
  have hl0 := U17.out.now.cell
  have hl1 := U19.out.now.cell
  go_wp2_with fail
  clear hl0 hl1
  (with_reducible refine (rsameV (grown_turn a HK.out.1 d') U17.out.now.1 U19.out.now.1).mono ?_)
  rintro e w21 ⟨rfl, hb⟩
  replace HU := Lib.hid (HU.out.next hb)
  replace UX := Lib.hid (UX.out.next hb)
  replace UY := Lib.hid (UY.out.next hb)
  replace UC := Lib.hid (UC.out.next hb)
  replace U2 := Lib.hid (U2.out.next hb)
  replace U3 := Lib.hid (U3.out.next hb)
  replace U7 := Lib.hid (U7.out.next hb)
  replace U10 := Lib.hid (U10.out.next hb)
  replace U14 := Lib.hid (U14.out.next hb)
  replace U15 := Lib.hid (U15.out.next hb)
  replace U16 := Lib.hid (U16.out.next hb)
  replace U17 := Lib.hid (U17.out.next hb)
  replace U18 := Lib.hid (U18.out.next hb)
  replace U19 := Lib.hid (U19.out.next hb)
  clear hb
  have hl0 := (row_cell UC.out.now 0).trans (show _ = some (.int .i64 z0) from rfl)
  have hl1 := (row_cell UC.out.now 1).trans (show _ = some (.int .i64 z1) from rfl)
  go_wp2_with fail
  clear hl0 hl1
  (with_reducible refine (PC.out _).mono ?_)
  rintro e w22 ⟨rfl, hb⟩
  replace HU := Lib.hid (HU.out.next hb)
  replace UX := Lib.hid (UX.out.next hb)
  replace UY := Lib.hid (UY.out.next hb)
  replace UC := Lib.hid (UC.out.next hb)
  replace U2 := Lib.hid (U2.out.next hb)
  replace U3 := Lib.hid (U3.out.next hb)
  replace U7 := Lib.hid (U7.out.next hb)
  replace U10 := Lib.hid (U10.out.next hb)
  replace U14 := Lib.hid (U14.out.next hb)
  replace U15 := Lib.hid (U15.out.next hb)
  replace U16 := Lib.hid (U16.out.next hb)
  replace U17 := Lib.hid (U17.out.next hb)
  replace U18 := Lib.hid (U18.out.next hb)
  replace U19 := Lib.hid (U19.out.next hb)
  obtain ⟨x22, B22, e1, e2, hb2, hk⟩ := box1 w22 #[.int .i64 (x : Int), .int .i64 (y : Int)] 27
  have U22 := Lib.hid (up_vr hk : Up x22 (VR B22 #[.int .i64 (x : Int), .int .i64 (y : Int)] 27))
  replace HU := Lib.hid (HU.out.next hb2)
  replace UX := Lib.hid (UX.out.next hb2)
  replace UY := Lib.hid (UY.out.next hb2)
  replace UC := Lib.hid (UC.out.next hb2)
  replace U2 := Lib.hid (U2.out.next hb2)
  replace U3 := Lib.hid (U3.out.next hb2)
  replace U7 := Lib.hid (U7.out.next hb2)
  replace U10 := Lib.hid (U10.out.next hb2)
  replace U14 := Lib.hid (U14.out.next hb2)
  replace U15 := Lib.hid (U15.out.next hb2)
  replace U16 := Lib.hid (U16.out.next hb2)
  replace U17 := Lib.hid (U17.out.next hb2)
  replace U18 := Lib.hid (U18.out.next hb2)
  replace U19 := Lib.hid (U19.out.next hb2)
  clear hb hb2 hk
  go_wp2
  clear e1 e2
  obtain ⟨r, hr⟩ : ∃ r, a x y = r := ⟨_, rfl⟩
  replace hr := Lib.hid hr
  obtain ⟨x1, x2, xn, f1, f2, f3, f4, f5, f6, f7⟩ := HI.out.2.2.2.2.2.2.2 x hxy.out.1
  have HX := Lib.hid (show _ ∧ _ ∧ _ ∧ _ ∧ _ from ⟨f3, f4, f5, f6, f7⟩)
  clear f3 f4 f5 f6 f7
  have hd : Below x22.heap.size x22 x22.drew := (Below.refl _ _).drew
  replace HU := Lib.hid (HU.out.next hd)
  replace UX := Lib.hid (UX.out.next hd)
  replace UY := Lib.hid (UY.out.next hd)
  replace UC := Lib.hid (UC.out.next hd)
  replace U2 := Lib.hid (U2.out.next hd)
  replace U3 := Lib.hid (U3.out.next hd)
  replace U7 := Lib.hid (U7.out.next hd)
  replace U10 := Lib.hid (U10.out.next hd)
  replace U14 := Lib.hid (U14.out.next hd)
  replace U15 := Lib.hid (U15.out.next hd)
  replace U16 := Lib.hid (U16.out.next hd)
  replace U17 := Lib.hid (U17.out.next hd)
  replace U18 := Lib.hid (U18.out.next hd)
  replace U19 := Lib.hid (U19.out.next hd)
  replace U22 := Lib.hid (U22.out.next hd)
  clear hd
  refine wp_region_held_drew (S := fun w' => w'.cell? ⟨B2, 0, none⟩ = some (.slice (some ⟨b2, o2, none⟩) 24 c2) ∧ w'.cell? ⟨B7, 0, none⟩ = some (.slice (some ⟨b7, o7, none⟩) 24 c7) ∧ w'.cell? ⟨B22, 0, none⟩ = some (.int .i64 (x : Int)) ∧ w'.cell? ⟨B22, 1, none⟩ = some (.int .i64 (y : Int))) (by kernel_rfl) ⟨U2.out.now.cell, U7.out.now.cell, vr_c0 U22.out.now, vr_c1 U22.out.now⟩ (fun hHeld => ?_)
  refine wpAnyH_take (i := 0) (oi := _) (v := ?_) rfl (by kernel_rfl) (by kernel_rfl) (by kernel_rfl) (fun _ _ _ h => h) (Or.inl ⟨by rfl, ?_⟩) (by assumption) ?_
  rotate_left 1
  · (intro w hSw; (try dsimp only at hSw); go_simp; try with_reducible rfl)
  try simp only [List.getElem_toArray, List.getElem_cons_zero, List.getElem_cons_succ, Act.put, List.setIfInBounds_toArray, List.set_cons_zero, List.set_cons_succ]
  refine wpAnyH_take (i := 1) (oi := _) (v := ?_) rfl (by kernel_rfl) (by kernel_rfl) (by kernel_rfl) (fun _ _ _ h => h) (Or.inl ⟨by rfl, ?_⟩) (by assumption) ?_
  rotate_left 1
  · (intro w hSw; (try dsimp only at hSw); go_simp; try with_reducible rfl)
  try simp only [List.getElem_toArray, List.getElem_cons_zero, List.getElem_cons_succ, Act.put, List.setIfInBounds_toArray, List.set_cons_zero, List.set_cons_succ]
  refine wpAnyH_take (i := 2) (oi := _) (v := ?_) rfl (by kernel_rfl) (by kernel_rfl) (by kernel_rfl) (fun _ _ _ h => h) (Or.inl ⟨by rfl, ?_⟩) (by assumption) ?_
  rotate_left 1
  · (intro w hSw; (try dsimp only at hSw); go_simp; try with_reducible rfl)
  try simp only [List.getElem_toArray, List.getElem_cons_zero, List.getElem_cons_succ, Act.put, List.setIfInBounds_toArray, List.set_cons_zero, List.set_cons_succ]
  refine wpAnyH_take (i := 3) (oi := _) (v := ?_) rfl (by kernel_rfl) (by kernel_rfl) (by kernel_rfl) (fun _ _ _ h => h) (Or.inl ⟨by rfl, ?_⟩) (by assumption) ?_
  rotate_left 1
  · (intro w hSw; (try dsimp only at hSw); go_simp; try with_reducible rfl)
  try simp only [List.getElem_toArray, List.getElem_cons_zero, List.getElem_cons_succ, Act.put, List.setIfInBounds_toArray, List.set_cons_zero, List.set_cons_succ]
  refine wpAnyH_take (i := 5) (oi := _) (v := ?_) rfl (by kernel_rfl) (by kernel_rfl) (by kernel_rfl) (fun _ _ _ h => h) (Or.inl ⟨by rfl, ?_⟩) (by assumption) ?_
  rotate_left 1
  · (intro w hSw; (try dsimp only at hSw); go_simp; try with_reducible rfl)
  try simp only [List.getElem_toArray, List.getElem_cons_zero, List.getElem_cons_succ, Act.put, List.setIfInBounds_toArray, List.set_cons_zero, List.set_cons_succ]
  refine wpAnyH_take (i := 6) (oi := _) (v := ?_) rfl (by kernel_rfl) (by kernel_rfl) (by kernel_rfl) (fun _ _ _ h => h) (Or.inl ⟨by rfl, ?_⟩) (by assumption) ?_
  rotate_left 1
  · (intro w hSw; (try dsimp only at hSw); go_simp; try with_reducible rfl)
  try simp only [List.getElem_toArray, List.getElem_cons_zero, List.getElem_cons_succ, Act.put, List.setIfInBounds_toArray, List.set_cons_zero, List.set_cons_succ]
  refine wpAnyH_take (i := 7) (oi := _) (v := ?_) rfl (by kernel_rfl) (by kernel_rfl) (by kernel_rfl) (fun _ _ _ h => h) (Or.inl ⟨by rfl, ?_⟩) (by assumption) ?_
  rotate_left 1
  · (intro w hSw; (try dsimp only at hSw); go_simp; try with_reducible rfl)
  try simp only [List.getElem_toArray, List.getElem_cons_zero, List.getElem_cons_succ, Act.put, List.setIfInBounds_toArray, List.set_cons_zero, List.set_cons_succ]
  refine wpAnyH_take (i := 8) (oi := _) (v := ?_) rfl (by kernel_rfl) (by kernel_rfl) (by kernel_rfl) (fun _ _ _ h => h) (Or.inl ⟨by rfl, ?_⟩) (by assumption) ?_
  rotate_left 1
  · (intro w hSw; (try dsimp only at hSw); go_simp; try with_reducible rfl)
  try simp only [List.getElem_toArray, List.getElem_cons_zero, List.getElem_cons_succ, Act.put, List.setIfInBounds_toArray, List.set_cons_zero, List.set_cons_succ]
  refine wpAnyH_take (i := 9) (oi := _) (v := ?_) rfl (by kernel_rfl) (by kernel_rfl) (by kernel_rfl) (fun _ _ _ h => h) (Or.inl ⟨by rfl, ?_⟩) (by assumption) ?_
  rotate_left 1
  · (intro w hSw; (try dsimp only at hSw); go_simp; try with_reducible rfl)
  try simp only [List.getElem_toArray, List.getElem_cons_zero, List.getElem_cons_succ, Act.put, List.setIfInBounds_toArray, List.set_cons_zero, List.set_cons_succ]
  refine wpAnyH_take (i := 10) (oi := _) (v := ?_) rfl (by kernel_rfl) (by kernel_rfl) (by kernel_rfl) (fun _ _ _ h => h) (Or.inl ⟨by rfl, ?_⟩) (by assumption) ?_
  rotate_left 1
  · (intro w hSw; (try dsimp only at hSw); go_simp; try with_reducible rfl)
  try simp only [List.getElem_toArray, List.getElem_cons_zero, List.getElem_cons_succ, Act.put, List.setIfInBounds_toArray, List.set_cons_zero, List.set_cons_succ]
  refine wpAnyH_take (i := 12) (oi := _) (v := ?_) rfl (by kernel_rfl) (by kernel_rfl) (by kernel_rfl) (fun _ _ _ h => h) (Or.inl ⟨by rfl, ?_⟩) (by assumption) ?_
  rotate_left 1
  · (intro w hSw; (try dsimp only at hSw); go_simp; try with_reducible rfl)
  try simp only [List.getElem_toArray, List.getElem_cons_zero, List.getElem_cons_succ, Act.put, List.setIfInBounds_toArray, List.set_cons_zero, List.set_cons_succ]
  refine wpAnyH_take (i := 13) (oi := _) (v := ?_) rfl (by kernel_rfl) (by kernel_rfl) (by kernel_rfl) (fun _ _ _ h => h) (Or.inl ⟨by rfl, ?_⟩) (by assumption) ?_
  rotate_left 1
  · (intro w hSw; (try dsimp only at hSw); go_simp; try with_reducible rfl)
  try simp only [List.getElem_toArray, List.getElem_cons_zero, List.getElem_cons_succ, Act.put, List.setIfInBounds_toArray, List.set_cons_zero, List.set_cons_succ]
  refine wpAnyH_ready (rs := [4]) (by kernel_rfl) (by simp) ?_
  refine AllReadyH.cons (o := _) rfl (fun K hK => ?_) AllReadyH.nil
  rw [if_pos (by kernel_rfl)]
  simp only [List.getElem_toArray, List.getElem_cons_zero, List.getElem_cons_succ]
  go_simp
  (with_reducible refine ((hasV x y hxy.out.1 hxy.out.2 U2.out.now.1).mono (OutV.as (congrArg Value.bool hr.out))).mono ?_)
  rintro e w23 ⟨rfl, hb⟩
  replace HU := Lib.hid (HU.out.next hb)
  replace UX := Lib.hid (UX.out.next hb)
  replace UY := Lib.hid (UY.out.next hb)
  replace UC := Lib.hid (UC.out.next hb)
  replace U2 := Lib.hid (U2.out.next hb)
  replace U3 := Lib.hid (U3.out.next hb)
  replace U7 := Lib.hid (U7.out.next hb)
  replace U10 := Lib.hid (U10.out.next hb)
  replace U14 := Lib.hid (U14.out.next hb)
  replace U15 := Lib.hid (U15.out.next hb)
  replace U16 := Lib.hid (U16.out.next hb)
  replace U17 := Lib.hid (U17.out.next hb)
  replace U18 := Lib.hid (U18.out.next hb)
  replace U19 := Lib.hid (U19.out.next hb)
  replace U22 := Lib.hid (U22.out.next hb)
  clear hb hHeld
  refine hK.out _ _ ⟨U2.out.now.cell, U7.out.now.cell, vr_c0 U22.out.now, vr_c1 U22.out.now⟩ (fun hHeld => ?_)
  clear hK K
  try simp only [List.getElem_toArray, List.getElem_cons_zero, List.getElem_cons_succ, Act.put, List.setIfInBounds_toArray, List.set_cons_zero, List.set_cons_succ]
  refine wpAnyH_ready (rs := [11]) (by kernel_rfl) (by simp) ?_
  refine AllReadyH.cons (o := _) rfl (fun K hK => ?_) AllReadyH.nil
  rw [if_pos (by kernel_rfl)]
  simp only [List.getElem_toArray, List.getElem_cons_zero, List.getElem_cons_succ]
  go_simp
  (with_reducible refine (ar_pick x2 xn HX.out.1 HX.out.2.1 HX.out.2.2.1).mono ?_)
  rintro e w24 ⟨rfl, hb⟩
  replace HU := Lib.hid (HU.out.next hb)
  replace UX := Lib.hid (UX.out.next hb)
  replace UY := Lib.hid (UY.out.next hb)
  replace UC := Lib.hid (UC.out.next hb)
  replace U2 := Lib.hid (U2.out.next hb)
  replace U3 := Lib.hid (U3.out.next hb)
  replace U7 := Lib.hid (U7.out.next hb)
  replace U10 := Lib.hid (U10.out.next hb)
  replace U14 := Lib.hid (U14.out.next hb)
  replace U15 := Lib.hid (U15.out.next hb)
  replace U16 := Lib.hid (U16.out.next hb)
  replace U17 := Lib.hid (U17.out.next hb)
  replace U18 := Lib.hid (U18.out.next hb)
  replace U19 := Lib.hid (U19.out.next hb)
  replace U22 := Lib.hid (U22.out.next hb)
  clear hb hHeld
  refine hK.out _ _ ⟨U2.out.now.cell, U7.out.now.cell, vr_c0 U22.out.now, vr_c1 U22.out.now⟩ (fun hHeld => ?_)
  clear hK K
  try simp only [List.getElem_toArray, List.getElem_cons_zero, List.getElem_cons_succ, Act.put, List.setIfInBounds_toArray, List.set_cons_zero, List.set_cons_succ]
  refine wpAnyH_take (i := 14) (oi := _) (v := ?_) rfl (by kernel_rfl) (by kernel_rfl) (by kernel_rfl) (fun _ _ _ h => h) (Or.inl ⟨by rfl, ?_⟩) (by assumption) ?_
  rotate_left 1
  · (intro w hSw; (try dsimp only at hSw); go_simp; try with_reducible rfl)
  try simp only [List.getElem_toArray, List.getElem_cons_zero, List.getElem_cons_succ, Act.put, List.setIfInBounds_toArray, List.set_cons_zero, List.set_cons_succ]
  refine wpAnyH_ready (rs := [15]) (by kernel_rfl) (by simp) ?_
  refine AllReadyH.cons (o := _) rfl (fun K hK => ?_) AllReadyH.nil
  rw [if_pos (by kernel_rfl)]
  simp only [List.getElem_toArray, List.getElem_cons_zero, List.getElem_cons_succ]
  go_simp
  (with_reducible refine ((hasV xn y HX.out.2.2.2.1 hxy.out.2 U7.out.now.1).mono (OutV.as (congrArg Value.bool (ar_has a ki HX.out.2.2.2.2 hr.out)))).mono ?_)
  rintro e w25 ⟨rfl, hb⟩
  replace HU := Lib.hid (HU.out.next hb)
  replace UX := Lib.hid (UX.out.next hb)
  replace UY := Lib.hid (UY.out.next hb)
  replace UC := Lib.hid (UC.out.next hb)
  replace U2 := Lib.hid (U2.out.next hb)
  replace U3 := Lib.hid (U3.out.next hb)
  replace U7 := Lib.hid (U7.out.next hb)
  replace U10 := Lib.hid (U10.out.next hb)
  replace U14 := Lib.hid (U14.out.next hb)
  replace U15 := Lib.hid (U15.out.next hb)
  replace U16 := Lib.hid (U16.out.next hb)
  replace U17 := Lib.hid (U17.out.next hb)
  replace U18 := Lib.hid (U18.out.next hb)
  replace U19 := Lib.hid (U19.out.next hb)
  replace U22 := Lib.hid (U22.out.next hb)
  clear hb hHeld
  refine hK.out _ _ ⟨U2.out.now.cell, U7.out.now.cell, vr_c0 U22.out.now, vr_c1 U22.out.now⟩ (fun hHeld => ?_)
  clear hK K
  try simp only [List.getElem_toArray, List.getElem_cons_zero, List.getElem_cons_succ, Act.put, List.setIfInBounds_toArray, List.set_cons_zero, List.set_cons_succ]
  refine wpAnyH_take (i := 16) (oi := _) (v := ?_) rfl (by kernel_rfl) (by kernel_rfl) (by kernel_rfl) (fun _ _ _ h => h) (Or.inl ⟨by rfl, ?_⟩) (by assumption) ?_
  rotate_left 1
  · (intro w hSw; (try dsimp only at hSw); go_simp; try with_reducible rfl)
  try simp only [List.getElem_toArray, List.getElem_cons_zero, List.getElem_cons_succ, Act.put, List.setIfInBounds_toArray, List.set_cons_zero, List.set_cons_succ]
  refine wpAnyH_take (i := 17) (oi := _) (v := ?_) rfl (by kernel_rfl) (by kernel_rfl) (by kernel_rfl) (fun _ _ _ h => h) (Or.inl ⟨by rfl, ?_⟩) (by assumption) ?_
  rotate_left 1
  · (intro w hSw; (try dsimp only at hSw); go_simp; try with_reducible rfl)
  try simp only [List.getElem_toArray, List.getElem_cons_zero, List.getElem_cons_succ, Act.put, List.setIfInBounds_toArray, List.set_cons_zero, List.set_cons_succ]
  refine wpAnyH_take (i := 18) (oi := _) (v := ?_) rfl (by kernel_rfl) (by kernel_rfl) (by kernel_rfl) (fun _ _ _ h => h) (Or.inl ⟨by rfl, ?_⟩) (by assumption) ?_
  rotate_left 1
  · (intro w hSw; (try dsimp only at hSw); go_simp; try with_reducible rfl)
  try simp only [List.getElem_toArray, List.getElem_cons_zero, List.getElem_cons_succ, Act.put, List.setIfInBounds_toArray, List.set_cons_zero, List.set_cons_succ]
  refine wpAnyH_done (by kernel_rfl) ?_ _
  clear f1 f2
  go_wp2
  go_ret
  exact ⟨rfl, HU.out.now.1⟩
end Go.Proofs.YtipfafglbkbafaaDoor
