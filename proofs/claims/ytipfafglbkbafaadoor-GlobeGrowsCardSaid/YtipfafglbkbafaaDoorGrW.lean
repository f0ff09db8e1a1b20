/- GrW: walked. -/
import Derived.Test.YtipfafglbkbafaaDoorSa
namespace Go.Proofs.YtipfafglbkbafaaDoor
open Go.RowKit Go.Shelf
set_option linter.unusedVariables false
set_option linter.unusedSimpArgs false
theorem gr_has (f : Ar) (n : Nat) : Eqv (andA (grown f n) f) f := fun x y hx hy => by
  show (grown f n x y && f x y) = f x y
  cases h : f x y
  · rw [Bool.and_false]
  · rw [grown_has hx hy h]; rfl
theorem gr_or (f g : Ar) (n : Nat) : Eqv (andA (grown (orA f g) n) (grown f n)) (grown f n) := fun x y hx hy => by
  show (grown (orA f g) n x y && grown f n x y) = grown f n x y
  have h := grown_or f g n x y hx hy
  have h2 : grown (orA f g) n x y = (grown f n x y || grown g n x y) := h
  rw [h2]
  cases grown f n x y <;> cases grown g n x y <;> rfl
set_option maxRecDepth 100000 in
set_option maxHeartbeats 8000000 in
theorem grows_any (al : Option Addr) (n c : Nat) (bl : Option Addr) (m d : Nat) (p q : Int) (p0 : -9223372036854775808 ≤ p) (p1 : p ≤ 9223372036854775807) (q0 : -9223372036854775808 ≤ q) (q1 : q ≤ 9223372036854775807) (w : World) (hT : Tab w) (hx : S4 w al n) (hy : S4 w bl m) :
    Calls Tryd.prog 6 #[.slice al n c, .slice bl m d, .int .i64 p, .int .i64 q] w (OutV w (.bool true)) := by
  have HU := Lib.hid (up_vb (Below.refl w.heap.size w) hT : Up w (VB w))
  have UX := Lib.hid (up_s4 hx)
  have UY := Lib.hid (up_s4 hy)
  obtain ⟨i, hi8, ei, PI⟩ := pickV p p0 p1 8 (by decide) (by decide) 8 rfl
  obtain ⟨k, hk8, ek, PK⟩ := pickV q q0 q1 8 (by decide) (by decide) 8 rfl
  have hi := Lib.hid (show i ≤ 24 ∧ k ≤ 24 ∧ i + k ≤ 24 ∧ IntKind.i64.wrap ((i : Int) + (k : Int)) = ((i + k : Nat) : Int) from ⟨by omega, by omega, by omega, by rw [IntKind.wrap_i64]; omega⟩)
  replace PI := Lib.hid PI
  replace PK := Lib.hid PK
  clear ei ek hT hx hy hi8 hk8 p0 p1 q0 q1
  go_enter Tryd.func6, Tryd.ntmps6
  go_wp2_with fail
  (with_reducible refine (sane_any _ HU.out.now.2).mono ?_)
  rintro e w1 ⟨rfl, hb⟩
  replace HU := Lib.hid (HU.out.next hb)
  replace UX := Lib.hid (UX.out.next hb)
  replace UY := Lib.hid (UY.out.next hb)
  clear hb
  go_wp2_with fail
  (with_reducible refine (madeV UX.out.now).mono ?_)
  rintro e w2 ⟨a, b2, o2, c2, rfl, hs, hb⟩
  replace HU := Lib.hid (HU.out.next hb)
  replace UX := Lib.hid (UX.out.next hb)
  replace UY := Lib.hid (UY.out.next hb)
  obtain ⟨x2, B2, e1, e2, hb2, hk⟩ := box1 w2 #[.slice (some ⟨b2, o2, none⟩) 24 c2] 25
  have U2 := Lib.hid (up_va (Sl.below hs (Nat.le_refl _) hb2) hk : Up x2 (VA B2 b2 o2 c2 (a)))
  replace HU := Lib.hid (HU.out.next hb2)
  replace UX := Lib.hid (UX.out.next hb2)
  replace UY := Lib.hid (UY.out.next hb2)
  clear hs hb hb2 hk
  go_wp2_with fail
  clear e1 e2
  (with_reducible refine (madeV UY.out.now).mono ?_)
  rintro e w3 ⟨b, b3, o3, c3, rfl, hs, hb⟩
  replace HU := Lib.hid (HU.out.next hb)
  replace UX := Lib.hid (UX.out.next hb)
  replace UY := Lib.hid (UY.out.next hb)
  replace U2 := Lib.hid (U2.out.next hb)
  obtain ⟨x3, B3, e1, e2, hb2, hk⟩ := box1 w3 #[.slice (some ⟨b3, o3, none⟩) 24 c3] 25
  have U3 := Lib.hid (up_va (Sl.below hs (Nat.le_refl _) hb2) hk : Up x3 (VA B3 b3 o3 c3 (b)))
  replace HU := Lib.hid (HU.out.next hb2)
  replace UX := Lib.hid (UX.out.next hb2)
  replace UY := Lib.hid (UY.out.next hb2)
  replace U2 := Lib.hid (U2.out.next hb2)
  clear hs hb hb2 hk
  go_wp2_with fail
  clear e1 e2
  (with_reducible refine (PI.out _).mono ?_)
  rintro e w4 ⟨rfl, hb⟩
  replace HU := Lib.hid (HU.out.next hb)
  replace UX := Lib.hid (UX.out.next hb)
  replace UY := Lib.hid (UY.out.next hb)
  replace U2 := Lib.hid (U2.out.next hb)
  replace U3 := Lib.hid (U3.out.next hb)
  clear hb
  go_wp2_with fail
  (with_reducible refine (PK.out _).mono ?_)
  rintro e w5 ⟨rfl, hb⟩
  replace HU := Lib.hid (HU.out.next hb)
  replace UX := Lib.hid (UX.out.next hb)
  replace UY := Lib.hid (UY.out.next hb)
  replace U2 := Lib.hid (U2.out.next hb)
  replace U3 := Lib.hid (U3.out.next hb)
  clear hb
  have hl0 := U2.out.now.cell
  go_wp2_with fail
  clear hl0
  (with_reducible refine (grownV i hi.out.1 U2.out.now.1).mono ?_)
  rintro e w6 ⟨b6, o6, c6, rfl, hs, hb⟩
  replace HU := Lib.hid (HU.out.next hb)
  replace UX := Lib.hid (UX.out.next hb)
  replace UY := Lib.hid (UY.out.next hb)
  replace U2 := Lib.hid (U2.out.next hb)
  replace U3 := Lib.hid (U3.out.next hb)
  obtain ⟨x6, B6, e1, e2, hb2, hk⟩ := box1 w6 #[.slice (some ⟨b6, o6, none⟩) 24 c6] 25
  have U6 := Lib.hid (up_va (Sl.below hs (Nat.le_refl _) hb2) hk : Up x6 (VA B6 b6 o6 c6 (grown a i)))
  replace HU := Lib.hid (HU.out.next hb2)
  replace UX := Lib.hid (UX.out.next hb2)
  replace UY := Lib.hid (UY.out.next hb2)
  replace U2 := Lib.hid (U2.out.next hb2)
  replace U3 := Lib.hid (U3.out.next hb2)
  clear hs hb hb2 hk
  have hl0 := U6.out.now.cell
  go_wp2_with fail
  clear e1 e2
  clear hl0
  (with_reducible refine (grownV k hi.out.2.1 U6.out.now.1).mono ?_)
  rintro e w7 ⟨b7, o7, c7, rfl, hs, hb⟩
  replace HU := Lib.hid (HU.out.next hb)
  replace UX := Lib.hid (UX.out.next hb)
  replace UY := Lib.hid (UY.out.next hb)
  replace U2 := Lib.hid (U2.out.next hb)
  replace U3 := Lib.hid (U3.out.next hb)
  replace U6 := Lib.hid (U6.out.next hb)
  obtain ⟨x7, B7, e1, e2, hb2, hk⟩ := box1 w7 #[.slice (some ⟨b7, o7, none⟩) 24 c7] 25
  have U7 := Lib.hid (up_va (Sl.below hs (Nat.le_refl _) hb2) hk : Up x7 (VA B7 b7 o7 c7 (grown (grown a i) k)))
  replace HU := Lib.hid (HU.out.next hb2)
  replace UX := Lib.hid (UX.out.next hb2)
  replace UY := Lib.hid (UY.out.next hb2)
  replace U2 := Lib.hid (U2.out.next hb2)
  replace U3 := Lib.hid (U3.out.next hb2)
  replace U6 := Lib.hid (U6.out.next hb2)
  clear hs hb hb2 hk
  have hik := hi.out.2.2.2
  have hl0 := U2.out.now.cell
  go_wp2_with fail
  clear e1 e2
  clear hl0
  clear hik
  (with_reducible refine (grownAddV i k hi.out.2.2.1 U2.out.now.1).mono ?_)
  rintro e w8 ⟨b8, o8, c8, rfl, hs, hb⟩
  replace HU := Lib.hid (HU.out.next hb)
  replace UX := Lib.hid (UX.out.next hb)
  replace UY := Lib.hid (UY.out.next hb)
  replace U2 := Lib.hid (U2.out.next hb)
  replace U3 := Lib.hid (U3.out.next hb)
  replace U6 := Lib.hid (U6.out.next hb)
  replace U7 := Lib.hid (U7.out.next hb)
  obtain ⟨x8, B8, e1, e2, hb2, hk⟩ := box1 w8 #[.slice (some ⟨b8, o8, none⟩) 24 c8] 25
  have U8 := Lib.hid (up_va (Sl.below hs (Nat.le_refl _) hb2) hk : Up x8 (VA B8 b8 o8 c8 (grown a (i + k))))
  replace HU := Lib.hid (HU.out.next hb2)
  replace UX := Lib.hid (UX.out.next hb2)
  replace UY := Lib.hid (UY.out.next hb2)
  replace U2 := Lib.hid (U2.out.next hb2)
  replace U3 := Lib.hid (U3.out.next hb2)
  replace U6 := Lib.hid (U6.out.next hb2)
  replace U7 := Lib.hid (U7.out.next hb2)
  clear hs hb hb2 hk
  have hl0 := U2.out.now.cell
  go_wp2_with fail
  clear e1 e2
  clear hl0
  (with_reducible refine (grown0V U2.out.now.1).mono ?_)
  rintro e w9 ⟨b9, o9, c9, rfl, hs, hb⟩
  replace HU := Lib.hid (HU.out.next hb)
  replace UX := Lib.hid (UX.out.next hb)
  replace UY := Lib.hid (UY.out.next hb)
  replace U2 := Lib.hid (U2.out.next hb)
  replace U3 := Lib.hid (U3.out.next hb)
  replace U6 := Lib.hid (U6.out.next hb)
  replace U7 := Lib.hid (U7.out.next hb)
  replace U8 := Lib.hid (U8.out.next hb)
  obtain ⟨x9, B9, e1, e2, hb2, hk⟩ := box1 w9 #[.slice (some ⟨b9, o9, none⟩) 24 c9] 25
  have U9 := Lib.hid (up_va (Sl.below hs (Nat.le_refl _) hb2) hk : Up x9 (VA B9 b9 o9 c9 (grown a 0)))
  replace HU := Lib.hid (HU.out.next hb2)
  replace UX := Lib.hid (UX.out.next hb2)
  replace UY := Lib.hid (UY.out.next hb2)
  replace U2 := Lib.hid (U2.out.next hb2)
  replace U3 := Lib.hid (U3.out.next hb2)
  replace U6 := Lib.hid (U6.out.next hb2)
  replace U7 := Lib.hid (U7.out.next hb2)
  replace U8 := Lib.hid (U8.out.next hb2)
  clear hs hb hb2 hk
  have hl0 := U2.out.now.cell
  have hl1 := U3.out.now.cell
  go_wp2_with fail
  clear e1 e2
  clear hl0 hl1
  (with_reducible refine (unionV U2.out.now.1 U3.out.now.1).mono ?_)
  rintro e w10 ⟨b10, o10, c10, rfl, hs, hb⟩
  replace HU := Lib.hid (HU.out.next hb)
  replace UX := Lib.hid (UX.out.next hb)
  replace UY := Lib.hid (UY.out.next hb)
  replace U2 := Lib.hid (U2.out.next hb)
  replace U3 := Lib.hid (U3.out.next hb)
  replace U6 := Lib.hid (U6.out.next hb)
  replace U7 := Lib.hid (U7.out.next hb)
  replace U8 := Lib.hid (U8.out.next hb)
  replace U9 := Lib.hid (U9.out.next hb)
  obtain ⟨x10, B10, e1, e2, hb2, hk⟩ := box1 w10 #[.slice (some ⟨b10, o10, none⟩) 24 c10] 25
  have U10 := Lib.hid (up_va (Sl.below hs (Nat.le_refl _) hb2) hk : Up x10 (VA B10 b10 o10 c10 (orA a b)))
  replace HU := Lib.hid (HU.out.next hb2)
  replace UX := Lib.hid (UX.out.next hb2)
  replace UY := Lib.hid (UY.out.next hb2)
  replace U2 := Lib.hid (U2.out.next hb2)
  replace U3 := Lib.hid (U3.out.next hb2)
  replace U6 := Lib.hid (U6.out.next hb2)
  replace U7 := Lib.hid (U7.out.next hb2)
  replace U8 := Lib.hid (U8.out.next hb2)
  replace U9 := Lib.hid (U9.out.next hb2)
  clear hs hb hb2 hk
  have hl0 := U7.out.now.cell
  have hl1 := U8.out.now.cell
  go_wp2_with fail
  clear e1 e2
  clear hl0 hl1
  (with_reducible refine (rsameV (grown_twice a i k) U7.out.now.1 U8.out.now.1).mono ?_)
  rintro e w11 ⟨rfl, hb⟩
  replace HU := Lib.hid (HU.out.next hb)
  replace UX := Lib.hid (UX.out.next hb)
  replace UY := Lib.hid (UY.out.next hb)
  replace U2 := Lib.hid (U2.out.next hb)
  replace U3 := Lib.hid (U3.out.next hb)
  replace U6 := Lib.hid (U6.out.next hb)
  replace U7 := Lib.hid (U7.out.next hb)
  replace U8 := Lib.hid (U8.out.next hb)
  replace U9 := Lib.hid (U9.out.next hb)
  replace U10 := Lib.hid (U10.out.next hb)
  clear hb
  have hl0 := U9.out.now.cell
  have hl1 := U2.out.now.cell
  go_wp2_with fail
  clear hl0 hl1
  (with_reducible refine (rsameV (grown_0 a) U9.out.now.1 U2.out.now.1).mono ?_)
  rintro e w12 ⟨rfl, hb⟩
  replace HU := Lib.hid (HU.out.next hb)
  replace UX := Lib.hid (UX.out.next hb)
  replace UY := Lib.hid (UY.out.next hb)
  replace U2 := Lib.hid (U2.out.next hb)
  replace U3 := Lib.hid (U3.out.next hb)
  replace U6 := Lib.hid (U6.out.next hb)
  replace U7 := Lib.hid (U7.out.next hb)
  replace U8 := Lib.hid (U8.out.next hb)
  replace U9 := Lib.hid (U9.out.next hb)
  replace U10 := Lib.hid (U10.out.next hb)
  clear hb
  have hl0 := U6.out.now.cell
  have hl1 := U2.out.now.cell
  go_wp2_with fail
  clear hl0 hl1
  (with_reducible refine (containsY (gr_has a i) U6.out.now.1 U2.out.now.1).mono ?_)
  rintro e w13 ⟨rfl, hb⟩
  replace HU := Lib.hid (HU.out.next hb)
  replace UX := Lib.hid (UX.out.next hb)
  replace UY := Lib.hid (UY.out.next hb)
  replace U2 := Lib.hid (U2.out.next hb)
  replace U3 := Lib.hid (U3.out.next hb)
  replace U6 := Lib.hid (U6.out.next hb)
  replace U7 := Lib.hid (U7.out.next hb)
  replace U8 := Lib.hid (U8.out.next hb)
  replace U9 := Lib.hid (U9.out.next hb)
  replace U10 := Lib.hid (U10.out.next hb)
  clear hb
  have hl0 := U3.out.now.cell
  go_wp2_with fail
  clear hl0
  (with_reducible refine (grownV i hi.out.1 U3.out.now.1).mono ?_)
  rintro e w14 ⟨b14, o14, c14, rfl, hs, hb⟩
  replace HU := Lib.hid (HU.out.next hb)
  replace UX := Lib.hid (UX.out.next hb)
  replace UY := Lib.hid (UY.out.next hb)
  replace U2 := Lib.hid (U2.out.next hb)
  replace U3 := Lib.hid (U3.out.next hb)
  replace U6 := Lib.hid (U6.out.next hb)
  replace U7 := Lib.hid (U7.out.next hb)
  replace U8 := Lib.hid (U8.out.next hb)
  replace U9 := Lib.hid (U9.out.next hb)
  replace U10 := Lib.hid (U10.out.next hb)
  obtain ⟨x14, B14, e1, e2, hb2, hk⟩ := box1 w14 #[.slice (some ⟨b14, o14, none⟩) 24 c14] 25
  have U14 := Lib.hid (up_va (Sl.below hs (Nat.le_refl _) hb2) hk : Up x14 (VA B14 b14 o14 c14 (grown b i)))
  replace HU := Lib.hid (HU.out.next hb2)
  replace UX := Lib.hid (UX.out.next hb2)
  replace UY := Lib.hid (UY.out.next hb2)
  replace U2 := Lib.hid (U2.out.next hb2)
  replace U3 := Lib.hid (U3.out.next hb2)
  replace U6 := Lib.hid (U6.out.next hb2)
  replace U7 := Lib.hid (U7.out.next hb2)
  replace U8 := Lib.hid (U8.out.next hb2)
  replace U9 := Lib.hid (U9.out.next hb2)
  replace U10 := Lib.hid (U10.out.next hb2)
  clear hs hb hb2 hk
  have hl0 := U10.out.now.cell
  go_wp2_with fail
  clear e1 e2
  clear hl0
  (with_reducible refine (grownV i hi.out.1 U10.out.now.1).mono ?_)
  rintro e w15 ⟨b15, o15, c15, rfl, hs, hb⟩
  replace HU := Lib.hid (HU.out.next hb)
  replace UX := Lib.hid (UX.out.next hb)
  replace UY := Lib.hid (UY.out.next hb)
  replace U2 := Lib.hid (U2.out.next hb)
  replace U3 := Lib.hid (U3.out.next hb)
  replace U6 := Lib.hid (U6.out.next hb)
  replace U7 := Lib.hid (U7.out.next hb)
  replace U8 := Lib.hid (U8.out.next hb)
  replace U9 := Lib.hid (U9.out.next hb)
  replace U10 := Lib.hid (U10.out.next hb)
  replace U14 := Lib.hid (U14.out.next hb)
  obtain ⟨x15, B15, e1, e2, hb2, hk⟩ := box1 w15 #[.slice (some ⟨b15, o15, none⟩) 24 c15] 25
  have U15 := Lib.hid (up_va (Sl.below hs (Nat.le_refl _) hb2) hk : Up x15 (VA B15 b15 o15 c15 (grown (orA a b) i)))
  replace HU := Lib.hid (HU.out.next hb2)
  replace UX := Lib.hid (UX.out.next hb2)
  replace UY := Lib.hid (UY.out.next hb2)
  replace U2 := Lib.hid (U2.out.next hb2)
  replace U3 := Lib.hid (U3.out.next hb2)
  replace U6 := Lib.hid (U6.out.next hb2)
  replace U7 := Lib.hid (U7.out.next hb2)
  replace U8 := Lib.hid (U8.out.next hb2)
  replace U9 := Lib.hid (U9.out.next hb2)
  replace U10 := Lib.hid (U10.out.next hb2)
  replace U14 := Lib.hid (U14.out.next hb2)
  clear hs hb hb2 hk
  have hl0 := U6.out.now.cell
  have hl1 := U14.out.now.cell
  go_wp2_with fail
  clear e1 e2
  clear hl0 hl1
  (with_reducible refine (unionV U6.out.now.1 U14.out.now.1).mono ?_)
  rintro e w16 ⟨b16, o16, c16, rfl, hs, hb⟩
  replace HU := Lib.hid (HU.out.next hb)
  replace UX := Lib.hid (UX.out.next hb)
  replace UY := Lib.hid (UY.out.next hb)
  replace U2 := Lib.hid (U2.out.next hb)
  replace U3 := Lib.hid (U3.out.next hb)
  replace U6 := Lib.hid (U6.out.next hb)
  replace U7 := Lib.hid (U7.out.next hb)
  replace U8 := Lib.hid (U8.out.next hb)
  replace U9 := Lib.hid (U9.out.next hb)
  replace U10 := Lib.hid (U10.out.next hb)
  replace U14 := Lib.hid (U14.out.next hb)
  replace U15 := Lib.hid (U15.out.next hb)
  obtain ⟨x16, B16, e1, e2, hb2, hk⟩ := box1 w16 #[.slice (some ⟨b16, o16, none⟩) 24 c16] 25
  have U16 := Lib.hid (up_va (Sl.below hs (Nat.le_refl _) hb2) hk : Up x16 (VA B16 b16 o16 c16 (orA (grown a i) (grown b i))))
  replace HU := Lib.hid (HU.out.next hb2)
  replace UX := Lib.hid (UX.out.next hb2)
  replace UY := Lib.hid (UY.out.next hb2)
  replace U2 := Lib.hid (U2.out.next hb2)
  replace U3 := Lib.hid (U3.out.next hb2)
  replace U6 := Lib.hid (U6.out.next hb2)
  replace U7 := Lib.hid (U7.out.next hb2)
  replace U8 := Lib.hid (U8.out.next hb2)
  replace U9 := Lib.hid (U9.out.next hb2)
  replace U10 := Lib.hid (U10.out.next hb2)
  replace U14 := Lib.hid (U14.out.next hb2)
  replace U15 := Lib.hid (U15.out.next hb2)
  clear hs hb hb2 hk
  have hl0 := U15.out.now.cell
  have hl1 := U16.out.now.cell
  go_wp2_with fail
  clear e1 e2
  clear hl0 hl1
  (with_reducible refine (rsameV (grown_or a b i) U15.out.now.1 U16.out.now.1).mono ?_)
  rintro e w17 ⟨rfl, hb⟩
  replace HU := Lib.hid (HU.out.next hb)
  replace UX := Lib.hid (UX.out.next hb)
  replace UY := Lib.hid (UY.out.next hb)
  replace U2 := Lib.hid (U2.out.next hb)
  replace U3 := Lib.hid (U3.out.next hb)
  replace U6 := Lib.hid (U6.out.next hb)
  replace U7 := Lib.hid (U7.out.next hb)
  replace U8 := Lib.hid (U8.out.next hb)
  replace U9 := Lib.hid (U9.out.next hb)
  replace U10 := Lib.hid (U10.out.next hb)
  replace U14 := Lib.hid (U14.out.next hb)
  replace U15 := Lib.hid (U15.out.next hb)
  replace U16 := Lib.hid (U16.out.next hb)
  clear hb
  have hl0 := U15.out.now.cell
  have hl1 := U6.out.now.cell
  go_wp2_with fail
  clear hl0 hl1
  (with_reducible refine (containsY (gr_or a b i) U15.out.now.1 U6.out.now.1).mono ?_)
  rintro e w18 ⟨rfl, hb⟩
  replace HU := Lib.hid (HU.out.next hb)
  replace UX := Lib.hid (UX.out.next hb)
  replace UY := Lib.hid (UY.out.next hb)
  replace U2 := Lib.hid (U2.out.next hb)
  replace U3 := Lib.hid (U3.out.next hb)
  replace U6 := Lib.hid (U6.out.next hb)
  replace U7 := Lib.hid (U7.out.next hb)
  replace U8 := Lib.hid (U8.out.next hb)
  replace U9 := Lib.hid (U9.out.next hb)
  replace U10 := Lib.hid (U10.out.next hb)
  replace U14 := Lib.hid (U14.out.next hb)
  replace U15 := Lib.hid (U15.out.next hb)
  replace U16 := Lib.hid (U16.out.next hb)
  clear hb
  go_wp2
  go_ret
  exact ⟨rfl, HU.out.now.1⟩
end Go.Proofs.YtipfafglbkbafaaDoor
