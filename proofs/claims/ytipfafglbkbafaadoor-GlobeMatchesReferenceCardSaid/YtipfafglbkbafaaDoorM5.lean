/- GlobeMatchesReference: the regions 57, each by itself. -/
import Derived.Deep.RegionHeld3
import Derived.Test.YtipfafglbkbafaaDoorMk
namespace Go.Proofs.YtipfafglbkbafaaDoor
open Go.RowKit Go.Shelf
set_option linter.unusedVariables false
set_option linter.unusedSimpArgs false
open List (getElem_toArray getElem_cons_zero getElem_cons_succ setIfInBounds_toArray set_cons_zero set_cons_succ)
set_option maxRecDepth 100000 in
set_option maxHeartbeats 4000000 in
theorem rg_57 {c : Code} {L : List Value} {Q : Exit → Act → World → Prop} {w : World} {L0 ia ka : Nat} {alA : Option Addr} {nlA clA : Nat} {zlA : List Int} {alK : Option Addr} {nlK clK : Nat} {zlK : List Int} {eu em el : Int} {ru rm rls : List Int} {rct rsm : Bool} {PM : Nat} {alM : Option Addr} {nM cM : Nat} {PP : Nat} {alP : Option Addr} {nP cP : Nat} {PQ : Nat} {alQ : Option Addr} {nQ cQ : Nat} {PR : Nat} {alR : Option Addr} {nR cR : Nat} {PS : Nat} {alS : Option Addr} {nS cS : Nat} {PT : Nat} {alT : Option Addr} {nT cT : Nat} (hc : c = rg 57) (hpan : ∀ c a d v w, Q (.panic c) (a.put d v) w → Q (.panic c) a w) (hL : L.length = 528) (e17 : L.getD 17 undef = .slice (some ⟨L0, 0, none⟩) 4 4) (e27 : L.getD 27 undef = .int .i64 ia) (e43 : L.getD 43 undef = .int .i64 ka) (e44 : L.getD 44 undef = .pointer (some ⟨PM, 0, none⟩)) (e45 : L.getD 45 undef = .int .i64 eu) (e46 : L.getD 46 undef = .pointer (some ⟨PP, 0, none⟩)) (e47 : L.getD 47 undef = .int .i64 eu) (e48 : L.getD 48 undef = .pointer (some ⟨PQ, 0, none⟩)) (e49 : L.getD 49 undef = .int .i64 em) (e50 : L.getD 50 undef = .pointer (some ⟨PR, 0, none⟩)) (e51 : L.getD 51 undef = .int .i64 em) (e52 : L.getD 52 undef = .pointer (some ⟨PS, 0, none⟩)) (e53 : L.getD 53 undef = .int .i64 el) (e54 : L.getD 54 undef = .pointer (some ⟨PT, 0, none⟩)) (e55 : L.getD 55 undef = .int .i64 el)
    (ia0 : (0 : Int) ≤ ia)
    (ia1 : (ia : Int) < 4)
    (ka0 : (0 : Int) ≤ ka)
    (ka1 : (ka : Int) < 4)
    (Y1 : ∀ w, Sl w alA nlA zlA → Sl w alK nlK zlK → Calls Tryd.prog 43 #[.agg #[.slice alA nlA clA], .agg #[.slice alK nlK clK]] w (OutV w (.bool rct)))
    (Y2 : ∀ w, Sl w alA nlA zlA → Sl w alK nlK zlK → Calls Tryd.prog 44 #[.agg #[.slice alA nlA clA], .agg #[.slice alK nlK clK]] w (OutV w (.bool rct)))
    (Z1 : ∀ w, Sl w alA nlA zlA → Sl w alK nlK zlK → Calls Tryd.prog 45 #[.agg #[.slice alA nlA clA], .agg #[.slice alK nlK clK]] w (OutV w (.bool rsm)))
    (Z2 : ∀ w, Sl w alA nlA zlA → Sl w alK nlK zlK → Calls Tryd.prog 21 #[.agg #[.slice alA nlA clA], .agg #[.slice alK nlK clK]] w (OutV w (.bool rsm)))
    (UAA : Up w (fun W => W.cell? ⟨L0, ia, none⟩ = some (.slice alA nlA clA) ∧ Sl W alA nlA zlA))
    (UAK : Up w (fun W => W.cell? ⟨L0, ka, none⟩ = some (.slice alK nlK clK) ∧ Sl W alK nlK zlK))
    (UM : Up w (VG PM alM nM cM ru))
    (UP : Up w (VG PP alP nP cP ru))
    (UQ : Up w (VG PQ alQ nQ cQ rm))
    (UR : Up w (VG PR alR nR cR rm))
    (US : Up w (VG PS alS nS cS rls))
    (UT : Up w (VG PT alT nT cT rls))
    (hQ : ∀ (g : Nat → Value) (W : World), Same (fun i => (decide (449 ≤ i) && decide (i ≤ 521))) (fun n => L.getD n undef) g → g 521 = .bool false → Below w.heap.size w W → Q .normal ⟨(fr528 g).toArray, []⟩ W) : c.wp Tryd.prog Q ⟨L.toArray, []⟩ w := by
  have key : ∀ (L' : List Value) (W : World), L' = msk (fun i => (decide (449 ≤ i) && decide (i ≤ 521))) (fun n => L'.getD n undef) 0 L → (fun n => L'.getD n undef) 521 = .bool false → Below w.heap.size w W → Q .normal ⟨L'.toArray, []⟩ W := fun L' W  h1 a0 a1 => by
    have h3 := hQ (fun n => L'.getD n undef) W  (same_msk hL h1).2 a0 a1
    rw [← fr_self (same_msk hL h1).1] at h3
    exact h3
  clear hQ
  replace hL := fr_self hL
  generalize hf : (fun n => L.getD n undef) = fr at hL
  have f17 : fr 17 = .slice (some ⟨L0, 0, none⟩) 4 4 := by rw [← hf]; exact e17
  have f27 : fr 27 = .int .i64 ia := by rw [← hf]; exact e27
  have f43 : fr 43 = .int .i64 ka := by rw [← hf]; exact e43
  have f44 : fr 44 = .pointer (some ⟨PM, 0, none⟩) := by rw [← hf]; exact e44
  have f45 : fr 45 = .int .i64 eu := by rw [← hf]; exact e45
  have f46 : fr 46 = .pointer (some ⟨PP, 0, none⟩) := by rw [← hf]; exact e46
  have f47 : fr 47 = .int .i64 eu := by rw [← hf]; exact e47
  have f48 : fr 48 = .pointer (some ⟨PQ, 0, none⟩) := by rw [← hf]; exact e48
  have f49 : fr 49 = .int .i64 em := by rw [← hf]; exact e49
  have f50 : fr 50 = .pointer (some ⟨PR, 0, none⟩) := by rw [← hf]; exact e50
  have f51 : fr 51 = .int .i64 em := by rw [← hf]; exact e51
  have f52 : fr 52 = .pointer (some ⟨PS, 0, none⟩) := by rw [← hf]; exact e52
  have f53 : fr 53 = .int .i64 el := by rw [← hf]; exact e53
  have f54 : fr 54 = .pointer (some ⟨PT, 0, none⟩) := by rw [← hf]; exact e54
  have f55 : fr 55 = .int .i64 el := by rw [← hf]; exact e55
  clear hf e17 e27 e43 e44 e45 e46 e47 e48 e49 e50 e51 e52 e53 e54 e55
  subst hc hL
  unfold fr528 at key ⊢
  simp only [f17, f27, f43, f44, f45, f46, f47, f48, f49, f50, f51, f52, f53, f54, f55] at key ⊢
  clear f17 f27 f43 f44 f45 f46 f47 f48 f49 f50 f51 f52 f53 f54 f55
  have KEY := Lib.hid key
  clear key
  replace ia0 := Lib.hid ia0
  replace ia1 := Lib.hid ia1
  replace ka0 := Lib.hid ka0
  replace ka1 := Lib.hid ka1
  replace Y1 := Lib.hid Y1
  replace Y2 := Lib.hid Y2
  replace Z1 := Lib.hid Z1
  replace Z2 := Lib.hid Z2
  replace UAA := Lib.hid UAA
  replace UAK := Lib.hid UAK
  replace UM := Lib.hid UM
  replace UP := Lib.hid UP
  replace UQ := Lib.hid UQ
  replace UR := Lib.hid UR
  replace US := Lib.hid US
  replace UT := Lib.hid UT
  conv => arg 2; whnf
  try (conv => arg 2; arg 2; simp only [List.append])
  replace ia0 := ia0.out
  replace ia1 := ia1.out
  replace ka0 := ka0.out
  replace ka1 := ka1.out
  have UBL := Lib.hid (up_bl w)
  have hBB : Below w.heap.size w w.drew := (Below.refl _ _).drew
  go_region_held3 (fun w' => w'.cell? ⟨L0, ia, none⟩ = some (.slice alA nlA clA) ∧ w'.cell? ⟨L0, ka, none⟩ = some (.slice alK nlK clK) ∧ w'.cell? ⟨PM, 0, none⟩ = some (.slice alM nM cM) ∧ w'.cell? ⟨PP, 0, none⟩ = some (.slice alP nP cP) ∧ w'.cell? ⟨PQ, 0, none⟩ = some (.slice alQ nQ cQ) ∧ w'.cell? ⟨PR, 0, none⟩ = some (.slice alR nR cR) ∧ w'.cell? ⟨PS, 0, none⟩ = some (.slice alS nS cS) ∧ w'.cell? ⟨PT, 0, none⟩ = some (.slice alT nT cT)) (exact ⟨(UAA.out.at hBB).1, (UAK.out.at hBB).1, (UM.out.at hBB).cell, (UP.out.at hBB).cell, (UQ.out.at hBB).cell, (UR.out.at hBB).cell, (US.out.at hBB).cell, (UT.out.at hBB).cell⟩) (first | (go_at_call 21; (with_reducible refine (rsame_eq (UM.out.at hBB).1 (UP.out.at hBB).1).mono ?_); rintro e w97 ⟨rfl, hb⟩; replace hBB := hBB.trans (hb.mono hBB.size); clear hb) | (go_at_call 21; (with_reducible refine (rsame_eq (UQ.out.at hBB).1 (UR.out.at hBB).1).mono ?_); rintro e w98 ⟨rfl, hb⟩; replace hBB := hBB.trans (hb.mono hBB.size); clear hb) | (go_at_call 21; (with_reducible refine (rsame_eq (US.out.at hBB).1 (UT.out.at hBB).1).mono ?_); rintro e w99 ⟨rfl, hb⟩; replace hBB := hBB.trans (hb.mono hBB.size); clear hb) | (go_at_call 43; (with_reducible refine (Y1.out _ (UAA.out.at hBB).2 (UAK.out.at hBB).2).mono ?_); rintro e w100 ⟨rfl, hb⟩; replace hBB := hBB.trans (hb.mono hBB.size); clear hb) | (go_at_call 44; (with_reducible refine (Y2.out _ (UAA.out.at hBB).2 (UAK.out.at hBB).2).mono ?_); rintro e w101 ⟨rfl, hb⟩; replace hBB := hBB.trans (hb.mono hBB.size); clear hb) | (go_at_call 45; (with_reducible refine (Z1.out _ (UAA.out.at hBB).2 (UAK.out.at hBB).2).mono ?_); rintro e w102 ⟨rfl, hb⟩; replace hBB := hBB.trans (hb.mono hBB.size); clear hb) | (go_at_call 21; (with_reducible refine (Z2.out _ (UAA.out.at hBB).2 (UAK.out.at hBB).2).mono ?_); rintro e w103 ⟨rfl, hb⟩; replace hBB := hBB.trans (hb.mono hBB.size); clear hb))
  replace UAA := Lib.hid (UAA.out.next hBB)
  replace UAK := Lib.hid (UAK.out.next hBB)
  replace UM := Lib.hid (UM.out.next hBB)
  replace UP := Lib.hid (UP.out.next hBB)
  replace UQ := Lib.hid (UQ.out.next hBB)
  replace UR := Lib.hid (UR.out.next hBB)
  replace US := Lib.hid (US.out.next hBB)
  replace UT := Lib.hid (UT.out.next hBB)
  replace UBL := Lib.hid (UBL.out.next hBB)
  clear hBB
  exact KEY.out _ _ (by kernel_rfl) (by first | kernel_rfl | simp) UBL.out.now
end Go.Proofs.YtipfafglbkbafaaDoor
