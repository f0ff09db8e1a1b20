/- The reference's Union, Meet, Less, Contains, With. -/
import Derived.Laws.AppendOwn
import Derived.Laws.OwnMore
import Derived.Test.YtipfafglbkbafaaDoorRj
namespace Go.Proofs.YtipfafglbkbafaaDoor
open Go.RowKit Go.Shelf
set_option linter.unusedVariables false
set_option linter.unusedSimpArgs false
theorem rjoined_any (jb : Ar → Ar → Ar) (t0 t1 t2 t3 : Bool) (hj : ∀ f g, jn t0 t1 t2 t3 f g = jb f g) (al : Option Addr) (n c : Nat) (zs : List Int) (oa : Option Ar) (hO : Is zs oa) (bl : Option Addr) (m d : Nat) (ys : List Int) (ob : Option Ar) (hP : Is ys ob) (w : World) (h : Sl w al n zs) (h' : Sl w bl m ys) :
    Calls Tryd.prog 65 #[.agg #[.slice al n c], .agg #[.slice bl m d], .agg #[.bool t0, .bool t1, .bool t2, .bool t3]] w (OutA w (both jb oa ob)) := by
  cases oa with
  | none => exact joined_no1 al n c zs hO bl m d t0 t1 t2 t3 w h
  | some f =>
    obtain rfl : zs = rz f := hO
    obtain ⟨rfl, b, o, rfl, hb, hc⟩ := SA.parts h
    cases ob with
    | none => exact joined_no2 b o c f bl m d ys hP t0 t1 t2 t3 w h h'
    | some g =>
      obtain rfl : ys = rz g := hP
      obtain ⟨rfl, b', o', rfl, hb', hc'⟩ := SA.parts h'
      rw [show both jb (some f) (some g) = some (jn t0 t1 t2 t3 f g) from by rw [hj]; rfl]
      exact joined_yes b o c f b' o' d g t0 t1 t2 t3 w h h'
theorem jn_orA (f g : Ar) : jn false true true true f g = orA f g := by funext x y; unfold jn orA; cases f x y <;> cases g x y <;> rfl
theorem jn_andA (f g : Ar) : jn false false false true f g = andA f g := by funext x y; unfold jn andA; cases f x y <;> cases g x y <;> rfl
theorem jn_lessA (f g : Ar) : jn false false true false f g = lessA f g := by funext x y; unfold jn lessA; cases f x y <;> cases g x y <;> rfl
set_option maxRecDepth 100000 in
set_option maxHeartbeats 1000000 in
theorem rUnion_any (al : Option Addr) (n c : Nat) (zs : List Int) (oa : Option Ar) (hO : Is zs oa) (bl : Option Addr) (m d : Nat) (ys : List Int) (ob : Option Ar) (hP : Is ys ob) (w : World) (h : Sl w al n zs) (h' : Sl w bl m ys) :
    Calls Tryd.prog 38 #[.agg #[.slice al n c], .agg #[.slice bl m d]] w (OutA w (both orA oa ob)) := by
  obtain ⟨v1, Ba, eA1, eB1, hb1, hk1⟩ := box1 w #[.slice al n c] 25
  obtain ⟨v2, Bb, eA2, eB2, hb2, hk2⟩ := box1 v1 #[.slice bl m d] 25
  obtain ⟨v3, Bp, eA3, eB3, hb3, hk3⟩ := box1 v2 #[.slice none 0 0] 25
  have UB := Lib.hid ((((up_bl w).next hb1).next hb2).next hb3)
  have UA := Lib.hid (((up_vg (Sl.below h (Nat.le_refl _) ((up_bl w).next hb1).now) hk1).next hb2).next hb3)
  have UBB := Lib.hid ((up_vg (Sl.below h' (Nat.le_refl _) (((up_bl w).next hb1).next hb2).now) hk2).next hb3)
  have UP := Lib.hid (up_vr hk3 : Up v3 (VR Bp #[.slice none 0 0] 25))
  have HP := Lib.hid (show w.heap.size ≤ Bp from by rw [← eB3]; exact (((up_bl w).next hb1).next hb2).now.size)
  clear h h' hb1 hb2 hb3 hk1 hk2 hk3
  have HN := Lib.hid (And.intro hO hP)
  clear hO hP
  go_enter Tryd.func38, Tryd.ntmps38
  have hl0 := UA.out.now.cell
  have hl1 := UBB.out.now.cell
  go_wp2_with fail
  clear eA1 eB1 eA2 eB2 eA3 eB3
  clear hl0 hl1
  have HB2 := Lib.hid UB.out.now
  have HP2 := Lib.hid (Array.getElem?_eq_some_iff.1 UP.out.now).1
  (with_reducible refine (rjoined_any orA false true true true jn_orA _ _ _ _ _ HN.out.1 _ _ _ _ _ HN.out.2 _ UA.out.now.1 UBB.out.now.1).mono ?_)
  rintro e w9 ⟨rl, rn, rc, rfl, hs, hf, hb⟩
  have UPx := Lib.hid (UP.out.next hb)
  have HS := Lib.hid (And.intro hs (And.intro hf hb))
  clear hs hf hb UA UBB UB UP HN
  have dP := (row_cell UPx.out.now 0).trans (show _ = some (.slice none 0 0) from rfl)
  have fP := frozen_of_row _ Bp 0 _ _ UPx.out.now
  go_wp2
  exact bodyPost_ret (v := .tuple #[.agg #[.slice rl rn rc], .int .i64 (er (both orA oa ob))]) (by simp [results, Tryd.results38, go_sem, dP]) rfl (OutA.put HS.out.1 HS.out.2.1 HB2.out HS.out.2.2 HP.out HP2.out)
set_option maxRecDepth 100000 in
set_option maxHeartbeats 1000000 in
theorem rMeet_any (al : Option Addr) (n c : Nat) (zs : List Int) (oa : Option Ar) (hO : Is zs oa) (bl : Option Addr) (m d : Nat) (ys : List Int) (ob : Option Ar) (hP : Is ys ob) (w : World) (h : Sl w al n zs) (h' : Sl w bl m ys) :
    Calls Tryd.prog 40 #[.agg #[.slice al n c], .agg #[.slice bl m d]] w (OutA w (both andA oa ob)) := by
  obtain ⟨v1, Ba, eA1, eB1, hb1, hk1⟩ := box1 w #[.slice al n c] 25
  obtain ⟨v2, Bb, eA2, eB2, hb2, hk2⟩ := box1 v1 #[.slice bl m d] 25
  obtain ⟨v3, Bp, eA3, eB3, hb3, hk3⟩ := box1 v2 #[.slice none 0 0] 25
  have UB := Lib.hid ((((up_bl w).next hb1).next hb2).next hb3)
  have UA := Lib.hid (((up_vg (Sl.below h (Nat.le_refl _) ((up_bl w).next hb1).now) hk1).next hb2).next hb3)
  have UBB := Lib.hid ((up_vg (Sl.below h' (Nat.le_refl _) (((up_bl w).next hb1).next hb2).now) hk2).next hb3)
  have UP := Lib.hid (up_vr hk3 : Up v3 (VR Bp #[.slice none 0 0] 25))
  have HP := Lib.hid (show w.heap.size ≤ Bp from by rw [← eB3]; exact (((up_bl w).next hb1).next hb2).now.size)
  clear h h' hb1 hb2 hb3 hk1 hk2 hk3
  have HN := Lib.hid (And.intro hO hP)
  clear hO hP
  go_enter Tryd.func40, Tryd.ntmps40
  have hl0 := UA.out.now.cell
  have hl1 := UBB.out.now.cell
  go_wp2_with fail
  clear eA1 eB1 eA2 eB2 eA3 eB3
  clear hl0 hl1
  have HB2 := Lib.hid UB.out.now
  have HP2 := Lib.hid (Array.getElem?_eq_some_iff.1 UP.out.now).1
  (with_reducible refine (rjoined_any andA false false false true jn_andA _ _ _ _ _ HN.out.1 _ _ _ _ _ HN.out.2 _ UA.out.now.1 UBB.out.now.1).mono ?_)
  rintro e w9 ⟨rl, rn, rc, rfl, hs, hf, hb⟩
  have UPx := Lib.hid (UP.out.next hb)
  have HS := Lib.hid (And.intro hs (And.intro hf hb))
  clear hs hf hb UA UBB UB UP HN
  have dP := (row_cell UPx.out.now 0).trans (show _ = some (.slice none 0 0) from rfl)
  have fP := frozen_of_row _ Bp 0 _ _ UPx.out.now
  go_wp2
  exact bodyPost_ret (v := .tuple #[.agg #[.slice rl rn rc], .int .i64 (er (both andA oa ob))]) (by simp [results, Tryd.results40, go_sem, dP]) rfl (OutA.put HS.out.1 HS.out.2.1 HB2.out HS.out.2.2 HP.out HP2.out)
set_option maxRecDepth 100000 in
set_option maxHeartbeats 1000000 in
theorem rLess_any (al : Option Addr) (n c : Nat) (zs : List Int) (oa : Option Ar) (hO : Is zs oa) (bl : Option Addr) (m d : Nat) (ys : List Int) (ob : Option Ar) (hP : Is ys ob) (w : World) (h : Sl w al n zs) (h' : Sl w bl m ys) :
    Calls Tryd.prog 42 #[.agg #[.slice al n c], .agg #[.slice bl m d]] w (OutA w (both lessA oa ob)) := by
  obtain ⟨v1, Ba, eA1, eB1, hb1, hk1⟩ := box1 w #[.slice al n c] 25
  obtain ⟨v2, Bb, eA2, eB2, hb2, hk2⟩ := box1 v1 #[.slice bl m d] 25
  obtain ⟨v3, Bp, eA3, eB3, hb3, hk3⟩ := box1 v2 #[.slice none 0 0] 25
  have UB := Lib.hid ((((up_bl w).next hb1).next hb2).next hb3)
  have UA := Lib.hid (((up_vg (Sl.below h (Nat.le_refl _) ((up_bl w).next hb1).now) hk1).next hb2).next hb3)
  have UBB := Lib.hid ((up_vg (Sl.below h' (Nat.le_refl _) (((up_bl w).next hb1).next hb2).now) hk2).next hb3)
  have UP := Lib.hid (up_vr hk3 : Up v3 (VR Bp #[.slice none 0 0] 25))
  have HP := Lib.hid (show w.heap.size ≤ Bp from by rw [← eB3]; exact (((up_bl w).next hb1).next hb2).now.size)
  clear h h' hb1 hb2 hb3 hk1 hk2 hk3
  have HN := Lib.hid (And.intro hO hP)
  clear hO hP
  go_enter Tryd.func42, Tryd.ntmps42
  have hl0 := UA.out.now.cell
  have hl1 := UBB.out.now.cell
  go_wp2_with fail
  clear eA1 eB1 eA2 eB2 eA3 eB3
  clear hl0 hl1
  have HB2 := Lib.hid UB.out.now
  have HP2 := Lib.hid (Array.getElem?_eq_some_iff.1 UP.out.now).1
  (with_reducible refine (rjoined_any lessA false false true false jn_lessA _ _ _ _ _ HN.out.1 _ _ _ _ _ HN.out.2 _ UA.out.now.1 UBB.out.now.1).mono ?_)
  rintro e w9 ⟨rl, rn, rc, rfl, hs, hf, hb⟩
  have UPx := Lib.hid (UP.out.next hb)
  have HS := Lib.hid (And.intro hs (And.intro hf hb))
  clear hs hf hb UA UBB UB UP HN
  have dP := (row_cell UPx.out.now 0).trans (show _ = some (.slice none 0 0) from rfl)
  have fP := frozen_of_row _ Bp 0 _ _ UPx.out.now
  go_wp2
  exact bodyPost_ret (v := .tuple #[.agg #[.slice rl rn rc], .int .i64 (er (both lessA oa ob))]) (by simp [results, Tryd.results42, go_sem, dP]) rfl (OutA.put HS.out.1 HS.out.2.1 HB2.out HS.out.2.2 HP.out HP2.out)
theorem rless_as {o : Option Ar} {oa ob : Option Ar} (ho : both lessA ob oa = o) {al bl : Option Addr} {n c m d : Nat} {zs ys : List Int} (hP : Is ys ob) (hO : Is zs oa) {w : World} (h' : Sl w bl m ys) (h : Sl w al n zs) :
    Calls Tryd.prog 42 #[.agg #[.slice bl m d], .agg #[.slice al n c]] w (OutA w o) := ho ▸ rLess_any bl m d ys ob hP al n c zs oa hO w h' h
theorem rcount_as {p : Ar} {k : Nat} (hk : count p = k) {al : Option Addr} {n c : Nat} {w : World} (h : Sl w al n (rz p)) : Calls Tryd.prog 25 #[.agg #[.slice al n c]] w (OutV w (.int .i64 (k : Nat))) :=
  (rCount_any al n c (rz p) (some p) rfl w h).mono (OutV.as (by rw [show count (of (some p)) = k from hk]))
theorem count_as {f g : Ar} {k : Nat} {q : Bool} (hk : count (lessA g f) = k) (hq : (rowsOf (andA f g) == rowsOf g) = q) : ((k : Int) == 0) = q := by
  rw [← hq, contains_count, hk, Bool.eq_iff_iff, beq_iff_eq, decide_eq_true_eq]; omega
set_option maxRecDepth 100000 in
set_option maxHeartbeats 1000000 in
theorem rcont_yes (al : Option Addr) (n c : Nat) (zs : List Int) (f : Ar) (hO : Is zs (some f)) (bl : Option Addr) (m d : Nat) (ys : List Int) (g : Ar) (hP : Is ys (some g)) (w : World) (h : Sl w al n zs) (h' : Sl w bl m ys) :
    Calls Tryd.prog 44 #[.agg #[.slice al n c], .agg #[.slice bl m d]] w (OutV w (.bool (rowsOf (andA f g) == rowsOf g))) := by
  obtain ⟨v1, Ba, eA1, eB1, hb1, hk1⟩ := box1 w #[.slice al n c] 25
  obtain ⟨v2, Bb, eA2, eB2, hb2, hk2⟩ := box1 v1 #[.slice bl m d] 25
  have UB := Lib.hid (((up_bl w).next hb1).next hb2)
  have UA := Lib.hid ((up_vg (Sl.below h (Nat.le_refl _) ((up_bl w).next hb1).now) hk1).next hb2)
  have UBB := Lib.hid (up_vg (Sl.below h' (Nat.le_refl _) (((up_bl w).next hb1).next hb2).now) hk2)
  clear h h' hb1 hb2 hk1 hk2
  obtain ⟨p, hp⟩ : ∃ p, lessA g f = p := ⟨_, rfl⟩
  have HN := Lib.hid (And.intro hO (And.intro hP (show both lessA (some g) (some f) = some p from by rw [← hp]; rfl)))
  have HPP := Lib.hid hp
  clear hp
  clear hO hP
  go_enter Tryd.func44, Tryd.ntmps44
  have hl0 := UBB.out.now.cell
  have hl1 := UA.out.now.cell
  go_wp2_with fail
  clear eA1 eB1 eA2 eB2
  clear hl0 hl1
  (with_reducible refine (rless_as HN.out.2.2 HN.out.2.1 HN.out.1 UBB.out.now.1 UA.out.now.1).mono ?_)
  rintro e w9 ⟨rl, rn, rc, rfl, hs, hf, hb⟩
  replace UB := Lib.hid (UB.out.next hb)
  replace UA := Lib.hid (UA.out.next hb)
  replace UBB := Lib.hid (UBB.out.next hb)
  obtain ⟨x9, B, e1, e2, hb2, hk⟩ := box1 w9 #[.slice rl rn rc] 25
  replace hs : Sl w9 rl rn (rz p) := hs
  have h0 : er (some p) = 0 := rfl
  have UR := Lib.hid (up_vg (Sl.below hs (Nat.le_refl _) hb2) hk)
  replace UB := Lib.hid (UB.out.next hb2)
  replace UA := Lib.hid (UA.out.next hb2)
  replace UBB := Lib.hid (UBB.out.next hb2)
  clear hs hf hb hb2 hk
  have cR := UR.out.now.cell
  obtain ⟨q, hq⟩ : ∃ q, (rowsOf (andA f g) == rowsOf g) = q := ⟨_, rfl⟩
  have HQ := Lib.hid hq
  clear hq
  go_wp2_with fail
  clear e1 e2 cR h0
  obtain ⟨k, hk⟩ : ∃ k, count p = k := ⟨_, rfl⟩
  have HK := Lib.hid (count_as ((congrArg count HPP.out).trans hk) HQ.out)
  (with_reducible refine (rcount_as hk UR.out.now.1).mono ?_)
  rintro e w3 ⟨rfl, hb⟩
  replace UB := Lib.hid (UB.out.next hb)
  replace UA := Lib.hid (UA.out.next hb)
  replace UBB := Lib.hid (UBB.out.next hb)
  replace UR := Lib.hid (UR.out.next hb)
  clear hb
  clear hk
  have hz := HK.out
  go_wp2
  go_ret
  exact ⟨ret_bool' HQ.out.symm, UB.out.now⟩
set_option maxRecDepth 100000 in
set_option maxHeartbeats 1000000 in
theorem rcont_no (al : Option Addr) (n c : Nat) (zs : List Int) (oa : Option Ar) (hO : Is zs oa) (bl : Option Addr) (m d : Nat) (ys : List Int) (ob : Option Ar) (hP : Is ys ob) (hn : both lessA ob oa = none) (w : World) (h : Sl w al n zs) (h' : Sl w bl m ys) :
    Calls Tryd.prog 44 #[.agg #[.slice al n c], .agg #[.slice bl m d]] w (OutV w (.bool false)) := by
  obtain ⟨v1, Ba, eA1, eB1, hb1, hk1⟩ := box1 w #[.slice al n c] 25
  obtain ⟨v2, Bb, eA2, eB2, hb2, hk2⟩ := box1 v1 #[.slice bl m d] 25
  have UB := Lib.hid (((up_bl w).next hb1).next hb2)
  have UA := Lib.hid ((up_vg (Sl.below h (Nat.le_refl _) ((up_bl w).next hb1).now) hk1).next hb2)
  have UBB := Lib.hid (up_vg (Sl.below h' (Nat.le_refl _) (((up_bl w).next hb1).next hb2).now) hk2)
  clear h h' hb1 hb2 hk1 hk2
  have HN := Lib.hid (And.intro hO (And.intro hP hn))
  clear hO hP hn
  go_enter Tryd.func44, Tryd.ntmps44
  have hl0 := UBB.out.now.cell
  have hl1 := UA.out.now.cell
  go_wp2_with fail
  clear eA1 eB1 eA2 eB2
  clear hl0 hl1
  (with_reducible refine (rless_as HN.out.2.2 HN.out.2.1 HN.out.1 UBB.out.now.1 UA.out.now.1).mono ?_)
  rintro e w9 ⟨rl, rn, rc, rfl, hs, hf, hb⟩
  replace UB := Lib.hid (UB.out.next hb)
  replace UA := Lib.hid (UA.out.next hb)
  replace UBB := Lib.hid (UBB.out.next hb)
  obtain ⟨x9, B, e1, e2, hb2, hk⟩ := box1 w9 #[.slice rl rn rc] 25
  have UR := Lib.hid (up_vg (Sl.below hs (Nat.le_refl _) hb2) hk)
  replace UB := Lib.hid (UB.out.next hb2)
  replace UA := Lib.hid (UA.out.next hb2)
  replace UBB := Lib.hid (UBB.out.next hb2)
  clear hs hf hb hb2 hk
  go_wp2
  clear e1 e2
  go_ret
  exact ⟨rfl, UB.out.now⟩
theorem rContains_any (al : Option Addr) (n c : Nat) (zs : List Int) (oa : Option Ar) (hO : Is zs oa) (bl : Option Addr) (m d : Nat) (ys : List Int) (ob : Option Ar) (hP : Is ys ob) (w : World) (h : Sl w al n zs) (h' : Sl w bl m ys) :
    Calls Tryd.prog 44 #[.agg #[.slice al n c], .agg #[.slice bl m d]] w (OutV w (.bool (contO oa ob))) := by
  cases oa with
  | none => exact rcont_no al n c zs none hO bl m d ys ob hP (by cases ob <;> rfl) w h h'
  | some f =>
    cases ob with
    | none => exact rcont_no al n c zs (some f) hO bl m d ys none hP rfl w h h'
    | some g => exact rcont_yes al n c zs f hO bl m d ys g hP w h h'
theorem eqv_rfl (f : Ar) : Eqv f f := fun _ _ _ _ => rfl
theorem with_news {W : World} {b o : Nat} {f : Ar} (h : SA W (some ⟨b, o, none⟩) 24 f) : ∀ j u, (FC f).toList[j]? = some u → W.cell? ((⟨b, o, none⟩ : Addr).add j) = some u := by
  obtain ⟨_, b', o', he, _, hc⟩ := SA.parts h
  cases he
  intro j u hj
  have h1 : W.cell? ⟨b, o + j, none⟩ = some u := SA.range hc j u hj
  rw [← h1]
  unfold Addr.add
  split
  · rename_i e; subst e; rfl
  · rfl
theorem with_row {W : World} {B : Nat} {v : Value} {f : Ar} (h : W.ownsRow B 3 1 v (0 + 24) ([] ++ (FC f).toList)) : ∃ g cap, v = .slice (some ⟨g, 0, none⟩) 24 cap ∧ B ≤ g ∧ HasR W g f := by
  rcases h.2 with ⟨_, h0⟩ | ⟨g, cap, cur, hv, hb, hg, _, _, _, h4⟩
  · cases h0
  · refine ⟨g, cap, hv, hb, cur, hg, fun y hy => ?_⟩
    have := FC_at f hy
    rw [← Array.getElem?_toList] at this ⊢
    rw [← this, show (FC f).toList = [] ++ (FC f).toList from rfl, ← h4, List.getElem?_take_of_lt (by omega)]
set_option maxRecDepth 100000 in
set_option maxHeartbeats 1000000 in
theorem rwith_no1 (al : Option Addr) (n c : Nat) (zs : List Int) (hO : Is zs none) (x y : Int) (w : World) (h : Sl w al n zs) :
    Calls Tryd.prog 30 #[.agg #[.slice al n c], CV x y] w (OutA w none) := by
  obtain ⟨v1, Ba, eA1, eB1, hb1, hk1⟩ := box1 w #[.slice al n c] 25
  obtain ⟨v2, Bc, eA2, eB2, hb2, hk2⟩ := box1 v1 #[.int .i64 x, .int .i64 y] 27
  obtain ⟨v3, Bp, eA3, eB3, hb3, hk3⟩ := box1 v2 #[.slice none 0 0] 25
  have UB := Lib.hid ((((up_bl w).next hb1).next hb2).next hb3)
  have UA := Lib.hid (((up_vg (Sl.below h (Nat.le_refl _) ((up_bl w).next hb1).now) hk1).next hb2).next hb3)
  have UC := Lib.hid ((up_vr hk2 : Up v2 (VR Bc #[.int .i64 x, .int .i64 y] 27)).next hb3)
  have UP := Lib.hid (up_vr hk3 : Up v3 (VR Bp #[.slice none 0 0] 25))
  have HP := Lib.hid (show w.heap.size ≤ Bp from by rw [← eB3]; exact (((up_bl w).next hb1).next hb2).now.size)
  clear h hb1 hb2 hb3 hk1 hk2 hk3
  have HN := Lib.hid hO
  clear hO
  go_enter Tryd.func30, Tryd.ntmps30
  have hl0 := UA.out.now.cell
  go_wp2_with fail
  clear eA1 eB1 eA2 eB2 eA3 eB3
  clear hl0
  (with_reducible refine (rvalid_no HN.out UA.out.now.1).mono ?_)
  rintro e w4 ⟨rfl, hb⟩
  replace UB := Lib.hid (UB.out.next hb)
  replace UA := Lib.hid (UA.out.next hb)
  replace UC := Lib.hid (UC.out.next hb)
  replace UP := Lib.hid (UP.out.next hb)
  clear hb
  have dP := (row_cell UP.out.now 0).trans (show _ = some (.slice none 0 0) from rfl)
  have fP := frozen_of_row _ Bp 0 _ _ UP.out.now
  go_wp2
  exact bodyPost_ret (v := .tuple #[.agg #[.slice none 0 0], .int .i64 50]) (by simp [results, Tryd.results30, go_sem, dP]) rfl (no_out UB.out.now HP.out)
set_option maxRecDepth 100000 in
set_option maxHeartbeats 1000000 in
theorem rwith_no2 (b o c : Nat) (f : Ar) (x y : Int) (hg : onG x y = false) (w : World) (h : SA w (some ⟨b, o, none⟩) 24 f) :
    Calls Tryd.prog 30 #[.agg #[.slice (some ⟨b, o, none⟩) 24 c], CV x y] w (OutA w none) := by
  obtain ⟨v1, Ba, eA1, eB1, hb1, hk1⟩ := box1 w #[.slice (some ⟨b, o, none⟩) 24 c] 25
  obtain ⟨v2, Bc, eA2, eB2, hb2, hk2⟩ := box1 v1 #[.int .i64 x, .int .i64 y] 27
  obtain ⟨v3, Bp, eA3, eB3, hb3, hk3⟩ := box1 v2 #[.slice none 0 0] 25
  have UB := Lib.hid ((((up_bl w).next hb1).next hb2).next hb3)
  have UA := Lib.hid (((up_va (Sl.below h (Nat.le_refl _) ((up_bl w).next hb1).now) hk1).next hb2).next hb3)
  have UC := Lib.hid ((up_vr hk2 : Up v2 (VR Bc #[.int .i64 x, .int .i64 y] 27)).next hb3)
  have UP := Lib.hid (up_vr hk3 : Up v3 (VR Bp #[.slice none 0 0] 25))
  have HP := Lib.hid (show w.heap.size ≤ Bp from by rw [← eB3]; exact (((up_bl w).next hb1).next hb2).now.size)
  clear h hb1 hb2 hb3 hk1 hk2 hk3
  have HG := Lib.hid hg
  clear hg
  go_enter Tryd.func30, Tryd.ntmps30
  have hl0 := UA.out.now.cell
  go_wp2_with fail
  clear eA1 eB1 eA2 eB2 eA3 eB3
  clear hl0
  (with_reducible refine (rvalid_yes UA.out.now.1).mono ?_)
  rintro e w4 ⟨rfl, hb⟩
  replace UB := Lib.hid (UB.out.next hb)
  replace UA := Lib.hid (UA.out.next hb)
  replace UC := Lib.hid (UC.out.next hb)
  replace UP := Lib.hid (UP.out.next hb)
  clear hb
  have hl0 := ra_c0 UC.out.now
  have hl1 := ra_c1 UC.out.now
  go_wp2_with fail
  clear hl0 hl1
  (with_reducible refine (rvc HG.out).mono ?_)
  rintro e w5 ⟨rfl, hb⟩
  replace UB := Lib.hid (UB.out.next hb)
  replace UA := Lib.hid (UA.out.next hb)
  replace UC := Lib.hid (UC.out.next hb)
  replace UP := Lib.hid (UP.out.next hb)
  clear hb
  have dP := (row_cell UP.out.now 0).trans (show _ = some (.slice none 0 0) from rfl)
  have fP := frozen_of_row _ Bp 0 _ _ UP.out.now
  go_wp2
  exact bodyPost_ret (v := .tuple #[.agg #[.slice none 0 0], .int .i64 50]) (by simp [results, Tryd.results30, go_sem, dP]) rfl (no_out UB.out.now HP.out)
set_option maxRecDepth 100000 in
set_option maxHeartbeats 1000000 in
theorem rwith_yes (b o c : Nat) (f : Ar) (x y : Nat) (hx : x < 48) (hy : y < 24) (hg : onG x y = true) (w : World) (h : SA w (some ⟨b, o, none⟩) 24 f) :
    Calls Tryd.prog 30 #[.agg #[.slice (some ⟨b, o, none⟩) 24 c], CV x y] w (OutA w (some (putA f x y))) := by
  obtain ⟨i0, hi, hz0, hz1, hz2⟩ := info_parts' infoInt
  obtain ⟨v1, Ba, eA1, eB1, hb1, hk1⟩ := box1 w #[.slice (some ⟨b, o, none⟩) 24 c] 25
  obtain ⟨v2, Bc, eA2, eB2, hb2, hk2⟩ := box1 v1 #[.int .i64 (x : Int), .int .i64 (y : Int)] 27
  obtain ⟨v3, Bp, eA3, eB3, hb3, hk3⟩ := box1 v2 #[.slice none 0 0] 25
  have UB := Lib.hid ((((up_bl w).next hb1).next hb2).next hb3)
  have UA := Lib.hid (((up_va (Sl.below h (Nat.le_refl _) ((up_bl w).next hb1).now) hk1).next hb2).next hb3)
  have UC := Lib.hid ((up_vr hk2 : Up v2 (VR Bc #[.int .i64 (x : Int), .int .i64 (y : Int)] 27)).next hb3)
  have UP := Lib.hid (up_vr hk3 : Up v3 (VR Bp #[.slice none 0 0] 25))
  have HP := Lib.hid (show w.heap.size ≤ Bp from by rw [← eB3]; exact (((up_bl w).next hb1).next hb2).now.size)
  clear h hb1 hb2 hb3 hk1 hk2 hk3
  have HG := Lib.hid hg
  have HX := Lib.hid (And.intro hx hy)
  clear hg hx hy
  go_enter Tryd.func30, Tryd.ntmps30
  have hl0 := UA.out.now.cell
  go_wp2_with fail
  clear eA1 eB1 eA2 eB2 eA3 eB3
  clear hl0
  (with_reducible refine (rvalid_yes UA.out.now.1).mono ?_)
  rintro e w4 ⟨rfl, hb⟩
  replace UB := Lib.hid (UB.out.next hb)
  replace UA := Lib.hid (UA.out.next hb)
  replace UC := Lib.hid (UC.out.next hb)
  replace UP := Lib.hid (UP.out.next hb)
  clear hb
  have hl0 := ra_c0 UC.out.now
  have hl1 := ra_c1 UC.out.now
  go_wp2_with fail
  clear hl0 hl1
  (with_reducible refine (rvc HG.out).mono ?_)
  rintro e w5 ⟨rfl, hb⟩
  replace UB := Lib.hid (UB.out.next hb)
  replace UA := Lib.hid (UA.out.next hb)
  replace UC := Lib.hid (UC.out.next hb)
  replace UP := Lib.hid (UP.out.next hb)
  clear hb
  have HB2 := Lib.hid UB.out.now
  have HP2 := Lib.hid (Array.getElem?_eq_some_iff.1 UP.out.now).1
  obtain ⟨W0, hW0⟩ : ∃ W, w5.alloc (.cells #[] 3) = W := ⟨_, rfl⟩
  have ha : Below w5.heap.size w5 W0 := by rw [← hW0]; exact (Below.refl _ _).alloc (Nat.le_refl _) _
  have hl0 := (UA.out.next ha).now.cell
  have hsz : w5.heap.size ≤ W0.heap.size := ha.size
  have HNW := Lib.hid (with_news (UA.out.next ha).now.1)
  have HRL := Lib.hid (show W0.ownsRow w5.heap.size 3 1 (.slice (some ⟨w5.heap.size, 0, none⟩) 0 0) 0 [] from by rw [← hW0]; exact World.ownsRow_lit w5 #[] 0 (Nat.le_refl _) (by decide) rfl)
  have HA := Lib.hid ha
  clear ha
  go_wp2_with (at_builtin; refine wpList_append_own _ rfl _ _ 23 rfl w5.heap.size 3 i0 (.int .i64 0) 1 8 Tryd.underlying23 hi hz0 hz1 hz2 rfl (by decide) _ 0 [] rfl HRL.out ⟨b, o, none⟩ 24 c (FC f).toList rfl (by simp [FC_size]) HNW.out (fun u hu => by have h1 := FC_one f; rw [Array.all_eq_true_iff_forall_mem] at h1; exact h1 u (Array.mem_def.2 hu)) (by unfold maxLen; omega) (by omega) hsz ?_; intro v' w9 hown' hgrow _; obtain ⟨g, cap, rfl, hge, hF⟩ := with_row hown'; have hbb := HA.out.grown hgrow hsz (fun k hk => (HRL.out.lt k hk).1); obtain ⟨x9, B, e1, e2, hb2, hk⟩ := box1 w9 #[.slice (some ⟨g, 0, none⟩) 24 cap] 25; have HO := Lib.hid (ob_start (c := cap) hF hge hbb e2 hb2 hk : Ob w5 g B cap f x9); have cO := HO.out.cell; have UCx := Lib.hid (UC.out.next HO.out.2.1); have UPx := Lib.hid (UP.out.next HO.out.2.1); have q0 := ra_c0 UCx.out.now; have q1 := ra_c1 UCx.out.now; clear hown' hgrow hge hF hbb hb2 hk HNW HRL HA hl0 hW0 hsz)
  (try clear e1)
  (try clear e2)
  clear cO q0 q1 hi hz0 hz1 hz2
  (with_reducible refine (put_obN HO.out x y HX.out.1 HX.out.2 (eqv_rfl _)).mono ?_)
  rintro e w11 ⟨rfl, hO2⟩
  have HO2 := Lib.hid hO2
  have UPy := Lib.hid (UP.out.next hO2.2.1)
  clear hO2 UPx UP UA UC UB UCx HO
  have dP := (row_cell UPy.out.now 0).trans (show _ = some (.slice none 0 0) from rfl)
  have fP := frozen_of_row _ Bp 0 _ _ UPy.out.now
  have cO := HO2.out.cell
  go_wp2
  exact bodyPost_ret (v := .tuple #[.agg #[.slice (some ⟨g, 0, none⟩) 24 cap], .int .i64 0]) (by simp [results, Tryd.results30, go_sem, dP]) rfl (ob_out HO2.out HB2.out HP.out HP2.out)
theorem rWith_any (al : Option Addr) (n c : Nat) (zs : List Int) (o : Option Ar) (hO : Is zs o) (x y : Int) (w : World) (h : Sl w al n zs) :
    Calls Tryd.prog 30 #[.agg #[.slice al n c], CV x y] w (OutA w (withO o x y)) := by
  cases o with
  | none =>
    rw [show withO none x y = none from by unfold withO; split <;> rfl]
    exact rwith_no1 al n c zs hO x y w h
  | some f =>
    obtain rfl : zs = rz f := hO
    obtain ⟨rfl, b, o, rfl, hb, hc⟩ := SA.parts h
    cases hg : onG x y with
    | false =>
      rw [show withO (some f) x y = none from by unfold withO; rw [hg]; rfl]
      exact rwith_no2 b o c f x y hg w h
    | true =>
      have hxy := onG_iff.1 hg
      obtain ⟨x', rfl⟩ := Int.eq_ofNat_of_zero_le hxy.1
      obtain ⟨y', rfl⟩ := Int.eq_ofNat_of_zero_le hxy.2.2.1
      rw [show withO (some f) (x' : Int) (y' : Int) = some (putA f x' y') from by unfold withO; rw [if_pos hg]; rfl]
      exact rwith_yes b o c f x' y' (by omega) (by omega) hg w h
end Go.Proofs.YtipfafglbkbafaaDoor
