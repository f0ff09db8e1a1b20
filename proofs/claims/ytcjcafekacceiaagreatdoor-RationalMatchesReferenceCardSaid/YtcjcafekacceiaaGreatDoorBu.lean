/- build, walked: a list of steps, each of which goes on or refuses. -/
import Derived.Test.YtcjcafekacceiaaGreatDoorRe
namespace Go.Proofs.YtcjcafekacceiaaGreatDoor
open Go.RowKit

/-- One step's end: it goes on (P), or refuses (and then bad is so). -/
def StepOut (w0 : World) (D : Nat → Prop) (bad : Prop) (P : World → Prop) (W : World) (e : Ending) (W' : World) : Prop :=
  ∃ n, e = .returned (.int .i64 n) ∧ Below w0.heap.size w0 W' ∧ KD D W W' ∧ ((n = 0 ∧ P W') ∨ (n ≠ 0 ∧ bad))
/-- The steps, one after another. -/
def Steps (w0 : World) (D : Nat → Prop) (bad : Prop) : List (Nat × Array Value) → (World → Prop) → World → Prop
  | [], P, W => P W
  | c :: cs, P, W => Calls Tryz.prog c.1 c.2 W (StepOut w0 D bad (Steps w0 D bad cs P) W)
theorem Steps.weak {w0 : World} {D E : Nat → Prop} {bad : Prop} (hde : ∀ k, D k → E k) : ∀ {cs : List (Nat × Array Value)} {P : World → Prop} {W : World}, Steps w0 D bad cs P W → Steps w0 E bad cs P W
  | [], _, _, h => h
  | _ :: _, _, _, h => Calls.mono h fun _ _ ⟨n, he, hb, hk, hn⟩ => ⟨n, he, hb, hk.weak (fun k _ => hde k), hn.imp (fun ⟨h0, hs⟩ => ⟨h0, Steps.weak hde hs⟩) id⟩
theorem Steps.mono {w0 : World} {D : Nat → Prop} {bad : Prop} {P Q : World → Prop} (hpq : ∀ W, P W → Q W) : ∀ {cs : List (Nat × Array Value)} {W : World}, Steps w0 D bad cs P W → Steps w0 D bad cs Q W
  | [], _, h => hpq _ h
  | _ :: _, _, h => Calls.mono h fun _ _ ⟨n, he, hb, hk, hn⟩ => ⟨n, he, hb, hk, hn.imp (fun ⟨h0, hs⟩ => ⟨h0, Steps.mono hpq hs⟩) id⟩
theorem Steps.keep {w0 : World} {D : Nat → Prop} {bad : Prop} {P : World → Prop} : ∀ {cs : List (Nat × Array Value)} {W : World}, Below w0.heap.size w0 W → Steps w0 D bad cs P W → Steps w0 D bad cs (fun W' => P W' ∧ KD D W W' ∧ Below w0.heap.size w0 W') W
  | [], _, hw, h => ⟨h, KD.refl _ _, hw⟩
  | _ :: _, _, _, h => Calls.mono h fun _ _ ⟨n, he, hb, hk, hn⟩ => ⟨n, he, hb, hk, hn.imp (fun ⟨h0, hs⟩ => ⟨h0, Steps.mono (fun _ ⟨hp, hk2, hb2⟩ => ⟨hp, hk.trans hk2, hb2⟩) (Steps.keep hb hs)⟩) id⟩
theorem Steps.append {w0 : World} {D : Nat → Prop} {bad : Prop} {cs2 : List (Nat × Array Value)} {P : World → Prop} : ∀ {cs : List (Nat × Array Value)} {W : World}, Steps w0 D bad cs (Steps w0 D bad cs2 P) W → Steps w0 D bad (cs ++ cs2) P W
  | [], _, h => h
  | _ :: _, _, h => Calls.mono h fun _ _ ⟨n, he, hb, hk, hn⟩ => ⟨n, he, hb, hk, hn.imp (fun ⟨h0, hs⟩ => ⟨h0, Steps.append hs⟩) id⟩

/-- A closure of set as the first step. -/
theorem step_set {D : Nat → Prop} {w0 W : World} {c : Nat × Array Value} {k zb zo xb xo yb yo : Nat} {x y s old : ByteArray} {n : Int} {bad : Prop} {cs : List (Nat × Array Value)} {P : World → Prop}
    (h : SetC D W c k zb zo xb xo yb yo) (hd : D zb) (hE : ∀ args w, (callFunc k args).run Tryz.prog w = .ok (.enter k args) w)
    (cx : W.cell? ⟨xb, xo, none⟩ = some (.string x)) (cy : W.cell? ⟨yb, yo, none⟩ = some (.string y)) (cz : W.cell? ⟨zb, zo, none⟩ = some (.string old)) (fz : W.frozen? ⟨zb, zo, none⟩ = false)
    (hw : Below w0.heap.size w0 W) (hz0 : w0.heap.size ≤ zb)
    (hF : ∀ W', Below w0.heap.size w0 W' → Calls Tryz.prog k #[.string x, .string y] W' (ResOut W' s n)) (hbad : n ≠ 0 → bad)
    (next : n = 0 → ∀ W1, Below W.heap.size W W1 → Below w0.heap.size w0 (W1.setCell ⟨zb, zo, none⟩ (.string s)) → KD D W (W1.setCell ⟨zb, zo, none⟩ (.string s)) → Steps w0 D bad cs P (W1.setCell ⟨zb, zo, none⟩ (.string s))) :
    Steps w0 D bad (c :: cs) P W := by
  refine (setc_any D W c k zb zo xb xo yb yo x y s old n h hd hE cx cy cz fz (fun W' hb => hF W' (below1 hw hb))).mono ?_
  rintro e W' ⟨W1, hb, rfl, rfl⟩
  have hb0 : Below w0.heap.size w0 (W1.setCell ⟨zb, zo, none⟩ (.string s)) := (below1 hw hb).setCell (p := ⟨zb, zo, none⟩) hz0 _
  have hk : KD D W (W1.setCell ⟨zb, zo, none⟩ (.string s)) := (KD.of_below hb).trans (KD.set W1 ⟨zb, zo, none⟩ _ hd)
  refine ⟨n, rfl, hb0, hk, ?_⟩
  by_cases hn : n = 0
  · exact .inl ⟨hn, next hn W1 hb hb0 hk⟩
  · exact .inr ⟨hn, hbad hn⟩
theorem set2_0 {W : World} {B : Nat} {x y : Value} {T : TypeId} (h : W.heap[B]? = some (.cells #[x, y] T)) (v : Value) : (W.setCell ⟨B, 0, none⟩ v).heap[B]? = some (.cells #[v, y] T) := by
  have hlt : B < W.heap.size := (Array.getElem?_eq_some_iff.1 h).1
  simp [World.setCell, Array.getElem?_modify, h]
theorem set2_1 {W : World} {B : Nat} {x y : Value} {T : TypeId} (h : W.heap[B]? = some (.cells #[x, y] T)) (v : Value) : (W.setCell ⟨B, 1, none⟩ v).heap[B]? = some (.cells #[x, v] T) := by
  have hlt : B < W.heap.size := (Array.getElem?_eq_some_iff.1 h).1
  simp [World.setCell, Array.getElem?_modify, h]
theorem set1_0 {W : World} {B : Nat} {x : Value} {T : TypeId} (h : W.heap[B]? = some (.cells #[x] T)) (v : Value) : (W.setCell ⟨B, 0, none⟩ v).heap[B]? = some (.cells #[v] T) := by
  have hlt : B < W.heap.size := (Array.getElem?_eq_some_iff.1 h).1
  simp [World.setCell, Array.getElem?_modify, h]
theorem set_far {W : World} {B zb zo : Nat} {o : Obj} (h : W.heap[B]? = some o) (hne : B ≠ zb) (v : Value) : (W.setCell ⟨zb, zo, none⟩ v).heap[B]? = some o :=
  (Below.heap_setCell _ _ _ _ (by simpa using hne)).trans h
theorem bl_up {W W' : World} {B : Nat} {o : Obj} (h : W.heap[B]? = some o) (hb : Below W.heap.size W W') : W'.heap[B]? = some o :=
  (hb.block B (Array.getElem?_eq_some_iff.1 h).1).trans h

theorem ent_gcd : ∀ args w, (callFunc 63 args).run Tryz.prog w = .ok (.enter 63 args) w := enters_of Tryz.func63 (by kernel_rfl) rfl
theorem ent_quo : ∀ args w, (callFunc 121 args).run Tryz.prog w = .ok (.enter 121 args) w := enters_of Tryz.func121 (by kernel_rfl) rfl

theorem opS_no {f : Int → Int → Int} {a b : ByteArray} (h : (vS a && vS b) = false) : opS f a b = ⟨#[]⟩ ∧ opE f a b = 30 := by
  unfold opS opE; rw [h]; exact ⟨rfl, rfl⟩
theorem mkS_no {a b : ByteArray} (h : (vS a && vS b) = false) : mkS a b = none := by unfold mkS; rw [h]; rfl
theorem cmp_zero {b : ByteArray} (h : vS b = true) : cmpS b ⟨#[48]⟩ = cmpZ (nS b) 0 := by
  have hz : vS ⟨#[48]⟩ = true := by decide +kernel
  have hz0 : nS ⟨#[48]⟩ = 0 := by decide +kernel
  unfold cmpS; rw [h, hz, hz0]; rfl
theorem size_of_vS {b : ByteArray} (h : vS b = true) : b.size ≤ 9223372036854775807 := by rw [str_nS h]; exact str_size (nS_big b)
set_option maxHeartbeats 1000000 in
/-- The steps of reduce. -/
theorem red_steps (D : Nat → Prop) (w0 W : World) (Br Bd B1 : Nat) (c1 c3 c4 : Nat × Array Value) (a b : ByteArray) (o : Option Rat) (ho : o = mkS a b)
    (hsa : a.size ≤ 9223372036854775807) (hsb : b.size ≤ 9223372036854775807) (dr : D Br) (dd : D Bd) (d1 : ¬ D B1) (hne : Br ≠ Bd) (hw : Below w0.heap.size w0 W) (hr0 : w0.heap.size ≤ Br) (hd0 : w0.heap.size ≤ Bd) (ht : Tb w0)
    (h1 : SetC D W c1 63 Bd 0 Br 0 Br 1) (h3 : SetC D W c3 121 Br 0 Br 0 Bd 0) (h4 : SetC D W c4 121 Br 1 Br 1 Bd 0)
    (hB1 : W.cell? ⟨B1, 0, none⟩ = some (.pointer (some ⟨Br, 0, none⟩))) (hBr : W.heap[Br]? = some (.cells #[.string a, .string b] 23)) (hBd : W.heap[Bd]? = some (.cells #[.string ⟨#[]⟩] 9)) :
    Steps w0 D (o = none) [c1, (120, #[.pointer (some ⟨B1, 0, none⟩), .pointer (some ⟨Bd, 0, none⟩)]), c3, c4]
      (fun W' => o ≠ none ∧ W'.heap[Br]? = some (.cells #[.string (oN o), .string (oD o)] 23)) W := by
  obtain ⟨q1, q2, _, _⟩ := box2 hBr
  obtain ⟨q3, q4⟩ := box1 hBd
  refine step_set (s := opS gcdZ a b) (n := opE gcdZ a b) h1 dd ent_gcd q1 q2 q3 q4 hw hd0 (fun W' hb => gcd_any a b W' hsa hsb (ht.below hb)) (fun hn => ?_) (fun hn W1 hb1 hw1 hk1 => ?_)
  · rw [ho]
    cases hv : (vS a && vS b) with
    | false => exact mkS_no hv
    | true =>
      refine absurd ?_ hn
      unfold opE; rw [hv, if_pos rfl, resE_ok (big_gcd (nS_big a) (nS_big b))]
  · obtain ⟨hv, hs⟩ : (vS a && vS b) = true ∧ opS gcdZ a b = str (gcdZ (nS a) (nS b)) := by
      cases hv : (vS a && vS b) with
      | false => rw [(opS_no hv).2] at hn; exact absurd hn (by decide)
      | true => exact ⟨rfl, by unfold opS; rw [hv, if_pos rfl, resS_ok (big_gcd (nS_big a) (nS_big b))]⟩
    obtain ⟨va, vb⟩ : vS a = true ∧ vS b = true := by simpa using hv
    have hBr1 := set_far (zo := 0) (bl_up hBr hb1) hne (.string (opS gcdZ a b))
    have hBd1 := set1_0 (bl_up hBd hb1) (.string (opS gcdZ a b))
    have hB11 := hk1.cell d1 hB1
    have h31 := h3.keep hk1
    have h41 := h4.keep hk1
    rw [hs] at hBr1 hBd1 hB11 hw1 hk1 h31 h41 ⊢
    generalize W1.setCell ⟨Bd, 0, none⟩ (.string (str (gcdZ (nS a) (nS b)))) = V at *
    clear hBr hBd hB1 h1 h3 h4 q1 q2 q3 q4 hb1
    have hg := big_gcd (nS_big a) (nS_big b)
    have hcz := cmp_zero vb
    -- what is left, once the divisor has its sign
    have rest : nS b ≠ 0 → ∀ V2, Below w0.heap.size w0 V2 → KD D V V2 → V2.heap[Br]? = some (.cells #[.string a, .string b] 23) → V2.heap[Bd]? = some (.cells #[.string (str (sgz (nS a) (nS b)))] 9) →
        Steps w0 D (o = none) [c3, c4] (fun W' => o ≠ none ∧ W'.heap[Br]? = some (.cells #[.string (oN o), .string (oD o)] 23)) V2 := by
      intro hb0 V2 hw2 hk2 hr2 hd2
      have hos : o = some (Rat.divInt (nS a) (nS b)) := by rw [ho]; unfold mkS; rw [hv]; simp [hb0]
      have hsg : Big (sgz (nS a) (nS b)) := by unfold sgz; split; exact big_sub0 hg; exact hg
      have vg : vS (str (sgz (nS a) (nS b))) = true := (vS_str _).2 hsg
      have hdv : ∀ x : ByteArray, vS x = true → divV x (str (sgz (nS a) (nS b))) = true := fun x hx => by
        unfold divV; rw [hx, vg, nS_str hsg]; simpa using sgz_ne hb0
      obtain ⟨q1, q2, q5, q6⟩ := box2 hr2
      obtain ⟨q3, q4⟩ := box1 hd2
      refine step_set (s := str (Rat.divInt (nS a) (nS b)).num) (n := 0) (h31.keep hk2) dr ent_quo q1 q3 q1 q5 hw2 hr0 (fun W' hb => ?_) (fun hn => absurd rfl hn) (fun _ W3 hb3 hw3 hk3 => ?_)
      · have := quotient_any a (str (sgz (nS a) (nS b))) W' hsa (str_size hsg) (ht.below hb)
        unfold divQ divE at this
        rw [hdv a va, if_pos rfl, if_pos rfl, nS_str hsg, red_num _ _ hb0] at this
        exact this
      have hBr3 := set2_0 (bl_up hr2 hb3) (.string (str (Rat.divInt (nS a) (nS b)).num))
      have hBd3 := set_far (zb := Br) (zo := 0) (bl_up hd2 hb3) (Ne.symm hne) (.string (str (Rat.divInt (nS a) (nS b)).num))
      have h43 := (h41.keep hk2).keep hk3
      generalize W3.setCell ⟨Br, 0, none⟩ (.string (str (Rat.divInt (nS a) (nS b)).num)) = V4 at *
      obtain ⟨q1, q2, q5, q6⟩ := box2 hBr3
      obtain ⟨q3, q4⟩ := box1 hBd3
      refine step_set (s := str ((Rat.divInt (nS a) (nS b)).den : Int)) (n := 0) h43 dr ent_quo q2 q3 q2 q6 hw3 hr0 (fun W' hb => ?_) (fun hn => absurd rfl hn) (fun _ W5 hb5 hw5 hk5 => ?_)
      · have := quotient_any b (str (sgz (nS a) (nS b))) W' hsb (str_size hsg) (ht.below hb)
        unfold divQ divE at this
        rw [hdv b vb, if_pos rfl, if_pos rfl, nS_str hsg, red_den _ _ hb0] at this
        exact this
      refine ⟨(by rw [hos]; exact fun h => nomatch h), ?_⟩
      rw [set2_1 (bl_up hBr3 hb5), hos]
      rfl
    rcases Int.lt_trichotomy (nS b) 0 with hlt | heq | hgt
    · rw [show cmpZ (nS b) 0 = -1 from by unfold cmpZ; rw [if_pos hlt]] at hcz
      refine (red_neg V B1 Bd Br a b (gcdZ (nS a) (nS b)) hB11 hBr1 hsb hcz hBd1 hg (ht.below hw1)).mono ?_
      rintro e W' ⟨V1, hb, rfl, rfl⟩
      have hb0 : Below w0.heap.size w0 (V1.setCell ⟨Bd, 0, none⟩ (.string (str (0 - gcdZ (nS a) (nS b))))) := (below1 hw1 hb).setCell (p := ⟨Bd, 0, none⟩) hd0 _
      have hk : KD D V (V1.setCell ⟨Bd, 0, none⟩ (.string (str (0 - gcdZ (nS a) (nS b))))) := (KD.of_below hb).trans (KD.set V1 ⟨Bd, 0, none⟩ _ dd)
      refine ⟨0, rfl, hb0, hk, .inl ⟨rfl, rest (by omega) _ hb0 hk (set_far (bl_up hBr1 hb) hne _) ?_⟩⟩
      rw [set1_0 (bl_up hBd1 hb)]
      unfold sgz; rw [if_pos hlt]
    · rw [show cmpZ (nS b) 0 = 0 from by unfold cmpZ; rw [heq]; rfl] at hcz
      refine (red_zero V B1 Bd Br a b hB11 hBr1 hsb hcz).mono ?_
      rintro e W' ⟨rfl, hb⟩
      exact ⟨40, rfl, below1 hw1 hb, .of_below hb, .inr ⟨by decide, by rw [ho]; unfold mkS; rw [heq]; simp⟩⟩
    · rw [show cmpZ (nS b) 0 = 1 from by unfold cmpZ; rw [if_neg (by omega), if_pos hgt]] at hcz
      refine (red_pos V B1 Bd Br a b hB11 hBr1 hsb hcz).mono ?_
      rintro e W' ⟨rfl, hb⟩
      refine ⟨0, rfl, below1 hw1 hb, .of_below hb, .inl ⟨rfl, rest (by omega) _ (below1 hw1 hb) (.of_below hb) (bl_up hBr1 hb) ?_⟩⟩
      rw [bl_up hBd1 hb]
      unfold sgz; rw [if_neg (by omega)]
end Go.Proofs.YtcjcafekacceiaaGreatDoor
