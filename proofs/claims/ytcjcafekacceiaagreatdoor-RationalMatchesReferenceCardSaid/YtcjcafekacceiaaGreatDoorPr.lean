/- Compare of what is not valid, Print, walked. -/
import Derived.Deep.QuietTactic
import Derived.BigQuiet
import Derived.Lib.IndexLaws
import Derived.Test.YtcjcafekacceiaaGreatDoorCp
namespace Go.Proofs.YtcjcafekacceiaaGreatDoor
open Go.RowKit

theorem str_small {z : Int} (h : Big z) : (str z).size ≤ 300 := by
  have h1 := shw_length z h
  have h2 : (str z).size = (shw z).length := by rw [← str_data]; rfl
  omega
def cmpO (p q : Pr) : Int := if fVp p && fVp q then cmpZ (nS p.1 * nS q.2) (nS q.1 * nS p.2) else 0
theorem cmpO_q {p q : Rat} (hp : BQ p) (hq : BQ q) : cmpO (str p.num, str (p.den : Int)) (str q.num, str (q.den : Int)) = cmpQ p q := by
  unfold cmpO fVp
  rw [fV_str hp, fV_str hq, nS_str hp.1, nS_str hp.2, nS_str hq.1, nS_str hq.2, cmpQ_cross]; rfl
set_option maxRecDepth 100000 in
set_option maxHeartbeats 2000000 in
theorem qcmp_no (p q : Pr) (w : World) (hsp : p.1.size ≤ 9223372036854775807 ∧ p.2.size ≤ 9223372036854775807) (hsq : q.1.size ≤ 9223372036854775807 ∧ q.2.size ≤ 9223372036854775807) (ht : Tb w) (hno : (fVp p && fVp q) = false) :
    Calls Tryz.prog 20 #[.agg #[.string p.1, .string p.2], .agg #[.string q.1, .string q.2]] w (IntOut w 0) := by
  obtain ⟨wA, hwA⟩ : ∃ wA, (w.alloc (.cells #[.string p.1, .string p.2] 23)).alloc (.cells #[.string q.1, .string q.2] 23) = wA := ⟨_, rfl⟩
  have hbA : Below w.heap.size w wA := by rw [← hwA]; exact ((Below.refl w.heap.size w).alloc (Nat.le_refl _) _).alloc (by simp) _
  have h0 : wA.heap[w.heap.size]? = some (.cells #[.string p.1, .string p.2] 23) := by
    rw [← hwA]; exact (Below.heap_alloc _ _ _ (by simp)).trans (heap_new' _ _ _ rfl)
  have h1 : wA.heap[w.heap.size + 1]? = some (.cells #[.string q.1, .string q.2] 23) := by
    rw [← hwA]; exact heap_new' _ _ _ (by simp)
  have V1 := Lib.hid (fun W (hW : Below w.heap.size w W) => qvalid_any p.1 p.2 W hsp.1 hsp.2 (ht.below hW))
  have V2 := Lib.hid (fun W (hW : Below w.heap.size w W) => qvalid_any q.1 q.2 W hsq.1 hsq.2 (ht.below hW))
  obtain ⟨k0, k1, _, _⟩ := box2 h0
  have BQ1 := Lib.hid (fun W (hW : Below wA.heap.size wA W) => box2 (bl_up h1 hW))
  have HBA := Lib.hid hbA
  obtain ⟨b1, hb1⟩ : ∃ b1, fV p.1 p.2 = b1 := ⟨_, rfl⟩
  obtain ⟨b2, hb2⟩ : ∃ b2, fV q.1 q.2 = b2 := ⟨_, rfl⟩
  unfold fVp at hno
  rw [hb1] at V1 hno
  rw [hb2] at V2 hno
  clear hb1 hb2 h0 h1 hbA ht
  generalize p.1 = pn at *
  generalize p.2 = pd at *
  generalize q.1 = qn at *
  generalize q.2 = qd at *
  cases b1 with
  | false =>
    clear hno
    go_enter Tryz.func20, Tryz.ntmps20
    go_wp2
    go_step3
    go_wp2_with fail
    (with_reducible refine (V1.out _ HBA.out).mono ?_)
    rintro e w1 ⟨rfl, hb1⟩
    have HB1 := Lib.hid (below1 HBA.out hb1)
    clear hb1
    go_wp2
    rw [Exit.noGoto_ret]
    go_ret
    exact ⟨rfl, HB1.out⟩
  | true =>
    cases b2 with
    | true => cases hno
    | false =>
      clear hno
      go_enter Tryz.func20, Tryz.ntmps20
      go_wp2
      go_step3
      go_wp2_with fail
      (with_reducible refine (V1.out _ HBA.out).mono ?_)
      rintro e w1 ⟨rfl, hb1⟩
      have HB1 := Lib.hid (below1 HBA.out hb1)
      obtain ⟨k2, k3, _, _⟩ := BQ1.out _ hb1
      clear hb1
      go_wp2_with fail
      (with_reducible refine (V2.out _ HB1.out).mono ?_)
      rintro e w2 ⟨rfl, hb2⟩
      have HB2 := Lib.hid (below1 HB1.out hb2)
      clear hb2 k2 k3
      go_wp2
      rw [Exit.noGoto_ret]
      go_ret
      exact ⟨rfl, HB2.out⟩
theorem qcmp_pr (p q : Pr) (w : World) (hsp : p.1.size ≤ 9223372036854775807 ∧ p.2.size ≤ 9223372036854775807) (hsq : q.1.size ≤ 9223372036854775807 ∧ q.2.size ≤ 9223372036854775807) (ht : Tb w) :
    Calls Tryz.prog 20 #[.agg #[.string p.1, .string p.2], .agg #[.string q.1, .string q.2]] w (IntOut w (cmpO p q)) := by
  cases hv : (fVp p && fVp q) with
  | false =>
    rw [show cmpO p q = 0 from by unfold cmpO; rw [hv]; rfl]
    exact qcmp_no p q w hsp hsq ht hv
  | true =>
    rw [Bool.and_eq_true] at hv
    obtain ⟨x, bx, hx1, hx2⟩ := fV_q hv.1
    obtain ⟨y, by', hy1, hy2⟩ := fV_q hv.2
    obtain ⟨p1, p2⟩ := p
    obtain ⟨q1, q2⟩ := q
    simp only at hx1 hx2 hy1 hy2
    subst hx1 hx2 hy1 hy2
    rw [cmpO_q bx by']
    exact qcmp_any x y bx by' w ht

theorem shw_digits {z : Int} (h : 0 ≤ z) : (shw z).all isD = true := by
  unfold shw; rw [if_neg (by omega)]; exact txt_all _
theorem shw_noslash (z : Int) : (47 : UInt8) ∉ shw z := by
  have h2 : ∀ n : Nat, (47 : UInt8) ∉ txt n := fun n hm => by
    have := List.all_eq_true.1 (txt_all n) 47 hm
    exact absurd this (by decide)
  unfold shw
  split
  · intro hm
    rcases List.mem_cons.1 hm with h | h
    · exact absurd h (by decide)
    · exact h2 _ h
  · exact h2 _
theorem trim_one (A D : List UInt8) (hD : D.all isD = true) (hne : D ≠ []) : Lib.trimSuffix (A ++ 47 :: D) [47, 49] = if D = [49] then A else A ++ 47 :: D := by
  unfold Lib.trimSuffix Lib.hasSuffix
  by_cases h : D = [49]
  · subst h
    rw [if_pos rfl, if_pos (by rw [List.isSuffixOf_iff_suffix]; exact ⟨A, rfl⟩)]
    simp
  · rw [if_neg h, if_neg]
    rw [List.isSuffixOf_iff_suffix]
    rintro ⟨t, ht⟩
    have e1 : t ++ [47, 49] = (t ++ [47]) ++ [49] := by simp
    rw [e1] at ht
    rcases List.eq_nil_or_concat D with h0 | ⟨D', x, rfl⟩
    · exact hne h0
    · rw [List.concat_eq_append] at ht h hD
      rw [show A ++ 47 :: (D' ++ [x]) = (A ++ 47 :: D') ++ [x] by simp] at ht
      obtain ⟨h1, h2⟩ := List.append_inj' ht rfl
      rcases List.eq_nil_or_concat D' with h0 | ⟨D'', y, rfl⟩
      · subst h0
        cases h2
        exact h rfl
      · rw [List.concat_eq_append] at h1 hD
        rw [show A ++ 47 :: (D'' ++ [y]) = (A ++ 47 :: D'') ++ [y] by simp] at h1
        obtain ⟨_, h3⟩ := List.append_inj' h1 rfl
        cases h3
        have := List.all_eq_true.1 hD 47 (by simp)
        exact absurd this (by decide)
/-- The text of a fraction. -/
def prL (q : Rat) : List UInt8 := if q.den = 1 then shw q.num else shw q.num ++ 47 :: shw (q.den : Int)
def prQ (q : Rat) : ByteArray := ⟨(prL q).toArray⟩
theorem shw_ne (z : Int) : shw z ≠ [] := by
  unfold shw
  split
  · exact fun h => by cases h
  · exact txt_ne _
theorem shw_one : shw 1 = [49] := by decide +kernel
theorem pr_trim (q : Rat) : Lib.trimSuffix (shw q.num ++ 47 :: shw (q.den : Int)) [47, 49] = prL q := by
  rw [trim_one _ _ (shw_digits (by omega)) (shw_ne _)]
  unfold prL
  by_cases h : q.den = 1
  · rw [if_pos h, if_pos (by rw [h]; exact shw_one)]
  · rw [if_neg h, if_neg (fun e => h (by
      have := shw_inj (q.den : Int) 1 (by rw [e, shw_one])
      omega))]
theorem pr_app (q : Rat) : ((str q.num ++ (⟨#[47]⟩ : ByteArray)) ++ str (q.den : Int)).data.toList = shw q.num ++ 47 :: shw (q.den : Int) := by
  rw [ByteArray.data_append, ByteArray.data_append, Array.toList_append, Array.toList_append, str_data, str_data]
  simp
def PrOut (w : World) (s : ByteArray) (e : Ending) (w' : World) : Prop := e = .returned (.string s) ∧ Below w.heap.size w w'
set_option maxRecDepth 100000 in
set_option maxHeartbeats 1000000 in
theorem print_q (q : Rat) (hq : BQ q) (w : World) (ht : Tb w) :
    Calls Tryz.prog 33 #[.agg #[.string (str q.num), .string (str (q.den : Int))]] w (PrOut w (prQ q)) := by
  have V1 := Lib.hid (fun W (hW : Below w.heap.size w W) => qvalid_any (str q.num) (str (q.den : Int)) W (str_size hq.1) (str_size hq.2) (ht.below hW))
  rw [fV_str hq] at V1
  have s1 := str_small hq.1
  have s2 := str_small hq.2
  have CT := Lib.hid (fun W => Tryz.strings_TrimSuffix ((str q.num ++ (⟨#[47]⟩ : ByteArray)) ++ str (q.den : Int)) ⟨#[47, 49]⟩ W (by rw [ByteArray.size_append, ByteArray.size_append]; show _ + 1 + _ ≤ _; omega))
  rw [pr_app, show (⟨#[47, 49]⟩ : ByteArray).data.toList = [47, 49] from rfl, pr_trim, show (⟨(prL q).toArray⟩ : ByteArray) = prQ q from rfl] at CT
  have HA := Lib.hid ((Below.refl w.heap.size w).alloc (Nat.le_refl _) (.cells #[.string (str q.num), .string (str (q.den : Int))] 23))
  have HK := Lib.hid (heap_new' w (.cells #[.string (str q.num), .string (str (q.den : Int))] 23) w.heap.size rfl)
  generalize prQ q = z at *
  generalize str q.num = x at *
  generalize str (q.den : Int) = y at *
  clear hq ht
  go_enter Tryz.func33, Tryz.ntmps33
  go_wp2_with fail
  (with_reducible refine (V1.out _ HA.out).mono ?_)
  rintro e w1 ⟨rfl, hb1⟩
  have HB1 := Lib.hid (below1 HA.out hb1)
  obtain ⟨k0, k1, _, _⟩ := box2 (bl_up HK.out hb1)
  clear hb1
  go_wp2_with fail
  (with_reducible refine (CT.out _).mono ?_)
  rintro e w2 ⟨rfl, rfl⟩
  go_wp2
  go_ret
  exact ⟨rfl, HB1.out⟩
end Go.Proofs.YtcjcafekacceiaaGreatDoor
