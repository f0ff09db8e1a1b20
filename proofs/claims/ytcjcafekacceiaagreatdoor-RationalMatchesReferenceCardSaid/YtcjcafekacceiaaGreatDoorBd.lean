/- build, walked. -/
import Derived.Test.YtcjcafekacceiaaGreatDoorBu
namespace Go.Proofs.YtcjcafekacceiaaGreatDoor
open Go.RowKit

/-- A function that is entered as it stands. -/
def Ent (k : Nat) : Prop := ∀ args w, (callFunc k args).run Tryz.prog w = .ok (.enter k args) w
theorem ent_set1 : Ent 100 := enters_of Tryz.func100 (by kernel_rfl) rfl
theorem ent_red1 : Ent 120 := enters_of Tryz.func120 (by kernel_rfl) rfl
theorem SetC.ent {D : Nat → Prop} {W : World} {c : Nat × Array Value} {k zb zo xb xo yb yo : Nat} (h : SetC D W c k zb zo xb xo yb yo) : Ent c.1 := by
  obtain ⟨_, _, _, _, rfl, _⟩ := h
  exact ent_set1

def BuildOut (w0 : World) (D : Nat → Prop) (w : World) (o : Option Rat) (e : Ending) (w' : World) : Prop := e = .returned (.tuple #[.agg #[.string (oN o), .string (oD o)], .int .i64 (oE o)]) ∧ Below w0.heap.size w0 w' ∧ KD D w w'
theorem kd_put2 {D : Nat → Prop} {w W : World} (h : KD D w W) (x y : Value) : KD D w (put2 W w.heap.size x y) :=
  ⟨by simpa [put2] using h.1, fun k hk hd => (put2_other x y (Nat.ne_of_lt hk)).trans (h.2 k hk hd)⟩
/-- At the head of build's loop. -/
def BldR (w0 : World) (D : Nat → Prop) (bad : Prop) (all : List (Nat × Array Value)) (P : World → Prop) (W2 : World) (iv : Value) (wr : World) : Prop :=
  ∃ k : Nat, k ≤ all.length ∧ iv = .int .i64 k ∧ KD D W2 wr ∧ Below w0.heap.size w0 wr ∧ Steps w0 D bad (all.drop k) P wr

set_option maxRecDepth 100000 in
set_option maxHeartbeats 2000000 in
theorem build_any (D : Nat → Prop) (w0 w : World) (Br : Nat) (v : Value) (cs : List (Nat × Array Value)) (a b : ByteArray) (o : Option Rat)
    (hw : Below w0.heap.size w0 w) (hD : ∀ k, D k → k < w.heap.size) (hD0 : ∀ k, D k → w0.heap.size ≤ k) (dr : D Br) (hv : Lv w v (cs.map fV2)) (hlen : cs.length ≤ 100) (ht : Tb w0)
    (hsa : a.size ≤ 9223372036854775807) (hsb : b.size ≤ 9223372036854775807) (hE : ∀ c ∈ cs, Ent c.1)
    (hs : ∀ W, Below w.heap.size w W → Steps w0 D (o = none) cs (fun W' => o = mkS a b ∧ W'.heap[Br]? = some (.cells #[.string a, .string b] 23)) W) :
    Calls Tryz.prog 60 #[.pointer (some ⟨Br, 0, none⟩), v] w (BuildOut w0 D w o) := by
  have HW0 := Lib.hid hw.size
  obtain ⟨wA, hwA⟩ : ∃ wA, w.alloc (.cells #[.string ⟨#[]⟩, .string ⟨#[]⟩] 23) = wA := ⟨_, rfl⟩
  have hbA : Below w.heap.size w wA := by rw [← hwA]; exact (Below.refl w.heap.size w).alloc (Nat.le_refl _) _
  have hsA : wA.heap.size = w.heap.size + 1 := by rw [← hwA]; simp
  have hRA : wA.heap[w.heap.size]? = some (.cells #[.string ⟨#[]⟩, .string ⟨#[]⟩] 23) := by rw [← hwA]; exact heap_new' _ _ _ rfl
  have CR := Lib.hid (reduce_any D Br wA (fun k hk => by have := hD k hk; omega))
  obtain ⟨al, c0, rfl, _⟩ := hv.shape
  have HV := Lib.hid hv
  have HHS := Lib.hid hs
  have HEE := Lib.hid hE
  have HDD := Lib.hid hD
  have HD00 := Lib.hid hD0
  have HWA := Lib.hid hwA; have HSA := Lib.hid hsA; have HBA := Lib.hid hbA; have HRA := Lib.hid hRA; have HW := Lib.hid hw; have HT := Lib.hid ht
  have hns : (cs.map fV2).length = cs.length := by simp
  obtain ⟨N, hN⟩ : ∃ N, (cs.map fV2).length = N := ⟨_, rfl⟩
  rw [hN] at hns
  rw [hN]
  have HNS := Lib.hid hns
  have HN := Lib.hid hN
  clear hv hs hE hD hD0 hsA hbA hRA hw ht hns hN
  go_enter Tryz.func60, Tryz.ntmps60
  go_wp2_with fail
  (with_reducible refine CR.out.mono ?_)
  rintro e w1 ⟨v2, c1, c3, c4, rfl, hl2, hc1, hc3, hc4, hk1, hk2, hb1⟩
  obtain ⟨al2, c02, rfl, _⟩ := hl2.shape
  rw [show ([fV2 c1, fV2 (120, #[.pointer (some ⟨wA.heap.size, 0, none⟩), .pointer (some ⟨wA.heap.size + 1, 0, none⟩)]), fV2 c3, fV2 c4] : List Value).length = 4 from rfl] at hl2 ⊢
  obtain ⟨wB, hwB⟩ : ∃ wB, w1.alloc (.cells #[.slice al N c0, .slice al2 4 c02] 110) = wB := ⟨_, rfl⟩
  have hbB : Below w1.heap.size w1 wB := by rw [← hwB]; exact (Below.refl w1.heap.size w1).alloc (Nat.le_refl _) _
  have hsB : wB.heap.size = w1.heap.size + 1 := by rw [← hwB]; simp
  have hb1s := hb1.size
  have hRB : wB.heap[w1.heap.size]? = some (.cells #[.slice al N c0, .slice al2 4 c02] 110) := by rw [← hwB]; exact heap_new' _ _ _ rfl
  obtain ⟨x0, x1, _, _⟩ := box2 hRB
  have hvB : Lv wB (.slice al N c0) (cs.map fV2) := by
    have := ((HV.out.below (Nat.le_refl _) HBA.out).below (Nat.le_refl _) hb1).below (Nat.le_refl _) hbB
    rw [HN.out] at this; exact this
  have hl2B := hl2.below (Nat.le_refl _) hbB
  have hone : ∀ (l : List (Nat × Array Value)), ∀ u ∈ l.map fV2, u.oneCell' = true := fun l u hu => by
    obtain ⟨z, _, rfl⟩ := List.mem_map.1 hu
    rfl
  have CC := Lib.hid (sconcat_row w1.heap.size wB _ _ (cs.map fV2) ([c1, (120, #[.pointer (some ⟨wA.heap.size, 0, none⟩), .pointer (some ⟨wA.heap.size + 1, 0, none⟩)]), c3, c4].map fV2) hvB hl2B (by rw [List.length_map]; omega) (by simp) (hone _) (hone _) x0 x1)
  have HBB := Lib.hid hbB; have HSB := Lib.hid hsB; have HC1 := Lib.hid hc1; have HC3 := Lib.hid hc3; have HC4 := Lib.hid hc4; have HK1 := Lib.hid hk1; have HK2 := Lib.hid hk2; have HB1 := Lib.hid hb1
  clear hbB hsB hRB x0 x1 hvB hl2B hone hl2 hc1 hc3 hc4 hk1 hk2 hb1
  go_wp2_with fail
  (with_reducible refine CC.out.mono ?_)
  rintro e w2 ⟨v3, rfl, hown, hb2⟩
  have hge := ownNone hown
  have hl3 := Lv.own hown
  rw [← List.map_append] at hl3
  obtain ⟨all, hall⟩ : ∃ all, cs ++ [c1, (120, #[.pointer (some ⟨wA.heap.size, 0, none⟩), .pointer (some ⟨wA.heap.size + 1, 0, none⟩)]), c3, c4] = all := ⟨_, rfl⟩
  rw [hall] at hl3
  have hM : all.length = N + 4 := by rw [← hall, List.length_append, HNS.out]; rfl
  have hM2 : (all.map fV2).length = N + 4 := by rw [List.length_map, hM]
  have HALL := Lib.hid hall
  have hNl : N ≤ 100 := by rw [HNS.out]; exact hlen
  rcases hl3 with ⟨_, h0⟩ | ⟨gb, go, cc, rfl, hcc, hlt, hcell⟩
  · rw [h0] at hM2; cases hM2
  have hgb := hge gb rfl
  rw [hM2] at hcc hcell ⊢
  have hD' : ∀ k, (D k ∨ k = wA.heap.size + 1) → k < wB.heap.size := fun k hk => by
    rw [HSB.out]
    rcases hk with hk | hk
    · have := HDD.out k hk
      have := HSA.out
      omega
    · have := HK2.out
      have := (Array.getElem?_eq_some_iff.1 this).1
      omega
  have hEall : ∀ c ∈ all, Ent c.1 := fun c hc => by
    rw [← hall] at hc
    rcases List.mem_append.1 hc with hc | hc
    · exact HEE.out c hc
    · simp only [List.mem_cons, List.mem_nil_iff, or_false] at hc
      rcases hc with rfl | rfl | rfl | rfl
      · exact HC1.out.ent
      · exact ent_red1
      · exact HC3.out.ent
      · exact HC4.out.ent
  have hbw1 : Below w.heap.size w w1 := HBA.out.trans (HB1.out.mono HBA.out.size)
  have hbwB : Below w.heap.size w wB := hbw1.trans (HBB.out.mono hbw1.size)
  have hbw2 : Below w.heap.size w w2 := hbwB.trans (hb2.mono hbwB.size)
  have hb02 : Below w0.heap.size w0 w2 := below1 HW.out hbw2
  have hb12 : Below w1.heap.size w1 w2 := HBB.out.trans (hb2.mono HBB.out.size)
  have hst : Steps w0 (fun k => D k ∨ k = wA.heap.size + 1) (o = none) all (fun W' => o ≠ none ∧ W'.heap[Br]? = some (.cells #[.string (oN o), .string (oD o)] 23)) w2 := by
    rw [← hall]
    refine Steps.append (Steps.mono ?_ (Steps.weak (fun k h => .inl h) (Steps.keep hb02 (HHS.out w2 hbw2))))
    rintro W' ⟨⟨ho, hr⟩, hk0, hb⟩
    have hk : KD (fun k => D k ∨ k = wA.heap.size + 1) w2 W' := hk0.weak (fun k _ h => .inl h)
    have hnd : ¬ (D wA.heap.size ∨ wA.heap.size = wA.heap.size + 1) := fun h => by
      rcases h with h | h
      · have := HDD.out _ h
        have := HSA.out
        omega
      · omega
    exact red_steps _ w0 W' Br (wA.heap.size + 1) wA.heap.size c1 c3 c4 a b o ho hsa hsb (.inl dr) (.inr rfl) hnd (fun e => by have := HDD.out _ dr; have := HSA.out; omega) hb (HD00.out _ dr) (by have := HSA.out; have := HW0.out; omega) HT.out
      ((HC1.out.below hb12).keep hk) ((HC3.out.below hb12).keep hk) ((HC4.out.below hb12).keep hk)
      (hk.cell hnd ((hb12.cell (p := ⟨wA.heap.size, 0, none⟩) (block_lt_of_cell HK1.out)).trans HK1.out))
      hr (hk0.block (fun h => by have := HDD.out _ h; have := HSA.out; omega) (bl_up HK2.out hb12))
  -- the result's own cells
  have hRX : w2.heap[w.heap.size]? = some (.cells #[.string ⟨#[]⟩, .string ⟨#[]⟩] 23) := bl_up (bl_up HRA.out HB1.out) hb12
  have hDX : ¬ (D w.heap.size ∨ w.heap.size = wA.heap.size + 1) := fun h => by
    rcases h with h | h
    · have := HDD.out _ h
      omega
    · have := HSA.out
      omega
  have hDg : ¬ (D gb ∨ gb = wA.heap.size + 1) := fun h => by have := hD' _ h; omega
  have KR := Lib.hid (fun W' (hk : KD (fun k => D k ∨ k = wA.heap.size + 1) w2 W') => hk.block hDX hRX)
  have KG := Lib.hid (fun W' (hk : KD (fun k => D k ∨ k = wA.heap.size + 1) w2 W') k (hk4 : k < N + 4) c (hc : all[k]? = some c) => hk.cell (p := ⟨gb, go + k, none⟩) hDg ((hcell k hk4).trans (by rw [List.getElem?_map, hc]; rfl)))
  have HB02 := Lib.hid hb02; have HST := Lib.hid hst; have HEA := Lib.hid hEall; have HM := Lib.hid hM
  have hNI : (N : Int) ≤ 100 := by omega
  have hN4 : ((N + 4 : Nat) : Int) = (N : Int) + 4 := by omega
  have HWD := Lib.hid (fun W' (hk : KD (fun k => D k ∨ k = wA.heap.size + 1) w2 W') => show KD D w W' from ((KD.of_below hbw2).trans hk).weak (fun k hk h => by
    rcases h with h | h
    · exact h
    · have := HSA.out
      omega))
  generalize hDD : (fun k => D k ∨ k = wA.heap.size + 1) = DD at *
  clear hM2 hcell hDX hDg hRX hb02 hst hEall hM hall hb12 hbw2 hbwB hbw1 hD' hlt hge hown hb2 hDD
  go_wp2_with fail
  go_loopw [14] (fun iv wr => BldR w0 DD (o = none) all (fun W' => o ≠ none ∧ W'.heap[Br]? = some (.cells #[.string (oN o), .string (oD o)] 23)) w2 iv wr) (fun iv _ => N + 4 - (intOf iv).toNat)
  case atStart => exact ⟨0, Nat.zero_le _, rfl, KD.refl _ _, HB02.out, HST.out⟩
  case round =>
    obtain ⟨k, hkM, rfl, hkd, hbk, hsk⟩ := hrel
    have HKD := Lib.hid hkd; have HBK := Lib.hid hbk
    by_cases hlt : k < N + 4
    · have hka : k < all.length := by rw [HM.out]; exact hlt
      rw [List.drop_eq_getElem_cons hka] at hsk
      have hcell := KG.out wr hkd k hlt _ (List.getElem?_eq_getElem hka)
      have hent := HEA.out _ (List.getElem_mem hka)
      have HSK := Lib.hid (show Calls Tryz.prog (all[k]).1 (all[k]).2 wr (StepOut w0 DD (o = none) (Steps w0 DD (o = none) (all.drop (k + 1)) _) wr) from hsk)
      generalize all[k] = c at *
      obtain ⟨f, cap⟩ := c
      have hent' : ∀ args w, (callFunc f args).run Tryz.prog w = .ok (.enter f args) w := hent
      have hkI : (k : Int) < (N : Int) + 4 := by omega
      have hcell' : wr.cell? ⟨gb, go + k, none⟩ = some (.func (.func f) #[] cap) := hcell
      have hwk : IntKind.i64.wrap ((k : Int) + 1) = (k : Int) + 1 := wrap_in _ ⟨by omega, by omega⟩
      clear hsk hcell hent hkd hbk hka
      go_wp2_with fail
      (with_reducible refine HSK.out.mono ?_)
      rintro e w3 ⟨n, rfl, hb3, hk3, hn⟩
      have HB3 := Lib.hid hb3; have HK3 := Lib.hid (HKD.out.trans hk3)
      obtain ⟨r1, r2, r3, r4⟩ := box2 (KR.out _ HK3.out)
      clear hb3 hk3 hent' hcell'
      rcases hn with ⟨rfl, hs3⟩ | ⟨hn, hbad⟩
      · have HS3 := Lib.hid hs3
        clear hs3 r1 r2 r3 r4
        go_wp2
        go_roundw
        case rel => exact ⟨k + 1, by rw [HM.out]; omega, by go_num, HK3.out, HB3.out, HS3.out⟩
        case measure => simp [intOf]; omega
      · have hnb : (n != 0) = true := by simpa using hn
        have HBAD := Lib.hid hbad
        have hput := box2 (put2_heap (KR.out _ HK3.out) (.string ⟨#[]⟩) (.string ⟨#[]⟩))
        obtain ⟨s1, s2, _, _⟩ := hput
        clear hbad hn
        go_wp2
        refine bodyPost_ret (v := .tuple #[.agg #[.string ⟨#[]⟩, .string ⟨#[]⟩], .int .i64 40]) (by simp [results, Tryz.results60, go_sem, s1, s2]) rfl ?_
        have h0 := HBAD.out
        rw [h0]
        exact ⟨rfl, put2_below HB3.out HW0.out _ _, kd_put2 (HWD.out _ HK3.out) _ _⟩
    · have hkE : k = N + 4 := by have := HM.out; omega
      subst hkE
      rw [List.drop_eq_nil_of_le (by rw [HM.out]; exact Nat.le_refl _)] at hsk
      obtain ⟨hno, hrr⟩ := (show o ≠ none ∧ wr.heap[Br]? = some (.cells #[.string (oN o), .string (oD o)] 23) from hsk)
      obtain ⟨z1, z2, _, _⟩ := box2 hrr
      obtain ⟨r1, r2, r3, r4⟩ := box2 (KR.out _ HKD.out)
      obtain ⟨s1, s2, _, _⟩ := box2 (put2_heap (KR.out _ HKD.out) (.string (oN o)) (.string (oD o)))
      have HNO := Lib.hid hno
      obtain ⟨xN, hxN⟩ : ∃ xN, oN o = xN := ⟨_, rfl⟩
      obtain ⟨xD, hxD⟩ : ∃ xD, oD o = xD := ⟨_, rfl⟩
      rw [hxN] at z1 s1 s2
      rw [hxD] at z2 s1 s2
      have HXN := Lib.hid hxN; have HXD := Lib.hid hxD
      clear hkd hbk hsk hno hrr hxN hxD hlt hkM
      go_wp2
      refine bodyPost_ret (v := .tuple #[.agg #[.string xN, .string xD], .int .i64 0]) (by simp [results, Tryz.results60, go_sem, s1, s2]) rfl ?_
      refine ⟨?_, put2_below HBK.out HW0.out _ _, kd_put2 (HWD.out _ HKD.out) _ _⟩
      rw [HXN.out, HXD.out, show oE o = 0 from by
        have := HNO.out
        cases o with
        | none => exact absurd rfl this
        | some q => rfl]
end Go.Proofs.YtcjcafekacceiaaGreatDoor
