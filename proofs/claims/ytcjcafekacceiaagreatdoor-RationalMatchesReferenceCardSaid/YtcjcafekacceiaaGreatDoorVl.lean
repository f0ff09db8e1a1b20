/- valid and its closure, walked; the steps of it. -/
import Derived.Test.YtcjcafekacceiaaGreatDoorBd
namespace Go.Proofs.YtcjcafekacceiaaGreatDoor
open Go.RowKit

abbrev Pr := ByteArray × ByteArray
def fVp (p : Pr) : Bool := fV p.1 p.2
def PrCells (W : World) (gv : Nat) (L : List Pr) : Prop := ∀ i p, L[i]? = some p → W.cell? ⟨gv, i * 2, none⟩ = some (.string p.1) ∧ W.cell? ⟨gv, i * 2 + 1, none⟩ = some (.string p.2)
/-- The closure that valid makes. -/
def ValC (D : Nat → Prop) (W : World) (c : Nat × Array Value) (L : List Pr) : Prop :=
  ∃ Bf gv : Nat, c = (99, #[.pointer (some ⟨Bf, 0, none⟩)]) ∧ ¬ D Bf ∧ ¬ D gv ∧ W.cell? ⟨Bf, 0, none⟩ = some (.slice (some ⟨gv, 0, none⟩) L.length L.length) ∧ PrCells W gv L
theorem ValC.keep {D : Nat → Prop} {W W' : World} {c : Nat × Array Value} {L : List Pr} (h : ValC D W c L) (hk : KD D W W') : ValC D W' c L := by
  obtain ⟨Bf, gv, hc, d1, d2, h1, h2⟩ := h
  exact ⟨Bf, gv, hc, d1, d2, hk.cell d1 h1, fun i p hp => ⟨hk.cell (p := ⟨gv, i * 2, none⟩) d2 (h2 i p hp).1, hk.cell (p := ⟨gv, i * 2 + 1, none⟩) d2 (h2 i p hp).2⟩⟩
theorem ValC.below {D : Nat → Prop} {W W' : World} {c : Nat × Array Value} {L : List Pr} (h : ValC D W c L) (hb : Below W.heap.size W W') : ValC D W' c L := h.keep (.of_below hb)
theorem ent_val1 : Ent 99 := enters_of Tryz.func99 (by kernel_rfl) rfl
theorem ValC.ent {D : Nat → Prop} {W : World} {c : Nat × Array Value} {L : List Pr} (h : ValC D W c L) : Ent c.1 := by
  obtain ⟨_, _, rfl, _⟩ := h
  exact ent_val1
def ValMade (D : Nat → Prop) (w : World) (L : List Pr) (e : Ending) (w' : World) : Prop := ∃ c, e = .returned (fV2 c) ∧ ValC D w' c L ∧ Below w.heap.size w w'
set_option maxHeartbeats 1000000 in
theorem validm_any (D : Nat → Prop) (gv n : Nat) (L : List Pr) (w : World) (hn : L.length = n) (hD : ∀ b, D b → b < w.heap.size) (dg : ¬ D gv) (hg : gv < w.heap.size) (hp : PrCells w gv L) :
    Calls Tryz.prog 68 #[.slice (some ⟨gv, 0, none⟩) n n] w (ValMade D w L) := by
  have hmf : ∀ (fn : Fn) (first cap : Array Value) (w : World), (Instr.makeFunc fn first cap).run Tryz.prog w = .ok (.func fn first cap) w := fun _ _ _ _ => rfl
  subst hn
  have hb : Below w.heap.size w (w.alloc (.cells #[.slice (some ⟨gv, 0, none⟩) L.length L.length] 30)) := (Below.refl w.heap.size w).alloc (Nat.le_refl _) _
  have hc : (w.alloc (.cells #[.slice (some ⟨gv, 0, none⟩) L.length L.length] 30)).cell? ⟨w.heap.size, 0, none⟩ = some (.slice (some ⟨gv, 0, none⟩) L.length L.length) := (Boxed.new w 30 (.slice (some ⟨gv, 0, none⟩) L.length L.length)).cell
  have HP := Lib.hid (show ValMade D w L (.returned (.func (.func 99) #[] #[.pointer (some ⟨w.heap.size, 0, none⟩)])) (w.alloc (.cells #[.slice (some ⟨gv, 0, none⟩) L.length L.length] 30)) from
    ⟨(99, #[.pointer (some ⟨w.heap.size, 0, none⟩)]), rfl, ⟨w.heap.size, gv, rfl, fun h => by have := hD _ h; omega, dg, hc, fun i p hi => ⟨(hb.cell (p := ⟨gv, i * 2, none⟩) hg).trans (hp i p hi).1, (hb.cell (p := ⟨gv, i * 2 + 1, none⟩) hg).trans (hp i p hi).2⟩⟩, hb⟩)
  clear hb hc hp hD dg hg
  go_enter Tryz.func68, Tryz.ntmps68
  go_wp2
  go_ret
  exact HP.out

def ValOut (W : World) (L : List Pr) (e : Ending) (w' : World) : Prop := e = .returned (.int .i64 (if L.all fVp then 0 else 40)) ∧ Below W.heap.size W w'
def ValR (W : World) (L : List Pr) (iv : Value) (wr : World) : Prop := ∃ k : Nat, k ≤ L.length ∧ iv = .int .i64 k ∧ (∀ i p, i < k → L[i]? = some p → fVp p = true) ∧ Below W.heap.size W wr
set_option maxRecDepth 100000 in
set_option maxHeartbeats 2000000 in
theorem val1_any (W : World) (Bf gv n : Nat) (L : List Pr) (hn : L.length = n) (hn9 : n ≤ 100) (hc : W.cell? ⟨Bf, 0, none⟩ = some (.slice (some ⟨gv, 0, none⟩) n n)) (hp : PrCells W gv L)
    (hsz : ∀ p ∈ L, p.1.size ≤ 9223372036854775807 ∧ p.2.size ≤ 9223372036854775807) (ht : Tb W) :
    Calls Tryz.prog 99 #[.pointer (some ⟨Bf, 0, none⟩)] W (ValOut W L) := by
  have HP := Lib.hid hp; have HSZ := Lib.hid hsz; have HT := Lib.hid ht; have HN := Lib.hid hn
  have hnI : (n : Int) ≤ 100 := by omega
  clear hp hsz ht hn
  go_enter Tryz.func99, Tryz.ntmps99
  go_wp2_with fail
  go_loopw [6] (fun iv wr => ValR W L iv wr) (fun iv _ => n - (intOf iv).toNat)
  case atStart => exact ⟨0, Nat.zero_le _, rfl, fun i p hi => absurd hi (Nat.not_lt_zero _), Below.refl _ _⟩
  case round =>
    obtain ⟨k, hkn, rfl, hall, hb⟩ := hrel
    rw [HN.out] at hkn
    have HB := Lib.hid hb; have HALL := Lib.hid hall
    by_cases hlt : k < n
    · obtain ⟨p, hpk⟩ : ∃ p, L[k]? = some p := ⟨_, List.getElem?_eq_getElem (by rw [HN.out]; exact hlt)⟩
      obtain ⟨c1, c2⟩ := HP.out k p hpk
      have hc1 := (hb.cell (p := ⟨gv, k * 2, none⟩) (block_lt_of_cell c1)).trans c1
      have hc2 := (hb.cell (p := ⟨gv, k * 2 + 1, none⟩) (block_lt_of_cell c2)).trans c2
      have hmem : p ∈ L := List.mem_of_getElem? hpk
      have HPK := Lib.hid hpk
      obtain ⟨s1, s2⟩ := HSZ.out p hmem
      have HA := Lib.hid (hb.alloc hb.size (.cells #[.string p.1, .string p.2] 23))
      have CV := Lib.hid (fun W' (h : Below W.heap.size W W') => qvalid_any p.1 p.2 W' s1 s2 (HT.out.below h))
      obtain ⟨q, hq⟩ : ∃ q, fV p.1 p.2 = q := ⟨_, rfl⟩
      rw [hq] at CV
      have HQ := Lib.hid (show fVp p = q from hq)
      have hkI : (k : Int) < (n : Int) := by omega
      have hwk : IntKind.i64.wrap ((k : Int) + 1) = (k : Int) + 1 := wrap_in _ ⟨by omega, by omega⟩
      generalize p.1 = x at *
      generalize p.2 = y at *
      clear hb hall c1 c2 hmem hq hpk s1 s2
      go_wp2_with fail
      (with_reducible refine (CV.out _ HA.out).mono ?_)
      rintro e w1 ⟨rfl, hb1⟩
      have HB1 := Lib.hid (below1 HA.out hb1)
      clear hb1
      cases q with
      | true =>
        go_wp2
        go_roundw
        case rel => exact ⟨k + 1, by rw [HN.out]; omega, by go_num, fun i p' hi hp' => by
          rcases Nat.lt_or_ge i k with h | h
          · exact HALL.out i p' h hp'
          · obtain rfl : i = k := by omega
            rw [HPK.out] at hp'
            cases hp'
            exact HQ.out, HB1.out⟩
        case measure => simp [intOf]; omega
      | false =>
        have HV := Lib.hid (show L.all fVp = false from by
          rw [List.all_eq_false]
          exact ⟨p, List.mem_of_getElem? HPK.out, by rw [HQ.out]; decide⟩)
        go_wp2
        go_ret
        exact ⟨by rw [HV.out]; rfl, HB1.out⟩
    · have hkE : k = n := by omega
      subst hkE
      have HV := Lib.hid (show L.all fVp = true from by
        rw [List.all_eq_true]
        intro p hp
        obtain ⟨i, hi, rfl⟩ := List.mem_iff_getElem.1 hp
        exact HALL.out i _ (by rw [HN.out] at hi; exact hi) (List.getElem?_eq_getElem hi))
      clear hb hall hlt hkn
      go_wp2
      go_ret
      exact ⟨by rw [HV.out]; rfl, HB.out⟩
/-- The closure of valid as the first step. -/
theorem step_val {D : Nat → Prop} {w0 W : World} {c : Nat × Array Value} {L : List Pr} {bad : Prop} {cs : List (Nat × Array Value)} {P : World → Prop}
    (h : ValC D W c L) (hn9 : L.length ≤ 100) (hw : Below w0.heap.size w0 W) (hsz : ∀ p ∈ L, p.1.size ≤ 9223372036854775807 ∧ p.2.size ≤ 9223372036854775807) (ht : Tb w0)
    (hbad : L.all fVp = false → bad)
    (next : L.all fVp = true → ∀ W1, Below W.heap.size W W1 → Below w0.heap.size w0 W1 → KD D W W1 → Steps w0 D bad cs P W1) :
    Steps w0 D bad (c :: cs) P W := by
  obtain ⟨Bf, gv, rfl, _, _, h1, h2⟩ := h
  refine (val1_any W Bf gv L.length L rfl hn9 h1 h2 hsz (ht.below hw)).mono ?_
  rintro e W' ⟨rfl, hb⟩
  refine ⟨_, rfl, below1 hw hb, .of_below hb, ?_⟩
  cases hv : L.all fVp with
  | true => exact .inl ⟨rfl, next hv _ hb (below1 hw hb) (.of_below hb)⟩
  | false => exact .inr ⟨by decide, hbad hv⟩
end Go.Proofs.YtcjcafekacceiaaGreatDoor
