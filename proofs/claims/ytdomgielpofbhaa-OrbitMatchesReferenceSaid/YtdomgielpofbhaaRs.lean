/- Cells compared; the reference's SameCells. -/
import Derived.Test.YtdomgielpofbhaaAs
namespace Go.Proofs.Ytdomgielpofbhaa
open Go.RowKit Go.Shelf
set_option linter.unusedSimpArgs false
set_option linter.unusedVariables false
theorem run_eqC (a b c d : Int) (w : World) : (Op.equalIn 10000 38 (.agg #[.int .i64 a, .int .i64 b]) (.agg #[.int .i64 c, .int .i64 d])).run Try.prog w = .ok ((a == c) && (b == d)) w := by
  have u3 := Try.underlying3
  have a3 := Try.isAgg3
  have z3 := Try.sizeOf3
  have hS : Try.prog.underlying 38 = some (.struct (Try.prog.fieldsOf 38)) := by kernel_rfl
  have hp : Try.prog.stoodInHeld 38 = false := by kernel_rfl
  rw [show (10000 : Nat) = 9999 + 1 from rfl, run_equalIn_agg w 9999 38 _ _ hS hp]
  simp only [Program.fieldsOf, Try.underlying38]
  go_simp
  by_cases h1 : a = c <;> by_cases h2 : b = d <;> simp [h1, h2]
theorem cel_eq (x y : Cel) : (((x.1.1 : Int) == (y.1.1 : Int)) && ((x.1.2 : Int) == (y.1.2 : Int))) = decide (x = y) := by
  rw [Bool.eq_iff_iff, Bool.and_eq_true, beq_iff_eq, beq_iff_eq, decide_eq_true_eq]
  constructor
  · rintro ⟨h1, h2⟩; exact cel_ext (by omega) (by omega)
  · rintro rfl; exact ⟨rfl, rfl⟩
theorem run_eqK (x y : Cel) (w : World) : (Op.equalIn 10000 38 (.agg #[iV x.1.1, iV x.1.2]) (.agg #[iV y.1.1, iV y.1.2])).run Try.prog w = .ok (decide (x = y)) w := by rw [run_eqC, cel_eq]
set_option maxRecDepth 100000 in
set_option maxHeartbeats 2000000 in
theorem same_any (al bl : Option Addr) (ac bc : Nat) (l m : List Cel) (w : World) (hl : Cs w al l.length l) (hm : Cs w bl m.length m) :
    Calls Try.prog 25 #[.slice al l.length ac, .slice bl m.length bc] w (OutV w (.bool (decide (l = m)))) := by
  by_cases hn : l.length = m.length
  · have HL := Lib.hid hl
    have HM := Lib.hid hm
    have HN := Lib.hid hn
    have hb : l.length ≤ 3000 := hl.2.1
    clear hl hm
    go_enter Try.func25, Try.ntmps25
    have hne : ((l.length : Int) == (m.length : Int)) = true := by simp; omega
    clear hn
    go_wp2
    clear hne
    go_loopw [5] (fun i wr => ∃ k : Nat, k ≤ l.length ∧ i = iV k ∧ (∀ j, j < k → l[j]? = m[j]?) ∧ Below w.heap.size w wr) (fun i _ => l.length - (intOf i).toNat)
    case atStart => exact ⟨0, by omega, rfl, fun j hj => by omega, Below.refl _ _⟩
    case round =>
      obtain ⟨k, hk, rfl, hj, hB⟩ := hrel
      have HJ := Lib.hid hj
      have HB := Lib.hid hB
      clear hj hB
      have k0 : (0 : Int) ≤ k := by omega
      have k2 : (k : Int) ≤ 3000 := by omega
      by_cases hlt : k < l.length
      · have hlt2 : k < m.length := by have := HN.out; omega
        obtain ⟨x, hx⟩ : ∃ x, l[k]? = some x := ⟨_, List.getElem?_eq_getElem hlt⟩
        obtain ⟨y, hy⟩ : ∃ y, m[k]? = some y := ⟨_, List.getElem?_eq_getElem hlt2⟩
        obtain ⟨b1, rfl, hb1, hc1⟩ := HL.out.pos (by omega)
        obtain ⟨b2, rfl, hb2, hc2⟩ := HM.out.pos (by omega)
        have q1 := hc1 k x hx
        have q2 := hc2 k y hy
        have p0 := (HB.out.cell (p := ⟨b1, k * 2, none⟩) hb1).trans q1.1
        have p1 := (HB.out.cell (p := ⟨b1, k * 2 + 1, none⟩) hb1).trans q1.2
        have p2 := (HB.out.cell (p := ⟨b2, k * 2, none⟩) hb2).trans q2.1
        have p3 := (HB.out.cell (p := ⟨b2, k * 2 + 1, none⟩) hb2).trans q2.2
        have heq := run_eqK x y
        have k1 : (k : Int) < l.length := by omega
        have k3 : (k : Int) < m.length := by omega
        have HX := Lib.hid (And.intro hx hy)
        have hd : decide (k < l.length) = true := by simp; omega
        clear q1 q2 hc1 hc2 hb1 hb2 hx hy
        by_cases he : x = y
        · have HE := Lib.hid (show ∀ j, j < k + 1 → l[j]? = m[j]? from fun j hj => by
            by_cases h : j = k
            · subst h; rw [HX.out.1, HX.out.2, he]
            · exact HJ.out j (by omega))
          have hde : decide (x = y) = true := by simpa using he
          rw [hde] at heq
          clear he hde
          go_wp2_with fail
          go_quiet (fail)
          go_wp2
          exact ⟨⟨k + 1, by omega, ret_i (by omega), HE.out, HB.out.trans (below_dn nq)⟩, by simp [intOf]; omega⟩
        · have HE := Lib.hid (show decide (l = m) = false from by
            rw [decide_eq_false_iff_not]
            rintro rfl
            have := HX.out.1.symm.trans HX.out.2
            exact he (Option.some.inj this))
          have hde : decide (x = y) = false := by simpa using he
          rw [hde] at heq
          clear he hde
          go_wp2_with fail
          go_quiet (fail)
          go_wp2
          go_ret
          exact ⟨ret_bool' HE.out.symm, HB.out.trans (below_dn nq)⟩
      · obtain rfl : k = l.length := by omega
        have HE := Lib.hid (show decide (l = m) = true from by
          rw [decide_eq_true_eq]
          apply List.ext_getElem?
          intro i
          by_cases h : i < l.length
          · exact HJ.out i h
          · rw [List.getElem?_eq_none (by omega), List.getElem?_eq_none (by have := HN.out; omega)])
        have hd : decide (l.length < l.length) = false := by simp
        go_wp2
        go_ret
        exact ⟨ret_bool' HE.out.symm, HB.out⟩
  · have HE := Lib.hid (show decide (l = m) = false from by rw [decide_eq_false_iff_not]; rintro rfl; exact hn rfl)
    have hne : ((l.length : Int) == (m.length : Int)) = false := by simp; omega
    clear hl hm hn
    go_enter Try.func25, Try.ntmps25
    go_wp2
    go_ret
    exact ⟨ret_bool' HE.out.symm, Below.refl _ _⟩
end Go.Proofs.Ytdomgielpofbhaa
