/- Cells as keys of a map; a set of cells; maps.Keys over it. -/
import Derived.DeepKeys5
import Derived.Maps.Views
import Derived.Sort.MapsRangeIn
import Derived.Sort.KeysCollected
import Derived.Test.YtdomgielpofbhaaCe
namespace Go.Proofs.Ytdomgielpofbhaa
open Go.RowKit Go.Shelf Go.Maps
attribute [local go_sem] Oper.semAt_some
set_option linter.unusedSimpArgs false
set_option linter.unusedVariables false
theorem laidOut : laidOutB Try.prog = true := by kernel_rfl
theorem rowCell : (38 : TypeId) < Try.prog.types.size := of_decide_eq_true (by kernel_rfl)
theorem wideCell : (match Try.prog.underlying 38 with | some (.array _ _) | some (.struct _) => true | _ => false) = true := by rw [Try.underlying38]
set_option maxRecDepth 100000 in
theorem lawCell : Keyed Try.prog 38 := Keyed.of_law (deep_law_laid laidOut (m := 2) (by omega) rowCell (by kernel_rfl) wideCell)
/-- What a cell reads as, among a map's keys. -/
def klC (c : Cel) : Lit := .string (keyBytes [.int .i64 (c.1.1 : Int), .int .i64 (c.1.2 : Int)])
theorem cellsOfCell : Try.prog.cellsOf 38 = 2 := by kernel_rfl
theorem cellsOfInt : Try.prog.cellsOf 3 = 1 := by kernel_rfl
theorem keyTypeCell : Try.prog.keyType 38 = true := by kernel_rfl
theorem wf_nat {n : Nat} (h : n < 48) : (Lit.int .i64 (n : Int)).wf = true := by
  have h1 : (-9223372036854775808 : Int) ≤ n := by omega
  have h2 : (n : Int) ≤ 9223372036854775807 := by omega
  simp [Lit.wf, IntKind.min, IntKind.max, IntKind.signed, IntKind.bits, h1, h2]
theorem keyOf_cell (c : Cel) : keyOf Try.prog 38 (KV c) = some (klC c) := by
  obtain ⟨k, hk⟩ : ∃ k, Try.prog.types.size = k + 1 := Nat.exists_eq_succ_of_ne_zero (Nat.ne_of_gt (Nat.lt_of_le_of_lt (Nat.zero_le _) rowCell))
  have hx := wf_nat c.2.1
  have hy := wf_nat (Nat.lt_trans c.2.2 (by decide))
  unfold keyOf
  rw [Try.underlying38, hk]
  simp only [keyTypeCell, Value.formed, Try.underlying38, cellsOfCell, Value.cells, Program.keyLits]
  simp [cellsOfInt, Program.keyLits, Try.underlying3, hx, hy, klC]
theorem klC_inj {a b : Cel} (h : klC a = klC b) : a = b := by
  have := lawCell.inj (keyOf_cell a) (h ▸ keyOf_cell b)
  simp only [Value.agg.injEq, Array.mk.injEq, List.cons.injEq, Value.int.injEq, and_true, true_and] at this
  exact cel_ext (by omega) (by omega)
theorem klC_key (c : Cel) : WideAt.IsKeyLit (klC c) := lawCell.key (keyOf_cell c)
/-- A set of cells, as a map reads. -/
def setD (xs : List Cel) : DataW Unit := xs.foldl (fun D c => D.put (klC c) (.lit (.bool true))) (.map [])
theorem setD_snoc (xs : List Cel) (c : Cel) : setD (xs ++ [c]) = (setD xs).put (klC c) (.lit (.bool true)) := by simp [setD]
theorem setD_map : ∀ (xs : List Cel) (D : DataW Unit), IsMap D → IsMap (xs.foldl (fun D c => D.put (klC c) (.lit (.bool true))) D)
  | [], D, h => h
  | c :: xs, D, h => setD_map xs _ (h.put _ _)
theorem has_foldl : ∀ (xs : List Cel) (D : DataW Unit), IsMap D → ∀ kl, has (xs.foldl (fun D c => D.put (klC c) (.lit (.bool true))) D) kl = true ↔ has D kl = true ∨ ∃ c ∈ xs, kl = klC c
  | [], D, h, kl => by simp
  | c :: xs, D, h, kl => by
    rw [List.foldl_cons, has_foldl xs _ (h.put _ _) kl]
    by_cases e : kl = klC c
    · subst e
      simp [has_put_same h (klC_key c)]
    · rw [has_put_other e]
      simp only [List.mem_cons]
      constructor
      · rintro (h1 | ⟨d, hd, e2⟩)
        · exact .inl h1
        · exact .inr ⟨d, .inr hd, e2⟩
      · rintro (h1 | ⟨d, rfl | hd, e2⟩)
        · exact .inl h1
        · exact absurd e2 e
        · exact .inr ⟨d, hd, e2⟩
theorem has_setD (xs : List Cel) (kl : Lit) : has (setD xs) kl = true ↔ ∃ c ∈ xs, kl = klC c := by
  unfold setD
  rw [has_foldl xs _ isMap_empty]
  simp [has]
theorem has_cell (xs : List Cel) (c : Cel) : has (setD xs) (klC c) = true ↔ c ∈ xs := by
  rw [has_setD]
  constructor
  · rintro ⟨d, hd, e⟩; rw [klC_inj e]; exact hd
  · intro h; exact ⟨c, h, rfl⟩
/-- What has come of the keys of a set. -/
def Coll (xs : List Cel) (left : Lit → Bool) (ss : List Cel) : Prop := ss.Nodup ∧ ∀ c, c ∈ ss ↔ (c ∈ xs ∧ left (klC c) = false)
theorem coll_start (xs : List Cel) : Coll xs (has (setD xs)) [] := ⟨List.nodup_nil, fun c => by
  have := has_cell xs c
  cases h : has (setD xs) (klC c)
  · rw [h] at this; simp at this; simp [this]
  · simp⟩
theorem coll_step {xs ss : List Cel} {left : Lit → Bool} (h : Coll xs left ss) {c : Cel} (hc : c ∈ xs) (hl : left (klC c) = true) : Coll xs (fun z => left z && !z.sameKey (klC c)) (ss ++ [c]) := by
  have hnew : c ∉ ss := fun hx => by have := ((h.2 c).1 hx).2; rw [hl] at this; cases this
  refine ⟨List.nodup_append.2 ⟨h.1, by simp, fun a ha b hb => by simp at hb; subst hb; exact fun e => hnew (e ▸ ha)⟩, fun d => ?_⟩
  by_cases hd : d = c
  · subst hd; simp [hc, WideAt.sameKey_self (klC_key d)]
  · have : (klC d).sameKey (klC c) = false := sameKey_ne (fun e => hd (klC_inj e))
    simp [h.2 d, hd, this]
end Go.Proofs.Ytdomgielpofbhaa
