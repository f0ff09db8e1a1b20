/- slices.SortedFunc over what yields a set of cells. -/
import Derived.Test.YtdomgielpofbhaaSo
namespace Go.Proofs.Ytdomgielpofbhaa
open Go.RowKit Go.Shelf Go.Maps
attribute [local go_sem] Oper.semAt_some
set_option linter.unusedSimpArgs false
set_option linter.unusedVariables false
set_option maxRecDepth 100000 in
set_option maxHeartbeats 2000000 in
theorem sorted_in (n : Nat) (hn : 4 ≤ n) (g : Nat) (lb : Array Value) (eg : ∀ args w, (callFunc g args).run Try.prog w = .ok (.enter g args) w)
    (xs : List Cel) (h0 : 0 < xs.length) (hN : xs.length ≤ 3000) (Sp : List Cel → Prop) (w : World) (hseq : SeqStopsK Fence.wide (n - 1 - 1 - 1) Try.prog g lb encK KeepsWalks (fun ss => ss.Nodup ∧ ∀ c, c ∈ ss ↔ c ∈ xs) Sp xs.length w) :
    CallsIn Fence.wide n Try.prog 41 #[.func (.func g) #[] lb, .func (.func 43) #[] #[]] w fun e w' => ∃ al l c, e = .returned (.slice al l.length c) ∧ Cs w' al l.length l ∧ Srt l ∧ (∀ c, c ∈ l ↔ c ∈ xs) ∧ Below w.heap.size w w' := by
  have h1 : 1 ≤ n := by omega
  have HC := Lib.hid (collect_in (n - 1) (by omega) g lb eg _ Sp xs.length hN w hseq)
  have HX := Lib.hid (And.intro h0 hN)
  clear hseq eg h0 hN
  have hf48 : Fence.wide.fn 48 := trivial
  have hf49 : Fence.wide.fn 49 := trivial
  refine callsIn_of_wp Try.func41 rfl trivial ?_ rfl
  simp only [Try.ntmps41, List.size_toArray, List.length_cons, List.length_nil, Nat.reduceAdd, Nat.reduceSub, Array.replicate_succ, Array.replicate_zero, List.push_toArray, List.append_toArray, List.nil_append, List.cons_append]
  gi_wp2_with fail
  (with_reducible refine HC.out.mono ?_)
  rintro e w1 ⟨v, ss, rfl, ⟨hn1, hn2⟩, hrow, hb⟩
  obtain ⟨c, hc⟩ : ∃ c, c ∈ xs := List.exists_mem_of_length_pos HX.out.1
  have hss : 0 < ss.length := List.length_pos_of_mem ((hn2 c).2 hc)
  have hle : ss.length ≤ 3000 := Nat.le_trans (srt_le hn1 (m := xs) fun d hd => (hn2 d).1 hd) HX.out.2
  obtain ⟨q, cap, cur, rfl, hq0, hq1, hq2⟩ : ∃ q cap cur, v = .slice (some ⟨q, 0, none⟩) ss.length cap ∧ w.heap.size ≤ q ∧ w1.heap[q]? = some (.cells cur 38 (0, 0)) ∧ cur.toList.take (ss.length * 2) = cvs ss := by
    rcases hrow.2 with ⟨_, hz⟩ | ⟨q, cap, cur, h1, h2, h3, _, _, _, h6⟩
    · omega
    · exact ⟨q, cap, cur, h1, h2, h3, h6⟩
  have HB := Lib.hid hb
  have HQ := Lib.hid hq0
  have HQB := Lib.hid (show q < w1.heap.size from (Array.getElem?_eq_some_iff.1 hq1).1)
  have HM := Lib.hid hn2
  have HLE := Lib.hid hle
  have HS := Lib.hid (sortFunc_any q cap cur ss hn1 hle w1 hq1 hq2)
  clear hb hq0 hq1 hq2 hrow hn1 hn2 hss hle hc
  gi_wp2_with fail
  (with_reducible refine (callsIn_wide.2 HS.out).mono ?_)
  rintro e w2 ⟨rfl, l, h1', h2', h3', h4', h5'⟩
  have HR := Lib.hid (And.intro h1' (And.intro h2' (And.intro h3' (And.intro h4' h5'))))
  clear h1' h2' h3' h4' h5'
  gi_wp2
  go_ret
  obtain ⟨k1, k2, k3, k4, k5⟩ := HR.out
  refine ⟨some ⟨q, 0, none⟩, l, cap, by rw [k3]; rfl, ⟨rfl, by rw [k3]; exact HLE.out, .inr ⟨q, rfl, Nat.lt_of_lt_of_le HQB.out k5.size, k4⟩⟩, k1, fun c => (k2 c).trans (HM.out c), ?_⟩
  exact HB.out.grown k5 HB.out.size (fun k e => by cases e; exact HQ.out)
end Go.Proofs.Ytdomgielpofbhaa
