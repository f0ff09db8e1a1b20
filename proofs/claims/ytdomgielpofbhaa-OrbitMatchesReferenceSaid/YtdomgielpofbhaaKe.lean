/- maps.Keys over a set of cells. -/
import Derived.RangeFuncOne
import Derived.Test.YtdomgielpofbhaaMk
namespace Go.Proofs.Ytdomgielpofbhaa
open Go.RowKit Go.Shelf Go.Maps
attribute [local go_sem] Oper.semAt_some
set_option linter.unusedSimpArgs false
set_option linter.unusedVariables false
/-- A block that holds a set of cells. -/
abbrev Own7 (W : World) (b nn : Nat) (xs : List Cel) : Prop := W.ownsMap Try.prog 38 (plainElem Try.prog 4) b nn (setD xs)
theorem coll_room {xs ss : List Cel} {left : Lit → Bool} (h : Coll xs left ss) {c : Cel} (hc : c ∈ xs) (hl : left (klC c) = true) : ss.length < xs.length := by
  have h2 := coll_step h hc hl
  have := srt_le h2.1 (m := xs) (fun d hd => ((h2.2 d).1 hd).1)
  rw [List.length_append] at this
  exact this
set_option maxRecDepth 100000 in
set_option maxHeartbeats 2000000 in
theorem keys1_in (n : Nat) (hn : 1 ≤ n) (l Bm b nn : Nat) (xs : List Cel) (J Jx : List Cel → World → Prop)
    (hY : ∀ pre x W, J pre W → pre.length < xs.length → YieldAt Fence.wide (n - 1) Try.prog l (encK x) W fun e W' =>
      (e = .returned (.bool true) ∧ J (pre ++ [x]) W' ∧ KeepsWalks W W') ∨ (e = .returned (.bool false) ∧ Jx (pre ++ [x]) W'))
    (W : World) (hJ : AbidesFrom W.heap.size J) (hm : W.cell? ⟨Bm, 0, none⟩ = some (.map (some b))) (hown : Own7 W b nn xs) (h0 : J [] W) :
    CallsIn Fence.wide n Try.prog 50 #[.func (.yield l) #[] #[], .pointer (some ⟨Bm, 0, none⟩)] W fun e W' => (∃ v, e = .returned v) ∧
      ((∃ ss, (ss.Nodup ∧ ∀ c, c ∈ ss ↔ c ∈ xs) ∧ J ss W') ∨ (∃ pre, (pre.Nodup ∧ ∀ c ∈ pre, c ∈ xs) ∧ Jx pre W')) := by
  have h1n : 1 ≤ n := hn
  have HY := Lib.hid hY
  have HJ := Lib.hid hJ
  have H0 := Lib.hid h0
  clear hY hJ h0
  refine callsIn_of_wp Try.func50 rfl trivial ?_ rfl
  simp only [Try.ntmps50, List.size_toArray, List.length_cons, List.length_nil, Nat.reduceAdd, Nat.reduceSub, Array.replicate_succ, Array.replicate_zero, List.push_toArray, List.append_toArray, List.nil_append, List.cons_append]
  gi_wp2_with (first
    | (gi_at_range; refine wpListIn_range_own _ rfl _ 69 rfl 38 4 lawCell Try.underlying69 _ b nn _ rfl hown ?_; intro w0 hrg0 hg0 hs0)
    | gi_in)
  go_frame
  have HR0 := Lib.hid hrg0
  have HJ0 := Lib.hid (HJ.out [] W w0 none H0.out hg0 (fun r e => by cases e))
  clear hrg0 hg0 hs0 hown hm H0
  gi_loopw [3] (fun _ wr => ∃ (left : Lit → Bool) (cnt : Nat) (ss : List Cel), wr.ranges Try.prog 38 (plainElem Try.prog 4) b W.heap.size nn (setD xs) left cnt ∧ Coll xs left ss ∧ J ss wr)
    (fun _ wr => wr.rangeLeft b W.heap.size)
  case atStart =>
    exact ⟨_, _, [], HR0.out, coll_start xs, HJ0.out⟩
  case round =>
    obtain ⟨left, cnt, ss, hrg, hC, hJs⟩ := hrel
    have HC := Lib.hid hC
    have HJs := Lib.hid hJs
    have HRG := Lib.hid hrg
    clear hC hJs HR0 HJ0
    gi_wp2_with (first
      | (gi_at_next; refine wpListIn_next_ranges _ rfl _ rfl 38 lawCell (plainElem Try.prog 4) (fun v : Value => v) (fun v : Value => v) (fun key kl hk => ⟨key, rfl⟩) (fun v _ _ => ⟨v, rfl⟩) b W.heap.size nn _ _ _ rfl hrg ?_ ?_)
      | gi_in)
    · intro hc0 hl0
      have HL := Lib.hid hl0
      clear hl0 hrg hc0
      gi_wp2
      refine bodyPost_end (results_none rfl _ _ _) rfl ?_
      exact ⟨⟨_, rfl⟩, .inl ⟨ss, ⟨HC.out.1, fun c => by rw [HC.out.2, HL.out]; simp⟩, HJs.out⟩⟩
    · intro key c kl yd yp w2 cnt2 hkey hlk hv hat hrg2 hlt hg2 hs2 hen
      obtain ⟨x, hx, rfl⟩ := (has_setD xs kl).1 (has_true_of_atKey hat)
      obtain rfl : key = KV x := lawCell.inj hkey (keyOf_cell x)
      have HJ2 := Lib.hid (HJ.out ss wr w2 (some W.heap.size) HJs.out hg2 (fun r e => by cases e; exact ⟨Nat.le_refl _, hrg.iter_walk⟩))
      have HRG2 := Lib.hid hrg2
      have HLT := Lib.hid hlt
      have HC2 := Lib.hid (coll_step HC.out hx hlk)
      have HRM := Lib.hid (coll_room HC.out hx hlk)
      clear hkey hlk hv hat hrg2 hlt hg2 hs2 hrg
      obtain ⟨w3, hw3⟩ : ∃ w3, w2.alloc (.cells #[iV x.1.1, iV x.1.2] 38) = w3 := ⟨_, rfl⟩
      have hb3 : Below w2.heap.size w2 w3 := by rw [← hw3]; exact (Below.refl _ _).alloc (Nat.le_refl _) _
      have HJ3 := Lib.hid (HJ.out ss w2 w3 none HJ2.out (grown_of_below hb3) (fun r e => by cases e))
      have HRG3 := Lib.hid (World.ranges.of_walks HRG2.out (show KeepsWalks w2 w3 from by rw [← hw3]; exact KeepsWalks.alloc _ _))
      obtain ⟨fn, tmps, assign, body, hyy, hR⟩ := HY.out ss x w3 HJ3.out HRM.out
      have hbx : BX w3 w2.heap.size #[iV x.1.1, iV x.1.2] 38 := by rw [← hw3]; exact BX.new rfl
      have q0 := hbx.cell 0
      have q1 := hbx.cell 1
      clear hb3 hbx
      dsimp only [encK] at hyy
      gi_wp2
      clear hyy hen q0 q1
      refine hR.mono ?_
      rintro e W3 (⟨rfl, hJ3, hk3⟩ | ⟨rfl, hJx3⟩)
      · have HJ4 := Lib.hid hJ3
        have HRG4 := Lib.hid (World.ranges.of_walks HRG3.out hk3)
        have HME := Lib.hid (show W3.rangeLeft b W.heap.size < wr.rangeLeft b W.heap.size from by rw [HRG4.out.left_eq, HRG.out.left_eq]; exact HLT.out)
        clear hJ3 hk3
        gi_wp2
        exact ⟨⟨_, cnt2, ss ++ [x], HRG4.out, HC2.out, HJ4.out⟩, HME.out⟩
      · have HJ4 := Lib.hid hJx3
        clear hJx3
        gi_wp2
        refine bodyPost_ret (results_none rfl _ _ _) rfl ?_
        exact ⟨⟨_, rfl⟩, .inr ⟨ss ++ [x], ⟨HC2.out.1, fun d hd => ((HC2.out.2 d).1 hd).1⟩, HJ4.out⟩⟩
/-- maps.Keys: the map is boxed. -/
theorem keys_in (F : Fence) (n : Nat) (hf : F.fn 42) (hro : F.round = none) (mb : Option Nat) (w : World) :
    CallsIn F n Try.prog 42 #[.map mb] w fun e w' => e = .returned (.func (.func 50) #[] #[.pointer (some ⟨w.heap.size, 0, none⟩)]) ∧ w' = w.alloc (.cells #[.map mb] 69) := by
  refine callsIn_of_wp Try.func42 rfl hf ?_ hro
  simp only [Try.ntmps42, List.size_toArray, List.length_cons, List.length_nil, Nat.reduceAdd, Nat.reduceSub, Array.replicate_succ, Array.replicate_zero, List.push_toArray, List.append_toArray, List.nil_append, List.cons_append]
  gi_wp2
  go_ret
  exact ⟨rfl, rfl⟩
theorem keys_stops (n : Nat) (hn : 1 ≤ n) (Bm b nn : Nat) (xs : List Cel) (w : World) (hBm : Bm < w.heap.size) (hm : w.cell? ⟨Bm, 0, none⟩ = some (.map (some b))) (hown : Own7 w b nn xs) :
    SeqStopsK Fence.wide n Try.prog 50 #[.pointer (some ⟨Bm, 0, none⟩)] encK KeepsWalks (fun ss => ss.Nodup ∧ ∀ c, c ∈ ss ↔ c ∈ xs) (fun pre => pre.Nodup ∧ ∀ c ∈ pre, c ∈ xs) xs.length w :=
  fun l J Jx W hW hJ _ hY h0 => keys1_in n hn l Bm b nn xs J Jx hY W hJ ((hW.cell (p := ⟨Bm, 0, none⟩) hBm).trans hm) (hown.kept (grown_of_below hW) (by simp)) h0
end Go.Proofs.Ytdomgielpofbhaa
