/- The cells of a path at its minutes, yielded one by one. -/
import Derived.Test.YtdomgielpofbhaaPa
namespace Go.Proofs.Ytdomgielpofbhaa
open Go.RowKit Go.Shelf
attribute [local go_sem] Oper.semAt_some
set_option linter.unusedSimpArgs false
set_option linter.unusedVariables false
theorem grown_of_below {w w' : World} (h : Below w.heap.size w w') : w.grownBy w' none := ⟨h.os, h.tape, h.output, h.size, fun k hk _ => h.block k hk⟩
/-- Three blocks' cells stay. -/
def K3 (A B C : Nat) (W W' : World) : Prop := Ks A W W' ∧ Ks B W W' ∧ Ks C W W'
theorem K3.refl (A B C : Nat) (W : World) : K3 A B C W W := ⟨Ks.refl _ _, Ks.refl _ _, Ks.refl _ _⟩
theorem K3.trans {A B C : Nat} {X Y Z : World} (h : K3 A B C X Y) (k : K3 A B C Y Z) : K3 A B C X Z := ⟨h.1.trans k.1, h.2.1.trans k.2.1, h.2.2.trans k.2.2⟩
theorem ks_lt {A : Nat} {W W' : World} (h : Below W.heap.size W W') : Ks A W W' := fun i v hc => (h.cell (p := ⟨A, i, none⟩) (World.block_lt_of_cell? W ⟨A, i, none⟩ hc)).trans hc
theorem K3.next {A B C : Nat} {W W' : World} (h : Below W.heap.size W W') : K3 A B C W W' := ⟨ks_lt h, ks_lt h, ks_lt h⟩
theorem ks_b {Bn k : Nat} (W : World) (l : Nat) (o o' : Obj) (_ : k ≤ l) (ho : W.heap[l]? = some o) (hc : o.isCells = false) (_ : o.isWalk = false) : Ks Bn W (W.putObj l o') := fun i v h => by
  by_cases e : Bn = l
  · subst e
    exfalso
    cases o with
    | cells cs t fr => exact absurd hc (by simp [Obj.isCells])
    | _ => simp [World.cell?, ho] at h
  · exact (World.cell?_of_block (a := ⟨Bn, i, none⟩) (World.putObj_heap_other e)).trans h
theorem k3_t {A B C : Nat} {X Y Z : World} : K3 A B C X Y → K3 A B C Y Z → K3 A B C X Z := K3.trans
theorem k3_b {A B C k : Nat} (W : World) (l : Nat) (o o' : Obj) (h : k ≤ l) (ho : W.heap[l]? = some o) (hc : o.isCells = false) (hw : o.isWalk = false) : K3 A B C W (W.putObj l o') :=
  ⟨ks_b W l o o' h ho hc hw, ks_b W l o o' h ho hc hw, ks_b W l o o' h ho hc hw⟩
abbrev PC (o : Orb) : Array Value := #[.int .i64 o.p, .int .i64 o.f, .int .i64 o.lo, .int .i64 (o.hi - o.lo), .int .i64 o.nd, .int .i64 o.tn]
/-- What cells() hands back, and what it lays. -/
theorem cells_in (F : Fence) (n : Nat) (hf : F.fn 40) (hro : F.round = none) (o : Orb) (a b : Int) (w : World) :
    CallsIn F n Try.prog 40 #[PV o, .int .i64 a, .int .i64 b] w fun e w' => e = .returned (.func (.func 47) #[] #[.pointer (some ⟨w.heap.size + 1, 0, none⟩), .pointer (some ⟨w.heap.size + 2, 0, none⟩), .pointer (some ⟨w.heap.size, 0, none⟩)]) ∧
      w' = ((w.alloc (.cells (PC o) 63)).alloc (.cells #[.int .i64 a] 59)).alloc (.cells #[.int .i64 b] 59) := by
  refine callsIn_of_wp Try.func40 rfl hf ?_ hro
  simp only [Try.ntmps40, List.size_toArray, List.length_cons, List.length_nil, Nat.reduceAdd, Nat.reduceSub, Array.replicate_succ, Array.replicate_zero, List.push_toArray, List.append_toArray, List.nil_append, List.cons_append]
  gi_wp2
  go_ret
  exact ⟨rfl, rfl⟩
/-- The three boxes of an iterator. -/
def Bxs (W : World) (A B C : Nat) (o : Orb) (a b : Int) : Prop := W.cell? ⟨A, 0, none⟩ = some (.int .i64 a) ∧ W.cell? ⟨B, 0, none⟩ = some (.int .i64 b) ∧
  (W.cell? ⟨C, 0, none⟩ = some (.int .i64 o.p) ∧ W.cell? ⟨C, 1, none⟩ = some (.int .i64 o.f) ∧ W.cell? ⟨C, 2, none⟩ = some (.int .i64 o.lo) ∧ W.cell? ⟨C, 3, none⟩ = some (.int .i64 (o.hi - o.lo)) ∧ W.cell? ⟨C, 4, none⟩ = some (.int .i64 o.nd) ∧ W.cell? ⟨C, 5, none⟩ = some (.int .i64 o.tn))
theorem Bxs.keep {W W' : World} {A B C : Nat} {o : Orb} {a b : Int} (h : Bxs W A B C o a b) (k : K3 A B C W W') : Bxs W' A B C o a b :=
  ⟨k.1 _ _ h.1, k.2.1 _ _ h.2.1, k.2.2 _ _ h.2.2.1, k.2.2 _ _ h.2.2.2.1, k.2.2 _ _ h.2.2.2.2.1, k.2.2 _ _ h.2.2.2.2.2.1, k.2.2 _ _ h.2.2.2.2.2.2.1, k.2.2 _ _ h.2.2.2.2.2.2.2⟩
set_option maxRecDepth 100000 in
set_option maxHeartbeats 2000000 in
theorem cells1_in (n : Nat) (hn : 2 ≤ n) (l A B C : Nat) (o : Orb) (ho : okO o) (a : Int) (N : Nat) (ha : -20 ≤ a) (hN : a + (N : Int) ≤ 2000000) (J Jx : List Cel → World → Prop)
    (hY : ∀ pre x W, J pre W → pre.length < N → YieldAt Fence.wide (n - 1) Try.prog l (encK x) W fun e W' =>
      (e = .returned (.bool true) ∧ J (pre ++ [x]) W' ∧ K3 A B C W W') ∨ (e = .returned (.bool false) ∧ Jx (pre ++ [x]) W'))
    (W : World) (hJ : AbidesFrom W.heap.size J) (hB : Bxs W A B C o a (a + (N : Int))) (h0 : J [] W) :
    CallsIn Fence.wide n Try.prog 47 #[.func (.yield l) #[] #[], .pointer (some ⟨A, 0, none⟩), .pointer (some ⟨B, 0, none⟩), .pointer (some ⟨C, 0, none⟩)] W fun e W' => (∃ v, e = .returned v) ∧
      ((∃ ys, ys = trk o a N ∧ J ys W') ∨ (∃ pre, pre <+: trk o a N ∧ Jx pre W')) := by
  have h1n : 1 ≤ n := by omega
  have HY := Lib.hid hY
  have HJ := Lib.hid h0
  have HA := Lib.hid hJ
  have HB := Lib.hid hB
  have HO := Lib.hid ho
  have HN := Lib.hid (And.intro ha hN)
  have cA := hB.1
  clear hY h0 hJ hB ho ha hN
  refine callsIn_of_wp Try.func47 rfl trivial ?_ rfl
  simp only [Try.ntmps47, List.size_toArray, List.length_cons, List.length_nil, Nat.reduceAdd, Nat.reduceSub, Array.replicate_succ, Array.replicate_zero, List.push_toArray, List.append_toArray, List.nil_append, List.cons_append]
  gi_wp2
  clear cA
  gi_loopw [5] (fun r wr => ∃ k : Nat, k ≤ N ∧ r = .int .i64 (a + (k : Int)) ∧ J (trk o a k) wr ∧ Bxs wr A B C o a (a + (N : Int)))
    (fun r _ => N - (intOf r - a).toNat)
  case atStart =>
    exact ⟨0, by omega, ret_i (by omega), HJ.out, HB.out⟩
  case round =>
    obtain ⟨k, hk, rfl, hJ, hX⟩ := hrel
    clear HJ HB
    have HJ := Lib.hid hJ
    have HX := Lib.hid hX
    have c2 := hX.2.1
    obtain ⟨c3, c4, c5, c6, c7, c8⟩ := hX.2.2
    clear hJ hX
    obtain ⟨m, hm⟩ : ∃ m : Int, a + (k : Int) = m := ⟨_, rfl⟩
    have HM := Lib.hid hm
    have m0 : -20 ≤ m := by have := HN.out; omega
    have m1 : m ≤ 2000000 := by have := HN.out; omega
    obtain ⟨b, hb⟩ : ∃ b : Int, a + (N : Int) = b := ⟨_, rfl⟩
    have HE := Lib.hid hb
    rw [hb] at c2
    rw [hm]
    by_cases hlt : k < N
    · have hd : decide (m < b) = true := by simp; omega
      have CC := Lib.hid (fun V => pcell_any o m HO.out (by unfold okM; omega) V)
      clear hm hb
      have hf37 : Fence.wide.fn 37 := trivial
      gi_wp2_with fail
      (with_reducible refine (callsIn_wide.2 (CC.out _)).mono ?_)
      rintro e w1 ⟨rfl, hb1⟩
      have HJ1 := Lib.hid (HA.out _ wr w1 none HJ.out (grown_of_below hb1) (fun r e => by cases e))
      have HX1 := Lib.hid (HX.out.keep (K3.next hb1))
      have hT := Lib.hid (trk_succ o a k)
      have HP := Lib.hid (trk_pre o a (show k + 1 ≤ N by omega))
      rw [HM.out] at hT
      obtain ⟨fn, tmps, assign, body, hyy, hR⟩ := HY.out (trk o a k) (celO o m) w1 HJ1.out (by rw [trk_len]; exact hlt)
      generalize celO o m = x at *
      clear hb1 c2 c3 c4 c5 c6 c7 c8 hd HJ HX
      dsimp only [encK] at hyy
      gi_wp2
      clear hyy
      refine hR.mono ?_
      rintro e W3 (⟨rfl, hJ3, hk3⟩ | ⟨rfl, hJx3⟩)
      · have HJ3 := Lib.hid hJ3
        have HX3 := Lib.hid (HX1.out.keep hk3)
        clear hJ3 hk3
        gi_wp2
        refine ⟨⟨k + 1, by omega, ret_i (by have := HM.out; omega), by rw [hT.out]; exact HJ3.out, HX3.out⟩, ?_⟩
        have := HM.out
        simp only [intOf]; omega
      · have HJ3 := Lib.hid hJx3
        clear hJx3
        gi_wp2
        refine bodyPost_ret (results_none rfl _ _ _) rfl ?_
        exact ⟨⟨_, rfl⟩, .inr ⟨trk o a k ++ [x], by rw [← hT.out]; exact HP.out, HJ3.out⟩⟩
    · obtain rfl : k = N := by omega
      have hd : decide (m < b) = false := by simp; omega
      gi_wp2
      refine bodyPost_end (results_none rfl _ _ _) rfl ?_
      exact ⟨⟨_, rfl⟩, .inl ⟨_, rfl, HJ.out⟩⟩
/-- cells() hands back a value that yields the path's cells. -/
theorem cells_stops (n : Nat) (hn : 2 ≤ n) (A B C : Nat) (o : Orb) (ho : okO o) (a : Int) (N : Nat) (ha : -20 ≤ a) (hN : a + (N : Int) ≤ 2000000) (w : World) (hB : Bxs w A B C o a (a + (N : Int))) :
    SeqStopsK Fence.wide n Try.prog 47 #[.pointer (some ⟨A, 0, none⟩), .pointer (some ⟨B, 0, none⟩), .pointer (some ⟨C, 0, none⟩)] encK (K3 A B C) (fun ys => ys = trk o a N) (fun pre => pre <+: trk o a N) N w :=
  fun l J Jx W hW hJ _ hY h0 => cells1_in n hn l A B C o ho a N ha hN J Jx hY W hJ (hB.keep (K3.next hW)) h0
theorem cellsD_any (o : Orb) (a b : Int) (w : World) :
    Calls Try.prog 40 #[PV o, .int .i64 a, .int .i64 b] w fun e w' => ∃ A B C, e = .returned (.func (.func 47) #[] #[.pointer (some ⟨A, 0, none⟩), .pointer (some ⟨B, 0, none⟩), .pointer (some ⟨C, 0, none⟩)]) ∧
      Bxs w' A B C o a b ∧ Below w.heap.size w w' ∧ (w.heap.size ≤ A ∧ w.heap.size ≤ B ∧ w.heap.size ≤ C) := by
  refine callsIn_wide (n := 3) |>.1 ?_
  refine (cells_in Fence.wide 3 trivial rfl o a b w).mono ?_
  rintro e w' ⟨rfl, hw⟩
  obtain ⟨w1, A, e1, e2, hb1, hk1⟩ := box1 w (PC o) 63
  obtain ⟨w2, B, e3, e4, hb2, hk2⟩ := box1 w1 #[.int .i64 a] 59
  obtain ⟨w3, C, e5, e6, hb3, hk3⟩ := box1 w2 #[.int .i64 b] 59
  rw [e1, e3, e5] at hw
  subst hw
  have z1 : w1.heap.size = w.heap.size + 1 := by rw [← e1]; simp
  have z2 : w2.heap.size = w1.heap.size + 1 := by rw [← e3]; simp
  have k1 : BX w' A (PC o) 63 := BX.next (BX.next hk1 hb2) hb3
  have k2 : BX w' B #[.int .i64 a] 59 := BX.next hk2 hb3
  have k3 : BX w' C #[.int .i64 b] 59 := hk3
  refine ⟨B, C, A, ?_, ⟨k2.cell 0, k3.cell 0, k1.cell 0, k1.cell 1, k1.cell 2, k1.cell 3, k1.cell 4, k1.cell 5⟩, below_tr (below_tr hb1 hb2) hb3, ⟨by omega, by omega, by omega⟩⟩
  rw [show B = w.heap.size + 1 by omega, show C = w.heap.size + 2 by omega, show A = w.heap.size by omega]
theorem cellsC_any (o : Orb) (a b : Int) (w : World) :
    Calls Try.prog 40 #[PV o, .int .i64 a, .int .i64 b] w fun e w' => ∃ A B C, e = .returned (.func (.func 47) #[] #[.pointer (some ⟨A, 0, none⟩), .pointer (some ⟨B, 0, none⟩), .pointer (some ⟨C, 0, none⟩)]) ∧
      Bxs w' A B C o a b ∧ Below w.heap.size w w' := (cellsD_any o a b w).mono fun _ _ ⟨A, B, C, h1, h2, h3, _⟩ => ⟨A, B, C, h1, h2, h3⟩
end Go.Proofs.Ytdomgielpofbhaa
