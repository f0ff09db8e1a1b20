/- Contains. -/
import Derived.Test.YtipfafglbkbafaaDoorSm
namespace Go.Proofs.YtipfafglbkbafaaDoor
open Go.RowKit Go.Shelf
set_option linter.unusedVariables false
set_option linter.unusedSimpArgs false

/-- What Contains answers. -/
def contO : Option Ar → Option Ar → Bool
  | some f, some g => rowsOf (andA f g) == rowsOf g
  | _, _ => false
theorem contO_no (oa ob : Option Ar) (h : oa.isSome = false ∨ ob.isSome = false) : contO oa ob = false := by
  cases oa <;> cases ob <;> simp [contO] at h ⊢
section
variable {P : Program} {ops : Array Oper} {rest : List Oper} {o : Oper} {a : Act} {w : World} {Q : Exit → Act → World → Prop}
theorem wpList_load_row_g (ty : TypeId) (x : Operand) (ho : o.op = .load ty x)
    (g : Nat) (hx : a.eval x = .pointer (some ⟨g, 0, none⟩)) (t : TypeId) (cs : Array Value) (fr : Nat × Nat) (d : TypeDesc) (hg : w.heap[g]? = some (.cells cs t fr))
    (hu : P.underlying ty = some d) (hd : (match d with | .struct _ | .array _ _ => true | _ => false) = true) (hi : (P.info? ty).map (·.size) = some cs.size)
    (hw : Region.wanted o (yielded ops a.tmps) = true) (h : wpList P ops Q rest (a.put o.dst (.agg cs)) w) : wpList P ops Q (o :: rest) a w :=
  wpList_step fun K hK => by rw [if_pos hw]; exact wp_load_row ty x ho g hx t cs fr d hg hu hd hi (hK _ _ h)
theorem wpList_eql_g (ty : TypeId) (x y : Operand) (ho : o.op = .binOp .eql ty x y ty) (xs ys : Array Value) (hx : a.eval x = .agg xs) (hy : a.eval y = .agg ys) (hm : P.eqGuardType P.depth ty = false) (r : Bool)
    (hr : (Op.equalIn 10000 ty (.agg xs) (.agg ys)).run P w = .ok r w)
    (hw : Region.wanted o (yielded ops a.tmps) = true) (h : wpList P ops Q rest (a.put o.dst (.bool r)) w) : wpList P ops Q (o :: rest) a w :=
  wpList_step fun K hK => by
    rw [if_pos hw]
    unfold Oper.wp execOp
    simp only [ho, hx, hy, Sem.run_bind, run_eqGuard_agg w .eql ty x y xs ys hm, run_eql_struct w ty xs ys, hr, Result.andThen_ok, Sem.run_pure]
    exact hK _ _ h
end
theorem iV_and {a b : Nat} (ha : a < 281474976710656) (hb : b < 281474976710656) : Value.int .i64 (bits .and .i64 (a : Int) (b : Int)) = iV (a &&& b) := by rw [i64_and_nat a b (by omega) (by omega)]
theorem and_row (f g : Ar) (y : Nat) : rowOf (andA f g) y = rowOf f y &&& rowOf g y := (bits_and _ _ 48).symm
theorem box_ab (w : World) (al : Option Addr) (n c : Nat) (bl : Option Addr) (m d : Nat) : ∃ W, (w.alloc (.cells #[.slice al n c] 25)).alloc (.cells #[.slice bl m d] 25) = W ∧ Below w.heap.size w W ∧ W.heap.size = w.heap.size + 2 ∧
      W.cell? ⟨w.heap.size, 0, none⟩ = some (.slice al n c) ∧ W.cell? ⟨w.heap.size + 1, 0, none⟩ = some (.slice bl m d) := by
  refine ⟨_, rfl, ((Below.refl _ _).alloc (Nat.le_refl _) _).alloc (by simp) _, by simp, ?_, ?_⟩
  · rw [cell_of_row _ _ 0 #[.slice al n c] 25 (0, 0) (by rw [heap_old' _ _ _ (by simp), heap_new' _ _ _ rfl])]; rfl
  · rw [cell_of_row _ _ 0 #[.slice bl m d] 25 (0, 0) (by rw [heap_new' _ _ _ (by simp)])]; rfl

set_option maxRecDepth 100000 in
set_option maxHeartbeats 2000000 in
theorem contains_any (al : Option Addr) (n c : Nat) (zs : List Int) (oa : Option Ar) (hO : Is zs oa) (bl : Option Addr) (m d : Nat) (ys : List Int) (ob : Option Ar) (hP : Is ys ob) (w : World) (h : Sl w al n zs) (h' : Sl w bl m ys) :
    Calls Tryd.prog 43 #[.agg #[.slice al n c], .agg #[.slice bl m d]] w fun e w' => e = .returned (.bool (contO oa ob)) ∧ Below w.heap.size w w' := by
  obtain ⟨W, hW, hb, hz, h0, h1⟩ := box_ab w al n c bl m d
  have HB := Lib.hid hb
  have CA := Lib.hid (read_any al n c zs oa W (h.below (Nat.le_refl _) hb) hO)
  have CB := Lib.hid (fun W' (hb' : Below W.heap.size W W') => read_any bl m d ys ob W' (h'.below (Nat.le_refl _) (hb.trans (hb'.mono hb.size))) hP)
  have q1 : w.heap.size + 1 < W.heap.size := by omega
  simp only [FV_eq] at CA CB
  have HCO := Lib.hid (fun f g (e : oa = some f) (e' : ob = some g) => show contO oa ob = (rowsOf (andA f g) == rowsOf g) by rw [e, e']; rfl)
  have HNO := Lib.hid (contO_no oa ob)
  obtain ⟨sa, hsa⟩ : ∃ s, oa.isSome = s := ⟨_, rfl⟩
  obtain ⟨sb, hsb⟩ : ∃ s, ob.isSome = s := ⟨_, rfl⟩
  obtain ⟨fa, hfa⟩ : ∃ f, of oa = f := ⟨_, rfl⟩
  obtain ⟨fb, hfb⟩ : ∃ f, of ob = f := ⟨_, rfl⟩
  have HYES := Lib.hid (show sa = true → sb = true → contO oa ob = (rowsOf (andA fa fb) == rowsOf fb) from by
    intro ea eb
    rw [ea] at hsa; rw [eb] at hsb
    obtain ⟨f, rfl⟩ := Option.isSome_iff_exists.1 hsa
    obtain ⟨g, rfl⟩ := Option.isSome_iff_exists.1 hsb
    subst hfa; subst hfb; rfl)
  rw [hsa, hsb] at HNO
  rw [hsa, hfa] at CA
  simp only [hsb, hfb] at CB
  clear hb hz h h' hO hP HCO hsa hsb hfa hfb
  generalize contO oa ob = res at *
  go_enter Tryd.func43, Tryd.ntmps43
  go_wp2_with fail
  (with_reducible refine CA.out.mono ?_)
  rintro e w1 ⟨rfl, hb1⟩
  obtain ⟨V, hV, hbV, hq, hz1⟩ := one_box w1
  rw [FC_nul] at hV
  have HQ := Lib.hid hq
  obtain ⟨V2, hV2⟩ : ∃ V2, V.setRow w1.heap.size (FC fa) = V2 := ⟨_, rfl⟩
  have hbX : Below W.heap.size W V2 := by rw [← hV2]; exact below_setRow (hb1.trans (hbV.mono hb1.size)) hb1.size _
  have HX := Lib.hid hbX
  have HQ2 := Lib.hid (show HasF V2 w1.heap.size 62 fa from by rw [← hV2]; exact HQ.out.store fa)
  have H2 := Lib.hid hV2
  have k1 := (hbX.cell (p := ⟨w.heap.size + 1, 0, none⟩) q1).trans h1
  have CB2 := Lib.hid (CB.out V2 hbX)
  have HZ1 := Lib.hid hb1.size
  clear hb1 hbV hq hz1 h0 h1 hW hbX hV2 CB CA
  go_wp2_with (first
    | (refine wpList_store_row rfl 62 _ _ rfl w1.heap.size (FC fa) rfl rfl 62 (FC nul) HQ.out (infoFC _) (by rw [FC_size, FC_size]) (FC_one _) ?_; rw [H2.out])
    | fail)
  clear hV
  (with_reducible refine CB2.out.mono ?_)
  rintro e w3 ⟨rfl, hb3⟩
  obtain ⟨V3, hV3, hbV3, hq3, hz3⟩ := one_box w3
  rw [FC_nul] at hV3
  have HQ3 := Lib.hid hq3
  obtain ⟨V4, hV4⟩ : ∃ V4, V3.setRow w3.heap.size (FC fb) = V4 := ⟨_, rfl⟩
  have H4 := Lib.hid hV4
  have hlt1 : w1.heap.size < w3.heap.size := Nat.lt_of_lt_of_le HQ2.out.lt hb3.size
  have HL := Lib.hid hlt1
  have HFA := Lib.hid (show HasF V4 w1.heap.size 62 fa from by
    rw [← hV4]; exact (((HQ2.out.below hb3 HQ2.out.lt).below hbV3 hlt1).storeOther _ (by omega)))
  have HFB := Lib.hid (show HasF V4 w3.heap.size 62 fb from by rw [← hV4]; exact HQ3.out.store fb)
  have HBB := Lib.hid (show Below w.heap.size w V4 from by
    rw [← hV4]
    refine below_setRow (HB.out.trans ((HX.out.trans ((hb3.trans (hbV3.mono hb3.size)).mono HX.out.size)).mono HB.out.size)) ?_ _
    have := HB.out.size; have := HZ1.out; omega)
  have HW1 := Lib.hid (show w.heap.size ≤ w1.heap.size from by have := HB.out.size; have := HZ1.out; omega)
  clear hb3 hbV3 hq3 hz3 hlt1 k1 hV4
  go_wp2_with (first
    | (refine wpList_store_row rfl 62 _ _ rfl w3.heap.size (FC fb) rfl rfl 62 (FC nul) HQ3.out (infoFC _) (by rw [FC_size, FC_size]) (FC_one _) ?_; rw [H4.out])
    | fail)
  clear hV3
  go_loopw [20] (fun iv wr => ∃ i : Nat, i ≤ 24 ∧ iv = .int .i64 i ∧ HasF wr w1.heap.size 62 (upto (andA fa fb) fa i) ∧ HasF wr w3.heap.size 62 fb ∧ Below w.heap.size w wr) (fun iv _ => 24 - (intOf iv).toNat)
  case atStart => exact ⟨0, by omega, rfl, HFA.out.eqv (upto_0 _ _), HFB.out, HBB.out⟩
  case round =>
    obtain ⟨i, hi, rfl, hF, hG, hB⟩ := hrel
    clear HFA HFB HBB
    have HFF := Lib.hid hF; have HGG := Lib.hid hG; have HBB := Lib.hid hB
    clear hF hG hB
    have i0 : (0 : Int) ≤ i := by omega
    by_cases hlt : i < 24
    · have i1 : (i : Int) < 24 := by omega
      have c0 := HFF.out.cell hlt; have f0 := HFF.out.frozen i
      rw [upto_row] at c0
      have c1 := HGG.out.cell hlt
      have HR := Lib.hid (And.intro (row_lt fa i) (row_lt fb i))
      have HW := Lib.hid (and_row fa fb i)
      generalize rowOf fa i = r0 at c0 HR HW
      generalize rowOf fb i = r1 at c1 HR HW
      go_wp2
      go_still_tail 8, (by kernel_rfl)
      go_wp2
      refine ⟨⟨i + 1, by omega, by go_num, ?_⟩, by simp [intOf]; omega⟩
      rw [iV_and HR.out.1 HR.out.2]
      exact ⟨(HFF.out.drewN (n := 1)).step hlt HW.out, (HGG.out.drewN (n := 1)).other (by have := HL.out; omega), (below_dn HBB.out (n := 1)).setCell HW1.out _⟩
    · obtain rfl : i = 24 := by omega
      have HF2 := Lib.hid (HFF.out.eqv (upto_24 _ _))
      clear HFF
      cases sa with
      | false =>
        have HN := HNO.out (.inl rfl)
        subst HN
        cases sb
        all_goals
          go_wp2
          go_ret
          exact ⟨rfl, HBB.out⟩
      | true =>
        cases sb with
        | false =>
          have HN := HNO.out (.inr rfl)
          subst HN
          go_wp2
          go_ret
          exact ⟨rfl, HBB.out⟩
        | true =>
          rename World => wl
          have hq := Lib.hid (show (Op.equalIn 10000 62 (.agg (FC (andA fa fb))) (.agg (FC fb))).run Tryd.prog wl = .ok res wl from by rw [HYES.out rfl rfl]; exact run_eqF (andA fa fb) fb wl)
          clear HYES HNO
          go_wp2_with (first
            | (refine wpList_load_row_g 62 _ rfl w1.heap.size rfl 62 (FC (andA fa fb)) (0, 0) _ HF2.out Tryd.underlying62 rfl (infoFC _) (by kernel_rfl) ?_)
            | (refine wpList_load_row_g 62 _ rfl w3.heap.size rfl 62 (FC fb) (0, 0) _ HGG.out Tryd.underlying62 rfl (infoFC _) (by kernel_rfl) ?_)
            | (refine wpList_eql_g 62 _ _ rfl (FC (andA fa fb)) (FC fb) rfl rfl (by kernel_rfl) res hq.out (by kernel_rfl) ?_))
          go_ret
          exact ⟨rfl, HBB.out⟩
end Go.Proofs.YtipfafglbkbafaaDoor
