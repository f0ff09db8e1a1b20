/- Range, walked: the cells at each minute; the least and the greatest in boxes of the call's own. -/
import Derived.RangeFuncWrites
import Derived.Shelf.RegionOpen
import Derived.Lib.MinMax
import Derived.Sort.CutIn
import Derived.Sort.QuietIn
import Derived.Test.YtbgdlfkeimaaiaaDoorSe
import Derived.Test.YtbgdlfkeimaaiaaDoorRm
namespace Go.Proofs.YtbgdlfkeimaaiaaDoor
open Go.RowKit Go.Shelf
attribute [local go_sem] Oper.semAt_some
set_option linter.unusedSimpArgs false
set_option linter.unusedVariables false
/-- Where a statement is the last of its sequence: what follows as a letter. -/
theorem wpIn_then_self {F : Fence} {n : Nat} {P : Program} {s : Code} {Q : Exit → Act → World → Prop} {a : Act} {w : World}
    (h : ∀ K : Act → World → Prop, (∀ a w, Q .normal a w → K a w) → s.wpIn F n P (Exit.then K Q) a w) : s.wpIn F n P Q a w := by
  refine wpIn_mono (h (Q .normal) (fun _ _ h => h)) ?_
  intro e a w hq
  cases e <;> exact hq
theorem Ks.next {Bn : Nat} {A B : World} (h : Below A.heap.size A B) : Ks Bn A B := fun i v hc => (h.cell (p := ⟨Bn, i, none⟩) (World.block_lt_of_cell? A ⟨Bn, i, none⟩ hc)).trans hc
theorem mins_val {t N : Nat} (h : t + N ≤ 1000001) : (mins t N).map (·.1) = List.range' t N := by
  unfold mins
  rw [List.map_map]
  conv => rhs; rw [← List.map_id (List.range' t N)]
  apply List.map_congr_left
  intro m hm
  have := List.mem_range'_1.1 hm
  show (cl m).1 = m
  exact cl_val (by omega)
/-- A spell that Range takes. -/
def spOK (f u : Int) : Bool := decide (0 ≤ f ∧ u ≤ 1000001 ∧ f < u ∧ u - f ≤ 60)
theorem spOK_iff {f u : Int} : spOK f u = true ↔ 0 ≤ f ∧ u ≤ 1000001 ∧ f < u ∧ u - f ≤ 60 := by unfold spOK; simp
/-- The cells in a row of memory, told where they lie. -/
theorem Cs.pos {W : World} {al : Option Addr} {n : Nat} {l : List (Nat × Nat)} (h : Cs W al n l) (hn : 0 < l.length) : ∃ b, al = some ⟨b, 0, none⟩ ∧ b < W.heap.size ∧ ∀ i p, l[i]? = some p → W.cell? ⟨b, i * 2, none⟩ = some (iV p.1) ∧ W.cell? ⟨b, i * 2 + 1, none⟩ = some (iV p.2) := by
  obtain ⟨h1, h2, h4⟩ := h
  rcases h4 with h4 | h4
  · omega
  · exact h4
set_option maxRecDepth 100000 in
set_option maxHeartbeats 4000000 in
theorem range_yes (al : Option Addr) (n c : Nat) (zs : List Int) (o : Option Ar) (hO : Is zs o) (t N U : Nat) (hU : t + N = U) (hN0 : 0 < N) (hN1 : N ≤ 60) (hN2 : U ≤ 1000001) (hne : 0 < (cellsTo (of o) 24).length) (w : World) (h : Sl w al n zs) (hT : Tab w) :
    Calls Tryd.prog 28 #[.agg #[.slice al n c], .agg #[iV t, iV U]] w fun e w' =>
      e = .returned (.tuple #[.int .i64 (lo (hsT (cellsTo (of o) 24) (List.range' t N))), .int .i64 (hi (hsT (cellsTo (of o) 24) (List.range' t N))), .int .i64 0]) ∧ Below w.heap.size w w' := by
  refine callsIn_wide (n := 6) |>.1 ?_
  obtain ⟨W0, hW0⟩ : ∃ W0, (w.alloc (.cells #[.slice al n c] 27)).alloc (.cells #[iV t, iV U] 29) = W0 := ⟨_, rfl⟩
  have hA : BX W0 w.heap.size #[.slice al n c] 27 := by rw [← hW0]; exact (BX.new rfl).alloc _
  have hS : BX W0 (w.heap.size + 1) #[iV t, iV U] 29 := by rw [← hW0]; exact BX.new (by simp)
  have hB : Below w.heap.size w W0 := by rw [← hW0]; exact ((Below.refl _ _).alloc (Nat.le_refl _) _).alloc (by simp) _
  have HA := Lib.hid hA; have HS := Lib.hid hS; have HB := Lib.hid hB
  have CC := Lib.hid (cells_any al n c zs o hO W0 (h.below (Nat.le_refl _) hB) (hT.below hB hT.1))
  have HT := Lib.hid (hT.below hB hT.1)
  have HN := Lib.hid (And.intro hN0 (And.intro hN1 (And.intro hN2 hU)))
  have hc0 := hA.cell 0
  have HON := Lib.hid (show ∀ p ∈ cellsTo (of o) 24, p.1 < 48 ∧ p.2 < 24 from fun p hp => by have := (cellsTo_on _ 24 p).1 hp; exact ⟨this.2.1, this.1⟩)
  generalize cellsTo (of o) 24 = cs at *
  clear hA hS hB h hT hO hN0 hN1 hN2 hU
  refine callsIn_of_wp_marks Tryd.func28 rfl trivial ?_ rfl
  simp only [Tryd.ntmps28, List.size_toArray, List.length_cons, List.length_nil, Nat.reduceAdd, Nat.reduceSub, Array.replicate_succ, Array.replicate_zero, List.push_toArray, List.append_toArray, List.nil_append, List.cons_append]
  have hf44 : Fence.wide.fn 44 := trivial
  have hf42 : Fence.wide.fn 42 := trivial
  gi_wp2_with fail
  (with_reducible refine (callsIn_wide.2 CC.out).mono ?_)
  rintro e w1 ⟨rl, rn, rc, rfl, hcs, hb1⟩
  obtain ⟨V, hV⟩ : ∃ V, w1.alloc (.cells #[.slice rl rn rc] 37) = V := ⟨_, rfl⟩
  obtain ⟨Bc, hBc⟩ : ∃ Bc, w1.heap.size = Bc := ⟨_, rfl⟩
  obtain ⟨bS, hbS⟩ : ∃ b, w.heap.size + 1 = b := ⟨_, rfl⟩
  have hSV : BX V bS #[iV t, iV U] 29 := by rw [← hV, ← hbS]; exact (HS.out.next hb1).alloc _
  have hCV : BX V Bc #[.slice rl rn rc] 37 := by rw [← hV, ← hBc]; exact BX.new rfl
  have hBV : Below w.heap.size w V := by rw [← hV]; exact (below_tr HB.out hb1).alloc (below_tr HB.out hb1).size _
  have hTV : Tab V := by rw [← hV]; exact (HT.out.below hb1 HT.out.1).below ((Below.refl _ _).alloc (Nat.le_refl _) _) (HT.out.below hb1 HT.out.1).1
  have hcV : Cs V rl rn cs := by rw [← hV]; exact hcs.below (Nat.le_refl _) ((Below.refl _ _).alloc (Nat.le_refl _) _)
  have HSV := Lib.hid hSV; have HCV := Lib.hid hCV; have HBV := Lib.hid hBV; have HTV := Lib.hid hTV; have HcV := Lib.hid hcV
  have s0 : V.cell? ⟨bS, 0, none⟩ = some (iV t) := hSV.cell 0
  have s1 : V.cell? ⟨bS, 1, none⟩ = some (iV U) := hSV.cell 1
  have v0 : V.cell? ⟨Bc, 0, none⟩ = some (.slice rl rn rc) := hCV.cell 0
  have hl0 : ((rn : Int) == 0) = false := by have := hcs.1; simp; omega
  have i0 : decide ((t : Int) < 0) = false := by simp
  have i1 : decide (1000001 < (U : Int)) = false := by have := HN.out; simp; omega
  have i3 : decide (U ≤ t) = false := by have := HN.out; simp; omega
  have i5 : decide (60 < (U : Int) - t) = false := by have := HN.out; simp; omega
  have i6 : (0 : Int) ≤ t := by omega
  have i7 : (U : Int) ≤ 1000001 := by have := HN.out; omega
  have i8 : (0 : Int) ≤ U := by omega
  have i9 : (t : Int) ≤ 1000001 := by have := HN.out; omega
  clear hSV hCV hBV hTV hcV hcs hb1 hc0 HS HB HT CC HA hW0
  obtain ⟨X, hX⟩ : ∃ X, (V.alloc (.cells #[.int .i64 90] 3)).alloc (.cells #[.int .i64 (-90)] 3) = X := ⟨_, rfl⟩
  have HX := Lib.hid (show BX X V.heap.size #[.int .i64 90] 3 ∧ BX X (V.heap.size + 1) #[.int .i64 (-90)] 3 ∧ Below V.heap.size V X ∧ X.heap.size = V.heap.size + 1 + 1 from by
    rw [← hX]
    exact ⟨(BX.new rfl).alloc _, BX.new (by simp), ((Below.refl _ _).alloc (Nat.le_refl _) _).alloc (by simp) _, by simp⟩)
  have s0' : X.cell? ⟨bS, 0, none⟩ = some (iV t) := (HSV.out.next HX.out.2.2.1).cell 0
  have s1' : X.cell? ⟨bS, 1, none⟩ = some (iV U) := (HSV.out.next HX.out.2.2.1).cell 1
  gi_wp2_with fail
  (with_reducible refine (minutes_in Fence.wide _ hf42 rfl _ _ _).mono ?_)
  rintro e w2 ⟨rfl, rfl⟩
  clear s0 s1 v0 s0' s1' hX i0 i1 i3 i5 hl0
  obtain ⟨Bl, hBl⟩ : ∃ Bl, V.heap.size = Bl := ⟨_, rfl⟩
  obtain ⟨Bg, hBg⟩ : ∃ Bg, Bl + 1 = Bg := ⟨_, rfl⟩
  obtain ⟨Bm, hBm⟩ : ∃ Bm, X.heap.size = Bm := ⟨_, rfl⟩
  obtain ⟨W2, hW2⟩ : ∃ W2, X.alloc (.cells #[iV t, iV U] 29) = W2 := ⟨_, rfl⟩
  obtain ⟨x1, x2, x3, x4⟩ := HX.out
  rw [hBl] at x1 x2 x3 x4
  rw [hBg] at x2 x4
  have y1 : BX W2 Bl #[.int .i64 90] 3 := by rw [← hW2]; exact x1.alloc _
  have y2 : BX W2 Bg #[.int .i64 (-90)] 3 := by rw [← hW2]; exact x2.alloc _
  have y3 : Below Bl V W2 := by rw [← hW2]; exact x3.alloc (by omega) _
  have y4 : BX W2 Bm #[iV t, iV U] 29 := by rw [← hW2, ← hBm]; exact BX.new rfl
  have y5 : W2.heap.size = Bg + 1 + 1 := by rw [← hW2]; simp; omega
  have HE := Lib.hid (show V.heap.size = Bl ∧ Bl + 1 = Bg ∧ Bm = Bg + 1 ∧ W2.heap.size = Bg + 1 + 1 from ⟨hBl, hBg, by omega, y5⟩)
  have HY := Lib.hid (And.intro y1 (And.intro y2 (And.intro y3 y4)))
  have hVl : Bl ≤ V.heap.size := by omega
  have HVl := Lib.hid hVl
  rw [hW2, hBm, hBl, hBg]
  clear hBg hBm x1 x2 x3 x4 y1 y2 y3 y4 y5 hW2 HX hVl
  gi_wp2_with fail
  refine wpIn_rangeFunc_ownG (n := 6) rfl (by decide) (gf := 48) (lb := #[.pointer (some ⟨Bm, 0, none⟩)]) rfl trivial (enters_of Tryd.func48 (by kernel_rfl) rfl)
    (minutes_stops Fence.wide (6 - 1) trivial rfl (by decide) Bm (Ks Bm) (fun W W' h => h) t N (by have := HN.out; omega) W2 HY.out.2.2.2.lt (HY.out.2.2.2.cell 0) ((HY.out.2.2.2.cell 1).trans (by rw [HN.out.2.2.2]; rfl))) ks_t ks_b (Below.refl _ _) (fun _ => rfl)
    (fun pre W => (Boxed W Bl 3 (.int .i64 (lo (hsT cs (pre.map (·.1))))) ∧ Boxed W Bg 3 (.int .i64 (hi (hsT cs (pre.map (·.1)))))) ∧ Below Bl V W)
    (fun _ _ _ => False)
    (OwnFrom.and (Own.from (fun s A B row hs hg hr => ⟨boxed_own Bl 3 (fun pre : List Min => .int .i64 (lo (hsT cs (pre.map (·.1))))) s A B row hs.1 hg hr, boxed_own Bg 3 (fun pre : List Min => .int .i64 (hi (hsT cs (pre.map (·.1))))) s A B row hs.2 hg hr⟩) _) (ownFrom_below HVl.out (by have := HE.out; omega)))
    (fun _ _ _ _ _ hs _ _ => hs)
    ⟨⟨HY.out.1, HY.out.2.1⟩, HY.out.2.2.1⟩
    ?a1 ?assign ?body ?done ?stop
  case assign =>
    intro l x W K hK
    gi_wp2
    exact hK
  case body =>
    rintro l pre ⟨m, hm6⟩ W ⟨⟨hl, hg⟩, hB⟩ hlt
    have HL := Lib.hid hl; have HG := Lib.hid hg; have HBW := Lib.hid hB
    have v1 : W.cell? ⟨Bc, 0, none⟩ = some (.slice rl rn rc) := (HCV.out.below hB (by have := HCV.out.lt; have := HE.out; omega)).cell 0
    clear hl hg hB
    gi_wp2_with fail
    clear v1
    obtain ⟨hs, hhs⟩ : ∃ hs, hsT cs (pre.map (·.1)) = hs := ⟨_, rfl⟩
    obtain ⟨row, hrow⟩ : ∃ row, rowH cs m = row := ⟨_, rfl⟩
    have HH := Lib.hid (show hsT cs ((pre ++ [(⟨m, hm6⟩ : Min)]).map (·.1)) = hs ++ row from by rw [List.map_append, ← hhs, ← hrow]; exact hsT_snoc _ _ _)
    have HROW := Lib.hid hrow
    rw [hhs] at HL HG
    clear hhs hrow
    gi_loopw [49] (fun i wr => ∃ k : Nat, k ≤ cs.length ∧ i = iV k ∧ KeepsOthers W wr ∧ Ks Bm W wr ∧ Boxed wr Bl 3 (.int .i64 (lo (hs ++ row.take k))) ∧ Boxed wr Bg 3 (.int .i64 (hi (hs ++ row.take k))) ∧ Below Bl V wr) (fun i _ => cs.length - (intOf i).toNat)
    case atStart =>
      exact ⟨0, by omega, rfl, KeepsOthers.refl _, Ks.refl _ _, by simpa using HL.out, by simpa using HG.out, HBW.out⟩
    case round =>
      obtain ⟨k, hk, rfl, hko, hks, hbl, hbg, hbw⟩ := hrel
      have HKO := Lib.hid hko; have HKS := Lib.hid hks; have HBL := Lib.hid hbl; have HBG := Lib.hid hbg; have HBV := Lib.hid hbw
      clear hko hks hbl hbg hbw
      have j0 : (0 : Int) ≤ k := by omega
      by_cases hlk : k < cs.length
      · obtain ⟨b, hrl, hb, hcells⟩ := HcV.out.pos hne
        obtain ⟨⟨px, py⟩, hp⟩ : ∃ p, cs[k]? = some p := ⟨_, List.getElem?_eq_getElem hlk⟩
        have hpc := hcells k (px, py) hp
        have q0 : wr.cell? ⟨b, k * 2, none⟩ = some (iV px) := (HBV.out.cell (p := ⟨b, k * 2, none⟩) (by show b < Bl; have := HE.out; omega)).trans hpc.1
        have q1 : wr.cell? ⟨b, k * 2 + 1, none⟩ = some (iV py) := (HBV.out.cell (p := ⟨b, k * 2 + 1, none⟩) (by show b < Bl; have := HE.out; omega)).trans hpc.2
        have hrn := HcV.out.1
        have j1 : (k : Int) < rn := by omega
        have j2 : (k : Int) < 1152 := by have := HcV.out.2.1; omega
        have HP := Lib.hid hp
        subst hrl
        clear hcells hpc hp hrn
        gi_wp2_with fail
        obtain ⟨hpx, hpy⟩ := HON.out _ (List.mem_of_getElem? HP.out)
        refine ⟨trivial, ?_⟩
        refine (CallsIn.inRound l (callsIn_wide.2 (height_any px py m hpx hpy hm6 _))).mono ?_
        rintro e w5 ⟨rfl, hb5⟩
        have hb5' : Below wr.heap.size wr w5 := ((Below.refl _ wr).alloc (Nat.le_refl _) _).trans (hb5.mono (by simp))
        have hz := (HBL.out : Boxed wr Bl 3 _).lt
        have hzg := (HBG.out : Boxed wr Bg 3 _).lt
        obtain ⟨a, ha⟩ : ∃ a, lo (hs ++ row.take k) = a := ⟨_, rfl⟩
        obtain ⟨g, hg⟩ : ∃ g, hi (hs ++ row.take k) = g := ⟨_, rfl⟩
        obtain ⟨h, hh⟩ : ∃ h, hgt px py m = h := ⟨_, rfl⟩
        have hr := rowH_take cs m k (px, py) HP.out
        rw [HROW.out] at hr
        have HA2 := Lib.hid (show lo (hs ++ row.take (k + 1)) = min a h from by rw [hr, ← List.append_assoc, lo_snoc, ha]; show min a (hgt px py m) = min a h; rw [hh])
        have HG2 := Lib.hid (show hi (hs ++ row.take (k + 1)) = max g h from by rw [hr, ← List.append_assoc, hi_snoc, hg]; show max g (hgt px py m) = max g h; rw [hh])
        have HBL5 := Lib.hid (show BX w5 Bl #[.int .i64 a] 3 from by have := BX.next (cs := #[_]) HBL.out hb5'; rw [ha] at this; exact this)
        have HBG5 := Lib.hid (show BX w5 Bg #[.int .i64 g] 3 from by have := BX.next (cs := #[_]) HBG.out hb5'; rw [hg] at this; exact this)
        have HKO5 := Lib.hid (HKO.out.trans (ko_below hb5'))
        have HKS5 := Lib.hid (HKS.out.trans (Ks.next hb5'))
        have HBV5 := Lib.hid (HBV.out.trans (hb5'.mono (Nat.le_of_lt hz)))
        rw [hh]
        clear hb5 hb5' hr ha hg hh q0 q1 hz hzg
        have d1 : w5.cell? ⟨Bl, 0, none⟩ = some (.int .i64 a) := HBL5.out.cell 0
        have d2 := HBL5.out.frozen 0
        have d3 : w5.cell? ⟨Bg, 0, none⟩ = some (.int .i64 g) := HBG5.out.cell 0
        have d4 := HBG5.out.frozen 0
        have n1 : ¬ Bl = Bg := by have := HE.out; omega
        have n2 : ¬ Bg = Bl := by have := HE.out; omega
        gi_wp2_with fail
        have hmx : Tryd.prog.follows .mixedOrders = true := by kernel_rfl
        refine wpIn_then_self ?_
        intro KK HKK
        gi_cut [62, 63, 64] from 56 (fun s62 s63 s64 wx => s62 = u62 ∧ s63 = undef ∧ s64 = undef ∧ wx = (w5.drew.setCell ⟨Bl, 0, none⟩ (.int .i64 (min a h))).setCell ⟨Bg, 0, none⟩ (.int .i64 (max g h)))
        case first =>
          have D3 : (w5.setCell ⟨Bl, 0, none⟩ (.int .i64 (min a h))).cell? ⟨Bg, 0, none⟩ = some (.int .i64 g) := (Boxed.other (show Boxed w5 Bg 3 (.int .i64 g) from HBG5.out) n2 _).cell
          have D4 : (w5.setCell ⟨Bl, 0, none⟩ (.int .i64 (min a h))).frozen? ⟨Bg, 0, none⟩ = false := (Boxed.other (show Boxed w5 Bg 3 (.int .i64 g) from HBG5.out) n2 _).frozen
          gi_region_with_o (fail)
          all_goals gi_wp2
          all_goals gi_meet
          all_goals exact ⟨rfl, rfl, rfl, rfl⟩
        case rest =>
          obtain ⟨rfl, rfl, rfl, rfl⟩ := hcut
          refine HKK _ _ ?_
          clear HKK d1 d2 d3 d4 hmx
          have hbl : Boxed w5 Bl 3 (.int .i64 a) := HBL5.out
          have hbg : Boxed w5 Bg 3 (.int .i64 g) := HBG5.out
          have r1 := Lib.hid ((hbl.set (.int .i64 (min a h))).other n1 (.int .i64 (max g h)))
          have r2 := Lib.hid ((hbg.other n2 (.int .i64 (min a h))).set (.int .i64 (max g h)))
          have m1 : ¬ Bl = Bm := by have := HE.out; omega
          have m2 : ¬ Bg = Bm := by have := HE.out; omega
          have r3 := Lib.hid ((HKO5.out.trans (KeepsOthers.setCell _ ⟨Bl, 0, none⟩ (.int .i64 (min a h)))).trans (KeepsOthers.setCell _ ⟨Bg, 0, none⟩ (.int .i64 (max g h))))
          have r4 := Lib.hid ((HKS5.out.trans (Ks.setCell m1 (.int .i64 (min a h)))).trans (Ks.setCell m2 (.int .i64 (max g h))))
          have r5 := Lib.hid ((HBV5.out.setCell (p := ⟨Bl, 0, none⟩) (Nat.le_refl _) (.int .i64 (min a h))).setCell (p := ⟨Bg, 0, none⟩) (by show Bl ≤ Bg; have := HE.out; omega) (.int .i64 (max g h)))
          clear hbl hbg m1 m2
          gi_wp2
          refine ⟨⟨k + 1, by omega, ret_i (by omega), r3.out.trans (ko_below (Below.refl _ _).drew), r4.out.trans (fun _ _ h => h), by rw [HA2.out]; exact r1.out, by rw [HG2.out]; exact r2.out, r5.out.trans (Below.refl _ _).drew⟩, ?_⟩
          simp only [intOf]; omega
      · obtain rfl : k = cs.length := by omega
        have hrn := HcV.out.1
        have hd : decide (cs.length < rn) = false := by rw [hrn]; simp
        clear hrn
        have HLT := Lib.hid (show row.take cs.length = row from by rw [← HROW.out]; exact rowH_all cs m)
        gi_wp2
        have g1 := HBL.out
        have g2 := HBG.out
        rw [HLT.out] at g1 g2
        refine ⟨HKO.out.from _, HKS.out, ⟨?_, ?_⟩, HBV.out⟩
        · rw [HH.out]; exact g1
        · rw [HH.out]; exact g2
  case done =>
    rintro D ys W hD rfl ⟨⟨hl, hg⟩, hB⟩ hK
    have HK := Lib.hid hK
    have HD := Lib.hid hD
    have HBW := Lib.hid hB
    rw [mins_val (by have := HN.out; omega)] at hl hg
    have hc0 : W.cell? ⟨Bl, 0, none⟩ = some (.int .i64 (lo (hsT cs (List.range' t N)))) := hl.cell
    have hc1 : W.cell? ⟨Bg, 0, none⟩ = some (.int .i64 (hi (hsT cs (List.range' t N)))) := hg.cell
    clear hK hD hB hl hg
    have hmx : Tryd.prog.follows .mixedOrders = true := by kernel_rfl
    gi_wp2_with fail
    gi_quiet (fail)
    gi_wp2
    have hK' := (ko_below (below_dn (B := W.heap.size) nq)).same D _ HK.out rfl
    refine ⟨by simp, .inl ⟨_, _, rfl, run_takeDeferred hK', ?_⟩⟩
    have hv : w.heap.size ≤ Bl := by have := HBV.out.size; have := HE.out; omega
    have hd1 : w.heap.size ≤ D := by have := HD.out; have := HE.out; omega
    refine ⟨_, by simp [results, Tryd.f28, go_sem], rfl, ?_⟩
    exact ((HBV.out.trans (HBW.out.mono hv)).trans (below_dn nq)).trans (belowK_b (w := w) (Nat.le_refl _) _ D _ _ hd1 hK' rfl rfl)
  case stop =>
    rintro D c pre W _ _ h _
    exact h.elim
end Go.Proofs.YtbgdlfkeimaaiaaDoor
