/- The digest of parts, walked. -/
import Derived.Test.YtiilkjonbfllfaaDoorSumM
import Derived.Test.YtiilkjonbfllfaaDoorCat
import Derived.Test.YtiilkjonbfllfaaDoorBod
namespace Go.Proofs.YtiilkjonbfllfaaDoor
open Go.RowKit Go.Shelf

attribute [local go_sem] Oper.semAt_some

theorem blocks_in (n g m c : Nat) (w : World) :
    CallsIn Fence.wide n Tryd.prog 56 #[.slice (some ⟨g, 0, none⟩) m c] w fun e w' => e = .returned (.func (.func 69) #[] #[.pointer (some ⟨w.heap.size, 0, none⟩)]) ∧ w' = w.alloc (.cells #[.slice (some ⟨g, 0, none⟩) m c] 26) := by
  refine callsIn_of_wp Tryd.func56 rfl trivial ?_ rfl
  simp only [Tryd.ntmps56, List.size_toArray, List.length_cons, List.length_nil, Nat.reduceAdd, Nat.reduceSub, Array.replicate_succ, Array.replicate_zero, List.push_toArray, List.append_toArray, List.nil_append, List.cons_append]
  gi_wp2
  go_ret
  exact ⟨rfl, rfl⟩

theorem own_slice {w : World} {base n : Nat} {e : TypeId} {v : Value} {xs : List Value} (h : w.ownsRow base e 1 v n xs) (hn : 1 ≤ n) :
    ∃ g cap, v = .slice (some ⟨g, 0, none⟩) n cap ∧ base ≤ g ∧ g < w.heap.size ∧ ∀ i u, xs[i]? = some u → w.cell? ⟨g, i, none⟩ = some u := by
  rcases h.2 with ⟨_, h'⟩ | ⟨g', cap', cur, h', hbase, hg, _, _, hs, ht⟩
  · omega
  · refine ⟨g', cap', h', hbase, (Array.getElem?_eq_some_iff.1 hg).1, fun i u hu => ?_⟩
    rw [cell_of_row w g' i _ e (0, 0) hg]
    rw [← ht, List.getElem?_take] at hu
    by_cases hi : i < n * 1
    · rw [if_pos hi] at hu; rw [← Array.getElem?_toList]; exact hu
    · rw [if_neg hi] at hu; cases hu

def SumI (w w5 : World) (pre : List Bk) (W : World) : Prop := StIs W w.heap.size (pre.foldl stepB init) ∧ Tab W ∧ Below w.heap.size w W ∧ w5.heap.size ≤ W.heap.size
theorem sumI_grown {w w5 : World} (h0 : w.heap.size < w5.heap.size) {s : List Bk} {A B : World} {row : Option Nat} (h : SumI w w5 s A) (hgr : A.grownBy B row) (hr : ∀ r, row = some r → w5.heap.size ≤ r) : SumI w w5 s B := by
  obtain ⟨i1, i2, i3, i4⟩ := h
  have hB : Below w5.heap.size A B := (Below.refl _ _).grown hgr i4 hr
  exact ⟨(hB.block _ h0).trans i1, i2.below hB (by omega), i3.trans (hB.mono (by omega)), Nat.le_trans i4 hB.size⟩

set_option maxRecDepth 100000 in
set_option maxHeartbeats 3000000 in
theorem sumOf_in (g o n c : Nat) (ps : List ByteArray) (hn : ps.length = n) (h1 : 1 ≤ n) (h2 : n ≤ 4) (hlen : (catN ps).length ≤ 900000) (w : World) (hT : Tab w)
    (hps : ∀ i, i < n → w.cell? ⟨g, o + i, none⟩ = some (.string (ps.getD i ByteArray.empty))) :
    CallsIn Fence.wide 3 Tryd.prog 40 #[.slice (some ⟨g, o, none⟩) n c] w fun e w' => e = .returned (.string (strN (sha (catN ps)))) ∧ Below w.heap.size w w' := by
  have hg : g < w.heap.size := block_lt_of_cell (hps 0 (by omega))
  have HPS := Lib.hid hps; have HN := Lib.hid hn; have HL := Lib.hid hlen
  clear hps hn hlen
  refine callsIn_of_wp_marks Tryd.func40 rfl trivial ?_ rfl
  simp only [Tryd.ntmps40, List.size_toArray, List.length_cons, List.length_nil, Nat.reduceAdd, Nat.reduceSub, Array.replicate_succ, Array.replicate_zero, List.push_toArray, List.append_toArray, List.nil_append, List.cons_append]
  gi_wp2
  gi_loopw [3, 11] (fun sv iv wr => ∃ k : Nat, iv = .int .i64 k ∧ sv = .int .i64 (lenTo ps k) ∧ k ≤ n ∧ wr = w) (fun _ iv _ => n - (intOf iv).toNat)
  case atStart => exact ⟨0, rfl, rfl, by omega, rfl⟩
  case round =>
    obtain ⟨k, rfl, rfl, hk, hw⟩ := hrel
    obtain rfl := hw.symm; clear hw
    by_cases hlt : k < n
    · have hc := HPS.out k hlt
      have hst := Lib.hid (lenTo_step ps k (by rw [HN.out]; exact hlt))
      have hle := lenTo_le ps k
      have hL := HL.out
      have hsz : (ps.getD k ByteArray.empty).size ≤ 900000 := by
        have := size_le_catN ps (ps.getD k ByteArray.empty) (by
          rw [List.getD_eq_getElem?_getD, List.getElem?_eq_getElem (by rw [HN.out]; exact hlt)]; exact List.getElem_mem _)
        omega
      obtain ⟨p, hp⟩ : ∃ p, ps.getD k ByteArray.empty = p := ⟨_, rfl⟩
      rw [hp] at hc hst hsz
      clear hp
      gi_wp2
      exact ⟨⟨k + 1, by go_num, by rw [hst.out]; go_num, by omega, trivial⟩, by simp [intOf]; omega⟩
    · have hE := Lib.hid (lenTo_end ps k (by rw [HN.out]; omega))
      have hL := HL.out
      have hle := lenTo_le ps k
      have hks : ∀ i, i < n → w.cell? ⟨g, o + i, none⟩ = some (.string (ps.getD i ByteArray.empty)) := HPS.out
      have HK := Lib.hid hks; clear hks
      gi_wp2_with (fail)
      refine ⟨trivial, ?_⟩
      refine (callsIn_wide.2 (padding_any (lenTo ps k) (by omega) _)).mono ?_
      rintro e w2 ⟨rfl, hb2⟩
      gi_wp2_with (fail)
      refine ⟨trivial, ?_⟩
      have hb3 : Below w.heap.size w (w2.alloc (Obj.cells #[Value.string (strN (pad (lenTo ps k)))] 9)) := by
        refine Below.alloc ?_ ?_ _
        · exact ((Below.refl _ _).alloc (Nat.le_refl _) _).trans (hb2.mono (by simp))
        · have := hb2.size; simp at this; omega
      have hz2 : w.heap.size + 1 ≤ w2.heap.size := by have := hb2.size; simpa using this
      have hst : w2.heap[w.heap.size]? = some (.cells (init.l.map u32V).toArray 69 (0, 0)) := (hb2.block _ (by simp)).trans (heap_new' _ _ _ rfl)
      have hT2 : Tab w2 := (hT.below ((Below.refl w.heap.size _).alloc (Nat.le_refl _) _) hT.1).below hb2 (by simp)
      refine (callsIn_wide.2 (concat_any g o n c w2.heap.size (w2.heap.size + 1) ps (strN (pad (lenTo ps k))) HN.out h1 (by omega) _ ?hc1 ?hc2 ?hc3 ?hc4)).mono ?_
      case hc1 =>
        intro i hi
        exact (((hb3.alloc (by simp; omega) _).cell (p := ⟨g, o + i, none⟩) hg)).trans (HK.out i hi)
      case hc2 => go_simp
      case hc3 => go_simp
      case hc4 => go_simp
      obtain ⟨w3, hw3⟩ : ∃ w3, (w2.alloc (Obj.cells #[Value.string (strN (pad (lenTo ps k)))] 9)).alloc (Obj.cells #[Value.slice (some ⟨g, o, none⟩) n c, Value.slice (some ⟨w2.heap.size, 0, none⟩) 1 1] 26) = w3 := ⟨_, rfl⟩
      have hb4 : Below w.heap.size w w3 := by rw [← hw3]; exact hb3.alloc (by simp; omega) _
      have hst3 : w3.heap[w.heap.size]? = some (.cells (init.l.map u32V).toArray 69 (0, 0)) := by
        rw [← hw3, heap_old' _ _ _ (by simp; omega), heap_old' _ _ _ (by omega)]; exact hst
      have hT3 : Tab w3 := by
        rw [← hw3]; exact ((hT2.below ((Below.refl w2.heap.size _).alloc (Nat.le_refl _) _) hT2.1).below ((Below.refl w2.heap.size _).alloc (by simp) _) hT2.1)
      have hz3 : w.heap.size + 1 ≤ w3.heap.size := by rw [← hw3]; simp; omega
      rw [hw3]
      clear hw3 hb3 hz2 hst hT2 hb2
      rintro e w4 ⟨v, rfl, hown, hb34⟩
      obtain ⟨qs, hqs⟩ : ∃ qs, ps ++ [strN (pad (lenTo ps k))] = qs := ⟨_, rfl⟩
      rw [hqs] at hown
      have hql : qs.length = n + 1 := by rw [← hqs, List.length_append, HN.out]; rfl
      have hcat : catN qs = ext (catN ps) := by rw [← hqs, hE.out]; exact catN_pad ps
      obtain ⟨g5, c5, rfl, hg5, hg5l, hcs⟩ := own_slice hown (by omega)
      rw [hql]
      have HQL := Lib.hid hql; have HCAT := Lib.hid hcat; have HCS := Lib.hid hcs
      clear hql hcat hcs hqs hown
      gi_wp2_with (fail)
      refine ⟨trivial, (blocks_in 2 g5 (n + 1) c5 w4).mono ?_⟩
      rintro e w5 ⟨rfl, hw5⟩
      gi_wp2_with (fail)
      have hz4 := hb34.size
      have hst4 : w4.heap[w.heap.size]? = some (.cells (init.l.map u32V).toArray 69 (0, 0)) := (hb34.block _ (by omega)).trans hst3
      have hT4 : Tab w4 := hT3.below hb34 hT3.1
      have hb5 : Below w.heap.size w w4 := hb4.trans (hb34.mono (by omega))
      rw [← hw5]
      have hz5 : w5.heap.size = w4.heap.size + 1 := by rw [hw5]; simp
      have hst5 : StIs w5 w.heap.size init := by unfold StIs; rw [hw5]; exact (heap_old' _ _ _ (by omega)).trans hst4
      have hT5 : Tab w5 := by rw [hw5]; exact hT4.below ((Below.refl w4.heap.size _).alloc (Nat.le_refl _) _) hT4.1
      have hb6 : Below w.heap.size w w5 := by rw [hw5]; exact hb5.alloc (by omega) _
      have hbx5 : w5.cell? ⟨w4.heap.size, 0, none⟩ = some (.slice (some ⟨g5, 0, none⟩) (n + 1) c5) := by rw [hw5]; go_simp
      have hcs5 : ∀ i u, (qs.map Value.string)[i]? = some u → w5.cell? ⟨g5, i, none⟩ = some u := fun i u hu => by
        rw [hw5]
        exact (World.cell?_of_block (a := ⟨g5, i, none⟩) (heap_old' _ _ _ (by simpa using hg5l))).trans (HCS.out i u hu)
      have HCS5 := Lib.hid hcs5
      obtain ⟨N, hN, hN2⟩ := ext_len64 (catN ps)
      have hps5 : ∀ i, i < n + 1 → w5.cell? ⟨g5, i, none⟩ = some (.string (qs.getD i ByteArray.empty)) := fun i hi => by
        refine HCS5.out i _ ?_
        rw [List.getElem?_map, List.getD_eq_getElem?_getD, List.getElem?_eq_getElem (by rw [HQL.out]; exact hi)]; rfl
      have HPS5 := Lib.hid hps5; have HBX := Lib.hid hbx5; have HST := Lib.hid hst5; have HN64 := Lib.hid hN
      clear hcs5 HCS5 hps5 hbx5 hst5 HCS hst4 hst3 hw5 hb34 hT4 hT3 hb4 hb5 hN
      refine rangeOver (F := Fence.wide) (n := 3) rfl (by omega) (gf := 69) (lb := #[.pointer (some ⟨w4.heap.size, 0, none⟩)]) rfl trivial (enters_of Tryd.func69 (by kernel_rfl) rfl)
        (encs := encb) (fun _ => rfl) (S := fun ys => flat ys = restOf qs 0) (N := N) w.heap.size (by omega) ?hseq
        (SumI w w5) ?hI ⟨HST.out, hT5, hb6, Nat.le_refl _⟩
        (fun x a' W => ∃ Bx, w5.heap.size + 1 < Bx ∧ W.heap[Bx]? = some (.cells (x.1.map u8V).toArray 75 (0, 0)) ∧ a'.eval (.tmp 6) = .pointer (some ⟨w.heap.size, 0, none⟩) ∧ a'.eval (.tmp 8) = .pointer (some ⟨Bx, 0, none⟩) ∧ a'.tmps.size = 36) ?hAx ?hassign ?hbody ?hdone
      case hseq =>
        intro W1 hW1 hold
        have hBn : W1.cell? ⟨w4.heap.size, 0, none⟩ = some (.slice (some ⟨g5, 0, none⟩) (n + 1) c5) := (World.cell?_of_block (a := ⟨w4.heap.size, 0, none⟩) (hold _ (show w4.heap.size < w5.heap.size by omega))).trans HBX.out
        exact blocks1_in 2 (by omega) (w5.heap.size + 1) w4.heap.size g5 (n + 1) c5 w.heap.size N qs HQL.out (by omega) (by rw [restOf_zero, HCAT.out]; exact HN64.out)
          (fun s hs => by have := size_le_catN qs s hs; rw [HCAT.out] at this; omega) W1 (by omega) (by omega) hBn
          (fun i hi => (World.cell?_of_block (a := ⟨g5, i, none⟩) (hold _ (show g5 < w5.heap.size by omega))).trans (HPS5.out i hi)) (by omega) (by omega) (by omega)
      case hI =>
        intro s A B row h hgr hr
        exact sumI_grown (by omega) h hgr hr
      case hAx =>
        rintro x a' A ob ⟨Bx, x1, x2, x3⟩
        exact ⟨Bx, x1, (World.putObj_heap_other (by omega)).trans x2, x3⟩
      case hassign =>
        rintro l pre x W K hi hlt hK
        have hxl := Lib.hid x.2.1
        obtain ⟨V, hV⟩ : ∃ V, (W.alloc (Obj.cells (List.replicate 64 (Value.int IntKind.u8 0)).toArray 75)) = V := ⟨_, rfl⟩
        gi_wp2_with (refine wpListIn_plain rfl fun K2 hK2 => op_store_row (F := Fence.wide.inRound l) 75 _ _ rfl W.heap.size (x.1.map u8V).toArray rfl rfl 75 (List.replicate 64 (Value.int IntKind.u8 0)).toArray (heap_new' _ _ _ rfl) (by rw [info75]; simp [hxl.out]) (by simp [hxl.out]) (by simp [Value.oneCell']) (hK2 _ _ ?_))
        refine hK _ _ ⟨rfl, rfl, rfl, by simp, fun k hk _ => (setRow_other _ _ _ _ (by omega)).trans (heap_old' _ _ _ hk)⟩ (sumI_grown (by omega) hi (row := none) ⟨rfl, rfl, rfl, by simp, fun k hk _ => (setRow_other _ _ _ _ (by omega)).trans (heap_old' _ _ _ hk)⟩ (fun r e => by cases e)) ?_
        exact ⟨W.heap.size, hlt, setRow_heap _ _ _ _ _ _ (heap_new' _ _ _ rfl), rfl, rfl, rfl⟩
      case hbody =>
        rintro l pre x a' W ⟨i1, i2, i3, i4⟩ ⟨Bx, x1, x2, x3, x4, x5⟩ hpl hlt
        gi_wp2_with (fail)
        refine body_in (fold_ok pre) i2 x3 x4 x5 i1 x2 ?_
        intro a2 W1 hB1 hst1
        have hbW : w.heap.size < W.heap.size := by omega
        refine ⟨rfl, ⟨hB1.os, hB1.tape, hB1.output, by simpa using hB1.size, fun k hk hne => (setRow_other _ _ _ _ (fun e => hne (by rw [e]))).trans (hB1.block k hk)⟩, ?_, ?_, ?_, ?_⟩
        · rw [List.foldl_append]; exact setRow_heap _ _ _ _ _ _ hst1
        · exact i2.below (below_setRow (hB1.mono (Nat.le_of_lt hbW)) (Nat.le_refl w.heap.size) _) (by have := hT.1; omega)
        · exact i3.trans (below_setRow (hB1.mono (Nat.le_of_lt hbW)) (Nat.le_refl w.heap.size) _)
        · have := hB1.size; simp; omega
      case hdone =>
        rintro xs W hS ⟨i1, i2, i3, i4⟩ hk
        have hfin : shaSt (catN ps) = xs.foldl stepB init := (shaSt_of _ _ (by rw [hS, restOf_zero]; exact HCAT.out)).symm
        have HS := Lib.hid hfin; have I1 := Lib.hid (show W.heap[w.heap.size]? = some (.cells ((xs.foldl stepB init).l.map u32V).toArray 69 (0, 0)) from i1); have HKK := Lib.hid hk
        clear hS hfin i1 hk
        have hWl : w5.heap.size < W.heap.size := (Array.getElem?_eq_some_iff.1 HKK.out).1
        gi_wp2_with (with_reducible refine wpListIn_load_row rfl 69 _ rfl w.heap.size rfl 69 ((xs.foldl stepB init).l.map u32V).toArray (0, 0) _ I1.out Tryd.underlying69 rfl (by rw [info69]; simp [St.l]) ?_)
        refine ⟨trivial, (callsIn_wide.2 (bytes_any _ (fold_ok xs) _)).mono ?_⟩
        rintro e W2 ⟨rfl, hb2⟩
        have HK2 : W2.heap[w5.heap.size]? = some (.deferred (some [])) := (hb2.block _ hWl).trans HKK.out
        have HR : digL (xs.foldl stepB init) = sha (catN ps) := by rw [sha_eq, HS.out]
        rw [HR]
        gi_wp2_with (fail)
        rw [hz5] at HK2
        refine ⟨by simp, .inl ⟨_, _, rfl, run_takeDeferred HK2, ?_⟩⟩
        exact ⟨_, results_tmp rfl _ _ _, rfl, (i3.trans (hb2.mono (by omega))).trans ⟨rfl, rfl, rfl, by simp, fun j hj => World.putObj_heap_other (by omega)⟩⟩

theorem sumOf_any (g o n c : Nat) (ps : List ByteArray) (hn : ps.length = n) (h1 : 1 ≤ n) (h2 : n ≤ 4) (hlen : (catN ps).length ≤ 900000) (w : World) (hT : Tab w)
    (hps : ∀ i, i < n → w.cell? ⟨g, o + i, none⟩ = some (.string (ps.getD i ByteArray.empty))) :
    Calls Tryd.prog 40 #[.slice (some ⟨g, o, none⟩) n c] w fun e w' => e = .returned (.string (strN (sha (catN ps)))) ∧ Below w.heap.size w w' :=
  callsIn_wide.1 (sumOf_in g o n c ps hn h1 h2 hlen w hT hps)
end Go.Proofs.YtiilkjonbfllfaaDoor
