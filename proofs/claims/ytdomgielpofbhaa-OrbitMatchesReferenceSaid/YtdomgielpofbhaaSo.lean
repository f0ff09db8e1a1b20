/- Cells in order: cmp.Or, inOrder, slices.SortFunc. -/
import Derived.Shelf.SlSortCmp.WholeK
import Derived.Test.YtdomgielpofbhaaShelf
import Derived.Test.YtdomgielpofbhaaAp
namespace Go.Proofs.Ytdomgielpofbhaa
open Go.RowKit Go.Shelf Go.Maps Go.Sort Go.Lib
attribute [local go_sem] Oper.semAt_some
set_option linter.unusedSimpArgs false
set_option linter.unusedVariables false
/-- The first of two numbers that is not zero. -/
def orZ (a b : Int) : Int := if a = 0 then b else a
set_option maxRecDepth 100000 in
set_option maxHeartbeats 1000000 in
theorem or_any (b : Nat) (x y : Int) (w : World) (h0 : w.cell? ⟨b, 0, none⟩ = some (.int .i64 x)) (h1 : w.cell? ⟨b, 1, none⟩ = some (.int .i64 y)) (c : Nat) :
    Calls Try.prog 51 #[.slice (some ⟨b, 0, none⟩) 2 c] w fun e w' => e = .returned (.int .i64 (orZ x y)) ∧ w = w' := by
  go_enter Try.func51, Try.ntmps51
  by_cases hx : x = 0
  · by_cases hy : y = 0
    · have HO := Lib.hid (show orZ x y = 0 from by unfold orZ; rw [if_pos hx]; exact hy)
      subst hx; subst hy
      go_wp2
      go_loopw [8] (fun i wr => ∃ k : Nat, k ≤ 2 ∧ i = iV k ∧ w = wr) (fun i _ => 2 - (intOf i).toNat)
      case atStart => exact ⟨0, by omega, rfl, rfl⟩
      case round =>
        obtain ⟨k, hk, rfl, rfl⟩ := hrel
        rcases k with _ | _ | _ | k
        · go_wp2
          exact ⟨⟨1, by omega, rfl, trivial⟩, by simp [intOf]⟩
        · go_wp2
          exact ⟨⟨2, by omega, rfl, trivial⟩, by simp [intOf]⟩
        · go_wp2
          go_ret
          exact ⟨ret_int' HO.out.symm, rfl⟩
        · omega
    · have HO := Lib.hid (show orZ x y = y from by unfold orZ; rw [if_pos hx])
      subst hx
      go_wp2
      go_loopw [8] (fun i wr => ∃ k : Nat, k ≤ 1 ∧ i = iV k ∧ w = wr) (fun i _ => 2 - (intOf i).toNat)
      case atStart => exact ⟨0, by omega, rfl, rfl⟩
      case round =>
        obtain ⟨k, hk, rfl, rfl⟩ := hrel
        rcases k with _ | _ | k
        · go_wp2
          exact ⟨⟨1, by omega, rfl, trivial⟩, by simp [intOf]⟩
        · go_wp2
          go_ret
          exact ⟨ret_int' HO.out.symm, rfl⟩
        · omega
  · have HO := Lib.hid (show orZ x y = x from by unfold orZ; rw [if_neg hx])
    go_wp2
    go_loopw [8] (fun i wr => i = iV 0 ∧ w = wr) (fun i _ => 2 - (intOf i).toNat)
    case atStart => exact ⟨rfl, rfl⟩
    case round =>
      obtain ⟨rfl, rfl⟩ := hrel
      go_wp2
      go_ret
      exact ⟨ret_int' HO.out.symm, rfl⟩
/-- How two cells compare. -/
def cfC (a b : Cel) : Int := compareInt (kC a : Int) (kC b : Int)
theorem cf_or (a b : Cel) : orZ (compareInt (a.1.2 : Int) (b.1.2 : Int)) (compareInt (a.1.1 : Int) (b.1.1 : Int)) = cfC a b := by
  have ha := a.2; have hb := b.2
  unfold orZ cfC compareInt kC
  rcases Nat.lt_trichotomy a.1.2 b.1.2 with h | h | h
  · rw [if_pos (show (a.1.2 : Int) < b.1.2 by omega), if_pos (show ((48 * a.1.2 + a.1.1 : Nat) : Int) < ((48 * b.1.2 + b.1.1 : Nat) : Int) by omega)]
    simp
  · rw [if_neg (show ¬ (a.1.2 : Int) < b.1.2 by omega), if_neg (show ¬ (a.1.2 : Int) > b.1.2 by omega), if_pos rfl]
    rcases Nat.lt_trichotomy a.1.1 b.1.1 with h' | h' | h'
    · rw [if_pos (show (a.1.1 : Int) < b.1.1 by omega), if_pos (by omega)]
    · rw [if_neg (show ¬ (a.1.1 : Int) < b.1.1 by omega), if_neg (show ¬ (a.1.1 : Int) > b.1.1 by omega), if_neg (by omega), if_neg (by omega)]
    · rw [if_neg (show ¬ (a.1.1 : Int) < b.1.1 by omega), if_pos (show (a.1.1 : Int) > b.1.1 by omega), if_neg (by omega), if_pos (by omega)]
  · rw [if_neg (show ¬ (a.1.2 : Int) < b.1.2 by omega), if_pos (show (a.1.2 : Int) > b.1.2 by omega), if_neg (show ¬ ((48 * a.1.2 + a.1.1 : Nat) : Int) < ((48 * b.1.2 + b.1.1 : Nat) : Int) by omega), if_pos (show ((48 * a.1.2 + a.1.1 : Nat) : Int) > ((48 * b.1.2 + b.1.1 : Nat) : Int) by omega)]
    simp
theorem three_grow (W : World) (A B C : Obj) : (((W.alloc A).alloc B).alloc C).drew = grow (W.drewN 1) #[A, B, C] := by
  rw [alloc_eq_grow, alloc_eq_grow, alloc_eq_grow, grow_grow, grow_grow]
  rfl
set_option maxRecDepth 100000 in
set_option maxHeartbeats 2000000 in
theorem inOrder_any (a b : Cel) (W : World) : Calls Try.prog 43 #[.agg #[iV a.1.1, iV a.1.2], .agg #[iV b.1.1, iV b.1.2]] W fun e w' => e = .returned (.int .i64 (cfC a b)) ∧ ∃ q os', w' = grow (W.drewN q) os' := by
  have CC := Lib.hid (fun x y W' => Try.cmp_Compare_int x y W')
  have HC := Lib.hid (cf_or a b)
  obtain ⟨V, hV⟩ : ∃ V, (W.alloc (.cells #[iV a.1.1, iV a.1.2] 38)).alloc (.cells #[iV b.1.1, iV b.1.2] 38) = V := ⟨_, rfl⟩
  have hA : BX V W.heap.size #[iV a.1.1, iV a.1.2] 38 := by rw [← hV]; exact (BX.new rfl).alloc _
  have hB : BX V (W.heap.size + 1) #[iV b.1.1, iV b.1.2] 38 := by rw [← hV]; exact BX.new (by simp)
  have HV := Lib.hid hV
  have a0 := hA.cell 0; have a1 := hA.cell 1; have b0 := hB.cell 0; have b1 := hB.cell 1
  clear hA hB
  go_enter Try.func43, Try.ntmps43
  go_wp2_with fail
  clear hV
  have KS := Lib.hid (fun o => show (fun w' => w'.cell? ⟨W.heap.size, 0, none⟩ = some (iV a.1.1) ∧ w'.cell? ⟨W.heap.size, 1, none⟩ = some (iV a.1.2) ∧ w'.cell? ⟨W.heap.size + 1, 0, none⟩ = some (iV b.1.1) ∧ w'.cell? ⟨W.heap.size + 1, 1, none⟩ = some (iV b.1.2)) (V.drew.alloc o) from ⟨cell_alloc' (A := V.drew) a0 o, cell_alloc' (A := V.drew) a1 o, cell_alloc' (A := V.drew) b0 o, cell_alloc' (A := V.drew) b1 o⟩)
  have K0 := Lib.hid (show (fun w' => w'.cell? ⟨W.heap.size, 0, none⟩ = some (iV a.1.1) ∧ w'.cell? ⟨W.heap.size, 1, none⟩ = some (iV a.1.2) ∧ w'.cell? ⟨W.heap.size + 1, 0, none⟩ = some (iV b.1.1) ∧ w'.cell? ⟨W.heap.size + 1, 1, none⟩ = some (iV b.1.2)) V.drew from ⟨a0, a1, b0, b1⟩)
  have KO := Lib.hid (fun x y => or_any V.heap.size x y ((V.alloc (.cells #[.int .i64 x, .int .i64 y] 3)).drew) (show (V.alloc (.cells #[.int .i64 x, .int .i64 y] 3)).cell? _ = _ from (row_cell (heap_new' _ _ _ rfl) 0).trans rfl) (show (V.alloc (.cells #[.int .i64 x, .int .i64 y] 3)).cell? _ = _ from (row_cell (heap_new' _ _ _ rfl) 1).trans rfl) 2)
  go_region_held3 (fun w' => w'.cell? ⟨W.heap.size, 0, none⟩ = some (iV a.1.1) ∧ w'.cell? ⟨W.heap.size, 1, none⟩ = some (iV a.1.2) ∧ w'.cell? ⟨W.heap.size + 1, 0, none⟩ = some (iV b.1.1) ∧ w'.cell? ⟨W.heap.size + 1, 1, none⟩ = some (iV b.1.2))
    (first
      | exact K0.out
      | exact KS.out _
      | go_keep)
    (first
      | (go_at_call 52; (with_reducible refine (CC.out _ _ _).mono ?_); rintro e w' ⟨rfl, rfl⟩)
      | (go_at_call 51; (with_reducible refine (KO.out _ _).mono ?_); rintro e w' ⟨rfl, rfl⟩))
  all_goals
    go_wp2
    go_ret
    exact ⟨ret_int' HC.out, 1, _, by rw [← HV.out]; exact three_grow _ _ _ _⟩
theorem lt_cf (a b : Cel) : ltOf cfC a b = decide (kC a < kC b) := by
  unfold ltOf cfC compareInt
  by_cases h1 : kC a < kC b
  · simp [h1]
  · by_cases h2 : kC b < kC a <;> simp [h1, h2]
theorem swo_cf : SWO (ltOf cfC) where
  irrefl x := by rw [lt_cf]; simp
  trans x y z h1 h2 := by rw [lt_cf] at *; simp at *; omega
  ntrans x y z h1 h2 := by rw [lt_cf] at *; simp at *; omega
theorem cvs_flat (l : List Cel) (t : Nat) (h : t < l.length * 2) : (cvs l)[t]? = some ((encL l.toArray[t / 2]!)[t % 2]!) := by
  obtain ⟨p, hp⟩ : ∃ p, l[t / 2]? = some p := ⟨_, List.getElem?_eq_getElem (show t / 2 < l.length by omega)⟩
  have hc := cvs_at l (t / 2) p hp
  have e : l.toArray[t / 2]! = p := by simp [hp]
  rw [e]
  rcases Nat.mod_two_eq_zero_or_one t with hm | hm
  · rw [hm]
    have : t / 2 * 2 = t := by omega
    rw [this] at hc
    rw [hc.1]; rfl
  · rw [hm]
    have : t / 2 * 2 + 1 = t := by omega
    rw [this] at hc
    rw [hc.2]; rfl
theorem holds_cells {w : World} {g : Nat} {cur : Array Value} {e : TypeId} {ss : List Cel} (hb : w.heap[g]? = some (.cells cur e (0, 0))) (ht : cur.toList.take (ss.length * 2) = cvs ss) : HoldsK encL 2 w g 0 ss.toArray := by
  intro t h
  have h' : t < ss.length * 2 := by simpa using h
  have hf := cvs_flat ss t h'
  rw [← ht, List.getElem?_take_of_lt h', Array.getElem?_toList] at hf
  rw [get_flatK _ _ _ _ (by simpa using h'), Nat.zero_add]
  exact ⟨(cell_of_row w g t cur e (0, 0) hb).trans hf, frozen_of_row w g t cur e hb⟩
theorem cells_of_holds {w : World} {g : Nat} {d : Array Cel} (h : HoldsK encL 2 w g 0 d) : ∀ i p, d.toList[i]? = some p → w.cell? ⟨g, i * 2, none⟩ = some (iV p.1.1) ∧ w.cell? ⟨g, i * 2 + 1, none⟩ = some (iV p.1.2) := by
  intro i p hp
  have hi : i < d.size := by
    have := (List.getElem?_eq_some_iff.1 hp).1
    simpa using this
  have e : d[i]! = p := by
    rw [Array.getElem?_toList] at hp
    rw [getElem!_pos d i hi]
    exact (Array.getElem?_eq_some_iff.1 hp).2
  have h0 := (h.cell hi (c := 0) (by decide)).1
  have h1 := (h.cell hi (c := 1) (by decide)).1
  rw [e, Nat.zero_add] at h0 h1
  exact ⟨h0, h1⟩
theorem grown_sortK {w : World} {g n : Nat} {os : Array Obj} (d : Array Cel) : w.grownBy (sortWorldK encL 2 w g 0 n d os) (some g) := by
  refine ⟨rfl, rfl, rfl, by simp [sortWorldK, putRowK, putRow, Sort.ahead, mapBlock], fun k hk hne => ?_⟩
  unfold sortWorldK
  rw [heap_grow_old _ _ (by simpa [putRowK, putRow, Sort.ahead, mapBlock] using hk)]
  have : g ≠ k := fun e => hne (by rw [e])
  simp [putRowK, putRow, mapBlock, Sort.ahead, Array.getElem?_modify, this]
theorem srt_of {ss : List Cel} (hn : ss.Nodup) {d : Array Cel} (hp : PermIn 0 ss.toArray.size ss.toArray d) (hs : SortedIn (ltOf cfC) 0 ss.toArray.size d) : Srt d.toList ∧ (∀ c, c ∈ d.toList ↔ c ∈ ss) ∧ d.toList.length = ss.length := by
  obtain ⟨h1, -, h3⟩ := hp
  have hsz : d.size = ss.length := by simpa using h1
  have hperm : d.toList.Perm ss := by
    have e1 : (d.extract 0 ss.toArray.size).toList = d.toList := by simp [← hsz]
    have e2 : (ss.toArray.extract 0 ss.toArray.size).toList = ss := by simp
    rw [e1, e2] at h3
    exact h3
  have hnd : d.toList.Nodup := hperm.symm.nodup hn
  refine ⟨?_, fun c => hperm.mem_iff, by simpa using hsz⟩
  unfold Srt
  rw [List.pairwise_iff_getElem]
  intro i j hi hj hij
  have hi' : i < d.size := by simpa using hi
  have hj' : j < d.size := by simpa using hj
  have h := hs i j (Nat.zero_le _) hij (by simpa [hsz] using hj')
  rw [lt_cf, decide_eq_false_iff_not, getElem!_pos d i hi', getElem!_pos d j hj'] at h
  have hne : d.toList[i] ≠ d.toList[j] := List.pairwise_iff_getElem.1 hnd i j hi hj hij
  have hk : kC d.toList[i] ≠ kC d.toList[j] := fun e => hne (kC_inj e)
  simp only [Array.getElem_toList] at hk ⊢
  omega
theorem isAggCell (w : World) : (isAgg 38).run Try.prog w = .ok true w := Try.isAgg38 w
theorem sizeOfCell (w : World) : (Go.sizeOf 38).run Try.prog w = .ok 2 w := Try.sizeOf38 w
set_option maxHeartbeats 1000000 in
theorem sortFunc_any (g cap : Nat) (cur : Array Value) (ss : List Cel) (hn : ss.Nodup) (hl : ss.length ≤ 3000) (w : World) (hb : w.heap[g]? = some (.cells cur 38 (0, 0))) (ht : cur.toList.take (ss.length * 2) = cvs ss) :
    Calls Try.prog 49 #[.slice (some ⟨g, 0, none⟩) ss.length cap, .func (.func 43) #[] #[]] w fun e w' => e = .returned (.tuple #[]) ∧ ∃ l, Srt l ∧ (∀ c, c ∈ l ↔ c ∈ ss) ∧ l.length = ss.length ∧
      (∀ i p, l[i]? = some p → w'.cell? ⟨g, i * 2, none⟩ = some (iV p.1.1) ∧ w'.cell? ⟨g, i * 2 + 1, none⟩ = some (iV p.1.2)) ∧ w.grownBy w' (some g) := by
  have hH := holds_cells hb ht
  have hblk : g < w.heap.size := (Array.getElem?_eq_some_iff.1 hb).1
  have hcon := AnyQ.slices_SortFunc Try.sortCell 2 isAggCell sizeOfCell encL (fun _ => rfl) (fun x v hv => by simp [encL] at hv; rcases hv with rfl | rfl <;> rfl) cfC swo_cf 43 #[] g 0 cap ss.toArray w
    (enters_of Try.func43 (by kernel_rfl) rfl) (fun _ _ _ _ x y => inOrder_any x y _) hH hblk (by simp; omega)
  change Calls Try.prog 49 _ _ _ at hcon
  refine hcon.mono ?_
  rintro e w' ⟨he, d, n, os, hp, hs, rfl⟩
  obtain ⟨s1, s2, s3⟩ := srt_of hn hp hs
  exact ⟨he, d.toList, s1, s2, s3, cells_of_holds (holdsK_sortWorldK_c encL 2 w g 0 ss.toArray d n os hH hblk hp.1), grown_sortK d⟩
end Go.Proofs.Ytdomgielpofbhaa
