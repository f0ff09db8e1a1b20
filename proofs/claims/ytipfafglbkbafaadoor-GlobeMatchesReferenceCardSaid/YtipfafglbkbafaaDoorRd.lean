/- Areas read out of memory and written into it: read, write, Valid. -/
import Derived.Deep.MidRow
import Derived.Test.YtipfafglbkbafaaDoorLf
namespace Go.Proofs.YtipfafglbkbafaaDoor
open Go.RowKit
set_option linter.unusedSimpArgs false
set_option linter.unusedVariables false

theorem info62 : (Tryd.prog.info? 62).map (·.size) = some 24 := by kernel_rfl
theorem infoFC (f : Ar) : (Tryd.prog.info? 62).map (·.size) = some (FC f).size := by rw [FC_size]; exact info62
/-- A slice of integers, nil and empty included. -/
def Sl (W : World) (al : Option Addr) (n : Nat) (zs : List Int) : Prop :=
  n = zs.length ∧ n ≤ 140737488355328 ∧ (∀ z ∈ zs, -9223372036854775808 ≤ z ∧ z ≤ 9223372036854775807) ∧
    (n = 0 ∨ ∃ b o, al = some ⟨b, o, none⟩ ∧ b < W.heap.size ∧ ∀ i, i < n → W.cell? ⟨b, o + i, none⟩ = some (.int .i64 (zs.getD i 0)))
theorem Sl.below {W W' : World} {al : Option Addr} {n : Nat} {zs : List Int} (h : Sl W al n zs) {B : Nat} (hB : W.heap.size ≤ B) (hb : Below B W W') : Sl W' al n zs := by
  obtain ⟨h1, h2, h3, h4⟩ := h
  refine ⟨h1, h2, h3, ?_⟩
  rcases h4 with h4 | ⟨b, o, rfl, hb', hc⟩
  · exact .inl h4
  · exact .inr ⟨b, o, rfl, Nat.lt_of_lt_of_le hb' hb.size, fun i hi => (hb.cell (p := ⟨b, o + i, none⟩) (by show b < B; omega)).trans (hc i hi)⟩
theorem Sl.alloc {W : World} {al : Option Addr} {n : Nat} {zs : List Int} (h : Sl W al n zs) (ob : Obj) : Sl (W.alloc ob) al n zs :=
  h.below (Nat.le_refl _) ((Below.refl _ _).alloc (Nat.le_refl _) _)
/-- The rows of f as integers. -/
def rz (f : Ar) : List Int := (rowsOf f).map Int.ofNat
theorem rz_len (f : Ar) : (rz f).length = 24 := by unfold rz; rw [List.length_map, rows_len]
theorem rz_at (f : Ar) {y : Nat} (hy : y < 24) : (rz f).getD y 0 = (rowOf f y : Int) := by
  unfold rz
  rw [List.getD_eq_getElem?_getD, List.getElem?_map, rows_at f hy]; rfl
theorem rz_mem (f : Ar) : ∀ z ∈ rz f, 0 ≤ z ∧ z ≤ 281474976710655 := by
  intro z hz
  unfold rz rowsOf at hz
  rw [List.map_map] at hz
  obtain ⟨y, _, rfl⟩ := List.mem_map.1 hz
  have := row_lt f y
  show (0 : Int) ≤ (rowOf f y : Int) ∧ (rowOf f y : Int) ≤ _
  omega
/-- Stored whole, in a block of the call's own. -/
theorem below_setRow {B : Nat} {w0 w : World} (h : Below B w0 w) {g : Nat} (hg : B ≤ g) (cs : Array Value) : Below B w0 (w.setRow g cs) :=
  ⟨h.os, h.tape, h.output, by rw [setRow_size]; exact h.size, fun k hk => (setRow_other w g k cs (by omega)).trans (h.block k hk)⟩
def inR (z : Int) : Prop := 0 ≤ z ∧ z ≤ 281474976710655
instance (z : Int) : Decidable (inR z) := by unfold inR; infer_instance
/-- What a slice of rows says: an area, or none. -/
def Is (zs : List Int) : Option Ar → Prop
  | some f => zs = rz f
  | none => ¬ (zs.length = 24 ∧ ∀ z ∈ zs, inR z)
theorem is_ex (zs : List Int) : ∃ o, Is zs o := by
  by_cases h : zs.length = 24 ∧ ∀ z ∈ zs, inR z
  · obtain ⟨f, hf⟩ := rows_of (l := zs.map Int.toNat) (by rw [List.length_map]; exact h.1) (by
      intro r hr
      obtain ⟨z, hz, rfl⟩ := List.mem_map.1 hr
      have := h.2 z hz
      unfold inR at this; omega)
    refine ⟨some f, ?_⟩
    show zs = rz f
    unfold rz
    rw [hf, List.map_map]
    symm
    have : ∀ z ∈ zs, (Int.ofNat ∘ Int.toNat) z = z := fun z hz => by
      have := (h.2 z hz).1
      show ((z.toNat : Nat) : Int) = z
      omega
    rw [List.map_congr_left this, List.map_id']
  · exact ⟨none, h⟩
theorem is_some_ok {zs : List Int} {f : Ar} (h : Is zs (some f)) : zs.length = 24 ∧ ∀ z ∈ zs, inR z := by
  obtain rfl : zs = rz f := h
  exact ⟨rz_len f, rz_mem f⟩
/-- An area's slice of rows. -/
def SA (W : World) (al : Option Addr) (n : Nat) (f : Ar) : Prop := Sl W al n (rz f)
theorem SA.n {W : World} {al : Option Addr} {n : Nat} {f : Ar} (h : SA W al n f) : n = 24 := by rw [h.1, rz_len]
theorem SA.parts {W : World} {al : Option Addr} {n : Nat} {f : Ar} (h : SA W al n f) : n = 24 ∧ ∃ b o, al = some ⟨b, o, none⟩ ∧ b < W.heap.size ∧ ∀ y, y < 24 → W.cell? ⟨b, o + y, none⟩ = some (iV (rowOf f y)) := by
  have hn := h.n
  obtain ⟨h1, h2, h3, h4⟩ := h
  refine ⟨hn, ?_⟩
  rcases h4 with h4 | ⟨b, o, rfl, hb, hc⟩
  · omega
  · exact ⟨b, o, rfl, hb, fun y hy => by rw [hc y (by omega), rz_at f hy]⟩
theorem SA.range {W : World} {b o : Nat} {f : Ar} (hc : ∀ y, y < 24 → W.cell? ⟨b, o + y, none⟩ = some (iV (rowOf f y))) : W.rangeAt b o (FC f).toList := by
  intro j v hv
  have hj : j < 24 := by
    have := (List.getElem?_eq_some_iff.1 hv).1
    simpa [FC_size] using this
  rw [hc j hj]
  have := FC_at f hj
  rw [← Array.getElem?_toList] at this
  rw [← this]; exact hv
theorem SA.mk {W : World} {b o : Nat} {f : Ar} (hb : b < W.heap.size) (hc : ∀ y, y < 24 → W.cell? ⟨b, o + y, none⟩ = some (iV (rowOf f y))) : SA W (some ⟨b, o, none⟩) 24 f := by
  refine ⟨(rz_len f).symm, by decide, fun z hz => by have := rz_mem f z hz; omega, .inr ⟨b, o, rfl, hb, fun i hi => ?_⟩⟩
  rw [hc i hi, rz_at f hi]
theorem SA.eqv {W : World} {al : Option Addr} {n : Nat} {f g : Ar} (h : SA W al n f) (e : Eqv f g) : SA W al n g := by
  unfold SA rz at *
  rw [← rows_eqv.2 e]; exact h
theorem HasF.sa {W : World} {g : Nat} {t : TypeId} {f : Ar} (h : HasF W g t f) : SA W (some ⟨g, 0, none⟩) 24 f :=
  SA.mk h.lt (fun y hy => by rw [Nat.zero_add]; exact h.cell hy)

theorem FC_nul : FC nul = #[.int .i64 0, .int .i64 0, .int .i64 0, .int .i64 0, .int .i64 0, .int .i64 0, .int .i64 0, .int .i64 0, .int .i64 0, .int .i64 0, .int .i64 0, .int .i64 0,
    .int .i64 0, .int .i64 0, .int .i64 0, .int .i64 0, .int .i64 0, .int .i64 0, .int .i64 0, .int .i64 0, .int .i64 0, .int .i64 0, .int .i64 0, .int .i64 0] := by
  unfold FC rowsOf
  rw [List.map_map]
  have : ∀ y ∈ List.range 24, (iV ∘ rowOf nul) y = .int .i64 0 := fun y _ => by show iV (rowOf nul y) = _; rw [rows_nul]; rfl
  rw [List.map_congr_left this]
  rfl
set_option maxRecDepth 100000 in
set_option maxHeartbeats 1000000 in
theorem write_any (f : Ar) (w : World) :
    Calls Tryd.prog 52 #[FV f] w fun e w' => ∃ g, e = .returned (.agg #[.slice (some ⟨g, 0, none⟩) 24 24]) ∧ w.heap.size ≤ g ∧ HasF w' g 62 f ∧ Below w.heap.size w w' := by
  rw [FV_eq]
  have hs := FC_size f
  generalize hfc : FC f = cs at hs
  have HH := Lib.hid hfc; clear hfc
  have HS := Lib.hid hs; clear hs
  go_enter Tryd.func52, Tryd.ntmps52
  go_wp2
  refine bodyPost_ret (v := .agg #[.slice (some ⟨w.heap.size, 0, none⟩) 24 24]) (by simp [results, Tryd.results52, go_sem]) rfl ⟨_, rfl, Nat.le_refl _, ?_, ((Below.refl _ _).alloc (Nat.le_refl _) _).alloc (by simp) _⟩
  unfold HasF
  rw [heap_old' _ _ _ (by simp), heap_new' _ _ _ rfl, HH.out]
theorem results_row_tmp {P : Program} {fn : Func} {p u : Tmp} {ty : TypeId} (h : fn.results = #[.cell p ty, .tmp u]) (tmps : Array Value) (w : World) (g : Nat) (t : TypeId) (cs : Array Value) (fr : Nat × Nat) (d : TypeDesc)
    (hp : tmps.getD p undef = .pointer (some ⟨g, 0, none⟩)) (hg : w.heap[g]? = some (.cells cs t fr))
    (hu : P.underlying ty = some d) (hd : (match d with | .struct _ | .array _ _ => true | _ => false) = true) (hi : (P.info? ty).map (·.size) = some cs.size) (v : Value) (hv : tmps.getD u undef = v) :
    (results fn tmps).run P w = .ok (.tuple #[.agg cs, v]) w := by
  rw [results_cell_tmp h, hp, hv]
  simp only [asAddr, Sem.run_pure, Result.andThen_ok]
  rw [run_loadVar_row (P := P) w g t ty cs fr d hg hu hd hi]
  rfl
theorem wpList_arrayAt {P : Program} {ops : Array Oper} {rest : List Oper} {op : Oper} {a : Act} {w : World} {Q : Exit → Act → World → Prop} (hgd : op.guard = none) (ty : TypeId) (x : Operand) (ho : op.op = .sliceToArrayPointer ty x)
    (al : Option Addr) (n c m : Nat) (e : TypeId) (hx : a.eval x = .slice al n c) (hu : P.underlying ty = some (.array m e)) (hm : m ≤ n)
    (h : wpList P ops Q rest (a.put op.dst (.pointer al)) w) : wpList P ops Q (op :: rest) a w :=
  wpList_plain hgd fun _ hK => by
    unfold Oper.wp execOp
    simp only [ho, hx, Instr.arrayAt, Sem.run_bind, run_underlying hu, Result.andThen_ok, Sem.run_pure, if_neg (Nat.not_lt.2 hm)]
    exact hK _ _ h
theorem box_read (w : World) (b o c : Nat) (al : Option Addr) (n : Nat) : ∃ W, (w.alloc (.cells #[.slice al n c] 25)).alloc (.cells (FC nul) 62) = W ∧ Below w.heap.size w W ∧ W.heap.size = w.heap.size + 2 ∧
    W.cell? ⟨w.heap.size, 0, none⟩ = some (.slice al n c) ∧ HasF W (w.heap.size + 1) 62 nul := by
  refine ⟨_, rfl, ((Below.refl _ _).alloc (Nat.le_refl _) _).alloc (by simp) _, by simp, ?_, ?_⟩
  · rw [cell_of_row _ _ 0 #[.slice al n c] 25 (0, 0) (by rw [heap_old' _ _ _ (by simp), heap_new' _ _ _ rfl])]; rfl
  · unfold HasF
    rw [heap_new' _ _ _ (by simp)]
set_option maxRecDepth 100000 in
set_option maxHeartbeats 1000000 in
theorem read_yes (al : Option Addr) (n c : Nat) (f : Ar) (w : World) (h : SA w al n f) :
    Calls Tryd.prog 53 #[.agg #[.slice al n c]] w fun e w' => e = .returned (.tuple #[FV f, .bool true]) ∧ Below w.heap.size w w' := by
  obtain ⟨rfl, b, o, rfl, hb, hc⟩ := h.parts
  obtain ⟨W, hW, hB, hz, hbox, hF⟩ := box_read w b o c (some ⟨b, o, none⟩) 24
  have HR := Lib.hid (SA.range (W := W) (fun y hy => (hB.cell (p := ⟨b, o + y, none⟩) hb).trans (hc y hy)))
  have HC := Lib.hid (fun y (hy : y < 24) => (hB.cell (p := ⟨b, o + y, none⟩) hb).trans (hc y hy))
  have HFF := Lib.hid hF
  have HB := Lib.hid hB
  rw [FC_nul] at hW
  have HZ := Lib.hid hz
  clear hc h hF hB hz
  go_enter Tryd.func53, Tryd.ntmps53
  go_wp2
  clear hW
  go_loop [14] (fun iv => ∃ i : Nat, i ≤ 24 ∧ iv = .int .i64 i) (fun iv => 24 - (intOf iv).toNat)
  case atStart => exact ⟨0, by omega, rfl⟩
  case round =>
    obtain ⟨i, hi, rfl⟩ := hrel
    by_cases hlt : i < 24
    · have hci := HC.out i hlt
      have hr := row_lt f i
      generalize rowOf f i = r at hci hr
      go_wp2
      go_round
      case rel => exact ⟨i + 1, by omega, by go_num⟩
      case measure => simp [intOf]; omega
    · obtain rfl : i = 24 := by omega
      go_wp2_with (first
        | (refine wpList_arrayAt rfl 62 _ rfl (some ⟨b, o, none⟩) 24 c 24 3 rfl Tryd.underlying62 (Nat.le_refl _) ?_)
        | (refine wpList_load_mid rfl 62 _ rfl b o rfl (FC f).toList _ HR.out Tryd.underlying62 rfl (by rw [info62, Array.length_toList, FC_size]) ?_)
        | (refine wpList_store_row rfl 62 _ _ rfl (w.heap.size + 1) (FC f).toList.toArray rfl rfl 62 (FC nul) HFF.out (by rw [info62]; simp [FC_size]) (by simp [FC_size]) (FC_one f) ?_))
      have hgr := setRow_heap W (w.heap.size + 1) _ (FC f) _ _ HFF.out
      exact bodyPost_ret (v := .tuple #[.agg (FC f), .bool true]) (results_row_tmp rfl _ _ (w.heap.size + 1) 62 (FC f) (0, 0) _ rfl hgr Tryd.underlying62 rfl (infoFC f) _ rfl) rfl ⟨rfl, below_setRow HB.out (by omega) _⟩
theorem first_bad : ∀ (zs : List Int), ¬ (∀ z ∈ zs, inR z) → ∃ j, j < zs.length ∧ ¬ inR (zs.getD j 0) ∧ ∀ i, i < j → inR (zs.getD i 0)
  | [], h => absurd (fun z hz => by cases hz) h
  | a :: l, h => by
    by_cases ha : inR a
    · obtain ⟨j, h1, h2, h3⟩ := first_bad l (fun hl => h (fun z hz => by
        rcases List.mem_cons.1 hz with rfl | hz
        · exact ha
        · exact hl z hz))
      refine ⟨j + 1, by simp; omega, by simpa using h2, fun i hi => ?_⟩
      cases i with
      | zero => exact ha
      | succ i => simpa using h3 i (by omega)
    · exact ⟨0, by simp, ha, fun i hi => by omega⟩
set_option maxRecDepth 100000 in
set_option maxHeartbeats 1000000 in
theorem read_len (al : Option Addr) (n c : Nat) (w : World) (h : n ≠ 24) :
    Calls Tryd.prog 53 #[.agg #[.slice al n c]] w fun e w' => e = .returned (.tuple #[FV nul, .bool false]) ∧ Below w.heap.size w w' := by
  obtain ⟨W, hW, hB, hz, hbox, hF⟩ := box_read w 0 0 c al n
  have HFF := Lib.hid hF
  have HB := Lib.hid hB
  rw [FC_nul] at hW
  have HZ := Lib.hid hz
  have hn : ((n : Int) == 24) = false := by simp; omega
  have hn2 : ((n : Int) != 24) = true := by simp; omega
  clear hF hB hz h
  go_enter Tryd.func53, Tryd.ntmps53
  go_wp2_with (refine wpList_store_row rfl 62 _ _ rfl (w.heap.size + 1) (FC nul) rfl (by rw [FC_nul]; rfl) 62 (FC nul) HFF.out (infoFC nul) rfl (FC_one nul) ?_)
  have hgr := setRow_heap W (w.heap.size + 1) _ (FC nul) _ _ HFF.out
  exact bodyPost_ret (v := .tuple #[.agg (FC nul), .bool false]) (results_row_tmp rfl _ _ (w.heap.size + 1) 62 (FC nul) (0, 0) _ rfl hgr Tryd.underlying62 rfl (infoFC nul) _ rfl) rfl ⟨rfl, below_setRow HB.out (by omega) _⟩
set_option maxRecDepth 100000 in
set_option maxHeartbeats 1000000 in
theorem read_bad (b o c j : Nat) (zs : List Int) (w : World) (hb : b < w.heap.size) (hw : ∀ z ∈ zs, -9223372036854775808 ≤ z ∧ z ≤ 9223372036854775807) (hl : zs.length = 24)
    (hc : ∀ i, i < 24 → w.cell? ⟨b, o + i, none⟩ = some (.int .i64 (zs.getD i 0))) (hj : j < 24) (hbad : ¬ inR (zs.getD j 0)) (hok : ∀ i, i < j → inR (zs.getD i 0)) :
    Calls Tryd.prog 53 #[.agg #[.slice (some ⟨b, o, none⟩) 24 c]] w fun e w' => e = .returned (.tuple #[FV nul, .bool false]) ∧ Below w.heap.size w w' := by
  obtain ⟨W, hW, hB, hz, hbox, hF⟩ := box_read w b o c (some ⟨b, o, none⟩) 24
  have HC := Lib.hid (fun y (hy : y < 24) => (hB.cell (p := ⟨b, o + y, none⟩) hb).trans (hc y hy))
  have HFF := Lib.hid hF
  have HB := Lib.hid hB
  have HBAD := Lib.hid hbad
  have HOK := Lib.hid hok
  rw [FC_nul] at hW
  clear hc hF hB hz hbad hok
  go_enter Tryd.func53, Tryd.ntmps53
  go_wp2
  clear hW
  go_loop [14] (fun iv => ∃ i : Nat, i ≤ j ∧ iv = .int .i64 i) (fun iv => 24 - (intOf iv).toNat)
  case atStart => exact ⟨0, by omega, rfl⟩
  case round =>
    obtain ⟨i, hi, rfl⟩ := hrel
    have hci := HC.out i (by omega)
    by_cases hlt : i < j
    · have hr := HOK.out i hlt
      obtain ⟨r1, r2⟩ : 0 ≤ zs.getD i 0 ∧ zs.getD i 0 ≤ 281474976710655 := hr
      generalize zs.getD i 0 = r at hci r1 r2
      go_wp2
      go_round
      case rel => exact ⟨i + 1, by omega, by go_num⟩
      case measure => simp [intOf]; omega
    · obtain rfl : i = j := by omega
      have hr : zs.getD i 0 < 0 ∨ 281474976710655 < zs.getD i 0 := by have := HBAD.out; unfold inR at this; omega
      generalize zs.getD i 0 = r at hci hr
      clear HBAD HOK
      rcases hr with h2 | h2
      · go_wp2_with (refine wpList_store_row rfl 62 _ _ rfl (w.heap.size + 1) (FC nul) rfl (by rw [FC_nul]; rfl) 62 (FC nul) HFF.out (infoFC nul) rfl (FC_one nul) ?_)
        have hgr := setRow_heap W (w.heap.size + 1) _ (FC nul) _ _ HFF.out
        exact bodyPost_ret (v := .tuple #[.agg (FC nul), .bool false]) (results_row_tmp rfl _ _ (w.heap.size + 1) 62 (FC nul) (0, 0) _ rfl hgr Tryd.underlying62 rfl (infoFC nul) _ rfl) rfl ⟨rfl, below_setRow HB.out (by omega) _⟩
      · have h1 : 0 ≤ r := by omega
        go_wp2_with (refine wpList_store_row rfl 62 _ _ rfl (w.heap.size + 1) (FC nul) rfl (by rw [FC_nul]; rfl) 62 (FC nul) HFF.out (infoFC nul) rfl (FC_one nul) ?_)
        have hgr := setRow_heap W (w.heap.size + 1) _ (FC nul) _ _ HFF.out
        exact bodyPost_ret (v := .tuple #[.agg (FC nul), .bool false]) (results_row_tmp rfl _ _ (w.heap.size + 1) 62 (FC nul) (0, 0) _ rfl hgr Tryd.underlying62 rfl (infoFC nul) _ rfl) rfl ⟨rfl, below_setRow HB.out (by omega) _⟩
/-- The rows that were read: of an area, or none. -/
def of (o : Option Ar) : Ar := o.getD nul
theorem read_any (al : Option Addr) (n c : Nat) (zs : List Int) (o : Option Ar) (w : World) (h : Sl w al n zs) (hO : Is zs o) :
    Calls Tryd.prog 53 #[.agg #[.slice al n c]] w fun e w' => e = .returned (.tuple #[FV (of o), .bool o.isSome]) ∧ Below w.heap.size w w' := by
  cases o with
  | some f =>
    obtain rfl : zs = rz f := hO
    exact read_yes al n c f w h
  | none =>
    by_cases hn : n = 24
    · subst hn
      have hO' : ¬ (zs.length = 24 ∧ ∀ z ∈ zs, inR z) := hO
      obtain ⟨h1, h2, h3, h4⟩ := h
      rcases h4 with h4 | ⟨b, o, rfl, hb, hc⟩
      · omega
      obtain ⟨j, j1, j2, j3⟩ := first_bad zs (fun hh => hO' ⟨h1.symm, hh⟩)
      exact read_bad b o c j zs w hb h3 h1.symm hc (by omega) j2 j3
    · exact read_len al n c w hn
end Go.Proofs.YtipfafglbkbafaaDoor
