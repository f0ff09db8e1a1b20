/- A field grown by one, walked. -/
import Derived.Deep.Cut
import Derived.Deep.CutBlock
import Derived.Deep.DeepCutAuto
import Derived.Test.YtipfafglbkbafaaDoorSh
namespace Go.Proofs.YtipfafglbkbafaaDoor
open Go.RowKit
set_option linter.unusedVariables false
set_option linter.unusedSimpArgs false

/-- A row with what lies beside it. -/
def wideA (f : Ar) : Ar := fun x y => f x y || (turn f 1 x y || turn f 47 x y)
theorem wide_row (f : Ar) (y : Nat) : rowOf (wideA f) y = rowOf f y ||| (rowOf (turn f 1) y ||| rowOf (turn f 47) y) := by
  unfold rowOf
  rw [bits_or, bits_or]; rfl
/-- The second loop's state ahead of its round k: rows below k - 1 have both their neighbours, the row k - 1 the one below. -/
def crossA (f : Ar) (k : Nat) : Ar := fun x y => f x y || ((decide (1 ≤ y ∧ y < k) && f x (y - 1)) || (decide (y + 1 < k) && f x (y + 1)))
abbrev FT := 62
theorem wp_store_row {P : Program} {op : Oper} {a : Act} {w : World} {K : Act → World → Prop} {Q : Exit → Act → World → Prop} (ty : TypeId) (x y : Operand) (ho : op.op = .store ty x y)
    (g : Nat) (cells : Array Value) (hx : a.eval x = .pointer (some ⟨g, 0, none⟩)) (hy : a.eval y = .agg cells) (t : TypeId) (old : Array Value) (hg : w.heap[g]? = some (.cells old t (0, 0)))
    (hi : (P.info? ty).map (·.size) = some cells.size) (hs : old.size = cells.size) (h1 : cells.all (·.oneCell') = true)
    (h : K (a.put op.dst undef) (w.setRow g cells)) : op.wp P a w K Q := by
  unfold Oper.wp execOp
  simp only [ho, hx, hy, Instr.storeAt, Instr.sureAddr, Sem.run_bind, Sem.run_pure, Result.andThen_ok, run_storeVar_row (P := P) w g t ty old cells hg hi hs h1]
  exact h
/-- The state within the region that makes two fields out of one. -/
def Ov (w : World) (V : World) : Option Nat → Prop
  | none => True
  | some g => w.heap.size + 2 ≤ g ∧ g < V.heap.size ∧ HasF V g 62 nul
structure St (w : World) (f : Ar) (g h : Option Nat) (V : World) : Prop where
  bl : Below w.heap.size w V
  sz : w.heap.size + 2 ≤ V.heap.size
  hf : HasF V w.heap.size 62 f
  hn : HasF V (w.heap.size + 1) 62 nul
  hg : Ov w V g
  hh : Ov w V h
  ne : ∀ x y, g = some x → h = some y → x ≠ y
theorem Ov.below {w V V' : World} {g : Option Nat} (h : Ov w V g) (hb : Below V.heap.size V V') : Ov w V' g := by
  cases g with
  | none => exact h
  | some g => exact ⟨h.1, Nat.lt_of_lt_of_le h.2.1 hb.size, h.2.2.below hb h.2.1⟩
theorem St.call {w : World} {f : Ar} {g h : Option Nat} {V V' : World} (s : St w f g h V) (hb : Below V.heap.size V V') : St w f g h V' :=
  ⟨s.bl.trans (hb.mono (by have := s.sz; omega)), Nat.le_trans s.sz hb.size, s.hf.below hb (by have := s.sz; omega), s.hn.below hb (by have := s.sz; omega), s.hg.below hb, s.hh.below hb, s.ne⟩
theorem St.drew {w : World} {f : Ar} {g h : Option Nat} {V : World} (s : St w f g h V) : St w f g h V.drew := s.call (Below.refl _ _).drew
theorem St.alloc1 {w : World} {f : Ar} {h : Option Nat} {V : World} (s : St w f none h V) : ∃ V1 g, V.alloc (.cells (FC nul) 62) = V1 ∧ V.heap.size = g ∧ St w f (some g) h V1 := by
  have s2 := s.call ((Below.refl V.heap.size V).alloc (Nat.le_refl _) (.cells (FC nul) 62))
  refine ⟨_, _, rfl, rfl, s2.bl, s2.sz, s2.hf, s2.hn, ⟨s.sz, by simp, heap_new' _ _ _ rfl⟩, s2.hh, fun x y h1 h2 => ?_⟩
  cases h1
  have := s.hh
  rw [h2] at this
  have := this.2.1
  omega
theorem St.alloc2 {w : World} {f : Ar} {g : Option Nat} {V : World} (s : St w f g none V) : ∃ V1 h, V.alloc (.cells (FC nul) 62) = V1 ∧ V.heap.size = h ∧ St w f g (some h) V1 := by
  have s2 := s.call ((Below.refl V.heap.size V).alloc (Nat.le_refl _) (.cells (FC nul) 62))
  refine ⟨_, _, rfl, rfl, s2.bl, s2.sz, s2.hf, s2.hn, s2.hg, ⟨s.sz, by simp, heap_new' _ _ _ rfl⟩, fun x y h1 h2 => ?_⟩
  cases h2
  have := s.hg
  rw [h1] at this
  have := this.2.1
  omega
/-- What the region leaves. -/
def TwoR (w : World) (f p q : Ar) (u v : Value) (V : World) : Prop :=
  ∃ g h, u = .pointer (some ⟨g, 0, none⟩) ∧ v = .pointer (some ⟨h, 0, none⟩) ∧ w.heap.size + 2 ≤ g ∧ w.heap.size + 2 ≤ h ∧ g < V.heap.size ∧ h < V.heap.size ∧ Below w.heap.size w V ∧
    HasF V w.heap.size 62 f ∧ HasF V (w.heap.size + 1) 62 nul ∧ HasF V g 62 p ∧ HasF V h 62 q
theorem St.out {w : World} {f : Ar} {g h : Nat} {V : World} (s : St w f (some g) (some h) V) (p q : Ar) : TwoR w f p q (.pointer (some ⟨g, 0, none⟩)) (.pointer (some ⟨h, 0, none⟩)) ((V.setRow g (FC p)).setRow h (FC q)) := by
  have h1 := s.hg; have h2 := s.hh; have h3 := s.ne g h rfl rfl
  have a1 := h1.1; have a2 := h2.1
  refine ⟨g, h, rfl, rfl, h1.1, h2.1, by rw [setRow_size, setRow_size]; exact h1.2.1, by rw [setRow_size, setRow_size]; exact h2.2.1, below_setRow (below_setRow s.bl (by omega) _) (by omega) _,
    (s.hf.storeOther _ (by omega)).storeOther _ (by omega), (s.hn.storeOther _ (by omega)).storeOther _ (by omega), (h1.2.2.store p).storeOther _ h3, (h2.2.2.storeOther _ (fun e => h3 e.symm)).store q⟩
theorem St.hf1 {w : World} {f : Ar} {g h : Nat} {V : World} (s : St w f (some g) (some h) V) (p : Ar) : HasF (V.setRow g (FC p)) w.heap.size 62 f := s.hf.storeOther _ (by have := s.hg.1; omega)
theorem St.hh1 {w : World} {f : Ar} {g h : Nat} {V : World} (s : St w f (some g) (some h) V) (p : Ar) : HasF (V.setRow g (FC p)) h 62 nul := s.hh.2.2.storeOther _ (fun e => s.ne g h rfl rfl e.symm)
theorem yields_row {P : Program} {ops : Array Oper} {S : World → Prop} {op : Oper} {a : Act} (hw : Region.wanted op (yielded ops a.tmps) = true) (ty : TypeId) (x : Operand) (ho : op.op = .load ty x)
    (g : Nat) (hx : a.eval x = .pointer (some ⟨g, 0, none⟩)) (t : TypeId) (cs : Array Value) (fr : Nat × Nat) (d : TypeDesc) (hg : ∀ w, S w → w.heap[g]? = some (.cells cs t fr))
    (hu : P.underlying ty = some d) (hd : (match d with | .struct _ | .array _ _ => true | _ => false) = true) (hi : (P.info? ty).map (·.size) = some cs.size) : YieldsIf P ops S op (.agg cs) a :=
  .inl ⟨hw, fun w hw' => by
    unfold execOp
    simp only [ho, hx, Instr.loadAt, Instr.sureAddr, Sem.run_bind, Sem.run_pure, Result.andThen_ok, run_loadVar_row (P := P) w g t ty cs fr d (hg w hw') hu hd hi]⟩

theorem cross_1 (f : Ar) : Eqv f (crossA f 1) := fun x y _ _ => by
  unfold crossA
  rw [decide_eq_false (show ¬ (1 ≤ y ∧ y < 1) by omega), decide_eq_false (show ¬ (y + 1 < 1) by omega)]
  simp
def midA (f : Ar) (k : Nat) : Ar := fun x y => if y = k - 1 then crossA f (k + 1) x y else crossA f k x y
theorem mid_row {f : Ar} {k : Nat} (hk : 1 ≤ k) : rowOf (midA f k) (k - 1) = rowOf (crossA f k) (k - 1) ||| rowOf f k := by
  unfold rowOf
  rw [bits_or]
  refine bits_congr (fun x _ => ?_)
  unfold midA crossA
  rw [if_pos rfl]
  rw [decide_eq_true (show k - 1 + 1 < k + 1 by omega), decide_eq_false (show ¬ (k - 1 + 1 < k) by omega), show k - 1 + 1 = k by omega,
    show decide (1 ≤ k - 1 ∧ k - 1 < k + 1) = decide (1 ≤ k - 1 ∧ k - 1 < k) from by rw [decide_eq_decide]; omega]
  simp [Bool.or_assoc]
theorem mid_other {f : Ar} {k y : Nat} (h : y ≠ k - 1) (x : Nat) : midA f k x y = crossA f k x y := by unfold midA; rw [if_neg h]
theorem mid_at {f : Ar} {k : Nat} (hk : 1 ≤ k) : rowOf (midA f k) k = rowOf (crossA f k) k := bits_congr (fun x _ => mid_other (by omega) x)
theorem cross_row {f : Ar} {k : Nat} (hk : 1 ≤ k) : rowOf (crossA f (k + 1)) k = rowOf (midA f k) k ||| rowOf f (k - 1) := by
  rw [mid_at hk]
  unfold rowOf
  rw [bits_or]
  refine bits_congr (fun x _ => ?_)
  unfold crossA
  have h1 : 1 ≤ k ∧ k < k + 1 := by omega
  have h2 : ¬ (1 ≤ k ∧ k < k) := by omega
  have h3 : ¬ (k + 1 < k + 1) := by omega
  have h4 : ¬ (k + 1 < k) := by omega
  simp [h1, h2, h3, h4]
theorem cross_other {f : Ar} {k y : Nat} (hk : 1 ≤ k) (h : y ≠ k) (x : Nat) : crossA f (k + 1) x y = midA f k x y := by
  unfold midA
  by_cases e : y = k - 1
  · rw [if_pos e]
  · rw [if_neg e]
    unfold crossA
    rw [show decide (1 ≤ y ∧ y < k + 1) = decide (1 ≤ y ∧ y < k) from by rw [decide_eq_decide]; omega,
      show decide (y + 1 < k + 1) = decide (y + 1 < k) from by rw [decide_eq_decide]; omega]
theorem one_box (w : World) : ∃ V, w.alloc (.cells (FC nul) 62) = V ∧ Below w.heap.size w V ∧ HasF V w.heap.size 62 nul ∧ V.heap.size = w.heap.size + 1 :=
  ⟨_, rfl, (Below.refl _ _).alloc (Nat.le_refl _) _, heap_new' _ _ _ rfl, by simp⟩
theorem or48 {a b : Nat} (ha : a < 281474976710656) (hb : b < 281474976710656) : bits .or .i64 (a : Int) (b : Int) = ((a ||| b : Nat) : Int) ∧ a ||| b < 281474976710656 :=
  ⟨i64_or_nat a b (by omega) (by omega), Nat.or_lt_two_pow (n := 48) ha hb⟩
theorem iV_or {a b : Nat} (ha : a < 281474976710656) (hb : b < 281474976710656) : Value.int .i64 (bits .or .i64 (a : Int) (b : Int)) = iV (a ||| b) := by rw [(or48 ha hb).1]
theorem iV_or3 {a b c : Nat} (ha : a < 281474976710656) (hb : b < 281474976710656) (hc : c < 281474976710656) : Value.int .i64 (bits .or .i64 (a : Int) (bits .or .i64 (b : Int) (c : Int))) = iV (a ||| (b ||| c)) := by
  rw [(or48 hb hc).1, (or48 ha (or48 hb hc).2).1]

set_option maxRecDepth 100000 in
set_option maxHeartbeats 4000000 in
theorem grown1_any (f : Ar) (w : World) :
    Calls Tryd.prog 62 #[FV f] w fun e w' => e = .returned (FV (crossA (wideA f) 24)) ∧ Below w.heap.size w w' := by
  obtain ⟨W, hW, hB, hz, hF, hN⟩ := box_two w f nul
  have HS := Lib.hid (show St w f none none W from ⟨hB, by omega, hF, hN, trivial, trivial, fun _ _ h => by cases h⟩)
  have C1 := Lib.hid (fun W' => shifted_any f 1 1 (by decide) (by decide) W')
  have C2 := Lib.hid (fun W' => shifted_any f (-1) 47 (by decide) (by decide) W')
  rw [FC_nul] at hW
  simp only [FV_eq] at C1 C2
  rw [FV_eq, FV_eq]
  clear hF hN hB hz
  go_enter Tryd.func62, Tryd.ntmps62
  go_wp2
  clear hW
  go_cut [3, 4] (fun u v wx => TwoR w f (turn f 1) (turn f 47) u v wx)
  case first =>
    refine wp_region_held_drew (S := fun w' => HasF w' w.heap.size 62 f) (by kernel_rfl) HS.out.drew.hf (fun hHeld => ?_)
    have H0 := Lib.hid HS.out.drew
    clear HS
    refine wpAnyH_take (i := 0) (oi := _) (v := .agg (FC f)) rfl (by kernel_rfl) (by kernel_rfl) (by kernel_rfl) (fun _ _ _ h => h) (yields_row (by rfl) 62 _ rfl w.heap.size rfl 62 (FC f) (0, 0) _ (fun w' h => h) Tryd.underlying62 rfl (infoFC _)) hHeld ?_
    try simp only [Act.put, List.setIfInBounds_toArray, List.set_cons_zero, List.set_cons_succ]
    refine wpAnyH_take (i := 2) (oi := _) (v := .agg (FC f)) rfl (by kernel_rfl) (by kernel_rfl) (by kernel_rfl) (fun _ _ _ h => h) (yields_row (by rfl) 62 _ rfl w.heap.size rfl 62 (FC f) (0, 0) _ (fun w' h => h) Tryd.underlying62 rfl (infoFC _)) hHeld ?_
    try simp only [Act.put, List.setIfInBounds_toArray, List.set_cons_zero, List.set_cons_succ]
    refine wpAnyH_ready (rs := [1, 4, 5]) (by kernel_rfl) (by simp) ?_
    refine AllReadyH.cons (o := _) rfl (fun K hK => ?_) ?_
    · skip
      rw [if_pos (by kernel_rfl)]
      simp only [List.getElem_toArray, List.getElem_cons_zero, List.getElem_cons_succ]
      clear hHeld
      go_simp
      (with_reducible refine (C1.out _).mono ?_)
      rintro e V1 ⟨rfl, hb⟩
      have H1 := Lib.hid (H0.out.call hb); clear hb
      refine hK.out _ _ H1.out.hf (fun hHeld => ?_)
      clear hK K
      try simp only [Act.put, List.setIfInBounds_toArray, List.set_cons_zero, List.set_cons_succ]
      refine wpAnyH_ready (rs := [3, 4, 5]) (by kernel_rfl) (by simp) ?_
      refine AllReadyH.cons (o := _) rfl (fun K hK => ?_) ?_
      · skip
        rw [if_pos (by kernel_rfl)]
        simp only [List.getElem_toArray, List.getElem_cons_zero, List.getElem_cons_succ]
        clear hHeld
        go_simp
        (with_reducible refine (C2.out _).mono ?_)
        rintro e V2 ⟨rfl, hb⟩
        have H2 := Lib.hid (H1.out.call hb); clear hb
        refine hK.out _ _ H2.out.hf (fun hHeld => ?_)
        clear hK K
        try simp only [Act.put, List.setIfInBounds_toArray, List.set_cons_zero, List.set_cons_succ]
        refine wpAnyH_ready (rs := [4, 5]) (by kernel_rfl) (by simp) ?_
        refine AllReadyH.cons (o := _) rfl (fun K hK => ?_) ?_
        · skip
          rw [if_pos (by kernel_rfl)]
          simp only [List.getElem_toArray, List.getElem_cons_zero, List.getElem_cons_succ]
          obtain ⟨V3, g, e1, e2, s1⟩ := H2.out.alloc1
          rw [FC_nul] at e1
          have H3 := Lib.hid s1; clear s1
          clear hHeld
          go_simp
          clear e1 e2
          refine hK.out _ _ H3.out.hf (fun hHeld => ?_)
          clear hK K
          try simp only [Act.put, List.setIfInBounds_toArray, List.set_cons_zero, List.set_cons_succ]
          refine wpAnyH_ready (rs := [5]) (by kernel_rfl) (by simp) ?_
          refine AllReadyH.cons (o := _) rfl (fun K hK => ?_) AllReadyH.nil
          rw [if_pos (by kernel_rfl)]
          simp only [List.getElem_toArray, List.getElem_cons_zero, List.getElem_cons_succ]
          obtain ⟨V4, h, e1, e2, s1⟩ := H3.out.alloc2
          rw [FC_nul] at e1
          have H4 := Lib.hid s1; clear s1
          clear hHeld
          go_simp
          clear e1 e2
          refine hK.out _ _ H4.out.hf (fun hHeld => ?_)
          clear hK K
          try simp only [Act.put, List.setIfInBounds_toArray, List.set_cons_zero, List.set_cons_succ]
          refine wpAnyH_ready (rs := [6]) (by kernel_rfl) (by simp) ?_
          refine AllReadyH.cons (o := _) rfl (fun K hK => ?_) AllReadyH.nil
          rw [if_pos (by kernel_rfl)]
          simp only [List.getElem_toArray, List.getElem_cons_zero, List.getElem_cons_succ]
          refine wp_store_row 62 _ _ rfl g (FC (turn f 1)) rfl rfl 62 (FC nul) H4.out.hg.2.2 (infoFC _) (by rw [FC_size, FC_size]) (FC_one _) ?_
          refine hK.out _ _ (H4.out.hf1 _) (fun hHeld => ?_)
          clear hK K
          try simp only [Act.put, List.setIfInBounds_toArray, List.set_cons_zero, List.set_cons_succ]
          refine wpAnyH_ready (rs := [7]) (by kernel_rfl) (by simp) ?_
          refine AllReadyH.cons (o := _) rfl (fun K hK => ?_) AllReadyH.nil
          rw [if_pos (by kernel_rfl)]
          simp only [List.getElem_toArray, List.getElem_cons_zero, List.getElem_cons_succ]
          refine wp_store_row 62 _ _ rfl h (FC (turn f 47)) rfl rfl 62 (FC nul) (H4.out.hh1 _) (infoFC _) (by rw [FC_size, FC_size]) (FC_one _) ?_
          have ho := H4.out.out (turn f 1) (turn f 47)
          have hx := Lib.hid ho; clear ho
          refine hK.out _ _ (by obtain ⟨_, _, _, _, _, _, _, _, _, hf, _⟩ := hx.out; exact hf) (fun hHeld => ?_)
          clear hK K
          try simp only [Act.put, List.setIfInBounds_toArray, List.set_cons_zero, List.set_cons_succ]
          refine wpAnyH_done (by kernel_rfl) ?_ _
          go_wp2_with fail
          go_meet
          exact hx.out
        · skip
          refine AllReadyH.cons (o := _) rfl (fun K hK => ?_) AllReadyH.nil
          rw [if_pos (by kernel_rfl)]
          simp only [List.getElem_toArray, List.getElem_cons_zero, List.getElem_cons_succ]
          obtain ⟨V7, h, e1, e2, s1⟩ := H2.out.alloc2
          rw [FC_nul] at e1
          have H7 := Lib.hid s1; clear s1
          clear hHeld
          go_simp
          clear e1 e2
          refine hK.out _ _ H7.out.hf (fun hHeld => ?_)
          clear hK K
          try simp only [Act.put, List.setIfInBounds_toArray, List.set_cons_zero, List.set_cons_succ]
          refine wpAnyH_ready (rs := [4]) (by kernel_rfl) (by simp) ?_
          refine AllReadyH.cons (o := _) rfl (fun K hK => ?_) AllReadyH.nil
          rw [if_pos (by kernel_rfl)]
          simp only [List.getElem_toArray, List.getElem_cons_zero, List.getElem_cons_succ]
          obtain ⟨V8, g, e1, e2, s1⟩ := H7.out.alloc1
          rw [FC_nul] at e1
          have H8 := Lib.hid s1; clear s1
          clear hHeld
          go_simp
          clear e1 e2
          refine hK.out _ _ H8.out.hf (fun hHeld => ?_)
          clear hK K
          try simp only [Act.put, List.setIfInBounds_toArray, List.set_cons_zero, List.set_cons_succ]
          refine wpAnyH_ready (rs := [6]) (by kernel_rfl) (by simp) ?_
          refine AllReadyH.cons (o := _) rfl (fun K hK => ?_) AllReadyH.nil
          rw [if_pos (by kernel_rfl)]
          simp only [List.getElem_toArray, List.getElem_cons_zero, List.getElem_cons_succ]
          refine wp_store_row 62 _ _ rfl g (FC (turn f 1)) rfl rfl 62 (FC nul) H8.out.hg.2.2 (infoFC _) (by rw [FC_size, FC_size]) (FC_one _) ?_
          refine hK.out _ _ (H8.out.hf1 _) (fun hHeld => ?_)
          clear hK K
          try simp only [Act.put, List.setIfInBounds_toArray, List.set_cons_zero, List.set_cons_succ]
          refine wpAnyH_ready (rs := [7]) (by kernel_rfl) (by simp) ?_
          refine AllReadyH.cons (o := _) rfl (fun K hK => ?_) AllReadyH.nil
          rw [if_pos (by kernel_rfl)]
          simp only [List.getElem_toArray, List.getElem_cons_zero, List.getElem_cons_succ]
          refine wp_store_row 62 _ _ rfl h (FC (turn f 47)) rfl rfl 62 (FC nul) (H8.out.hh1 _) (infoFC _) (by rw [FC_size, FC_size]) (FC_one _) ?_
          have ho := H8.out.out (turn f 1) (turn f 47)
          have hx := Lib.hid ho; clear ho
          refine hK.out _ _ (by obtain ⟨_, _, _, _, _, _, _, _, _, hf, _⟩ := hx.out; exact hf) (fun hHeld => ?_)
          clear hK K
          try simp only [Act.put, List.setIfInBounds_toArray, List.set_cons_zero, List.set_cons_succ]
          refine wpAnyH_done (by kernel_rfl) ?_ _
          go_wp2_with fail
          go_meet
          exact hx.out
      · skip
        refine AllReadyH.cons (o := _) rfl (fun K hK => ?_) ?_
        · skip
          rw [if_pos (by kernel_rfl)]
          simp only [List.getElem_toArray, List.getElem_cons_zero, List.getElem_cons_succ]
          obtain ⟨V11, g, e1, e2, s1⟩ := H1.out.alloc1
          rw [FC_nul] at e1
          have H11 := Lib.hid s1; clear s1
          clear hHeld
          go_simp
          clear e1 e2
          refine hK.out _ _ H11.out.hf (fun hHeld => ?_)
          clear hK K
          try simp only [Act.put, List.setIfInBounds_toArray, List.set_cons_zero, List.set_cons_succ]
          refine wpAnyH_ready (rs := [3, 5]) (by kernel_rfl) (by simp) ?_
          refine AllReadyH.cons (o := _) rfl (fun K hK => ?_) ?_
          · skip
            rw [if_pos (by kernel_rfl)]
            simp only [List.getElem_toArray, List.getElem_cons_zero, List.getElem_cons_succ]
            clear hHeld
            go_simp
            (with_reducible refine (C2.out _).mono ?_)
            rintro e V12 ⟨rfl, hb⟩
            have H12 := Lib.hid (H11.out.call hb); clear hb
            refine hK.out _ _ H12.out.hf (fun hHeld => ?_)
            clear hK K
            try simp only [Act.put, List.setIfInBounds_toArray, List.set_cons_zero, List.set_cons_succ]
            refine wpAnyH_ready (rs := [5]) (by kernel_rfl) (by simp) ?_
            refine AllReadyH.cons (o := _) rfl (fun K hK => ?_) AllReadyH.nil
            rw [if_pos (by kernel_rfl)]
            simp only [List.getElem_toArray, List.getElem_cons_zero, List.getElem_cons_succ]
            obtain ⟨V13, h, e1, e2, s1⟩ := H12.out.alloc2
            rw [FC_nul] at e1
            have H13 := Lib.hid s1; clear s1
            clear hHeld
            go_simp
            clear e1 e2
            refine hK.out _ _ H13.out.hf (fun hHeld => ?_)
            clear hK K
            try simp only [Act.put, List.setIfInBounds_toArray, List.set_cons_zero, List.set_cons_succ]
            refine wpAnyH_ready (rs := [6]) (by kernel_rfl) (by simp) ?_
            refine AllReadyH.cons (o := _) rfl (fun K hK => ?_) AllReadyH.nil
            rw [if_pos (by kernel_rfl)]
            simp only [List.getElem_toArray, List.getElem_cons_zero, List.getElem_cons_succ]
            refine wp_store_row 62 _ _ rfl g (FC (turn f 1)) rfl rfl 62 (FC nul) H13.out.hg.2.2 (infoFC _) (by rw [FC_size, FC_size]) (FC_one _) ?_
            refine hK.out _ _ (H13.out.hf1 _) (fun hHeld => ?_)
            clear hK K
            try simp only [Act.put, List.setIfInBounds_toArray, List.set_cons_zero, List.set_cons_succ]
            refine wpAnyH_ready (rs := [7]) (by kernel_rfl) (by simp) ?_
            refine AllReadyH.cons (o := _) rfl (fun K hK => ?_) AllReadyH.nil
            rw [if_pos (by kernel_rfl)]
            simp only [List.getElem_toArray, List.getElem_cons_zero, List.getElem_cons_succ]
            refine wp_store_row 62 _ _ rfl h (FC (turn f 47)) rfl rfl 62 (FC nul) (H13.out.hh1 _) (infoFC _) (by rw [FC_size, FC_size]) (FC_one _) ?_
            have ho := H13.out.out (turn f 1) (turn f 47)
            have hx := Lib.hid ho; clear ho
            refine hK.out _ _ (by obtain ⟨_, _, _, _, _, _, _, _, _, hf, _⟩ := hx.out; exact hf) (fun hHeld => ?_)
            clear hK K
            try simp only [Act.put, List.setIfInBounds_toArray, List.set_cons_zero, List.set_cons_succ]
            refine wpAnyH_done (by kernel_rfl) ?_ _
            go_wp2_with fail
            go_meet
            exact hx.out
          · skip
            refine AllReadyH.cons (o := _) rfl (fun K hK => ?_) AllReadyH.nil
            rw [if_pos (by kernel_rfl)]
            simp only [List.getElem_toArray, List.getElem_cons_zero, List.getElem_cons_succ]
            obtain ⟨V16, h, e1, e2, s1⟩ := H11.out.alloc2
            rw [FC_nul] at e1
            have H16 := Lib.hid s1; clear s1
            clear hHeld
            go_simp
            clear e1 e2
            refine hK.out _ _ H16.out.hf (fun hHeld => ?_)
            clear hK K
            try simp only [Act.put, List.setIfInBounds_toArray, List.set_cons_zero, List.set_cons_succ]
            refine wpAnyH_ready (rs := [3]) (by kernel_rfl) (by simp) ?_
            refine AllReadyH.cons (o := _) rfl (fun K hK => ?_) AllReadyH.nil
            rw [if_pos (by kernel_rfl)]
            simp only [List.getElem_toArray, List.getElem_cons_zero, List.getElem_cons_succ]
            clear hHeld
            go_simp
            (with_reducible refine (C2.out _).mono ?_)
            rintro e V17 ⟨rfl, hb⟩
            have H17 := Lib.hid (H16.out.call hb); clear hb
            refine hK.out _ _ H17.out.hf (fun hHeld => ?_)
            clear hK K
            try simp only [Act.put, List.setIfInBounds_toArray, List.set_cons_zero, List.set_cons_succ]
            refine wpAnyH_ready (rs := [6]) (by kernel_rfl) (by simp) ?_
            refine AllReadyH.cons (o := _) rfl (fun K hK => ?_) AllReadyH.nil
            rw [if_pos (by kernel_rfl)]
            simp only [List.getElem_toArray, List.getElem_cons_zero, List.getElem_cons_succ]
            refine wp_store_row 62 _ _ rfl g (FC (turn f 1)) rfl rfl 62 (FC nul) H17.out.hg.2.2 (infoFC _) (by rw [FC_size, FC_size]) (FC_one _) ?_
            refine hK.out _ _ (H17.out.hf1 _) (fun hHeld => ?_)
            clear hK K
            try simp only [Act.put, List.setIfInBounds_toArray, List.set_cons_zero, List.set_cons_succ]
            refine wpAnyH_ready (rs := [7]) (by kernel_rfl) (by simp) ?_
            refine AllReadyH.cons (o := _) rfl (fun K hK => ?_) AllReadyH.nil
            rw [if_pos (by kernel_rfl)]
            simp only [List.getElem_toArray, List.getElem_cons_zero, List.getElem_cons_succ]
            refine wp_store_row 62 _ _ rfl h (FC (turn f 47)) rfl rfl 62 (FC nul) (H17.out.hh1 _) (infoFC _) (by rw [FC_size, FC_size]) (FC_one _) ?_
            have ho := H17.out.out (turn f 1) (turn f 47)
            have hx := Lib.hid ho; clear ho
            refine hK.out _ _ (by obtain ⟨_, _, _, _, _, _, _, _, _, hf, _⟩ := hx.out; exact hf) (fun hHeld => ?_)
            clear hK K
            try simp only [Act.put, List.setIfInBounds_toArray, List.set_cons_zero, List.set_cons_succ]
            refine wpAnyH_done (by kernel_rfl) ?_ _
            go_wp2_with fail
            go_meet
            exact hx.out
        · skip
          refine AllReadyH.cons (o := _) rfl (fun K hK => ?_) AllReadyH.nil
          rw [if_pos (by kernel_rfl)]
          simp only [List.getElem_toArray, List.getElem_cons_zero, List.getElem_cons_succ]
          obtain ⟨V20, h, e1, e2, s1⟩ := H1.out.alloc2
          rw [FC_nul] at e1
          have H20 := Lib.hid s1; clear s1
          clear hHeld
          go_simp
          clear e1 e2
          refine hK.out _ _ H20.out.hf (fun hHeld => ?_)
          clear hK K
          try simp only [Act.put, List.setIfInBounds_toArray, List.set_cons_zero, List.set_cons_succ]
          refine wpAnyH_ready (rs := [3, 4]) (by kernel_rfl) (by simp) ?_
          refine AllReadyH.cons (o := _) rfl (fun K hK => ?_) ?_
          · skip
            rw [if_pos (by kernel_rfl)]
            simp only [List.getElem_toArray, List.getElem_cons_zero, List.getElem_cons_succ]
            clear hHeld
            go_simp
            (with_reducible refine (C2.out _).mono ?_)
            rintro e V21 ⟨rfl, hb⟩
            have H21 := Lib.hid (H20.out.call hb); clear hb
            refine hK.out _ _ H21.out.hf (fun hHeld => ?_)
            clear hK K
            try simp only [Act.put, List.setIfInBounds_toArray, List.set_cons_zero, List.set_cons_succ]
            refine wpAnyH_ready (rs := [4]) (by kernel_rfl) (by simp) ?_
            refine AllReadyH.cons (o := _) rfl (fun K hK => ?_) AllReadyH.nil
            rw [if_pos (by kernel_rfl)]
            simp only [List.getElem_toArray, List.getElem_cons_zero, List.getElem_cons_succ]
            obtain ⟨V22, g, e1, e2, s1⟩ := H21.out.alloc1
            rw [FC_nul] at e1
            have H22 := Lib.hid s1; clear s1
            clear hHeld
            go_simp
            clear e1 e2
            refine hK.out _ _ H22.out.hf (fun hHeld => ?_)
            clear hK K
            try simp only [Act.put, List.setIfInBounds_toArray, List.set_cons_zero, List.set_cons_succ]
            refine wpAnyH_ready (rs := [6]) (by kernel_rfl) (by simp) ?_
            refine AllReadyH.cons (o := _) rfl (fun K hK => ?_) AllReadyH.nil
            rw [if_pos (by kernel_rfl)]
            simp only [List.getElem_toArray, List.getElem_cons_zero, List.getElem_cons_succ]
            refine wp_store_row 62 _ _ rfl g (FC (turn f 1)) rfl rfl 62 (FC nul) H22.out.hg.2.2 (infoFC _) (by rw [FC_size, FC_size]) (FC_one _) ?_
            refine hK.out _ _ (H22.out.hf1 _) (fun hHeld => ?_)
            clear hK K
            try simp only [Act.put, List.setIfInBounds_toArray, List.set_cons_zero, List.set_cons_succ]
            refine wpAnyH_ready (rs := [7]) (by kernel_rfl) (by simp) ?_
            refine AllReadyH.cons (o := _) rfl (fun K hK => ?_) AllReadyH.nil
            rw [if_pos (by kernel_rfl)]
            simp only [List.getElem_toArray, List.getElem_cons_zero, List.getElem_cons_succ]
            refine wp_store_row 62 _ _ rfl h (FC (turn f 47)) rfl rfl 62 (FC nul) (H22.out.hh1 _) (infoFC _) (by rw [FC_size, FC_size]) (FC_one _) ?_
            have ho := H22.out.out (turn f 1) (turn f 47)
            have hx := Lib.hid ho; clear ho
            refine hK.out _ _ (by obtain ⟨_, _, _, _, _, _, _, _, _, hf, _⟩ := hx.out; exact hf) (fun hHeld => ?_)
            clear hK K
            try simp only [Act.put, List.setIfInBounds_toArray, List.set_cons_zero, List.set_cons_succ]
            refine wpAnyH_done (by kernel_rfl) ?_ _
            go_wp2_with fail
            go_meet
            exact hx.out
          · skip
            refine AllReadyH.cons (o := _) rfl (fun K hK => ?_) AllReadyH.nil
            rw [if_pos (by kernel_rfl)]
            simp only [List.getElem_toArray, List.getElem_cons_zero, List.getElem_cons_succ]
            obtain ⟨V25, g, e1, e2, s1⟩ := H20.out.alloc1
            rw [FC_nul] at e1
            have H25 := Lib.hid s1; clear s1
            clear hHeld
            go_simp
            clear e1 e2
            refine hK.out _ _ H25.out.hf (fun hHeld => ?_)
            clear hK K
            try simp only [Act.put, List.setIfInBounds_toArray, List.set_cons_zero, List.set_cons_succ]
            refine wpAnyH_ready (rs := [3]) (by kernel_rfl) (by simp) ?_
            refine AllReadyH.cons (o := _) rfl (fun K hK => ?_) AllReadyH.nil
            rw [if_pos (by kernel_rfl)]
            simp only [List.getElem_toArray, List.getElem_cons_zero, List.getElem_cons_succ]
            clear hHeld
            go_simp
            (with_reducible refine (C2.out _).mono ?_)
            rintro e V26 ⟨rfl, hb⟩
            have H26 := Lib.hid (H25.out.call hb); clear hb
            refine hK.out _ _ H26.out.hf (fun hHeld => ?_)
            clear hK K
            try simp only [Act.put, List.setIfInBounds_toArray, List.set_cons_zero, List.set_cons_succ]
            refine wpAnyH_ready (rs := [6]) (by kernel_rfl) (by simp) ?_
            refine AllReadyH.cons (o := _) rfl (fun K hK => ?_) AllReadyH.nil
            rw [if_pos (by kernel_rfl)]
            simp only [List.getElem_toArray, List.getElem_cons_zero, List.getElem_cons_succ]
            refine wp_store_row 62 _ _ rfl g (FC (turn f 1)) rfl rfl 62 (FC nul) H26.out.hg.2.2 (infoFC _) (by rw [FC_size, FC_size]) (FC_one _) ?_
            refine hK.out _ _ (H26.out.hf1 _) (fun hHeld => ?_)
            clear hK K
            try simp only [Act.put, List.setIfInBounds_toArray, List.set_cons_zero, List.set_cons_succ]
            refine wpAnyH_ready (rs := [7]) (by kernel_rfl) (by simp) ?_
            refine AllReadyH.cons (o := _) rfl (fun K hK => ?_) AllReadyH.nil
            rw [if_pos (by kernel_rfl)]
            simp only [List.getElem_toArray, List.getElem_cons_zero, List.getElem_cons_succ]
            refine wp_store_row 62 _ _ rfl h (FC (turn f 47)) rfl rfl 62 (FC nul) (H26.out.hh1 _) (infoFC _) (by rw [FC_size, FC_size]) (FC_one _) ?_
            have ho := H26.out.out (turn f 1) (turn f 47)
            have hx := Lib.hid ho; clear ho
            refine hK.out _ _ (by obtain ⟨_, _, _, _, _, _, _, _, _, hf, _⟩ := hx.out; exact hf) (fun hHeld => ?_)
            clear hK K
            try simp only [Act.put, List.setIfInBounds_toArray, List.set_cons_zero, List.set_cons_succ]
            refine wpAnyH_done (by kernel_rfl) ?_ _
            go_wp2_with fail
            go_meet
            exact hx.out
    · skip
      refine AllReadyH.cons (o := _) rfl (fun K hK => ?_) ?_
      · skip
        rw [if_pos (by kernel_rfl)]
        simp only [List.getElem_toArray, List.getElem_cons_zero, List.getElem_cons_succ]
        obtain ⟨V29, g, e1, e2, s1⟩ := H0.out.alloc1
        rw [FC_nul] at e1
        have H29 := Lib.hid s1; clear s1
        clear hHeld
        go_simp
        clear e1 e2
        refine hK.out _ _ H29.out.hf (fun hHeld => ?_)
        clear hK K
        try simp only [Act.put, List.setIfInBounds_toArray, List.set_cons_zero, List.set_cons_succ]
        refine wpAnyH_ready (rs := [1, 5]) (by kernel_rfl) (by simp) ?_
        refine AllReadyH.cons (o := _) rfl (fun K hK => ?_) ?_
        · skip
          rw [if_pos (by kernel_rfl)]
          simp only [List.getElem_toArray, List.getElem_cons_zero, List.getElem_cons_succ]
          clear hHeld
          go_simp
          (with_reducible refine (C1.out _).mono ?_)
          rintro e V30 ⟨rfl, hb⟩
          have H30 := Lib.hid (H29.out.call hb); clear hb
          refine hK.out _ _ H30.out.hf (fun hHeld => ?_)
          clear hK K
          try simp only [Act.put, List.setIfInBounds_toArray, List.set_cons_zero, List.set_cons_succ]
          refine wpAnyH_ready (rs := [3, 5]) (by kernel_rfl) (by simp) ?_
          refine AllReadyH.cons (o := _) rfl (fun K hK => ?_) ?_
          · skip
            rw [if_pos (by kernel_rfl)]
            simp only [List.getElem_toArray, List.getElem_cons_zero, List.getElem_cons_succ]
            clear hHeld
            go_simp
            (with_reducible refine (C2.out _).mono ?_)
            rintro e V31 ⟨rfl, hb⟩
            have H31 := Lib.hid (H30.out.call hb); clear hb
            refine hK.out _ _ H31.out.hf (fun hHeld => ?_)
            clear hK K
            try simp only [Act.put, List.setIfInBounds_toArray, List.set_cons_zero, List.set_cons_succ]
            refine wpAnyH_ready (rs := [5]) (by kernel_rfl) (by simp) ?_
            refine AllReadyH.cons (o := _) rfl (fun K hK => ?_) AllReadyH.nil
            rw [if_pos (by kernel_rfl)]
            simp only [List.getElem_toArray, List.getElem_cons_zero, List.getElem_cons_succ]
            obtain ⟨V32, h, e1, e2, s1⟩ := H31.out.alloc2
            rw [FC_nul] at e1
            have H32 := Lib.hid s1; clear s1
            clear hHeld
            go_simp
            clear e1 e2
            refine hK.out _ _ H32.out.hf (fun hHeld => ?_)
            clear hK K
            try simp only [Act.put, List.setIfInBounds_toArray, List.set_cons_zero, List.set_cons_succ]
            refine wpAnyH_ready (rs := [6]) (by kernel_rfl) (by simp) ?_
            refine AllReadyH.cons (o := _) rfl (fun K hK => ?_) AllReadyH.nil
            rw [if_pos (by kernel_rfl)]
            simp only [List.getElem_toArray, List.getElem_cons_zero, List.getElem_cons_succ]
            refine wp_store_row 62 _ _ rfl g (FC (turn f 1)) rfl rfl 62 (FC nul) H32.out.hg.2.2 (infoFC _) (by rw [FC_size, FC_size]) (FC_one _) ?_
            refine hK.out _ _ (H32.out.hf1 _) (fun hHeld => ?_)
            clear hK K
            try simp only [Act.put, List.setIfInBounds_toArray, List.set_cons_zero, List.set_cons_succ]
            refine wpAnyH_ready (rs := [7]) (by kernel_rfl) (by simp) ?_
            refine AllReadyH.cons (o := _) rfl (fun K hK => ?_) AllReadyH.nil
            rw [if_pos (by kernel_rfl)]
            simp only [List.getElem_toArray, List.getElem_cons_zero, List.getElem_cons_succ]
            refine wp_store_row 62 _ _ rfl h (FC (turn f 47)) rfl rfl 62 (FC nul) (H32.out.hh1 _) (infoFC _) (by rw [FC_size, FC_size]) (FC_one _) ?_
            have ho := H32.out.out (turn f 1) (turn f 47)
            have hx := Lib.hid ho; clear ho
            refine hK.out _ _ (by obtain ⟨_, _, _, _, _, _, _, _, _, hf, _⟩ := hx.out; exact hf) (fun hHeld => ?_)
            clear hK K
            try simp only [Act.put, List.setIfInBounds_toArray, List.set_cons_zero, List.set_cons_succ]
            refine wpAnyH_done (by kernel_rfl) ?_ _
            go_wp2_with fail
            go_meet
            exact hx.out
          · skip
            refine AllReadyH.cons (o := _) rfl (fun K hK => ?_) AllReadyH.nil
            rw [if_pos (by kernel_rfl)]
            simp only [List.getElem_toArray, List.getElem_cons_zero, List.getElem_cons_succ]
            obtain ⟨V35, h, e1, e2, s1⟩ := H30.out.alloc2
            rw [FC_nul] at e1
            have H35 := Lib.hid s1; clear s1
            clear hHeld
            go_simp
            clear e1 e2
            refine hK.out _ _ H35.out.hf (fun hHeld => ?_)
            clear hK K
            try simp only [Act.put, List.setIfInBounds_toArray, List.set_cons_zero, List.set_cons_succ]
            refine wpAnyH_ready (rs := [3]) (by kernel_rfl) (by simp) ?_
            refine AllReadyH.cons (o := _) rfl (fun K hK => ?_) AllReadyH.nil
            rw [if_pos (by kernel_rfl)]
            simp only [List.getElem_toArray, List.getElem_cons_zero, List.getElem_cons_succ]
            clear hHeld
            go_simp
            (with_reducible refine (C2.out _).mono ?_)
            rintro e V36 ⟨rfl, hb⟩
            have H36 := Lib.hid (H35.out.call hb); clear hb
            refine hK.out _ _ H36.out.hf (fun hHeld => ?_)
            clear hK K
            try simp only [Act.put, List.setIfInBounds_toArray, List.set_cons_zero, List.set_cons_succ]
            refine wpAnyH_ready (rs := [6]) (by kernel_rfl) (by simp) ?_
            refine AllReadyH.cons (o := _) rfl (fun K hK => ?_) AllReadyH.nil
            rw [if_pos (by kernel_rfl)]
            simp only [List.getElem_toArray, List.getElem_cons_zero, List.getElem_cons_succ]
            refine wp_store_row 62 _ _ rfl g (FC (turn f 1)) rfl rfl 62 (FC nul) H36.out.hg.2.2 (infoFC _) (by rw [FC_size, FC_size]) (FC_one _) ?_
            refine hK.out _ _ (H36.out.hf1 _) (fun hHeld => ?_)
            clear hK K
            try simp only [Act.put, List.setIfInBounds_toArray, List.set_cons_zero, List.set_cons_succ]
            refine wpAnyH_ready (rs := [7]) (by kernel_rfl) (by simp) ?_
            refine AllReadyH.cons (o := _) rfl (fun K hK => ?_) AllReadyH.nil
            rw [if_pos (by kernel_rfl)]
            simp only [List.getElem_toArray, List.getElem_cons_zero, List.getElem_cons_succ]
            refine wp_store_row 62 _ _ rfl h (FC (turn f 47)) rfl rfl 62 (FC nul) (H36.out.hh1 _) (infoFC _) (by rw [FC_size, FC_size]) (FC_one _) ?_
            have ho := H36.out.out (turn f 1) (turn f 47)
            have hx := Lib.hid ho; clear ho
            refine hK.out _ _ (by obtain ⟨_, _, _, _, _, _, _, _, _, hf, _⟩ := hx.out; exact hf) (fun hHeld => ?_)
            clear hK K
            try simp only [Act.put, List.setIfInBounds_toArray, List.set_cons_zero, List.set_cons_succ]
            refine wpAnyH_done (by kernel_rfl) ?_ _
            go_wp2_with fail
            go_meet
            exact hx.out
        · skip
          refine AllReadyH.cons (o := _) rfl (fun K hK => ?_) AllReadyH.nil
          rw [if_pos (by kernel_rfl)]
          simp only [List.getElem_toArray, List.getElem_cons_zero, List.getElem_cons_succ]
          obtain ⟨V39, h, e1, e2, s1⟩ := H29.out.alloc2
          rw [FC_nul] at e1
          have H39 := Lib.hid s1; clear s1
          clear hHeld
          go_simp
          clear e1 e2
          refine hK.out _ _ H39.out.hf (fun hHeld => ?_)
          clear hK K
          try simp only [Act.put, List.setIfInBounds_toArray, List.set_cons_zero, List.set_cons_succ]
          refine wpAnyH_ready (rs := [1]) (by kernel_rfl) (by simp) ?_
          refine AllReadyH.cons (o := _) rfl (fun K hK => ?_) AllReadyH.nil
          rw [if_pos (by kernel_rfl)]
          simp only [List.getElem_toArray, List.getElem_cons_zero, List.getElem_cons_succ]
          clear hHeld
          go_simp
          (with_reducible refine (C1.out _).mono ?_)
          rintro e V40 ⟨rfl, hb⟩
          have H40 := Lib.hid (H39.out.call hb); clear hb
          refine hK.out _ _ H40.out.hf (fun hHeld => ?_)
          clear hK K
          try simp only [Act.put, List.setIfInBounds_toArray, List.set_cons_zero, List.set_cons_succ]
          refine wpAnyH_ready (rs := [3]) (by kernel_rfl) (by simp) ?_
          refine AllReadyH.cons (o := _) rfl (fun K hK => ?_) AllReadyH.nil
          rw [if_pos (by kernel_rfl)]
          simp only [List.getElem_toArray, List.getElem_cons_zero, List.getElem_cons_succ]
          clear hHeld
          go_simp
          (with_reducible refine (C2.out _).mono ?_)
          rintro e V41 ⟨rfl, hb⟩
          have H41 := Lib.hid (H40.out.call hb); clear hb
          refine hK.out _ _ H41.out.hf (fun hHeld => ?_)
          clear hK K
          try simp only [Act.put, List.setIfInBounds_toArray, List.set_cons_zero, List.set_cons_succ]
          refine wpAnyH_ready (rs := [6]) (by kernel_rfl) (by simp) ?_
          refine AllReadyH.cons (o := _) rfl (fun K hK => ?_) AllReadyH.nil
          rw [if_pos (by kernel_rfl)]
          simp only [List.getElem_toArray, List.getElem_cons_zero, List.getElem_cons_succ]
          refine wp_store_row 62 _ _ rfl g (FC (turn f 1)) rfl rfl 62 (FC nul) H41.out.hg.2.2 (infoFC _) (by rw [FC_size, FC_size]) (FC_one _) ?_
          refine hK.out _ _ (H41.out.hf1 _) (fun hHeld => ?_)
          clear hK K
          try simp only [Act.put, List.setIfInBounds_toArray, List.set_cons_zero, List.set_cons_succ]
          refine wpAnyH_ready (rs := [7]) (by kernel_rfl) (by simp) ?_
          refine AllReadyH.cons (o := _) rfl (fun K hK => ?_) AllReadyH.nil
          rw [if_pos (by kernel_rfl)]
          simp only [List.getElem_toArray, List.getElem_cons_zero, List.getElem_cons_succ]
          refine wp_store_row 62 _ _ rfl h (FC (turn f 47)) rfl rfl 62 (FC nul) (H41.out.hh1 _) (infoFC _) (by rw [FC_size, FC_size]) (FC_one _) ?_
          have ho := H41.out.out (turn f 1) (turn f 47)
          have hx := Lib.hid ho; clear ho
          refine hK.out _ _ (by obtain ⟨_, _, _, _, _, _, _, _, _, hf, _⟩ := hx.out; exact hf) (fun hHeld => ?_)
          clear hK K
          try simp only [Act.put, List.setIfInBounds_toArray, List.set_cons_zero, List.set_cons_succ]
          refine wpAnyH_done (by kernel_rfl) ?_ _
          go_wp2_with fail
          go_meet
          exact hx.out
      · skip
        refine AllReadyH.cons (o := _) rfl (fun K hK => ?_) AllReadyH.nil
        rw [if_pos (by kernel_rfl)]
        simp only [List.getElem_toArray, List.getElem_cons_zero, List.getElem_cons_succ]
        obtain ⟨V44, h, e1, e2, s1⟩ := H0.out.alloc2
        rw [FC_nul] at e1
        have H44 := Lib.hid s1; clear s1
        clear hHeld
        go_simp
        clear e1 e2
        refine hK.out _ _ H44.out.hf (fun hHeld => ?_)
        clear hK K
        try simp only [Act.put, List.setIfInBounds_toArray, List.set_cons_zero, List.set_cons_succ]
        refine wpAnyH_ready (rs := [1, 4]) (by kernel_rfl) (by simp) ?_
        refine AllReadyH.cons (o := _) rfl (fun K hK => ?_) ?_
        · skip
          rw [if_pos (by kernel_rfl)]
          simp only [List.getElem_toArray, List.getElem_cons_zero, List.getElem_cons_succ]
          clear hHeld
          go_simp
          (with_reducible refine (C1.out _).mono ?_)
          rintro e V45 ⟨rfl, hb⟩
          have H45 := Lib.hid (H44.out.call hb); clear hb
          refine hK.out _ _ H45.out.hf (fun hHeld => ?_)
          clear hK K
          try simp only [Act.put, List.setIfInBounds_toArray, List.set_cons_zero, List.set_cons_succ]
          refine wpAnyH_ready (rs := [3, 4]) (by kernel_rfl) (by simp) ?_
          refine AllReadyH.cons (o := _) rfl (fun K hK => ?_) ?_
          · skip
            rw [if_pos (by kernel_rfl)]
            simp only [List.getElem_toArray, List.getElem_cons_zero, List.getElem_cons_succ]
            clear hHeld
            go_simp
            (with_reducible refine (C2.out _).mono ?_)
            rintro e V46 ⟨rfl, hb⟩
            have H46 := Lib.hid (H45.out.call hb); clear hb
            refine hK.out _ _ H46.out.hf (fun hHeld => ?_)
            clear hK K
            try simp only [Act.put, List.setIfInBounds_toArray, List.set_cons_zero, List.set_cons_succ]
            refine wpAnyH_ready (rs := [4]) (by kernel_rfl) (by simp) ?_
            refine AllReadyH.cons (o := _) rfl (fun K hK => ?_) AllReadyH.nil
            rw [if_pos (by kernel_rfl)]
            simp only [List.getElem_toArray, List.getElem_cons_zero, List.getElem_cons_succ]
            obtain ⟨V47, g, e1, e2, s1⟩ := H46.out.alloc1
            rw [FC_nul] at e1
            have H47 := Lib.hid s1; clear s1
            clear hHeld
            go_simp
            clear e1 e2
            refine hK.out _ _ H47.out.hf (fun hHeld => ?_)
            clear hK K
            try simp only [Act.put, List.setIfInBounds_toArray, List.set_cons_zero, List.set_cons_succ]
            refine wpAnyH_ready (rs := [6]) (by kernel_rfl) (by simp) ?_
            refine AllReadyH.cons (o := _) rfl (fun K hK => ?_) AllReadyH.nil
            rw [if_pos (by kernel_rfl)]
            simp only [List.getElem_toArray, List.getElem_cons_zero, List.getElem_cons_succ]
            refine wp_store_row 62 _ _ rfl g (FC (turn f 1)) rfl rfl 62 (FC nul) H47.out.hg.2.2 (infoFC _) (by rw [FC_size, FC_size]) (FC_one _) ?_
            refine hK.out _ _ (H47.out.hf1 _) (fun hHeld => ?_)
            clear hK K
            try simp only [Act.put, List.setIfInBounds_toArray, List.set_cons_zero, List.set_cons_succ]
            refine wpAnyH_ready (rs := [7]) (by kernel_rfl) (by simp) ?_
            refine AllReadyH.cons (o := _) rfl (fun K hK => ?_) AllReadyH.nil
            rw [if_pos (by kernel_rfl)]
            simp only [List.getElem_toArray, List.getElem_cons_zero, List.getElem_cons_succ]
            refine wp_store_row 62 _ _ rfl h (FC (turn f 47)) rfl rfl 62 (FC nul) (H47.out.hh1 _) (infoFC _) (by rw [FC_size, FC_size]) (FC_one _) ?_
            have ho := H47.out.out (turn f 1) (turn f 47)
            have hx := Lib.hid ho; clear ho
            refine hK.out _ _ (by obtain ⟨_, _, _, _, _, _, _, _, _, hf, _⟩ := hx.out; exact hf) (fun hHeld => ?_)
            clear hK K
            try simp only [Act.put, List.setIfInBounds_toArray, List.set_cons_zero, List.set_cons_succ]
            refine wpAnyH_done (by kernel_rfl) ?_ _
            go_wp2_with fail
            go_meet
            exact hx.out
          · skip
            refine AllReadyH.cons (o := _) rfl (fun K hK => ?_) AllReadyH.nil
            rw [if_pos (by kernel_rfl)]
            simp only [List.getElem_toArray, List.getElem_cons_zero, List.getElem_cons_succ]
            obtain ⟨V50, g, e1, e2, s1⟩ := H45.out.alloc1
            rw [FC_nul] at e1
            have H50 := Lib.hid s1; clear s1
            clear hHeld
            go_simp
            clear e1 e2
            refine hK.out _ _ H50.out.hf (fun hHeld => ?_)
            clear hK K
            try simp only [Act.put, List.setIfInBounds_toArray, List.set_cons_zero, List.set_cons_succ]
            refine wpAnyH_ready (rs := [3]) (by kernel_rfl) (by simp) ?_
            refine AllReadyH.cons (o := _) rfl (fun K hK => ?_) AllReadyH.nil
            rw [if_pos (by kernel_rfl)]
            simp only [List.getElem_toArray, List.getElem_cons_zero, List.getElem_cons_succ]
            clear hHeld
            go_simp
            (with_reducible refine (C2.out _).mono ?_)
            rintro e V51 ⟨rfl, hb⟩
            have H51 := Lib.hid (H50.out.call hb); clear hb
            refine hK.out _ _ H51.out.hf (fun hHeld => ?_)
            clear hK K
            try simp only [Act.put, List.setIfInBounds_toArray, List.set_cons_zero, List.set_cons_succ]
            refine wpAnyH_ready (rs := [6]) (by kernel_rfl) (by simp) ?_
            refine AllReadyH.cons (o := _) rfl (fun K hK => ?_) AllReadyH.nil
            rw [if_pos (by kernel_rfl)]
            simp only [List.getElem_toArray, List.getElem_cons_zero, List.getElem_cons_succ]
            refine wp_store_row 62 _ _ rfl g (FC (turn f 1)) rfl rfl 62 (FC nul) H51.out.hg.2.2 (infoFC _) (by rw [FC_size, FC_size]) (FC_one _) ?_
            refine hK.out _ _ (H51.out.hf1 _) (fun hHeld => ?_)
            clear hK K
            try simp only [Act.put, List.setIfInBounds_toArray, List.set_cons_zero, List.set_cons_succ]
            refine wpAnyH_ready (rs := [7]) (by kernel_rfl) (by simp) ?_
            refine AllReadyH.cons (o := _) rfl (fun K hK => ?_) AllReadyH.nil
            rw [if_pos (by kernel_rfl)]
            simp only [List.getElem_toArray, List.getElem_cons_zero, List.getElem_cons_succ]
            refine wp_store_row 62 _ _ rfl h (FC (turn f 47)) rfl rfl 62 (FC nul) (H51.out.hh1 _) (infoFC _) (by rw [FC_size, FC_size]) (FC_one _) ?_
            have ho := H51.out.out (turn f 1) (turn f 47)
            have hx := Lib.hid ho; clear ho
            refine hK.out _ _ (by obtain ⟨_, _, _, _, _, _, _, _, _, hf, _⟩ := hx.out; exact hf) (fun hHeld => ?_)
            clear hK K
            try simp only [Act.put, List.setIfInBounds_toArray, List.set_cons_zero, List.set_cons_succ]
            refine wpAnyH_done (by kernel_rfl) ?_ _
            go_wp2_with fail
            go_meet
            exact hx.out
        · skip
          refine AllReadyH.cons (o := _) rfl (fun K hK => ?_) AllReadyH.nil
          rw [if_pos (by kernel_rfl)]
          simp only [List.getElem_toArray, List.getElem_cons_zero, List.getElem_cons_succ]
          obtain ⟨V54, g, e1, e2, s1⟩ := H44.out.alloc1
          rw [FC_nul] at e1
          have H54 := Lib.hid s1; clear s1
          clear hHeld
          go_simp
          clear e1 e2
          refine hK.out _ _ H54.out.hf (fun hHeld => ?_)
          clear hK K
          try simp only [Act.put, List.setIfInBounds_toArray, List.set_cons_zero, List.set_cons_succ]
          refine wpAnyH_ready (rs := [1]) (by kernel_rfl) (by simp) ?_
          refine AllReadyH.cons (o := _) rfl (fun K hK => ?_) AllReadyH.nil
          rw [if_pos (by kernel_rfl)]
          simp only [List.getElem_toArray, List.getElem_cons_zero, List.getElem_cons_succ]
          clear hHeld
          go_simp
          (with_reducible refine (C1.out _).mono ?_)
          rintro e V55 ⟨rfl, hb⟩
          have H55 := Lib.hid (H54.out.call hb); clear hb
          refine hK.out _ _ H55.out.hf (fun hHeld => ?_)
          clear hK K
          try simp only [Act.put, List.setIfInBounds_toArray, List.set_cons_zero, List.set_cons_succ]
          refine wpAnyH_ready (rs := [3]) (by kernel_rfl) (by simp) ?_
          refine AllReadyH.cons (o := _) rfl (fun K hK => ?_) AllReadyH.nil
          rw [if_pos (by kernel_rfl)]
          simp only [List.getElem_toArray, List.getElem_cons_zero, List.getElem_cons_succ]
          clear hHeld
          go_simp
          (with_reducible refine (C2.out _).mono ?_)
          rintro e V56 ⟨rfl, hb⟩
          have H56 := Lib.hid (H55.out.call hb); clear hb
          refine hK.out _ _ H56.out.hf (fun hHeld => ?_)
          clear hK K
          try simp only [Act.put, List.setIfInBounds_toArray, List.set_cons_zero, List.set_cons_succ]
          refine wpAnyH_ready (rs := [6]) (by kernel_rfl) (by simp) ?_
          refine AllReadyH.cons (o := _) rfl (fun K hK => ?_) AllReadyH.nil
          rw [if_pos (by kernel_rfl)]
          simp only [List.getElem_toArray, List.getElem_cons_zero, List.getElem_cons_succ]
          refine wp_store_row 62 _ _ rfl g (FC (turn f 1)) rfl rfl 62 (FC nul) H56.out.hg.2.2 (infoFC _) (by rw [FC_size, FC_size]) (FC_one _) ?_
          refine hK.out _ _ (H56.out.hf1 _) (fun hHeld => ?_)
          clear hK K
          try simp only [Act.put, List.setIfInBounds_toArray, List.set_cons_zero, List.set_cons_succ]
          refine wpAnyH_ready (rs := [7]) (by kernel_rfl) (by simp) ?_
          refine AllReadyH.cons (o := _) rfl (fun K hK => ?_) AllReadyH.nil
          rw [if_pos (by kernel_rfl)]
          simp only [List.getElem_toArray, List.getElem_cons_zero, List.getElem_cons_succ]
          refine wp_store_row 62 _ _ rfl h (FC (turn f 47)) rfl rfl 62 (FC nul) (H56.out.hh1 _) (infoFC _) (by rw [FC_size, FC_size]) (FC_one _) ?_
          have ho := H56.out.out (turn f 1) (turn f 47)
          have hx := Lib.hid ho; clear ho
          refine hK.out _ _ (by obtain ⟨_, _, _, _, _, _, _, _, _, hf, _⟩ := hx.out; exact hf) (fun hHeld => ?_)
          clear hK K
          try simp only [Act.put, List.setIfInBounds_toArray, List.set_cons_zero, List.set_cons_succ]
          refine wpAnyH_done (by kernel_rfl) ?_ _
          go_wp2_with fail
          go_meet
          exact hx.out
  case rest =>
    obtain ⟨g, h, rfl, rfl, hge, hhe, hgl, hhl, hB, hF, hN, hG, hH⟩ := hcut
    have HBB := Lib.hid hB; have HFF := Lib.hid hF; have HNN := Lib.hid hN; have HGG := Lib.hid hG; have HHH := Lib.hid hH
    have HL := Lib.hid (And.intro hge hhe)
    clear hB hF hN hG hH hge hhe hgl hhl C1 C2 HS
    go_wp2
    go_loopw [12] (fun iv wr => ∃ i : Nat, i ≤ 24 ∧ iv = .int .i64 i ∧ HasF wr w.heap.size FT (upto (wideA f) f i) ∧ HasF wr (w.heap.size + 1) FT nul ∧ HasF wr g FT (turn f 1) ∧ HasF wr h FT (turn f 47) ∧ Below w.heap.size w wr) (fun iv _ => 24 - (intOf iv).toNat)
    case atStart => exact ⟨0, by omega, rfl, HFF.out.eqv (upto_0 _ _), HNN.out, HGG.out, HHH.out, HBB.out⟩
    case round =>
      obtain ⟨i, hi, rfl, hF, hN, hG, hH, hB⟩ := hrel
      clear HBB HFF HNN HGG HHH
      have HBB := Lib.hid hB; have HFF := Lib.hid hF; have HNN := Lib.hid hN; have HGG := Lib.hid hG; have HHH := Lib.hid hH
      clear hB hF hN hG hH
      have hi0 : (0 : Int) ≤ i := by omega
      by_cases hlt : i < 24
      · have hi1 : (i : Int) < 24 := by omega
        have hc := HFF.out.cell hlt; have hf := HFF.out.frozen i
        have hcg := HGG.out.cell hlt; have hch := HHH.out.cell hlt
        rw [upto_row] at hc
        have HR := Lib.hid (And.intro (row_lt f i) (And.intro (row_lt (turn f 1) i) (row_lt (turn f 47) i)))
        have HW := Lib.hid (wide_row f i)
        generalize rowOf f i = r0 at hc HR HW
        generalize rowOf (turn f 1) i = r1 at hcg HR HW
        generalize rowOf (turn f 47) i = r2 at hch HR HW
        go_wp2
        go_still_tail 12, (by kernel_rfl)
        go_wp2
        refine ⟨⟨i + 1, by omega, by go_num, ?_⟩, by simp [intOf]; omega⟩
        rw [iV_or3 HR.out.1 HR.out.2.1 HR.out.2.2, ← HW.out]
        exact ⟨(HFF.out.drewN (n := 1)).step hlt rfl, (HNN.out.drewN (n := 1)).other (by omega), (HGG.out.drewN (n := 1)).other (by have := HL.out; omega), (HHH.out.drewN (n := 1)).other (by have := HL.out; omega), (below_dn HBB.out (n := 1)).setCell (Nat.le_refl _) _⟩
      · obtain rfl : i = 24 := by omega
        have HF2 := Lib.hid (HFF.out.eqv (upto_24 _ _))
        obtain ⟨V, hV, hbV, hq, hz⟩ := one_box wr
        rw [FC_nul] at hV
        have HQ := Lib.hid hq
        have HF3 := Lib.hid (HF2.out.below hbV HF2.out.lt)
        have HN3 := Lib.hid (HNN.out.below hbV HNN.out.lt)
        have HB3 := Lib.hid (HBB.out.trans (hbV.mono HBB.out.size))
        have HZ := Lib.hid (And.intro HF2.out.lt HNN.out.lt)
        clear hbV hq hz HFF HNN HGG HHH HBB HL
        go_wp2_with (first
          | (refine wpList_load_row rfl FT _ rfl w.heap.size rfl FT (FC (wideA f)) (0, 0) _ HF2.out Tryd.underlying62 rfl (infoFC _) ?_)
          | (refine wpList_store_row rfl FT _ _ rfl wr.heap.size (FC (wideA f)) rfl rfl FT (FC nul) HQ.out (infoFC _) (by rw [FC_size, FC_size]) (FC_one _) ?_))
        clear hV
        have HQ4 := Lib.hid (HQ.out.store (wideA f))
        have HF4 := Lib.hid (((HF3.out.storeOther (FC (wideA f)) (show w.heap.size ≠ wr.heap.size by have := HZ.out; omega))).eqv (cross_1 _))
        have HN4 := Lib.hid (HN3.out.storeOther (FC (wideA f)) (show w.heap.size + 1 ≠ wr.heap.size by have := HZ.out; omega))
        have HB4 := Lib.hid (below_setRow HB3.out (show w.heap.size ≤ wr.heap.size by have := HZ.out; omega) (FC (wideA f)))
        clear HQ HF3 HN3 HB3 HF2
        generalize V.setRow wr.heap.size (FC (wideA f)) = V2 at *
        go_loopw [7] (fun yv wx => ∃ k : Nat, 1 ≤ k ∧ k ≤ 24 ∧ yv = .int .i64 k ∧ HasF wx w.heap.size FT (crossA (wideA f) k) ∧ HasF wx (w.heap.size + 1) FT nul ∧ HasF wx wr.heap.size FT (wideA f) ∧ Below w.heap.size w wx) (fun yv _ => 24 - (intOf yv).toNat)
        case atStart => exact ⟨1, by omega, by omega, rfl, HF4.out, HN4.out, HQ4.out, HB4.out⟩
        case round =>
          obtain ⟨k, hk1, hk, rfl, hF, hN, hQ, hB⟩ := hrel
          clear HQ4 HF4 HN4 HB4
          have HBB := Lib.hid hB; have HFF := Lib.hid hF; have HNN := Lib.hid hN; have HQQ := Lib.hid hQ
          clear hB hF hN hQ
          have hk0 : (1 : Int) ≤ k := by omega
          rename World => w5
          by_cases hlt : k < 24
          · have hk2 : (k : Int) < 24 := by omega
            have hk3 : (k : Int) - 1 < 24 := by omega
            have hk4 : (0 : Int) ≤ (k : Int) - 1 := by omega
            have hk5 : ((k : Int) - 1).toNat = k - 1 := by omega
            have hk6 : IntKind.i64.wrap ((k : Int) - 1) = (k : Int) - 1 := IntWalk.i64_in _ ⟨by omega, by omega⟩
            have ha := HFF.out.cell (show k - 1 < 24 by omega); have hfa := HFF.out.frozen (k - 1)
            have hb := HQQ.out.cell hlt
            have HM := Lib.hid (mid_row (f := wideA f) hk1)
            have HR := Lib.hid (And.intro (row_lt (crossA (wideA f) k) (k - 1)) (row_lt (wideA f) k))
            generalize rowOf (crossA (wideA f) k) (k - 1) = ra at ha HM HR
            generalize rowOf (wideA f) k = rb at hb HM HR
            go_wp2
            go_still_tail 9, (by kernel_rfl)
            clear hk5 hk6 hk3 hk4
            go_wp2_with fail
            clear ha hfa hb
            obtain ⟨w6, h6⟩ : ∃ w6, (w5.setCell ⟨w.heap.size, k - 1, none⟩ (.int .i64 (bits .or .i64 (ra : Int) (rb : Int)))).drew = w6 := ⟨_, rfl⟩
            have HF6 := Lib.hid (show HasF w6 w.heap.size FT (midA (wideA f) k) from by
              rw [← h6, iV_or HR.out.1 HR.out.2]
              exact (HFF.out.set (f' := midA (wideA f) k) (k := k - 1) (by omega) HM.out (fun y _ hy x _ => mid_other hy x)))
            have HN6 := Lib.hid (show HasF w6 (w.heap.size + 1) FT nul from by rw [← h6]; exact HNN.out.other (by omega))
            have HQ6 := Lib.hid (show HasF w6 wr.heap.size FT (wideA f) from by rw [← h6]; exact HQQ.out.other (by have := HZ.out; omega))
            have HB6 := Lib.hid (show Below w.heap.size w w6 from by rw [← h6]; exact (HBB.out.setCell (p := ⟨w.heap.size, k - 1, none⟩) (Nat.le_refl _) _).drew)
            rw [h6]
            clear h6 HFF HNN HQQ HBB HM HR
            have hk3 : (k : Int) - 1 < 24 := by omega
            have hk4 : (0 : Int) ≤ (k : Int) - 1 := by omega
            have hk5 : ((k : Int) - 1).toNat = k - 1 := by omega
            have hk6 : IntKind.i64.wrap ((k : Int) - 1) = (k : Int) - 1 := IntWalk.i64_in _ ⟨by omega, by omega⟩
            have ha := HF6.out.cell hlt; have hfa := HF6.out.frozen k
            have hb := HQ6.out.cell (show k - 1 < 24 by omega)
            have HM := Lib.hid (cross_row (f := wideA f) hk1)
            have HR := Lib.hid (And.intro (row_lt (midA (wideA f) k) k) (row_lt (wideA f) (k - 1)))
            generalize rowOf (midA (wideA f) k) k = rc at ha HM HR
            generalize rowOf (wideA f) (k - 1) = rd at hb HM HR
            go_still_tail 9, (by kernel_rfl)
            clear hk5 hk6 hk3 hk4
            go_wp2
            refine ⟨⟨k + 1, by omega, by omega, by go_num, ?_⟩, by simp [intOf]; omega⟩
            rw [iV_or HR.out.1 HR.out.2]
            exact ⟨HF6.out.set (f' := crossA (wideA f) (k + 1)) hlt HM.out (fun y _ hy x _ => cross_other hk1 hy x), HN6.out.other (by omega), HQ6.out.other (by have := HZ.out; omega), (HB6.out.setCell (p := ⟨w.heap.size, k, none⟩) (Nat.le_refl _) _).drew⟩
          · obtain rfl : k = 24 := by omega
            clear HZ
            go_wp2_with (first
              | (refine wpList_load_row rfl FT _ rfl w.heap.size rfl FT (FC (crossA (wideA f) 24)) (0, 0) _ HFF.out Tryd.underlying62 rfl (infoFC _) ?_)
              | (refine wpList_store_row rfl FT _ _ rfl (w.heap.size + 1) (FC (crossA (wideA f) 24)) rfl rfl FT (FC nul) HNN.out (infoFC _) (by rw [FC_size, FC_size]) (FC_one _) ?_))
            exact bodyPost_ret (v := .agg (FC (crossA (wideA f) 24))) (results_cell_row rfl _ _ (w.heap.size + 1) FT _ (0, 0) _ rfl (HNN.out.store (crossA (wideA f) 24)) Tryd.underlying62 rfl (infoFC _)) rfl ⟨rfl, below_setRow HBB.out (by omega) _⟩
end Go.Proofs.YtipfafglbkbafaaDoor
