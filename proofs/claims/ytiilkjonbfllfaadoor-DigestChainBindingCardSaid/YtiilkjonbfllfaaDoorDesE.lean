/- The descent to an entry, walked. -/
import Derived.Test.YtiilkjonbfllfaaDoorRev
import Derived.Test.YtiilkjonbfllfaaDoorDsc
import Derived.Deep.RegionHeld3
import Derived.Deep.DeepCutAuto
import Derived.Deep.LoopGhost
import Derived.Deep.AppendLies
import Derived.StillTactics
import Derived.OwnWalk
import Derived.Laws.Pointers
namespace Go.Proofs.YtiilkjonbfllfaaDoor
open Go.RowKit

/-- A slice value that holds spans, in a row from block B on. -/
def SpHeld (w : World) (B : Nat) (v : Value) (xs : List Sp) : Prop :=
  (xs = [] ∧ v = .slice none 0 0) ∨ ∃ g c, v = .slice (some ⟨g, 0, none⟩) xs.length c ∧ B ≤ g ∧ SpRow w g c xs ∧ c ≤ maxLen
def DescOut (w : World) (d : Sp × List Sp) (e : Ending) (w' : World) : Prop :=
  ∃ v, e = .returned (.tuple #[.agg #[i64V d.1.1, i64V d.1.2], v]) ∧ SpHeld w' w.heap.size v d.2.reverse ∧ Below w.heap.size w w'
def spc (xs : List Sp) : List Value := xs.flatMap fun p => [i64V p.1, i64V p.2]
theorem spc_snoc (xs : List Sp) (p : Sp) : spc (xs ++ [p]) = spc xs ++ [i64V p.1, i64V p.2] := by simp [spc]
theorem spc_length (xs : List Sp) : (spc xs).length = xs.length * 2 := by
  induction xs with
  | nil => rfl
  | cons x xs ih => simp only [spc, List.flatMap_cons, List.length_append, List.length_cons, List.length_nil] at ih ⊢; omega
theorem spc_at (xs : List Sp) : ∀ (k : Nat) (p : Sp), xs[k]? = some p → (spc xs)[k * 2]? = some (i64V p.1) ∧ (spc xs)[k * 2 + 1]? = some (i64V p.2) := by
  induction xs with
  | nil => intro k p h; simp at h
  | cons x xs ih =>
    intro k p h
    cases k with
    | zero => simp at h; subst h; exact ⟨rfl, rfl⟩
    | succ k =>
      have := ih k p (by simpa using h)
      rw [show (k + 1) * 2 = k * 2 + 1 + 1 by omega]
      exact this
theorem sprow_of_own {w : World} {base g n c : Nat} {xs : List Sp} (h : w.ownsRow base 57 2 (.slice (some ⟨g, 0, none⟩) n c) n (spc xs)) (hn : xs.length = n) : SpRow w g c xs ∧ base ≤ g ∧ c ≤ maxLen := by
  rcases h.2 with ⟨h', _⟩ | ⟨g', cap', cur, h', hb, hg, hl, hm, hs, ht⟩
  · simp at h'
  · simp only [Value.slice.injEq, Option.some.injEq, Addr.mk.injEq, and_true, true_and] at h'
    obtain ⟨rfl, rfl⟩ := h'
    refine ⟨⟨cur, hg, hs, by omega, fun k p hk => ?_⟩, hb, hm⟩
    have hlt : k < xs.length := (List.getElem?_eq_some_iff.1 hk).1
    obtain ⟨h1, h2⟩ := spc_at xs k p hk
    rw [← ht, List.getElem?_take, if_pos (by omega), Array.getElem?_toList] at h1 h2
    exact ⟨h1, h2⟩
theorem own_below {w w1 : World} {base n s : Nat} {e : TypeId} {v : Value} {xs : List Value} (h : w.ownsRow base e s v n xs) (hb : Below w.heap.size w w1) : w1.ownsRow base e s v n xs :=
  h.kept (row := none) ⟨hb.os, hb.tape, hb.output, hb.size, fun k hk _ => hb.block k hk⟩ (by cases hv : v.ownBlock <;> simp)
theorem own_drewN {w : World} {base n s : Nat} {e : TypeId} {v : Value} {xs : List Value} (h : w.ownsRow base e s v n xs) (m : Nat) : (w.drewN m).ownsRow base e s v n xs := h
theorem info57 : (Tryd.prog.info? 57).map (fun i => (i.zero, i.size, i.bytes)) = some (some (.agg #[.int .i64 0, .int .i64 0]), 2, 16) := by kernel_rfl

theorem endE_any (a b : Nat) (hab : a ≤ b) (hb : b ≤ 9223372036854775807) (w : World) :
    Calls Tryd.prog 63 #[.agg #[i64V a, i64V b]] w fun e w' => e = .returned (.bool (stopE a b)) ∧ Below w.heap.size w w' := by
  have hs := Lib.hid (show stopE a b = ((b : Int) - a == 1) by
    unfold stopE
    rw [Bool.eq_iff_iff, beq_iff_eq, beq_iff_eq]; omega)
  go_enter Tryd.func63, Tryd.ntmps63
  go_wp2
  rw [← hs.out]
  go_ret
  exact ⟨rfl, (Below.refl _ _).alloc (Nat.le_refl _) _⟩

/-- The world between two steps of the descent: the result's box, the list's box, the row of the halves. -/
def DescW (w : World) (a b : Nat) (acc : List Sp) (v : Value) (wr : World) : Prop :=
  wr.heap[w.heap.size]? = some (.cells #[i64V 0, i64V 0] 57 (0, 0)) ∧ wr.heap[w.heap.size + 1]? = some (.cells #[i64V a, i64V b] 57 (0, 0)) ∧
    wr.ownsRow (w.heap.size + 2) 57 2 v acc.length (spc acc) ∧ Below w.heap.size w wr
def DescI (w : World) (stop : Nat → Nat → Bool) (n i : Nat) (gk : Nat) (v : Value) (wr : World) : Prop :=
  ∃ (a b : Nat) (acc : List Sp), a ≤ i ∧ i < b ∧ b ≤ n ∧ gk = b - a ∧ acc ++ (dscR stop a b i).2 = (dscR stop 0 n i).2 ∧ (dscR stop a b i).1 = (dscR stop 0 n i).1 ∧ acc.length ≤ 63 ∧ b - a ≤ 2 ^ (63 - acc.length) ∧ DescW w a b acc v wr
/-- Two boxes with the halves. -/
def Halves (w : World) (v : Value) (p q : Sp) (s11 s12 : Value) (wx : World) : Prop :=
  ∃ X Y : Nat, s11 = .pointer (some ⟨X, 0, none⟩) ∧ s12 = .pointer (some ⟨Y, 0, none⟩) ∧ X ≠ Y ∧ w.heap.size + 1 < X ∧ w.heap.size + 1 < Y ∧ v.ownBlock ≠ some X ∧ v.ownBlock ≠ some Y ∧
    wx.heap[X]? = some (.cells #[i64V p.1, i64V p.2] 57 (0, 0)) ∧ wx.heap[Y]? = some (.cells #[i64V q.1, i64V q.2] 57 (0, 0))
theorem DescW.below {w : World} {a b : Nat} {acc : List Sp} {v : Value} {w1 w2 : World} (h : DescW w a b acc v w1) (hb : Below w1.heap.size w1 w2) : DescW w a b acc v w2 :=
  ⟨(hb.block _ (Array.getElem?_eq_some_iff.1 h.1).1).trans h.1, (hb.block _ (Array.getElem?_eq_some_iff.1 h.2.1).1).trans h.2.1, own_below h.2.2.1 hb, h.2.2.2.trans (hb.mono h.2.2.2.size)⟩
theorem own_ne {w : World} {base n s : Nat} {e : TypeId} {v : Value} {xs : List Value} (h : w.ownsRow base e s v n xs) {X : Nat} (hX : w.heap.size ≤ X) : v.ownBlock ≠ some X := fun e => by
  have := (h.lt X e).2; omega
theorem halves_new {w w2 : World} {a b : Nat} {acc : List Sp} {v : Value} {p q : Sp} (h : DescW w a b acc v w2) (o1 o2 : Obj) (h1 : o1 = .cells #[i64V p.1, i64V p.2] 57 (0, 0)) (h2 : o2 = .cells #[i64V q.1, i64V q.2] 57 (0, 0)) :
    DescW w a b acc v ((w2.alloc o1).alloc o2).drew ∧ Halves w v p q (.pointer (some ⟨w2.heap.size, 0, none⟩)) (.pointer (some ⟨w2.heap.size + 1, 0, none⟩)) ((w2.alloc o1).alloc o2).drew := by
  have hz : w.heap.size + 1 < w2.heap.size := (Array.getElem?_eq_some_iff.1 h.2.1).1
  refine ⟨h.below ((((Below.refl _ _).alloc (Nat.le_refl _) _).alloc (by simp) _).drew), w2.heap.size, w2.heap.size + 1, rfl, rfl, by omega, hz, by omega, own_ne h.2.2.1 (Nat.le_refl _), own_ne h.2.2.1 (by omega), ?_, ?_⟩
  · rw [← h1]; exact (heap_old' _ _ _ (by simp)).trans (heap_new' _ _ _ rfl)
  · rw [← h2]; exact heap_new' _ _ _ (by simp)
theorem halves_new' {w w2 : World} {a b : Nat} {acc : List Sp} {v : Value} {p q : Sp} (h : DescW w a b acc v w2) (o1 o2 : Obj) (h1 : o1 = .cells #[i64V p.1, i64V p.2] 57 (0, 0)) (h2 : o2 = .cells #[i64V q.1, i64V q.2] 57 (0, 0)) :
    DescW w a b acc v ((w2.alloc o2).alloc o1).drew ∧ Halves w v p q (.pointer (some ⟨w2.heap.size + 1, 0, none⟩)) (.pointer (some ⟨w2.heap.size, 0, none⟩)) ((w2.alloc o2).alloc o1).drew := by
  have hz : w.heap.size + 1 < w2.heap.size := (Array.getElem?_eq_some_iff.1 h.2.1).1
  refine ⟨h.below ((((Below.refl _ _).alloc (Nat.le_refl _) _).alloc (by simp) _).drew), w2.heap.size + 1, w2.heap.size, rfl, rfl, by omega, by omega, hz, own_ne h.2.2.1 (by omega), own_ne h.2.2.1 (Nat.le_refl _), ?_, ?_⟩
  · rw [← h1]; exact heap_new' _ _ _ (by simp)
  · rw [← h2]; exact (heap_old' _ _ _ (by simp)).trans (heap_new' _ _ _ rfl)

theorem desc_len {d k : Nat} (h2 : 2 ≤ d) (hk : k ≤ 63) (h : d ≤ 2 ^ (63 - k)) : k + 1 ≤ 63 := by
  rcases Nat.lt_or_ge k 63 with h' | h'
  · omega
  · rw [show 63 - k = 0 by omega] at h; simp at h; omega
theorem desc_half {d k : Nat} (h2 : 2 ≤ d) (hk : k ≤ 63) (h : d ≤ 2 ^ (63 - k)) : half d ≤ 2 ^ (63 - (k + 1)) := by
  have := desc_len h2 hk h
  rw [show 63 - k = (63 - (k + 1)) + 1 by omega] at h
  exact half_le_pow h2 h
theorem desc_rest {d k : Nat} (h2 : 2 ≤ d) (hk : k ≤ 63) (h : d ≤ 2 ^ (63 - k)) : d - half d ≤ 2 ^ (63 - (k + 1)) := by
  have h1 := half_le h2
  have h3 := half_lt h2
  have := desc_half h2 hk h
  omega
theorem sprow_other {w : World} {g c : Nat} {xs : List Sp} (h : SpRow w g c xs) {X j : Nat} {u : Value} (hX : g ≠ X) : SpRow (w.setCell ⟨X, j, none⟩ u) g c xs := by
  obtain ⟨cur, h1, h2⟩ := h
  exact ⟨cur, (heap_setCell_other _ _ _ _ hX).trans h1, h2⟩
theorem row2_set {w : World} {X : Nat} {u v u' v' : Value} (h : w.heap[X]? = some (.cells #[u, v] 57 (0, 0))) :
    ((w.setCell ⟨X, 0, none⟩ u').setCell ⟨X, 1, none⟩ v').heap[X]? = some (.cells #[u', v'] 57 (0, 0)) :=
  heap_setCell_same _ _ _ _ _ _ (heap_setCell_same _ _ _ _ _ _ h)
theorem row2_other {w : World} {X Y : Nat} {u' v' : Value} (h : Y ≠ X) : ((w.setCell ⟨X, 0, none⟩ u').setCell ⟨X, 1, none⟩ v').heap[Y]? = w.heap[Y]? :=
  (heap_setCell_other _ _ _ _ h).trans (heap_setCell_other _ _ _ _ h)
theorem own_set {w : World} {base n s : Nat} {e : TypeId} {v : Value} {xs : List Value} (h : w.ownsRow base e s v n xs) {X : Nat} (hX : v.ownBlock ≠ some X) (j : Nat) (u : Value) : (w.setCell ⟨X, j, none⟩ u).ownsRow base e s v n xs :=
  h.kept (row := some X) ⟨rfl, rfl, rfl, by simp [World.setCell], fun k _ hk => heap_setCell_other _ _ _ _ (fun e => hk (by rw [e]))⟩ (.inr hX)
theorem DescW.set {w : World} {a b : Nat} {acc : List Sp} {v : Value} {wx : World} (h : DescW w a b acc v wx) {X : Nat} (hX : w.heap.size + 1 < X) (hv : v.ownBlock ≠ some X) (u u' : Value) :
    DescW w a b acc v ((wx.setCell ⟨X, 0, none⟩ u).setCell ⟨X, 1, none⟩ u') :=
  ⟨(row2_other (by omega)).trans h.1, (row2_other (by omega)).trans h.2.1, own_set (own_set h.2.2.1 hv _ _) hv _ _, (h.2.2.2.setCell (by simp; omega) _).setCell (by simp; omega) _⟩

set_option maxRecDepth 100000 in
set_option maxHeartbeats 4000000 in
theorem descE_any (n i : Nat) (hi : i < n) (hn : n ≤ 9223372036854775807) (w : World) :
    Calls Tryd.prog 62 #[.int .i64 n, .int .i64 i, .func (.func 63) #[] #[]] w (DescOut w (dscR stopE 0 n i)) := by
  obtain ⟨i0, hi0, hz0, hz1, hz2⟩ := info_parts info57
  have hends := ends_E i
  go_enter Tryd.func62, Tryd.ntmps62
  go_wp2
  go_loopg [9] n (fun gk v wr => DescI w stopE n i gk v wr)
  case atStart =>
    refine ⟨0, n, [], Nat.zero_le _, hi, Nat.le_refl _, by omega, rfl, rfl, by simp, by simp; omega, ?_, ?_, World.ownsRow_nil _ _ _ _, ?_⟩
    · exact (heap_old' _ _ _ (by simp)).trans (heap_new' _ _ _ rfl)
    · exact (heap_new' _ _ _ (by simp))
    · exact ((Below.refl _ _).alloc (Nat.le_refl _) _).alloc (by simp) _
  case round =>
    obtain ⟨a, b, acc, ha, hb, hbn, hgk, hacc, hfst, hal, hlen, hW⟩ := hrel
    have c0 : wr.cell? ⟨w.heap.size + 1, 0, none⟩ = some (i64V a) := by rw [cell_of_row _ _ _ _ _ _ hW.2.1]; rfl
    have c1 : wr.cell? ⟨w.heap.size + 1, 1, none⟩ = some (i64V b) := by rw [cell_of_row _ _ _ _ _ _ hW.2.1]; rfl
    have hz8 : w.heap.size + 1 < wr.heap.size := block_lt_of_cell c0
    cases hst : stopE a b with
    | true =>
      have HST := Lib.hid hst
      have hd := dscR_stop _ a b i hst
      rw [hd] at hacc hfst
      rw [List.append_nil] at hacc
      have HACC := Lib.hid hacc; have HF := Lib.hid hfst
      clear hst hacc hfst hgk
      go_wp2_with fail
      refine (endE_any a b (by omega) (by omega) _).mono ?_
      rw [HST.out]
      rintro e w1 ⟨rfl, hb1⟩
      have hW1 := hW.below hb1
      clear c0 c1 hW
      have hrow : (u9 = .slice none 0 0 ∧ acc = []) ∨ ∃ g c, u9 = .slice (some ⟨g, 0, none⟩) acc.length c ∧ SpRow w1 g c acc ∧ w.heap.size + 2 ≤ g ∧ c ≤ maxLen := by
        rcases hW1.2.2.1.2 with ⟨h, h'⟩ | ⟨g, cap, cur, h, _⟩
        · exact .inl ⟨h, List.length_eq_zero_iff.1 h'⟩
        · have ho := hW1.2.2.1
          rw [h] at ho
          obtain ⟨r1, r2, r3⟩ := sprow_of_own ho rfl
          exact .inr ⟨g, cap, h, r1, r2, r3⟩
      have hB1 := hW1.2.2.2
      have h61 := hW1.1
      have h81 := hW1.2.1
      have hz1 : w.heap.size + 1 < w1.heap.size := (Array.getElem?_eq_some_iff.1 h81).1
      have H61 := Lib.hid h61; have H81 := Lib.hid h81
      clear hW1 hb1 h61 h81
      rcases hrow with ⟨rfl, rfl⟩ | ⟨g, c, rfl, hr, hg, hc⟩
      · go_wp2_with fail
        refine (reverse_nil _).mono ?_
        rintro e w2 ⟨rfl, rfl⟩
        have q0 : w1.cell? ⟨w.heap.size + 1, 0, none⟩ = some (i64V a) := by rw [cell_of_row _ _ _ _ _ _ H81.out]; rfl
        have q1 : w1.cell? ⟨w.heap.size + 1, 1, none⟩ = some (i64V b) := by rw [cell_of_row _ _ _ _ _ _ H81.out]; rfl
        have q2 : w1.cell? ⟨w.heap.size, 0, none⟩ = some (i64V 0) := by rw [cell_of_row _ _ _ _ _ _ H61.out]; rfl
        have q3 : w1.cell? ⟨w.heap.size, 1, none⟩ = some (i64V 0) := by rw [cell_of_row _ _ _ _ _ _ H61.out]; rfl
        have q4 := frozen_of_row _ _ 0 _ _ H61.out
        have q5 := frozen_of_row _ _ 1 _ _ H61.out
        have r0 : (w1.setCell ⟨w.heap.size, 0, none⟩ (.int .i64 a)).cell? ⟨w.heap.size, 0, none⟩ = some (.int .i64 a) := by rw [cell_of_row _ _ _ _ _ _ (heap_setCell_same _ _ _ _ _ _ H61.out)]; rfl
        have r1 : ((w1.setCell ⟨w.heap.size, 0, none⟩ (.int .i64 a)).setCell ⟨w.heap.size, 1, none⟩ (.int .i64 b)).cell? ⟨w.heap.size, 1, none⟩ = some (.int .i64 b) := by rw [cell_of_row _ _ _ _ _ _ (row2_set H61.out)]; rfl
        have R0 := Lib.hid r0; have R1 := Lib.hid r1
        clear r0 r1
        go_wp2_with fail
        refine bodyPost_ret (v := .tuple #[.agg #[i64V a, i64V b], .slice none 0 0]) (by simp [results, Tryd.results62, R0.out, R1.out, go_sem]) rfl ⟨_, by rw [← HF.out], .inl ⟨by rw [← HACC.out]; rfl, rfl⟩, (hB1.setCell (Nat.le_refl _) _).setCell (Nat.le_refl _) _⟩
      · go_wp2_with fail
        refine (reverse_any g acc.length c acc rfl (by omega) _ hr).mono ?_
        rintro e w2 ⟨rfl, hr2, hgr2⟩
        have H62 := Lib.hid ((hgr2.block _ (by omega) (fun e => by cases e; omega)).trans H61.out)
        have H82 := Lib.hid ((hgr2.block _ hz1 (fun e => by cases e; omega)).trans H81.out)
        have q0 : w2.cell? ⟨w.heap.size + 1, 0, none⟩ = some (i64V a) := by rw [cell_of_row _ _ _ _ _ _ H82.out]; rfl
        have q1 : w2.cell? ⟨w.heap.size + 1, 1, none⟩ = some (i64V b) := by rw [cell_of_row _ _ _ _ _ _ H82.out]; rfl
        have q2 : w2.cell? ⟨w.heap.size, 0, none⟩ = some (i64V 0) := by rw [cell_of_row _ _ _ _ _ _ H62.out]; rfl
        have q3 : w2.cell? ⟨w.heap.size, 1, none⟩ = some (i64V 0) := by rw [cell_of_row _ _ _ _ _ _ H62.out]; rfl
        have q4 := frozen_of_row _ _ 0 _ _ H62.out
        have q5 := frozen_of_row _ _ 1 _ _ H62.out
        have r0 : (w2.setCell ⟨w.heap.size, 0, none⟩ (.int .i64 a)).cell? ⟨w.heap.size, 0, none⟩ = some (.int .i64 a) := by rw [cell_of_row _ _ _ _ _ _ (heap_setCell_same _ _ _ _ _ _ H62.out)]; rfl
        have r1 : ((w2.setCell ⟨w.heap.size, 0, none⟩ (.int .i64 a)).setCell ⟨w.heap.size, 1, none⟩ (.int .i64 b)).cell? ⟨w.heap.size, 1, none⟩ = some (.int .i64 b) := by rw [cell_of_row _ _ _ _ _ _ (row2_set H62.out)]; rfl
        have R0 := Lib.hid r0; have R1 := Lib.hid r1
        clear r0 r1
        go_wp2_with fail
        refine bodyPost_ret (v := .tuple #[.agg #[i64V a, i64V b], .slice (some ⟨g, 0, none⟩) acc.length c]) (by simp [results, Tryd.results62, R0.out, R1.out, go_sem]) rfl ⟨_, by rw [← HF.out], .inr ⟨g, c, ?_, by omega, ?_, hc⟩, ?_⟩
        · rw [← HACC.out, List.length_reverse]
        · rw [← HACC.out]; exact sprow_other (sprow_other hr2 (by omega)) (by omega)
        · exact ((hB1.grown hgr2 hB1.size (fun k e => by cases e; omega)).setCell (Nat.le_refl _) _).setCell (Nat.le_refl _) _
    | false =>
      have h2 := dscR_two hends ha hb hst
      have hlt := half_lt h2
      have hp := half_pos (b - a)
      have HST := Lib.hid hst; have HACC := Lib.hid hacc; have HF := Lib.hid hfst; have HGK := Lib.hid hgk
      clear hst hacc hfst hgk
      go_wp2_with fail
      refine (endE_any a b (by omega) (by omega) _).mono ?_
      rw [HST.out]
      rintro e w1 ⟨rfl, hb1⟩
      have d0 : w1.cell? ⟨w.heap.size + 1, 0, none⟩ = some (i64V a) := (hb1.cell (p := ⟨w.heap.size + 1, 0, none⟩) hz8).trans c0
      have d1 : w1.cell? ⟨w.heap.size + 1, 1, none⟩ = some (i64V b) := (hb1.cell (p := ⟨w.heap.size + 1, 1, none⟩) hz8).trans c1
      have hW1 := hW.below hb1
      clear c0 c1 hW
      have hba : ((b : Int) - a) = ((b - a : Nat) : Int) := by omega
      have FH := fun w2 : World => firstHalf_any (b - a) h2 (by omega) w2
      rw [← hba] at FH
      clear hba
      obtain ⟨h, hh⟩ : ∃ h, half (b - a) = h := ⟨_, rfl⟩
      rw [hh] at hlt hp FH
      have HH := Lib.hid hh; clear hh
      have FH' := Lib.hid FH; clear FH
      go_wp2_with fail
      go_quiet ((go_at_call 49; exact Calls.quiet_of_same ((FH'.out _).mono fun _ _ h => ⟨h.1, h.2.symm⟩)))
      go_upto_region 5 with (fail)
      have hW2 : DescW w a b acc u9 (w1.drewN nq) := hW1.below (below_drewN (Below.refl _ _) nq)
      have d0 : (w1.drewN nq).cell? ⟨w.heap.size + 1, 0, none⟩ = some (i64V a) := d0
      have d1 : (w1.drewN nq).cell? ⟨w.heap.size + 1, 1, none⟩ = some (i64V b) := d1
      have hz2 : w.heap.size + 1 < (w1.drewN nq).heap.size := block_lt_of_cell (a := ⟨w.heap.size + 1, 0, none⟩) d0
      generalize w1.drewN nq = w2 at *
      clear hb1 hW1 FH'
      go_cut [11, 12] (fun s11 s12 wx => DescW w a b acc u9 wx ∧ Halves w u9 (a, a + h) (a + h, b) s11 s12 wx)
      case first =>
        have al1 : ∀ j o, j < 2 → (w2.alloc o).cell? ⟨w.heap.size + 1, j, none⟩ = w2.cell? ⟨w.heap.size + 1, j, none⟩ := fun j o _ => World.cell?_of_block (heap_old' _ _ _ hz2)
        have al2 : ∀ j o1 o2, j < 2 → ((w2.alloc o1).alloc o2).cell? ⟨w.heap.size + 1, j, none⟩ = w2.cell? ⟨w.heap.size + 1, j, none⟩ := fun j o1 o2 _ => World.cell?_of_block ((heap_old' _ _ _ (by simp; omega)).trans (heap_old' _ _ _ hz2))
        have e01 := fun o => (al1 0 o (by omega)).trans d0
        have e11 := fun o => (al1 1 o (by omega)).trans d1
        have e02 := fun o1 o2 => (al2 0 o1 o2 (by omega)).trans d0
        have e12 := fun o1 o2 => (al2 1 o1 o2 (by omega)).trans d1
        clear al1 al2
        go_region
        all_goals go_wp2_with fail
        all_goals go_meet
        all_goals first | exact halves_new hW2 _ _ (by simp) (by simp) | exact halves_new' hW2 _ _ (by simp) (by simp)
      case rest =>
        clear d0 d1 hz2 hW2
        obtain ⟨hW3, X, Y, rfl, rfl, hXY, hX, hY, hvX, hvY, hgX, hgY⟩ := hcut
        have x0 : wc.cell? ⟨X, 0, none⟩ = some (i64V a) := by rw [cell_of_row _ _ _ _ _ _ hgX]; rfl
        have x1 : wc.cell? ⟨X, 1, none⟩ = some (i64V (a + h)) := by rw [cell_of_row _ _ _ _ _ _ hgX]; rfl
        have y0 : wc.cell? ⟨Y, 0, none⟩ = some (i64V (a + h)) := by rw [cell_of_row _ _ _ _ _ _ hgY]; rfl
        have y1 : wc.cell? ⟨Y, 1, none⟩ = some (i64V b) := by rw [cell_of_row _ _ _ _ _ _ hgY]; rfl
        have fx0 := frozen_of_row _ _ 0 _ _ hgX
        have fx1 := frozen_of_row _ _ 1 _ _ hgX
        have fy0 := frozen_of_row _ _ 0 _ _ hgY
        have fy1 := frozen_of_row _ _ 1 _ _ hgY
        have HGX := Lib.hid hgX; have HGY := Lib.hid hgY
        clear hgX hgY
        obtain ⟨P, hP⟩ : ∃ P : Sp, (if i < a + h then (a, a + h) else (a + h, b)) = P := ⟨_, rfl⟩
        obtain ⟨Q, hQ⟩ : ∃ Q : Sp, (if i < a + h then (a + h, b) else (a, a + h)) = Q := ⟨_, rfl⟩
        have HP := Lib.hid hP; have HQ := Lib.hid hQ
        clear hP hQ
        go_upto_if 38 with (fail)
        go_cut [11, 12] (fun s11 s12 wx => DescW w a b acc u9 wx ∧ Halves w u9 P Q s11 s12 wx)
        case first =>
          by_cases hk : i < a + h
          · have hki : (i : Int) < (a : Int) + h := by omega
            go_wp2_with fail
            go_meet
            refine ⟨hW3, X, Y, rfl, rfl, hXY, hX, hY, hvX, hvY, ?_, ?_⟩
            · rw [← HP.out, if_pos hk]; exact HGX.out
            · rw [← HQ.out, if_pos hk]; exact HGY.out
          · have hki : (a : Int) + h ≤ i := by omega
            go_wp2_with fail
            go_meet
            refine ⟨(hW3.set hX hvX _ _).set hY hvY _ _, X, Y, rfl, rfl, hXY, hX, hY, hvX, hvY, ?_, ?_⟩
            · rw [← HP.out, if_neg hk]
              exact (row2_other hXY).trans (by rw [row2_set HGX.out]; simp)
            · rw [← HQ.out, if_neg hk]
              refine (row2_set ((row2_other (Ne.symm hXY)).trans HGY.out)).trans (by simp)
        case rest =>
          clear x0 x1 y0 y1 fx0 fx1 fy0 fy1 hvX hvY hX hY HGX HGY hXY hW3
          obtain ⟨hW4, X, Y, rfl, rfl, hXY, hX, hY, hvX, hvY, hgX, hgY⟩ := hcut
          have x0 : wc.cell? ⟨X, 0, none⟩ = some (i64V P.1) := by rw [cell_of_row _ _ _ _ _ _ hgX]; rfl
          have x1 : wc.cell? ⟨X, 1, none⟩ = some (i64V P.2) := by rw [cell_of_row _ _ _ _ _ _ hgX]; rfl
          have y0 : wc.cell? ⟨Y, 0, none⟩ = some (i64V Q.1) := by rw [cell_of_row _ _ _ _ _ _ hgY]; rfl
          have y1 : wc.cell? ⟨Y, 1, none⟩ = some (i64V Q.2) := by rw [cell_of_row _ _ _ _ _ _ hgY]; rfl
          have z0 : wc.cell? ⟨w.heap.size + 1, 0, none⟩ = some (i64V a) := by rw [cell_of_row _ _ _ _ _ _ hW4.2.1]; rfl
          have z1 : wc.cell? ⟨w.heap.size + 1, 1, none⟩ = some (i64V b) := by rw [cell_of_row _ _ _ _ _ _ hW4.2.1]; rfl
          have zf0 := frozen_of_row _ _ 0 _ _ hW4.2.1
          have zf1 := frozen_of_row _ _ 1 _ _ hW4.2.1
          have lX : X < wc.heap.size := block_lt_of_cell x0
          have lY : Y < wc.heap.size := block_lt_of_cell y0
          have lZ : w.heap.size + 1 < wc.heap.size := block_lt_of_cell z0
          have hown := hW4.2.2.1
          have h6 := hW4.1
          have hB4 := hW4.2.2.2
          have H6 := Lib.hid h6; have H8 := Lib.hid hW4.2.1
          clear hgX hgY h6 hW4
          have hvZ : u9.ownBlock ≠ some (w.heap.size + 1) := fun e => by have := (hown.lt _ e).1; omega
          have hv6 : u9.ownBlock ≠ some w.heap.size := fun e => by have := (hown.lt _ e).1; omega
          go_wp2_with fail
          go_region_held3 (fun w' => w'.cell? ⟨X, 0, none⟩ = some (i64V P.1) ∧ w'.cell? ⟨X, 1, none⟩ = some (i64V P.2) ∧ w'.cell? ⟨Y, 0, none⟩ = some (i64V Q.1) ∧ w'.cell? ⟨Y, 1, none⟩ = some (i64V Q.2))
            (first
              | go_keep
              | exact ⟨kx0, kx1, ky0, ky1⟩
              | exact ⟨(World.cell?_of_block (a := ⟨X, 0, none⟩) (row2_other (show X ≠ w.heap.size + 1 by omega))).trans kx0, (World.cell?_of_block (a := ⟨X, 1, none⟩) (row2_other (show X ≠ w.heap.size + 1 by omega))).trans kx1, (World.cell?_of_block (a := ⟨Y, 0, none⟩) (row2_other (show Y ≠ w.heap.size + 1 by omega))).trans ky0, (World.cell?_of_block (a := ⟨Y, 1, none⟩) (row2_other (show Y ≠ w.heap.size + 1 by omega))).trans ky1⟩)
            ((refine step_append_lies _ (by rfl) _ _ _ (by rfl) (w.heap.size + 2) 57 i0 _ 2 16 Tryd.underlying54 hi0 hz0 hz1 hz2 rfl (by omega) u9 acc.length (spc acc) (by rfl) ((hown.alloc _).drew)
                ⟨wc.heap.size, 0, none⟩ 1 1 [i64V Q.1, i64V Q.2] (by rfl) (by rfl) (World.news_of_block (cs := #[i64V Q.1, i64V Q.2]) (t := 57) (fr := (0, 0)) (heap_alloc_new wc _)) (by simp [Value.oneCell'])
                (by omega) (by unfold maxLen; omega) (by omega) (by simp; omega) (wc.heap.size + 1) (by simp) ?_
              intro gg cap w5 hown5 hgrow hat hlt5
              have kx0 : w5.cell? ⟨X, 0, none⟩ = some (i64V P.1) := by rw [hgrow.cell_far _ (by simp; omega) (Ne.symm hvX)]; go_simp
              have kx1 : w5.cell? ⟨X, 1, none⟩ = some (i64V P.2) := by rw [hgrow.cell_far _ (by simp; omega) (Ne.symm hvX)]; go_simp
              have ky0 : w5.cell? ⟨Y, 0, none⟩ = some (i64V Q.1) := by rw [hgrow.cell_far _ (by simp; omega) (Ne.symm hvY)]; go_simp
              have ky1 : w5.cell? ⟨Y, 1, none⟩ = some (i64V Q.2) := by rw [hgrow.cell_far _ (by simp; omega) (Ne.symm hvY)]; go_simp
              have k0 : w5.cell? ⟨w.heap.size + 1, 0, none⟩ = some (i64V a) := by rw [hgrow.cell_far _ (by simp; omega) (Ne.symm hvZ)]; go_simp
              have k1 : w5.cell? ⟨w.heap.size + 1, 1, none⟩ = some (i64V b) := by rw [hgrow.cell_far _ (by simp; omega) (Ne.symm hvZ)]; go_simp
              have kf0 : w5.frozen? ⟨w.heap.size + 1, 0, none⟩ = false := by rw [World.frozen?_of_block (hgrow.block _ (by simp; omega) (Ne.symm hvZ))]; go_simp
              have kf1 : w5.frozen? ⟨w.heap.size + 1, 1, none⟩ = false := by rw [World.frozen?_of_block (hgrow.block _ (by simp; omega) (Ne.symm hvZ))]; go_simp))
          go_wp2_with fail
          have hgg : w.heap.size + 2 ≤ gg := (hown5.lt gg rfl).1
          have hg6 : w5.heap[w.heap.size]? = some (.cells #[i64V 0, i64V 0] 57 (0, 0)) := (hgrow.block _ (by simp; omega) (Ne.symm hv6)).trans ((heap_old' _ _ _ (by omega)).trans H6.out)
          have hg8 : w5.heap[w.heap.size + 1]? = some (.cells #[i64V a, i64V b] 57 (0, 0)) := (hgrow.block _ (by simp; omega) (Ne.symm hvZ)).trans ((heap_old' _ _ _ lZ).trans H8.out)
          have hB5 : Below w.heap.size w w5 := (((hB4.alloc (by omega) _).drew)).grown hgrow (by simp; omega) (fun k e => by have := (hown.lt k e).1; omega)
          have hne : (Value.slice (some ⟨gg, 0, none⟩) (acc.length + 1) cap).ownBlock ≠ some (w.heap.size + 1) := fun e => by
            have := Option.some.inj (show some gg = some (w.heap.size + 1) from e); omega
          rw [← spc_snoc] at hown5
          have hfin : DescW w P.1 P.2 (acc ++ [Q]) (.slice (some ⟨gg, 0, none⟩) (acc.length + 1) cap) ((w5.setCell ⟨w.heap.size + 1, 0, none⟩ (i64V P.1)).setCell ⟨w.heap.size + 1, 1, none⟩ (i64V P.2)) :=
            ⟨(row2_other (by omega)).trans hg6, row2_set hg8, by rw [List.length_append]; exact own_set (own_set hown5 hne _ _) hne _ _, (hB5.setCell (by simp) _).setCell (by simp) _⟩
          clear hown5 hg6 hg8 hB5 hgrow
          by_cases hk : i < a + h
          · have eP := HP.out
            have eQ := HQ.out
            rw [if_pos hk] at eP eQ
            subst eP eQ
            have hd := dscR_left hends ha hb HST.out (by rw [HH.out]; exact hk)
            rw [HH.out] at hd
            have hA := HACC.out
            have hF := HF.out
            rw [hd] at hA hF
            go_roundg (a + h - a)
            case measure => have := HGK.out; omega
            case rel =>
              refine ⟨a, a + h, acc ++ [(a + h, b)], ha, hk, by omega, rfl, by rw [← hA, List.append_assoc]; rfl, hF, ?_, ?_, hfin⟩
              · rw [List.length_append]; exact desc_len h2 hal hlen
              · rw [List.length_append, show a + h - a = h by omega, ← HH.out]; exact desc_half h2 hal hlen
          · have eP := HP.out
            have eQ := HQ.out
            rw [if_neg hk] at eP eQ
            subst eP eQ
            have hd := dscR_right hends ha hb HST.out (by rw [HH.out]; exact hk)
            rw [HH.out] at hd
            have hA := HACC.out
            have hF := HF.out
            rw [hd] at hA hF
            go_roundg (b - (a + h))
            case measure => have := HGK.out; omega
            case rel =>
              refine ⟨a + h, b, acc ++ [(a, a + h)], by omega, hb, hbn, rfl, by rw [← hA, List.append_assoc]; rfl, hF, ?_, ?_, hfin⟩
              · rw [List.length_append]; exact desc_len h2 hal hlen
              · rw [List.length_append, show b - (a + h) = b - a - h by omega, ← HH.out]; exact desc_rest h2 hal hlen
end Go.Proofs.YtiilkjonbfllfaaDoor
