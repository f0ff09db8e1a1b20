/- Two lists of texts, one behind the other, walked. -/
import Derived.Test.YtiilkjonbfllfaaDoorPad
import Derived.Lib.AppendZerosOnto
import Derived.Maps.AppendAt
import Derived.OwnWalk
namespace Go.Proofs.YtiilkjonbfllfaaDoor
open Go.RowKit

theorem info9 : (Tryd.prog.info? 9).map (fun i => (i.zero, i.size, i.bytes)) = some (some (.string ⟨#[]⟩), 1, 16) := by kernel_rfl

set_option maxRecDepth 100000 in
set_option maxHeartbeats 1000000 in
theorem grow_nil (n : Nat) (h1 : 1 ≤ n) (h2 : n ≤ 10) (w : World) :
    Calls Tryd.prog 68 #[.slice none 0 0, .int .i64 n] w fun e w' => ∃ G, e = .returned (.slice (some ⟨w.heap.size, 0, none⟩) 0 G) ∧ w'.ownsRow w.heap.size 9 1 (.slice (some ⟨w.heap.size, 0, none⟩) 0 G) 0 [] ∧ Below w.heap.size w w' := by
  obtain ⟨i0, hi, hz0, hz1, hz2⟩ := info_parts info9
  obtain ⟨G, hG⟩ : ∃ G, G = grownCap w (0 + n) 0 9 := ⟨_, rfl⟩
  have hGn : n ≤ G := by have := grownCap_ge w (0 + n) 0 9; omega
  have hG63 : G ≤ 9223372036854775807 := by
    have := grownCap_le_maxLen w (0 + n) 0 9 (by unfold maxLen; omega)
    rw [← hG] at this; unfold maxLen at this; omega
  obtain ⟨cs, hcs, hcsz⟩ : ∃ cs : Array Value, (∀ ty, (Builtin.append_ #[26, 3] ty #[.slice none 0 0, .int .i64 (n : Int)]).run Tryd.prog w = .ok (.slice (some ⟨w.heap.size, 0, none⟩) n G) (w.drew.alloc (.cells cs 9))) ∧ cs.size = G := by
    refine ⟨(([] : List Value).toArray ++ Builtin.zeroCells (Value.string ⟨#[]⟩).cells n ++ Builtin.zeroCells (Value.string ⟨#[]⟩).cells (grownCap w (0 + n) 0 9 - (0 + n))), fun ty => ?_, ?_⟩
    · have h := Lib.run_append_grow_zeros (P := Tryd.prog) w 26 3 ty 9 i0 (.string ⟨#[]⟩) .i64 .i64 Tryd.underlying26 Tryd.underlying3 hi hz0 none 0 0 [] (by simp [Builtin.firstCells]) n (by omega) (by omega) (by omega) (by omega)
        (by rw [hz2]; omega) (growslice_fits (by omega) (by rw [hz2]; omega))
      rw [Nat.zero_add] at h hG ⊢
      rw [hG]
      exact h
    · have hzc : ∀ k, (Builtin.zeroCells (Value.string ⟨#[]⟩).cells k).size = k := fun k => by simp [Builtin.zeroCells, Value.cells]
      rw [Array.size_append, Array.size_append, hzc, hzc, ← hG]; simp; omega
  have HG := Lib.hid hG; have HCS := Lib.hid hcsz; clear hG hcsz
  go_enter Tryd.func68, Tryd.ntmps68
  go_wp2_with (at_builtin; refine Lib.wpList_append_run _ rfl _ _ _ _ rfl _ _ rfl rfl _ _ (hcs _) ?_)
  go_ret
  have hb : Below w.heap.size w (w.drew.alloc (.cells cs 9)) := ((Below.refl _ _).drew).alloc (Nat.le_refl _) _
  refine ⟨G, rfl, ⟨by simp, .inr ⟨w.heap.size, G, cs, rfl, Nat.le_refl _, heap_new' _ _ _ rfl, by omega, by unfold maxLen; omega, by rw [HCS.out]; omega, by simp⟩⟩, hb⟩

theorem own_lt {w : World} {base : Nat} {e : TypeId} {size : Nat} {v : Value} {n : Nat} {xs : List Value} (h : w.ownsRow base e size v n xs) : ∀ k, v.ownBlock = some k → base ≤ k := fun k hk => (h.lt k hk).1
theorem cat_cells {w wr : World} {B g o n : Nat} {ps : List ByteArray} (hb : Below B w wr) (hg : g < B) (hn : ps.length = n) (hps : ∀ i, i < n → w.cell? ⟨g, o + i, none⟩ = some (.string (ps.getD i ByteArray.empty))) :
    ∀ j u, (ps.map Value.string)[j]? = some u → wr.cell? ((⟨g, o, none⟩ : Addr).add j) = some u := by
  intro j u hu
  have hj : j < n := by
    rcases Nat.lt_or_ge j n with h | h
    · exact h
    · rw [List.getElem?_eq_none (by simp; omega)] at hu; cases hu
  rw [Go.WideShapes.add_plain, hb.cell (p := ⟨g, o + j, none⟩) hg, hps j hj]
  rw [List.getElem?_map, List.getElem?_eq_getElem (by omega)] at hu
  rw [List.getD_eq_getElem?_getD, List.getElem?_eq_getElem (by omega)]
  exact hu
def CatSz (n : Nat) (iv sv : Value) : Prop := (iv = .int .i64 0 ∧ sv = .int .i64 0) ∨ (iv = .int .i64 1 ∧ sv = .int .i64 n) ∨ (iv = .int .i64 2 ∧ sv = .int .i64 (n + 1 : Nat))
def CatRow (B : Nat) (ps : List ByteArray) (q : ByteArray) (iv v : Value) (wr : World) : Prop :=
  (iv = .int .i64 0 ∧ ∃ a c, v = .slice a 0 c ∧ wr.ownsRow B 9 1 v 0 []) ∨ (iv = .int .i64 1 ∧ wr.ownsRow B 9 1 v ps.length (ps.map Value.string)) ∨ (iv = .int .i64 2 ∧ wr.ownsRow B 9 1 v (ps.length + 1) ((ps ++ [q]).map Value.string))
def CatOut (B : Nat) (w : World) (ps : List ByteArray) (e : Ending) (w' : World) : Prop :=
  ∃ v, e = .returned v ∧ w'.ownsRow B 9 1 v ps.length (ps.map Value.string) ∧ Below B w w'

set_option maxRecDepth 100000 in
set_option maxHeartbeats 2000000 in
theorem concat_any (g o n c g2 g3 : Nat) (ps : List ByteArray) (q : ByteArray) (hn : ps.length = n) (h1 : 1 ≤ n) (h2 : n ≤ 5) (w : World)
    (hps : ∀ i, i < n → w.cell? ⟨g, o + i, none⟩ = some (.string (ps.getD i ByteArray.empty))) (hq : w.cell? ⟨g2, 0, none⟩ = some (.string q))
    (hx0 : w.cell? ⟨g3, 0, none⟩ = some (.slice (some ⟨g, o, none⟩) n c)) (hx1 : w.cell? ⟨g3, 1, none⟩ = some (.slice (some ⟨g2, 0, none⟩) 1 1)) :
    Calls Tryd.prog 54 #[.slice (some ⟨g3, 0, none⟩) 2 2] w (CatOut w.heap.size w (ps ++ [q])) := by
  obtain ⟨i0, hi, hz0, hz1, hz2⟩ := info_parts info9
  have hg : g < w.heap.size := block_lt_of_cell (hps 0 (by omega))
  have hg2 : g2 < w.heap.size := block_lt_of_cell hq
  have hg3 : g3 < w.heap.size := block_lt_of_cell hx0
  have HPS := Lib.hid hps; have HQ := Lib.hid hq; have HN := Lib.hid hn
  clear hps hq hn
  go_enter Tryd.func54, Tryd.ntmps54
  go_wp2
  go_loop [11, 3] (fun iv sv => CatSz n iv sv) (fun iv _ => 2 - (intOf iv).toNat)
  case atStart => exact .inl ⟨rfl, rfl⟩
  case round =>
    rcases hrel with ⟨rfl, rfl⟩ | ⟨rfl, rfl⟩ | ⟨rfl, rfl⟩
    · go_wp2
      exact ⟨.inr (.inl ⟨rfl, rfl⟩), by decide⟩
    · go_wp2
      exact ⟨.inr (.inr ⟨rfl, rfl⟩), by decide⟩
    · go_wp2_with (go_at_call 68; refine (grow_nil (n + 1) (by omega) (by omega) _).mono ?_; rintro e w1 ⟨G, rfl, hown, hb⟩)
      have hc1 : ∀ a : Addr, a.block < w.heap.size → w1.cell? a = w.cell? a := fun a h => hb.cell h
      go_loopw [27, 6] (fun iv v wr => CatRow w.heap.size ps q iv v wr ∧ Below w.heap.size w wr) (fun iv _ _ => 2 - (intOf iv).toNat)
      case atStart => exact ⟨.inl ⟨rfl, _, _, rfl, hown⟩, hb⟩
      case round =>
        obtain ⟨hrow, hbr⟩ := hrel
        have hx0' := (hbr.cell (p := ⟨g3, 0, none⟩) hg3).trans hx0
        have hx1' := (hbr.cell (p := ⟨g3, 1, none⟩) hg3).trans hx1
        clear hown hc1 hb hx0 hx1
        rcases hrow with ⟨rfl, a, c', rfl, hown⟩ | ⟨rfl, hown⟩ | ⟨rfl, hown⟩
        · go_wp2_with (at_builtin; refine wpList_append_own _ rfl _ _ 26 rfl w.heap.size 9 i0 (.string ⟨#[]⟩) 1 16 Tryd.underlying26 hi hz0 hz1 hz2 rfl (by decide) _ _ _ rfl hown ⟨g, o, none⟩ n c (ps.map Value.string) rfl (by simpa using HN.out) (cat_cells hbr hg HN.out HPS.out) (fun u hu => by obtain ⟨x, _, rfl⟩ := List.mem_map.1 hu; rfl) (by unfold maxLen; omega) (by omega) hbr.size ?_; intro v' w2 hown' hgrow _; have hb2 := hbr.grown hgrow hbr.size (own_lt hown))
          have hown2 : w2.ownsRow w.heap.size 9 1 v' ps.length (ps.map Value.string) := by rw [HN.out]; simpa using hown'
          exact ⟨⟨.inr (.inl ⟨rfl, hown2⟩), hb2⟩, by decide⟩
        · have hqc : ∀ j u, [Value.string q][j]? = some u → wr.cell? ((⟨g2, 0, none⟩ : Addr).add j) = some u := by
            intro j u hu
            match j, hu with
            | 0, hu => simp at hu; subst hu; exact (hbr.cell (p := ⟨g2, 0, none⟩) hg2).trans HQ.out
          have HQC := Lib.hid hqc; clear hqc
          have hpl : ps.length ≤ 5 := by rw [HN.out]; omega
          go_wp2_with (at_builtin; refine wpList_append_own _ rfl _ _ 26 rfl w.heap.size 9 i0 (.string ⟨#[]⟩) 1 16 Tryd.underlying26 hi hz0 hz1 hz2 rfl (by decide) _ _ _ rfl hown ⟨g2, 0, none⟩ 1 1 [Value.string q] rfl rfl HQC.out (by simp [Value.oneCell']) (by unfold maxLen; omega) (by omega) hbr.size ?_; intro v' w2 hown' hgrow _; have hb2 := hbr.grown hgrow hbr.size (own_lt hown))
          have hown2 : w2.ownsRow w.heap.size 9 1 v' (ps.length + 1) ((ps ++ [q]).map Value.string) := by simpa using hown'
          exact ⟨⟨.inr (.inr ⟨rfl, hown2⟩), hb2⟩, by decide⟩
        · go_wp2
          go_ret
          exact ⟨_, rfl, by simpa using hown, hbr⟩
end Go.Proofs.YtiilkjonbfllfaaDoor
