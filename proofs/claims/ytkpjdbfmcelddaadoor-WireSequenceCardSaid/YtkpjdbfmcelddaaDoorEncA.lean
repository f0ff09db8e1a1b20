/- The groups of an integer, yielded one by one, and the encoding that collects them. -/
import Derived.RangeFuncBox
import Derived.RangeFuncNested
import Derived.RangeFuncLeaves
import Derived.Shelf.Abstract
import Derived.WalkKit
import Derived.WalkLawsBesides
import Derived.WalkSpells
import Derived.OwnWalkIn
import Derived.TacticsInMore
import Derived.LoopNIn
import Derived.LoopIn
import Derived.Maps.AppendAt
import Derived.Lib.Hide
import Derived.Laws.BytesArg
import Derived.Laws.Bits128
import Derived.Test.YtkpjdbfmcelddaaDoorChecked
namespace Go.Proofs.YtkpjdbfmcelddaaDoor
open Go.RowKit Go.Shelf
attribute [local go_sem] Oper.semAt_some

/-- The groups of z with whether more follow. -/
def grps : Nat → Nat → List (Fin 128 × Bool)
  | 0, z => [(⟨z % 128, Nat.mod_lt _ (by decide)⟩, false)]
  | f + 1, z => if z < 128 then [(⟨z % 128, Nat.mod_lt _ (by decide)⟩, false)] else (⟨z % 128, Nat.mod_lt _ (by decide)⟩, true) :: grps f (z / 128)

theorem and127 (y : Nat) : bits BinOp.and IntKind.i64 (y : Int) 127 % 256 = ((y % 128 : Nat) : Int) := by rw [i64_and127]; omega

theorem grps_succ (k y : Nat) (h : 127 < y) : grps (k + 1) y = (⟨y % 128, Nat.mod_lt _ (by decide)⟩, true) :: grps k (y / 128) := by
  rw [grps, if_neg (by omega)]

theorem grps_last (k y : Nat) (h : y ≤ 127) : grps k y = [(⟨y % 128, Nat.mod_lt _ (by decide)⟩, false)] := by
  cases k with
  | zero => rfl
  | succ k => rw [grps, if_pos (by omega)]

theorem grps_pos (k y : Nat) : 0 < (grps k y).length := by
  cases k with
  | zero => simp [grps]
  | succ k => rw [grps]; split <;> simp

abbrev encg (p : Fin 128 × Bool) : Array Value := #[.int .u8 (p.1.val : Int), .bool p.2]

set_option maxRecDepth 100000 in
set_option maxHeartbeats 1000000 in
theorem groups1_in (F : Fence) (n : Nat) (hf : F.fn 33) (hro : F.round = none) (hn : 1 ≤ n) (l Bn n₀ : Nat) (z : Nat) (hz : z < 2 ^ 63) (J Jx : List (Fin 128 × Bool) → World → Prop)
    (hY : ∀ pre x W, J pre W → pre.length < 9 → YieldAt F (n - 1) Tryd.prog l (encg x) W fun e W' =>
      (e = .returned (.bool true) ∧ J (pre ++ [x]) W' ∧ Below n₀ W W') ∨ (e = .returned (.bool false) ∧ Jx (pre ++ [x]) W'))
    (W : World) (hBn : W.cell? ⟨Bn, 0, none⟩ = some (.int .i64 z)) (h0 : J [] W) :
    CallsIn F n Tryd.prog 33 #[.func (.yield l) #[] #[], .pointer (some ⟨Bn, 0, none⟩)] W fun e W' => (∃ v, e = .returned v) ∧
      ((∃ ys, ys = grps 8 z ∧ J ys W') ∨ (∃ pre, pre <+: grps 8 z ∧ Jx pre W')) := by
  refine callsIn_of_wp Tryd.func33 rfl hf ?_ hro
  simp only [Tryd.ntmps33, List.size_toArray, List.length_cons, List.length_nil, Nat.reduceAdd, Nat.reduceSub, Array.replicate_succ, Array.replicate_zero, List.push_toArray, List.append_toArray, List.nil_append, List.cons_append]
  gi_wp2
  gi_loopw [3] (fun r wr => ∃ (pre : List (Fin 128 × Bool)) (k : Nat) (y : Nat), r = .int .i64 y ∧ k ≤ 8 ∧ pre.length + k = 8 ∧ y < 2 ^ (7 * k + 7) ∧ grps 8 z = pre ++ grps k y ∧ J pre wr)
    (fun r _ => (intOf r).toNat)
  case atStart =>
    exact ⟨[], 8, z, rfl, by omega, rfl, by simpa using hz, rfl, h0⟩
  case round =>
    obtain ⟨pre, k, y, rfl, hk, hpk, hy, hg, hJ⟩ := hrel
    have hb := and127 y
    by_cases h127 : 127 < y
    · have hd : decide (127 < (y : Int)) = true := by simp; omega
      obtain ⟨k', rfl⟩ : ∃ k', k = k' + 1 := by
        cases k with
        | zero => simp at hy; omega
        | succ k' => exact ⟨k', rfl⟩
      have hgr := Lib.hid (grps_succ k' y h127)
      have hgg := Lib.hid hg
      clear hg
      have hy2 : y / 128 < 2 ^ (7 * k' + 7) := by
        have e : 2 ^ (7 * (k' + 1) + 7) = 2 ^ (7 * k' + 7) * 128 := by rw [show 7 * (k' + 1) + 7 = (7 * k' + 7) + 7 from by omega, Nat.pow_add]
        rw [e] at hy; omega
      obtain ⟨fn, tmps, assign, body, hyy, hR⟩ := hY pre (⟨y % 128, Nat.mod_lt _ (by decide)⟩, true) wr hJ (by omega)
      dsimp only [encg] at hyy
      rw [show ((y % 128 : Nat) : Int) = (y : Int) % 128 from by omega] at hyy
      gi_wp2
      refine hR.mono ?_
      rintro e W3 (⟨rfl, hJ3, hk3⟩ | ⟨rfl, hJx3⟩)
      · gi_wp2
        refine ⟨⟨pre ++ [(⟨y % 128, Nat.mod_lt _ (by decide)⟩, true)], k', y / 128, ?_, by omega, by simp; omega, hy2, ?_, hJ3⟩, ?_⟩
        · rw [show ((y / 128 : Nat) : Int) = (y : Int) / 128 from by omega]
        · rw [hgg.out, hgr.out]; simp
        · simp only [intOf]; omega
      · gi_wp2
        refine bodyPost_ret (results_none rfl _ _ _) rfl ?_
        exact ⟨⟨_, rfl⟩, .inr ⟨_, ⟨grps k' (y / 128), by rw [hgg.out, hgr.out]; simp⟩, hJx3⟩⟩
    · have hd : decide (127 < (y : Int)) = false := by simp; omega
      have hgr := Lib.hid (grps_last k y (by omega))
      have hgg := Lib.hid hg
      clear hg
      obtain ⟨fn, tmps, assign, body, hyy, hR⟩ := hY pre (⟨y % 128, Nat.mod_lt _ (by decide)⟩, false) wr hJ (by omega)
      dsimp only [encg] at hyy
      rw [show ((y % 128 : Nat) : Int) = (y : Int) % 128 from by omega] at hyy
      gi_wp2
      refine hR.mono ?_
      rintro e W3 (⟨rfl, hJ3, hk3⟩ | ⟨rfl, hJx3⟩)
      · gi_wp2
        refine bodyPost_ret (results_none rfl _ _ _) rfl ?_
        exact ⟨⟨_, rfl⟩, .inl ⟨_, by rw [hgg.out, hgr.out], hJ3⟩⟩
      · gi_wp2
        refine bodyPost_ret (results_none rfl _ _ _) rfl ?_
        exact ⟨⟨_, rfl⟩, .inr ⟨_, ⟨[], by rw [hgg.out, hgr.out]; simp⟩, hJx3⟩⟩

set_option maxHeartbeats 1000000 in
/-- groups: its argument is boxed; the function value captures the box. -/
theorem groups_in (F : Fence) (n : Nat) (hf : F.fn 30) (hro : F.round = none) (z : Int) (w : World) :
    CallsIn F n Tryd.prog 30 #[.int .i64 z] w fun e w' => e = .returned (.func (.func 33) #[] #[.pointer (some ⟨w.heap.size, 0, none⟩)]) ∧ w' = w.alloc (.cells #[.int .i64 z] 3) := by
  refine callsIn_of_wp Tryd.func30 rfl hf ?_ hro
  simp only [Tryd.ntmps30, List.size_toArray, List.length_cons, List.length_nil, Nat.reduceAdd, Nat.reduceSub, Array.replicate_succ, Array.replicate_zero, List.push_toArray, List.append_toArray, List.nil_append, List.cons_append]
  gi_wp2
  go_ret
  exact ⟨rfl, rfl⟩

theorem groups_stops (F : Fence) (n : Nat) (hf : F.fn 33) (hro : F.round = none) (hn : 1 ≤ n) (Bn n₀ : Nat) (z : Nat) (hz : z < 2 ^ 63) (w : World) (hBn : Bn < w.heap.size)
    (hc : w.cell? ⟨Bn, 0, none⟩ = some (.int .i64 z)) :
    SeqStopsK F n Tryd.prog 33 #[.pointer (some ⟨Bn, 0, none⟩)] encg (Below n₀) (fun ys => ys = grps 8 z) (fun pre => pre <+: grps 8 z) 9 w := fun l J Jx W hW _ _ hY h0 =>
  groups1_in F n hf hro hn l Bn n₀ z hz J Jx hY W ((hW.cell (p := ⟨Bn, 0, none⟩) hBn).trans hc) h0

theorem info5 : (Tryd.prog.info? 5).map (fun i => (i.zero, i.size, i.bytes)) = some (some (.int .u8 0), 1, 1) := by kernel_rfl

/-- The byte that is appended for a group. -/
def byteOf (p : Fin 128 × Bool) : Int := if p.2 then (p.1.val : Int) + 128 else p.1.val
def bytesOf (ps : List (Fin 128 × Bool)) : List Int := ps.map byteOf
theorem bytesOf_length (ps : List (Fin 128 × Bool)) : (bytesOf ps).length = ps.length := by simp [bytesOf]

set_option maxRecDepth 100000 in
set_option maxHeartbeats 2000000 in
theorem encode_in (F : Fence) (n : Nat) (h1f : F.fn 23) (h2f : F.fn 30) (h3f : F.fn 33) (h4f : F.fn 31) (hro : F.round = none) (hn : 3 ≤ n) (m : Int) (z : Nat) (hz : z < 2 ^ 63) (hmz : ∀ w, CallsIn F (n - 1) Tryd.prog 31 #[.int .i64 m] w fun e w' => e = .returned (.int .i64 z) ∧ w' = w) (w : World) :
    CallsIn F n Tryd.prog 23 #[.int .i64 m] w fun e W' => e = .returned (.string (strOfNums (bytesOf (grps 8 z)))) ∧ Below w.heap.size w W' := by
  have h1 : 1 ≤ n := by omega
  obtain ⟨i0, hi, hz0, hz1, hz2⟩ := info_parts info5
  refine callsIn_of_wp_marks Tryd.func23 rfl h1f ?_ hro
  simp only [Tryd.ntmps23, List.size_toArray, List.length_cons, List.length_nil, Nat.reduceAdd, Nat.reduceSub, Array.replicate_succ, Array.replicate_zero, List.push_toArray, List.append_toArray, List.nil_append, List.cons_append]
  gi_wp2_with (first | (gi_at_call 31; refine (hmz _).mono ?_; rintro e w' ⟨rfl, rfl⟩) | (gi_at_call 30; refine (groups_in F (n - 1) h2f hro _ _).mono ?_; rintro e w' ⟨rfl, rfl⟩))
  have bC := Boxed.new w 38 (.slice none 0 0)
  have bZ := Boxed.new (w.alloc (.cells #[.slice none 0 0] 38)) 3 (.int .i64 z)
  rw [World.size_alloc] at bZ
  have hB0 : Below w.heap.size w ((w.alloc (.cells #[.slice none 0 0] 38)).alloc (.cells #[.int .i64 z] 3)) := ((Below.refl _ w).alloc (Nat.le_refl _) _).alloc (by simp) _
  refine wpIn_rangeFunc_ownG hro h1 (gf := 33) (lb := #[.pointer (some ⟨w.heap.size + 1, 0, none⟩)]) rfl h3f (enters_of Tryd.func33 (by kernel_rfl) rfl)
    (groups_stops F (n - 1) h3f hro (by omega) (w.heap.size + 1) w.heap.size z hz _ (by simp) bZ.cell) belowK_t (belowK_b (by simp; omega)) (Below.refl _ _) (fun _ => rfl)
    (fun pre W => (∃ v, Boxed W w.heap.size 38 v ∧ W.ownsRow w.heap.size 5 1 v (bytesOf pre).length ((bytesOf pre).map (Value.int .u8)) ∧ True) ∧ Below w.heap.size w W)
    (fun _ _ _ => False)
    (OwnFrom.and (Own.from (holdsRow_own w.heap.size w.heap.size 38 5 1 (fun pre => (bytesOf pre).length) (fun pre => (bytesOf pre).map (Value.int .u8)) (fun _ _ => True)) _) (ownFrom_below (Nat.le_refl _) (by simp; omega)))
    (fun _ _ _ _ _ hs _ _ => hs)
    ⟨⟨_, bC.alloc _, World.ownsRow_nil _ _ _ _, trivial⟩, hB0⟩
    (fun x => { tmps := #[.int .i64 m, undef, .string ⟨#[]⟩, .pointer (some ⟨w.heap.size, 0, none⟩), .int .u8 (x.1.val : Int), .bool x.2, .int .i64 m, .int .i64 z, .func (.func 33) #[] #[.pointer (some ⟨w.heap.size + 1, 0, none⟩)], .int .u8 (x.1.val : Int), .bool x.2, undef, undef, undef, undef, undef, undef, undef, undef, undef], defers := [] }) ?assign ?body ?done ?stop
  case assign =>
    intro l x W K hK
    gi_wp2
    exact hK
  case body =>
    rintro l pre ⟨g, more⟩ W ⟨⟨v, hv, hrow, -⟩, hB⟩ hlt
    have hc := hv.cell
    have hgl : (g.val : Int) < 128 := by omega
    have hpl : (bytesOf pre).length = pre.length := bytesOf_length pre
    have hpl' : (bytesOf pre).length ≤ 9 := by omega
    clear hpl
    cases more
    · have hbo := Lib.hid (show bytesOf (pre ++ [(g, false)]) = bytesOf pre ++ [(g.val : Int)] by simp [bytesOf, byteOf])
      gi_wp2_with (gi_at_builtin; refine wpListIn_append_own _ rfl _ _ 38 rfl w.heap.size 5 i0 (.int .u8 0) 1 1 Tryd.underlying38 hi hz0 hz1 hz2 rfl (by decide) _ _ _ rfl (hrow.alloc _) ⟨W.heap.size, 0, none⟩ 1 1 [.int .u8 (g.val : Int)] rfl rfl (cell_one_new _ _ _) (by simp [Value.oneCell']) (by unfold maxLen; omega) (by omega) (by have := hB.size; simp; omega) ?_; intro v' w1 hown' hgrow _; obtain ⟨g', cap', rfl⟩ := ownsRow_succ hown'; obtain ⟨hv1, hv2, hr2, hk2, hb2⟩ := hv.appended (by decide) hrow hB.size (Nat.le_refl _) hown' hgrow; have hc1 := hv1.cell; have hf1 := hv1.frozen)
      exact ⟨hk2.from _, hb2, ⟨_, hv2, by rw [hbo.out]; simpa using hr2, trivial⟩, hB.trans hb2⟩
    · have hbo := Lib.hid (show bytesOf (pre ++ [(g, true)]) = bytesOf pre ++ [(g.val : Int) + 128] by simp [bytesOf, byteOf])
      gi_wp2_with (gi_at_builtin; refine wpListIn_append_own _ rfl _ _ 38 rfl w.heap.size 5 i0 (.int .u8 0) 1 1 Tryd.underlying38 hi hz0 hz1 hz2 rfl (by decide) _ _ _ rfl (hrow.alloc _) ⟨W.heap.size, 0, none⟩ 1 1 [.int .u8 ((g.val : Int) + 128)] rfl rfl (cell_one_new _ _ _) (by simp [Value.oneCell']) (by unfold maxLen; omega) (by omega) (by have := hB.size; simp; omega) ?_; intro v' w1 hown' hgrow _; obtain ⟨g', cap', rfl⟩ := ownsRow_succ hown'; obtain ⟨hv1, hv2, hr2, hk2, hb2⟩ := hv.appended (by decide) hrow hB.size (Nat.le_refl _) hown' hgrow; have hc1 := hv1.cell; have hf1 := hv1.frozen)
      exact ⟨hk2.from _, hb2, ⟨_, hv2, by rw [hbo.out]; simpa using hr2, trivial⟩, hB.trans hb2⟩
  case done =>
    rintro D ys W hD rfl ⟨⟨v, hv, hrow, -⟩, hB⟩ hK
    have hc := hv.cell
    obtain ⟨k, hk⟩ : ∃ k, (bytesOf (grps 8 z)).length = k + 1 := ⟨(bytesOf (grps 8 z)).length - 1, by have := grps_pos 8 z; rw [bytesOf_length]; omega⟩
    rw [hk] at hrow
    obtain ⟨g, cap, rfl⟩ := ownsRow_succ hrow
    have hcv := run_convert_bytes_arg (P := Tryd.prog) W 38 5 Tryd.underlying38 Tryd.underlying5 g 0 (k + 1) cap (bytesOf (grps 8 z)) hk (fun i hi => by
      rw [Nat.zero_add, hrow.cellAt i (by omega)]
      simp [List.getElem?_map, List.getElem?_eq_getElem (show i < (bytesOf (grps 8 z)).length by omega)]) 9 Tryd.underlying9
    have hk' := Lib.hid hk
    clear hk
    gi_wp2
    refine ⟨by simp, .inl ⟨_, _, rfl, run_takeDeferred hK, ?_⟩⟩
    exact ⟨_, results_tmp rfl _ _ _, rfl, hB.trans (belowK_b (w := w) (Nat.le_refl _) W D _ _ (by simp at hD; omega) hK rfl rfl)⟩
  case stop =>
    rintro D c pre W _ _ h _
    exact h.elim

/-- The integer that is divided into groups. -/
def zig (m : Int) : Nat := if m < 0 then (-2 * m - 1).toNat else (2 * m).toNat
/-- The encoding, as bytes. -/
def enc (z : Nat) : List UInt8 := (bytesOf (grps 8 z)).map fun n => UInt8.ofNat n.toNat

theorem fold_any (m : Int) (h1 : -4611686018427387903 ≤ m) (h2 : m ≤ 4611686018427387903) (w : World) :
    Calls Tryd.prog 31 #[.int .i64 m] w fun e w' => e = .returned (.int .i64 (zig m : Nat)) ∧ w' = w := by
  by_cases h : m < 0
  · have e : ((zig m : Nat) : Int) = -2 * m - 1 := by unfold zig; rw [if_pos h]; omega
    rw [e]; clear e
    go_enter Tryd.func31, Tryd.ntmps31
    go_wp2
    go_ret
    exact ⟨rfl, rfl⟩
  · have e : ((zig m : Nat) : Int) = 2 * m := by unfold zig; rw [if_neg h]; omega
    rw [e]; clear e
    go_enter Tryd.func31, Tryd.ntmps31
    go_wp2
    go_ret
    exact ⟨rfl, rfl⟩

theorem zig_lt (m : Int) (h1 : -4611686018427387903 ≤ m) (h2 : m ≤ 4611686018427387903) : zig m < 2 ^ 63 := by
  unfold zig; split <;> omega

theorem encode_any (m : Int) (h1 : -4611686018427387903 ≤ m) (h2 : m ≤ 4611686018427387903) (w : World) :
    Calls Tryd.prog 23 #[.int .i64 m] w fun e w' => e = .returned (.string ⟨(enc (zig m)).toArray⟩) ∧ Below w.heap.size w w' :=
  callsIn_wide.1 (encode_in Fence.wide 3 trivial trivial trivial trivial rfl (by omega) m (zig m) (zig_lt m h1 h2) (fun w => callsIn_wide.2 (fold_any m h1 h2 w)) w)

/-- PutInt, where it encodes. -/
theorem putInt_ok (m : Int) (h1 : -4611686018427387903 ≤ m) (h2 : m ≤ 4611686018427387903) (w : World) :
    Calls Tryd.prog 12 #[.int .i64 m] w fun e w' => e = .returned (.tuple #[.string ⟨(enc (zig m)).toArray⟩, .int .i64 0]) ∧ Below w.heap.size w w' := by
  go_enter Tryd.func12, Tryd.ntmps12
  go_wp2_with (go_at_call 23; refine (encode_any m h1 h2 _).mono ?_; rintro e w' ⟨rfl, hb⟩)
  go_ret2
  exact ⟨rfl, hb⟩

/-- PutInt, where it refuses. -/
theorem putInt_no (m : Int) (h : m < -4611686018427387903 ∨ 4611686018427387903 < m) (w : World) :
    Calls Tryd.prog 12 #[.int .i64 m] w fun e w' => e = .returned (.tuple #[.string ⟨#[]⟩, .int .i64 10]) ∧ w' = w := by
  by_cases h' : m < -4611686018427387903
  · go_enter Tryd.func12, Tryd.ntmps12
    go_wp2
    go_ret2
    exact ⟨rfl, rfl⟩
  · have h2 : 4611686018427387903 < m := by omega
    go_enter Tryd.func12, Tryd.ntmps12
    go_wp2
    go_ret2
    exact ⟨rfl, rfl⟩
end Go.Proofs.YtkpjdbfmcelddaaDoor
