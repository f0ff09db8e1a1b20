/- The reference's PutInt and PutString, walked. -/
import Derived.Test.YtkpjdbfmcelddaaDoorRefA
import Derived.WalkSmall
namespace Go.Proofs.YtkpjdbfmcelddaaDoor
open Go.RowKit

theorem bytesOf_append (a b : List (Fin 128 × Bool)) : bytesOf (a ++ b) = bytesOf a ++ bytesOf b := by simp [bytesOf]

theorem own_lt {w : World} {base : Nat} {e : TypeId} {size : Nat} {v : Value} {n : Nat} {xs : List Value} (h : w.ownsRow base e size v n xs) : ∀ k, v.ownBlock = some k → base ≤ k := fun k hk => (h.lt k hk).1
theorem ownsRow_succ' {W : World} {base : Nat} {e : TypeId} {size : Nat} {v : Value} {k : Nat} {xs : List Value} (h : W.ownsRow base e size v (k + 1) xs) : ∃ g cap, v = .slice (some ⟨g, 0, none⟩) (k + 1) cap := by
  rcases h.2 with ⟨_, h0⟩ | ⟨g, cap, _, rfl, _⟩
  · omega
  · exact ⟨g, cap, rfl⟩

theorem conv_own {w : World} {base g cap n : Nat} {xs : List Int} {y : Int} (hown : w.ownsRow base 5 1 (.slice (some ⟨g, 0, none⟩) (n + 1) cap) (n + 1) (xs.map (Value.int .u8) ++ [.int .u8 y])) :
    (convert 38 9 (.slice (some ⟨g, 0, none⟩) (n + 1) cap)).run Tryd.prog w = .ok (.string (strOfNums (xs ++ [y]))) w := by
  have hl : (xs ++ [y]).length = n + 1 := by have := hown.1; simp at this ⊢; omega
  refine run_convert_bytes_arg (P := Tryd.prog) w 38 5 Tryd.underlying38 Tryd.underlying5 g 0 (n + 1) cap (xs ++ [y]) hl (fun i hi => ?_) 9 Tryd.underlying9
  rw [Nat.zero_add, hown.cellAt i (by omega), show xs.map (Value.int .u8) ++ [.int .u8 y] = (xs ++ [y]).map (Value.int .u8) by simp, List.getElem?_map, List.getElem?_eq_getElem (by omega), List.getD_eq_getElem?_getD, List.getElem?_eq_getElem (by omega)]
  rfl

set_option maxRecDepth 100000 in
set_option maxHeartbeats 1000000 in
theorem rputInt_ok (m : Int) (h1 : -4611686018427387903 ≤ m) (h2 : m ≤ 4611686018427387903) (w : World) :
    Calls Tryd.prog 13 #[.int .i64 m] w fun e w' => e = .returned (.tuple #[.string ⟨(enc (zig m)).toArray⟩, .int .i64 0]) ∧ Below w.heap.size w w' := by
  obtain ⟨i0, hi, hz0, hz1, hz2⟩ := info_parts info5
  have hzl := zig_lt m h1 h2
  have hzz := rzigzag_any m h1 h2
  generalize zig m = z0 at *
  have HZZ := Lib.hid hzz; clear hzz
  go_enter Tryd.func13, Tryd.ntmps13
  go_wp2_with (go_at_call 24; refine (HZZ.out _).mono ?_; rintro e w1 ⟨rfl, hw⟩; have hw' := hw.symm; clear hw; subst hw')
  go_loopw [4, 5] (fun zv ov wr => ∃ (pre : List (Fin 128 × Bool)) (k y : Nat), k ≤ 8 ∧ pre.length + k = 8 ∧ y < 2 ^ (7 * k + 7) ∧ zv = .int .u64 y ∧ grps 8 z0 = pre ++ grps k y ∧ wr.ownsRow w.heap.size 5 1 ov (bytesOf pre).length ((bytesOf pre).map (Value.int .u8)) ∧ Below w.heap.size w wr) (fun z _ _ => (intOf z).toNat)
  case atStart => exact ⟨[], 8, z0, by omega, rfl, by simpa using hzl, rfl, rfl, World.ownsRow_nil _ _ _ _, Below.refl _ _⟩
  case round =>
    obtain ⟨pre, k, y, hk, hpk, hy, rfl, hg, hrow, hbr⟩ := hrel
    have hlen := bytesOf_length pre
    have hl8 : (bytesOf pre).length ≤ 8 := by omega
    clear hlen
    have HG := Lib.hid hg; clear hg
    have hyb : y < 9223372036854775808 := Nat.lt_of_lt_of_le hy (Nat.pow_le_pow_right (n := 2) (by decide) (show 7 * k + 7 ≤ 63 by omega))
    by_cases h128 : 128 ≤ y
    · obtain ⟨k', rfl⟩ : ∃ k', k = k' + 1 := by
        cases k with
        | zero => simp at hy; omega
        | succ k' => exact ⟨k', rfl⟩
      have hgr := Lib.hid (grps_succ k' y (by omega))
      have hy2 : y / 128 < 2 ^ (7 * k' + 7) := by
        have e : 2 ^ (7 * (k' + 1) + 7) = 2 ^ (7 * k' + 7) * 128 := by rw [show 7 * (k' + 1) + 7 = (7 * k' + 7) + 7 from by omega, Nat.pow_add]
        rw [e] at hy; omega
      have hbo := Lib.hid (show bytesOf (pre ++ [(⟨y % 128, Nat.mod_lt _ (by decide)⟩, true)]) = bytesOf pre ++ [((y % 128 : Nat) : Int) + 128] by rw [bytesOf_append]; rfl)
      go_wp2_with (at_builtin; refine wpList_append_own _ rfl _ _ 38 rfl w.heap.size 5 i0 (.int .u8 0) 1 1 Tryd.underlying38 hi hz0 hz1 hz2 rfl (by decide) _ _ _ rfl (hrow.alloc _) ⟨wr.heap.size, 0, none⟩ 1 1 [.int .u8 ((y : Int) % 128 + 128)] rfl rfl (cell_one_new _ _ _) (by simp [Value.oneCell']) (by unfold maxLen; omega) (by omega) (by have := hbr.size; simp; omega) ?_; intro v' w1 hown' hgrow _)
      have hbl : Below w.heap.size w w1 := (hbr.alloc hbr.size _).grown hgrow (by have := hbr.size; simp; omega) (own_lt hrow)
      refine ⟨⟨pre ++ [(⟨y % 128, Nat.mod_lt _ (by decide)⟩, true)], k', y / 128, by omega, by simp; omega, hy2, by rw [show ((y / 128 : Nat) : Int) = (y : Int) / 128 from by omega], by rw [HG.out, hgr.out]; simp, ?_, hbl⟩, by simp only [intOf]; omega⟩
      rw [hbo.out]
      rw [show (((y % 128 : Nat) : Int) + 128) = (y : Int) % 128 + 128 by omega]
      simpa using hown'
    · have hgr := Lib.hid (grps_last k y (by omega))
      have hbo := Lib.hid (show bytesOf (pre ++ [(⟨y % 128, Nat.mod_lt _ (by decide)⟩, false)]) = bytesOf pre ++ [(y : Int)] by
        rw [bytesOf_append]
        show bytesOf pre ++ [((y % 128 : Nat) : Int)] = _
        rw [Nat.mod_eq_of_lt (by omega)])
      go_wp2_with (at_builtin; refine wpList_append_own _ rfl _ _ 38 rfl w.heap.size 5 i0 (.int .u8 0) 1 1 Tryd.underlying38 hi hz0 hz1 hz2 rfl (by decide) _ _ _ rfl (hrow.alloc _) ⟨wr.heap.size, 0, none⟩ 1 1 [.int .u8 (y : Int)] rfl rfl (cell_one_new _ _ _) (by simp [Value.oneCell']) (by unfold maxLen; omega) (by omega) (by have := hbr.size; simp; omega) ?_; intro v' w1 hown' hgrow _; obtain ⟨g', cap', rfl⟩ := ownsRow_succ' hown'; have hcv := conv_own (hown := hown'); have hbl := (hbr.alloc hbr.size (.cells #[.int .u8 (y : Int)] 5)).grown hgrow (by have := hbr.size; simp; omega) (own_lt hrow))
      go_ret2
      refine ⟨?_, hbl⟩
      rw [show (⟨(enc z0).toArray⟩ : ByteArray) = strOfNums (bytesOf pre ++ [(y : Int)]) by
        unfold enc strOfNums; rw [HG.out, hgr.out, hbo.out]]
      rfl

theorem rputInt_no (m : Int) (h : m < -4611686018427387903 ∨ 4611686018427387903 < m) (w : World) :
    Calls Tryd.prog 13 #[.int .i64 m] w fun e w' => e = .returned (.tuple #[.string ⟨#[]⟩, .int .i64 10]) ∧ w' = w := by
  by_cases h' : m < -4611686018427387903
  · go_enter Tryd.func13, Tryd.ntmps13
    go_wp2
    go_ret2
    exact ⟨rfl, rfl⟩
  · have h2 : 4611686018427387903 < m := by omega
    go_enter Tryd.func13, Tryd.ntmps13
    go_wp2
    go_ret2
    exact ⟨rfl, rfl⟩

theorem rputString_ok (s : ByteArray) (hs : s.size ≤ 65536) (w : World) :
    Calls Tryd.prog 20 #[.string s] w fun e w' => e = .returned (.tuple #[.string (⟨(enc (2 * s.size)).toArray⟩ ++ s), .int .i64 0]) ∧ Below w.heap.size w w' := by
  have hz : zig (s.size : Int) = 2 * s.size := by unfold zig; rw [if_neg (by omega)]; omega
  have he := rputInt_ok (s.size : Int) (by omega) (by omega)
  rw [hz] at he
  have hel := (enc_length (2 * s.size)).2
  have HE := Lib.hid he; clear he hz
  go_enter Tryd.func20, Tryd.ntmps20
  go_wp2_with (go_at_call 13; refine (HE.out _).mono ?_; rintro e w' ⟨rfl, hb⟩)
  go_ret2
  exact ⟨rfl, hb⟩
end Go.Proofs.YtkpjdbfmcelddaaDoor
