/- The walk of WireSumAffine. -/
import Derived.Test.YtkpjdbfmcelddaaDoorTripW
import Derived.Test.YtkpjdbfmcelddaaDoorAffM
import Derived.RegionTactic
import Derived.ChangeAlike
import Derived.StillTailTactics
namespace Go.Proofs.YtkpjdbfmcelddaaDoor
open Go.RowKit

theorem run_min4 {P : Program} (ts : Array TypeId) (t : TypeId) (a b c : Nat) : ∃ n : Nat, n ≤ a ∧ n ≤ b ∧ n ≤ c ∧ n ≤ 200 ∧
    ∀ w : World, (Builtin.min_ ts t #[.int .i64 a, .int .i64 b, .int .i64 c, .int .i64 200]).run P w = .ok (.int .i64 n) w := by
  refine ⟨min (min (min a b) c) 200, by omega, by omega, by omega, by omega, fun w => ?_⟩
  have h : ∀ x y z u : Int, (Builtin.min_ ts t #[.int .i64 x, .int .i64 y, .int .i64 z, .int .i64 u]).run P w = .ok (.int .i64 (if u < (if z < (if y < x then y else x) then z else (if y < x then y else x)) then u else (if z < (if y < x then y else x) then z else (if y < x then y else x)))) w := fun x y z u => by
    simp [Builtin.min_, Builtin.min2]
  rw [h]
  congr 2
  split <;> split <;> split <;> omega

theorem sumN_lt (l : List UInt8) : sumN l < 2 ^ 63 := by
  have : sumN l < 2 ^ 32 := Nat.xor_lt_two_pow (by decide) (crc_lt l)
  omega
theorem i64_xor_nat (a b : Nat) (ha : a < 2 ^ 63) (hb : b < 2 ^ 63) : bits .xor .i64 (a : Int) (b : Int) = ((a ^^^ b : Nat) : Int) := by
  have hx : a ^^^ b < 2 ^ 63 := Nat.xor_lt_two_pow ha hb
  have h1 : (BitVec.ofInt 64 (a : Int)).toNat = a := by
    rw [BitVec.ofInt_natCast, BitVec.toNat_ofNat]; exact Nat.mod_eq_of_lt (by omega)
  have h2 : (BitVec.ofInt 64 (b : Int)).toNat = b := by
    rw [BitVec.ofInt_natCast, BitVec.toNat_ofNat]; exact Nat.mod_eq_of_lt (by omega)
  show IntKind.i64.wrap ((BitVec.ofInt 64 (a : Int) ^^^ BitVec.ofInt 64 (b : Int)).toNat : Int) = _
  rw [BitVec.toNat_xor, h1, h2, IntKind.wrap_i64]
  omega
theorem aff_length (a b c : ByteArray) (n : Nat) (ha : n ≤ a.size) (hb : n ≤ b.size) (hc : n ≤ c.size) :
    (xorL (xorL (a.data.toList.take n) (b.data.toList.take n)) (c.data.toList.take n)).length = n := by
  rw [size_list] at ha hb hc
  have l1 := xorL_length (a.data.toList.take n) (b.data.toList.take n) (by rw [List.length_take, List.length_take]; omega)
  rw [xorL_length _ _ (by rw [l1, List.length_take, List.length_take]; omega), l1, List.length_take]; omega
theorem aff_next (a b c : ByteArray) (n k : Nat) (ha : n ≤ a.size) (hb : n ≤ b.size) (hc : n ≤ c.size) (hlt : k < n) (xs : List Value) (V : Int) (hl : xs.length = n * 1)
    (hx : xs.take k = ((xorL (xorL (a.data.toList.take n) (b.data.toList.take n)) (c.data.toList.take n)).take k).map fun x => Value.int .u8 x.toNat)
    (hv : bits BinOp.xor IntKind.u8 (bits BinOp.xor IntKind.u8 (a[k].toNat : Int) (b[k].toNat : Int)) (c[k].toNat : Int) = V) :
    (xs.set k (.int .u8 V)).take (k + 1) = ((xorL (xorL (a.data.toList.take n) (b.data.toList.take n)) (c.data.toList.take n)).take (k + 1)).map fun x => Value.int .u8 x.toNat := by
  have hal := aff_length a b c n ha hb hc
  have l1 := xorL_length (a.data.toList.take n) (b.data.toList.take n) (by rw [List.length_take, List.length_take, ← size_list, ← size_list]; omega)
  rw [List.length_take, ← size_list] at l1
  rw [List.take_succ_eq_append_getElem (by rw [List.length_set]; omega), List.take_succ_eq_append_getElem (by omega), List.map_append, List.take_set_of_le (Nat.le_refl _), hx, List.getElem_set_self]
  congr 1
  rw [xorL_getElem _ _ k _ (by omega) (by rw [List.length_take, ← size_list]; omega), xorL_getElem _ _ k _ (by rw [List.length_take, ← size_list]; omega) (by rw [List.length_take, ← size_list]; omega), List.getElem_take, List.getElem_take, List.getElem_take]
  simp only [List.map_cons, List.map_nil]
  rw [← hv, xor_toNat, xor_toNat, u8_xor_nat _ _ (UInt8.toNat_lt _) (UInt8.toNat_lt _), u8_xor_nat _ _ (Nat.xor_lt_two_pow (n := 8) (UInt8.toNat_lt _) (UInt8.toNat_lt _)) (UInt8.toNat_lt _)]
  rfl
theorem aff_sum (a b c : ByteArray) (n : Nat) (ha : n ≤ a.size) (hb : n ≤ b.size) (hc : n ≤ c.size) :
    sumN (xorL (xorL (a.data.toList.take n) (b.data.toList.take n)) (c.data.toList.take n)) = sumN (a.extract 0 n).data.toList ^^^ sumN (b.extract 0 n).data.toList ^^^ sumN (c.extract 0 n).data.toList := by
  rw [size_list] at ha hb hc
  rw [sum_affine _ _ _ (by rw [List.length_take, List.length_take]; omega) (by rw [List.length_take, List.length_take]; omega)]
  simp only [Lib.extract_data, List.drop_zero, Nat.sub_zero]

set_option maxRecDepth 100000 in
set_option maxHeartbeats 2000000 in
theorem affine_walk (a b c : ByteArray) (w : World) (hT : Tab w) :
    Calls Tryd.prog 9 #[.string a, .string b, .string c] w fun e w' => e = .returned (.bool true) ∧ Below w.heap.size w w' := by
  obtain ⟨i0, hi, hz0, hz1, hz2⟩ := info_parts info5
  go_enter Tryd.func9, Tryd.ntmps9
  go_wp2_with fail
  refine (sane_any _ hT).mono ?_
  rintro e w1 ⟨rfl, hb1⟩
  obtain ⟨n, ha, hb, hc, hn, hmin⟩ := run_min4 (P := Tryd.prog) #[3, 3, 3, 3] 3 a.size b.size c.size
  have hm1 := hmin w1
  clear hmin
  obtain ⟨w2, hmk, hown, hgr⟩ := run_make_full (P := Tryd.prog) w1 w1.heap.size 38 5 i0 (.int .u8 0) 1 Tryd.underlying38 hi hz0 hz1 .i64 .i64 n (by rw [hz2]; omega) (by unfold maxLen; omega) (Nat.le_refl _)
  have hb2 : Below w.heap.size w w2 := hb1.grown hgr hb1.size (fun k e => by cases e)
  go_wp2_with fail
  have hlen0 := hown.1
  go_loopw [10] (fun i wr => ∃ (k : Nat) (xs : List Value), k ≤ n ∧ i = .int .i64 k ∧ Below w.heap.size w wr ∧ wr.ownsRow w1.heap.size 5 1 (.slice (some ⟨w1.heap.size, 0, none⟩) n n) n xs ∧
      xs.take k = ((xorL (xorL (a.data.toList.take n) (b.data.toList.take n)) (c.data.toList.take n)).take k).map fun x => Value.int .u8 x.toNat) (fun i _ => n - (intOf i).toNat)
  case atStart => exact ⟨0, _, Nat.zero_le _, rfl, hb2, hown, rfl⟩
  case round =>
    obtain ⟨k, xs, hk, rfl, hbr, hrow, hxs⟩ := hrel
    by_cases hlt : k < n
    · have HL := Lib.hid hrow.1
      obtain ⟨u, hcell⟩ : ∃ u, wr.cell? ⟨w1.heap.size, k, none⟩ = some u := by
        have h := hrow.cellAt k (by omega)
        rw [List.getElem?_eq_getElem (by have := HL.out; omega)] at h
        exact ⟨_, h⟩
      have hfz := hrow.frozenAt k
      have HX := Lib.hid hxs; clear hxs
      have ha' : k < a.size := by omega
      have hb' : k < b.size := by omega
      have hc' : k < c.size := by omega
      go_wp2_with fail
      go_region
      generalize hV : bits BinOp.xor IntKind.u8 (bits BinOp.xor IntKind.u8 (a[k].toNat : Int) (b[k].toNat : Int)) (c[k].toNat : Int) = V at *
      have HV := Lib.hid hV; clear hV
      have hst := hrow.stored k (.int .u8 V)
      have hbs := hbr.setCell (p := ⟨w1.heap.size, k, none⟩) hb1.size (.int .u8 V)
      have HR := Lib.hid hst.1; clear hst
      go_wp2
      go_roundw
      case rel => exact ⟨k + 1, _, by omega, by go_num, hbs.drew, HR.out.drew, aff_next a b c n k ha hb hc hlt xs V HL.out HX.out HV.out⟩
      case measure => simp [intOf]; omega
    · have hkn : n = k := by omega
      subst hkn
      have hxs' : xs = (xorL (xorL (a.data.toList.take n) (b.data.toList.take n)) (c.data.toList.take n)).map fun x => Value.int .u8 x.toNat := by
        have l1 := hrow.1
        rw [List.take_of_length_le (by omega), List.take_of_length_le (by rw [aff_length a b c n ha hb hc]; exact Nat.le_refl _)] at hxs
        exact hxs
      have hxl := aff_length a b c n ha hb hc
      have hcv2 := fun nq => run_convert_bytes_back (P := Tryd.prog) (wr.drewN nq) 38 9 5 ⟨w1.heap.size, 0, none⟩ n (xorL (xorL (a.data.toList.take n) (b.data.toList.take n)) (c.data.toList.take n)) Tryd.underlying38 Tryd.underlying5 Tryd.underlying9 (fun j hj => by
        rw [aff_length a b c n ha hb hc] at hj
        rw [show (⟨w1.heap.size, 0, none⟩ : Addr).add j = ⟨w1.heap.size, j, none⟩ by unfold Addr.add; split <;> simp_all]
        show wr.cell? _ = _
        rw [hrow.cellAt j (by omega), hxs', List.getElem?_map, List.getElem?_eq_getElem (by rw [aff_length a b c n ha hb hc]; exact hj)]
        rfl)
      rw [hxl] at hcv2
      have hcv' : ∀ nq, (convert 38 9 (.slice (some ⟨w1.heap.size, 0, none⟩) n n)).run Tryd.prog (wr.drewN nq) = .ok (.string ⟨(xorL (xorL (a.data.toList.take n) (b.data.toList.take n)) (c.data.toList.take n)).toArray⟩) (wr.drewN nq) := fun nq => hcv2 nq
      have hsum := aff_sum a b c n ha hb hc
      have HX := Lib.hid hxs'
      clear hxs hxs' hcv2
      have hTd : ∀ nq, Tab (wr.drewN nq) := fun nq => ⟨(hT.below hbr hT.1).1, fun i hi => (hT.below hbr hT.1).2 i hi⟩
      generalize xorL (xorL (a.data.toList.take n) (b.data.toList.take n)) (c.data.toList.take n) = xl at *
      have sx : (ByteArray.mk xl.toArray).size ≤ maxLen := by unfold maxLen; rw [show (ByteArray.mk xl.toArray).size = xl.length from rfl, hxl]; omega
      have sa : (a.extract 0 n).size ≤ maxLen := by unfold maxLen; rw [ByteArray.size_extract]; omega
      have sb : (b.extract 0 n).size ≤ maxLen := by unfold maxLen; rw [ByteArray.size_extract]; omega
      have sc : (c.extract 0 n).size ≤ maxLen := by unfold maxLen; rw [ByteArray.size_extract]; omega
      have HS := Lib.hid (show ((sumN xl : Int) == bits BinOp.xor IntKind.i64 (bits BinOp.xor IntKind.i64 (sumN (a.data.toList.take n)) (sumN (b.data.toList.take n))) (sumN (c.data.toList.take n))) = true by
        rw [i64_xor_nat _ _ (sumN_lt _) (sumN_lt _), i64_xor_nat _ _ (Nat.xor_lt_two_pow (sumN_lt _) (sumN_lt _)) (sumN_lt _), hsum]
        simp only [Lib.extract_data, List.drop_zero, Nat.sub_zero, beq_self_eq_true])
      clear hsum hm1 hmk
      go_wp2_with fail
      go_quiet ((go_at_call 21; exact Calls.quiet_of_same (sum_any _ (by assumption) _ (hTd _))))
      go_wp2
      go_ret
      exact ⟨congrArg (fun b => Ending.returned (.bool b)) HS.out, below_drewN hbr _⟩
end Go.Proofs.YtkpjdbfmcelddaaDoor
