/- The walk of WireUnique. -/
import Derived.Test.YtkpjdbfmcelddaaDoorTripW
import Derived.RegionTactic
import Derived.ChangeAlike
namespace Go.Proofs.YtkpjdbfmcelddaaDoor
open Go.RowKit

/-- A string that is accepted was encoded. -/
theorem enc_strO (l : List UInt8) (x y : Nat) (h : strO l = some (x, y)) : x ≤ y ∧ y ≤ l.length ∧ y - x ≤ 65536 ∧ l.take x = enc (2 * (y - x)) := by
  unfold strO at h
  rcases hd : intO l with _ | ⟨v, n⟩
  · rw [hd] at h; simp at h
  · rw [hd] at h
    simp only at h
    split at h
    · rename_i hv
      simp only [Option.some.injEq, Prod.mk.injEq] at h
      obtain ⟨rfl, rfl⟩ := h
      obtain ⟨_, hn, _⟩ := intO_bound _ _ _ hd
      obtain ⟨ht, _, _⟩ := enc_intO _ _ _ hd
      have hz : zig v = 2 * (n + v.toNat - n) := by unfold zig; rw [if_neg (by omega)]; omega
      rw [← hz]
      exact ⟨by omega, by omega, by omega, ht⟩
    · simp at h

set_option maxRecDepth 100000 in
set_option maxHeartbeats 2000000 in
theorem unique_walk (s : ByteArray) (a f : Int) (h1 : -9223372036854775808 ≤ a) (h2 : a ≤ 9223372036854775807) (hf1 : 0 ≤ f) (hf2 : f ≤ 255) (w : World) (hT : Tab w) :
    Calls Tryd.prog 5 #[.string s, .int .i64 a, .int .u8 f] w fun e w' => e = .returned (.bool true) ∧ Below w.heap.size w w' := by
  obtain ⟨kt, ht1, ht2, ht3⟩ := min_len s.size 300 (by decide)
  have st : (s.extract 0 kt).size = kt := by rw [ByteArray.size_extract]; omega
  go_enter Tryd.func5, Tryd.ntmps5
  go_wp2_with fail
  refine (sane_any _ hT).mono ?_
  rintro e w1 ⟨rfl, hb1⟩
  go_wp2_with fail
  have hcv := run_convert_bytes_arg (P := Tryd.prog) (w1.alloc (.cells #[.int .u8 f] 5)).drew 38 5 Tryd.underlying38 Tryd.underlying5 w1.heap.size 0 1 1 [f] rfl (fun i hi => by
    obtain rfl : i = 0 := by omega
    simp) 9 Tryd.underlying9
  have sf : (strOfNums [f]).size = 1 := strOfNums_size _
  go_region
  go_wp2_with fail
  have hz : (strOfNums [f] ++ s.extract 0 kt).size = 1 + kt := by rw [ByteArray.size_append, sf, st]
  obtain ⟨W2, hW2, hbW⟩ : ∃ W2, (w1.alloc (.cells #[.int .u8 f] 5)).drew = W2 ∧ Below w.heap.size w W2 := ⟨_, rfl, (hb1.alloc hb1.size _).drew⟩
  rw [hW2]
  clear hcv hW2
  generalize strOfNums [f] ++ s.extract 0 kt = t at hz ⊢
  refine (pick_any a _ (by omega) (by omega) h1 h2 _).mono ?_
  rintro e w3 ⟨rfl, rfl⟩
  have hp := pickN_range a (1 + kt + 1) (by omega)
  obtain ⟨j, hj⟩ : ∃ j : Nat, pickN a (1 + kt + 1) = j := ⟨(pickN a (1 + kt + 1)).toNat, by omega⟩
  rw [hj] at hp ⊢
  clear hj
  go_wp2_with fail
  have hb4 : Below w.heap.size w (w3.alloc (Obj.cells #[Value.int IntKind.i64 0, Value.int IntKind.i64 j] 3)) := hbW.alloc hbW.size _
  go_loopw [38] (fun i wr => ∃ k : Nat, k ≤ 2 ∧ i = .int .i64 k ∧ Below w.heap.size w wr ∧ w3.heap.size < wr.heap.size ∧ wr.cell? ⟨w3.heap.size, 0, none⟩ = some (.int .i64 0) ∧ wr.cell? ⟨w3.heap.size, 1, none⟩ = some (.int .i64 j)) (fun i _ => 2 - (intOf i).toNat)
  case atStart => exact ⟨0, by omega, rfl, hb4, by simp, by simp, by simp⟩
  case round =>
    obtain ⟨k, hk, rfl, hbr, hsz, hc0, hc1⟩ := hrel
    by_cases hlt : k < 2
    · obtain ⟨q, hq, hc⟩ : ∃ q : Nat, q ≤ 1 + kt ∧ wr.cell? ⟨w3.heap.size, k, none⟩ = some (.int .i64 q) := by
        rcases (show k = 0 ∨ k = 1 by omega) with rfl | rfl
        · exact ⟨0, by omega, hc0⟩
        · exact ⟨j, by omega, hc1⟩
      have HC0 := Lib.hid hc0; have HC1 := Lib.hid hc1; clear hc0 hc1
      have hi := int_any t q (by unfold maxLen; omega) (by omega)
      have hs := string_any t q (by unfold maxLen; omega) (by omega)
      rcases hd : intO (t.data.toList.drop q) with _ | ⟨m, n⟩
      · have hso : strO (t.data.toList.drop q) = none := by unfold strO; rw [hd]
        rw [hso] at hs
        rw [hd] at hi
        dsimp only [intV, strV] at hi hs
        have HI := Lib.hid hi; have HS := Lib.hid hs; clear hi hs hd hso
        go_wp2_with fail
        refine (HI.out _).mono ?_
        rintro e w4 ⟨rfl, rfl⟩
        go_wp2_with fail
        refine (putInt_ok 0 (by omega) (by omega) _).mono ?_
        rintro e w5 ⟨rfl, hb5⟩
        have hb5' := hbr.trans (hb5.mono hbr.size)
        go_wp2_with fail
        refine (HS.out _).mono ?_
        rintro e w6 ⟨rfl, hb6⟩
        have hb6' := hb5'.trans (hb6.mono hb5'.size)
        go_wp2_with fail
        refine (putString_ok ⟨#[]⟩ (by decide) _).mono ?_
        rintro e w7 ⟨rfl, hb7⟩
        have hb7' := hb6'.trans (hb7.mono hb6'.size)
        have hz5 := hb5.size
        have hz6 := hb6.size
        have hz7 := hb7.size
        have hk0 : w7.cell? ⟨w3.heap.size, 0, none⟩ = some (.int .i64 0) := (hb7.cell (p := ⟨w3.heap.size, 0, none⟩) (by simp; omega)).trans ((hb6.cell (p := ⟨w3.heap.size, 0, none⟩) (by simp; omega)).trans ((hb5.cell (p := ⟨w3.heap.size, 0, none⟩) (by simp; omega)).trans HC0.out))
        have hk1 : w7.cell? ⟨w3.heap.size, 1, none⟩ = some (.int .i64 j) := (hb7.cell (p := ⟨w3.heap.size, 1, none⟩) (by simp; omega)).trans ((hb6.cell (p := ⟨w3.heap.size, 1, none⟩) (by simp; omega)).trans ((hb5.cell (p := ⟨w3.heap.size, 1, none⟩) (by simp; omega)).trans HC1.out))
        have HK0 := Lib.hid hk0; have HK1 := Lib.hid hk1; clear hk0 hk1
        go_wp2
        go_roundw
        case rel => exact ⟨k + 1, by omega, by go_num, hb7', by omega, HK0.out, HK1.out⟩
        case measure => simp [intOf]; omega
      · obtain ⟨hn0, hn1, _, _, _⟩ := intO_bound _ _ _ hd
        obtain ⟨htk, hm1, hm2⟩ := enc_intO _ _ _ hd
        rw [List.length_drop, ← size_list] at hn1
        have hq1 : ((t.extract q (q + n)).toList == enc (zig m)) = true := by
          rw [beq_iff_eq, Lib.toList_data, Lib.extract_data, show q + n - q = n from by omega, htk]
        rw [hd] at hi
        dsimp only [intV] at hi
        rcases hso : strO (t.data.toList.drop q) with _ | ⟨x, y⟩
        · rw [hso] at hs
          dsimp only [strV] at hs
          have HI := Lib.hid hi; have HS := Lib.hid hs; clear hi hs hd hso htk
          go_wp2_with fail
          refine (HI.out _).mono ?_
          rintro e w4 ⟨rfl, rfl⟩
          go_wp2_with fail
          refine (putInt_ok m (by omega) (by omega) _).mono ?_
          rintro e w5 ⟨rfl, hb5⟩
          have hb5' := hbr.trans (hb5.mono hbr.size)
          go_wp2_with fail
          refine (HS.out _).mono ?_
          rintro e w6 ⟨rfl, hb6⟩
          have hb6' := hb5'.trans (hb6.mono hb5'.size)
          go_wp2_with fail
          refine (putString_ok ⟨#[]⟩ (by decide) _).mono ?_
          rintro e w7 ⟨rfl, hb7⟩
          have hb7' := hb6'.trans (hb7.mono hb6'.size)
          have hz5 := hb5.size
          have hz6 := hb6.size
          have hz7 := hb7.size
          have hk0 : w7.cell? ⟨w3.heap.size, 0, none⟩ = some (.int .i64 0) := (hb7.cell (p := ⟨w3.heap.size, 0, none⟩) (by simp; omega)).trans ((hb6.cell (p := ⟨w3.heap.size, 0, none⟩) (by simp; omega)).trans ((hb5.cell (p := ⟨w3.heap.size, 0, none⟩) (by simp; omega)).trans HC0.out))
          have hk1 : w7.cell? ⟨w3.heap.size, 1, none⟩ = some (.int .i64 j) := (hb7.cell (p := ⟨w3.heap.size, 1, none⟩) (by simp; omega)).trans ((hb6.cell (p := ⟨w3.heap.size, 1, none⟩) (by simp; omega)).trans ((hb5.cell (p := ⟨w3.heap.size, 1, none⟩) (by simp; omega)).trans HC1.out))
          have HK0 := Lib.hid hk0; have HK1 := Lib.hid hk1; clear hk0 hk1
          go_wp2
          go_roundw
          case rel => exact ⟨k + 1, by omega, by go_num, hb7', by omega, HK0.out, HK1.out⟩
          case measure => simp [intOf]; omega
        · obtain ⟨hx1, hx2, hx3, hx4⟩ := enc_strO _ _ _ hso
          rw [List.length_drop, ← size_list] at hx2
          have hxs : (t.extract (q + x) (q + y)).size = y - x := by rw [ByteArray.size_extract]; omega
          have hq2 : ((t.extract q (q + y)).toList == (({ data := (enc (2 * (y - x))).toArray } : ByteArray) ++ t.extract (q + x) (q + y)).toList) = true := by
            rw [beq_iff_eq, Lib.toList_data, Lib.toList_data, show ((({ data := (enc (2 * (y - x))).toArray } : ByteArray) ++ t.extract (q + x) (q + y))).data.toList = enc (2 * (y - x)) ++ (t.extract (q + x) (q + y)).data.toList by simp, Lib.extract_data, Lib.extract_data, show q + y - q = y from by omega, show q + y - (q + x) = y - x from by omega, ← List.drop_drop, ← hx4, ← List.take_add]
            congr 1; omega
          rw [hso] at hs
          dsimp only [strV] at hs
          have HI := Lib.hid hi; have HS := Lib.hid hs; clear hi hs hd hso htk hx4
          have hp := putString_ok (t.extract (q + x) (q + y)) (by omega)
          rw [hxs] at hp
          have HP := Lib.hid hp; clear hp hxs
          go_wp2_with fail
          refine (HI.out _).mono ?_
          rintro e w4 ⟨rfl, rfl⟩
          go_wp2_with fail
          refine (putInt_ok m (by omega) (by omega) _).mono ?_
          rintro e w5 ⟨rfl, hb5⟩
          have hb5' := hbr.trans (hb5.mono hbr.size)
          go_wp2_with fail
          refine (HS.out _).mono ?_
          rintro e w6 ⟨rfl, hb6⟩
          have hb6' := hb5'.trans (hb6.mono hb5'.size)
          go_wp2_with fail
          refine (HP.out _).mono ?_
          rintro e w7 ⟨rfl, hb7⟩
          have hb7' := hb6'.trans (hb7.mono hb6'.size)
          have hz5 := hb5.size
          have hz6 := hb6.size
          have hz7 := hb7.size
          have hk0 : w7.cell? ⟨w3.heap.size, 0, none⟩ = some (.int .i64 0) := (hb7.cell (p := ⟨w3.heap.size, 0, none⟩) (by simp; omega)).trans ((hb6.cell (p := ⟨w3.heap.size, 0, none⟩) (by simp; omega)).trans ((hb5.cell (p := ⟨w3.heap.size, 0, none⟩) (by simp; omega)).trans HC0.out))
          have hk1 : w7.cell? ⟨w3.heap.size, 1, none⟩ = some (.int .i64 j) := (hb7.cell (p := ⟨w3.heap.size, 1, none⟩) (by simp; omega)).trans ((hb6.cell (p := ⟨w3.heap.size, 1, none⟩) (by simp; omega)).trans ((hb5.cell (p := ⟨w3.heap.size, 1, none⟩) (by simp; omega)).trans HC1.out))
          have HK0 := Lib.hid hk0; have HK1 := Lib.hid hk1; clear hk0 hk1
          go_wp2
          go_roundw
          case rel => exact ⟨k + 1, by omega, by go_num, hb7', by omega, HK0.out, HK1.out⟩
          case measure => simp [intOf]; omega
    · go_wp2
      go_ret
      exact ⟨rfl, hbr⟩
end Go.Proofs.YtkpjdbfmcelddaaDoor
