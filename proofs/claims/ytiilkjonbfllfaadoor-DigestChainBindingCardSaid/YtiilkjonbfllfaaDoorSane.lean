/- What every law of the layer calls first: sane returns true; hexadecimals. -/
import Derived.Test.YtiilkjonbfllfaaDoorExt
namespace Go.Proofs.YtiilkjonbfllfaaDoor
open Go.RowKit

def digB16 : List UInt8 := [48, 49, 50, 51, 52, 53, 54, 55, 56, 57, 97, 98, 99, 100, 101, 102]
def hexOf (l : List UInt8) : List UInt8 := l.flatMap fun c => [digB16.getD (c.toNat / 16) 0, digB16.getD (c.toNat % 16) 0]
def hexB (l : List UInt8) : ByteArray := ⟨(hexOf l).toArray⟩
theorem hexB_snoc (l : List UInt8) (c : UInt8) : hexB (l ++ [c]) = hexB l ++ ⟨#[digB16.getD (c.toNat / 16) 0]⟩ ++ ⟨#[digB16.getD (c.toNat % 16) 0]⟩ := by
  apply ba_ext
  simp [hexB, hexOf]
theorem hexB_size (l : List UInt8) : (hexB l).size = 2 * l.length := by
  have : (hexOf l).length = 2 * l.length := by
    induction l with
    | nil => rfl
    | cons c l ih => simp only [hexOf, List.flatMap_cons, List.length_append, List.length_cons, List.length_nil] at ih ⊢; omega
  simpa [hexB, ByteArray.size] using this
theorem dig_extract (k : Nat) (h : k < 16) : (ByteArray.mk #[48, 49, 50, 51, 52, 53, 54, 55, 56, 57, 97, 98, 99, 100, 101, 102]).extract k (k + 1) = ⟨#[digB16.getD k 0]⟩ := by
  have : ∀ k : Fin 16, (ByteArray.mk #[48, 49, 50, 51, 52, 53, 54, 55, 56, 57, 97, 98, 99, 100, 101, 102]).extract k.val (k.val + 1) = ⟨#[digB16.getD k.val 0]⟩ := by decide +kernel
  exact this ⟨k, h⟩

theorem run_dig (q : Nat) (h : q < 16) (w : World) :
    (Instr.slice 9 (.string ⟨#[48, 49, 50, 51, 52, 53, 54, 55, 56, 57, 97, 98, 99, 100, 101, 102]⟩) (some (.int .u8 q)) (some (.int .u8 ((q : Int) + 1))) none).run Tryd.prog w = .ok (.string ⟨#[digB16.getD q 0]⟩) w := by
  have h1 : ¬ ((q : Int) + 1 < 0) := by omega
  have h2 : (q : Int) + 1 ≤ 16 := by omega
  have h3 : ((q : Int) + 1).toNat = q + 1 := by omega
  have h4 : (0 : Int) ≤ (q : Int) + 1 := by omega
  rw [← dig_extract q h]
  have hz : (ByteArray.mk #[48, 49, 50, 51, 52, 53, 54, 55, 56, 57, 97, 98, 99, 100, 101, 102]).size = 16 := rfl
  generalize ByteArray.mk #[48, 49, 50, 51, 52, 53, 54, 55, 56, 57, 97, 98, 99, 100, 101, 102] = D at hz ⊢
  simp [Instr.slice, Instr.sliceBounds, Instr.sliceBound, asIntOf, run_underlying Tryd.underlying9, hz, h2, h3, h4, go_sem]

set_option maxRecDepth 100000 in
set_option maxHeartbeats 2000000 in
theorem hex_any (s : ByteArray) (hs : s.size ≤ 1000) (w : World) :
    Calls Tryd.prog 39 #[.string s] w fun e w' => e = .returned (.string (hexB s.data.toList)) ∧ ∃ n, w' = w.drewN n := by
  go_enter Tryd.func39, Tryd.ntmps39
  go_wp2
  go_loopw [3, 4] (fun ov iv wr => ∃ k m : Nat, iv = .int .i64 k ∧ ov = .string (hexB (s.data.toList.take k)) ∧ k ≤ s.size ∧ wr = w.drewN m) (fun _ iv _ => s.size - (intOf iv).toNat)
  case atStart => exact ⟨0, 0, rfl, rfl, Nat.zero_le _, rfl⟩
  case round =>
    obtain ⟨k, m, rfl, rfl, hk, rfl⟩ := hrel
    by_cases hlt : k < s.size
    · have hki : (k : Int) < s.size := by omega
      have hk0 : (0 : Int) ≤ k := by omega
      obtain ⟨b, hb⟩ : ∃ b, s[k] = b := ⟨_, rfl⟩
      have hbl : b.toNat < 256 := UInt8.toNat_lt b
      obtain ⟨q, hq⟩ : ∃ q, b.toNat / 16 = q := ⟨_, rfl⟩
      obtain ⟨r, hr⟩ : ∃ r, b.toNat % 16 = r := ⟨_, rfl⟩
      have hb1 : (s[k].toNat : Int) / 16 = q := by rw [hb]; omega
      have hb2 : (s[k].toNat : Int) % 16 = r := by rw [hb]; omega
      have w1 : IntKind.u8.wrap (q : Int) = q := by rw [IntKind.wrap_u8]; omega
      have w2 : IntKind.u8.wrap (r : Int) = r := by rw [IntKind.wrap_u8]; omega
      have w3 : IntKind.u8.wrap ((q : Int) + 1) = q + 1 := by rw [IntKind.wrap_u8]; omega
      have w4 : IntKind.u8.wrap ((r : Int) + 1) = r + 1 := by rw [IntKind.wrap_u8]; omega
      have d1 := run_dig q (by omega)
      have d2 := run_dig r (by omega)
      have HS := Lib.hid (show hexB (s.data.toList.take (k + 1)) = hexB (s.data.toList.take k) ++ ⟨#[digB16.getD q 0]⟩ ++ ⟨#[digB16.getD r 0]⟩ by
        rw [List.take_succ_eq_append_getElem (show k < s.data.toList.length from hlt), hexB_snoc, ← hq, ← hr, ← hb]; rfl)
      have hsz := hexB_size (s.data.toList.take k)
      have hsl : (s.data.toList.take k).length ≤ k := List.length_take_le _ _
      clear hb hbl hq hr
      generalize digB16.getD q 0 = dq at *
      generalize digB16.getD r 0 = dr at *
      go_wp2
      go_quiet (fail)
      go_wp2
      refine ⟨⟨k + 1, m + nq, by go_num, by rw [HS.out], by omega, rfl⟩, by simp [intOf]; omega⟩
    · obtain rfl : k = s.size := by omega
      go_wp2
      go_ret
      refine ⟨?_, m, rfl⟩
      rw [show List.take s.size s.data.toList = s.data.toList from List.take_of_length_le (Nat.le_of_eq rfl)]; rfl

def L3 : List ByteArray := [⟨#[97]⟩, ⟨#[98]⟩, ⟨#[99]⟩]
theorem sane_h1 : hexB (dg ⟨#[]⟩).data.toList = ⟨#[101, 51, 98, 48, 99, 52, 52, 50, 57, 56, 102, 99, 49, 99, 49, 52, 57, 97, 102, 98, 102, 52, 99, 56, 57, 57, 54, 102, 98, 57, 50, 52, 50, 55, 97, 101, 52, 49, 101, 52, 54, 52, 57, 98, 57, 51, 52, 99, 97, 52, 57, 53, 57, 57, 49, 98, 55, 56, 53, 50, 98, 56, 53, 53]⟩ := by decide +kernel
theorem sane_h2 : hexB (dg ⟨#[97, 98, 99]⟩).data.toList = ⟨#[98, 97, 55, 56, 49, 54, 98, 102, 56, 102, 48, 49, 99, 102, 101, 97, 52, 49, 52, 49, 52, 48, 100, 101, 53, 100, 97, 101, 50, 50, 50, 51, 98, 48, 48, 51, 54, 49, 97, 51, 57, 54, 49, 55, 55, 97, 57, 99, 98, 52, 49, 48, 102, 102, 54, 49, 102, 50, 48, 48, 49, 53, 97, 100]⟩ := by decide +kernel
theorem sane_v1 : verS (root L3) (3 : Nat) (2 : Nat) ⟨#[99]⟩ (prfS L3 2) = true := ver_proof L3 2 ⟨#[99]⟩ rfl
theorem sane_v2 : verS (root L3) (3 : Nat) (2 : Nat) ⟨#[100]⟩ (prfS L3 2) = false := by decide +kernel
theorem sane_e1 : vexS (root [⟨#[97]⟩]) (1 : Nat) (root L3) (3 : Nat) (extS L3 1) = true := vex_ext L3 1 (by decide)
theorem sane_e2 : vexS (root [⟨#[97]⟩, ⟨#[98]⟩]) (1 : Nat) (root L3) (3 : Nat) (extS L3 1) = false := by decide +kernel
theorem sane_l1 : (prfS L3 2).length = 1 := by
  rw [prfS_dsc _ _ (by decide), List.length_map, List.length_reverse]; decide +kernel
theorem sane_l2 : (extS L3 1).length = 2 := by
  rw [extS_dsc _ _ (by decide) (by decide), List.length_map]; decide +kernel
end Go.Proofs.YtiilkjonbfllfaaDoor
