/- The walk of WireSequence. -/
import Derived.Test.YtkpjdbfmcelddaaDoorTripW
import Derived.RegionTactic
import Derived.ChangeAlike
import Derived.Deep.RegionWith
import Derived.StillTailTactics
import Derived.Deep.RegionHeld3
namespace Go.Proofs.YtkpjdbfmcelddaaDoor
open Go.RowKit

/-- What one pair is encoded to: an integer, and a text's first bytes. -/
def piece (x : Int) (t : List UInt8) : List UInt8 := enc (zig x) ++ (enc (2 * t.length) ++ t)
def txt (s : ByteArray) : List UInt8 := s.data.toList.take 100
/-- The first k pairs, one behind the other. -/
def cat (zs : List Int) (ss : List ByteArray) : Nat → List UInt8
  | 0 => []
  | k + 1 => cat zs ss k ++ piece (numF (zs.getD k 0)) (txt (ss.getD k ByteArray.empty))
theorem txt_length (s : ByteArray) : (txt s).length ≤ 100 := by unfold txt; rw [List.length_take]; omega
theorem piece_length (x : Int) (t : List UInt8) (h : t.length ≤ 100) : (piece x t).length ≤ 118 := by
  have := enc_length (zig x); have := enc_length (2 * t.length)
  unfold piece; simp only [List.length_append]; omega
theorem cat_length (zs : List Int) (ss : List ByteArray) : ∀ k, (cat zs ss k).length ≤ 118 * k
  | 0 => by simp [cat]
  | k + 1 => by
    have := cat_length zs ss k
    have := piece_length (numF (zs.getD k 0)) _ (txt_length (ss.getD k ByteArray.empty))
    rw [cat, List.length_append]; omega
theorem cat_split (zs : List Int) (ss : List ByteArray) (k : Nat) : ∀ n, k < n → ∃ r, cat zs ss n = cat zs ss k ++ (piece (numF (zs.getD k 0)) (txt (ss.getD k ByteArray.empty)) ++ r)
  | 0, h => by omega
  | n + 1, h => by
    by_cases e : k = n
    · subst e; exact ⟨[], by rw [cat, List.append_nil]⟩
    · obtain ⟨r, hr⟩ := cat_split zs ss k n (by omega)
      exact ⟨r ++ piece (numF (zs.getD n 0)) (txt (ss.getD n ByteArray.empty)), by rw [cat, hr]; simp only [List.append_assoc]⟩
theorem cell_lt {w : World} {b o : Nat} {v : Value} (h : w.cell? ⟨b, o, none⟩ = some v) : b < w.heap.size := by
  rcases Nat.lt_or_ge b w.heap.size with h' | h'
  · exact h'
  · simp [World.cell?, Array.getElem?_eq_none h'] at h

theorem cat_next (zs : List Int) (ss : List ByteArray) (k : Nat) (S : ByteArray) (z : Int) (τ : ByteArray) (kt : Nat) (hS : S.data.toList = cat zs ss k) (hz : zs.getD k 0 = z) (hτ : ss.getD k ByteArray.empty = τ) (ht : min (τ.size : Int) 100 = kt) :
    (S ++ (⟨(enc (zig (numF z))).toArray⟩ : ByteArray) ++ ((⟨(enc (2 * kt)).toArray⟩ : ByteArray) ++ τ.extract 0 kt)).data.toList = cat zs ss (k + 1) := by
  have e1 : txt τ = (τ.extract 0 kt).data.toList := by
    rw [Lib.extract_data, List.drop_zero, Nat.sub_zero]; unfold txt
    by_cases h : τ.size ≤ 100
    · rw [List.take_of_length_le (by rw [← size_list]; omega), List.take_of_length_le (by rw [← size_list]; omega)]
    · rw [show kt = 100 by omega]
  have e2 : (txt τ).length = kt := by rw [e1, ← size_list, ByteArray.size_extract]; omega
  rw [cat, hz, hτ, ← hS, piece, e2, e1]
  simp
/-- Behind the first k pairs the next integer stands, and then the next text. -/
theorem seq_at (zs : List Int) (ss : List ByteArray) (k n : Nat) (S : ByteArray) (z : Int) (τ : ByteArray) (kt : Nat) (hS : S.data.toList = cat zs ss n) (hs : S.size ≤ 2360) (hlt : k < n) (hz : zs.getD k 0 = z) (hτ : ss.getD k ByteArray.empty = τ) (ht : min (τ.size : Int) 100 = kt) :
    (∀ w, Calls Tryd.prog 15 #[.string S, .int .i64 ((cat zs ss k).length : Nat)] w fun e w' => e = .returned (.tuple #[.int .i64 (numF z), .int .i64 ((cat zs ss k).length + (enc (zig (numF z))).length : Nat), .int .i64 0]) ∧ w' = w) ∧
    (∀ w, Calls Tryd.prog 17 #[.string S, .int .i64 ((cat zs ss k).length + (enc (zig (numF z))).length : Nat)] w fun e w' => e = .returned (.tuple #[.string (τ.extract 0 kt), .int .i64 ((cat zs ss (k + 1)).length : Nat), .int .i64 0]) ∧ Below w.heap.size w w') ∧ (cat zs ss (k + 1)).length ≤ S.size := by
  obtain ⟨r, hr⟩ := cat_split zs ss k n hlt
  have e1 : txt τ = (τ.extract 0 kt).data.toList := by
    rw [Lib.extract_data, List.drop_zero, Nat.sub_zero]; unfold txt
    by_cases h : τ.size ≤ 100
    · rw [List.take_of_length_le (by rw [← size_list]; omega), List.take_of_length_le (by rw [← size_list]; omega)]
    · rw [show kt = 100 by omega]
  have st : (τ.extract 0 kt).size = kt := by rw [ByteArray.size_extract]; omega
  have e2 : (txt τ).length = kt := by rw [e1, ← size_list, st]
  rw [hz, hτ] at hr
  have hl := congrArg List.length (hS.trans hr)
  rw [← size_list] at hl
  simp only [piece, List.length_append, e2] at hl
  have nr := numF_range z
  have hlen : (cat zs ss (k + 1)).length = (cat zs ss k).length + (enc (zig (numF z))).length + ((enc (2 * kt)).length + kt) := by
    rw [cat, hz, hτ]; simp only [piece, List.length_append, e2]; omega
  refine ⟨fun w => ?_, fun w => ?_, by omega⟩
  · have hSe : S = (⟨(cat zs ss k).toArray⟩ : ByteArray) ++ (⟨(enc (zig (numF z))).toArray⟩ : ByteArray) ++ (⟨(enc (2 * kt) ++ (txt τ ++ r)).toArray⟩ : ByteArray) := by
      apply ByteArray.ext; apply Array.toList_inj.1
      rw [hS, hr, piece, e2]; simp
    have h := int_between ⟨(cat zs ss k).toArray⟩ ⟨(enc (2 * kt) ++ (txt τ ++ r)).toArray⟩ (numF z) (by omega) (by omega) (by
      rw [show (ByteArray.mk (cat zs ss k).toArray).size = (cat zs ss k).length from rfl, show (ByteArray.mk (enc (2 * kt) ++ (txt τ ++ r)).toArray).size = (enc (2 * kt) ++ (txt τ ++ r)).length from rfl]
      simp only [List.length_append, e2]; omega) (cat zs ss k).length rfl w
    rw [← hSe] at h
    exact h
  · have hSe : S = (⟨(cat zs ss k ++ enc (zig (numF z))).toArray⟩ : ByteArray) ++ ((⟨(enc (2 * kt)).toArray⟩ : ByteArray) ++ τ.extract 0 kt) ++ (⟨r.toArray⟩ : ByteArray) := by
      apply ByteArray.ext; apply Array.toList_inj.1
      rw [hS, hr, piece, e2, e1]; simp
    have h := str_between ⟨(cat zs ss k ++ enc (zig (numF z))).toArray⟩ ⟨r.toArray⟩ (τ.extract 0 kt) (by
      rw [show (ByteArray.mk (cat zs ss k ++ enc (zig (numF z))).toArray).size = (cat zs ss k ++ enc (zig (numF z))).length from rfl, show (ByteArray.mk r.toArray).size = r.length from rfl, st]
      simp only [List.length_append]; omega) ((cat zs ss k).length + (enc (zig (numF z))).length) kt (by
      rw [show (ByteArray.mk (cat zs ss k ++ enc (zig (numF z))).toArray).size = (cat zs ss k ++ enc (zig (numF z))).length from rfl, List.length_append]) st w
    rw [← hSe, ← hlen] at h
    exact h
theorem run_min3 {P : Program} (w : World) (ts : Array TypeId) (t : TypeId) (k k' k'' : IntKind) (x y z : Int) : (Builtin.min_ ts t #[.int k x, .int k' y, .int k'' z]).run P w = .ok (.int k (min (min x y) z)) w := by
  rw [run_min_int3]
  congr 2
  split <;> split <;> omega
attribute [local go_sem ↓] run_min3

set_option maxRecDepth 100000 in
set_option maxHeartbeats 2000000 in
theorem sequence_walk (bl ol bt ot nl nt cl ct : Nat) (zs : List Int) (ss : List ByteArray) (hnl : 0 < nl) (hnt : 0 < nt) (hlm : nl ≤ maxLen) (htm : nt ≤ maxLen) (w : World) (hT : Tab w)
    (hl : ∀ i, i < nl → w.cell? ⟨bl, ol + i, none⟩ = some (.int .i64 (zs.getD i 0))) (hlr : ∀ i, -9223372036854775808 ≤ zs.getD i 0 ∧ zs.getD i 0 ≤ 9223372036854775807)
    (ht : ∀ i, i < nt → w.cell? ⟨bt, ot + i, none⟩ = some (.string (ss.getD i ByteArray.empty))) :
    Calls Tryd.prog 6 #[.slice (some ⟨bl, ol, none⟩) nl cl, .slice (some ⟨bt, ot, none⟩) nt ct] w fun e w' => e = .returned (.bool true) ∧ Below w.heap.size w w' := by
  have hbl := cell_lt (hl 0 hnl)
  have hbt := cell_lt (ht 0 hnt)
  unfold maxLen at hlm htm
  obtain ⟨n, hn1, hn2, hn3, hn4⟩ : ∃ n : Nat, min (min (nl : Int) (nt : Int)) 20 = (n : Int) ∧ n ≤ nl ∧ n ≤ nt ∧ n ≤ 20 := ⟨min (min nl nt) 20, by omega, by omega, by omega, by omega⟩
  have HL := Lib.hid hl; have HT := Lib.hid ht; have HR := Lib.hid hlr; clear hl ht hlr
  go_enter Tryd.func6, Tryd.ntmps6
  go_wp2_with fail
  refine (sane_any _ hT).mono ?_
  rintro e w1 ⟨rfl, hb1⟩
  go_wp2_with fail
  go_loopw [7, 8] (fun sv iv wr => ∃ (k : Nat) (S : ByteArray), k ≤ n ∧ sv = .string S ∧ iv = .int .i64 k ∧ S.data.toList = cat zs ss k ∧ Below w.heap.size w wr) (fun _ i _ => n - (intOf i).toNat)
  case atStart => exact ⟨0, ⟨#[]⟩, Nat.zero_le _, rfl, rfl, rfl, hb1⟩
  case round =>
    obtain ⟨k, S, hk, rfl, rfl, hS, hbr⟩ := hrel
    have hSl : S.size ≤ 118 * k := by rw [size_list, hS]; exact cat_length zs ss k
    have HS := Lib.hid hS; clear hS
    by_cases hlt : k < n
    · obtain ⟨z, hz, hz1, hz2⟩ : ∃ z, zs.getD k 0 = z ∧ -9223372036854775808 ≤ z ∧ z ≤ 9223372036854775807 := ⟨_, rfl, HR.out k⟩
      obtain ⟨τ, hτ⟩ : ∃ τ, ss.getD k ByteArray.empty = τ := ⟨_, rfl⟩
      have hcz : wr.cell? ⟨bl, ol + k, none⟩ = some (.int .i64 z) := (hbr.cell (p := ⟨bl, ol + k, none⟩) hbl).trans (by rw [HL.out k (by omega), hz])
      have HCT := Lib.hid (show wr.cell? ⟨bt, ot + k, none⟩ = some (.string τ) from (hbr.cell (p := ⟨bt, ot + k, none⟩) hbt).trans (by rw [HT.out k (by omega), hτ]))
      have HZ := Lib.hid hz; have Hτ := Lib.hid hτ; clear hz hτ
      obtain ⟨kt, ht1, ht2, ht3⟩ := min_len τ.size 100 (by decide)
      have st : (τ.extract 0 kt).size = kt := by rw [ByteArray.size_extract]; omega
      have nr := numF_range z
      have ez := enc_length (zig (numF z))
      have et := enc_length (2 * kt)
      go_wp2_with fail
      refine (numberFrom_any z hz1 hz2 _).mono ?_
      rintro e w2 ⟨rfl, hb2⟩
      have hb2' := hbr.trans (hb2.mono hbr.size)
      go_wp2_with fail
      refine (putInt_ok _ (by omega) (by omega) _).mono ?_
      rintro e w3 ⟨rfl, hb3⟩
      have hb3' := hb2'.trans (hb3.mono hb2'.size)
      have hct : w3.cell? ⟨bt, ot + k, none⟩ = some (.string τ) := (hb3.cell (p := ⟨bt, ot + k, none⟩) (Nat.lt_of_lt_of_le hbt hb2'.size)).trans ((hb2.cell (p := ⟨bt, ot + k, none⟩) (Nat.lt_of_lt_of_le hbt hbr.size)).trans HCT.out)
      go_wp2_with fail
      have hPS : ∀ W : World, W.cell? ⟨bt, ot + k, none⟩ = some (.string τ) ∧ Below w.heap.size w W → Calls Tryd.prog 19 #[.string (τ.extract 0 kt)] W fun e w' => e = .returned (.tuple #[.string (⟨(enc (2 * kt)).toArray⟩ ++ τ.extract 0 kt), .int .i64 0]) ∧ (w'.cell? ⟨bt, ot + k, none⟩ = some (.string τ) ∧ Below w.heap.size w w') := by
        intro W hW
        have h := putString_ok (τ.extract 0 kt) (by rw [st]; omega) W
        rw [st] at h
        exact h.mono fun e w' ⟨he, hb⟩ => ⟨he, (hb.cell (p := ⟨bt, ot + k, none⟩) (Nat.lt_of_lt_of_le hbt hW.2.size)).trans hW.1, hW.2.trans (hb.mono hW.2.size)⟩
      have HPS := Lib.hid hPS; clear hPS
      have hbb : Below w.heap.size w w3 := hb3'
      have hki : (k : Int) < (nt : Int) := by omega
      have hki0 : (0 : Int) ≤ (k : Int) := by omega
      go_region_held3 (fun w' => w'.cell? ⟨bt, ot + k, none⟩ = some (.string τ) ∧ Below w.heap.size w w') (first | exact ⟨hct, hbb.drew⟩ | exact hs4 | go_keep)
        (first | (go_at_call 19; refine (HPS.out _ (by assumption)).mono ?_; rintro e w4 ⟨rfl, hs4⟩))
      have HN := Lib.hid (show (S ++ (⟨(enc (zig (numF z))).toArray⟩ : ByteArray) ++ ((⟨(enc (2 * kt)).toArray⟩ : ByteArray) ++ τ.extract 0 kt)).data.toList = cat zs ss (k + 1) from cat_next zs ss k S z τ kt HS.out HZ.out Hτ.out ht1)
      obtain ⟨hs5, hs6⟩ := hs4
      go_wp2
      go_roundw
      case rel => exact ⟨k + 1, _, by omega, rfl, by go_num, HN.out, hs6⟩
      case measure => simp [intOf]; omega
    · have hkn : n = k := by omega
      subst hkn
      have hSn : S.size ≤ 2360 := by omega
      go_wp2_with fail
      go_loopw [13, 14] (fun av iv wr => ∃ k : Nat, k ≤ n ∧ av = .int .i64 ((cat zs ss k).length : Nat) ∧ iv = .int .i64 k ∧ Below w.heap.size w wr) (fun _ i _ => n - (intOf i).toNat)
      case atStart => exact ⟨0, Nat.zero_le _, rfl, rfl, hbr⟩
      case round =>
        obtain ⟨k, hk, rfl, rfl, hbr⟩ := hrel
        by_cases hlt : k < n
        · obtain ⟨z, hz, hz1, hz2⟩ : ∃ z, zs.getD k 0 = z ∧ -9223372036854775808 ≤ z ∧ z ≤ 9223372036854775807 := ⟨_, rfl, HR.out k⟩
          obtain ⟨τ, hτ⟩ : ∃ τ, ss.getD k ByteArray.empty = τ := ⟨_, rfl⟩
          obtain ⟨kt, ht1, ht2, ht3⟩ := min_len τ.size 100 (by decide)
          have st : (τ.extract 0 kt).size = kt := by rw [ByteArray.size_extract]; omega
          have nr := numF_range z
          have ez := enc_length (zig (numF z))
          have et := enc_length (2 * kt)
          obtain ⟨hci, hcs, hcl⟩ := seq_at zs ss k n S z τ kt HS.out hSn hlt hz hτ ht1
          have hcz : ∀ W, Below w.heap.size w W → W.cell? ⟨bl, ol + k, none⟩ = some (.int .i64 z) := fun W hb => (hb.cell (p := ⟨bl, ol + k, none⟩) hbl).trans (by rw [HL.out k (by omega), hz])
          have hct : ∀ W, Below w.heap.size w W → W.cell? ⟨bt, ot + k, none⟩ = some (.string τ) := fun W hb => (hb.cell (p := ⟨bt, ot + k, none⟩) hbt).trans (by rw [HT.out k (by omega), hτ])
          have hNF : ∀ W : World, (W.cell? ⟨bl, ol + k, none⟩ = some (.int .i64 z) ∧ W.cell? ⟨bt, ot + k, none⟩ = some (.string τ)) ∧ Below w.heap.size w W → Calls Tryd.prog 11 #[.int .i64 z] W fun e w' => e = .returned (.int .i64 (numF z)) ∧ ((w'.cell? ⟨bl, ol + k, none⟩ = some (.int .i64 z) ∧ w'.cell? ⟨bt, ot + k, none⟩ = some (.string τ)) ∧ Below w.heap.size w w') := by
            intro W hW
            exact (numberFrom_any z hz1 hz2 W).mono fun e w' ⟨he, hb⟩ => by
              have hb' := hW.2.trans (hb.mono hW.2.size)
              exact ⟨he, ⟨hcz _ hb', hct _ hb'⟩, hb'⟩
          have HNF := Lib.hid hNF; have HCI := Lib.hid hci; have HCS := Lib.hid hcs; have HCL := Lib.hid hcl; have HCZ := Lib.hid hcz; have HCT := Lib.hid hct
          have hcl2 := cat_length zs ss k
          clear hNF hci hcs hcl hcz hct hz hτ
          have hki : (k : Int) < (nt : Int) := by omega
          have hki0 : (0 : Int) ≤ (k : Int) := by omega
          have hkl : (k : Int) < (nl : Int) := by omega
          go_wp2_with fail
          refine (HCI.out _).mono ?_
          rintro e w2 ⟨rfl, rfl⟩
          go_wp2_with fail
          refine (HCS.out _).mono ?_
          rintro e w3 ⟨rfl, hb3⟩
          have hb3' := hbr.trans (hb3.mono hbr.size)
          go_wp2_with fail
          have hS3 : (w3.cell? ⟨bl, ol + k, none⟩ = some (.int .i64 z) ∧ w3.cell? ⟨bt, ot + k, none⟩ = some (.string τ)) ∧ Below w.heap.size w w3 := ⟨⟨HCZ.out _ hb3', HCT.out _ hb3'⟩, hb3'⟩
          go_region_held3 (fun w' => (w'.cell? ⟨bl, ol + k, none⟩ = some (.int .i64 z) ∧ w'.cell? ⟨bt, ot + k, none⟩ = some (.string τ)) ∧ Below w.heap.size w w') (first | exact ⟨hS3.1, hS3.2.drew⟩ | exact hs4 | go_keep)
            (first | (go_at_call 11; refine (HNF.out _ (by assumption)).mono ?_; rintro e w4 ⟨rfl, hs4⟩))
          obtain ⟨_, hs5⟩ := hs4
          go_wp2
          go_roundw
          case rel => exact ⟨k + 1, by omega, rfl, by go_num, hs5⟩
          case measure => simp [intOf]; omega
        · have hkn : n = k := by omega
          subst hkn
          have hi := int_any S S.size (by unfold maxLen; omega) (Nat.le_refl _)
          rw [List.drop_eq_nil_of_le (by rw [← size_list]; exact Nat.le_refl _), show intO [] = none from rfl] at hi
          dsimp only [intV] at hi
          have hcn : (cat zs ss n).length = S.size := by rw [size_list, HS.out]
          have HI := Lib.hid hi; clear hi
          rw [hcn]
          clear hcn
          go_wp2_with fail
          refine (HI.out _).mono ?_
          rintro e w4 ⟨rfl, rfl⟩
          go_wp2
          go_ret
          exact ⟨rfl, hbr⟩

set_option maxRecDepth 100000 in
set_option maxHeartbeats 1000000 in
theorem sequence_none (al at_ : Option Addr) (nl nt cl ct : Nat) (h0 : nl = 0 ∨ nt = 0) (w : World) (hT : Tab w) :
    Calls Tryd.prog 6 #[.slice al nl cl, .slice at_ nt ct] w fun e w' => e = .returned (.bool true) ∧ Below w.heap.size w w' := by
  have hn1 : min (min (nl : Int) (nt : Int)) 20 = 0 := by omega
  have hi := int_any ⟨#[]⟩ 0 (by decide) (by decide)
  rw [show intO (List.drop 0 (ByteArray.mk #[]).data.toList) = none from rfl] at hi
  dsimp only [intV] at hi
  have HI := Lib.hid hi; clear hi h0
  go_enter Tryd.func6, Tryd.ntmps6
  go_wp2_with fail
  refine (sane_any _ hT).mono ?_
  rintro e w1 ⟨rfl, hb1⟩
  go_wp2_with fail
  go_loopw [7, 8] (fun sv iv wr => sv = .string ⟨#[]⟩ ∧ iv = .int .i64 0 ∧ Below w.heap.size w wr) (fun _ _ _ => 0)
  case atStart => exact ⟨rfl, rfl, hb1⟩
  case round =>
    obtain ⟨rfl, rfl, hbr⟩ := hrel
    go_wp2_with fail
    go_loopw [13, 14] (fun av iv wr => av = .int .i64 0 ∧ iv = .int .i64 0 ∧ Below w.heap.size w wr) (fun _ _ _ => 0)
    case atStart => exact ⟨rfl, rfl, hbr⟩
    case round =>
      obtain ⟨rfl, rfl, hbr⟩ := hrel
      go_wp2_with fail
      refine (HI.out _).mono ?_
      rintro e w4 ⟨rfl, rfl⟩
      go_wp2
      go_ret
      exact ⟨rfl, hbr⟩

theorem sequence_all (al at_ : Option Addr) (nl nt cl ct : Nat) (zs : List Int) (ss : List ByteArray) (hlm : nl ≤ maxLen) (htm : nt ≤ maxLen) (w : World) (hT : Tab w) (hr : ∀ i, (Lit.int .i64 (zs.getD i 0)).wf = true)
    (hl : nl = 0 ∨ ∃ b o, al = some ⟨b, o, none⟩ ∧ ∀ i, i < nl → w.cell? ⟨b, o + i, none⟩ = some (.int .i64 (zs.getD i 0)))
    (ht : nt = 0 ∨ ∃ b o, at_ = some ⟨b, o, none⟩ ∧ ∀ i, i < nt → w.cell? ⟨b, o + i, none⟩ = some (.string (ss.getD i ByteArray.empty))) :
    Calls Tryd.prog 6 #[.slice al nl cl, .slice at_ nt ct] w fun e w' => e = .returned (.bool true) ∧ Below w.heap.size w w' := by
  rcases Nat.eq_zero_or_pos nl with h0 | h0
  · exact sequence_none al at_ nl nt cl ct (.inl h0) w hT
  rcases Nat.eq_zero_or_pos nt with h1 | h1
  · exact sequence_none al at_ nl nt cl ct (.inr h1) w hT
  rcases hl with hl | ⟨bl, ol, rfl, hl⟩
  · omega
  rcases ht with ht | ⟨bt, ot, rfl, ht⟩
  · omega
  exact sequence_walk bl ol bt ot nl nt cl ct zs ss h0 h1 hlm htm w hT hl (fun i => by simpa [Lit.wf, IntKind.min, IntKind.max, IntKind.signed, IntKind.bits] using hr i) ht
end Go.Proofs.YtkpjdbfmcelddaaDoor
