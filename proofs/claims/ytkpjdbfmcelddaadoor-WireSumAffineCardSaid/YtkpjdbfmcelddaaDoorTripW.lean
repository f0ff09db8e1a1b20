/- The walk of WireRoundTrip. -/
import Derived.Test.YtkpjdbfmcelddaaDoorSane
import Derived.Test.YtkpjdbfmcelddaaDoorEncM
namespace Go.Proofs.YtkpjdbfmcelddaaDoor
open Go.RowKit

/-- The least of a length and a bound, as the walk meets it. -/
theorem min_len (n : Nat) (b : Int) (hb : 0 ≤ b) : ∃ k : Nat, min (n : Int) b = (k : Int) ∧ (k : Int) ≤ b ∧ k ≤ n := ⟨min n b.toNat, by omega, by omega, by omega⟩

theorem list_append3 (x y z : ByteArray) : (x ++ y ++ z).data.toList = x.data.toList ++ (y.data.toList ++ z.data.toList) := by simp

/-- What Int and String return at an encoding that stands between two texts. -/
theorem int_between (p q : ByteArray) (m : Int) (h1 : -4611686018427387903 ≤ m) (h2 : m ≤ 4611686018427387903) (hs : p.size + q.size ≤ 100000) (k : Nat) (hk : p.size = k) (w : World) :
    Calls Tryd.prog 15 #[.string (p ++ ⟨(enc (zig m)).toArray⟩ ++ q), .int .i64 k] w fun e w' => e = .returned (.tuple #[.int .i64 m, .int .i64 (k + (enc (zig m)).length : Nat), .int .i64 0]) ∧ w' = w := by
  have el := enc_length (zig m)
  have hz : (p ++ (⟨(enc (zig m)).toArray⟩ : ByteArray) ++ q).size = k + (enc (zig m)).length + q.size := by
    rw [ByteArray.size_append, ByteArray.size_append, hk]; rfl
  have h := int_any (p ++ ⟨(enc (zig m)).toArray⟩ ++ q) k (by unfold maxLen; omega) (by omega) w
  rw [list_append3, List.drop_append_of_le_length (by rw [← size_list]; omega), List.drop_eq_nil_of_le (by rw [← size_list]; omega), List.nil_append] at h
  rw [show (ByteArray.mk (enc (zig m)).toArray).data.toList = enc (zig m) from rfl, intO_enc m h1 h2] at h
  exact h
theorem str_between (p q t : ByteArray) (hs : p.size + q.size + t.size ≤ 65000) (k n : Nat) (hk : p.size = k) (hn : t.size = n) (w : World) :
    Calls Tryd.prog 17 #[.string (p ++ (⟨(enc (2 * n)).toArray⟩ ++ t) ++ q), .int .i64 k] w fun e w' => e = .returned (.tuple #[.string t, .int .i64 (k + ((enc (2 * n)).length + n) : Nat), .int .i64 0]) ∧ Below w.heap.size w w' := by
  have el := enc_length (2 * n)
  have hz : (p ++ ((⟨(enc (2 * n)).toArray⟩ : ByteArray) ++ t) ++ q).size = k + ((enc (2 * n)).length + n) + q.size := by
    rw [ByteArray.size_append, ByteArray.size_append, ByteArray.size_append, hk, hn]; rfl
  have hd : (p ++ ((⟨(enc (2 * n)).toArray⟩ : ByteArray) ++ t) ++ q).data.toList.drop k = enc (2 * n) ++ (t.data.toList ++ q.data.toList) := by
    rw [list_append3, List.drop_append_of_le_length (by rw [← size_list]; omega), List.drop_eq_nil_of_le (by rw [← size_list]; omega), List.nil_append]
    simp
  have h := string_any (p ++ (⟨(enc (2 * n)).toArray⟩ ++ t) ++ q) k (by unfold maxLen; omega) (by omega) w
  have hzig : zig (n : Int) = 2 * n := by unfold zig; rw [if_neg (by omega)]; omega
  have hi := intO_enc (n : Int) (by omega) (by omega) (t.data.toList ++ q.data.toList)
  rw [hzig] at hi
  have ho : strO (enc (2 * n) ++ (t.data.toList ++ q.data.toList)) = some ((enc (2 * n)).length, (enc (2 * n)).length + n) := by
    unfold strO
    rw [hi]
    simp only [List.length_append, ← size_list]
    rw [if_pos ⟨by omega, by omega, by omega⟩]; simp
  rw [hd, ho] at h
  have hx : (p ++ ((⟨(enc (2 * n)).toArray⟩ : ByteArray) ++ t) ++ q).extract (k + (enc (2 * n)).length) (k + ((enc (2 * n)).length + n)) = t := by
    apply ByteArray.ext
    apply Array.toList_inj.1
    rw [Lib.extract_data, ← List.drop_drop, hd, show k + ((enc (2 * n)).length + n) - (k + (enc (2 * n)).length) = n from by omega, List.drop_left, List.take_left' hn]
  unfold strV at h
  dsimp only at h
  rw [hx] at h
  exact h

set_option maxRecDepth 100000 in
set_option maxHeartbeats 2000000 in
theorem roundTrip_walk (c : Int) (h1 : -9223372036854775808 ≤ c) (h2 : c ≤ 9223372036854775807) (t p q : ByteArray) (w : World) (hT : Tab w) :
    Calls Tryd.prog 4 #[.int .i64 c, .string t, .agg #[.string p, .string q]] w fun e w' => e = .returned (.bool true) ∧ Below w.heap.size w w' := by
  obtain ⟨kt, ht1, ht2, ht3⟩ := min_len t.size 200 (by decide)
  obtain ⟨kp, hp1, hp2, hp3⟩ := min_len p.size 200 (by decide)
  obtain ⟨kq, hq1, hq2, hq3⟩ := min_len q.size 200 (by decide)
  have sp : (p.extract 0 kp).size = kp := by rw [ByteArray.size_extract]; omega
  have sq : (q.extract 0 kq).size = kq := by rw [ByteArray.size_extract]; omega
  have st : (t.extract 0 kt).size = kt := by rw [ByteArray.size_extract]; omega
  have nr := numF_range c
  have el := enc_length (zig (numF c))
  have el2 := enc_length (2 * kt)
  go_enter Tryd.func4, Tryd.ntmps4
  go_wp2_with fail
  refine (sane_any _ (hT.below ((Below.refl w.heap.size w).alloc (Nat.le_refl _) _) hT.1)).mono ?_
  rintro e w1 ⟨rfl, hb1⟩
  go_wp2_with fail
  refine (numberFrom_any c h1 h2 _).mono ?_
  rintro e w2 ⟨rfl, hb2⟩
  have hb2' : Below w.heap.size w w2 := bstep (bstep ((Below.refl w.heap.size w).alloc (Nat.le_refl _) _) hb1) hb2
  have hz1 := hb1.size
  simp only [World.size_alloc] at hz1
  have cc : ∀ j, w2.cell? ⟨w.heap.size, j, none⟩ = (w.alloc (.cells #[.string p, .string q] 36)).cell? ⟨w.heap.size, j, none⟩ := fun j => (hb2.cell (p := ⟨w.heap.size, j, none⟩) (by simp; omega)).trans (hb1.cell (p := ⟨w.heap.size, j, none⟩) (by simp))
  have c0 : w2.cell? ⟨w.heap.size, 0, none⟩ = some (.string p) := by rw [cc]; simp
  have c1 : w2.cell? ⟨w.heap.size, 1, none⟩ = some (.string q) := by rw [cc]; simp
  clear cc
  go_wp2_with fail
  refine (putInt_ok _ (by omega) (by omega) _).mono ?_
  rintro e w3 ⟨rfl, hb3⟩
  have hb3' := bstep hb2' hb3
  go_wp2_with fail
  refine (putString_ok (t.extract 0 kt) (by rw [st]; omega) _).mono ?_
  rw [st]
  rintro e w4 ⟨rfl, hb4⟩
  have hb4' := bstep hb3' hb4
  go_wp2_with fail
  refine (int_between _ _ (numF c) (by omega) (by omega) (by rw [sp, sq]; omega) kp sp _).mono ?_
  rintro e w5 ⟨rfl, rfl⟩
  go_wp2_with fail
  refine (str_between _ _ _ (by rw [sp, sq, st]; omega) kp kt sp st _).mono ?_
  rintro e w6 ⟨rfl, hb6⟩
  have hb6' := bstep hb4' hb6
  go_wp2
  go_ret
  exact ⟨rfl, hb6'⟩
end Go.Proofs.YtkpjdbfmcelddaaDoor
