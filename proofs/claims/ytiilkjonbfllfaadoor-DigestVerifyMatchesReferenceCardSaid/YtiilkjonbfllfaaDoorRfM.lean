/- The reference's digest on plain lists: the blocks one by one, the text that fills them, the bytes of a digest. -/
import Derived.Test.YtiilkjonbfllfaaDoorSumM
namespace Go.Proofs.YtiilkjonbfllfaaDoor
theorem chunks_snoc : ∀ (k : Nat) (l : List Nat), chunks (k + 1) l = chunks k l ++ [(l.drop (64 * k)).take 64]
  | 0, l => rfl
  | k + 1, l => by
    rw [chunks, chunks_snoc k (l.drop 64), chunks, List.drop_drop, show 64 + 64 * k = 64 * (k + 1) by omega]
    rfl
/-- The state behind the first k blocks. -/
def stK (b : List Nat) (k : Nat) : St := (chunks k (ext b)).foldl block init
theorem stK_step (b : List Nat) (k : Nat) : stK b (k + 1) = block (stK b k) (((ext b).drop (64 * k)).take 64) := by
  unfold stK; rw [chunks_snoc, List.foldl_append]; rfl
theorem stK_end (b : List Nat) : stK b ((ext b).length / 64) = shaSt b := rfl
theorem stK_ok (b : List Nat) (k : Nat) : (stK b k).ok := by
  cases k with
  | zero => exact init_ok
  | succ k => rw [stK_step]; exact ⟨Nat.mod_lt _ (by decide), Nat.mod_lt _ (by decide), Nat.mod_lt _ (by decide), Nat.mod_lt _ (by decide), Nat.mod_lt _ (by decide), Nat.mod_lt _ (by decide), Nat.mod_lt _ (by decide), Nat.mod_lt _ (by decide)⟩
theorem ext_lt (b : List Nat) (h : ∀ x ∈ b, x < 256) : ∀ x ∈ ext b, x < 256 := by
  intro x hx
  rw [ext_eq, List.mem_append] at hx
  rcases hx with hx | hx
  · exact h x hx
  · exact pad_lt _ x hx
theorem chunk_len (b : List Nat) (k : Nat) (h : 64 * k < (ext b).length) : (((ext b).drop (64 * k)).take 64).length = 64 := by
  obtain ⟨m, hm, _⟩ := ext_len64 b
  rw [List.length_take, List.length_drop]; omega
theorem chunk_at (b : List Nat) (k i : Nat) (hi : i < 64) : (((ext b).drop (64 * k)).take 64).getD i 0 = (ext b).getD (64 * k + i) 0 := by
  rw [List.getD_eq_getElem?_getD, List.getD_eq_getElem?_getD, List.getElem?_take, if_pos hi, List.getElem?_drop]
/-- The text with the byte 128, j zeros and the highest i bytes of its length in bits. -/
def exZ (b : List Nat) (j : Nat) : List Nat := b ++ 128 :: List.replicate j 0
def exL (b : List Nat) (i : Nat) : List Nat := exZ b ((119 - b.length % 64) % 64) ++ (List.range i).map fun i => 8 * b.length / 2 ^ (8 * (7 - i)) % 256
theorem exZ_length (b : List Nat) (j : Nat) : (exZ b j).length = b.length + 1 + j := by unfold exZ; simp; omega
theorem exZ_zero (b : List Nat) : exZ b 0 = b ++ [128] := rfl
theorem exZ_step (b : List Nat) (j : Nat) : exZ b (j + 1) = exZ b j ++ [0] := by
  unfold exZ; rw [List.replicate_succ', List.append_assoc]; rfl
theorem exL_zero (b : List Nat) : exL b 0 = exZ b ((119 - b.length % 64) % 64) := by simp [exL]
theorem exL_step (b : List Nat) (i : Nat) : exL b (i + 1) = exL b i ++ [8 * b.length / 2 ^ (8 * (7 - i)) % 256] := by
  unfold exL; rw [List.range_succ, List.map_append, List.append_assoc]; rfl
theorem exL_end (b : List Nat) : exL b 8 = ext b := by
  rw [ext_eq]; unfold exL exZ pad; simp
theorem exL_length (b : List Nat) (i : Nat) : (exL b i).length = b.length + 1 + (119 - b.length % 64) % 64 + i := by
  unfold exL; rw [List.length_append, exZ_length]; simp
/-- The bytes of the first k words. -/
def digK (s : St) (k : Nat) : List Nat := (List.range (4 * k)).map (digB s)
theorem digK_step (s : St) (k : Nat) : digK s (k + 1) = digK s k ++ [s.l.getD k 0 / 16777216 % 256, s.l.getD k 0 / 65536 % 256, s.l.getD k 0 / 256 % 256, s.l.getD k 0 % 256] := by
  unfold digK
  rw [show 4 * (k + 1) = 4 * k + 1 + 1 + 1 + 1 by omega, List.range_succ, List.range_succ, List.range_succ, List.range_succ]
  have e0 : 4 * k / 4 = k := by omega
  have e1 : (4 * k + 1) / 4 = k := by omega
  have e2 : (4 * k + 1 + 1) / 4 = k := by omega
  have e3 : (4 * k + 1 + 1 + 1) / 4 = k := by omega
  have m0 : 4 * k % 4 = 0 := by omega
  have m1 : (4 * k + 1) % 4 = 1 := by omega
  have m2 : (4 * k + 1 + 1) % 4 = 2 := by omega
  have m3 : (4 * k + 1 + 1 + 1) % 4 = 3 := by omega
  simp only [List.map_append, List.map_cons, List.map_nil, digB, e0, e1, e2, e3, m0, m1, m2, m3, List.append_assoc, List.cons_append, List.nil_append]
  simp
theorem digK_end (s : St) : digK s 8 = digL s := rfl
theorem beW_or (b0 b1 b2 b3 : Nat) (h1 : b1 < 256) (h2 : b2 < 256) (h3 : b3 < 256) (_h0 : b0 < 256) :
    ((b0 * 16777216 ||| b1 * 65536) ||| b2 * 256) ||| b3 = b0 * 16777216 + b1 * 65536 + b2 * 256 + b3 := by
  have e1 := Nat.two_pow_add_eq_or_of_lt (i := 24) (b := b1 * 65536) (by omega) b0
  have e2 := Nat.two_pow_add_eq_or_of_lt (i := 16) (b := b2 * 256) (by omega) (b0 * 256 + b1)
  have e3 := Nat.two_pow_add_eq_or_of_lt (i := 8) (b := b3) (by omega) (b0 * 65536 + b1 * 256 + b2)
  rw [show b0 * 16777216 = 2 ^ 24 * b0 by omega, ← e1, show 2 ^ 24 * b0 + b1 * 65536 = 2 ^ 16 * (b0 * 256 + b1) by omega, ← e2, show 2 ^ 16 * (b0 * 256 + b1) + b2 * 256 = 2 ^ 8 * (b0 * 65536 + b1 * 256 + b2) by omega, ← e3]
theorem words16_step (b : List Nat) (i : Nat) : (List.range (i + 1)).map (beW b) = (List.range i).map (beW b) ++ [beW b i] := by
  rw [List.range_succ, List.map_append]; rfl
theorem wext_at (n : Nat) (l : List Nat) : wext (n + 1) l = wext n l ++ [wnext (wext n l) (16 + n)] := rfl
end Go.Proofs.YtiilkjonbfllfaaDoor
