/- A text's blocks, one by one, as plain lists. -/
import Derived.Test.YtiilkjonbfllfaaDoorShaM
namespace Go.Proofs.YtiilkjonbfllfaaDoor
theorem chunks_flatten : ∀ (ys : List (List Nat)), (∀ y ∈ ys, y.length = 64) → chunks ys.length ys.flatten = ys
  | [], _ => rfl
  | x :: ys, h => by
    have hx := h x (List.mem_cons_self ..)
    rw [List.length_cons, chunks, List.flatten_cons, List.drop_left' hx, List.take_left' hx, chunks_flatten ys fun y hy => h y (List.mem_cons_of_mem _ hy)]
theorem flatten_len : ∀ (ys : List (List Nat)), (∀ y ∈ ys, y.length = 64) → ys.flatten.length = 64 * ys.length
  | [], _ => rfl
  | x :: ys, h => by
    rw [List.flatten_cons, List.length_append, flatten_len ys fun y hy => h y (List.mem_cons_of_mem _ hy), h x (List.mem_cons_self ..), List.length_cons]; omega
theorem shaSt_eq (b : List Nat) : shaSt b = (chunks ((ext b).length / 64) (ext b)).foldl block init := by unfold shaSt; rfl
theorem shaSt_fold (b : List Nat) (ys : List (List Nat)) (h64 : ∀ y ∈ ys, y.length = 64) (h : ys.flatten = ext b) : ys.foldl block init = shaSt b := by
  have hl : (ext b).length / 64 = ys.length := by rw [← h, flatten_len ys h64, Nat.mul_div_cancel_left _ (by decide)]
  rw [shaSt_eq, hl, ← h, chunks_flatten ys h64]
theorem pad_lt (n : Nat) : ∀ x ∈ pad n, x < 256 := by
  intro x hx
  simp only [pad, List.cons_append, List.mem_cons, List.mem_append, List.mem_replicate, List.mem_map] at hx
  rcases hx with rfl | ⟨_, rfl⟩ | ⟨i, _, rfl⟩
  · decide
  · decide
  · exact Nat.mod_lt _ (by decide)
theorem pad_length (n : Nat) : (pad n).length = 1 + (119 - n % 64) % 64 + 8 := by simp [pad]; omega
theorem ext_len64 (b : List Nat) : ∃ k, (ext b).length = 64 * k ∧ (ext b).length ≤ b.length + 72 := by
  have e : (ext b).length = b.length + (1 + (119 - b.length % 64) % 64 + 8) := by rw [show ext b = b ++ pad b.length from rfl, List.length_append, pad_length]
  exact ⟨(b.length + 72) / 64, by omega, by omega⟩
theorem ext_eq (b : List Nat) : ext b = b ++ pad b.length := rfl
theorem sha_eq (b : List Nat) : sha b = digL (shaSt b) := rfl
end Go.Proofs.YtiilkjonbfllfaaDoor
