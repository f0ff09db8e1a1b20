/- Lists of integers in memory: what a slice reads as. -/
import Derived.Test.YtebjjgbdiabapaaGreatDoorMth
import Derived.WalkKit
import Derived.OwnWalk
import Derived.Laws.OwnMore
namespace Go.Proofs.YtebjjgbdiabapaaGreatDoor
open Go.RowKit

/-- The slice v reads as the list zs. -/
def Ls (w : World) (v : Value) (zs : List Int) : Prop :=
  (v = .slice none 0 0 ∧ zs = []) ∨ ∃ b o c, v = .slice (some ⟨b, o, none⟩) zs.length c ∧ zs.length ≤ c ∧ b < w.heap.size ∧ ∀ i, i < zs.length → w.cell? ⟨b, o + i, none⟩ = some (.int .i64 (zs[i]?.getD 0))
/-- The slice v reads as the number n in groups of four digits. -/
def Nt (w : World) (v : Value) (n : Nat) : Prop := Ls w v (dz 10000 n)

theorem Ls.nil (w : World) : Ls w (.slice none 0 0) [] := .inl ⟨rfl, rfl⟩
theorem Nt.zero (w : World) : Nt w (.slice none 0 0) 0 := by unfold Nt; rw [dz_zero]; exact Ls.nil w
theorem Ls.below {B : Nat} {w w' : World} {v : Value} {zs : List Int} (h : Ls w v zs) (hB : w.heap.size ≤ B) (hb : Below B w w') : Ls w' v zs := by
  rcases h with h | ⟨b, o, c, hv, hc, hlt, hcell⟩
  · exact .inl h
  · have := hb.size
    exact .inr ⟨b, o, c, hv, hc, by omega, fun i hi => (hb.cell (p := ⟨b, o + i, none⟩) (show b < B by omega)).trans (hcell i hi)⟩
theorem Nt.below {B : Nat} {w w' : World} {v : Value} {n : Nat} (h : Nt w v n) (hB : w.heap.size ≤ B) (hb : Below B w w') : Nt w' v n := Ls.below h hB hb
theorem Ls.own {w : World} {base : Nat} {e : TypeId} {v : Value} {n : Nat} {xs : List Value} (h : w.ownsRow base e 1 v n xs) (zs : List Int) (hx : xs = zs.map (Value.int .i64)) : Ls w v zs := by
  subst hx
  have h1 := h.1
  rw [List.length_map, Nat.mul_one] at h1
  subst h1
  rcases h.2 with ⟨rfl, h2⟩ | ⟨g, cap, cur, rfl, hb, hg, hc, hm, hcs, ht⟩
  · left
    exact ⟨rfl, by simpa using h2⟩
  · right
    refine ⟨g, 0, cap, rfl, hc, (Array.getElem?_eq_some_iff.1 hg).1, fun i hi => ?_⟩
    rw [Nat.zero_add, h.cellAt i (by omega), List.getElem?_map, List.getElem?_eq_getElem hi]
    rfl
theorem ownNone {w : World} {base : Nat} {e : TypeId} {size : Nat} {v : Value} {n : Nat} {xs : List Value} (h : w.ownsRow base e size v n xs) : ∀ k, v.ownBlock = some k → base ≤ k := by
  intro k hk
  rcases h.2 with ⟨rfl, _⟩ | ⟨g, cap, cur, rfl, hb, _⟩
  · simp [Value.ownBlock] at hk
  · simp [Value.ownBlock] at hk
    omega
/-- The same elements, one of them set. -/
def setZ (zs : List Int) (i : Nat) (z : Int) : List Int := zs.set i z
theorem map_set (zs : List Int) (i : Nat) (z : Int) : (zs.map (Value.int .i64)).set i (.int .i64 z) = (zs.set i z).map (Value.int .i64) := by rw [List.map_set]

/-- Two lists put together, element by element; what the longer one has besides stays. -/
def zipL (f : Int → Int → Int) : List Int → List Int → List Int
  | a :: x, c :: y => f a c :: zipL f x y
  | x, [] => x
  | [], _ => []
theorem zipL_nil (f : Int → Int → Int) (x : List Int) : zipL f x [] = x := by cases x <;> rfl
theorem zipL_length (f : Int → Int → Int) : ∀ x y : List Int, (zipL f x y).length = x.length
  | a :: x, c :: y => by simp [zipL, zipL_length f x y]
  | [], [] => rfl
  | _ :: _, [] => rfl
  | [], _ :: _ => rfl
theorem zipL_get (f : Int → Int → Int) : ∀ (x y : List Int) (i : Nat), y.length ≤ x.length → (zipL f x y)[i]?.getD 0 = if i < y.length then f (x[i]?.getD 0) (y[i]?.getD 0) else x[i]?.getD 0
  | a :: x, c :: y, 0, _ => by simp [zipL]
  | a :: x, c :: y, i + 1, h => by simpa [zipL] using zipL_get f x y i (by simpa using h)
  | [], [], i, _ => by simp [zipL]
  | _ :: _, [], i, _ => by simp [zipL]
  | [], _ :: _, i, h => by simp at h
theorem zipL_take (f : Int → Int → Int) : ∀ (x y : List Int) (k : Nat), y.length ≤ x.length → k < y.length → zipL f x (y.take (k + 1)) = (zipL f x (y.take k)).set k (f (x[k]?.getD 0) (y[k]?.getD 0))
  | a :: x, c :: y, 0, _, _ => by simp [zipL, zipL_nil]
  | a :: x, c :: y, k + 1, h, hk => by
    rw [List.take_succ_cons, List.take_succ_cons, zipL, zipL, zipL_take f x y k (by simpa using h) (by simpa using hk)]
    simp
  | [], [], _, _, hk => by simp at hk
  | _ :: _, [], _, _, hk => by simp at hk
  | [], _ :: _, _, h, _ => by simp at h
theorem vz_add (b : Int) : ∀ x y : List Int, y.length ≤ x.length → vz b (zipL (· + ·) x y) = vz b x + vz b y
  | a :: x, c :: y, h => by
    have ih := vz_add b x y (by simpa using h)
    rw [zipL, vz, vz, vz, ih, Int.mul_add]; omega
  | [], [], _ => by simp [zipL, vz]
  | _ :: _, [], _ => by simp [zipL, vz]
  | [], _ :: _, h => by simp at h
theorem vz_sub (b : Int) : ∀ x y : List Int, y.length ≤ x.length → vz b (zipL (· - ·) x y) = vz b x - vz b y
  | a :: x, c :: y, h => by
    have ih := vz_sub b x y (by simpa using h)
    rw [zipL, vz, vz, vz, ih, Int.mul_sub]; omega
  | [], [], _ => by simp [zipL, vz]
  | _ :: _, [], _ => by simp [zipL, vz]
  | [], _ :: _, h => by simp at h
theorem vz_scale (b k : Int) : ∀ x : List Int, vz b (x.map (· * k)) = vz b x * k
  | [] => by simp [vz]
  | a :: x => by rw [List.map_cons, vz, vz, vz_scale b k x, Int.add_mul, Int.mul_assoc]
theorem zipL_mem (f : Int → Int → Int) (p : Int → Prop) : ∀ x y : List Int, (∀ a ∈ x, p a) → (∀ a ∈ x, ∀ c ∈ y, p (f a c)) → ∀ z ∈ zipL f x y, p z
  | a :: x, c :: y, h1, h2, z, hz => by
    rw [zipL, List.mem_cons] at hz
    rcases hz with rfl | hz
    · exact h2 a (List.mem_cons_self ..) c (List.mem_cons_self ..)
    · exact zipL_mem f p x y (fun d hd => h1 d (List.mem_cons_of_mem _ hd)) (fun d hd e he => h2 d (List.mem_cons_of_mem _ hd) e (List.mem_cons_of_mem _ he)) z hz
  | [], [], _, _, z, hz => by simp [zipL] at hz
  | _ :: _, [], h1, _, z, hz => h1 z hz
  | [], _ :: _, _, _, z, hz => by simp [zipL] at hz
end Go.Proofs.YtebjjgbdiabapaaGreatDoor
