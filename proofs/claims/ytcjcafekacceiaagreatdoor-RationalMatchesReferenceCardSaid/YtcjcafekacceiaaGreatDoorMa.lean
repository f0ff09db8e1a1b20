/- What the walk of RationalMatchesReference rests on. -/
import Derived.Test.YtcjcafekacceiaaGreatDoorRk
import Derived.Test.YtcjcafekacceiaaGreatDoorCt
import Derived.Test.YtcjcafekacceiaaGreatDoorFr
import Derived.Test.YtcjcafekacceiaaGreatDoorLg
import Derived.Test.YtcjcafekacceiaaGreatDoorEq
namespace Go.Proofs.YtcjcafekacceiaaGreatDoor
open Go.RowKit
set_option linter.unusedVariables false

def Sz (p : Pr) : Prop := p.1.size ≤ 9223372036854775807 ∧ p.2.size ≤ 9223372036854775807
/-- A fraction, its texts of some sizes. -/
def SzOut (w : World) (e : Ending) (w' : World) : Prop := ∃ a b : ByteArray, Sz (a, b) ∧ e = .returned (.agg #[.string a, .string b]) ∧ Below w.heap.size w w'
theorem sz_fr {w : World} {k : Nat} (hk : k ≤ 199) {e : Ending} {w' : World} (h : FrOut w k e w') : SzOut w e w' := by
  obtain ⟨q, h1, h2, he, hb⟩ := h
  have h3 : (10 : Nat) ^ k < 10 ^ 200 := Nat.pow_lt_pow_right (by decide) (by omega)
  refine ⟨_, _, ⟨str_size (Nat.lt_trans h1 h3), str_size ?_⟩, he, hb⟩
  show ((q.den : Int)).natAbs < _
  rw [Int.natAbs_natCast]
  exact Nat.lt_trans h2 h3
/-- What two fractions make, in the program and in the reference. -/
structure MaP (w : World) (pa pb qa qb n1 d1 n2 d2 n3 d3 n4 d4 : ByteArray) (e1 e2 e3 e4 z : Int) : Prop where
  f : ∀ W, Below w.heap.size w W → Calls Tryz.prog 15 #[.agg #[.string pa, .string pb], .agg #[.string qa, .string qb]] W (FRes W n1 d1 n2 d2 n3 d3 n4 d4 e1 e2 e3 e4)
  a : ∀ W, Calls Tryz.prog 16 #[.agg #[.string pa, .string pb], .agg #[.string qa, .string qb]] W (QRes W n1 d1 e1)
  s : ∀ W, Calls Tryz.prog 17 #[.agg #[.string pa, .string pb], .agg #[.string qa, .string qb]] W (QRes W n2 d2 e2)
  m : ∀ W, Calls Tryz.prog 18 #[.agg #[.string pa, .string pb], .agg #[.string qa, .string qb]] W (QRes W n3 d3 e3)
  d : ∀ W, Calls Tryz.prog 19 #[.agg #[.string pa, .string pb], .agg #[.string qa, .string qb]] W (QRes W n4 d4 e4)
  c : ∀ W, Below w.heap.size w W → Calls Tryz.prog 20 #[.agg #[.string pa, .string pb], .agg #[.string qa, .string qb]] W (IntOut W z)
  rc : ∀ W, Calls Tryz.prog 21 #[.agg #[.string pa, .string pb], .agg #[.string qa, .string qb]] W (IntOut W z)
theorem ma_pair {w : World} (ht : ∀ W, Below w.heap.size w W → Tb W) (p q : Pr) (hp : Sz p) (hq : Sz q) : ∃ n1 d1 n2 d2 n3 d3 n4 d4 e1 e2 e3 e4 z, MaP w p.1 p.2 q.1 q.2 n1 d1 n2 d2 n3 d3 n4 d4 e1 e2 e3 e4 z :=
  ⟨_, _, _, _, _, _, _, _, _, _, _, _, _,
    fun W hW => four_any p q _ _ _ _ W (fun V hV => qadds_any p q V hp hq (ht V (below1 hW hV))) (fun V hV => qsubs_any p q V hp hq (ht V (below1 hW hV))) (fun V hV => qmul_any p q V hp hq (ht V (below1 hW hV))) (fun V hV => qdiv_any p q V hp hq (ht V (below1 hW hV))),
    fun W => rqadd_any p q W hp hq, fun W => rqsub_any p q W hp hq, fun W => rqmul_any p q W hp hq, fun W => rqdiv_any p q W hp hq,
    fun W hW => qcmp_pr p q W hp hq (ht W hW), fun W => rqcmp_any p q W hp hq⟩
/-- What rounding makes of a fraction. -/
structure MaR (w : World) (pa pb : ByteArray) (n : Int) (n1 d1 n2 d2 : ByteArray) (e1 e2 : Int) : Prop where
  d : ∀ W, Below w.heap.size w W → Calls Tryz.prog 23 #[.agg #[.string pa, .string pb], .int .i64 n] W (QRes W n1 d1 e1)
  rd : ∀ W, Calls Tryz.prog 24 #[.agg #[.string pa, .string pb], .int .i64 n] W (QRes W n1 d1 e1)
  u : ∀ W, Below w.heap.size w W → Calls Tryz.prog 25 #[.agg #[.string pa, .string pb], .int .i64 n] W (QRes W n2 d2 e2)
  ru : ∀ W, Calls Tryz.prog 26 #[.agg #[.string pa, .string pb], .int .i64 n] W (QRes W n2 d2 e2)
theorem ma_round {w : World} (ht : ∀ W, Below w.heap.size w W → Tb W) (p : Pr) (hp : Sz p) (n : Int) : ∃ n1 d1 n2 d2 e1 e2, MaR w p.1 p.2 n n1 d1 n2 d2 e1 e2 :=
  ⟨_, _, _, _, _, _, fun W hW => qdown_any p n W hp (ht W hW), fun W => rqdown_any p n W hp, fun W hW => qup_any p n W hp (ht W hW), fun W => rqup_any p n W hp⟩
/-- What is made of two texts, and whether a fraction is valid. -/
structure MaM (w : World) (pa pb ya : ByteArray) (n1 d1 : ByteArray) (e1 : Int) (v : Bool) : Prop where
  m : ∀ W, Below w.heap.size w W → Calls Tryz.prog 27 #[.string pa, .string ya] W (QRes W n1 d1 e1)
  rm : ∀ W, Calls Tryz.prog 28 #[.string pa, .string ya] W (QRes W n1 d1 e1)
  av : ∀ W, Below w.heap.size w W → Calls Tryz.prog 29 #[.agg #[.string pa, .string pb]] W (BOut W v)
  rv : ∀ W, Calls Tryz.prog 30 #[.agg #[.string pa, .string pb]] W (BOut W v)
theorem ma_make {w : World} (ht : ∀ W, Below w.heap.size w W → Tb W) (p q : Pr) (hp : Sz p) (hq : Sz q) : ∃ n1 d1 e1 v, MaM w p.1 p.2 q.2 n1 d1 e1 v :=
  ⟨_, _, _, _, fun W hW => make_any p.1 q.2 W hp.1 hq.2 (ht W hW), fun W => rmake_any p.1 q.2 W hp.1 hq.2, fun W hW => qvalid_any p.1 p.2 W hp.1 hp.2 (ht W hW), fun W => rqvalid_any p.1 p.2 W hp.1 hp.2⟩
structure MaO (w : World) (n d : Int) (n1 d1 : ByteArray) (e1 : Int) : Prop where
  o : ∀ W, Below w.heap.size w W → Calls Tryz.prog 31 #[.int .i64 n, .int .i64 d] W (QRes W n1 d1 e1)
  ro : ∀ W, Calls Tryz.prog 32 #[.int .i64 n, .int .i64 d] W (QRes W n1 d1 e1)
theorem ma_of {w : World} (ht : ∀ W, Below w.heap.size w W → Tb W) (n d : Int) (hn : -9223372036854775808 ≤ n ∧ n ≤ 9223372036854775807) (hd : -9223372036854775808 ≤ d ∧ d ≤ 9223372036854775807) : ∃ n1 d1 e1, MaO w n d n1 d1 e1 :=
  ⟨_, _, _, fun W hW => of_any n d hn.1 hn.2 hd.1 hd.2 W (ht W hW), fun W => rof_any n d hn.1 hn.2 hd.1 hd.2 W⟩
theorem set_cells {W : World} {B : Nat} {cs : Array Value} {T : TypeId} (h : W.heap[B]? = some (.cells cs T)) (o : Nat) (v : Value) {cs' : Array Value} (hcs : cs.setIfInBounds o v = cs') : (W.setCell ⟨B, o, none⟩ v).heap[B]? = some (.cells cs' T) := by
  subst hcs
  have hlt : B < W.heap.size := (Array.getElem?_eq_some_iff.1 h).1
  simp [World.setCell, Array.getElem?_modify, h]
/-- The five fractions, as they lie in their row. -/
def Sl5 (V : World) (c1 c2 c3 c4 : ByteArray) (sv : Value) (wx : World) : Prop :=
  ∃ g, sv = .slice (some ⟨g, 0, none⟩) 5 5 ∧ V.heap.size ≤ g ∧ Below V.heap.size V wx ∧
    ∃ T a1 b1 a2 b2 a3 b3, wx.heap[g]? = some (.cells #[.string c1, .string c2, .string c3, .string c4, .string a1, .string b1, .string a2, .string b2, .string a3, .string b3] T) ∧ Sz (a1, b1) ∧ Sz (a2, b2) ∧ Sz (a3, b3)
theorem sl5_at {V wx : World} {c1 c2 c3 c4 : ByteArray} {sv : Value} (h : Sl5 V c1 c2 c3 c4 sv wx) (h1 : Sz (c1, c2)) (h2 : Sz (c3, c4)) :
    ∃ g, sv = .slice (some ⟨g, 0, none⟩) 5 5 ∧ V.heap.size ≤ g ∧ Below V.heap.size V wx ∧ (∀ i, i < 5 → ∃ p : Pr, Sz p ∧ ∀ W, Below wx.heap.size wx W → W.cell? ⟨g, i * 2, none⟩ = some (.string p.1) ∧ W.cell? ⟨g, i * 2 + 1, none⟩ = some (.string p.2)) ∧
      (∀ W, Below wx.heap.size wx W → W.cell? ⟨g, 1, none⟩ = some (.string c2)) := by
  obtain ⟨g, hs, hg, hb, T, a1, b1, a2, b2, a3, b3, hh, z1, z2, z3⟩ := h
  refine ⟨g, hs, hg, hb, fun i hi => ?_, fun W hW => cell_at (bl_up hh hW) 1⟩
  have : i = 0 ∨ i = 1 ∨ i = 2 ∨ i = 3 ∨ i = 4 := by omega
  rcases this with rfl | rfl | rfl | rfl | rfl
  · exact ⟨(c1, c2), h1, fun W hW => ⟨cell_at (bl_up hh hW) 0, cell_at (bl_up hh hW) 1⟩⟩
  · exact ⟨(c3, c4), h2, fun W hW => ⟨cell_at (bl_up hh hW) 2, cell_at (bl_up hh hW) 3⟩⟩
  · exact ⟨(a1, b1), z1, fun W hW => ⟨cell_at (bl_up hh hW) 4, cell_at (bl_up hh hW) 5⟩⟩
  · exact ⟨(a2, b2), z2, fun W hW => ⟨cell_at (bl_up hh hW) 6, cell_at (bl_up hh hW) 7⟩⟩
  · exact ⟨(a3, b3), z3, fun W hW => ⟨cell_at (bl_up hh hW) 8, cell_at (bl_up hh hW) 9⟩⟩
/-- A drawn region, its post a letter: a great post is looked into once. -/
theorem held_open {P : Program} {id : Nat} {ops : Array Oper} {b : Bool} {Q : Exit → Act → World → Prop} {a : Act} {w : World}
    (h : ∀ Q' : Exit → Act → World → Prop, Hid (∀ a w, Q .normal a w → Q' .normal a w) → (Code.region id ops b).wp P Q' a w) : (Code.region id ops b).wp P Q a w :=
  wp_region_noPanic (h (NoPanic Q) (Lib.hid fun _ _ hq => hq))
def Mai (n : Nat) (iv : Value) : Prop := ∃ k : Nat, k ≤ n ∧ iv = .int .i64 k
end Go.Proofs.YtcjcafekacceiaaGreatDoor
