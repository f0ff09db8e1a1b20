/- The steps that build takes: set and what it makes, walked. -/
import Derived.Deep.RegionHeld3
import Derived.Test.YtcjcafekacceiaaGreatDoorVa
namespace Go.Proofs.YtcjcafekacceiaaGreatDoor
open Go.RowKit
set_option linter.unusedSimpArgs false

/-- W' differs from W in the blocks of D alone. -/
def KD (D : Nat → Prop) (W W' : World) : Prop := W.heap.size ≤ W'.heap.size ∧ ∀ k, k < W.heap.size → ¬ D k → W'.heap[k]? = W.heap[k]?
theorem KD.refl (D : Nat → Prop) (W : World) : KD D W W := ⟨Nat.le_refl _, fun _ _ _ => rfl⟩
theorem KD.trans {D : Nat → Prop} {A B C : World} (h : KD D A B) (k : KD D B C) : KD D A C :=
  ⟨Nat.le_trans h.1 k.1, fun x hx hd => (k.2 x (Nat.lt_of_lt_of_le hx h.1) hd).trans (h.2 x hx hd)⟩
theorem KD.of_below {D : Nat → Prop} {W W' : World} (h : Below W.heap.size W W') : KD D W W' := ⟨h.size, fun k hk _ => h.block k hk⟩
theorem KD.set {D : Nat → Prop} (W : World) (p : Addr) (v : Value) (h : D p.block) : KD D W (W.setCell p v) :=
  ⟨by simp, fun k _ hd => Below.heap_setCell _ _ _ _ (fun e => hd (e ▸ h))⟩
theorem KD.weak {D E : Nat → Prop} {W W' : World} (h : KD D W W') (hde : ∀ k, k < W.heap.size → D k → E k) : KD E W W' := ⟨h.1, fun k hk he => h.2 k hk (fun hd => he (hde k hk hd))⟩
theorem KD.cell {D : Nat → Prop} {W W' : World} (h : KD D W W') {p : Addr} {v : Value} (hp : ¬ D p.block) (hc : W.cell? p = some v) : W'.cell? p = some v :=
  (World.cell?_of_block (w := W) (h.2 p.block (World.block_lt_of_cell? W p hc) hp)).trans hc
theorem KD.block {D : Nat → Prop} {W W' : World} (h : KD D W W') {b : Nat} {o : Obj} (hp : ¬ D b) (hc : W.heap[b]? = some o) : W'.heap[b]? = some o :=
  (h.2 b (Array.getElem?_eq_some_iff.1 hc).1 hp).trans hc

/-- A closure's value: its function, and what it captured. -/
abbrev fV2 (c : Nat × Array Value) : Value := .func (.func c.1) #[] c.2
/-- The closure that set makes, with what it captured. -/
def SetC (D : Nat → Prop) (W : World) (c : Nat × Array Value) (k zb zo xb xo yb yo : Nat) : Prop :=
  ∃ Ba Bx By Bz : Nat, c = (100, #[.pointer (some ⟨Ba, 0, none⟩), .pointer (some ⟨Bx, 0, none⟩), .pointer (some ⟨By, 0, none⟩), .pointer (some ⟨Bz, 0, none⟩)]) ∧
    (¬ D Ba ∧ ¬ D Bx ∧ ¬ D By ∧ ¬ D Bz) ∧ W.cell? ⟨Ba, 0, none⟩ = some (.func (.func k) #[] #[]) ∧ W.cell? ⟨Bx, 0, none⟩ = some (.pointer (some ⟨xb, xo, none⟩)) ∧
    W.cell? ⟨By, 0, none⟩ = some (.pointer (some ⟨yb, yo, none⟩)) ∧ W.cell? ⟨Bz, 0, none⟩ = some (.pointer (some ⟨zb, zo, none⟩))
theorem SetC.keep {D : Nat → Prop} {W W' : World} {c : Nat × Array Value} {k zb zo xb xo yb yo : Nat} (h : SetC D W c k zb zo xb xo yb yo) (hk : KD D W W') : SetC D W' c k zb zo xb xo yb yo := by
  obtain ⟨Ba, Bx, By, Bz, hc, ⟨da, dx, dy, dz⟩, h1, h2, h3, h4⟩ := h
  exact ⟨Ba, Bx, By, Bz, hc, ⟨da, dx, dy, dz⟩, hk.cell da h1, hk.cell dx h2, hk.cell dy h3, hk.cell dz h4⟩
theorem SetC.below {D : Nat → Prop} {W W' : World} {c : Nat × Array Value} {k zb zo xb xo yb yo : Nat} (h : SetC D W c k zb zo xb xo yb yo) (hb : Below W.heap.size W W') : SetC D W' c k zb zo xb xo yb yo := h.keep (.of_below hb)

def SetMade (D : Nat → Prop) (w : World) (k zb zo xb xo yb yo : Nat) (e : Ending) (w' : World) : Prop :=
  ∃ c, e = .returned (fV2 c) ∧ SetC D w' c k zb zo xb xo yb yo ∧ Below w.heap.size w w'
set_option maxRecDepth 100000 in
set_option maxHeartbeats 1000000 in
theorem setm_any (D : Nat → Prop) (k zb zo xb xo yb yo : Nat) (w : World) (hD : ∀ b, D b → b < w.heap.size) :
    Calls Tryz.prog 69 #[.pointer (some ⟨zb, zo, none⟩), .func (.func k) #[] #[], .pointer (some ⟨xb, xo, none⟩), .pointer (some ⟨yb, yo, none⟩)] w (SetMade D w k zb zo xb xo yb yo) := by
  have hmf : ∀ (fn : Fn) (first cap : Array Value) (w : World), (Instr.makeFunc fn first cap).run Tryz.prog w = .ok (.func fn first cap) w := fun _ _ _ _ => rfl
  have hb := ((((Below.refl w.heap.size w).alloc (Nat.le_refl _) (.cells #[.pointer (some ⟨zb, zo, none⟩)] 84)).alloc (by simp) (.cells #[.func (.func k) #[] #[]] 105)).alloc (by simp; omega) (.cells #[.pointer (some ⟨xb, xo, none⟩)] 84)).alloc (by simp; omega) (.cells #[.pointer (some ⟨yb, yo, none⟩)] 84)
  have bz : Boxed (w.alloc (.cells #[.pointer (some ⟨zb, zo, none⟩)] 84)) w.heap.size 84 (.pointer (some ⟨zb, zo, none⟩)) := Boxed.new w _ _
  have bf : Boxed ((w.alloc (.cells #[.pointer (some ⟨zb, zo, none⟩)] 84)).alloc (.cells #[.func (.func k) #[] #[]] 105)) (w.heap.size + 1) 105 (.func (.func k) #[] #[]) := by have := Boxed.new (w.alloc (.cells #[.pointer (some ⟨zb, zo, none⟩)] 84)) 105 (.func (.func k) #[] #[]); simpa using this
  have bx : Boxed (((w.alloc (.cells #[.pointer (some ⟨zb, zo, none⟩)] 84)).alloc (.cells #[.func (.func k) #[] #[]] 105)).alloc (.cells #[.pointer (some ⟨xb, xo, none⟩)] 84)) (w.heap.size + 2) 84 (.pointer (some ⟨xb, xo, none⟩)) := by have := Boxed.new ((w.alloc (.cells #[.pointer (some ⟨zb, zo, none⟩)] 84)).alloc (.cells #[.func (.func k) #[] #[]] 105)) 84 (.pointer (some ⟨xb, xo, none⟩)); simpa using this
  have by' : Boxed ((((w.alloc (.cells #[.pointer (some ⟨zb, zo, none⟩)] 84)).alloc (.cells #[.func (.func k) #[] #[]] 105)).alloc (.cells #[.pointer (some ⟨xb, xo, none⟩)] 84)).alloc (.cells #[.pointer (some ⟨yb, yo, none⟩)] 84)) (w.heap.size + 3) 84 (.pointer (some ⟨yb, yo, none⟩)) := by have := Boxed.new (((w.alloc (.cells #[.pointer (some ⟨zb, zo, none⟩)] 84)).alloc (.cells #[.func (.func k) #[] #[]] 105)).alloc (.cells #[.pointer (some ⟨xb, xo, none⟩)] 84)) 84 (.pointer (some ⟨yb, yo, none⟩)); simpa using this
  have cz := (((bz.alloc (.cells #[.func (.func k) #[] #[]] 105)).alloc (.cells #[.pointer (some ⟨xb, xo, none⟩)] 84)).alloc (.cells #[.pointer (some ⟨yb, yo, none⟩)] 84)).cell
  have cf := ((bf.alloc (.cells #[.pointer (some ⟨xb, xo, none⟩)] 84)).alloc (.cells #[.pointer (some ⟨yb, yo, none⟩)] 84)).cell
  have cx := (bx.alloc (.cells #[.pointer (some ⟨yb, yo, none⟩)] 84)).cell
  have cy := by'.cell
  have HP := Lib.hid (show SetMade D w k zb zo xb xo yb yo (.returned (.func (.func 100) #[] #[.pointer (some ⟨w.heap.size + 1, 0, none⟩), .pointer (some ⟨w.heap.size + 2, 0, none⟩), .pointer (some ⟨w.heap.size + 3, 0, none⟩), .pointer (some ⟨w.heap.size, 0, none⟩)]))
      ((((w.alloc (.cells #[.pointer (some ⟨zb, zo, none⟩)] 84)).alloc (.cells #[.func (.func k) #[] #[]] 105)).alloc (.cells #[.pointer (some ⟨xb, xo, none⟩)] 84)).alloc (.cells #[.pointer (some ⟨yb, yo, none⟩)] 84)) from
    ⟨(100, #[.pointer (some ⟨w.heap.size + 1, 0, none⟩), .pointer (some ⟨w.heap.size + 2, 0, none⟩), .pointer (some ⟨w.heap.size + 3, 0, none⟩), .pointer (some ⟨w.heap.size, 0, none⟩)]), rfl,
      ⟨_, _, _, _, rfl, ⟨fun h => by have := hD _ h; omega, fun h => by have := hD _ h; omega, fun h => by have := hD _ h; omega, fun h => by have := hD _ h; omega⟩, cf, cx, cy, cz⟩, hb⟩)
  clear hb bz bf bx by' cz cf cx cy hD
  go_enter Tryz.func69, Tryz.ntmps69
  go_wp2
  go_ret
  exact HP.out

/-- What a closure of set does. -/
def SetOut (W : World) (pz : Addr) (s : ByteArray) (n : Int) (e : Ending) (w' : World) : Prop := ∃ W1, Below W.heap.size W W1 ∧ e = .returned (.int .i64 n) ∧ w' = W1.setCell pz (.string s)
set_option maxRecDepth 100000 in
set_option maxHeartbeats 1000000 in
theorem set1_any (k : Nat) (W : World) (Ba Bx By Bz zb zo xb xo yb yo : Nat) (x y s old : ByteArray) (n : Int)
    (hE : ∀ args w, (callFunc k args).run Tryz.prog w = .ok (.enter k args) w)
    (hz : W.cell? ⟨Bz, 0, none⟩ = some (.pointer (some ⟨zb, zo, none⟩))) (ha : W.cell? ⟨Ba, 0, none⟩ = some (.func (.func k) #[] #[]))
    (hx : W.cell? ⟨Bx, 0, none⟩ = some (.pointer (some ⟨xb, xo, none⟩))) (hy : W.cell? ⟨By, 0, none⟩ = some (.pointer (some ⟨yb, yo, none⟩)))
    (cx : W.cell? ⟨xb, xo, none⟩ = some (.string x)) (cy : W.cell? ⟨yb, yo, none⟩ = some (.string y)) (cz : W.cell? ⟨zb, zo, none⟩ = some (.string old)) (fz : W.frozen? ⟨zb, zo, none⟩ = false)
    (n1 : zb ≠ Bz) (n2 : zb ≠ Ba) (n3 : zb ≠ Bx) (n4 : zb ≠ By)
    (hF : ∀ W', Below W.heap.size W W' → Calls Tryz.prog k #[.string x, .string y] W' (ResOut W' s n)) :
    Calls Tryz.prog 100 #[.pointer (some ⟨Ba, 0, none⟩), .pointer (some ⟨Bx, 0, none⟩), .pointer (some ⟨By, 0, none⟩), .pointer (some ⟨Bz, 0, none⟩)] W (SetOut W ⟨zb, zo, none⟩ s n) := by
  have HF := Lib.hid hF
  have KB := Lib.hid (fun W' (h : Below W.heap.size W W') => And.intro ((h.cell (p := ⟨Bz, 0, none⟩) (block_lt_of_cell hz)).trans hz) (And.intro ((h.cell (p := ⟨Ba, 0, none⟩) (block_lt_of_cell ha)).trans ha)
    (And.intro ((h.cell (p := ⟨Bx, 0, none⟩) (block_lt_of_cell hx)).trans hx) ((h.cell (p := ⟨By, 0, none⟩) (block_lt_of_cell hy)).trans hy))))
  have KS := Lib.hid (fun W' (h : Below W.heap.size W W') v => And.intro ((World.cell?_setCell_far W' ⟨zb, zo, none⟩ ⟨Bz, 0, none⟩ v n1).trans ((h.cell (p := ⟨Bz, 0, none⟩) (block_lt_of_cell hz)).trans hz)) (And.intro ((World.cell?_setCell_far W' ⟨zb, zo, none⟩ ⟨Ba, 0, none⟩ v n2).trans ((h.cell (p := ⟨Ba, 0, none⟩) (block_lt_of_cell ha)).trans ha))
    (And.intro ((World.cell?_setCell_far W' ⟨zb, zo, none⟩ ⟨Bx, 0, none⟩ v n3).trans ((h.cell (p := ⟨Bx, 0, none⟩) (block_lt_of_cell hx)).trans hx)) ((World.cell?_setCell_far W' ⟨zb, zo, none⟩ ⟨By, 0, none⟩ v n4).trans ((h.cell (p := ⟨By, 0, none⟩) (block_lt_of_cell hy)).trans hy)))))
  have cx' : W.drew.cell? ⟨xb, xo, none⟩ = some (.string x) := cx
  have cy' : W.drew.cell? ⟨yb, yo, none⟩ = some (.string y) := cy
  have KZ := Lib.hid (fun W' (h : Below W.heap.size W W') => And.intro ((h.cell (p := ⟨zb, zo, none⟩) (block_lt_of_cell cz)).trans cz) ((h.frozen (p := ⟨zb, zo, none⟩) (block_lt_of_cell cz)).trans fz))
  clear hF fz cz
  go_enter Tryz.func100, Tryz.ntmps100
  go_upto_region 1 with fail
  clear hz ha hx hy cx cy n1 n2 n3 n4
  refine wp_region_held_drew (S := (fun w' => w'.cell? ⟨Bz, 0, none⟩ = some (.pointer (some ⟨zb, zo, none⟩)) ∧ w'.cell? ⟨Ba, 0, none⟩ = some (.func (.func k) #[] #[]) ∧ w'.cell? ⟨Bx, 0, none⟩ = some (.pointer (some ⟨xb, xo, none⟩)) ∧ w'.cell? ⟨By, 0, none⟩ = some (.pointer (some ⟨yb, yo, none⟩)))) (by kernel_rfl) (KB.out _ (Below.refl _ _).drew) (fun hHeld => ?_)
  refine wpAnyH_take (i := 0) (oi := _) (v := ?_) rfl (by kernel_rfl) (by kernel_rfl) (by kernel_rfl) (fun _ _ _ h => h) (Or.inl ⟨by rfl, ?_⟩) (by assumption) ?_
  rotate_left 1
  · (intro w hSw; (try dsimp only at hSw); go_simp; try with_reducible rfl)
  try simp only [Act.put, List.setIfInBounds_toArray, List.set_cons_zero, List.set_cons_succ]
  refine wpAnyH_take (i := 1) (oi := _) (v := ?_) rfl (by kernel_rfl) (by kernel_rfl) (by kernel_rfl) (fun _ _ _ h => h) (Or.inl ⟨by rfl, ?_⟩) (by assumption) ?_
  rotate_left 1
  · (intro w hSw; (try dsimp only at hSw); go_simp; try with_reducible rfl)
  try simp only [Act.put, List.setIfInBounds_toArray, List.set_cons_zero, List.set_cons_succ]
  refine wpAnyH_take (i := 2) (oi := _) (v := ?_) rfl (by kernel_rfl) (by kernel_rfl) (by kernel_rfl) (fun _ _ _ h => h) (Or.inl ⟨by rfl, ?_⟩) (by assumption) ?_
  rotate_left 1
  · (intro w hSw; (try dsimp only at hSw); go_simp; try with_reducible rfl)
  try simp only [Act.put, List.setIfInBounds_toArray, List.set_cons_zero, List.set_cons_succ]
  refine wpAnyH_take (i := 3) (oi := _) (v := ?_) rfl (by kernel_rfl) (by kernel_rfl) (by kernel_rfl) (fun _ _ _ h => h) (Or.inl ⟨by rfl, ?_⟩) (by assumption) ?_
  rotate_left 1
  · (intro w hSw; (try dsimp only at hSw); go_simp; try with_reducible rfl)
  try simp only [Act.put, List.setIfInBounds_toArray, List.set_cons_zero, List.set_cons_succ]
  refine wpAnyH_take (i := 5) (oi := _) (v := ?_) rfl (by kernel_rfl) (by kernel_rfl) (by kernel_rfl) (fun _ _ _ h => h) (Or.inl ⟨by rfl, ?_⟩) (by assumption) ?_
  rotate_left 1
  · (intro w hSw; (try dsimp only at hSw); go_simp; try with_reducible rfl)
  try simp only [Act.put, List.setIfInBounds_toArray, List.set_cons_zero, List.set_cons_succ]
  refine wpAnyH_take (i := 6) (oi := _) (v := ?_) rfl (by kernel_rfl) (by kernel_rfl) (by kernel_rfl) (fun _ _ _ h => h) (Or.inl ⟨by rfl, ?_⟩) (by assumption) ?_
  rotate_left 1
  · (intro w hSw; (try dsimp only at hSw); go_simp; try with_reducible rfl)
  try simp only [Act.put, List.setIfInBounds_toArray, List.set_cons_zero, List.set_cons_succ]
  refine wpAnyH_ready (rs := [4, 7]) (by kernel_rfl) (by simp) ?_
  refine AllReadyH.cons (o := _) rfl (fun K hK => ?_) ?_
  · skip
    go_simp
    refine hK.out _ _ ?_ (fun hHeld => ?_)
    · exact hHeld
    clear hK K
    try simp only [Act.put, List.setIfInBounds_toArray, List.set_cons_zero, List.set_cons_succ]
    refine wpAnyH_ready (rs := [7]) (by kernel_rfl) (by simp) ?_
    refine AllReadyH.cons (o := _) rfl (fun K hK => ?_) AllReadyH.nil
    go_simp
    refine hK.out _ _ ?_ (fun hHeld => ?_)
    · exact hHeld
    clear hK K
    try simp only [Act.put, List.setIfInBounds_toArray, List.set_cons_zero, List.set_cons_succ]
    refine wpAnyH_ready (rs := [8]) (by kernel_rfl) (by simp) ?_
    refine AllReadyH.cons (o := _) rfl (fun K hK => ?_) AllReadyH.nil
    go_simp
    go_at_fn k
    with_reducible refine (HF.out _ ((Below.refl _ _).drew)).mono ?_
    rintro e w1 ⟨rfl, hb1⟩
    have hB1 := below1 (Below.refl _ W).drew hb1
    obtain ⟨cz, fz⟩ := KZ.out _ hB1
    refine hK.out _ _ ?_ (fun hHeld => ?_)
    · exact KB.out _ hB1
    clear hK K
    try simp only [Act.put, List.setIfInBounds_toArray, List.set_cons_zero, List.set_cons_succ]
    refine wpAnyH_take (i := 9) (oi := _) (v := ?_) rfl (by kernel_rfl) (by kernel_rfl) (by kernel_rfl) (fun _ _ _ h => h) (Or.inl ⟨by rfl, ?_⟩) (by assumption) ?_
    rotate_left 1
    · (intro w hSw; (try dsimp only at hSw); go_simp; try with_reducible rfl)
    try simp only [Act.put, List.setIfInBounds_toArray, List.set_cons_zero, List.set_cons_succ]
    refine wpAnyH_take (i := 10) (oi := _) (v := ?_) rfl (by kernel_rfl) (by kernel_rfl) (by kernel_rfl) (fun _ _ _ h => h) (Or.inl ⟨by rfl, ?_⟩) (by assumption) ?_
    rotate_left 1
    · (intro w hSw; (try dsimp only at hSw); go_simp; try with_reducible rfl)
    try simp only [Act.put, List.setIfInBounds_toArray, List.set_cons_zero, List.set_cons_succ]
    refine wpAnyH_take (i := 11) (oi := _) (v := ?_) rfl (by kernel_rfl) (by kernel_rfl) (by kernel_rfl) (fun _ _ _ h => h) (Or.inl ⟨by rfl, ?_⟩) (by assumption) ?_
    rotate_left 1
    · (intro w hSw; (try dsimp only at hSw); go_simp; try with_reducible rfl)
    try simp only [Act.put, List.setIfInBounds_toArray, List.set_cons_zero, List.set_cons_succ]
    refine wpAnyH_take (i := 12) (oi := _) (v := ?_) rfl (by kernel_rfl) (by kernel_rfl) (by kernel_rfl) (fun _ _ _ h => h) (Or.inl ⟨by rfl, ?_⟩) (by assumption) ?_
    rotate_left 1
    · (intro w hSw; (try dsimp only at hSw); go_simp; try with_reducible rfl)
    try simp only [Act.put, List.setIfInBounds_toArray, List.set_cons_zero, List.set_cons_succ]
    refine wpAnyH_ready (rs := [13]) (by kernel_rfl) (by simp) ?_
    refine AllReadyH.cons (o := _) rfl (fun K hK => ?_) AllReadyH.nil
    go_simp
    refine hK.out _ _ ?_ (fun hHeld => ?_)
    · exact KS.out _ hB1 _
    clear hK K
    try simp only [Act.put, List.setIfInBounds_toArray, List.set_cons_zero, List.set_cons_succ]
    refine wpAnyH_take (i := 14) (oi := _) (v := ?_) rfl (by kernel_rfl) (by kernel_rfl) (by kernel_rfl) (fun _ _ _ h => h) (Or.inl ⟨by rfl, ?_⟩) (by assumption) ?_
    rotate_left 1
    · (intro w hSw; (try dsimp only at hSw); go_simp; try with_reducible rfl)
    try simp only [Act.put, List.setIfInBounds_toArray, List.set_cons_zero, List.set_cons_succ]
    refine wpAnyH_done (by kernel_rfl) ?_ _
    go_wp2
    go_ret
    exact ⟨w1, hB1, rfl, rfl⟩
  · skip
    refine AllReadyH.cons (o := _) rfl (fun K hK => ?_) AllReadyH.nil
    go_simp
    refine hK.out _ _ ?_ (fun hHeld => ?_)
    · exact hHeld
    clear hK K
    try simp only [Act.put, List.setIfInBounds_toArray, List.set_cons_zero, List.set_cons_succ]
    refine wpAnyH_ready (rs := [4]) (by kernel_rfl) (by simp) ?_
    refine AllReadyH.cons (o := _) rfl (fun K hK => ?_) AllReadyH.nil
    go_simp
    refine hK.out _ _ ?_ (fun hHeld => ?_)
    · exact hHeld
    clear hK K
    try simp only [Act.put, List.setIfInBounds_toArray, List.set_cons_zero, List.set_cons_succ]
    refine wpAnyH_ready (rs := [8]) (by kernel_rfl) (by simp) ?_
    refine AllReadyH.cons (o := _) rfl (fun K hK => ?_) AllReadyH.nil
    go_simp
    go_at_fn k
    with_reducible refine (HF.out _ ((Below.refl _ _).drew)).mono ?_
    rintro e w1 ⟨rfl, hb1⟩
    have hB1 := below1 (Below.refl _ W).drew hb1
    obtain ⟨cz, fz⟩ := KZ.out _ hB1
    refine hK.out _ _ ?_ (fun hHeld => ?_)
    · exact KB.out _ hB1
    clear hK K
    try simp only [Act.put, List.setIfInBounds_toArray, List.set_cons_zero, List.set_cons_succ]
    refine wpAnyH_take (i := 9) (oi := _) (v := ?_) rfl (by kernel_rfl) (by kernel_rfl) (by kernel_rfl) (fun _ _ _ h => h) (Or.inl ⟨by rfl, ?_⟩) (by assumption) ?_
    rotate_left 1
    · (intro w hSw; (try dsimp only at hSw); go_simp; try with_reducible rfl)
    try simp only [Act.put, List.setIfInBounds_toArray, List.set_cons_zero, List.set_cons_succ]
    refine wpAnyH_take (i := 10) (oi := _) (v := ?_) rfl (by kernel_rfl) (by kernel_rfl) (by kernel_rfl) (fun _ _ _ h => h) (Or.inl ⟨by rfl, ?_⟩) (by assumption) ?_
    rotate_left 1
    · (intro w hSw; (try dsimp only at hSw); go_simp; try with_reducible rfl)
    try simp only [Act.put, List.setIfInBounds_toArray, List.set_cons_zero, List.set_cons_succ]
    refine wpAnyH_take (i := 11) (oi := _) (v := ?_) rfl (by kernel_rfl) (by kernel_rfl) (by kernel_rfl) (fun _ _ _ h => h) (Or.inl ⟨by rfl, ?_⟩) (by assumption) ?_
    rotate_left 1
    · (intro w hSw; (try dsimp only at hSw); go_simp; try with_reducible rfl)
    try simp only [Act.put, List.setIfInBounds_toArray, List.set_cons_zero, List.set_cons_succ]
    refine wpAnyH_take (i := 12) (oi := _) (v := ?_) rfl (by kernel_rfl) (by kernel_rfl) (by kernel_rfl) (fun _ _ _ h => h) (Or.inl ⟨by rfl, ?_⟩) (by assumption) ?_
    rotate_left 1
    · (intro w hSw; (try dsimp only at hSw); go_simp; try with_reducible rfl)
    try simp only [Act.put, List.setIfInBounds_toArray, List.set_cons_zero, List.set_cons_succ]
    refine wpAnyH_ready (rs := [13]) (by kernel_rfl) (by simp) ?_
    refine AllReadyH.cons (o := _) rfl (fun K hK => ?_) AllReadyH.nil
    go_simp
    refine hK.out _ _ ?_ (fun hHeld => ?_)
    · exact KS.out _ hB1 _
    clear hK K
    try simp only [Act.put, List.setIfInBounds_toArray, List.set_cons_zero, List.set_cons_succ]
    refine wpAnyH_take (i := 14) (oi := _) (v := ?_) rfl (by kernel_rfl) (by kernel_rfl) (by kernel_rfl) (fun _ _ _ h => h) (Or.inl ⟨by rfl, ?_⟩) (by assumption) ?_
    rotate_left 1
    · (intro w hSw; (try dsimp only at hSw); go_simp; try with_reducible rfl)
    try simp only [Act.put, List.setIfInBounds_toArray, List.set_cons_zero, List.set_cons_succ]
    refine wpAnyH_done (by kernel_rfl) ?_ _
    go_wp2
    go_ret
    exact ⟨w1, hB1, rfl, rfl⟩

theorem setc_any (D : Nat → Prop) (W : World) (c : Nat × Array Value) (k zb zo xb xo yb yo : Nat) (x y s old : ByteArray) (n : Int) (h : SetC D W c k zb zo xb xo yb yo) (hd : D zb)
    (hE : ∀ args w, (callFunc k args).run Tryz.prog w = .ok (.enter k args) w)
    (cx : W.cell? ⟨xb, xo, none⟩ = some (.string x)) (cy : W.cell? ⟨yb, yo, none⟩ = some (.string y)) (cz : W.cell? ⟨zb, zo, none⟩ = some (.string old)) (fz : W.frozen? ⟨zb, zo, none⟩ = false)
    (hF : ∀ W', Below W.heap.size W W' → Calls Tryz.prog k #[.string x, .string y] W' (ResOut W' s n)) :
    Calls Tryz.prog c.1 c.2 W (SetOut W ⟨zb, zo, none⟩ s n) := by
  obtain ⟨Ba, Bx, By, Bz, rfl, ⟨da, dx, dy, dz⟩, h1, h2, h3, h4⟩ := h
  exact set1_any k W Ba Bx By Bz zb zo xb xo yb yo x y s old n hE h4 h1 h2 h3 cx cy cz fz (fun e => dz (e ▸ hd)) (fun e => da (e ▸ hd)) (fun e => dx (e ▸ hd)) (fun e => dy (e ▸ hd)) hF

set_option maxHeartbeats 1000000 in
theorem quotient_any (a b : ByteArray) (w : World) (ha : a.size ≤ 9223372036854775807) (hb : b.size ≤ 9223372036854775807) (ht : Tb w) :
    Calls Tryz.prog 121 #[.string a, .string b] w (ResOut w (divQ a b) (divE a b)) := by
  have CD := Lib.hid (div_any a b w ha hb ht)
  generalize divQ a b = q at *
  generalize divR a b = r at *
  generalize divE a b = n at *
  clear ht
  go_enter Tryz.func121, Tryz.ntmps121
  go_wp2_with fail
  (with_reducible refine CD.out.mono ?_)
  rintro e w1 ⟨rfl, hb1⟩
  have HB1 := Lib.hid hb1
  clear hb1
  go_wp2
  go_ret2
  exact ⟨rfl, HB1.out⟩
end Go.Proofs.YtcjcafekacceiaaGreatDoor
