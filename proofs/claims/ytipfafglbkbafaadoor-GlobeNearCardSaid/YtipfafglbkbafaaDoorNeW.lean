/- NeW: walked. -/
import Derived.Test.YtipfafglbkbafaaDoorSa
namespace Go.Proofs.YtipfafglbkbafaaDoor
open Go.RowKit Go.Shelf
set_option linter.unusedVariables false
set_option linter.unusedSimpArgs false
theorem vr_c0 {B : Nat} {a b : Value} {t : TypeId} {W : World} (h : VR B #[a, b] t W) : W.cell? ⟨B, 0, none⟩ = some a := (row_cell h 0).trans rfl
theorem vr_c1 {B : Nat} {a b : Value} {t : TypeId} {W : World} (h : VR B #[a, b] t W) : W.cell? ⟨B, 1, none⟩ = some b := (row_cell h 1).trans rfl
theorem ne_v {a b c d r : Nat} {w : World} (ha : a < 48) (hb : b < 24) (hc : c < 48) (hd : d < 24) (e : near a b c d = r) : Calls Tryd.prog 17 #[CV a b, CV c d] w (OutV w (.int .i64 (r : Nat))) :=
  (nearV w a b c d ha hb hc hd).mono (OutV.as (by rw [e]))
theorem ne_cells {w : World} {b o c : Nat} {f : Ar} {l : List (Nat × Nat)} {N : Nat} (e : cellsTo f 24 = l) (eN : l.length = N) (h : SA w (some ⟨b, o, none⟩) 24 f) (hT : Tab w) : Calls Tryd.prog 27 #[.agg #[.slice (some ⟨b, o, none⟩) 24 c]] w fun e w' => ∃ rl rc, e = .returned (.slice rl N rc) ∧ Cs w' rl N l ∧ Below w.heap.size w w' := by
  have h := cellsV (c := c) h hT
  rw [e, eN] at h
  exact h
theorem up_cs {w : World} {al : Option Addr} {n : Nat} {l : List (Nat × Nat)} (h : Cs w al n l) : Up w (fun W => Cs W al n l) := fun _ hb => h.below (Nat.le_refl _) hb
theorem up_b (w : World) : Up w (fun W => Below w.heap.size w W) := fun _ hb => hb
theorem cs_at {w : World} {al : Option Addr} {n : Nat} {l : List (Nat × Nat)} (h : Up w (fun W => Cs W al n l)) {i : Nat} (hi : i < n) : ∃ (b px py : Nat), al = some ⟨b, 0, none⟩ ∧ l[i]? = some (px, py) ∧ Up w (fun W => W.cell? ⟨b, i * 2, none⟩ = some (.int .i64 (px : Int)) ∧ W.cell? ⟨b, i * 2 + 1, none⟩ = some (.int .i64 (py : Int))) := by
  obtain ⟨h1, h2, h3⟩ := h.now
  rcases h3 with h3 | ⟨b, rfl, hb, hc⟩
  · omega
  · obtain ⟨p, hp⟩ : ∃ p, l[i]? = some p := ⟨l[i]'(by omega), List.getElem?_eq_getElem _⟩
    refine ⟨b, p.1, p.2, rfl, hp, fun W hW => ?_⟩
    have := hc i p hp
    exact ⟨(hW.cell (p := ⟨b, i * 2, none⟩) hb).trans this.1, (hW.cell (p := ⟨b, i * 2 + 1, none⟩) hb).trans this.2⟩
theorem ne_mem {f : Ar} {l : List (Nat × Nat)} {i px py : Nat} (e : cellsTo f 24 = l) (h : l[i]? = some (px, py)) : px < 48 ∧ py < 24 := by
  have hm := List.mem_of_getElem? h
  rw [← e, cells_mem] at hm
  exact ⟨hm.2.1, hm.1⟩
def nearTo (a b d : Nat) (l : List (Nat × Nat)) (i : Nat) : Bool := (l.take i).any (fun p => decide (near a b p.1 p.2 ≤ d))
theorem near_step {a b d : Nat} {l : List (Nat × Nat)} {i px py : Nat} (h : l[i]? = some (px, py)) : nearTo a b d l (i + 1) = (nearTo a b d l i || decide (near a b px py ≤ d)) := by
  unfold nearTo
  rw [List.take_add_one, h, List.any_append]
  simp
theorem ne_stepT {a b d : Nat} {l : List (Nat × Nat)} {i px py np : Nat} {r : Bool} (h : l[i]? = some (px, py)) (hr : nearTo a b d l i = r) (e : near a b px py = np) (g : np ≤ d) : nearTo a b d l (i + 1) = true := by
  rw [near_step h, e, decide_eq_true g, Bool.or_true]
theorem ne_stepF {a b d : Nat} {l : List (Nat × Nat)} {i px py np : Nat} (h : l[i]? = some (px, py)) (hr : nearTo a b d l i = false) (e : near a b px py = np) (g : d < np) : nearTo a b d l (i + 1) = false := by
  rw [near_step h, e, hr, decide_eq_false (by omega)]; rfl
theorem ne_stepO {a b d : Nat} {l : List (Nat × Nat)} {i px py : Nat} (h : l[i]? = some (px, py)) (hr : nearTo a b d l i = true) : nearTo a b d l (i + 1) = true := by
  rw [near_step h, hr, Bool.true_or]
theorem ne_end {a b d : Nat} {f : Ar} {l : List (Nat × Nat)} {N i : Nat} {r : Bool} (e : cellsTo f 24 = l) (eN : l.length = N) (hi : i = N) (hr : nearTo a b d l i = r) (ha : a < 48) (hb : b < 24) : grown f d a b = r := by
  subst hi
  rw [← hr, Bool.eq_iff_iff, grown_iff]
  unfold nearTo
  rw [← eN, List.take_length, List.any_eq_true, ← e]
  constructor
  · rintro ⟨x, y, hx, hy, hf, hn⟩
    exact ⟨(x, y), cells_mem.2 ⟨hy, hx, hf⟩, by rw [decide_eq_true_eq, near_comm]; exact hn⟩
  · rintro ⟨p, hp, hn⟩
    obtain ⟨h1, h2, h3⟩ := cells_mem.1 hp
    rw [decide_eq_true_eq, near_comm] at hn
    exact ⟨p.1, p.2, h2, h1, h3, hn⟩
theorem ne_cases (a b c d : Nat) : (a = c ∧ b = d) ∨ a ≠ c ∨ b ≠ d := by omega
theorem ne_same {a b r : Nat} (e : near a b a b = r) (h : a < 48) : ((r : Int) == 0) = true := by
  rw [← e, (near_zero h h).2 ⟨rfl, rfl⟩]; rfl
theorem ne_diff {a b c d r : Nat} (e : near a b c d = r) (h : a < 48) (h' : c < 48) (hn : ¬ (a = c ∧ b = d)) : ((r : Int) == 0) = false := by
  rw [beq_eq_false_iff_ne]
  intro h0
  exact hn ((near_zero h h').1 (e.trans (by omega)))
theorem ne_eq0 {a b a2 r : Nat} (h : a < 48) (h2 : a2 < 48) (e : near a b a b = r) : near a2 b a2 b = r := by
  rw [← e, (near_zero h h).2 ⟨rfl, rfl⟩, (near_zero h2 h2).2 ⟨rfl, rfl⟩]
theorem ne_facts (ax ay bx yb cx cy : Nat) (h1 : ax < 48) (h2 : ay < 24) (h3 : bx < 48) (h4 : yb < 24) (h5 : cx < 48) (h6 : cy < 24) : ∃ (nab nac ncb : Nat) (sac : Int), near ax ay bx yb = nab ∧ near bx yb ax ay = nab ∧ near ax ay cx cy = nac ∧ near cx cy bx yb = ncb ∧
    ¬ ((24 : Int) < (nab : Int)) ∧ IntKind.i64.wrap ((nac : Int) + (ncb : Int)) = sac ∧ ¬ (sac < (nab : Int)) ∧ True := by
  have hl : ∀ a b c d, a < 48 → b < 24 → c < 48 → d < 24 → near a b c d ≤ 24 := fun a b c d ha hb hc hd => by
    have := dx_le a c ha hc
    unfold near dy; omega
  have t := near_tri (a := ax) (b := ay) (c := bx) (d := yb) (e := cx) (f := cy) h1 h3 h5
  have l1 := hl ax ay bx yb h1 h2 h3 h4
  have l2 := hl ax ay cx cy h1 h2 h5 h6
  have l3 := hl cx cy bx yb h5 h6 h3 h4
  refine ⟨_, _, _, (near ax ay cx cy : Int) + (near cx cy bx yb : Int), rfl, near_comm _ _ _ _, rfl, rfl, by omega, ?_, by omega, trivial⟩
  rw [IntKind.wrap_i64]; omega
theorem near_turn {a b c d k : Nat} (ha : a < 48) (hc : c < 48) : near ((a + k) % 48) b ((c + k) % 48) d = near a b c d := by
  unfold near; rw [dx_turn ha hc]
theorem ne_shift (ax ay bx yb k nab : Nat) (h1 : ax < 48) (h3 : bx < 48) (hk : k < 48) (e : near ax ay bx yb = nab) : ∃ (x1 x2 : Int) (a2 b2 : Nat), IntKind.i64.wrap ((ax : Int) + (k : Int)) = x1 ∧ x1.tmod 48 = (a2 : Int) ∧ x1 % 48 = (a2 : Int) ∧ IntKind.i64.wrap ((bx : Int) + (k : Int)) = x2 ∧ x2.tmod 48 = (b2 : Int) ∧ x2 % 48 = (b2 : Int) ∧
    a2 < 48 ∧ b2 < 48 ∧ near a2 ay b2 yb = nab := by
  refine ⟨(ax : Int) + (k : Int), (bx : Int) + (k : Int), (ax + k) % 48, (bx + k) % 48, ?_, ?_, ?_, ?_, ?_, ?_, Nat.mod_lt _ (by decide), Nat.mod_lt _ (by decide), (near_turn h1 h3).trans e⟩
  · rw [IntKind.wrap_i64]; omega
  · rw [Int.tmod_eq_emod_of_nonneg (by omega)]; omega
  · omega
  · rw [IntKind.wrap_i64]; omega
  · rw [Int.tmod_eq_emod_of_nonneg (by omega)]; omega
  · omega
set_option maxRecDepth 100000 in
set_option maxHeartbeats 8000000 in
theorem nears_any (p0 p1 q0 q1 r0 r1 : Int) (al : Option Addr) (n c : Nat) (cols dist : Int) (i0 : -9223372036854775808 ≤ p0) (i1 : p0 ≤ 9223372036854775807) (i2 : -9223372036854775808 ≤ p1) (i3 : p1 ≤ 9223372036854775807)
    (j0 : -9223372036854775808 ≤ q0) (j1 : q0 ≤ 9223372036854775807) (j2 : -9223372036854775808 ≤ q1) (j3 : q1 ≤ 9223372036854775807) (k0 : -9223372036854775808 ≤ r0) (k1 : r0 ≤ 9223372036854775807) (k2 : -9223372036854775808 ≤ r1) (k3 : r1 ≤ 9223372036854775807) (cols0 : -9223372036854775808 ≤ cols) (cols1 : cols ≤ 9223372036854775807) (dist0 : -9223372036854775808 ≤ dist) (dist1 : dist ≤ 9223372036854775807) (w : World) (hT : Tab w) (hx : S4 w al n) :
    Calls Tryd.prog 7 #[.agg #[.int .i64 p0, .int .i64 p1], .agg #[.int .i64 q0, .int .i64 q1], .agg #[.int .i64 r0, .int .i64 r1], .slice al n c, .int .i64 cols, .int .i64 dist] w (OutV w (.bool true)) := by
  obtain ⟨v1, P1, eA, eB, hbP1, hkP1⟩ := box1 w #[.int .i64 p0, .int .i64 p1] 35
  obtain ⟨v2, P2, eC, eD, hbP2, hkP2⟩ := box1 v1 #[.int .i64 q0, .int .i64 q1] 35
  obtain ⟨v3, P3, eE, eF, hbP3, hkP3⟩ := box1 v2 #[.int .i64 r0, .int .i64 r1] 35
  have UA := Lib.hid (((up_vr hkP1 : Up v1 (VR P1 #[.int .i64 p0, .int .i64 p1] 35)).next hbP2).next hbP3)
  have UB := Lib.hid ((up_vr hkP2 : Up v2 (VR P2 #[.int .i64 q0, .int .i64 q1] 35)).next hbP3)
  have UC := Lib.hid (up_vr hkP3 : Up v3 (VR P3 #[.int .i64 r0, .int .i64 r1] 35))
  have HU := Lib.hid ((((up_vb (Below.refl w.heap.size w) hT : Up w (VB w)).next hbP1).next hbP2).next hbP3)
  have UX := Lib.hid ((((up_s4 hx).next hbP1).next hbP2).next hbP3)
  obtain ⟨ax, ay, a48, a24, PA⟩ := cellV p0 p1 i0 i1 i2 i3
  obtain ⟨bx, yb, b48, b24, PB⟩ := cellV q0 q1 j0 j1 j2 j3
  obtain ⟨cx, cy, c48, c24, PC⟩ := cellV r0 r1 k0 k1 k2 k3
  obtain ⟨k, hk48, ek, PK⟩ := pickV cols cols0 cols1 48 (by decide) (by decide) 48 rfl
  obtain ⟨d, hd25, ed, PD⟩ := pickV dist dist0 dist1 25 (by decide) (by decide) 25 rfl
  obtain ⟨nab, nac, ncb, sac, HN⟩ := ne_facts ax ay bx yb cx cy a48 a24 b48 b24 c48 c24
  obtain ⟨x1, x2, a2, b2, HS⟩ := ne_shift ax ay bx yb k nab a48 b48 hk48 HN.1
  have HR := Lib.hid (show ax < 48 ∧ ay < 24 ∧ bx < 48 ∧ yb < 24 ∧ cx < 48 ∧ cy < 24 from ⟨a48, a24, b48, b24, c48, c24⟩)
  have HD := Lib.hid (show d ≤ 24 by omega)
  replace HN := Lib.hid HN
  replace HS := Lib.hid HS
  replace PA := Lib.hid PA
  replace PB := Lib.hid PB
  replace PC := Lib.hid PC
  replace PK := Lib.hid PK
  replace PD := Lib.hid PD
  clear ek ed hk48 hd25 hT hx a48 a24 b48 b24 c48 c24 i0 i1 i2 i3 j0 j1 j2 j3 k0 k1 k2 k3 cols0 cols1 dist0 dist1 hbP1 hbP2 hbP3 hkP1 hkP2 hkP3
  go_enter Tryd.func7, Tryd.ntmps7
  go_wp2_with fail
  clear eA eB eC eD eE eF
  (with_reducible refine (sane_any _ HU.out.now.2).mono ?_)
  rintro e w1 ⟨rfl, hb⟩
  replace HU := Lib.hid (HU.out.next hb)
  replace UA := Lib.hid (UA.out.next hb)
  replace UB := Lib.hid (UB.out.next hb)
  replace UC := Lib.hid (UC.out.next hb)
  replace UX := Lib.hid (UX.out.next hb)
  clear hb
  have hl0 := (row_cell UA.out.now 0).trans (show _ = some (.int .i64 p0) from rfl)
  have hl1 := (row_cell UA.out.now 1).trans (show _ = some (.int .i64 p1) from rfl)
  go_wp2_with fail
  clear hl0 hl1
  (with_reducible refine (PA.out _).mono ?_)
  rintro e w2 ⟨rfl, hb⟩
  replace HU := Lib.hid (HU.out.next hb)
  replace UA := Lib.hid (UA.out.next hb)
  replace UB := Lib.hid (UB.out.next hb)
  replace UC := Lib.hid (UC.out.next hb)
  replace UX := Lib.hid (UX.out.next hb)
  obtain ⟨x2, B2, e1, e2, hb2, hk⟩ := box1 w2 #[.int .i64 (ax : Int), .int .i64 (ay : Int)] 27
  have U2 := Lib.hid (up_vr hk : Up x2 (VR B2 #[.int .i64 (ax : Int), .int .i64 (ay : Int)] 27))
  replace HU := Lib.hid (HU.out.next hb2)
  replace UA := Lib.hid (UA.out.next hb2)
  replace UB := Lib.hid (UB.out.next hb2)
  replace UC := Lib.hid (UC.out.next hb2)
  replace UX := Lib.hid (UX.out.next hb2)
  clear hb hb2 hk
  have hl0 := (row_cell UB.out.now 0).trans (show _ = some (.int .i64 q0) from rfl)
  have hl1 := (row_cell UB.out.now 1).trans (show _ = some (.int .i64 q1) from rfl)
  go_wp2_with fail
  clear e1 e2
  clear hl0 hl1
  (with_reducible refine (PB.out _).mono ?_)
  rintro e w3 ⟨rfl, hb⟩
  replace HU := Lib.hid (HU.out.next hb)
  replace UA := Lib.hid (UA.out.next hb)
  replace UB := Lib.hid (UB.out.next hb)
  replace UC := Lib.hid (UC.out.next hb)
  replace UX := Lib.hid (UX.out.next hb)
  replace U2 := Lib.hid (U2.out.next hb)
  obtain ⟨x3, B3, e1, e2, hb2, hk⟩ := box1 w3 #[.int .i64 (bx : Int), .int .i64 (yb : Int)] 27
  have U3 := Lib.hid (up_vr hk : Up x3 (VR B3 #[.int .i64 (bx : Int), .int .i64 (yb : Int)] 27))
  replace HU := Lib.hid (HU.out.next hb2)
  replace UA := Lib.hid (UA.out.next hb2)
  replace UB := Lib.hid (UB.out.next hb2)
  replace UC := Lib.hid (UC.out.next hb2)
  replace UX := Lib.hid (UX.out.next hb2)
  replace U2 := Lib.hid (U2.out.next hb2)
  clear hb hb2 hk
  have hl0 := (row_cell UC.out.now 0).trans (show _ = some (.int .i64 r0) from rfl)
  have hl1 := (row_cell UC.out.now 1).trans (show _ = some (.int .i64 r1) from rfl)
  go_wp2_with fail
  clear e1 e2
  clear hl0 hl1
  (with_reducible refine (PC.out _).mono ?_)
  rintro e w4 ⟨rfl, hb⟩
  replace HU := Lib.hid (HU.out.next hb)
  replace UA := Lib.hid (UA.out.next hb)
  replace UB := Lib.hid (UB.out.next hb)
  replace UC := Lib.hid (UC.out.next hb)
  replace UX := Lib.hid (UX.out.next hb)
  replace U2 := Lib.hid (U2.out.next hb)
  replace U3 := Lib.hid (U3.out.next hb)
  obtain ⟨x4, B4, e1, e2, hb2, hk⟩ := box1 w4 #[.int .i64 (cx : Int), .int .i64 (cy : Int)] 27
  have U4 := Lib.hid (up_vr hk : Up x4 (VR B4 #[.int .i64 (cx : Int), .int .i64 (cy : Int)] 27))
  replace HU := Lib.hid (HU.out.next hb2)
  replace UA := Lib.hid (UA.out.next hb2)
  replace UB := Lib.hid (UB.out.next hb2)
  replace UC := Lib.hid (UC.out.next hb2)
  replace UX := Lib.hid (UX.out.next hb2)
  replace U2 := Lib.hid (U2.out.next hb2)
  replace U3 := Lib.hid (U3.out.next hb2)
  clear hb hb2 hk
  go_wp2_with fail
  clear e1 e2
  (with_reducible refine (PK.out _).mono ?_)
  rintro e w5 ⟨rfl, hb⟩
  replace HU := Lib.hid (HU.out.next hb)
  replace UA := Lib.hid (UA.out.next hb)
  replace UB := Lib.hid (UB.out.next hb)
  replace UC := Lib.hid (UC.out.next hb)
  replace UX := Lib.hid (UX.out.next hb)
  replace U2 := Lib.hid (U2.out.next hb)
  replace U3 := Lib.hid (U3.out.next hb)
  replace U4 := Lib.hid (U4.out.next hb)
  clear hb
  have hl0 := (row_cell U2.out.now 0).trans (show _ = some (.int .i64 (ax : Int)) from rfl)
  have hl1 := (row_cell U2.out.now 1).trans (show _ = some (.int .i64 (ay : Int)) from rfl)
  have hl2 := (row_cell U3.out.now 0).trans (show _ = some (.int .i64 (bx : Int)) from rfl)
  have hl3 := (row_cell U3.out.now 1).trans (show _ = some (.int .i64 (yb : Int)) from rfl)
  go_wp2_with fail
  clear hl0 hl1 hl2 hl3
  (with_reducible refine (ne_v (r := nab) HR.out.1 HR.out.2.1 HR.out.2.2.1 HR.out.2.2.2.1 HN.out.1).mono ?_)
  rintro e w6 ⟨rfl, hb⟩
  replace HU := Lib.hid (HU.out.next hb)
  replace UA := Lib.hid (UA.out.next hb)
  replace UB := Lib.hid (UB.out.next hb)
  replace UC := Lib.hid (UC.out.next hb)
  replace UX := Lib.hid (UX.out.next hb)
  replace U2 := Lib.hid (U2.out.next hb)
  replace U3 := Lib.hid (U3.out.next hb)
  replace U4 := Lib.hid (U4.out.next hb)
  clear hb
  go_wp2
  rcases ne_cases ax ay bx yb with hE | hE | hE
  · obtain ⟨rfl, rfl⟩ := hE
    have hq1 : ¬ ((nab : Int) < 0) := by omega
    have hq2 : ¬ ((24 : Int) < (nab : Int)) := by have := HN.out.2.2.2.2.1; omega
    have hq3 := HN.out.2.2.2.2.2.1
    have hq4 : ¬ (sac < (nab : Int)) := by have := HN.out.2.2.2.2.2.2.1; omega
    have hq5 : ((nab : Int) == 0) = true := ne_same HN.out.1 HR.out.1
    have hd : Below w6.heap.size w6 w6.drew := (Below.refl _ _).drew
    replace HU := Lib.hid (HU.out.next hd)
    replace UA := Lib.hid (UA.out.next hd)
    replace UB := Lib.hid (UB.out.next hd)
    replace UC := Lib.hid (UC.out.next hd)
    replace UX := Lib.hid (UX.out.next hd)
    replace U2 := Lib.hid (U2.out.next hd)
    replace U3 := Lib.hid (U3.out.next hd)
    replace U4 := Lib.hid (U4.out.next hd)
    clear hd
    refine wp_region_held_drew (S := fun w' => w'.cell? ⟨B2, 0, none⟩ = some (.int .i64 (ax : Int)) ∧ w'.cell? ⟨B2, 1, none⟩ = some (.int .i64 (ay : Int)) ∧ w'.cell? ⟨B3, 0, none⟩ = some (.int .i64 (ax : Int)) ∧ w'.cell? ⟨B3, 1, none⟩ = some (.int .i64 (ay : Int)) ∧ w'.cell? ⟨B4, 0, none⟩ = some (.int .i64 (cx : Int)) ∧ w'.cell? ⟨B4, 1, none⟩ = some (.int .i64 (cy : Int))) (by kernel_rfl) ⟨vr_c0 U2.out.now, vr_c1 U2.out.now, vr_c0 U3.out.now, vr_c1 U3.out.now, vr_c0 U4.out.now, vr_c1 U4.out.now⟩ (fun hHeld => ?_)
    refine wpAnyH_take (i := 0) (oi := _) (v := ?_) rfl (by kernel_rfl) (by kernel_rfl) (by kernel_rfl) (fun _ _ _ h => h) (Or.inl ⟨by rfl, ?_⟩) (by assumption) ?_
    rotate_left 1
    · (intro w hSw; (try dsimp only at hSw); go_simp; try with_reducible rfl)
    try simp only [List.getElem_toArray, List.getElem_cons_zero, List.getElem_cons_succ, Act.put, List.setIfInBounds_toArray, List.set_cons_zero, List.set_cons_succ]
    refine wpAnyH_take (i := 1) (oi := _) (v := ?_) rfl (by kernel_rfl) (by kernel_rfl) (by kernel_rfl) (fun _ _ _ h => h) (Or.inl ⟨by rfl, ?_⟩) (by assumption) ?_
    rotate_left 1
    · (intro w hSw; (try dsimp only at hSw); go_simp; try with_reducible rfl)
    try simp only [List.getElem_toArray, List.getElem_cons_zero, List.getElem_cons_succ, Act.put, List.setIfInBounds_toArray, List.set_cons_zero, List.set_cons_succ]
    refine wpAnyH_take (i := 2) (oi := _) (v := ?_) rfl (by kernel_rfl) (by kernel_rfl) (by kernel_rfl) (fun _ _ _ h => h) (Or.inl ⟨by rfl, ?_⟩) (by assumption) ?_
    rotate_left 1
    · (intro w hSw; (try dsimp only at hSw); go_simp; try with_reducible rfl)
    try simp only [List.getElem_toArray, List.getElem_cons_zero, List.getElem_cons_succ, Act.put, List.setIfInBounds_toArray, List.set_cons_zero, List.set_cons_succ]
    refine wpAnyH_take (i := 3) (oi := _) (v := ?_) rfl (by kernel_rfl) (by kernel_rfl) (by kernel_rfl) (fun _ _ _ h => h) (Or.inl ⟨by rfl, ?_⟩) (by assumption) ?_
    rotate_left 1
    · (intro w hSw; (try dsimp only at hSw); go_simp; try with_reducible rfl)
    try simp only [List.getElem_toArray, List.getElem_cons_zero, List.getElem_cons_succ, Act.put, List.setIfInBounds_toArray, List.set_cons_zero, List.set_cons_succ]
    refine wpAnyH_take (i := 4) (oi := _) (v := ?_) rfl (by kernel_rfl) (by kernel_rfl) (by kernel_rfl) (fun _ _ _ h => h) (Or.inl ⟨by rfl, ?_⟩) (by assumption) ?_
    rotate_left 1
    · (intro w hSw; (try dsimp only at hSw); go_simp; try with_reducible rfl)
    try simp only [List.getElem_toArray, List.getElem_cons_zero, List.getElem_cons_succ, Act.put, List.setIfInBounds_toArray, List.set_cons_zero, List.set_cons_succ]
    refine wpAnyH_take (i := 5) (oi := _) (v := ?_) rfl (by kernel_rfl) (by kernel_rfl) (by kernel_rfl) (fun _ _ _ h => h) (Or.inl ⟨by rfl, ?_⟩) (by assumption) ?_
    rotate_left 1
    · (intro w hSw; (try dsimp only at hSw); go_simp; try with_reducible rfl)
    try simp only [List.getElem_toArray, List.getElem_cons_zero, List.getElem_cons_succ, Act.put, List.setIfInBounds_toArray, List.set_cons_zero, List.set_cons_succ]
    refine wpAnyH_take (i := 6) (oi := _) (v := ?_) rfl (by kernel_rfl) (by kernel_rfl) (by kernel_rfl) (fun _ _ _ h => h) (Or.inl ⟨by rfl, ?_⟩) (by assumption) ?_
    rotate_left 1
    · (intro w hSw; (try dsimp only at hSw); go_simp; try with_reducible rfl)
    try simp only [List.getElem_toArray, List.getElem_cons_zero, List.getElem_cons_succ, Act.put, List.setIfInBounds_toArray, List.set_cons_zero, List.set_cons_succ]
    refine wpAnyH_take (i := 7) (oi := _) (v := ?_) rfl (by kernel_rfl) (by kernel_rfl) (by kernel_rfl) (fun _ _ _ h => h) (Or.inl ⟨by rfl, ?_⟩) (by assumption) ?_
    rotate_left 1
    · (intro w hSw; (try dsimp only at hSw); go_simp; try with_reducible rfl)
    try simp only [List.getElem_toArray, List.getElem_cons_zero, List.getElem_cons_succ, Act.put, List.setIfInBounds_toArray, List.set_cons_zero, List.set_cons_succ]
    refine wpAnyH_take (i := 8) (oi := _) (v := ?_) rfl (by kernel_rfl) (by kernel_rfl) (by kernel_rfl) (fun _ _ _ h => h) (Or.inl ⟨by rfl, ?_⟩) (by assumption) ?_
    rotate_left 1
    · (intro w hSw; (try dsimp only at hSw); go_simp; try with_reducible rfl)
    try simp only [List.getElem_toArray, List.getElem_cons_zero, List.getElem_cons_succ, Act.put, List.setIfInBounds_toArray, List.set_cons_zero, List.set_cons_succ]
    refine wpAnyH_take (i := 9) (oi := _) (v := ?_) rfl (by kernel_rfl) (by kernel_rfl) (by kernel_rfl) (fun _ _ _ h => h) (Or.inl ⟨by rfl, ?_⟩) (by assumption) ?_
    rotate_left 1
    · (intro w hSw; (try dsimp only at hSw); go_simp; try with_reducible rfl)
    try simp only [List.getElem_toArray, List.getElem_cons_zero, List.getElem_cons_succ, Act.put, List.setIfInBounds_toArray, List.set_cons_zero, List.set_cons_succ]
    refine wpAnyH_take (i := 10) (oi := _) (v := ?_) rfl (by kernel_rfl) (by kernel_rfl) (by kernel_rfl) (fun _ _ _ h => h) (Or.inl ⟨by rfl, ?_⟩) (by assumption) ?_
    rotate_left 1
    · (intro w hSw; (try dsimp only at hSw); go_simp; try with_reducible rfl)
    try simp only [List.getElem_toArray, List.getElem_cons_zero, List.getElem_cons_succ, Act.put, List.setIfInBounds_toArray, List.set_cons_zero, List.set_cons_succ]
    refine wpAnyH_take (i := 11) (oi := _) (v := ?_) rfl (by kernel_rfl) (by kernel_rfl) (by kernel_rfl) (fun _ _ _ h => h) (Or.inl ⟨by rfl, ?_⟩) (by assumption) ?_
    rotate_left 1
    · (intro w hSw; (try dsimp only at hSw); go_simp; try with_reducible rfl)
    try simp only [List.getElem_toArray, List.getElem_cons_zero, List.getElem_cons_succ, Act.put, List.setIfInBounds_toArray, List.set_cons_zero, List.set_cons_succ]
    refine wpAnyH_take (i := 12) (oi := _) (v := ?_) rfl (by kernel_rfl) (by kernel_rfl) (by kernel_rfl) (fun _ _ _ h => h) (Or.inl ⟨by rfl, ?_⟩) (by assumption) ?_
    rotate_left 1
    · (intro w hSw; (try dsimp only at hSw); go_simp; try with_reducible rfl)
    try simp only [List.getElem_toArray, List.getElem_cons_zero, List.getElem_cons_succ, Act.put, List.setIfInBounds_toArray, List.set_cons_zero, List.set_cons_succ]
    refine wpAnyH_take (i := 13) (oi := _) (v := ?_) rfl (by kernel_rfl) (by kernel_rfl) (by kernel_rfl) (fun _ _ _ h => h) (Or.inl ⟨by rfl, ?_⟩) (by assumption) ?_
    rotate_left 1
    · (intro w hSw; (try dsimp only at hSw); go_simp; try with_reducible rfl)
    try simp only [List.getElem_toArray, List.getElem_cons_zero, List.getElem_cons_succ, Act.put, List.setIfInBounds_toArray, List.set_cons_zero, List.set_cons_succ]
    refine wpAnyH_take (i := 14) (oi := _) (v := ?_) rfl (by kernel_rfl) (by kernel_rfl) (by kernel_rfl) (fun _ _ _ h => h) (Or.inl ⟨by rfl, ?_⟩) (by assumption) ?_
    rotate_left 1
    · (intro w hSw; (try dsimp only at hSw); go_simp; try with_reducible rfl)
    try simp only [List.getElem_toArray, List.getElem_cons_zero, List.getElem_cons_succ, Act.put, List.setIfInBounds_toArray, List.set_cons_zero, List.set_cons_succ]
    refine wpAnyH_take (i := 15) (oi := _) (v := ?_) rfl (by kernel_rfl) (by kernel_rfl) (by kernel_rfl) (fun _ _ _ h => h) (Or.inl ⟨by rfl, ?_⟩) (by assumption) ?_
    rotate_left 1
    · (intro w hSw; (try dsimp only at hSw); go_simp; try with_reducible rfl)
    try simp only [List.getElem_toArray, List.getElem_cons_zero, List.getElem_cons_succ, Act.put, List.setIfInBounds_toArray, List.set_cons_zero, List.set_cons_succ]
    refine wpAnyH_take (i := 16) (oi := _) (v := ?_) rfl (by kernel_rfl) (by kernel_rfl) (by kernel_rfl) (fun _ _ _ h => h) (Or.inl ⟨by rfl, ?_⟩) (by assumption) ?_
    rotate_left 1
    · (intro w hSw; (try dsimp only at hSw); go_simp; try with_reducible rfl)
    try simp only [List.getElem_toArray, List.getElem_cons_zero, List.getElem_cons_succ, Act.put, List.setIfInBounds_toArray, List.set_cons_zero, List.set_cons_succ]
    refine wpAnyH_take (i := 17) (oi := _) (v := ?_) rfl (by kernel_rfl) (by kernel_rfl) (by kernel_rfl) (fun _ _ _ h => h) (Or.inl ⟨by rfl, ?_⟩) (by assumption) ?_
    rotate_left 1
    · (intro w hSw; (try dsimp only at hSw); go_simp; try with_reducible rfl)
    try simp only [List.getElem_toArray, List.getElem_cons_zero, List.getElem_cons_succ, Act.put, List.setIfInBounds_toArray, List.set_cons_zero, List.set_cons_succ]
    refine wpAnyH_ready (rs := [18]) (by kernel_rfl) (by simp) ?_
    refine AllReadyH.cons (o := _) rfl (fun K hK => ?_) AllReadyH.nil
    rw [if_pos (by kernel_rfl)]
    simp only [List.getElem_toArray, List.getElem_cons_zero, List.getElem_cons_succ]
    go_simp
    (with_reducible refine (ne_v HR.out.2.2.1 HR.out.2.2.2.1 HR.out.1 HR.out.2.1 HN.out.2.1).mono ?_)
    rintro e w7 ⟨rfl, hb⟩
    replace HU := Lib.hid (HU.out.next hb)
    replace UA := Lib.hid (UA.out.next hb)
    replace UB := Lib.hid (UB.out.next hb)
    replace UC := Lib.hid (UC.out.next hb)
    replace UX := Lib.hid (UX.out.next hb)
    replace U2 := Lib.hid (U2.out.next hb)
    replace U3 := Lib.hid (U3.out.next hb)
    replace U4 := Lib.hid (U4.out.next hb)
    clear hb hHeld
    refine hK.out _ _ ⟨vr_c0 U2.out.now, vr_c1 U2.out.now, vr_c0 U3.out.now, vr_c1 U3.out.now, vr_c0 U4.out.now, vr_c1 U4.out.now⟩ (fun hHeld => ?_)
    clear hK K
    try simp only [List.getElem_toArray, List.getElem_cons_zero, List.getElem_cons_succ, Act.put, List.setIfInBounds_toArray, List.set_cons_zero, List.set_cons_succ]
    refine wpAnyH_take (i := 19) (oi := _) (v := ?_) rfl (by kernel_rfl) (by kernel_rfl) (by kernel_rfl) (fun _ _ _ h => h) (Or.inl ⟨by rfl, ?_⟩) (by assumption) ?_
    rotate_left 1
    · (intro w hSw; (try dsimp only at hSw); go_simp; try with_reducible rfl)
    try simp only [List.getElem_toArray, List.getElem_cons_zero, List.getElem_cons_succ, Act.put, List.setIfInBounds_toArray, List.set_cons_zero, List.set_cons_succ]
    refine wpAnyH_take (i := 20) (oi := _) (v := ?_) rfl (by kernel_rfl) (by kernel_rfl) (by kernel_rfl) (fun _ _ _ h => h) (Or.inl ⟨by rfl, ?_⟩) (by assumption) ?_
    rotate_left 1
    · (intro w hSw; (try dsimp only at hSw); go_simp; try with_reducible rfl)
    try simp only [List.getElem_toArray, List.getElem_cons_zero, List.getElem_cons_succ, Act.put, List.setIfInBounds_toArray, List.set_cons_zero, List.set_cons_succ]
    refine wpAnyH_take (i := 21) (oi := _) (v := ?_) rfl (by kernel_rfl) (by kernel_rfl) (by kernel_rfl) (fun _ _ _ h => h) (Or.inl ⟨by rfl, ?_⟩) (by assumption) ?_
    rotate_left 1
    · (intro w hSw; (try dsimp only at hSw); go_simp; try with_reducible rfl)
    try simp only [List.getElem_toArray, List.getElem_cons_zero, List.getElem_cons_succ, Act.put, List.setIfInBounds_toArray, List.set_cons_zero, List.set_cons_succ]
    refine wpAnyH_take (i := 22) (oi := _) (v := ?_) rfl (by kernel_rfl) (by kernel_rfl) (by kernel_rfl) (fun _ _ _ h => h) (Or.inl ⟨by rfl, ?_⟩) (by assumption) ?_
    rotate_left 1
    · (intro w hSw; (try dsimp only at hSw); go_simp; try with_reducible rfl)
    try simp only [List.getElem_toArray, List.getElem_cons_zero, List.getElem_cons_succ, Act.put, List.setIfInBounds_toArray, List.set_cons_zero, List.set_cons_succ]
    refine wpAnyH_take (i := 23) (oi := _) (v := ?_) rfl (by kernel_rfl) (by kernel_rfl) (by kernel_rfl) (fun _ _ _ h => h) (Or.inl ⟨by rfl, ?_⟩) (by assumption) ?_
    rotate_left 1
    · (intro w hSw; (try dsimp only at hSw); go_simp; try with_reducible rfl)
    try simp only [List.getElem_toArray, List.getElem_cons_zero, List.getElem_cons_succ, Act.put, List.setIfInBounds_toArray, List.set_cons_zero, List.set_cons_succ]
    refine wpAnyH_take (i := 24) (oi := _) (v := ?_) rfl (by kernel_rfl) (by kernel_rfl) (by kernel_rfl) (fun _ _ _ h => h) (Or.inl ⟨by rfl, ?_⟩) (by assumption) ?_
    rotate_left 1
    · (intro w hSw; (try dsimp only at hSw); go_simp; try with_reducible rfl)
    try simp only [List.getElem_toArray, List.getElem_cons_zero, List.getElem_cons_succ, Act.put, List.setIfInBounds_toArray, List.set_cons_zero, List.set_cons_succ]
    refine wpAnyH_take (i := 26) (oi := _) (v := ?_) rfl (by kernel_rfl) (by kernel_rfl) (by kernel_rfl) (fun _ _ _ h => h) (Or.inl ⟨by rfl, ?_⟩) (by assumption) ?_
    rotate_left 1
    · (intro w hSw; (try dsimp only at hSw); go_simp; try with_reducible rfl)
    try simp only [List.getElem_toArray, List.getElem_cons_zero, List.getElem_cons_succ, Act.put, List.setIfInBounds_toArray, List.set_cons_zero, List.set_cons_succ]
    refine wpAnyH_take (i := 27) (oi := _) (v := ?_) rfl (by kernel_rfl) (by kernel_rfl) (by kernel_rfl) (fun _ _ _ h => h) (Or.inl ⟨by rfl, ?_⟩) (by assumption) ?_
    rotate_left 1
    · (intro w hSw; (try dsimp only at hSw); go_simp; try with_reducible rfl)
    try simp only [List.getElem_toArray, List.getElem_cons_zero, List.getElem_cons_succ, Act.put, List.setIfInBounds_toArray, List.set_cons_zero, List.set_cons_succ]
    refine wpAnyH_ready (rs := [25]) (by kernel_rfl) (by simp) ?_
    refine AllReadyH.cons (o := _) rfl (fun K hK => ?_) AllReadyH.nil
    rw [if_pos (by kernel_rfl)]
    simp only [List.getElem_toArray, List.getElem_cons_zero, List.getElem_cons_succ]
    go_simp
    (with_reducible refine (ne_v HR.out.1 HR.out.2.1 HR.out.2.2.2.2.1 HR.out.2.2.2.2.2 HN.out.2.2.1).mono ?_)
    rintro e w8 ⟨rfl, hb⟩
    replace HU := Lib.hid (HU.out.next hb)
    replace UA := Lib.hid (UA.out.next hb)
    replace UB := Lib.hid (UB.out.next hb)
    replace UC := Lib.hid (UC.out.next hb)
    replace UX := Lib.hid (UX.out.next hb)
    replace U2 := Lib.hid (U2.out.next hb)
    replace U3 := Lib.hid (U3.out.next hb)
    replace U4 := Lib.hid (U4.out.next hb)
    clear hb hHeld
    refine hK.out _ _ ⟨vr_c0 U2.out.now, vr_c1 U2.out.now, vr_c0 U3.out.now, vr_c1 U3.out.now, vr_c0 U4.out.now, vr_c1 U4.out.now⟩ (fun hHeld => ?_)
    clear hK K
    try simp only [List.getElem_toArray, List.getElem_cons_zero, List.getElem_cons_succ, Act.put, List.setIfInBounds_toArray, List.set_cons_zero, List.set_cons_succ]
    refine wpAnyH_ready (rs := [28]) (by kernel_rfl) (by simp) ?_
    refine AllReadyH.cons (o := _) rfl (fun K hK => ?_) AllReadyH.nil
    rw [if_pos (by kernel_rfl)]
    simp only [List.getElem_toArray, List.getElem_cons_zero, List.getElem_cons_succ]
    go_simp
    (with_reducible refine (ne_v HR.out.2.2.2.2.1 HR.out.2.2.2.2.2 HR.out.2.2.1 HR.out.2.2.2.1 HN.out.2.2.2.1).mono ?_)
    rintro e w9 ⟨rfl, hb⟩
    replace HU := Lib.hid (HU.out.next hb)
    replace UA := Lib.hid (UA.out.next hb)
    replace UB := Lib.hid (UB.out.next hb)
    replace UC := Lib.hid (UC.out.next hb)
    replace UX := Lib.hid (UX.out.next hb)
    replace U2 := Lib.hid (U2.out.next hb)
    replace U3 := Lib.hid (U3.out.next hb)
    replace U4 := Lib.hid (U4.out.next hb)
    clear hb hHeld
    refine hK.out _ _ ⟨vr_c0 U2.out.now, vr_c1 U2.out.now, vr_c0 U3.out.now, vr_c1 U3.out.now, vr_c0 U4.out.now, vr_c1 U4.out.now⟩ (fun hHeld => ?_)
    clear hK K
    try simp only [List.getElem_toArray, List.getElem_cons_zero, List.getElem_cons_succ, Act.put, List.setIfInBounds_toArray, List.set_cons_zero, List.set_cons_succ]
    refine wpAnyH_take (i := 29) (oi := _) (v := ?_) rfl (by kernel_rfl) (by kernel_rfl) (by kernel_rfl) (fun _ _ _ h => h) (Or.inl ⟨by rfl, ?_⟩) (by assumption) ?_
    rotate_left 1
    · (intro w hSw; (try dsimp only at hSw); go_simp; try with_reducible rfl)
    try simp only [List.getElem_toArray, List.getElem_cons_zero, List.getElem_cons_succ, Act.put, List.setIfInBounds_toArray, List.set_cons_zero, List.set_cons_succ]
    refine wpAnyH_take (i := 30) (oi := _) (v := ?_) rfl (by kernel_rfl) (by kernel_rfl) (by kernel_rfl) (fun _ _ _ h => h) (Or.inl ⟨by rfl, ?_⟩) (by assumption) ?_
    rotate_left 1
    · (intro w hSw; (try dsimp only at hSw); go_simp; try with_reducible rfl)
    try simp only [List.getElem_toArray, List.getElem_cons_zero, List.getElem_cons_succ, Act.put, List.setIfInBounds_toArray, List.set_cons_zero, List.set_cons_succ]
    refine wpAnyH_take (i := 31) (oi := _) (v := ?_) rfl (by kernel_rfl) (by kernel_rfl) (by kernel_rfl) (fun _ _ _ h => h) (Or.inl ⟨by rfl, ?_⟩) (by assumption) ?_
    rotate_left 1
    · (intro w hSw; (try dsimp only at hSw); go_simp; try with_reducible rfl)
    try simp only [List.getElem_toArray, List.getElem_cons_zero, List.getElem_cons_succ, Act.put, List.setIfInBounds_toArray, List.set_cons_zero, List.set_cons_succ]
    refine wpAnyH_done (by kernel_rfl) ?_ _
    clear hq1 hq2 hq3 hq4 hq5
    have hl0 := (row_cell U2.out.now 0).trans (show _ = some (.int .i64 (ax : Int)) from rfl)
    have hl1 := (row_cell U2.out.now 1).trans (show _ = some (.int .i64 (ay : Int)) from rfl)
    have hl2 := (row_cell U3.out.now 0).trans (show _ = some (.int .i64 (ax : Int)) from rfl)
    have hl3 := (row_cell U3.out.now 1).trans (show _ = some (.int .i64 (ay : Int)) from rfl)
    have hl4 := HS.out.1
    have hl5 := HS.out.2.1
    have hl6 := HS.out.2.2.1
    have hl7 := HS.out.2.2.2.1
    have hl8 := HS.out.2.2.2.2.1
    have hl9 := HS.out.2.2.2.2.2.1
    go_wp2_with fail
    clear hl0 hl1 hl2 hl3 hl4 hl5 hl6 hl7 hl8 hl9
    (with_reducible refine (ne_v HS.out.2.2.2.2.2.2.1 HR.out.2.1 HS.out.2.2.2.2.2.2.1 HR.out.2.1 (ne_eq0 HR.out.1 HS.out.2.2.2.2.2.2.1 HN.out.1)).mono ?_)
    rintro e w10 ⟨rfl, hb⟩
    replace HU := Lib.hid (HU.out.next hb)
    replace UA := Lib.hid (UA.out.next hb)
    replace UB := Lib.hid (UB.out.next hb)
    replace UC := Lib.hid (UC.out.next hb)
    replace UX := Lib.hid (UX.out.next hb)
    replace U2 := Lib.hid (U2.out.next hb)
    replace U3 := Lib.hid (U3.out.next hb)
    replace U4 := Lib.hid (U4.out.next hb)
    clear hb
    go_wp2_with fail
    (with_reducible refine (madeV UX.out.now).mono ?_)
    rintro e w11 ⟨f, b11, o11, c11, rfl, hs, hb⟩
    replace HU := Lib.hid (HU.out.next hb)
    replace UA := Lib.hid (UA.out.next hb)
    replace UB := Lib.hid (UB.out.next hb)
    replace UC := Lib.hid (UC.out.next hb)
    replace UX := Lib.hid (UX.out.next hb)
    replace U2 := Lib.hid (U2.out.next hb)
    replace U3 := Lib.hid (U3.out.next hb)
    replace U4 := Lib.hid (U4.out.next hb)
    obtain ⟨x11, B11, e1, e2, hb2, hk⟩ := box1 w11 #[.slice (some ⟨b11, o11, none⟩) 24 c11] 25
    have U11 := Lib.hid (up_va (Sl.below hs (Nat.le_refl _) hb2) hk : Up x11 (VA B11 b11 o11 c11 (f)))
    replace HU := Lib.hid (HU.out.next hb2)
    replace UA := Lib.hid (UA.out.next hb2)
    replace UB := Lib.hid (UB.out.next hb2)
    replace UC := Lib.hid (UC.out.next hb2)
    replace UX := Lib.hid (UX.out.next hb2)
    replace U2 := Lib.hid (U2.out.next hb2)
    replace U3 := Lib.hid (U3.out.next hb2)
    replace U4 := Lib.hid (U4.out.next hb2)
    clear hs hb hb2 hk
    go_wp2_with fail
    clear e1 e2
    (with_reducible refine (PD.out _).mono ?_)
    rintro e w12 ⟨rfl, hb⟩
    replace HU := Lib.hid (HU.out.next hb)
    replace UA := Lib.hid (UA.out.next hb)
    replace UB := Lib.hid (UB.out.next hb)
    replace UC := Lib.hid (UC.out.next hb)
    replace UX := Lib.hid (UX.out.next hb)
    replace U2 := Lib.hid (U2.out.next hb)
    replace U3 := Lib.hid (U3.out.next hb)
    replace U4 := Lib.hid (U4.out.next hb)
    replace U11 := Lib.hid (U11.out.next hb)
    clear hb
    have hl0 := U11.out.now.cell
    go_wp2_with fail
    clear hl0
    (with_reducible refine (grownV d HD.out U11.out.now.1).mono ?_)
    rintro e w13 ⟨b13, o13, c13, rfl, hs, hb⟩
    replace HU := Lib.hid (HU.out.next hb)
    replace UA := Lib.hid (UA.out.next hb)
    replace UB := Lib.hid (UB.out.next hb)
    replace UC := Lib.hid (UC.out.next hb)
    replace UX := Lib.hid (UX.out.next hb)
    replace U2 := Lib.hid (U2.out.next hb)
    replace U3 := Lib.hid (U3.out.next hb)
    replace U4 := Lib.hid (U4.out.next hb)
    replace U11 := Lib.hid (U11.out.next hb)
    obtain ⟨x13, B13, e1, e2, hb2, hk⟩ := box1 w13 #[.slice (some ⟨b13, o13, none⟩) 24 c13] 25
    have U13 := Lib.hid (up_va (Sl.below hs (Nat.le_refl _) hb2) hk : Up x13 (VA B13 b13 o13 c13 (grown f d)))
    replace HU := Lib.hid (HU.out.next hb2)
    replace UA := Lib.hid (UA.out.next hb2)
    replace UB := Lib.hid (UB.out.next hb2)
    replace UC := Lib.hid (UC.out.next hb2)
    replace UX := Lib.hid (UX.out.next hb2)
    replace U2 := Lib.hid (U2.out.next hb2)
    replace U3 := Lib.hid (U3.out.next hb2)
    replace U4 := Lib.hid (U4.out.next hb2)
    replace U11 := Lib.hid (U11.out.next hb2)
    clear hs hb hb2 hk
    obtain ⟨l, el⟩ : ∃ l, cellsTo f 24 = l := ⟨_, rfl⟩
    obtain ⟨N, eN⟩ : ∃ N, l.length = N := ⟨_, rfl⟩
    have HL := Lib.hid (show _ ∧ _ from ⟨el, eN⟩)
    clear el eN
    have hl0 := U11.out.now.cell
    go_wp2_with fail
    clear e1 e2
    clear hl0
    (with_reducible refine (ne_cells (c := c11) HL.out.1 HL.out.2 U11.out.now.1 HU.out.now.2).mono ?_)
    rintro e w14 ⟨rl, rc, rfl, hcs, hb⟩
    replace HU := Lib.hid (HU.out.next hb)
    replace UA := Lib.hid (UA.out.next hb)
    replace UB := Lib.hid (UB.out.next hb)
    replace UC := Lib.hid (UC.out.next hb)
    replace UX := Lib.hid (UX.out.next hb)
    replace U2 := Lib.hid (U2.out.next hb)
    replace U3 := Lib.hid (U3.out.next hb)
    replace U4 := Lib.hid (U4.out.next hb)
    replace U11 := Lib.hid (U11.out.next hb)
    replace U13 := Lib.hid (U13.out.next hb)
    have UL := Lib.hid (up_cs hcs)
    have UW := Lib.hid (up_b w14)
    clear hcs hb
    clear U11
    go_wp2
    go_loopw [23, 25] (fun nv iv wr => ∃ (i : Nat) (r : Bool), i ≤ N ∧ iv = .int .i64 i ∧ nv = .bool r ∧ nearTo ax ay d l i = r ∧ Below w14.heap.size w14 wr) (fun _ iv _ => N - (intOf iv).toNat)
    case atStart => exact ⟨0, false, by omega, rfl, rfl, rfl, Below.refl _ _⟩
    case round =>
      obtain ⟨i, r, hi, rfl, rfl, hr, hB⟩ := hrel
      replace HU := Lib.hid (HU.out.next hB)
      replace UA := Lib.hid (UA.out.next hB)
      replace UB := Lib.hid (UB.out.next hB)
      replace UC := Lib.hid (UC.out.next hB)
      replace UX := Lib.hid (UX.out.next hB)
      replace U2 := Lib.hid (U2.out.next hB)
      replace U3 := Lib.hid (U3.out.next hB)
      replace U4 := Lib.hid (U4.out.next hB)
      replace U13 := Lib.hid (U13.out.next hB)
      replace UL := Lib.hid (UL.out.next hB)
      replace UW := Lib.hid (UW.out.next hB)
      clear hB
      replace hr := Lib.hid hr
      have i0 : (0 : Int) ≤ i := by omega
      by_cases hlt : i < N
      · have i1 : (i : Int) < N := by omega
        have i2 : (i : Int) < 1152 := by have := UL.out.now.2.1; omega
        have HM := Lib.hid (show i + 1 ≤ N ∧ N - (i + 1) < N - i by omega)
        obtain ⟨lb, px, py, rfl, hp, hpp⟩ := cs_at UL.out hlt
        have HP := Lib.hid hp
        have HPB := Lib.hid (ne_mem HL.out.1 hp)
        replace hpp := Lib.hid hpp
        clear hp
        obtain ⟨np, hnp⟩ : ∃ np, near ax ay px py = np := ⟨_, rfl⟩
        replace hnp := Lib.hid hnp
        rcases r with _ | _
        · rcases Nat.lt_or_ge d np with gd | gd
          · have gK : ¬ ((np : Int) ≤ (d : Int)) := by omega
            have gL := Lib.hid gd
            clear gd
            go_wp2
            have hd : Below wr.heap.size wr wr.drew := (Below.refl _ _).drew
            replace HU := Lib.hid (HU.out.next hd)
            replace UA := Lib.hid (UA.out.next hd)
            replace UB := Lib.hid (UB.out.next hd)
            replace UC := Lib.hid (UC.out.next hd)
            replace UX := Lib.hid (UX.out.next hd)
            replace U2 := Lib.hid (U2.out.next hd)
            replace U3 := Lib.hid (U3.out.next hd)
            replace U4 := Lib.hid (U4.out.next hd)
            replace U13 := Lib.hid (U13.out.next hd)
            replace UL := Lib.hid (UL.out.next hd)
            replace UW := Lib.hid (UW.out.next hd)
            replace hpp := Lib.hid (hpp.out.next hd)
            clear hd
            refine wp_region_held_drew (S := fun w' => w'.cell? ⟨B2, 0, none⟩ = some (.int .i64 (ax : Int)) ∧ w'.cell? ⟨B2, 1, none⟩ = some (.int .i64 (ay : Int)) ∧ w'.cell? ⟨lb, i * 2, none⟩ = some (.int .i64 (px : Int)) ∧ w'.cell? ⟨lb, i * 2 + 1, none⟩ = some (.int .i64 (py : Int))) (by kernel_rfl) ⟨vr_c0 U2.out.now, vr_c1 U2.out.now, hpp.out.now.1, hpp.out.now.2⟩ (fun hHeld => ?_)
            refine wpAnyH_take (i := 0) (oi := _) (v := ?_) rfl (by kernel_rfl) (by kernel_rfl) (by kernel_rfl) (fun _ _ _ h => h) (Or.inl ⟨by rfl, ?_⟩) (by assumption) ?_
            rotate_left 1
            · (intro w hSw; (try dsimp only at hSw); go_simp; try with_reducible rfl)
            try simp only [List.getElem_toArray, List.getElem_cons_zero, List.getElem_cons_succ, Act.put, List.setIfInBounds_toArray, List.set_cons_zero, List.set_cons_succ]
            refine wpAnyH_take (i := 1) (oi := _) (v := ?_) rfl (by kernel_rfl) (by kernel_rfl) (by kernel_rfl) (fun _ _ _ h => h) (Or.inl ⟨by rfl, ?_⟩) (by assumption) ?_
            rotate_left 1
            · (intro w hSw; (try dsimp only at hSw); go_simp; try with_reducible rfl)
            try simp only [List.getElem_toArray, List.getElem_cons_zero, List.getElem_cons_succ, Act.put, List.setIfInBounds_toArray, List.set_cons_zero, List.set_cons_succ]
            refine wpAnyH_take (i := 2) (oi := _) (v := ?_) rfl (by kernel_rfl) (by kernel_rfl) (by kernel_rfl) (fun _ _ _ h => h) (Or.inl ⟨by rfl, ?_⟩) (by assumption) ?_
            rotate_left 1
            · (intro w hSw; (try dsimp only at hSw); go_simp; try with_reducible rfl)
            try simp only [List.getElem_toArray, List.getElem_cons_zero, List.getElem_cons_succ, Act.put, List.setIfInBounds_toArray, List.set_cons_zero, List.set_cons_succ]
            refine wpAnyH_take (i := 3) (oi := _) (v := ?_) rfl (by kernel_rfl) (by kernel_rfl) (by kernel_rfl) (fun _ _ _ h => h) (Or.inl ⟨by rfl, ?_⟩) (by assumption) ?_
            rotate_left 1
            · (intro w hSw; (try dsimp only at hSw); go_simp; try with_reducible rfl)
            try simp only [List.getElem_toArray, List.getElem_cons_zero, List.getElem_cons_succ, Act.put, List.setIfInBounds_toArray, List.set_cons_zero, List.set_cons_succ]
            refine wpAnyH_take (i := 4) (oi := _) (v := ?_) rfl (by kernel_rfl) (by kernel_rfl) (by kernel_rfl) (fun _ _ _ h => h) (Or.inl ⟨by rfl, ?_⟩) (by assumption) ?_
            rotate_left 1
            · (intro w hSw; (try dsimp only at hSw); go_simp; try with_reducible rfl)
            try simp only [List.getElem_toArray, List.getElem_cons_zero, List.getElem_cons_succ, Act.put, List.setIfInBounds_toArray, List.set_cons_zero, List.set_cons_succ]
            refine wpAnyH_take (i := 5) (oi := _) (v := ?_) rfl (by kernel_rfl) (by kernel_rfl) (by kernel_rfl) (fun _ _ _ h => h) (Or.inl ⟨by rfl, ?_⟩) (by assumption) ?_
            rotate_left 1
            · (intro w hSw; (try dsimp only at hSw); go_simp; try with_reducible rfl)
            try simp only [List.getElem_toArray, List.getElem_cons_zero, List.getElem_cons_succ, Act.put, List.setIfInBounds_toArray, List.set_cons_zero, List.set_cons_succ]
            refine wpAnyH_take (i := 6) (oi := _) (v := ?_) rfl (by kernel_rfl) (by kernel_rfl) (by kernel_rfl) (fun _ _ _ h => h) (Or.inl ⟨by rfl, ?_⟩) (by assumption) ?_
            rotate_left 1
            · (intro w hSw; (try dsimp only at hSw); go_simp; try with_reducible rfl)
            try simp only [List.getElem_toArray, List.getElem_cons_zero, List.getElem_cons_succ, Act.put, List.setIfInBounds_toArray, List.set_cons_zero, List.set_cons_succ]
            refine wpAnyH_take (i := 8) (oi := _) (v := ?_) rfl (by kernel_rfl) (by kernel_rfl) (by kernel_rfl) (fun _ _ _ h => h) (Or.inl ⟨by rfl, ?_⟩) (by assumption) ?_
            rotate_left 1
            · (intro w hSw; (try dsimp only at hSw); go_simp; try with_reducible rfl)
            try simp only [List.getElem_toArray, List.getElem_cons_zero, List.getElem_cons_succ, Act.put, List.setIfInBounds_toArray, List.set_cons_zero, List.set_cons_succ]
            refine wpAnyH_ready (rs := [7]) (by kernel_rfl) (by simp) ?_
            refine AllReadyH.cons (o := _) rfl (fun K hK => ?_) AllReadyH.nil
            rw [if_pos (by kernel_rfl)]
            simp only [List.getElem_toArray, List.getElem_cons_zero, List.getElem_cons_succ]
            go_simp
            (with_reducible refine (ne_v HR.out.1 HR.out.2.1 HPB.out.1 HPB.out.2 hnp.out).mono ?_)
            rintro e w15 ⟨rfl, hb⟩
            replace HU := Lib.hid (HU.out.next hb)
            replace UA := Lib.hid (UA.out.next hb)
            replace UB := Lib.hid (UB.out.next hb)
            replace UC := Lib.hid (UC.out.next hb)
            replace UX := Lib.hid (UX.out.next hb)
            replace U2 := Lib.hid (U2.out.next hb)
            replace U3 := Lib.hid (U3.out.next hb)
            replace U4 := Lib.hid (U4.out.next hb)
            replace U13 := Lib.hid (U13.out.next hb)
            replace UL := Lib.hid (UL.out.next hb)
            replace UW := Lib.hid (UW.out.next hb)
            replace hpp := Lib.hid (hpp.out.next hb)
            clear hb hHeld
            refine hK.out _ _ ⟨vr_c0 U2.out.now, vr_c1 U2.out.now, hpp.out.now.1, hpp.out.now.2⟩ (fun hHeld => ?_)
            clear hK K
            try simp only [List.getElem_toArray, List.getElem_cons_zero, List.getElem_cons_succ, Act.put, List.setIfInBounds_toArray, List.set_cons_zero, List.set_cons_succ]
            refine wpAnyH_take (i := 9) (oi := _) (v := ?_) rfl (by kernel_rfl) (by kernel_rfl) (by kernel_rfl) (fun _ _ _ h => h) (Or.inl ⟨by rfl, ?_⟩) (by assumption) ?_
            rotate_left 1
            · (intro w hSw; (try dsimp only at hSw); go_simp; try with_reducible rfl)
            try simp only [List.getElem_toArray, List.getElem_cons_zero, List.getElem_cons_succ, Act.put, List.setIfInBounds_toArray, List.set_cons_zero, List.set_cons_succ]
            refine wpAnyH_take (i := 10) (oi := _) (v := ?_) rfl (by kernel_rfl) (by kernel_rfl) (by kernel_rfl) (fun _ _ _ h => h) (Or.inl ⟨by rfl, ?_⟩) (by assumption) ?_
            rotate_left 1
            · (intro w hSw; (try dsimp only at hSw); go_simp; try with_reducible rfl)
            try simp only [List.getElem_toArray, List.getElem_cons_zero, List.getElem_cons_succ, Act.put, List.setIfInBounds_toArray, List.set_cons_zero, List.set_cons_succ]
            refine wpAnyH_take (i := 11) (oi := _) (v := ?_) rfl (by kernel_rfl) (by kernel_rfl) (by kernel_rfl) (fun _ _ _ h => h) (Or.inl ⟨by rfl, ?_⟩) (by assumption) ?_
            rotate_left 1
            · (intro w hSw; (try dsimp only at hSw); go_simp; try with_reducible rfl)
            try simp only [List.getElem_toArray, List.getElem_cons_zero, List.getElem_cons_succ, Act.put, List.setIfInBounds_toArray, List.set_cons_zero, List.set_cons_succ]
            refine wpAnyH_done (by kernel_rfl) ?_ _
            clear gK
            go_wp2
            refine ⟨⟨i + 1, false, HM.out.1, by go_num, ?_, ?_, UW.out.now⟩, ?_⟩
            · first | rfl | exact congrArg Value.bool (decide_eq_false (by have := gL.out; omega))
            · exact ne_stepF HP.out hr.out hnp.out gL.out
            · have hm := HM.out.2; clear HM; simp only [intOf, Int.toNat_natCast]; first | exact hm | (simp; omega)
          · have gK : ((np : Int) ≤ (d : Int)) := by omega
            have gL := Lib.hid gd
            clear gd
            go_wp2
            have hd : Below wr.heap.size wr wr.drew := (Below.refl _ _).drew
            replace HU := Lib.hid (HU.out.next hd)
            replace UA := Lib.hid (UA.out.next hd)
            replace UB := Lib.hid (UB.out.next hd)
            replace UC := Lib.hid (UC.out.next hd)
            replace UX := Lib.hid (UX.out.next hd)
            replace U2 := Lib.hid (U2.out.next hd)
            replace U3 := Lib.hid (U3.out.next hd)
            replace U4 := Lib.hid (U4.out.next hd)
            replace U13 := Lib.hid (U13.out.next hd)
            replace UL := Lib.hid (UL.out.next hd)
            replace UW := Lib.hid (UW.out.next hd)
            replace hpp := Lib.hid (hpp.out.next hd)
            clear hd
            refine wp_region_held_drew (S := fun w' => w'.cell? ⟨B2, 0, none⟩ = some (.int .i64 (ax : Int)) ∧ w'.cell? ⟨B2, 1, none⟩ = some (.int .i64 (ay : Int)) ∧ w'.cell? ⟨lb, i * 2, none⟩ = some (.int .i64 (px : Int)) ∧ w'.cell? ⟨lb, i * 2 + 1, none⟩ = some (.int .i64 (py : Int))) (by kernel_rfl) ⟨vr_c0 U2.out.now, vr_c1 U2.out.now, hpp.out.now.1, hpp.out.now.2⟩ (fun hHeld => ?_)
            refine wpAnyH_take (i := 0) (oi := _) (v := ?_) rfl (by kernel_rfl) (by kernel_rfl) (by kernel_rfl) (fun _ _ _ h => h) (Or.inl ⟨by rfl, ?_⟩) (by assumption) ?_
            rotate_left 1
            · (intro w hSw; (try dsimp only at hSw); go_simp; try with_reducible rfl)
            try simp only [List.getElem_toArray, List.getElem_cons_zero, List.getElem_cons_succ, Act.put, List.setIfInBounds_toArray, List.set_cons_zero, List.set_cons_succ]
            refine wpAnyH_take (i := 1) (oi := _) (v := ?_) rfl (by kernel_rfl) (by kernel_rfl) (by kernel_rfl) (fun _ _ _ h => h) (Or.inl ⟨by rfl, ?_⟩) (by assumption) ?_
            rotate_left 1
            · (intro w hSw; (try dsimp only at hSw); go_simp; try with_reducible rfl)
            try simp only [List.getElem_toArray, List.getElem_cons_zero, List.getElem_cons_succ, Act.put, List.setIfInBounds_toArray, List.set_cons_zero, List.set_cons_succ]
            refine wpAnyH_take (i := 2) (oi := _) (v := ?_) rfl (by kernel_rfl) (by kernel_rfl) (by kernel_rfl) (fun _ _ _ h => h) (Or.inl ⟨by rfl, ?_⟩) (by assumption) ?_
            rotate_left 1
            · (intro w hSw; (try dsimp only at hSw); go_simp; try with_reducible rfl)
            try simp only [List.getElem_toArray, List.getElem_cons_zero, List.getElem_cons_succ, Act.put, List.setIfInBounds_toArray, List.set_cons_zero, List.set_cons_succ]
            refine wpAnyH_take (i := 3) (oi := _) (v := ?_) rfl (by kernel_rfl) (by kernel_rfl) (by kernel_rfl) (fun _ _ _ h => h) (Or.inl ⟨by rfl, ?_⟩) (by assumption) ?_
            rotate_left 1
            · (intro w hSw; (try dsimp only at hSw); go_simp; try with_reducible rfl)
            try simp only [List.getElem_toArray, List.getElem_cons_zero, List.getElem_cons_succ, Act.put, List.setIfInBounds_toArray, List.set_cons_zero, List.set_cons_succ]
            refine wpAnyH_take (i := 4) (oi := _) (v := ?_) rfl (by kernel_rfl) (by kernel_rfl) (by kernel_rfl) (fun _ _ _ h => h) (Or.inl ⟨by rfl, ?_⟩) (by assumption) ?_
            rotate_left 1
            · (intro w hSw; (try dsimp only at hSw); go_simp; try with_reducible rfl)
            try simp only [List.getElem_toArray, List.getElem_cons_zero, List.getElem_cons_succ, Act.put, List.setIfInBounds_toArray, List.set_cons_zero, List.set_cons_succ]
            refine wpAnyH_take (i := 5) (oi := _) (v := ?_) rfl (by kernel_rfl) (by kernel_rfl) (by kernel_rfl) (fun _ _ _ h => h) (Or.inl ⟨by rfl, ?_⟩) (by assumption) ?_
            rotate_left 1
            · (intro w hSw; (try dsimp only at hSw); go_simp; try with_reducible rfl)
            try simp only [List.getElem_toArray, List.getElem_cons_zero, List.getElem_cons_succ, Act.put, List.setIfInBounds_toArray, List.set_cons_zero, List.set_cons_succ]
            refine wpAnyH_take (i := 6) (oi := _) (v := ?_) rfl (by kernel_rfl) (by kernel_rfl) (by kernel_rfl) (fun _ _ _ h => h) (Or.inl ⟨by rfl, ?_⟩) (by assumption) ?_
            rotate_left 1
            · (intro w hSw; (try dsimp only at hSw); go_simp; try with_reducible rfl)
            try simp only [List.getElem_toArray, List.getElem_cons_zero, List.getElem_cons_succ, Act.put, List.setIfInBounds_toArray, List.set_cons_zero, List.set_cons_succ]
            refine wpAnyH_take (i := 8) (oi := _) (v := ?_) rfl (by kernel_rfl) (by kernel_rfl) (by kernel_rfl) (fun _ _ _ h => h) (Or.inl ⟨by rfl, ?_⟩) (by assumption) ?_
            rotate_left 1
            · (intro w hSw; (try dsimp only at hSw); go_simp; try with_reducible rfl)
            try simp only [List.getElem_toArray, List.getElem_cons_zero, List.getElem_cons_succ, Act.put, List.setIfInBounds_toArray, List.set_cons_zero, List.set_cons_succ]
            refine wpAnyH_ready (rs := [7]) (by kernel_rfl) (by simp) ?_
            refine AllReadyH.cons (o := _) rfl (fun K hK => ?_) AllReadyH.nil
            rw [if_pos (by kernel_rfl)]
            simp only [List.getElem_toArray, List.getElem_cons_zero, List.getElem_cons_succ]
            go_simp
            (with_reducible refine (ne_v HR.out.1 HR.out.2.1 HPB.out.1 HPB.out.2 hnp.out).mono ?_)
            rintro e w15 ⟨rfl, hb⟩
            replace HU := Lib.hid (HU.out.next hb)
            replace UA := Lib.hid (UA.out.next hb)
            replace UB := Lib.hid (UB.out.next hb)
            replace UC := Lib.hid (UC.out.next hb)
            replace UX := Lib.hid (UX.out.next hb)
            replace U2 := Lib.hid (U2.out.next hb)
            replace U3 := Lib.hid (U3.out.next hb)
            replace U4 := Lib.hid (U4.out.next hb)
            replace U13 := Lib.hid (U13.out.next hb)
            replace UL := Lib.hid (UL.out.next hb)
            replace UW := Lib.hid (UW.out.next hb)
            replace hpp := Lib.hid (hpp.out.next hb)
            clear hb hHeld
            refine hK.out _ _ ⟨vr_c0 U2.out.now, vr_c1 U2.out.now, hpp.out.now.1, hpp.out.now.2⟩ (fun hHeld => ?_)
            clear hK K
            try simp only [List.getElem_toArray, List.getElem_cons_zero, List.getElem_cons_succ, Act.put, List.setIfInBounds_toArray, List.set_cons_zero, List.set_cons_succ]
            refine wpAnyH_take (i := 9) (oi := _) (v := ?_) rfl (by kernel_rfl) (by kernel_rfl) (by kernel_rfl) (fun _ _ _ h => h) (Or.inl ⟨by rfl, ?_⟩) (by assumption) ?_
            rotate_left 1
            · (intro w hSw; (try dsimp only at hSw); go_simp; try with_reducible rfl)
            try simp only [List.getElem_toArray, List.getElem_cons_zero, List.getElem_cons_succ, Act.put, List.setIfInBounds_toArray, List.set_cons_zero, List.set_cons_succ]
            refine wpAnyH_take (i := 10) (oi := _) (v := ?_) rfl (by kernel_rfl) (by kernel_rfl) (by kernel_rfl) (fun _ _ _ h => h) (Or.inl ⟨by rfl, ?_⟩) (by assumption) ?_
            rotate_left 1
            · (intro w hSw; (try dsimp only at hSw); go_simp; try with_reducible rfl)
            try simp only [List.getElem_toArray, List.getElem_cons_zero, List.getElem_cons_succ, Act.put, List.setIfInBounds_toArray, List.set_cons_zero, List.set_cons_succ]
            refine wpAnyH_take (i := 11) (oi := _) (v := ?_) rfl (by kernel_rfl) (by kernel_rfl) (by kernel_rfl) (fun _ _ _ h => h) (Or.inl ⟨by rfl, ?_⟩) (by assumption) ?_
            rotate_left 1
            · (intro w hSw; (try dsimp only at hSw); go_simp; try with_reducible rfl)
            try simp only [List.getElem_toArray, List.getElem_cons_zero, List.getElem_cons_succ, Act.put, List.setIfInBounds_toArray, List.set_cons_zero, List.set_cons_succ]
            refine wpAnyH_done (by kernel_rfl) ?_ _
            clear gK
            go_wp2
            refine ⟨⟨i + 1, true, HM.out.1, by go_num, ?_, ?_, UW.out.now⟩, ?_⟩
            · first | rfl | exact congrArg Value.bool (decide_eq_true (by have := gL.out; omega))
            · exact ne_stepT HP.out hr.out hnp.out gL.out
            · have hm := HM.out.2; clear HM; simp only [intOf, Int.toNat_natCast]; first | exact hm | (simp; omega)
        · go_wp2
          have hd : Below wr.heap.size wr wr.drew := (Below.refl _ _).drew
          replace HU := Lib.hid (HU.out.next hd)
          replace UA := Lib.hid (UA.out.next hd)
          replace UB := Lib.hid (UB.out.next hd)
          replace UC := Lib.hid (UC.out.next hd)
          replace UX := Lib.hid (UX.out.next hd)
          replace U2 := Lib.hid (U2.out.next hd)
          replace U3 := Lib.hid (U3.out.next hd)
          replace U4 := Lib.hid (U4.out.next hd)
          replace U13 := Lib.hid (U13.out.next hd)
          replace UL := Lib.hid (UL.out.next hd)
          replace UW := Lib.hid (UW.out.next hd)
          replace hpp := Lib.hid (hpp.out.next hd)
          clear hd
          refine wp_region_held_drew (S := fun w' => w'.cell? ⟨B2, 0, none⟩ = some (.int .i64 (ax : Int)) ∧ w'.cell? ⟨B2, 1, none⟩ = some (.int .i64 (ay : Int))) (by kernel_rfl) ⟨vr_c0 U2.out.now, vr_c1 U2.out.now⟩ (fun hHeld => ?_)
          refine wpAnyH_take (i := 0) (oi := _) (v := ?_) rfl (by kernel_rfl) (by kernel_rfl) (by kernel_rfl) (fun _ _ _ h => h) (Or.inl ⟨by rfl, ?_⟩) (by assumption) ?_
          rotate_left 1
          · (intro w hSw; (try dsimp only at hSw); go_simp; try with_reducible rfl)
          try simp only [List.getElem_toArray, List.getElem_cons_zero, List.getElem_cons_succ, Act.put, List.setIfInBounds_toArray, List.set_cons_zero, List.set_cons_succ]
          refine wpAnyH_take (i := 1) (oi := _) (v := ?_) rfl (by kernel_rfl) (by kernel_rfl) (by kernel_rfl) (fun _ _ _ h => h) (Or.inl ⟨by rfl, ?_⟩) (by assumption) ?_
          rotate_left 1
          · (intro w hSw; (try dsimp only at hSw); go_simp; try with_reducible rfl)
          try simp only [List.getElem_toArray, List.getElem_cons_zero, List.getElem_cons_succ, Act.put, List.setIfInBounds_toArray, List.set_cons_zero, List.set_cons_succ]
          refine wpAnyH_take (i := 2) (oi := _) (v := undef) rfl (by kernel_rfl) (by kernel_rfl) (by kernel_rfl) (fun _ _ _ h => h) (Or.inr ⟨by rfl, rfl⟩) (by assumption) ?_
          try simp only [List.getElem_toArray, List.getElem_cons_zero, List.getElem_cons_succ, Act.put, List.setIfInBounds_toArray, List.set_cons_zero, List.set_cons_succ]
          refine wpAnyH_take (i := 3) (oi := _) (v := undef) rfl (by kernel_rfl) (by kernel_rfl) (by kernel_rfl) (fun _ _ _ h => h) (Or.inr ⟨by rfl, rfl⟩) (by assumption) ?_
          try simp only [List.getElem_toArray, List.getElem_cons_zero, List.getElem_cons_succ, Act.put, List.setIfInBounds_toArray, List.set_cons_zero, List.set_cons_succ]
          refine wpAnyH_take (i := 4) (oi := _) (v := undef) rfl (by kernel_rfl) (by kernel_rfl) (by kernel_rfl) (fun _ _ _ h => h) (Or.inr ⟨by rfl, rfl⟩) (by assumption) ?_
          try simp only [List.getElem_toArray, List.getElem_cons_zero, List.getElem_cons_succ, Act.put, List.setIfInBounds_toArray, List.set_cons_zero, List.set_cons_succ]
          refine wpAnyH_take (i := 5) (oi := _) (v := undef) rfl (by kernel_rfl) (by kernel_rfl) (by kernel_rfl) (fun _ _ _ h => h) (Or.inr ⟨by rfl, rfl⟩) (by assumption) ?_
          try simp only [List.getElem_toArray, List.getElem_cons_zero, List.getElem_cons_succ, Act.put, List.setIfInBounds_toArray, List.set_cons_zero, List.set_cons_succ]
          refine wpAnyH_take (i := 6) (oi := _) (v := undef) rfl (by kernel_rfl) (by kernel_rfl) (by kernel_rfl) (fun _ _ _ h => h) (Or.inr ⟨by rfl, rfl⟩) (by assumption) ?_
          try simp only [List.getElem_toArray, List.getElem_cons_zero, List.getElem_cons_succ, Act.put, List.setIfInBounds_toArray, List.set_cons_zero, List.set_cons_succ]
          refine wpAnyH_take (i := 7) (oi := _) (v := undef) rfl (by kernel_rfl) (by kernel_rfl) (by kernel_rfl) (fun _ _ _ h => h) (Or.inr ⟨by rfl, rfl⟩) (by assumption) ?_
          try simp only [List.getElem_toArray, List.getElem_cons_zero, List.getElem_cons_succ, Act.put, List.setIfInBounds_toArray, List.set_cons_zero, List.set_cons_succ]
          refine wpAnyH_take (i := 8) (oi := _) (v := undef) rfl (by kernel_rfl) (by kernel_rfl) (by kernel_rfl) (fun _ _ _ h => h) (Or.inr ⟨by rfl, rfl⟩) (by assumption) ?_
          try simp only [List.getElem_toArray, List.getElem_cons_zero, List.getElem_cons_succ, Act.put, List.setIfInBounds_toArray, List.set_cons_zero, List.set_cons_succ]
          refine wpAnyH_take (i := 9) (oi := _) (v := undef) rfl (by kernel_rfl) (by kernel_rfl) (by kernel_rfl) (fun _ _ _ h => h) (Or.inr ⟨by rfl, rfl⟩) (by assumption) ?_
          try simp only [List.getElem_toArray, List.getElem_cons_zero, List.getElem_cons_succ, Act.put, List.setIfInBounds_toArray, List.set_cons_zero, List.set_cons_succ]
          refine wpAnyH_take (i := 10) (oi := _) (v := ?_) rfl (by kernel_rfl) (by kernel_rfl) (by kernel_rfl) (fun _ _ _ h => h) (Or.inl ⟨by rfl, ?_⟩) (by assumption) ?_
          rotate_left 1
          · (intro w hSw; (try dsimp only at hSw); go_simp; try with_reducible rfl)
          try simp only [List.getElem_toArray, List.getElem_cons_zero, List.getElem_cons_succ, Act.put, List.setIfInBounds_toArray, List.set_cons_zero, List.set_cons_succ]
          refine wpAnyH_take (i := 11) (oi := _) (v := ?_) rfl (by kernel_rfl) (by kernel_rfl) (by kernel_rfl) (fun _ _ _ h => h) (Or.inl ⟨by rfl, ?_⟩) (by assumption) ?_
          rotate_left 1
          · (intro w hSw; (try dsimp only at hSw); go_simp; try with_reducible rfl)
          try simp only [List.getElem_toArray, List.getElem_cons_zero, List.getElem_cons_succ, Act.put, List.setIfInBounds_toArray, List.set_cons_zero, List.set_cons_succ]
          refine wpAnyH_done (by kernel_rfl) ?_ _
          go_wp2
          refine ⟨⟨i + 1, true, HM.out.1, by go_num, ?_, ?_, UW.out.now⟩, ?_⟩
          · first | rfl | exact congrArg Value.bool (decide_eq_true (by have := gL.out; omega))
          · exact ne_stepO HP.out hr.out
          · have hm := HM.out.2; clear HM; simp only [intOf, Int.toNat_natCast]; first | exact hm | (simp; omega)
      · have hN : i = N := by omega
        have HN2 := Lib.hid hN
        have i1 : ¬ ((i : Int) < N) := by omega
        clear hN hlt hi
        have hl0 := U13.out.now.cell
        have hl1 := (row_cell U2.out.now 0).trans (show _ = some (.int .i64 (ax : Int)) from rfl)
        have hl2 := (row_cell U2.out.now 1).trans (show _ = some (.int .i64 (ay : Int)) from rfl)
        go_wp2_with fail
        clear hl0 hl1 hl2
        clear i1
        (with_reducible refine ((hasV ax ay HR.out.1 HR.out.2.1 U13.out.now.1).mono (OutV.as (congrArg Value.bool (ne_end HL.out.1 HL.out.2 HN2.out hr.out HR.out.1 HR.out.2.1)))).mono ?_)
        rintro e w15 ⟨rfl, hb⟩
        replace HU := Lib.hid (HU.out.next hb)
        replace UA := Lib.hid (UA.out.next hb)
        replace UB := Lib.hid (UB.out.next hb)
        replace UC := Lib.hid (UC.out.next hb)
        replace UX := Lib.hid (UX.out.next hb)
        replace U2 := Lib.hid (U2.out.next hb)
        replace U3 := Lib.hid (U3.out.next hb)
        replace U4 := Lib.hid (U4.out.next hb)
        replace U13 := Lib.hid (U13.out.next hb)
        replace UL := Lib.hid (UL.out.next hb)
        replace UW := Lib.hid (UW.out.next hb)
        clear hb
        go_wp2
        go_ret
        exact ⟨rfl, HU.out.now.1⟩
  · have hq1 : ¬ ((nab : Int) < 0) := by omega
    have hq2 : ¬ ((24 : Int) < (nab : Int)) := by have := HN.out.2.2.2.2.1; omega
    have hq3 := HN.out.2.2.2.2.2.1
    have hq4 : ¬ (sac < (nab : Int)) := by have := HN.out.2.2.2.2.2.2.1; omega
    have hq5 : ((nab : Int) == 0) = false := ne_diff HN.out.1 HR.out.1 HR.out.2.2.1 (fun h => hE h.1)
    have hq6 : ((ax : Int) == (bx : Int)) = false := by rw [beq_eq_false_iff_ne]; omega
    clear hE
    have hd : Below w6.heap.size w6 w6.drew := (Below.refl _ _).drew
    replace HU := Lib.hid (HU.out.next hd)
    replace UA := Lib.hid (UA.out.next hd)
    replace UB := Lib.hid (UB.out.next hd)
    replace UC := Lib.hid (UC.out.next hd)
    replace UX := Lib.hid (UX.out.next hd)
    replace U2 := Lib.hid (U2.out.next hd)
    replace U3 := Lib.hid (U3.out.next hd)
    replace U4 := Lib.hid (U4.out.next hd)
    clear hd
    refine wp_region_held_drew (S := fun w' => w'.cell? ⟨B2, 0, none⟩ = some (.int .i64 (ax : Int)) ∧ w'.cell? ⟨B2, 1, none⟩ = some (.int .i64 (ay : Int)) ∧ w'.cell? ⟨B3, 0, none⟩ = some (.int .i64 (bx : Int)) ∧ w'.cell? ⟨B3, 1, none⟩ = some (.int .i64 (yb : Int)) ∧ w'.cell? ⟨B4, 0, none⟩ = some (.int .i64 (cx : Int)) ∧ w'.cell? ⟨B4, 1, none⟩ = some (.int .i64 (cy : Int))) (by kernel_rfl) ⟨vr_c0 U2.out.now, vr_c1 U2.out.now, vr_c0 U3.out.now, vr_c1 U3.out.now, vr_c0 U4.out.now, vr_c1 U4.out.now⟩ (fun hHeld => ?_)
    refine wpAnyH_take (i := 0) (oi := _) (v := ?_) rfl (by kernel_rfl) (by kernel_rfl) (by kernel_rfl) (fun _ _ _ h => h) (Or.inl ⟨by rfl, ?_⟩) (by assumption) ?_
    rotate_left 1
    · (intro w hSw; (try dsimp only at hSw); go_simp; try with_reducible rfl)
    try simp only [List.getElem_toArray, List.getElem_cons_zero, List.getElem_cons_succ, Act.put, List.setIfInBounds_toArray, List.set_cons_zero, List.set_cons_succ]
    refine wpAnyH_take (i := 1) (oi := _) (v := ?_) rfl (by kernel_rfl) (by kernel_rfl) (by kernel_rfl) (fun _ _ _ h => h) (Or.inl ⟨by rfl, ?_⟩) (by assumption) ?_
    rotate_left 1
    · (intro w hSw; (try dsimp only at hSw); go_simp; try with_reducible rfl)
    try simp only [List.getElem_toArray, List.getElem_cons_zero, List.getElem_cons_succ, Act.put, List.setIfInBounds_toArray, List.set_cons_zero, List.set_cons_succ]
    refine wpAnyH_take (i := 2) (oi := _) (v := ?_) rfl (by kernel_rfl) (by kernel_rfl) (by kernel_rfl) (fun _ _ _ h => h) (Or.inl ⟨by rfl, ?_⟩) (by assumption) ?_
    rotate_left 1
    · (intro w hSw; (try dsimp only at hSw); go_simp; try with_reducible rfl)
    try simp only [List.getElem_toArray, List.getElem_cons_zero, List.getElem_cons_succ, Act.put, List.setIfInBounds_toArray, List.set_cons_zero, List.set_cons_succ]
    refine wpAnyH_take (i := 3) (oi := _) (v := ?_) rfl (by kernel_rfl) (by kernel_rfl) (by kernel_rfl) (fun _ _ _ h => h) (Or.inl ⟨by rfl, ?_⟩) (by assumption) ?_
    rotate_left 1
    · (intro w hSw; (try dsimp only at hSw); go_simp; try with_reducible rfl)
    try simp only [List.getElem_toArray, List.getElem_cons_zero, List.getElem_cons_succ, Act.put, List.setIfInBounds_toArray, List.set_cons_zero, List.set_cons_succ]
    refine wpAnyH_take (i := 4) (oi := _) (v := ?_) rfl (by kernel_rfl) (by kernel_rfl) (by kernel_rfl) (fun _ _ _ h => h) (Or.inl ⟨by rfl, ?_⟩) (by assumption) ?_
    rotate_left 1
    · (intro w hSw; (try dsimp only at hSw); go_simp; try with_reducible rfl)
    try simp only [List.getElem_toArray, List.getElem_cons_zero, List.getElem_cons_succ, Act.put, List.setIfInBounds_toArray, List.set_cons_zero, List.set_cons_succ]
    refine wpAnyH_take (i := 5) (oi := _) (v := ?_) rfl (by kernel_rfl) (by kernel_rfl) (by kernel_rfl) (fun _ _ _ h => h) (Or.inl ⟨by rfl, ?_⟩) (by assumption) ?_
    rotate_left 1
    · (intro w hSw; (try dsimp only at hSw); go_simp; try with_reducible rfl)
    try simp only [List.getElem_toArray, List.getElem_cons_zero, List.getElem_cons_succ, Act.put, List.setIfInBounds_toArray, List.set_cons_zero, List.set_cons_succ]
    refine wpAnyH_take (i := 6) (oi := _) (v := ?_) rfl (by kernel_rfl) (by kernel_rfl) (by kernel_rfl) (fun _ _ _ h => h) (Or.inl ⟨by rfl, ?_⟩) (by assumption) ?_
    rotate_left 1
    · (intro w hSw; (try dsimp only at hSw); go_simp; try with_reducible rfl)
    try simp only [List.getElem_toArray, List.getElem_cons_zero, List.getElem_cons_succ, Act.put, List.setIfInBounds_toArray, List.set_cons_zero, List.set_cons_succ]
    refine wpAnyH_take (i := 7) (oi := _) (v := ?_) rfl (by kernel_rfl) (by kernel_rfl) (by kernel_rfl) (fun _ _ _ h => h) (Or.inl ⟨by rfl, ?_⟩) (by assumption) ?_
    rotate_left 1
    · (intro w hSw; (try dsimp only at hSw); go_simp; try with_reducible rfl)
    try simp only [List.getElem_toArray, List.getElem_cons_zero, List.getElem_cons_succ, Act.put, List.setIfInBounds_toArray, List.set_cons_zero, List.set_cons_succ]
    refine wpAnyH_take (i := 8) (oi := _) (v := ?_) rfl (by kernel_rfl) (by kernel_rfl) (by kernel_rfl) (fun _ _ _ h => h) (Or.inl ⟨by rfl, ?_⟩) (by assumption) ?_
    rotate_left 1
    · (intro w hSw; (try dsimp only at hSw); go_simp; try with_reducible rfl)
    try simp only [List.getElem_toArray, List.getElem_cons_zero, List.getElem_cons_succ, Act.put, List.setIfInBounds_toArray, List.set_cons_zero, List.set_cons_succ]
    refine wpAnyH_take (i := 9) (oi := _) (v := ?_) rfl (by kernel_rfl) (by kernel_rfl) (by kernel_rfl) (fun _ _ _ h => h) (Or.inl ⟨by rfl, ?_⟩) (by assumption) ?_
    rotate_left 1
    · (intro w hSw; (try dsimp only at hSw); go_simp; try with_reducible rfl)
    try simp only [List.getElem_toArray, List.getElem_cons_zero, List.getElem_cons_succ, Act.put, List.setIfInBounds_toArray, List.set_cons_zero, List.set_cons_succ]
    refine wpAnyH_take (i := 10) (oi := _) (v := ?_) rfl (by kernel_rfl) (by kernel_rfl) (by kernel_rfl) (fun _ _ _ h => h) (Or.inl ⟨by rfl, ?_⟩) (by assumption) ?_
    rotate_left 1
    · (intro w hSw; (try dsimp only at hSw); go_simp; try with_reducible rfl)
    try simp only [List.getElem_toArray, List.getElem_cons_zero, List.getElem_cons_succ, Act.put, List.setIfInBounds_toArray, List.set_cons_zero, List.set_cons_succ]
    refine wpAnyH_take (i := 11) (oi := _) (v := ?_) rfl (by kernel_rfl) (by kernel_rfl) (by kernel_rfl) (fun _ _ _ h => h) (Or.inl ⟨by rfl, ?_⟩) (by assumption) ?_
    rotate_left 1
    · (intro w hSw; (try dsimp only at hSw); go_simp; try with_reducible rfl)
    try simp only [List.getElem_toArray, List.getElem_cons_zero, List.getElem_cons_succ, Act.put, List.setIfInBounds_toArray, List.set_cons_zero, List.set_cons_succ]
    refine wpAnyH_take (i := 12) (oi := _) (v := ?_) rfl (by kernel_rfl) (by kernel_rfl) (by kernel_rfl) (fun _ _ _ h => h) (Or.inl ⟨by rfl, ?_⟩) (by assumption) ?_
    rotate_left 1
    · (intro w hSw; (try dsimp only at hSw); go_simp; try with_reducible rfl)
    try simp only [List.getElem_toArray, List.getElem_cons_zero, List.getElem_cons_succ, Act.put, List.setIfInBounds_toArray, List.set_cons_zero, List.set_cons_succ]
    refine wpAnyH_take (i := 13) (oi := _) (v := ?_) rfl (by kernel_rfl) (by kernel_rfl) (by kernel_rfl) (fun _ _ _ h => h) (Or.inl ⟨by rfl, ?_⟩) (by assumption) ?_
    rotate_left 1
    · (intro w hSw; (try dsimp only at hSw); go_simp; try with_reducible rfl)
    try simp only [List.getElem_toArray, List.getElem_cons_zero, List.getElem_cons_succ, Act.put, List.setIfInBounds_toArray, List.set_cons_zero, List.set_cons_succ]
    refine wpAnyH_take (i := 14) (oi := _) (v := ?_) rfl (by kernel_rfl) (by kernel_rfl) (by kernel_rfl) (fun _ _ _ h => h) (Or.inl ⟨by rfl, ?_⟩) (by assumption) ?_
    rotate_left 1
    · (intro w hSw; (try dsimp only at hSw); go_simp; try with_reducible rfl)
    try simp only [List.getElem_toArray, List.getElem_cons_zero, List.getElem_cons_succ, Act.put, List.setIfInBounds_toArray, List.set_cons_zero, List.set_cons_succ]
    refine wpAnyH_take (i := 15) (oi := _) (v := ?_) rfl (by kernel_rfl) (by kernel_rfl) (by kernel_rfl) (fun _ _ _ h => h) (Or.inl ⟨by rfl, ?_⟩) (by assumption) ?_
    rotate_left 1
    · (intro w hSw; (try dsimp only at hSw); go_simp; try with_reducible rfl)
    try simp only [List.getElem_toArray, List.getElem_cons_zero, List.getElem_cons_succ, Act.put, List.setIfInBounds_toArray, List.set_cons_zero, List.set_cons_succ]
    refine wpAnyH_take (i := 16) (oi := _) (v := ?_) rfl (by kernel_rfl) (by kernel_rfl) (by kernel_rfl) (fun _ _ _ h => h) (Or.inl ⟨by rfl, ?_⟩) (by assumption) ?_
    rotate_left 1
    · (intro w hSw; (try dsimp only at hSw); go_simp; try with_reducible rfl)
    try simp only [List.getElem_toArray, List.getElem_cons_zero, List.getElem_cons_succ, Act.put, List.setIfInBounds_toArray, List.set_cons_zero, List.set_cons_succ]
    refine wpAnyH_take (i := 17) (oi := _) (v := ?_) rfl (by kernel_rfl) (by kernel_rfl) (by kernel_rfl) (fun _ _ _ h => h) (Or.inl ⟨by rfl, ?_⟩) (by assumption) ?_
    rotate_left 1
    · (intro w hSw; (try dsimp only at hSw); go_simp; try with_reducible rfl)
    try simp only [List.getElem_toArray, List.getElem_cons_zero, List.getElem_cons_succ, Act.put, List.setIfInBounds_toArray, List.set_cons_zero, List.set_cons_succ]
    refine wpAnyH_ready (rs := [18]) (by kernel_rfl) (by simp) ?_
    refine AllReadyH.cons (o := _) rfl (fun K hK => ?_) AllReadyH.nil
    rw [if_pos (by kernel_rfl)]
    simp only [List.getElem_toArray, List.getElem_cons_zero, List.getElem_cons_succ]
    go_simp
    (with_reducible refine (ne_v HR.out.2.2.1 HR.out.2.2.2.1 HR.out.1 HR.out.2.1 HN.out.2.1).mono ?_)
    rintro e w7 ⟨rfl, hb⟩
    replace HU := Lib.hid (HU.out.next hb)
    replace UA := Lib.hid (UA.out.next hb)
    replace UB := Lib.hid (UB.out.next hb)
    replace UC := Lib.hid (UC.out.next hb)
    replace UX := Lib.hid (UX.out.next hb)
    replace U2 := Lib.hid (U2.out.next hb)
    replace U3 := Lib.hid (U3.out.next hb)
    replace U4 := Lib.hid (U4.out.next hb)
    clear hb hHeld
    refine hK.out _ _ ⟨vr_c0 U2.out.now, vr_c1 U2.out.now, vr_c0 U3.out.now, vr_c1 U3.out.now, vr_c0 U4.out.now, vr_c1 U4.out.now⟩ (fun hHeld => ?_)
    clear hK K
    try simp only [List.getElem_toArray, List.getElem_cons_zero, List.getElem_cons_succ, Act.put, List.setIfInBounds_toArray, List.set_cons_zero, List.set_cons_succ]
    refine wpAnyH_take (i := 19) (oi := _) (v := ?_) rfl (by kernel_rfl) (by kernel_rfl) (by kernel_rfl) (fun _ _ _ h => h) (Or.inl ⟨by rfl, ?_⟩) (by assumption) ?_
    rotate_left 1
    · (intro w hSw; (try dsimp only at hSw); go_simp; try with_reducible rfl)
    try simp only [List.getElem_toArray, List.getElem_cons_zero, List.getElem_cons_succ, Act.put, List.setIfInBounds_toArray, List.set_cons_zero, List.set_cons_succ]
    refine wpAnyH_take (i := 20) (oi := _) (v := ?_) rfl (by kernel_rfl) (by kernel_rfl) (by kernel_rfl) (fun _ _ _ h => h) (Or.inl ⟨by rfl, ?_⟩) (by assumption) ?_
    rotate_left 1
    · (intro w hSw; (try dsimp only at hSw); go_simp; try with_reducible rfl)
    try simp only [List.getElem_toArray, List.getElem_cons_zero, List.getElem_cons_succ, Act.put, List.setIfInBounds_toArray, List.set_cons_zero, List.set_cons_succ]
    refine wpAnyH_take (i := 21) (oi := _) (v := ?_) rfl (by kernel_rfl) (by kernel_rfl) (by kernel_rfl) (fun _ _ _ h => h) (Or.inl ⟨by rfl, ?_⟩) (by assumption) ?_
    rotate_left 1
    · (intro w hSw; (try dsimp only at hSw); go_simp; try with_reducible rfl)
    try simp only [List.getElem_toArray, List.getElem_cons_zero, List.getElem_cons_succ, Act.put, List.setIfInBounds_toArray, List.set_cons_zero, List.set_cons_succ]
    refine wpAnyH_take (i := 22) (oi := _) (v := ?_) rfl (by kernel_rfl) (by kernel_rfl) (by kernel_rfl) (fun _ _ _ h => h) (Or.inl ⟨by rfl, ?_⟩) (by assumption) ?_
    rotate_left 1
    · (intro w hSw; (try dsimp only at hSw); go_simp; try with_reducible rfl)
    try simp only [List.getElem_toArray, List.getElem_cons_zero, List.getElem_cons_succ, Act.put, List.setIfInBounds_toArray, List.set_cons_zero, List.set_cons_succ]
    refine wpAnyH_take (i := 23) (oi := _) (v := ?_) rfl (by kernel_rfl) (by kernel_rfl) (by kernel_rfl) (fun _ _ _ h => h) (Or.inl ⟨by rfl, ?_⟩) (by assumption) ?_
    rotate_left 1
    · (intro w hSw; (try dsimp only at hSw); go_simp; try with_reducible rfl)
    try simp only [List.getElem_toArray, List.getElem_cons_zero, List.getElem_cons_succ, Act.put, List.setIfInBounds_toArray, List.set_cons_zero, List.set_cons_succ]
    refine wpAnyH_take (i := 24) (oi := _) (v := ?_) rfl (by kernel_rfl) (by kernel_rfl) (by kernel_rfl) (fun _ _ _ h => h) (Or.inl ⟨by rfl, ?_⟩) (by assumption) ?_
    rotate_left 1
    · (intro w hSw; (try dsimp only at hSw); go_simp; try with_reducible rfl)
    try simp only [List.getElem_toArray, List.getElem_cons_zero, List.getElem_cons_succ, Act.put, List.setIfInBounds_toArray, List.set_cons_zero, List.set_cons_succ]
    refine wpAnyH_take (i := 26) (oi := _) (v := ?_) rfl (by kernel_rfl) (by kernel_rfl) (by kernel_rfl) (fun _ _ _ h => h) (Or.inl ⟨by rfl, ?_⟩) (by assumption) ?_
    rotate_left 1
    · (intro w hSw; (try dsimp only at hSw); go_simp; try with_reducible rfl)
    try simp only [List.getElem_toArray, List.getElem_cons_zero, List.getElem_cons_succ, Act.put, List.setIfInBounds_toArray, List.set_cons_zero, List.set_cons_succ]
    refine wpAnyH_take (i := 27) (oi := _) (v := ?_) rfl (by kernel_rfl) (by kernel_rfl) (by kernel_rfl) (fun _ _ _ h => h) (Or.inl ⟨by rfl, ?_⟩) (by assumption) ?_
    rotate_left 1
    · (intro w hSw; (try dsimp only at hSw); go_simp; try with_reducible rfl)
    try simp only [List.getElem_toArray, List.getElem_cons_zero, List.getElem_cons_succ, Act.put, List.setIfInBounds_toArray, List.set_cons_zero, List.set_cons_succ]
    refine wpAnyH_ready (rs := [25]) (by kernel_rfl) (by simp) ?_
    refine AllReadyH.cons (o := _) rfl (fun K hK => ?_) AllReadyH.nil
    rw [if_pos (by kernel_rfl)]
    simp only [List.getElem_toArray, List.getElem_cons_zero, List.getElem_cons_succ]
    go_simp
    (with_reducible refine (ne_v HR.out.1 HR.out.2.1 HR.out.2.2.2.2.1 HR.out.2.2.2.2.2 HN.out.2.2.1).mono ?_)
    rintro e w8 ⟨rfl, hb⟩
    replace HU := Lib.hid (HU.out.next hb)
    replace UA := Lib.hid (UA.out.next hb)
    replace UB := Lib.hid (UB.out.next hb)
    replace UC := Lib.hid (UC.out.next hb)
    replace UX := Lib.hid (UX.out.next hb)
    replace U2 := Lib.hid (U2.out.next hb)
    replace U3 := Lib.hid (U3.out.next hb)
    replace U4 := Lib.hid (U4.out.next hb)
    clear hb hHeld
    refine hK.out _ _ ⟨vr_c0 U2.out.now, vr_c1 U2.out.now, vr_c0 U3.out.now, vr_c1 U3.out.now, vr_c0 U4.out.now, vr_c1 U4.out.now⟩ (fun hHeld => ?_)
    clear hK K
    try simp only [List.getElem_toArray, List.getElem_cons_zero, List.getElem_cons_succ, Act.put, List.setIfInBounds_toArray, List.set_cons_zero, List.set_cons_succ]
    refine wpAnyH_ready (rs := [28]) (by kernel_rfl) (by simp) ?_
    refine AllReadyH.cons (o := _) rfl (fun K hK => ?_) AllReadyH.nil
    rw [if_pos (by kernel_rfl)]
    simp only [List.getElem_toArray, List.getElem_cons_zero, List.getElem_cons_succ]
    go_simp
    (with_reducible refine (ne_v HR.out.2.2.2.2.1 HR.out.2.2.2.2.2 HR.out.2.2.1 HR.out.2.2.2.1 HN.out.2.2.2.1).mono ?_)
    rintro e w9 ⟨rfl, hb⟩
    replace HU := Lib.hid (HU.out.next hb)
    replace UA := Lib.hid (UA.out.next hb)
    replace UB := Lib.hid (UB.out.next hb)
    replace UC := Lib.hid (UC.out.next hb)
    replace UX := Lib.hid (UX.out.next hb)
    replace U2 := Lib.hid (U2.out.next hb)
    replace U3 := Lib.hid (U3.out.next hb)
    replace U4 := Lib.hid (U4.out.next hb)
    clear hb hHeld
    refine hK.out _ _ ⟨vr_c0 U2.out.now, vr_c1 U2.out.now, vr_c0 U3.out.now, vr_c1 U3.out.now, vr_c0 U4.out.now, vr_c1 U4.out.now⟩ (fun hHeld => ?_)
    clear hK K
    try simp only [List.getElem_toArray, List.getElem_cons_zero, List.getElem_cons_succ, Act.put, List.setIfInBounds_toArray, List.set_cons_zero, List.set_cons_succ]
    refine wpAnyH_take (i := 29) (oi := _) (v := ?_) rfl (by kernel_rfl) (by kernel_rfl) (by kernel_rfl) (fun _ _ _ h => h) (Or.inl ⟨by rfl, ?_⟩) (by assumption) ?_
    rotate_left 1
    · (intro w hSw; (try dsimp only at hSw); go_simp; try with_reducible rfl)
    try simp only [List.getElem_toArray, List.getElem_cons_zero, List.getElem_cons_succ, Act.put, List.setIfInBounds_toArray, List.set_cons_zero, List.set_cons_succ]
    refine wpAnyH_take (i := 30) (oi := _) (v := ?_) rfl (by kernel_rfl) (by kernel_rfl) (by kernel_rfl) (fun _ _ _ h => h) (Or.inl ⟨by rfl, ?_⟩) (by assumption) ?_
    rotate_left 1
    · (intro w hSw; (try dsimp only at hSw); go_simp; try with_reducible rfl)
    try simp only [List.getElem_toArray, List.getElem_cons_zero, List.getElem_cons_succ, Act.put, List.setIfInBounds_toArray, List.set_cons_zero, List.set_cons_succ]
    refine wpAnyH_take (i := 31) (oi := _) (v := ?_) rfl (by kernel_rfl) (by kernel_rfl) (by kernel_rfl) (fun _ _ _ h => h) (Or.inl ⟨by rfl, ?_⟩) (by assumption) ?_
    rotate_left 1
    · (intro w hSw; (try dsimp only at hSw); go_simp; try with_reducible rfl)
    try simp only [List.getElem_toArray, List.getElem_cons_zero, List.getElem_cons_succ, Act.put, List.setIfInBounds_toArray, List.set_cons_zero, List.set_cons_succ]
    refine wpAnyH_done (by kernel_rfl) ?_ _
    clear hq1 hq2 hq3 hq4 hq5 hq6
    have hl0 := (row_cell U2.out.now 0).trans (show _ = some (.int .i64 (ax : Int)) from rfl)
    have hl1 := (row_cell U2.out.now 1).trans (show _ = some (.int .i64 (ay : Int)) from rfl)
    have hl2 := (row_cell U3.out.now 0).trans (show _ = some (.int .i64 (bx : Int)) from rfl)
    have hl3 := (row_cell U3.out.now 1).trans (show _ = some (.int .i64 (yb : Int)) from rfl)
    have hl4 := HS.out.1
    have hl5 := HS.out.2.1
    have hl6 := HS.out.2.2.1
    have hl7 := HS.out.2.2.2.1
    have hl8 := HS.out.2.2.2.2.1
    have hl9 := HS.out.2.2.2.2.2.1
    go_wp2_with fail
    clear hl0 hl1 hl2 hl3 hl4 hl5 hl6 hl7 hl8 hl9
    (with_reducible refine (ne_v HS.out.2.2.2.2.2.2.1 HR.out.2.1 HS.out.2.2.2.2.2.2.2.1 HR.out.2.2.2.1 HS.out.2.2.2.2.2.2.2.2).mono ?_)
    rintro e w10 ⟨rfl, hb⟩
    replace HU := Lib.hid (HU.out.next hb)
    replace UA := Lib.hid (UA.out.next hb)
    replace UB := Lib.hid (UB.out.next hb)
    replace UC := Lib.hid (UC.out.next hb)
    replace UX := Lib.hid (UX.out.next hb)
    replace U2 := Lib.hid (U2.out.next hb)
    replace U3 := Lib.hid (U3.out.next hb)
    replace U4 := Lib.hid (U4.out.next hb)
    clear hb
    go_wp2_with fail
    (with_reducible refine (madeV UX.out.now).mono ?_)
    rintro e w11 ⟨f, b11, o11, c11, rfl, hs, hb⟩
    replace HU := Lib.hid (HU.out.next hb)
    replace UA := Lib.hid (UA.out.next hb)
    replace UB := Lib.hid (UB.out.next hb)
    replace UC := Lib.hid (UC.out.next hb)
    replace UX := Lib.hid (UX.out.next hb)
    replace U2 := Lib.hid (U2.out.next hb)
    replace U3 := Lib.hid (U3.out.next hb)
    replace U4 := Lib.hid (U4.out.next hb)
    obtain ⟨x11, B11, e1, e2, hb2, hk⟩ := box1 w11 #[.slice (some ⟨b11, o11, none⟩) 24 c11] 25
    have U11 := Lib.hid (up_va (Sl.below hs (Nat.le_refl _) hb2) hk : Up x11 (VA B11 b11 o11 c11 (f)))
    replace HU := Lib.hid (HU.out.next hb2)
    replace UA := Lib.hid (UA.out.next hb2)
    replace UB := Lib.hid (UB.out.next hb2)
    replace UC := Lib.hid (UC.out.next hb2)
    replace UX := Lib.hid (UX.out.next hb2)
    replace U2 := Lib.hid (U2.out.next hb2)
    replace U3 := Lib.hid (U3.out.next hb2)
    replace U4 := Lib.hid (U4.out.next hb2)
    clear hs hb hb2 hk
    go_wp2_with fail
    clear e1 e2
    (with_reducible refine (PD.out _).mono ?_)
    rintro e w12 ⟨rfl, hb⟩
    replace HU := Lib.hid (HU.out.next hb)
    replace UA := Lib.hid (UA.out.next hb)
    replace UB := Lib.hid (UB.out.next hb)
    replace UC := Lib.hid (UC.out.next hb)
    replace UX := Lib.hid (UX.out.next hb)
    replace U2 := Lib.hid (U2.out.next hb)
    replace U3 := Lib.hid (U3.out.next hb)
    replace U4 := Lib.hid (U4.out.next hb)
    replace U11 := Lib.hid (U11.out.next hb)
    clear hb
    have hl0 := U11.out.now.cell
    go_wp2_with fail
    clear hl0
    (with_reducible refine (grownV d HD.out U11.out.now.1).mono ?_)
    rintro e w13 ⟨b13, o13, c13, rfl, hs, hb⟩
    replace HU := Lib.hid (HU.out.next hb)
    replace UA := Lib.hid (UA.out.next hb)
    replace UB := Lib.hid (UB.out.next hb)
    replace UC := Lib.hid (UC.out.next hb)
    replace UX := Lib.hid (UX.out.next hb)
    replace U2 := Lib.hid (U2.out.next hb)
    replace U3 := Lib.hid (U3.out.next hb)
    replace U4 := Lib.hid (U4.out.next hb)
    replace U11 := Lib.hid (U11.out.next hb)
    obtain ⟨x13, B13, e1, e2, hb2, hk⟩ := box1 w13 #[.slice (some ⟨b13, o13, none⟩) 24 c13] 25
    have U13 := Lib.hid (up_va (Sl.below hs (Nat.le_refl _) hb2) hk : Up x13 (VA B13 b13 o13 c13 (grown f d)))
    replace HU := Lib.hid (HU.out.next hb2)
    replace UA := Lib.hid (UA.out.next hb2)
    replace UB := Lib.hid (UB.out.next hb2)
    replace UC := Lib.hid (UC.out.next hb2)
    replace UX := Lib.hid (UX.out.next hb2)
    replace U2 := Lib.hid (U2.out.next hb2)
    replace U3 := Lib.hid (U3.out.next hb2)
    replace U4 := Lib.hid (U4.out.next hb2)
    replace U11 := Lib.hid (U11.out.next hb2)
    clear hs hb hb2 hk
    obtain ⟨l, el⟩ : ∃ l, cellsTo f 24 = l := ⟨_, rfl⟩
    obtain ⟨N, eN⟩ : ∃ N, l.length = N := ⟨_, rfl⟩
    have HL := Lib.hid (show _ ∧ _ from ⟨el, eN⟩)
    clear el eN
    have hl0 := U11.out.now.cell
    go_wp2_with fail
    clear e1 e2
    clear hl0
    (with_reducible refine (ne_cells (c := c11) HL.out.1 HL.out.2 U11.out.now.1 HU.out.now.2).mono ?_)
    rintro e w14 ⟨rl, rc, rfl, hcs, hb⟩
    replace HU := Lib.hid (HU.out.next hb)
    replace UA := Lib.hid (UA.out.next hb)
    replace UB := Lib.hid (UB.out.next hb)
    replace UC := Lib.hid (UC.out.next hb)
    replace UX := Lib.hid (UX.out.next hb)
    replace U2 := Lib.hid (U2.out.next hb)
    replace U3 := Lib.hid (U3.out.next hb)
    replace U4 := Lib.hid (U4.out.next hb)
    replace U11 := Lib.hid (U11.out.next hb)
    replace U13 := Lib.hid (U13.out.next hb)
    have UL := Lib.hid (up_cs hcs)
    have UW := Lib.hid (up_b w14)
    clear hcs hb
    clear U11
    go_wp2
    go_loopw [23, 25] (fun nv iv wr => ∃ (i : Nat) (r : Bool), i ≤ N ∧ iv = .int .i64 i ∧ nv = .bool r ∧ nearTo ax ay d l i = r ∧ Below w14.heap.size w14 wr) (fun _ iv _ => N - (intOf iv).toNat)
    case atStart => exact ⟨0, false, by omega, rfl, rfl, rfl, Below.refl _ _⟩
    case round =>
      obtain ⟨i, r, hi, rfl, rfl, hr, hB⟩ := hrel
      replace HU := Lib.hid (HU.out.next hB)
      replace UA := Lib.hid (UA.out.next hB)
      replace UB := Lib.hid (UB.out.next hB)
      replace UC := Lib.hid (UC.out.next hB)
      replace UX := Lib.hid (UX.out.next hB)
      replace U2 := Lib.hid (U2.out.next hB)
      replace U3 := Lib.hid (U3.out.next hB)
      replace U4 := Lib.hid (U4.out.next hB)
      replace U13 := Lib.hid (U13.out.next hB)
      replace UL := Lib.hid (UL.out.next hB)
      replace UW := Lib.hid (UW.out.next hB)
      clear hB
      replace hr := Lib.hid hr
      have i0 : (0 : Int) ≤ i := by omega
      by_cases hlt : i < N
      · have i1 : (i : Int) < N := by omega
        have i2 : (i : Int) < 1152 := by have := UL.out.now.2.1; omega
        have HM := Lib.hid (show i + 1 ≤ N ∧ N - (i + 1) < N - i by omega)
        obtain ⟨lb, px, py, rfl, hp, hpp⟩ := cs_at UL.out hlt
        have HP := Lib.hid hp
        have HPB := Lib.hid (ne_mem HL.out.1 hp)
        replace hpp := Lib.hid hpp
        clear hp
        obtain ⟨np, hnp⟩ : ∃ np, near ax ay px py = np := ⟨_, rfl⟩
        replace hnp := Lib.hid hnp
        rcases r with _ | _
        · rcases Nat.lt_or_ge d np with gd | gd
          · have gK : ¬ ((np : Int) ≤ (d : Int)) := by omega
            have gL := Lib.hid gd
            clear gd
            go_wp2
            have hd : Below wr.heap.size wr wr.drew := (Below.refl _ _).drew
            replace HU := Lib.hid (HU.out.next hd)
            replace UA := Lib.hid (UA.out.next hd)
            replace UB := Lib.hid (UB.out.next hd)
            replace UC := Lib.hid (UC.out.next hd)
            replace UX := Lib.hid (UX.out.next hd)
            replace U2 := Lib.hid (U2.out.next hd)
            replace U3 := Lib.hid (U3.out.next hd)
            replace U4 := Lib.hid (U4.out.next hd)
            replace U13 := Lib.hid (U13.out.next hd)
            replace UL := Lib.hid (UL.out.next hd)
            replace UW := Lib.hid (UW.out.next hd)
            replace hpp := Lib.hid (hpp.out.next hd)
            clear hd
            refine wp_region_held_drew (S := fun w' => w'.cell? ⟨B2, 0, none⟩ = some (.int .i64 (ax : Int)) ∧ w'.cell? ⟨B2, 1, none⟩ = some (.int .i64 (ay : Int)) ∧ w'.cell? ⟨lb, i * 2, none⟩ = some (.int .i64 (px : Int)) ∧ w'.cell? ⟨lb, i * 2 + 1, none⟩ = some (.int .i64 (py : Int))) (by kernel_rfl) ⟨vr_c0 U2.out.now, vr_c1 U2.out.now, hpp.out.now.1, hpp.out.now.2⟩ (fun hHeld => ?_)
            refine wpAnyH_take (i := 0) (oi := _) (v := ?_) rfl (by kernel_rfl) (by kernel_rfl) (by kernel_rfl) (fun _ _ _ h => h) (Or.inl ⟨by rfl, ?_⟩) (by assumption) ?_
            rotate_left 1
            · (intro w hSw; (try dsimp only at hSw); go_simp; try with_reducible rfl)
            try simp only [List.getElem_toArray, List.getElem_cons_zero, List.getElem_cons_succ, Act.put, List.setIfInBounds_toArray, List.set_cons_zero, List.set_cons_succ]
            refine wpAnyH_take (i := 1) (oi := _) (v := ?_) rfl (by kernel_rfl) (by kernel_rfl) (by kernel_rfl) (fun _ _ _ h => h) (Or.inl ⟨by rfl, ?_⟩) (by assumption) ?_
            rotate_left 1
            · (intro w hSw; (try dsimp only at hSw); go_simp; try with_reducible rfl)
            try simp only [List.getElem_toArray, List.getElem_cons_zero, List.getElem_cons_succ, Act.put, List.setIfInBounds_toArray, List.set_cons_zero, List.set_cons_succ]
            refine wpAnyH_take (i := 2) (oi := _) (v := ?_) rfl (by kernel_rfl) (by kernel_rfl) (by kernel_rfl) (fun _ _ _ h => h) (Or.inl ⟨by rfl, ?_⟩) (by assumption) ?_
            rotate_left 1
            · (intro w hSw; (try dsimp only at hSw); go_simp; try with_reducible rfl)
            try simp only [List.getElem_toArray, List.getElem_cons_zero, List.getElem_cons_succ, Act.put, List.setIfInBounds_toArray, List.set_cons_zero, List.set_cons_succ]
            refine wpAnyH_take (i := 3) (oi := _) (v := ?_) rfl (by kernel_rfl) (by kernel_rfl) (by kernel_rfl) (fun _ _ _ h => h) (Or.inl ⟨by rfl, ?_⟩) (by assumption) ?_
            rotate_left 1
            · (intro w hSw; (try dsimp only at hSw); go_simp; try with_reducible rfl)
            try simp only [List.getElem_toArray, List.getElem_cons_zero, List.getElem_cons_succ, Act.put, List.setIfInBounds_toArray, List.set_cons_zero, List.set_cons_succ]
            refine wpAnyH_take (i := 4) (oi := _) (v := ?_) rfl (by kernel_rfl) (by kernel_rfl) (by kernel_rfl) (fun _ _ _ h => h) (Or.inl ⟨by rfl, ?_⟩) (by assumption) ?_
            rotate_left 1
            · (intro w hSw; (try dsimp only at hSw); go_simp; try with_reducible rfl)
            try simp only [List.getElem_toArray, List.getElem_cons_zero, List.getElem_cons_succ, Act.put, List.setIfInBounds_toArray, List.set_cons_zero, List.set_cons_succ]
            refine wpAnyH_take (i := 5) (oi := _) (v := ?_) rfl (by kernel_rfl) (by kernel_rfl) (by kernel_rfl) (fun _ _ _ h => h) (Or.inl ⟨by rfl, ?_⟩) (by assumption) ?_
            rotate_left 1
            · (intro w hSw; (try dsimp only at hSw); go_simp; try with_reducible rfl)
            try simp only [List.getElem_toArray, List.getElem_cons_zero, List.getElem_cons_succ, Act.put, List.setIfInBounds_toArray, List.set_cons_zero, List.set_cons_succ]
            refine wpAnyH_take (i := 6) (oi := _) (v := ?_) rfl (by kernel_rfl) (by kernel_rfl) (by kernel_rfl) (fun _ _ _ h => h) (Or.inl ⟨by rfl, ?_⟩) (by assumption) ?_
            rotate_left 1
            · (intro w hSw; (try dsimp only at hSw); go_simp; try with_reducible rfl)
            try simp only [List.getElem_toArray, List.getElem_cons_zero, List.getElem_cons_succ, Act.put, List.setIfInBounds_toArray, List.set_cons_zero, List.set_cons_succ]
            refine wpAnyH_take (i := 8) (oi := _) (v := ?_) rfl (by kernel_rfl) (by kernel_rfl) (by kernel_rfl) (fun _ _ _ h => h) (Or.inl ⟨by rfl, ?_⟩) (by assumption) ?_
            rotate_left 1
            · (intro w hSw; (try dsimp only at hSw); go_simp; try with_reducible rfl)
            try simp only [List.getElem_toArray, List.getElem_cons_zero, List.getElem_cons_succ, Act.put, List.setIfInBounds_toArray, List.set_cons_zero, List.set_cons_succ]
            refine wpAnyH_ready (rs := [7]) (by kernel_rfl) (by simp) ?_
            refine AllReadyH.cons (o := _) rfl (fun K hK => ?_) AllReadyH.nil
            rw [if_pos (by kernel_rfl)]
            simp only [List.getElem_toArray, List.getElem_cons_zero, List.getElem_cons_succ]
            go_simp
            (with_reducible refine (ne_v HR.out.1 HR.out.2.1 HPB.out.1 HPB.out.2 hnp.out).mono ?_)
            rintro e w15 ⟨rfl, hb⟩
            replace HU := Lib.hid (HU.out.next hb)
            replace UA := Lib.hid (UA.out.next hb)
            replace UB := Lib.hid (UB.out.next hb)
            replace UC := Lib.hid (UC.out.next hb)
            replace UX := Lib.hid (UX.out.next hb)
            replace U2 := Lib.hid (U2.out.next hb)
            replace U3 := Lib.hid (U3.out.next hb)
            replace U4 := Lib.hid (U4.out.next hb)
            replace U13 := Lib.hid (U13.out.next hb)
            replace UL := Lib.hid (UL.out.next hb)
            replace UW := Lib.hid (UW.out.next hb)
            replace hpp := Lib.hid (hpp.out.next hb)
            clear hb hHeld
            refine hK.out _ _ ⟨vr_c0 U2.out.now, vr_c1 U2.out.now, hpp.out.now.1, hpp.out.now.2⟩ (fun hHeld => ?_)
            clear hK K
            try simp only [List.getElem_toArray, List.getElem_cons_zero, List.getElem_cons_succ, Act.put, List.setIfInBounds_toArray, List.set_cons_zero, List.set_cons_succ]
            refine wpAnyH_take (i := 9) (oi := _) (v := ?_) rfl (by kernel_rfl) (by kernel_rfl) (by kernel_rfl) (fun _ _ _ h => h) (Or.inl ⟨by rfl, ?_⟩) (by assumption) ?_
            rotate_left 1
            · (intro w hSw; (try dsimp only at hSw); go_simp; try with_reducible rfl)
            try simp only [List.getElem_toArray, List.getElem_cons_zero, List.getElem_cons_succ, Act.put, List.setIfInBounds_toArray, List.set_cons_zero, List.set_cons_succ]
            refine wpAnyH_take (i := 10) (oi := _) (v := ?_) rfl (by kernel_rfl) (by kernel_rfl) (by kernel_rfl) (fun _ _ _ h => h) (Or.inl ⟨by rfl, ?_⟩) (by assumption) ?_
            rotate_left 1
            · (intro w hSw; (try dsimp only at hSw); go_simp; try with_reducible rfl)
            try simp only [List.getElem_toArray, List.getElem_cons_zero, List.getElem_cons_succ, Act.put, List.setIfInBounds_toArray, List.set_cons_zero, List.set_cons_succ]
            refine wpAnyH_take (i := 11) (oi := _) (v := ?_) rfl (by kernel_rfl) (by kernel_rfl) (by kernel_rfl) (fun _ _ _ h => h) (Or.inl ⟨by rfl, ?_⟩) (by assumption) ?_
            rotate_left 1
            · (intro w hSw; (try dsimp only at hSw); go_simp; try with_reducible rfl)
            try simp only [List.getElem_toArray, List.getElem_cons_zero, List.getElem_cons_succ, Act.put, List.setIfInBounds_toArray, List.set_cons_zero, List.set_cons_succ]
            refine wpAnyH_done (by kernel_rfl) ?_ _
            clear gK
            go_wp2
            refine ⟨⟨i + 1, false, HM.out.1, by go_num, ?_, ?_, UW.out.now⟩, ?_⟩
            · first | rfl | exact congrArg Value.bool (decide_eq_false (by have := gL.out; omega))
            · exact ne_stepF HP.out hr.out hnp.out gL.out
            · have hm := HM.out.2; clear HM; simp only [intOf, Int.toNat_natCast]; first | exact hm | (simp; omega)
          · have gK : ((np : Int) ≤ (d : Int)) := by omega
            have gL := Lib.hid gd
            clear gd
            go_wp2
            have hd : Below wr.heap.size wr wr.drew := (Below.refl _ _).drew
            replace HU := Lib.hid (HU.out.next hd)
            replace UA := Lib.hid (UA.out.next hd)
            replace UB := Lib.hid (UB.out.next hd)
            replace UC := Lib.hid (UC.out.next hd)
            replace UX := Lib.hid (UX.out.next hd)
            replace U2 := Lib.hid (U2.out.next hd)
            replace U3 := Lib.hid (U3.out.next hd)
            replace U4 := Lib.hid (U4.out.next hd)
            replace U13 := Lib.hid (U13.out.next hd)
            replace UL := Lib.hid (UL.out.next hd)
            replace UW := Lib.hid (UW.out.next hd)
            replace hpp := Lib.hid (hpp.out.next hd)
            clear hd
            refine wp_region_held_drew (S := fun w' => w'.cell? ⟨B2, 0, none⟩ = some (.int .i64 (ax : Int)) ∧ w'.cell? ⟨B2, 1, none⟩ = some (.int .i64 (ay : Int)) ∧ w'.cell? ⟨lb, i * 2, none⟩ = some (.int .i64 (px : Int)) ∧ w'.cell? ⟨lb, i * 2 + 1, none⟩ = some (.int .i64 (py : Int))) (by kernel_rfl) ⟨vr_c0 U2.out.now, vr_c1 U2.out.now, hpp.out.now.1, hpp.out.now.2⟩ (fun hHeld => ?_)
            refine wpAnyH_take (i := 0) (oi := _) (v := ?_) rfl (by kernel_rfl) (by kernel_rfl) (by kernel_rfl) (fun _ _ _ h => h) (Or.inl ⟨by rfl, ?_⟩) (by assumption) ?_
            rotate_left 1
            · (intro w hSw; (try dsimp only at hSw); go_simp; try with_reducible rfl)
            try simp only [List.getElem_toArray, List.getElem_cons_zero, List.getElem_cons_succ, Act.put, List.setIfInBounds_toArray, List.set_cons_zero, List.set_cons_succ]
            refine wpAnyH_take (i := 1) (oi := _) (v := ?_) rfl (by kernel_rfl) (by kernel_rfl) (by kernel_rfl) (fun _ _ _ h => h) (Or.inl ⟨by rfl, ?_⟩) (by assumption) ?_
            rotate_left 1
            · (intro w hSw; (try dsimp only at hSw); go_simp; try with_reducible rfl)
            try simp only [List.getElem_toArray, List.getElem_cons_zero, List.getElem_cons_succ, Act.put, List.setIfInBounds_toArray, List.set_cons_zero, List.set_cons_succ]
            refine wpAnyH_take (i := 2) (oi := _) (v := ?_) rfl (by kernel_rfl) (by kernel_rfl) (by kernel_rfl) (fun _ _ _ h => h) (Or.inl ⟨by rfl, ?_⟩) (by assumption) ?_
            rotate_left 1
            · (intro w hSw; (try dsimp only at hSw); go_simp; try with_reducible rfl)
            try simp only [List.getElem_toArray, List.getElem_cons_zero, List.getElem_cons_succ, Act.put, List.setIfInBounds_toArray, List.set_cons_zero, List.set_cons_succ]
            refine wpAnyH_take (i := 3) (oi := _) (v := ?_) rfl (by kernel_rfl) (by kernel_rfl) (by kernel_rfl) (fun _ _ _ h => h) (Or.inl ⟨by rfl, ?_⟩) (by assumption) ?_
            rotate_left 1
            · (intro w hSw; (try dsimp only at hSw); go_simp; try with_reducible rfl)
            try simp only [List.getElem_toArray, List.getElem_cons_zero, List.getElem_cons_succ, Act.put, List.setIfInBounds_toArray, List.set_cons_zero, List.set_cons_succ]
            refine wpAnyH_take (i := 4) (oi := _) (v := ?_) rfl (by kernel_rfl) (by kernel_rfl) (by kernel_rfl) (fun _ _ _ h => h) (Or.inl ⟨by rfl, ?_⟩) (by assumption) ?_
            rotate_left 1
            · (intro w hSw; (try dsimp only at hSw); go_simp; try with_reducible rfl)
            try simp only [List.getElem_toArray, List.getElem_cons_zero, List.getElem_cons_succ, Act.put, List.setIfInBounds_toArray, List.set_cons_zero, List.set_cons_succ]
            refine wpAnyH_take (i := 5) (oi := _) (v := ?_) rfl (by kernel_rfl) (by kernel_rfl) (by kernel_rfl) (fun _ _ _ h => h) (Or.inl ⟨by rfl, ?_⟩) (by assumption) ?_
            rotate_left 1
            · (intro w hSw; (try dsimp only at hSw); go_simp; try with_reducible rfl)
            try simp only [List.getElem_toArray, List.getElem_cons_zero, List.getElem_cons_succ, Act.put, List.setIfInBounds_toArray, List.set_cons_zero, List.set_cons_succ]
            refine wpAnyH_take (i := 6) (oi := _) (v := ?_) rfl (by kernel_rfl) (by kernel_rfl) (by kernel_rfl) (fun _ _ _ h => h) (Or.inl ⟨by rfl, ?_⟩) (by assumption) ?_
            rotate_left 1
            · (intro w hSw; (try dsimp only at hSw); go_simp; try with_reducible rfl)
            try simp only [List.getElem_toArray, List.getElem_cons_zero, List.getElem_cons_succ, Act.put, List.setIfInBounds_toArray, List.set_cons_zero, List.set_cons_succ]
            refine wpAnyH_take (i := 8) (oi := _) (v := ?_) rfl (by kernel_rfl) (by kernel_rfl) (by kernel_rfl) (fun _ _ _ h => h) (Or.inl ⟨by rfl, ?_⟩) (by assumption) ?_
            rotate_left 1
            · (intro w hSw; (try dsimp only at hSw); go_simp; try with_reducible rfl)
            try simp only [List.getElem_toArray, List.getElem_cons_zero, List.getElem_cons_succ, Act.put, List.setIfInBounds_toArray, List.set_cons_zero, List.set_cons_succ]
            refine wpAnyH_ready (rs := [7]) (by kernel_rfl) (by simp) ?_
            refine AllReadyH.cons (o := _) rfl (fun K hK => ?_) AllReadyH.nil
            rw [if_pos (by kernel_rfl)]
            simp only [List.getElem_toArray, List.getElem_cons_zero, List.getElem_cons_succ]
            go_simp
            (with_reducible refine (ne_v HR.out.1 HR.out.2.1 HPB.out.1 HPB.out.2 hnp.out).mono ?_)
            rintro e w15 ⟨rfl, hb⟩
            replace HU := Lib.hid (HU.out.next hb)
            replace UA := Lib.hid (UA.out.next hb)
            replace UB := Lib.hid (UB.out.next hb)
            replace UC := Lib.hid (UC.out.next hb)
            replace UX := Lib.hid (UX.out.next hb)
            replace U2 := Lib.hid (U2.out.next hb)
            replace U3 := Lib.hid (U3.out.next hb)
            replace U4 := Lib.hid (U4.out.next hb)
            replace U13 := Lib.hid (U13.out.next hb)
            replace UL := Lib.hid (UL.out.next hb)
            replace UW := Lib.hid (UW.out.next hb)
            replace hpp := Lib.hid (hpp.out.next hb)
            clear hb hHeld
            refine hK.out _ _ ⟨vr_c0 U2.out.now, vr_c1 U2.out.now, hpp.out.now.1, hpp.out.now.2⟩ (fun hHeld => ?_)
            clear hK K
            try simp only [List.getElem_toArray, List.getElem_cons_zero, List.getElem_cons_succ, Act.put, List.setIfInBounds_toArray, List.set_cons_zero, List.set_cons_succ]
            refine wpAnyH_take (i := 9) (oi := _) (v := ?_) rfl (by kernel_rfl) (by kernel_rfl) (by kernel_rfl) (fun _ _ _ h => h) (Or.inl ⟨by rfl, ?_⟩) (by assumption) ?_
            rotate_left 1
            · (intro w hSw; (try dsimp only at hSw); go_simp; try with_reducible rfl)
            try simp only [List.getElem_toArray, List.getElem_cons_zero, List.getElem_cons_succ, Act.put, List.setIfInBounds_toArray, List.set_cons_zero, List.set_cons_succ]
            refine wpAnyH_take (i := 10) (oi := _) (v := ?_) rfl (by kernel_rfl) (by kernel_rfl) (by kernel_rfl) (fun _ _ _ h => h) (Or.inl ⟨by rfl, ?_⟩) (by assumption) ?_
            rotate_left 1
            · (intro w hSw; (try dsimp only at hSw); go_simp; try with_reducible rfl)
            try simp only [List.getElem_toArray, List.getElem_cons_zero, List.getElem_cons_succ, Act.put, List.setIfInBounds_toArray, List.set_cons_zero, List.set_cons_succ]
            refine wpAnyH_take (i := 11) (oi := _) (v := ?_) rfl (by kernel_rfl) (by kernel_rfl) (by kernel_rfl) (fun _ _ _ h => h) (Or.inl ⟨by rfl, ?_⟩) (by assumption) ?_
            rotate_left 1
            · (intro w hSw; (try dsimp only at hSw); go_simp; try with_reducible rfl)
            try simp only [List.getElem_toArray, List.getElem_cons_zero, List.getElem_cons_succ, Act.put, List.setIfInBounds_toArray, List.set_cons_zero, List.set_cons_succ]
            refine wpAnyH_done (by kernel_rfl) ?_ _
            clear gK
            go_wp2
            refine ⟨⟨i + 1, true, HM.out.1, by go_num, ?_, ?_, UW.out.now⟩, ?_⟩
            · first | rfl | exact congrArg Value.bool (decide_eq_true (by have := gL.out; omega))
            · exact ne_stepT HP.out hr.out hnp.out gL.out
            · have hm := HM.out.2; clear HM; simp only [intOf, Int.toNat_natCast]; first | exact hm | (simp; omega)
        · go_wp2
          have hd : Below wr.heap.size wr wr.drew := (Below.refl _ _).drew
          replace HU := Lib.hid (HU.out.next hd)
          replace UA := Lib.hid (UA.out.next hd)
          replace UB := Lib.hid (UB.out.next hd)
          replace UC := Lib.hid (UC.out.next hd)
          replace UX := Lib.hid (UX.out.next hd)
          replace U2 := Lib.hid (U2.out.next hd)
          replace U3 := Lib.hid (U3.out.next hd)
          replace U4 := Lib.hid (U4.out.next hd)
          replace U13 := Lib.hid (U13.out.next hd)
          replace UL := Lib.hid (UL.out.next hd)
          replace UW := Lib.hid (UW.out.next hd)
          replace hpp := Lib.hid (hpp.out.next hd)
          clear hd
          refine wp_region_held_drew (S := fun w' => w'.cell? ⟨B2, 0, none⟩ = some (.int .i64 (ax : Int)) ∧ w'.cell? ⟨B2, 1, none⟩ = some (.int .i64 (ay : Int))) (by kernel_rfl) ⟨vr_c0 U2.out.now, vr_c1 U2.out.now⟩ (fun hHeld => ?_)
          refine wpAnyH_take (i := 0) (oi := _) (v := ?_) rfl (by kernel_rfl) (by kernel_rfl) (by kernel_rfl) (fun _ _ _ h => h) (Or.inl ⟨by rfl, ?_⟩) (by assumption) ?_
          rotate_left 1
          · (intro w hSw; (try dsimp only at hSw); go_simp; try with_reducible rfl)
          try simp only [List.getElem_toArray, List.getElem_cons_zero, List.getElem_cons_succ, Act.put, List.setIfInBounds_toArray, List.set_cons_zero, List.set_cons_succ]
          refine wpAnyH_take (i := 1) (oi := _) (v := ?_) rfl (by kernel_rfl) (by kernel_rfl) (by kernel_rfl) (fun _ _ _ h => h) (Or.inl ⟨by rfl, ?_⟩) (by assumption) ?_
          rotate_left 1
          · (intro w hSw; (try dsimp only at hSw); go_simp; try with_reducible rfl)
          try simp only [List.getElem_toArray, List.getElem_cons_zero, List.getElem_cons_succ, Act.put, List.setIfInBounds_toArray, List.set_cons_zero, List.set_cons_succ]
          refine wpAnyH_take (i := 2) (oi := _) (v := undef) rfl (by kernel_rfl) (by kernel_rfl) (by kernel_rfl) (fun _ _ _ h => h) (Or.inr ⟨by rfl, rfl⟩) (by assumption) ?_
          try simp only [List.getElem_toArray, List.getElem_cons_zero, List.getElem_cons_succ, Act.put, List.setIfInBounds_toArray, List.set_cons_zero, List.set_cons_succ]
          refine wpAnyH_take (i := 3) (oi := _) (v := undef) rfl (by kernel_rfl) (by kernel_rfl) (by kernel_rfl) (fun _ _ _ h => h) (Or.inr ⟨by rfl, rfl⟩) (by assumption) ?_
          try simp only [List.getElem_toArray, List.getElem_cons_zero, List.getElem_cons_succ, Act.put, List.setIfInBounds_toArray, List.set_cons_zero, List.set_cons_succ]
          refine wpAnyH_take (i := 4) (oi := _) (v := undef) rfl (by kernel_rfl) (by kernel_rfl) (by kernel_rfl) (fun _ _ _ h => h) (Or.inr ⟨by rfl, rfl⟩) (by assumption) ?_
          try simp only [List.getElem_toArray, List.getElem_cons_zero, List.getElem_cons_succ, Act.put, List.setIfInBounds_toArray, List.set_cons_zero, List.set_cons_succ]
          refine wpAnyH_take (i := 5) (oi := _) (v := undef) rfl (by kernel_rfl) (by kernel_rfl) (by kernel_rfl) (fun _ _ _ h => h) (Or.inr ⟨by rfl, rfl⟩) (by assumption) ?_
          try simp only [List.getElem_toArray, List.getElem_cons_zero, List.getElem_cons_succ, Act.put, List.setIfInBounds_toArray, List.set_cons_zero, List.set_cons_succ]
          refine wpAnyH_take (i := 6) (oi := _) (v := undef) rfl (by kernel_rfl) (by kernel_rfl) (by kernel_rfl) (fun _ _ _ h => h) (Or.inr ⟨by rfl, rfl⟩) (by assumption) ?_
          try simp only [List.getElem_toArray, List.getElem_cons_zero, List.getElem_cons_succ, Act.put, List.setIfInBounds_toArray, List.set_cons_zero, List.set_cons_succ]
          refine wpAnyH_take (i := 7) (oi := _) (v := undef) rfl (by kernel_rfl) (by kernel_rfl) (by kernel_rfl) (fun _ _ _ h => h) (Or.inr ⟨by rfl, rfl⟩) (by assumption) ?_
          try simp only [List.getElem_toArray, List.getElem_cons_zero, List.getElem_cons_succ, Act.put, List.setIfInBounds_toArray, List.set_cons_zero, List.set_cons_succ]
          refine wpAnyH_take (i := 8) (oi := _) (v := undef) rfl (by kernel_rfl) (by kernel_rfl) (by kernel_rfl) (fun _ _ _ h => h) (Or.inr ⟨by rfl, rfl⟩) (by assumption) ?_
          try simp only [List.getElem_toArray, List.getElem_cons_zero, List.getElem_cons_succ, Act.put, List.setIfInBounds_toArray, List.set_cons_zero, List.set_cons_succ]
          refine wpAnyH_take (i := 9) (oi := _) (v := undef) rfl (by kernel_rfl) (by kernel_rfl) (by kernel_rfl) (fun _ _ _ h => h) (Or.inr ⟨by rfl, rfl⟩) (by assumption) ?_
          try simp only [List.getElem_toArray, List.getElem_cons_zero, List.getElem_cons_succ, Act.put, List.setIfInBounds_toArray, List.set_cons_zero, List.set_cons_succ]
          refine wpAnyH_take (i := 10) (oi := _) (v := ?_) rfl (by kernel_rfl) (by kernel_rfl) (by kernel_rfl) (fun _ _ _ h => h) (Or.inl ⟨by rfl, ?_⟩) (by assumption) ?_
          rotate_left 1
          · (intro w hSw; (try dsimp only at hSw); go_simp; try with_reducible rfl)
          try simp only [List.getElem_toArray, List.getElem_cons_zero, List.getElem_cons_succ, Act.put, List.setIfInBounds_toArray, List.set_cons_zero, List.set_cons_succ]
          refine wpAnyH_take (i := 11) (oi := _) (v := ?_) rfl (by kernel_rfl) (by kernel_rfl) (by kernel_rfl) (fun _ _ _ h => h) (Or.inl ⟨by rfl, ?_⟩) (by assumption) ?_
          rotate_left 1
          · (intro w hSw; (try dsimp only at hSw); go_simp; try with_reducible rfl)
          try simp only [List.getElem_toArray, List.getElem_cons_zero, List.getElem_cons_succ, Act.put, List.setIfInBounds_toArray, List.set_cons_zero, List.set_cons_succ]
          refine wpAnyH_done (by kernel_rfl) ?_ _
          go_wp2
          refine ⟨⟨i + 1, true, HM.out.1, by go_num, ?_, ?_, UW.out.now⟩, ?_⟩
          · first | rfl | exact congrArg Value.bool (decide_eq_true (by have := gL.out; omega))
          · exact ne_stepO HP.out hr.out
          · have hm := HM.out.2; clear HM; simp only [intOf, Int.toNat_natCast]; first | exact hm | (simp; omega)
      · have hN : i = N := by omega
        have HN2 := Lib.hid hN
        have i1 : ¬ ((i : Int) < N) := by omega
        clear hN hlt hi
        have hl0 := U13.out.now.cell
        have hl1 := (row_cell U2.out.now 0).trans (show _ = some (.int .i64 (ax : Int)) from rfl)
        have hl2 := (row_cell U2.out.now 1).trans (show _ = some (.int .i64 (ay : Int)) from rfl)
        go_wp2_with fail
        clear hl0 hl1 hl2
        clear i1
        (with_reducible refine ((hasV ax ay HR.out.1 HR.out.2.1 U13.out.now.1).mono (OutV.as (congrArg Value.bool (ne_end HL.out.1 HL.out.2 HN2.out hr.out HR.out.1 HR.out.2.1)))).mono ?_)
        rintro e w15 ⟨rfl, hb⟩
        replace HU := Lib.hid (HU.out.next hb)
        replace UA := Lib.hid (UA.out.next hb)
        replace UB := Lib.hid (UB.out.next hb)
        replace UC := Lib.hid (UC.out.next hb)
        replace UX := Lib.hid (UX.out.next hb)
        replace U2 := Lib.hid (U2.out.next hb)
        replace U3 := Lib.hid (U3.out.next hb)
        replace U4 := Lib.hid (U4.out.next hb)
        replace U13 := Lib.hid (U13.out.next hb)
        replace UL := Lib.hid (UL.out.next hb)
        replace UW := Lib.hid (UW.out.next hb)
        clear hb
        go_wp2
        go_ret
        exact ⟨rfl, HU.out.now.1⟩
  · have hq1 : ¬ ((nab : Int) < 0) := by omega
    have hq2 : ¬ ((24 : Int) < (nab : Int)) := by have := HN.out.2.2.2.2.1; omega
    have hq3 := HN.out.2.2.2.2.2.1
    have hq4 : ¬ (sac < (nab : Int)) := by have := HN.out.2.2.2.2.2.2.1; omega
    have hq5 : ((nab : Int) == 0) = false := ne_diff HN.out.1 HR.out.1 HR.out.2.2.1 (fun h => hE h.2)
    have hq6 : ((ay : Int) == (yb : Int)) = false := by rw [beq_eq_false_iff_ne]; omega
    clear hE
    have hd : Below w6.heap.size w6 w6.drew := (Below.refl _ _).drew
    replace HU := Lib.hid (HU.out.next hd)
    replace UA := Lib.hid (UA.out.next hd)
    replace UB := Lib.hid (UB.out.next hd)
    replace UC := Lib.hid (UC.out.next hd)
    replace UX := Lib.hid (UX.out.next hd)
    replace U2 := Lib.hid (U2.out.next hd)
    replace U3 := Lib.hid (U3.out.next hd)
    replace U4 := Lib.hid (U4.out.next hd)
    clear hd
    refine wp_region_held_drew (S := fun w' => w'.cell? ⟨B2, 0, none⟩ = some (.int .i64 (ax : Int)) ∧ w'.cell? ⟨B2, 1, none⟩ = some (.int .i64 (ay : Int)) ∧ w'.cell? ⟨B3, 0, none⟩ = some (.int .i64 (bx : Int)) ∧ w'.cell? ⟨B3, 1, none⟩ = some (.int .i64 (yb : Int)) ∧ w'.cell? ⟨B4, 0, none⟩ = some (.int .i64 (cx : Int)) ∧ w'.cell? ⟨B4, 1, none⟩ = some (.int .i64 (cy : Int))) (by kernel_rfl) ⟨vr_c0 U2.out.now, vr_c1 U2.out.now, vr_c0 U3.out.now, vr_c1 U3.out.now, vr_c0 U4.out.now, vr_c1 U4.out.now⟩ (fun hHeld => ?_)
    refine wpAnyH_take (i := 0) (oi := _) (v := ?_) rfl (by kernel_rfl) (by kernel_rfl) (by kernel_rfl) (fun _ _ _ h => h) (Or.inl ⟨by rfl, ?_⟩) (by assumption) ?_
    rotate_left 1
    · (intro w hSw; (try dsimp only at hSw); go_simp; try with_reducible rfl)
    try simp only [List.getElem_toArray, List.getElem_cons_zero, List.getElem_cons_succ, Act.put, List.setIfInBounds_toArray, List.set_cons_zero, List.set_cons_succ]
    refine wpAnyH_take (i := 1) (oi := _) (v := ?_) rfl (by kernel_rfl) (by kernel_rfl) (by kernel_rfl) (fun _ _ _ h => h) (Or.inl ⟨by rfl, ?_⟩) (by assumption) ?_
    rotate_left 1
    · (intro w hSw; (try dsimp only at hSw); go_simp; try with_reducible rfl)
    try simp only [List.getElem_toArray, List.getElem_cons_zero, List.getElem_cons_succ, Act.put, List.setIfInBounds_toArray, List.set_cons_zero, List.set_cons_succ]
    refine wpAnyH_take (i := 2) (oi := _) (v := ?_) rfl (by kernel_rfl) (by kernel_rfl) (by kernel_rfl) (fun _ _ _ h => h) (Or.inl ⟨by rfl, ?_⟩) (by assumption) ?_
    rotate_left 1
    · (intro w hSw; (try dsimp only at hSw); go_simp; try with_reducible rfl)
    try simp only [List.getElem_toArray, List.getElem_cons_zero, List.getElem_cons_succ, Act.put, List.setIfInBounds_toArray, List.set_cons_zero, List.set_cons_succ]
    refine wpAnyH_take (i := 3) (oi := _) (v := ?_) rfl (by kernel_rfl) (by kernel_rfl) (by kernel_rfl) (fun _ _ _ h => h) (Or.inl ⟨by rfl, ?_⟩) (by assumption) ?_
    rotate_left 1
    · (intro w hSw; (try dsimp only at hSw); go_simp; try with_reducible rfl)
    try simp only [List.getElem_toArray, List.getElem_cons_zero, List.getElem_cons_succ, Act.put, List.setIfInBounds_toArray, List.set_cons_zero, List.set_cons_succ]
    refine wpAnyH_take (i := 4) (oi := _) (v := ?_) rfl (by kernel_rfl) (by kernel_rfl) (by kernel_rfl) (fun _ _ _ h => h) (Or.inl ⟨by rfl, ?_⟩) (by assumption) ?_
    rotate_left 1
    · (intro w hSw; (try dsimp only at hSw); go_simp; try with_reducible rfl)
    try simp only [List.getElem_toArray, List.getElem_cons_zero, List.getElem_cons_succ, Act.put, List.setIfInBounds_toArray, List.set_cons_zero, List.set_cons_succ]
    refine wpAnyH_take (i := 5) (oi := _) (v := ?_) rfl (by kernel_rfl) (by kernel_rfl) (by kernel_rfl) (fun _ _ _ h => h) (Or.inl ⟨by rfl, ?_⟩) (by assumption) ?_
    rotate_left 1
    · (intro w hSw; (try dsimp only at hSw); go_simp; try with_reducible rfl)
    try simp only [List.getElem_toArray, List.getElem_cons_zero, List.getElem_cons_succ, Act.put, List.setIfInBounds_toArray, List.set_cons_zero, List.set_cons_succ]
    refine wpAnyH_take (i := 6) (oi := _) (v := ?_) rfl (by kernel_rfl) (by kernel_rfl) (by kernel_rfl) (fun _ _ _ h => h) (Or.inl ⟨by rfl, ?_⟩) (by assumption) ?_
    rotate_left 1
    · (intro w hSw; (try dsimp only at hSw); go_simp; try with_reducible rfl)
    try simp only [List.getElem_toArray, List.getElem_cons_zero, List.getElem_cons_succ, Act.put, List.setIfInBounds_toArray, List.set_cons_zero, List.set_cons_succ]
    refine wpAnyH_take (i := 7) (oi := _) (v := ?_) rfl (by kernel_rfl) (by kernel_rfl) (by kernel_rfl) (fun _ _ _ h => h) (Or.inl ⟨by rfl, ?_⟩) (by assumption) ?_
    rotate_left 1
    · (intro w hSw; (try dsimp only at hSw); go_simp; try with_reducible rfl)
    try simp only [List.getElem_toArray, List.getElem_cons_zero, List.getElem_cons_succ, Act.put, List.setIfInBounds_toArray, List.set_cons_zero, List.set_cons_succ]
    refine wpAnyH_take (i := 8) (oi := _) (v := ?_) rfl (by kernel_rfl) (by kernel_rfl) (by kernel_rfl) (fun _ _ _ h => h) (Or.inl ⟨by rfl, ?_⟩) (by assumption) ?_
    rotate_left 1
    · (intro w hSw; (try dsimp only at hSw); go_simp; try with_reducible rfl)
    try simp only [List.getElem_toArray, List.getElem_cons_zero, List.getElem_cons_succ, Act.put, List.setIfInBounds_toArray, List.set_cons_zero, List.set_cons_succ]
    refine wpAnyH_take (i := 9) (oi := _) (v := ?_) rfl (by kernel_rfl) (by kernel_rfl) (by kernel_rfl) (fun _ _ _ h => h) (Or.inl ⟨by rfl, ?_⟩) (by assumption) ?_
    rotate_left 1
    · (intro w hSw; (try dsimp only at hSw); go_simp; try with_reducible rfl)
    try simp only [List.getElem_toArray, List.getElem_cons_zero, List.getElem_cons_succ, Act.put, List.setIfInBounds_toArray, List.set_cons_zero, List.set_cons_succ]
    refine wpAnyH_take (i := 10) (oi := _) (v := ?_) rfl (by kernel_rfl) (by kernel_rfl) (by kernel_rfl) (fun _ _ _ h => h) (Or.inl ⟨by rfl, ?_⟩) (by assumption) ?_
    rotate_left 1
    · (intro w hSw; (try dsimp only at hSw); go_simp; try with_reducible rfl)
    try simp only [List.getElem_toArray, List.getElem_cons_zero, List.getElem_cons_succ, Act.put, List.setIfInBounds_toArray, List.set_cons_zero, List.set_cons_succ]
    refine wpAnyH_take (i := 11) (oi := _) (v := ?_) rfl (by kernel_rfl) (by kernel_rfl) (by kernel_rfl) (fun _ _ _ h => h) (Or.inl ⟨by rfl, ?_⟩) (by assumption) ?_
    rotate_left 1
    · (intro w hSw; (try dsimp only at hSw); go_simp; try with_reducible rfl)
    try simp only [List.getElem_toArray, List.getElem_cons_zero, List.getElem_cons_succ, Act.put, List.setIfInBounds_toArray, List.set_cons_zero, List.set_cons_succ]
    refine wpAnyH_take (i := 12) (oi := _) (v := ?_) rfl (by kernel_rfl) (by kernel_rfl) (by kernel_rfl) (fun _ _ _ h => h) (Or.inl ⟨by rfl, ?_⟩) (by assumption) ?_
    rotate_left 1
    · (intro w hSw; (try dsimp only at hSw); go_simp; try with_reducible rfl)
    try simp only [List.getElem_toArray, List.getElem_cons_zero, List.getElem_cons_succ, Act.put, List.setIfInBounds_toArray, List.set_cons_zero, List.set_cons_succ]
    refine wpAnyH_take (i := 13) (oi := _) (v := ?_) rfl (by kernel_rfl) (by kernel_rfl) (by kernel_rfl) (fun _ _ _ h => h) (Or.inl ⟨by rfl, ?_⟩) (by assumption) ?_
    rotate_left 1
    · (intro w hSw; (try dsimp only at hSw); go_simp; try with_reducible rfl)
    try simp only [List.getElem_toArray, List.getElem_cons_zero, List.getElem_cons_succ, Act.put, List.setIfInBounds_toArray, List.set_cons_zero, List.set_cons_succ]
    refine wpAnyH_take (i := 14) (oi := _) (v := ?_) rfl (by kernel_rfl) (by kernel_rfl) (by kernel_rfl) (fun _ _ _ h => h) (Or.inl ⟨by rfl, ?_⟩) (by assumption) ?_
    rotate_left 1
    · (intro w hSw; (try dsimp only at hSw); go_simp; try with_reducible rfl)
    try simp only [List.getElem_toArray, List.getElem_cons_zero, List.getElem_cons_succ, Act.put, List.setIfInBounds_toArray, List.set_cons_zero, List.set_cons_succ]
    refine wpAnyH_take (i := 15) (oi := _) (v := ?_) rfl (by kernel_rfl) (by kernel_rfl) (by kernel_rfl) (fun _ _ _ h => h) (Or.inl ⟨by rfl, ?_⟩) (by assumption) ?_
    rotate_left 1
    · (intro w hSw; (try dsimp only at hSw); go_simp; try with_reducible rfl)
    try simp only [List.getElem_toArray, List.getElem_cons_zero, List.getElem_cons_succ, Act.put, List.setIfInBounds_toArray, List.set_cons_zero, List.set_cons_succ]
    refine wpAnyH_take (i := 16) (oi := _) (v := ?_) rfl (by kernel_rfl) (by kernel_rfl) (by kernel_rfl) (fun _ _ _ h => h) (Or.inl ⟨by rfl, ?_⟩) (by assumption) ?_
    rotate_left 1
    · (intro w hSw; (try dsimp only at hSw); go_simp; try with_reducible rfl)
    try simp only [List.getElem_toArray, List.getElem_cons_zero, List.getElem_cons_succ, Act.put, List.setIfInBounds_toArray, List.set_cons_zero, List.set_cons_succ]
    refine wpAnyH_take (i := 17) (oi := _) (v := ?_) rfl (by kernel_rfl) (by kernel_rfl) (by kernel_rfl) (fun _ _ _ h => h) (Or.inl ⟨by rfl, ?_⟩) (by assumption) ?_
    rotate_left 1
    · (intro w hSw; (try dsimp only at hSw); go_simp; try with_reducible rfl)
    try simp only [List.getElem_toArray, List.getElem_cons_zero, List.getElem_cons_succ, Act.put, List.setIfInBounds_toArray, List.set_cons_zero, List.set_cons_succ]
    refine wpAnyH_ready (rs := [18]) (by kernel_rfl) (by simp) ?_
    refine AllReadyH.cons (o := _) rfl (fun K hK => ?_) AllReadyH.nil
    rw [if_pos (by kernel_rfl)]
    simp only [List.getElem_toArray, List.getElem_cons_zero, List.getElem_cons_succ]
    go_simp
    (with_reducible refine (ne_v HR.out.2.2.1 HR.out.2.2.2.1 HR.out.1 HR.out.2.1 HN.out.2.1).mono ?_)
    rintro e w7 ⟨rfl, hb⟩
    replace HU := Lib.hid (HU.out.next hb)
    replace UA := Lib.hid (UA.out.next hb)
    replace UB := Lib.hid (UB.out.next hb)
    replace UC := Lib.hid (UC.out.next hb)
    replace UX := Lib.hid (UX.out.next hb)
    replace U2 := Lib.hid (U2.out.next hb)
    replace U3 := Lib.hid (U3.out.next hb)
    replace U4 := Lib.hid (U4.out.next hb)
    clear hb hHeld
    refine hK.out _ _ ⟨vr_c0 U2.out.now, vr_c1 U2.out.now, vr_c0 U3.out.now, vr_c1 U3.out.now, vr_c0 U4.out.now, vr_c1 U4.out.now⟩ (fun hHeld => ?_)
    clear hK K
    try simp only [List.getElem_toArray, List.getElem_cons_zero, List.getElem_cons_succ, Act.put, List.setIfInBounds_toArray, List.set_cons_zero, List.set_cons_succ]
    refine wpAnyH_take (i := 19) (oi := _) (v := ?_) rfl (by kernel_rfl) (by kernel_rfl) (by kernel_rfl) (fun _ _ _ h => h) (Or.inl ⟨by rfl, ?_⟩) (by assumption) ?_
    rotate_left 1
    · (intro w hSw; (try dsimp only at hSw); go_simp; try with_reducible rfl)
    try simp only [List.getElem_toArray, List.getElem_cons_zero, List.getElem_cons_succ, Act.put, List.setIfInBounds_toArray, List.set_cons_zero, List.set_cons_succ]
    refine wpAnyH_take (i := 20) (oi := _) (v := ?_) rfl (by kernel_rfl) (by kernel_rfl) (by kernel_rfl) (fun _ _ _ h => h) (Or.inl ⟨by rfl, ?_⟩) (by assumption) ?_
    rotate_left 1
    · (intro w hSw; (try dsimp only at hSw); go_simp; try with_reducible rfl)
    try simp only [List.getElem_toArray, List.getElem_cons_zero, List.getElem_cons_succ, Act.put, List.setIfInBounds_toArray, List.set_cons_zero, List.set_cons_succ]
    refine wpAnyH_take (i := 21) (oi := _) (v := ?_) rfl (by kernel_rfl) (by kernel_rfl) (by kernel_rfl) (fun _ _ _ h => h) (Or.inl ⟨by rfl, ?_⟩) (by assumption) ?_
    rotate_left 1
    · (intro w hSw; (try dsimp only at hSw); go_simp; try with_reducible rfl)
    try simp only [List.getElem_toArray, List.getElem_cons_zero, List.getElem_cons_succ, Act.put, List.setIfInBounds_toArray, List.set_cons_zero, List.set_cons_succ]
    refine wpAnyH_take (i := 22) (oi := _) (v := ?_) rfl (by kernel_rfl) (by kernel_rfl) (by kernel_rfl) (fun _ _ _ h => h) (Or.inl ⟨by rfl, ?_⟩) (by assumption) ?_
    rotate_left 1
    · (intro w hSw; (try dsimp only at hSw); go_simp; try with_reducible rfl)
    try simp only [List.getElem_toArray, List.getElem_cons_zero, List.getElem_cons_succ, Act.put, List.setIfInBounds_toArray, List.set_cons_zero, List.set_cons_succ]
    refine wpAnyH_take (i := 23) (oi := _) (v := ?_) rfl (by kernel_rfl) (by kernel_rfl) (by kernel_rfl) (fun _ _ _ h => h) (Or.inl ⟨by rfl, ?_⟩) (by assumption) ?_
    rotate_left 1
    · (intro w hSw; (try dsimp only at hSw); go_simp; try with_reducible rfl)
    try simp only [List.getElem_toArray, List.getElem_cons_zero, List.getElem_cons_succ, Act.put, List.setIfInBounds_toArray, List.set_cons_zero, List.set_cons_succ]
    refine wpAnyH_take (i := 24) (oi := _) (v := ?_) rfl (by kernel_rfl) (by kernel_rfl) (by kernel_rfl) (fun _ _ _ h => h) (Or.inl ⟨by rfl, ?_⟩) (by assumption) ?_
    rotate_left 1
    · (intro w hSw; (try dsimp only at hSw); go_simp; try with_reducible rfl)
    try simp only [List.getElem_toArray, List.getElem_cons_zero, List.getElem_cons_succ, Act.put, List.setIfInBounds_toArray, List.set_cons_zero, List.set_cons_succ]
    refine wpAnyH_take (i := 26) (oi := _) (v := ?_) rfl (by kernel_rfl) (by kernel_rfl) (by kernel_rfl) (fun _ _ _ h => h) (Or.inl ⟨by rfl, ?_⟩) (by assumption) ?_
    rotate_left 1
    · (intro w hSw; (try dsimp only at hSw); go_simp; try with_reducible rfl)
    try simp only [List.getElem_toArray, List.getElem_cons_zero, List.getElem_cons_succ, Act.put, List.setIfInBounds_toArray, List.set_cons_zero, List.set_cons_succ]
    refine wpAnyH_take (i := 27) (oi := _) (v := ?_) rfl (by kernel_rfl) (by kernel_rfl) (by kernel_rfl) (fun _ _ _ h => h) (Or.inl ⟨by rfl, ?_⟩) (by assumption) ?_
    rotate_left 1
    · (intro w hSw; (try dsimp only at hSw); go_simp; try with_reducible rfl)
    try simp only [List.getElem_toArray, List.getElem_cons_zero, List.getElem_cons_succ, Act.put, List.setIfInBounds_toArray, List.set_cons_zero, List.set_cons_succ]
    refine wpAnyH_ready (rs := [25]) (by kernel_rfl) (by simp) ?_
    refine AllReadyH.cons (o := _) rfl (fun K hK => ?_) AllReadyH.nil
    rw [if_pos (by kernel_rfl)]
    simp only [List.getElem_toArray, List.getElem_cons_zero, List.getElem_cons_succ]
    go_simp
    (with_reducible refine (ne_v HR.out.1 HR.out.2.1 HR.out.2.2.2.2.1 HR.out.2.2.2.2.2 HN.out.2.2.1).mono ?_)
    rintro e w8 ⟨rfl, hb⟩
    replace HU := Lib.hid (HU.out.next hb)
    replace UA := Lib.hid (UA.out.next hb)
    replace UB := Lib.hid (UB.out.next hb)
    replace UC := Lib.hid (UC.out.next hb)
    replace UX := Lib.hid (UX.out.next hb)
    replace U2 := Lib.hid (U2.out.next hb)
    replace U3 := Lib.hid (U3.out.next hb)
    replace U4 := Lib.hid (U4.out.next hb)
    clear hb hHeld
    refine hK.out _ _ ⟨vr_c0 U2.out.now, vr_c1 U2.out.now, vr_c0 U3.out.now, vr_c1 U3.out.now, vr_c0 U4.out.now, vr_c1 U4.out.now⟩ (fun hHeld => ?_)
    clear hK K
    try simp only [List.getElem_toArray, List.getElem_cons_zero, List.getElem_cons_succ, Act.put, List.setIfInBounds_toArray, List.set_cons_zero, List.set_cons_succ]
    refine wpAnyH_ready (rs := [28]) (by kernel_rfl) (by simp) ?_
    refine AllReadyH.cons (o := _) rfl (fun K hK => ?_) AllReadyH.nil
    rw [if_pos (by kernel_rfl)]
    simp only [List.getElem_toArray, List.getElem_cons_zero, List.getElem_cons_succ]
    go_simp
    (with_reducible refine (ne_v HR.out.2.2.2.2.1 HR.out.2.2.2.2.2 HR.out.2.2.1 HR.out.2.2.2.1 HN.out.2.2.2.1).mono ?_)
    rintro e w9 ⟨rfl, hb⟩
    replace HU := Lib.hid (HU.out.next hb)
    replace UA := Lib.hid (UA.out.next hb)
    replace UB := Lib.hid (UB.out.next hb)
    replace UC := Lib.hid (UC.out.next hb)
    replace UX := Lib.hid (UX.out.next hb)
    replace U2 := Lib.hid (U2.out.next hb)
    replace U3 := Lib.hid (U3.out.next hb)
    replace U4 := Lib.hid (U4.out.next hb)
    clear hb hHeld
    refine hK.out _ _ ⟨vr_c0 U2.out.now, vr_c1 U2.out.now, vr_c0 U3.out.now, vr_c1 U3.out.now, vr_c0 U4.out.now, vr_c1 U4.out.now⟩ (fun hHeld => ?_)
    clear hK K
    try simp only [List.getElem_toArray, List.getElem_cons_zero, List.getElem_cons_succ, Act.put, List.setIfInBounds_toArray, List.set_cons_zero, List.set_cons_succ]
    refine wpAnyH_take (i := 29) (oi := _) (v := ?_) rfl (by kernel_rfl) (by kernel_rfl) (by kernel_rfl) (fun _ _ _ h => h) (Or.inl ⟨by rfl, ?_⟩) (by assumption) ?_
    rotate_left 1
    · (intro w hSw; (try dsimp only at hSw); go_simp; try with_reducible rfl)
    try simp only [List.getElem_toArray, List.getElem_cons_zero, List.getElem_cons_succ, Act.put, List.setIfInBounds_toArray, List.set_cons_zero, List.set_cons_succ]
    refine wpAnyH_take (i := 30) (oi := _) (v := ?_) rfl (by kernel_rfl) (by kernel_rfl) (by kernel_rfl) (fun _ _ _ h => h) (Or.inl ⟨by rfl, ?_⟩) (by assumption) ?_
    rotate_left 1
    · (intro w hSw; (try dsimp only at hSw); go_simp; try with_reducible rfl)
    try simp only [List.getElem_toArray, List.getElem_cons_zero, List.getElem_cons_succ, Act.put, List.setIfInBounds_toArray, List.set_cons_zero, List.set_cons_succ]
    refine wpAnyH_take (i := 31) (oi := _) (v := ?_) rfl (by kernel_rfl) (by kernel_rfl) (by kernel_rfl) (fun _ _ _ h => h) (Or.inl ⟨by rfl, ?_⟩) (by assumption) ?_
    rotate_left 1
    · (intro w hSw; (try dsimp only at hSw); go_simp; try with_reducible rfl)
    try simp only [List.getElem_toArray, List.getElem_cons_zero, List.getElem_cons_succ, Act.put, List.setIfInBounds_toArray, List.set_cons_zero, List.set_cons_succ]
    refine wpAnyH_done (by kernel_rfl) ?_ _
    clear hq1 hq2 hq3 hq4 hq5 hq6
    have hl0 := (row_cell U2.out.now 0).trans (show _ = some (.int .i64 (ax : Int)) from rfl)
    have hl1 := (row_cell U2.out.now 1).trans (show _ = some (.int .i64 (ay : Int)) from rfl)
    have hl2 := (row_cell U3.out.now 0).trans (show _ = some (.int .i64 (bx : Int)) from rfl)
    have hl3 := (row_cell U3.out.now 1).trans (show _ = some (.int .i64 (yb : Int)) from rfl)
    have hl4 := HS.out.1
    have hl5 := HS.out.2.1
    have hl6 := HS.out.2.2.1
    have hl7 := HS.out.2.2.2.1
    have hl8 := HS.out.2.2.2.2.1
    have hl9 := HS.out.2.2.2.2.2.1
    go_wp2_with fail
    clear hl0 hl1 hl2 hl3 hl4 hl5 hl6 hl7 hl8 hl9
    (with_reducible refine (ne_v HS.out.2.2.2.2.2.2.1 HR.out.2.1 HS.out.2.2.2.2.2.2.2.1 HR.out.2.2.2.1 HS.out.2.2.2.2.2.2.2.2).mono ?_)
    rintro e w10 ⟨rfl, hb⟩
    replace HU := Lib.hid (HU.out.next hb)
    replace UA := Lib.hid (UA.out.next hb)
    replace UB := Lib.hid (UB.out.next hb)
    replace UC := Lib.hid (UC.out.next hb)
    replace UX := Lib.hid (UX.out.next hb)
    replace U2 := Lib.hid (U2.out.next hb)
    replace U3 := Lib.hid (U3.out.next hb)
    replace U4 := Lib.hid (U4.out.next hb)
    clear hb
    go_wp2_with fail
    (with_reducible refine (madeV UX.out.now).mono ?_)
    rintro e w11 ⟨f, b11, o11, c11, rfl, hs, hb⟩
    replace HU := Lib.hid (HU.out.next hb)
    replace UA := Lib.hid (UA.out.next hb)
    replace UB := Lib.hid (UB.out.next hb)
    replace UC := Lib.hid (UC.out.next hb)
    replace UX := Lib.hid (UX.out.next hb)
    replace U2 := Lib.hid (U2.out.next hb)
    replace U3 := Lib.hid (U3.out.next hb)
    replace U4 := Lib.hid (U4.out.next hb)
    obtain ⟨x11, B11, e1, e2, hb2, hk⟩ := box1 w11 #[.slice (some ⟨b11, o11, none⟩) 24 c11] 25
    have U11 := Lib.hid (up_va (Sl.below hs (Nat.le_refl _) hb2) hk : Up x11 (VA B11 b11 o11 c11 (f)))
    replace HU := Lib.hid (HU.out.next hb2)
    replace UA := Lib.hid (UA.out.next hb2)
    replace UB := Lib.hid (UB.out.next hb2)
    replace UC := Lib.hid (UC.out.next hb2)
    replace UX := Lib.hid (UX.out.next hb2)
    replace U2 := Lib.hid (U2.out.next hb2)
    replace U3 := Lib.hid (U3.out.next hb2)
    replace U4 := Lib.hid (U4.out.next hb2)
    clear hs hb hb2 hk
    go_wp2_with fail
    clear e1 e2
    (with_reducible refine (PD.out _).mono ?_)
    rintro e w12 ⟨rfl, hb⟩
    replace HU := Lib.hid (HU.out.next hb)
    replace UA := Lib.hid (UA.out.next hb)
    replace UB := Lib.hid (UB.out.next hb)
    replace UC := Lib.hid (UC.out.next hb)
    replace UX := Lib.hid (UX.out.next hb)
    replace U2 := Lib.hid (U2.out.next hb)
    replace U3 := Lib.hid (U3.out.next hb)
    replace U4 := Lib.hid (U4.out.next hb)
    replace U11 := Lib.hid (U11.out.next hb)
    clear hb
    have hl0 := U11.out.now.cell
    go_wp2_with fail
    clear hl0
    (with_reducible refine (grownV d HD.out U11.out.now.1).mono ?_)
    rintro e w13 ⟨b13, o13, c13, rfl, hs, hb⟩
    replace HU := Lib.hid (HU.out.next hb)
    replace UA := Lib.hid (UA.out.next hb)
    replace UB := Lib.hid (UB.out.next hb)
    replace UC := Lib.hid (UC.out.next hb)
    replace UX := Lib.hid (UX.out.next hb)
    replace U2 := Lib.hid (U2.out.next hb)
    replace U3 := Lib.hid (U3.out.next hb)
    replace U4 := Lib.hid (U4.out.next hb)
    replace U11 := Lib.hid (U11.out.next hb)
    obtain ⟨x13, B13, e1, e2, hb2, hk⟩ := box1 w13 #[.slice (some ⟨b13, o13, none⟩) 24 c13] 25
    have U13 := Lib.hid (up_va (Sl.below hs (Nat.le_refl _) hb2) hk : Up x13 (VA B13 b13 o13 c13 (grown f d)))
    replace HU := Lib.hid (HU.out.next hb2)
    replace UA := Lib.hid (UA.out.next hb2)
    replace UB := Lib.hid (UB.out.next hb2)
    replace UC := Lib.hid (UC.out.next hb2)
    replace UX := Lib.hid (UX.out.next hb2)
    replace U2 := Lib.hid (U2.out.next hb2)
    replace U3 := Lib.hid (U3.out.next hb2)
    replace U4 := Lib.hid (U4.out.next hb2)
    replace U11 := Lib.hid (U11.out.next hb2)
    clear hs hb hb2 hk
    obtain ⟨l, el⟩ : ∃ l, cellsTo f 24 = l := ⟨_, rfl⟩
    obtain ⟨N, eN⟩ : ∃ N, l.length = N := ⟨_, rfl⟩
    have HL := Lib.hid (show _ ∧ _ from ⟨el, eN⟩)
    clear el eN
    have hl0 := U11.out.now.cell
    go_wp2_with fail
    clear e1 e2
    clear hl0
    (with_reducible refine (ne_cells (c := c11) HL.out.1 HL.out.2 U11.out.now.1 HU.out.now.2).mono ?_)
    rintro e w14 ⟨rl, rc, rfl, hcs, hb⟩
    replace HU := Lib.hid (HU.out.next hb)
    replace UA := Lib.hid (UA.out.next hb)
    replace UB := Lib.hid (UB.out.next hb)
    replace UC := Lib.hid (UC.out.next hb)
    replace UX := Lib.hid (UX.out.next hb)
    replace U2 := Lib.hid (U2.out.next hb)
    replace U3 := Lib.hid (U3.out.next hb)
    replace U4 := Lib.hid (U4.out.next hb)
    replace U11 := Lib.hid (U11.out.next hb)
    replace U13 := Lib.hid (U13.out.next hb)
    have UL := Lib.hid (up_cs hcs)
    have UW := Lib.hid (up_b w14)
    clear hcs hb
    clear U11
    go_wp2
    go_loopw [23, 25] (fun nv iv wr => ∃ (i : Nat) (r : Bool), i ≤ N ∧ iv = .int .i64 i ∧ nv = .bool r ∧ nearTo ax ay d l i = r ∧ Below w14.heap.size w14 wr) (fun _ iv _ => N - (intOf iv).toNat)
    case atStart => exact ⟨0, false, by omega, rfl, rfl, rfl, Below.refl _ _⟩
    case round =>
      obtain ⟨i, r, hi, rfl, rfl, hr, hB⟩ := hrel
      replace HU := Lib.hid (HU.out.next hB)
      replace UA := Lib.hid (UA.out.next hB)
      replace UB := Lib.hid (UB.out.next hB)
      replace UC := Lib.hid (UC.out.next hB)
      replace UX := Lib.hid (UX.out.next hB)
      replace U2 := Lib.hid (U2.out.next hB)
      replace U3 := Lib.hid (U3.out.next hB)
      replace U4 := Lib.hid (U4.out.next hB)
      replace U13 := Lib.hid (U13.out.next hB)
      replace UL := Lib.hid (UL.out.next hB)
      replace UW := Lib.hid (UW.out.next hB)
      clear hB
      replace hr := Lib.hid hr
      have i0 : (0 : Int) ≤ i := by omega
      by_cases hlt : i < N
      · have i1 : (i : Int) < N := by omega
        have i2 : (i : Int) < 1152 := by have := UL.out.now.2.1; omega
        have HM := Lib.hid (show i + 1 ≤ N ∧ N - (i + 1) < N - i by omega)
        obtain ⟨lb, px, py, rfl, hp, hpp⟩ := cs_at UL.out hlt
        have HP := Lib.hid hp
        have HPB := Lib.hid (ne_mem HL.out.1 hp)
        replace hpp := Lib.hid hpp
        clear hp
        obtain ⟨np, hnp⟩ : ∃ np, near ax ay px py = np := ⟨_, rfl⟩
        replace hnp := Lib.hid hnp
        rcases r with _ | _
        · rcases Nat.lt_or_ge d np with gd | gd
          · have gK : ¬ ((np : Int) ≤ (d : Int)) := by omega
            have gL := Lib.hid gd
            clear gd
            go_wp2
            have hd : Below wr.heap.size wr wr.drew := (Below.refl _ _).drew
            replace HU := Lib.hid (HU.out.next hd)
            replace UA := Lib.hid (UA.out.next hd)
            replace UB := Lib.hid (UB.out.next hd)
            replace UC := Lib.hid (UC.out.next hd)
            replace UX := Lib.hid (UX.out.next hd)
            replace U2 := Lib.hid (U2.out.next hd)
            replace U3 := Lib.hid (U3.out.next hd)
            replace U4 := Lib.hid (U4.out.next hd)
            replace U13 := Lib.hid (U13.out.next hd)
            replace UL := Lib.hid (UL.out.next hd)
            replace UW := Lib.hid (UW.out.next hd)
            replace hpp := Lib.hid (hpp.out.next hd)
            clear hd
            refine wp_region_held_drew (S := fun w' => w'.cell? ⟨B2, 0, none⟩ = some (.int .i64 (ax : Int)) ∧ w'.cell? ⟨B2, 1, none⟩ = some (.int .i64 (ay : Int)) ∧ w'.cell? ⟨lb, i * 2, none⟩ = some (.int .i64 (px : Int)) ∧ w'.cell? ⟨lb, i * 2 + 1, none⟩ = some (.int .i64 (py : Int))) (by kernel_rfl) ⟨vr_c0 U2.out.now, vr_c1 U2.out.now, hpp.out.now.1, hpp.out.now.2⟩ (fun hHeld => ?_)
            refine wpAnyH_take (i := 0) (oi := _) (v := ?_) rfl (by kernel_rfl) (by kernel_rfl) (by kernel_rfl) (fun _ _ _ h => h) (Or.inl ⟨by rfl, ?_⟩) (by assumption) ?_
            rotate_left 1
            · (intro w hSw; (try dsimp only at hSw); go_simp; try with_reducible rfl)
            try simp only [List.getElem_toArray, List.getElem_cons_zero, List.getElem_cons_succ, Act.put, List.setIfInBounds_toArray, List.set_cons_zero, List.set_cons_succ]
            refine wpAnyH_take (i := 1) (oi := _) (v := ?_) rfl (by kernel_rfl) (by kernel_rfl) (by kernel_rfl) (fun _ _ _ h => h) (Or.inl ⟨by rfl, ?_⟩) (by assumption) ?_
            rotate_left 1
            · (intro w hSw; (try dsimp only at hSw); go_simp; try with_reducible rfl)
            try simp only [List.getElem_toArray, List.getElem_cons_zero, List.getElem_cons_succ, Act.put, List.setIfInBounds_toArray, List.set_cons_zero, List.set_cons_succ]
            refine wpAnyH_take (i := 2) (oi := _) (v := ?_) rfl (by kernel_rfl) (by kernel_rfl) (by kernel_rfl) (fun _ _ _ h => h) (Or.inl ⟨by rfl, ?_⟩) (by assumption) ?_
            rotate_left 1
            · (intro w hSw; (try dsimp only at hSw); go_simp; try with_reducible rfl)
            try simp only [List.getElem_toArray, List.getElem_cons_zero, List.getElem_cons_succ, Act.put, List.setIfInBounds_toArray, List.set_cons_zero, List.set_cons_succ]
            refine wpAnyH_take (i := 3) (oi := _) (v := ?_) rfl (by kernel_rfl) (by kernel_rfl) (by kernel_rfl) (fun _ _ _ h => h) (Or.inl ⟨by rfl, ?_⟩) (by assumption) ?_
            rotate_left 1
            · (intro w hSw; (try dsimp only at hSw); go_simp; try with_reducible rfl)
            try simp only [List.getElem_toArray, List.getElem_cons_zero, List.getElem_cons_succ, Act.put, List.setIfInBounds_toArray, List.set_cons_zero, List.set_cons_succ]
            refine wpAnyH_take (i := 4) (oi := _) (v := ?_) rfl (by kernel_rfl) (by kernel_rfl) (by kernel_rfl) (fun _ _ _ h => h) (Or.inl ⟨by rfl, ?_⟩) (by assumption) ?_
            rotate_left 1
            · (intro w hSw; (try dsimp only at hSw); go_simp; try with_reducible rfl)
            try simp only [List.getElem_toArray, List.getElem_cons_zero, List.getElem_cons_succ, Act.put, List.setIfInBounds_toArray, List.set_cons_zero, List.set_cons_succ]
            refine wpAnyH_take (i := 5) (oi := _) (v := ?_) rfl (by kernel_rfl) (by kernel_rfl) (by kernel_rfl) (fun _ _ _ h => h) (Or.inl ⟨by rfl, ?_⟩) (by assumption) ?_
            rotate_left 1
            · (intro w hSw; (try dsimp only at hSw); go_simp; try with_reducible rfl)
            try simp only [List.getElem_toArray, List.getElem_cons_zero, List.getElem_cons_succ, Act.put, List.setIfInBounds_toArray, List.set_cons_zero, List.set_cons_succ]
            refine wpAnyH_take (i := 6) (oi := _) (v := ?_) rfl (by kernel_rfl) (by kernel_rfl) (by kernel_rfl) (fun _ _ _ h => h) (Or.inl ⟨by rfl, ?_⟩) (by assumption) ?_
            rotate_left 1
            · (intro w hSw; (try dsimp only at hSw); go_simp; try with_reducible rfl)
            try simp only [List.getElem_toArray, List.getElem_cons_zero, List.getElem_cons_succ, Act.put, List.setIfInBounds_toArray, List.set_cons_zero, List.set_cons_succ]
            refine wpAnyH_take (i := 8) (oi := _) (v := ?_) rfl (by kernel_rfl) (by kernel_rfl) (by kernel_rfl) (fun _ _ _ h => h) (Or.inl ⟨by rfl, ?_⟩) (by assumption) ?_
            rotate_left 1
            · (intro w hSw; (try dsimp only at hSw); go_simp; try with_reducible rfl)
            try simp only [List.getElem_toArray, List.getElem_cons_zero, List.getElem_cons_succ, Act.put, List.setIfInBounds_toArray, List.set_cons_zero, List.set_cons_succ]
            refine wpAnyH_ready (rs := [7]) (by kernel_rfl) (by simp) ?_
            refine AllReadyH.cons (o := _) rfl (fun K hK => ?_) AllReadyH.nil
            rw [if_pos (by kernel_rfl)]
            simp only [List.getElem_toArray, List.getElem_cons_zero, List.getElem_cons_succ]
            go_simp
            (with_reducible refine (ne_v HR.out.1 HR.out.2.1 HPB.out.1 HPB.out.2 hnp.out).mono ?_)
            rintro e w15 ⟨rfl, hb⟩
            replace HU := Lib.hid (HU.out.next hb)
            replace UA := Lib.hid (UA.out.next hb)
            replace UB := Lib.hid (UB.out.next hb)
            replace UC := Lib.hid (UC.out.next hb)
            replace UX := Lib.hid (UX.out.next hb)
            replace U2 := Lib.hid (U2.out.next hb)
            replace U3 := Lib.hid (U3.out.next hb)
            replace U4 := Lib.hid (U4.out.next hb)
            replace U13 := Lib.hid (U13.out.next hb)
            replace UL := Lib.hid (UL.out.next hb)
            replace UW := Lib.hid (UW.out.next hb)
            replace hpp := Lib.hid (hpp.out.next hb)
            clear hb hHeld
            refine hK.out _ _ ⟨vr_c0 U2.out.now, vr_c1 U2.out.now, hpp.out.now.1, hpp.out.now.2⟩ (fun hHeld => ?_)
            clear hK K
            try simp only [List.getElem_toArray, List.getElem_cons_zero, List.getElem_cons_succ, Act.put, List.setIfInBounds_toArray, List.set_cons_zero, List.set_cons_succ]
            refine wpAnyH_take (i := 9) (oi := _) (v := ?_) rfl (by kernel_rfl) (by kernel_rfl) (by kernel_rfl) (fun _ _ _ h => h) (Or.inl ⟨by rfl, ?_⟩) (by assumption) ?_
            rotate_left 1
            · (intro w hSw; (try dsimp only at hSw); go_simp; try with_reducible rfl)
            try simp only [List.getElem_toArray, List.getElem_cons_zero, List.getElem_cons_succ, Act.put, List.setIfInBounds_toArray, List.set_cons_zero, List.set_cons_succ]
            refine wpAnyH_take (i := 10) (oi := _) (v := ?_) rfl (by kernel_rfl) (by kernel_rfl) (by kernel_rfl) (fun _ _ _ h => h) (Or.inl ⟨by rfl, ?_⟩) (by assumption) ?_
            rotate_left 1
            · (intro w hSw; (try dsimp only at hSw); go_simp; try with_reducible rfl)
            try simp only [List.getElem_toArray, List.getElem_cons_zero, List.getElem_cons_succ, Act.put, List.setIfInBounds_toArray, List.set_cons_zero, List.set_cons_succ]
            refine wpAnyH_take (i := 11) (oi := _) (v := ?_) rfl (by kernel_rfl) (by kernel_rfl) (by kernel_rfl) (fun _ _ _ h => h) (Or.inl ⟨by rfl, ?_⟩) (by assumption) ?_
            rotate_left 1
            · (intro w hSw; (try dsimp only at hSw); go_simp; try with_reducible rfl)
            try simp only [List.getElem_toArray, List.getElem_cons_zero, List.getElem_cons_succ, Act.put, List.setIfInBounds_toArray, List.set_cons_zero, List.set_cons_succ]
            refine wpAnyH_done (by kernel_rfl) ?_ _
            clear gK
            go_wp2
            refine ⟨⟨i + 1, false, HM.out.1, by go_num, ?_, ?_, UW.out.now⟩, ?_⟩
            · first | rfl | exact congrArg Value.bool (decide_eq_false (by have := gL.out; omega))
            · exact ne_stepF HP.out hr.out hnp.out gL.out
            · have hm := HM.out.2; clear HM; simp only [intOf, Int.toNat_natCast]; first | exact hm | (simp; omega)
          · have gK : ((np : Int) ≤ (d : Int)) := by omega
            have gL := Lib.hid gd
            clear gd
            go_wp2
            have hd : Below wr.heap.size wr wr.drew := (Below.refl _ _).drew
            replace HU := Lib.hid (HU.out.next hd)
            replace UA := Lib.hid (UA.out.next hd)
            replace UB := Lib.hid (UB.out.next hd)
            replace UC := Lib.hid (UC.out.next hd)
            replace UX := Lib.hid (UX.out.next hd)
            replace U2 := Lib.hid (U2.out.next hd)
            replace U3 := Lib.hid (U3.out.next hd)
            replace U4 := Lib.hid (U4.out.next hd)
            replace U13 := Lib.hid (U13.out.next hd)
            replace UL := Lib.hid (UL.out.next hd)
            replace UW := Lib.hid (UW.out.next hd)
            replace hpp := Lib.hid (hpp.out.next hd)
            clear hd
            refine wp_region_held_drew (S := fun w' => w'.cell? ⟨B2, 0, none⟩ = some (.int .i64 (ax : Int)) ∧ w'.cell? ⟨B2, 1, none⟩ = some (.int .i64 (ay : Int)) ∧ w'.cell? ⟨lb, i * 2, none⟩ = some (.int .i64 (px : Int)) ∧ w'.cell? ⟨lb, i * 2 + 1, none⟩ = some (.int .i64 (py : Int))) (by kernel_rfl) ⟨vr_c0 U2.out.now, vr_c1 U2.out.now, hpp.out.now.1, hpp.out.now.2⟩ (fun hHeld => ?_)
            refine wpAnyH_take (i := 0) (oi := _) (v := ?_) rfl (by kernel_rfl) (by kernel_rfl) (by kernel_rfl) (fun _ _ _ h => h) (Or.inl ⟨by rfl, ?_⟩) (by assumption) ?_
            rotate_left 1
            · (intro w hSw; (try dsimp only at hSw); go_simp; try with_reducible rfl)
            try simp only [List.getElem_toArray, List.getElem_cons_zero, List.getElem_cons_succ, Act.put, List.setIfInBounds_toArray, List.set_cons_zero, List.set_cons_succ]
            refine wpAnyH_take (i := 1) (oi := _) (v := ?_) rfl (by kernel_rfl) (by kernel_rfl) (by kernel_rfl) (fun _ _ _ h => h) (Or.inl ⟨by rfl, ?_⟩) (by assumption) ?_
            rotate_left 1
            · (intro w hSw; (try dsimp only at hSw); go_simp; try with_reducible rfl)
            try simp only [List.getElem_toArray, List.getElem_cons_zero, List.getElem_cons_succ, Act.put, List.setIfInBounds_toArray, List.set_cons_zero, List.set_cons_succ]
            refine wpAnyH_take (i := 2) (oi := _) (v := ?_) rfl (by kernel_rfl) (by kernel_rfl) (by kernel_rfl) (fun _ _ _ h => h) (Or.inl ⟨by rfl, ?_⟩) (by assumption) ?_
            rotate_left 1
            · (intro w hSw; (try dsimp only at hSw); go_simp; try with_reducible rfl)
            try simp only [List.getElem_toArray, List.getElem_cons_zero, List.getElem_cons_succ, Act.put, List.setIfInBounds_toArray, List.set_cons_zero, List.set_cons_succ]
            refine wpAnyH_take (i := 3) (oi := _) (v := ?_) rfl (by kernel_rfl) (by kernel_rfl) (by kernel_rfl) (fun _ _ _ h => h) (Or.inl ⟨by rfl, ?_⟩) (by assumption) ?_
            rotate_left 1
            · (intro w hSw; (try dsimp only at hSw); go_simp; try with_reducible rfl)
            try simp only [List.getElem_toArray, List.getElem_cons_zero, List.getElem_cons_succ, Act.put, List.setIfInBounds_toArray, List.set_cons_zero, List.set_cons_succ]
            refine wpAnyH_take (i := 4) (oi := _) (v := ?_) rfl (by kernel_rfl) (by kernel_rfl) (by kernel_rfl) (fun _ _ _ h => h) (Or.inl ⟨by rfl, ?_⟩) (by assumption) ?_
            rotate_left 1
            · (intro w hSw; (try dsimp only at hSw); go_simp; try with_reducible rfl)
            try simp only [List.getElem_toArray, List.getElem_cons_zero, List.getElem_cons_succ, Act.put, List.setIfInBounds_toArray, List.set_cons_zero, List.set_cons_succ]
            refine wpAnyH_take (i := 5) (oi := _) (v := ?_) rfl (by kernel_rfl) (by kernel_rfl) (by kernel_rfl) (fun _ _ _ h => h) (Or.inl ⟨by rfl, ?_⟩) (by assumption) ?_
            rotate_left 1
            · (intro w hSw; (try dsimp only at hSw); go_simp; try with_reducible rfl)
            try simp only [List.getElem_toArray, List.getElem_cons_zero, List.getElem_cons_succ, Act.put, List.setIfInBounds_toArray, List.set_cons_zero, List.set_cons_succ]
            refine wpAnyH_take (i := 6) (oi := _) (v := ?_) rfl (by kernel_rfl) (by kernel_rfl) (by kernel_rfl) (fun _ _ _ h => h) (Or.inl ⟨by rfl, ?_⟩) (by assumption) ?_
            rotate_left 1
            · (intro w hSw; (try dsimp only at hSw); go_simp; try with_reducible rfl)
            try simp only [List.getElem_toArray, List.getElem_cons_zero, List.getElem_cons_succ, Act.put, List.setIfInBounds_toArray, List.set_cons_zero, List.set_cons_succ]
            refine wpAnyH_take (i := 8) (oi := _) (v := ?_) rfl (by kernel_rfl) (by kernel_rfl) (by kernel_rfl) (fun _ _ _ h => h) (Or.inl ⟨by rfl, ?_⟩) (by assumption) ?_
            rotate_left 1
            · (intro w hSw; (try dsimp only at hSw); go_simp; try with_reducible rfl)
            try simp only [List.getElem_toArray, List.getElem_cons_zero, List.getElem_cons_succ, Act.put, List.setIfInBounds_toArray, List.set_cons_zero, List.set_cons_succ]
            refine wpAnyH_ready (rs := [7]) (by kernel_rfl) (by simp) ?_
            refine AllReadyH.cons (o := _) rfl (fun K hK => ?_) AllReadyH.nil
            rw [if_pos (by kernel_rfl)]
            simp only [List.getElem_toArray, List.getElem_cons_zero, List.getElem_cons_succ]
            go_simp
            (with_reducible refine (ne_v HR.out.1 HR.out.2.1 HPB.out.1 HPB.out.2 hnp.out).mono ?_)
            rintro e w15 ⟨rfl, hb⟩
            replace HU := Lib.hid (HU.out.next hb)
            replace UA := Lib.hid (UA.out.next hb)
            replace UB := Lib.hid (UB.out.next hb)
            replace UC := Lib.hid (UC.out.next hb)
            replace UX := Lib.hid (UX.out.next hb)
            replace U2 := Lib.hid (U2.out.next hb)
            replace U3 := Lib.hid (U3.out.next hb)
            replace U4 := Lib.hid (U4.out.next hb)
            replace U13 := Lib.hid (U13.out.next hb)
            replace UL := Lib.hid (UL.out.next hb)
            replace UW := Lib.hid (UW.out.next hb)
            replace hpp := Lib.hid (hpp.out.next hb)
            clear hb hHeld
            refine hK.out _ _ ⟨vr_c0 U2.out.now, vr_c1 U2.out.now, hpp.out.now.1, hpp.out.now.2⟩ (fun hHeld => ?_)
            clear hK K
            try simp only [List.getElem_toArray, List.getElem_cons_zero, List.getElem_cons_succ, Act.put, List.setIfInBounds_toArray, List.set_cons_zero, List.set_cons_succ]
            refine wpAnyH_take (i := 9) (oi := _) (v := ?_) rfl (by kernel_rfl) (by kernel_rfl) (by kernel_rfl) (fun _ _ _ h => h) (Or.inl ⟨by rfl, ?_⟩) (by assumption) ?_
            rotate_left 1
            · (intro w hSw; (try dsimp only at hSw); go_simp; try with_reducible rfl)
            try simp only [List.getElem_toArray, List.getElem_cons_zero, List.getElem_cons_succ, Act.put, List.setIfInBounds_toArray, List.set_cons_zero, List.set_cons_succ]
            refine wpAnyH_take (i := 10) (oi := _) (v := ?_) rfl (by kernel_rfl) (by kernel_rfl) (by kernel_rfl) (fun _ _ _ h => h) (Or.inl ⟨by rfl, ?_⟩) (by assumption) ?_
            rotate_left 1
            · (intro w hSw; (try dsimp only at hSw); go_simp; try with_reducible rfl)
            try simp only [List.getElem_toArray, List.getElem_cons_zero, List.getElem_cons_succ, Act.put, List.setIfInBounds_toArray, List.set_cons_zero, List.set_cons_succ]
            refine wpAnyH_take (i := 11) (oi := _) (v := ?_) rfl (by kernel_rfl) (by kernel_rfl) (by kernel_rfl) (fun _ _ _ h => h) (Or.inl ⟨by rfl, ?_⟩) (by assumption) ?_
            rotate_left 1
            · (intro w hSw; (try dsimp only at hSw); go_simp; try with_reducible rfl)
            try simp only [List.getElem_toArray, List.getElem_cons_zero, List.getElem_cons_succ, Act.put, List.setIfInBounds_toArray, List.set_cons_zero, List.set_cons_succ]
            refine wpAnyH_done (by kernel_rfl) ?_ _
            clear gK
            go_wp2
            refine ⟨⟨i + 1, true, HM.out.1, by go_num, ?_, ?_, UW.out.now⟩, ?_⟩
            · first | rfl | exact congrArg Value.bool (decide_eq_true (by have := gL.out; omega))
            · exact ne_stepT HP.out hr.out hnp.out gL.out
            · have hm := HM.out.2; clear HM; simp only [intOf, Int.toNat_natCast]; first | exact hm | (simp; omega)
        · go_wp2
          have hd : Below wr.heap.size wr wr.drew := (Below.refl _ _).drew
          replace HU := Lib.hid (HU.out.next hd)
          replace UA := Lib.hid (UA.out.next hd)
          replace UB := Lib.hid (UB.out.next hd)
          replace UC := Lib.hid (UC.out.next hd)
          replace UX := Lib.hid (UX.out.next hd)
          replace U2 := Lib.hid (U2.out.next hd)
          replace U3 := Lib.hid (U3.out.next hd)
          replace U4 := Lib.hid (U4.out.next hd)
          replace U13 := Lib.hid (U13.out.next hd)
          replace UL := Lib.hid (UL.out.next hd)
          replace UW := Lib.hid (UW.out.next hd)
          replace hpp := Lib.hid (hpp.out.next hd)
          clear hd
          refine wp_region_held_drew (S := fun w' => w'.cell? ⟨B2, 0, none⟩ = some (.int .i64 (ax : Int)) ∧ w'.cell? ⟨B2, 1, none⟩ = some (.int .i64 (ay : Int))) (by kernel_rfl) ⟨vr_c0 U2.out.now, vr_c1 U2.out.now⟩ (fun hHeld => ?_)
          refine wpAnyH_take (i := 0) (oi := _) (v := ?_) rfl (by kernel_rfl) (by kernel_rfl) (by kernel_rfl) (fun _ _ _ h => h) (Or.inl ⟨by rfl, ?_⟩) (by assumption) ?_
          rotate_left 1
          · (intro w hSw; (try dsimp only at hSw); go_simp; try with_reducible rfl)
          try simp only [List.getElem_toArray, List.getElem_cons_zero, List.getElem_cons_succ, Act.put, List.setIfInBounds_toArray, List.set_cons_zero, List.set_cons_succ]
          refine wpAnyH_take (i := 1) (oi := _) (v := ?_) rfl (by kernel_rfl) (by kernel_rfl) (by kernel_rfl) (fun _ _ _ h => h) (Or.inl ⟨by rfl, ?_⟩) (by assumption) ?_
          rotate_left 1
          · (intro w hSw; (try dsimp only at hSw); go_simp; try with_reducible rfl)
          try simp only [List.getElem_toArray, List.getElem_cons_zero, List.getElem_cons_succ, Act.put, List.setIfInBounds_toArray, List.set_cons_zero, List.set_cons_succ]
          refine wpAnyH_take (i := 2) (oi := _) (v := undef) rfl (by kernel_rfl) (by kernel_rfl) (by kernel_rfl) (fun _ _ _ h => h) (Or.inr ⟨by rfl, rfl⟩) (by assumption) ?_
          try simp only [List.getElem_toArray, List.getElem_cons_zero, List.getElem_cons_succ, Act.put, List.setIfInBounds_toArray, List.set_cons_zero, List.set_cons_succ]
          refine wpAnyH_take (i := 3) (oi := _) (v := undef) rfl (by kernel_rfl) (by kernel_rfl) (by kernel_rfl) (fun _ _ _ h => h) (Or.inr ⟨by rfl, rfl⟩) (by assumption) ?_
          try simp only [List.getElem_toArray, List.getElem_cons_zero, List.getElem_cons_succ, Act.put, List.setIfInBounds_toArray, List.set_cons_zero, List.set_cons_succ]
          refine wpAnyH_take (i := 4) (oi := _) (v := undef) rfl (by kernel_rfl) (by kernel_rfl) (by kernel_rfl) (fun _ _ _ h => h) (Or.inr ⟨by rfl, rfl⟩) (by assumption) ?_
          try simp only [List.getElem_toArray, List.getElem_cons_zero, List.getElem_cons_succ, Act.put, List.setIfInBounds_toArray, List.set_cons_zero, List.set_cons_succ]
          refine wpAnyH_take (i := 5) (oi := _) (v := undef) rfl (by kernel_rfl) (by kernel_rfl) (by kernel_rfl) (fun _ _ _ h => h) (Or.inr ⟨by rfl, rfl⟩) (by assumption) ?_
          try simp only [List.getElem_toArray, List.getElem_cons_zero, List.getElem_cons_succ, Act.put, List.setIfInBounds_toArray, List.set_cons_zero, List.set_cons_succ]
          refine wpAnyH_take (i := 6) (oi := _) (v := undef) rfl (by kernel_rfl) (by kernel_rfl) (by kernel_rfl) (fun _ _ _ h => h) (Or.inr ⟨by rfl, rfl⟩) (by assumption) ?_
          try simp only [List.getElem_toArray, List.getElem_cons_zero, List.getElem_cons_succ, Act.put, List.setIfInBounds_toArray, List.set_cons_zero, List.set_cons_succ]
          refine wpAnyH_take (i := 7) (oi := _) (v := undef) rfl (by kernel_rfl) (by kernel_rfl) (by kernel_rfl) (fun _ _ _ h => h) (Or.inr ⟨by rfl, rfl⟩) (by assumption) ?_
          try simp only [List.getElem_toArray, List.getElem_cons_zero, List.getElem_cons_succ, Act.put, List.setIfInBounds_toArray, List.set_cons_zero, List.set_cons_succ]
          refine wpAnyH_take (i := 8) (oi := _) (v := undef) rfl (by kernel_rfl) (by kernel_rfl) (by kernel_rfl) (fun _ _ _ h => h) (Or.inr ⟨by rfl, rfl⟩) (by assumption) ?_
          try simp only [List.getElem_toArray, List.getElem_cons_zero, List.getElem_cons_succ, Act.put, List.setIfInBounds_toArray, List.set_cons_zero, List.set_cons_succ]
          refine wpAnyH_take (i := 9) (oi := _) (v := undef) rfl (by kernel_rfl) (by kernel_rfl) (by kernel_rfl) (fun _ _ _ h => h) (Or.inr ⟨by rfl, rfl⟩) (by assumption) ?_
          try simp only [List.getElem_toArray, List.getElem_cons_zero, List.getElem_cons_succ, Act.put, List.setIfInBounds_toArray, List.set_cons_zero, List.set_cons_succ]
          refine wpAnyH_take (i := 10) (oi := _) (v := ?_) rfl (by kernel_rfl) (by kernel_rfl) (by kernel_rfl) (fun _ _ _ h => h) (Or.inl ⟨by rfl, ?_⟩) (by assumption) ?_
          rotate_left 1
          · (intro w hSw; (try dsimp only at hSw); go_simp; try with_reducible rfl)
          try simp only [List.getElem_toArray, List.getElem_cons_zero, List.getElem_cons_succ, Act.put, List.setIfInBounds_toArray, List.set_cons_zero, List.set_cons_succ]
          refine wpAnyH_take (i := 11) (oi := _) (v := ?_) rfl (by kernel_rfl) (by kernel_rfl) (by kernel_rfl) (fun _ _ _ h => h) (Or.inl ⟨by rfl, ?_⟩) (by assumption) ?_
          rotate_left 1
          · (intro w hSw; (try dsimp only at hSw); go_simp; try with_reducible rfl)
          try simp only [List.getElem_toArray, List.getElem_cons_zero, List.getElem_cons_succ, Act.put, List.setIfInBounds_toArray, List.set_cons_zero, List.set_cons_succ]
          refine wpAnyH_done (by kernel_rfl) ?_ _
          go_wp2
          refine ⟨⟨i + 1, true, HM.out.1, by go_num, ?_, ?_, UW.out.now⟩, ?_⟩
          · first | rfl | exact congrArg Value.bool (decide_eq_true (by have := gL.out; omega))
          · exact ne_stepO HP.out hr.out
          · have hm := HM.out.2; clear HM; simp only [intOf, Int.toNat_natCast]; first | exact hm | (simp; omega)
      · have hN : i = N := by omega
        have HN2 := Lib.hid hN
        have i1 : ¬ ((i : Int) < N) := by omega
        clear hN hlt hi
        have hl0 := U13.out.now.cell
        have hl1 := (row_cell U2.out.now 0).trans (show _ = some (.int .i64 (ax : Int)) from rfl)
        have hl2 := (row_cell U2.out.now 1).trans (show _ = some (.int .i64 (ay : Int)) from rfl)
        go_wp2_with fail
        clear hl0 hl1 hl2
        clear i1
        (with_reducible refine ((hasV ax ay HR.out.1 HR.out.2.1 U13.out.now.1).mono (OutV.as (congrArg Value.bool (ne_end HL.out.1 HL.out.2 HN2.out hr.out HR.out.1 HR.out.2.1)))).mono ?_)
        rintro e w15 ⟨rfl, hb⟩
        replace HU := Lib.hid (HU.out.next hb)
        replace UA := Lib.hid (UA.out.next hb)
        replace UB := Lib.hid (UB.out.next hb)
        replace UC := Lib.hid (UC.out.next hb)
        replace UX := Lib.hid (UX.out.next hb)
        replace U2 := Lib.hid (U2.out.next hb)
        replace U3 := Lib.hid (U3.out.next hb)
        replace U4 := Lib.hid (U4.out.next hb)
        replace U13 := Lib.hid (U13.out.next hb)
        replace UL := Lib.hid (UL.out.next hb)
        replace UW := Lib.hid (UW.out.next hb)
        clear hb
        go_wp2
        go_ret
        exact ⟨rfl, HU.out.now.1⟩
end Go.Proofs.YtipfafglbkbafaaDoor
