/- Next, walked: a range over a function that is left early. -/
import Derived.RangeFuncWrites
import Derived.Shelf.RegionOpen
import Derived.Lib.MinMax
import Derived.Sort.CutIn
import Derived.Test.YtbgdlfkeimaaiaaDoorSe
namespace Go.Proofs.YtbgdlfkeimaaiaaDoor
open Go.RowKit Go.Shelf
attribute [local go_sem] Oper.semAt_some
set_option linter.unusedSimpArgs false
set_option linter.unusedVariables false
/-- The first of n minutes from t on at which p holds. -/
def firstN (p : Nat → Bool) (t : Nat) : Nat → Int
  | 0 => -1
  | n + 1 => if p t = true then (t : Int) else firstN p (t + 1) n
theorem firstN_none (p : Nat → Bool) : ∀ (n t : Nat), (∀ m, t ≤ m → m < t + n → p m = false) → firstN p t n = -1
  | 0, t, h => rfl
  | n + 1, t, h => by
    rw [firstN, if_neg (by rw [h t (by omega) (by omega)]; decide)]
    exact firstN_none p n (t + 1) (fun m h1 h2 => h m (by omega) (by omega))
theorem firstN_some (p : Nat → Bool) : ∀ (n t k : Nat), k < n → (∀ m, t ≤ m → m < t + k → p m = false) → p (t + k) = true → firstN p t n = ((t + k : Nat) : Int)
  | 0, t, k, hk, h, hp => by omega
  | n + 1, t, 0, hk, h, hp => by rw [Nat.add_zero] at hp; rw [firstN, if_pos hp]; rfl
  | n + 1, t, k + 1, hk, h, hp => by
    rw [firstN, if_neg (by rw [h t (by omega) (by omega)]; decide), firstN_some p n (t + 1) k (by omega) (fun m h1 h2 => h m (by omega) (by omega)) (by rw [show t + 1 + k = t + (k + 1) by omega]; exact hp)]
    omega
/-- Is the cell at a minute as asked for? -/
def asked (x y : Nat) (lit : Bool) (m : Nat) : Bool := decide (0 < hgt x y m) == lit
/-- How many minutes are searched. -/
def searchN (t : Nat) : Nat := min (t + 1440) 1000000 + 1 - t
def nextZ (x y t : Nat) (lit : Bool) : Int := firstN (asked x y lit) t (searchN t)
theorem searchN_le (t : Nat) (ht : t ≤ 1000000) : t + searchN t ≤ 1000001 ∧ searchN t ≤ 1441 ∧ t + searchN t = min (t + 1440) 1000000 + 1 := by unfold searchN; omega
theorem mins_prefix {t N : Nat} {q : List Min} {z : Min} (h : q ++ [z] <+: mins t N) : ∃ k, k < N ∧ q = mins t k ∧ z = cl (t + k) := by
  have hl := h.length_le
  rw [mins_len, List.length_append, List.length_singleton] at hl
  refine ⟨q.length, by omega, ?_⟩
  have h1 := List.prefix_iff_eq_take.1 h
  rw [show mins t N = mins t (q.length + 1) ++ mins (t + (q.length + 1)) (N - (q.length + 1)) from by rw [← mins_app]; congr 1; omega, List.length_append, List.length_singleton, List.take_left' (mins_len _ _), mins_succ] at h1
  have h2 := List.append_inj h1 (by rw [mins_len])
  exact ⟨h2.1, by simpa using h2.2⟩
/-- The blocks of a search. -/
structure NxM (b0 b1 b2 b3 x y : Nat) (lit : Bool) (W : World) : Prop where
  c : BX W b0 #[.int .i64 (x : Int), .int .i64 (y : Int)] 23
  l : BX W b1 #[.bool lit] 4
  r : BX W b2 #[.int .i64 0] 3
  e : BX W b3 #[.int .i64 0] 34
theorem NxM.next {b0 b1 b2 b3 x y : Nat} {lit : Bool} {W W' : World} (h : NxM b0 b1 b2 b3 x y lit W) (hb : Below W.heap.size W W') : NxM b0 b1 b2 b3 x y lit W' := ⟨h.c.next hb, h.l.next hb, h.r.next hb, h.e.next hb⟩
theorem NxM.own {β : Type} (b0 b1 b2 b3 x y : Nat) (lit : Bool) : Own (fun (_ : β) W => NxM b0 b1 b2 b3 x y lit W) := fun s X Y row hs hg hrow =>
  ⟨BX.own b0 _ _ s X Y row hs.c hg hrow, BX.own b1 _ _ s X Y row hs.l hg hrow, BX.own b2 _ _ s X Y row hs.r hg hrow, BX.own b3 _ _ s X Y row hs.e hg hrow⟩
theorem nx_blocks (w : World) (x y : Nat) (lit : Bool) : ∃ W0 b0 b1 b2 b3, (((w.alloc (.cells #[.int .i64 (x : Int), .int .i64 (y : Int)] 23)).alloc (.cells #[.bool lit] 4)).alloc (.cells #[.int .i64 0] 3)).alloc (.cells #[.int .i64 0] 34) = W0 ∧
    w.heap.size = b0 ∧ b0 + 1 = b1 ∧ b1 + 1 = b2 ∧ b2 + 1 = b3 ∧ W0.heap.size = b3 + 1 ∧ Below b0 w W0 ∧ NxM b0 b1 b2 b3 x y lit W0 := by
  refine ⟨_, _, _, _, _, rfl, rfl, rfl, rfl, rfl, by simp, ((((Below.refl _ w).alloc (Nat.le_refl _) _).alloc (by simp) _).alloc (by simp <;> omega) _).alloc (by simp <;> omega) _, ?_⟩
  exact ⟨(((BX.new rfl).alloc _).alloc _).alloc _, ((BX.new (by simp)).alloc _).alloc _, (BX.new (by simp)).alloc _, BX.new (by simp)⟩
set_option maxRecDepth 100000 in
set_option maxHeartbeats 4000000 in
theorem nextS_yes (x y t : Nat) (lit : Bool) (hx : x < 48) (hy : y < 24) (ht : t ≤ 1000000) (w : World) (hT : Tab w) :
    Calls Tryd.prog 20 #[CV x y, iV t, .bool lit] w fun e w' => e = .returned (.tuple #[.int .i64 (nextZ x y t lit), .int .i64 0]) ∧ Below w.heap.size w w' := by
  refine callsIn_wide (n := 5) |>.1 ?_
  have hm : isMin t = true := isMin_iff.2 (by omega)
  have hv : onG x y = true := by unfold onG; simp; omega
  obtain ⟨W0, b0, b1, b2, b3, hW0, e0, e1, e2, e3, hz, hB, hM⟩ := nx_blocks w x y lit
  subst e0
  have HE := Lib.hid (And.intro e1 (And.intro e2 (And.intro e3 hz)))
  have HB := Lib.hid hB
  have HT := Lib.hid (hT.below hB hT.1)
  have HM := Lib.hid hM
  have HX := Lib.hid (And.intro hx (And.intro hy ht))
  have hc0 := hM.c.cell 0
  have hc1 := hM.c.cell 1
  clear hB hz hT hM
  refine callsIn_of_wp_marks Tryd.func20 rfl trivial ?_ rfl
  simp only [Tryd.ntmps20, List.size_toArray, List.length_cons, List.length_nil, Nat.reduceAdd, Nat.reduceSub, Array.replicate_succ, Array.replicate_zero, List.push_toArray, List.append_toArray, List.nil_append, List.cons_append]
  have hf38 : Fence.wide.fn 38 := trivial
  have hf33 : Fence.wide.fn 33 := trivial
  have hf42 : Fence.wide.fn 42 := trivial
  have i0 : (0 : Int) ≤ t := by omega
  have i1 : (t : Int) ≤ 1000000 := by omega
  gi_wp2_with fail
  (with_reducible refine (callsIn_wide.2 (validCell_any _ _ _)).mono ?_)
  rintro e w1 ⟨rfl, hb1⟩
  have HM1 := Lib.hid (HM.out.next hb1)
  have HE1 := Lib.hid hb1.size
  have HB1 := Lib.hid (HB.out.trans (hb1.mono (by have := HE.out; omega)))
  have HT1 := Lib.hid (HT.out.below hb1 HT.out.1)
  clear hb1 hW0 e1 e2 e3 hc0 hc1 HM HT HB
  obtain ⟨u, hu⟩ : ∃ u, min (t + 1440) 1000000 = u := ⟨_, rfl⟩
  have HU := Lib.hid hu
  have hu0 : min ((t : Int) + 1440) 1000000 = (u : Int) := by omega
  have hu1 : (0 : Int) ≤ u := by omega
  have hu2 : (u : Int) ≤ 1000000 := by omega
  clear hu
  have HU0 := Lib.hid hu0
  clear hu0
  gi_wp2_with fail
  (with_reducible refine (callsIn_wide.2 (isMinute_any _ _)).mono ?_)
  rintro e w' ⟨rfl, rfl⟩
  replace hu0 := HU0.out
  gi_upto_region 4 with fail
  clear hu0
  gi_wp2_with fail
  (with_reducible refine (minutes_in Fence.wide _ hf42 rfl _ _ _).mono ?_)
  rintro e w2 ⟨rfl, rfl⟩
  obtain ⟨w2, hw2⟩ : ∃ w2, w1.alloc (.cells #[.int .i64 (t : Int), .int .i64 ((u : Int) + 1)] 29) = w2 := ⟨_, rfl⟩
  have hS := show BX w2 w1.heap.size #[.int .i64 (t : Int), .int .i64 ((u : Int) + 1)] 29 from by rw [← hw2]; exact BX.new rfl
  have HB2 := Lib.hid (show Below w.heap.size w w2 from by rw [← hw2]; exact HB1.out.alloc HB1.out.size _)
  have HM2 := Lib.hid (show NxM w.heap.size b1 b2 b3 x y lit w2 from by rw [← hw2]; exact HM1.out.next ((Below.refl _ _).alloc (Nat.le_refl _) _))
  have HT2 := Lib.hid (show Tab w2 from by rw [← hw2]; exact HT1.out.below ((Below.refl _ _).alloc (Nat.le_refl _) _) HT1.out.1)
  have HS := Lib.hid hS
  rw [hw2]
  clear hw2 hS HM1 HT1 HB1
  obtain ⟨hN1, hN2, hN3⟩ := searchN_le t ht
  rw [HU.out] at hN3
  have HNN := Lib.hid (And.intro hN1 (And.intro hN2 hN3))
  clear hN1 hN2 hN3 hu1 hu2
  have hmx : Tryd.prog.follows .mixedOrders = true := by kernel_rfl
  gi_wp2_with fail
  refine wpIn_rangeFunc_ownG (n := 5) rfl (by decide) (gf := 48) (lb := #[.pointer (some ⟨w1.heap.size, 0, none⟩)]) rfl trivial (enters_of Tryd.func48 (by kernel_rfl) rfl)
    (minutes_stops Fence.wide (5 - 1) trivial rfl (by decide) w1.heap.size (Below w2.heap.size) (fun W W' h i v hc => (h.cell (p := ⟨w1.heap.size, i, none⟩) HS.out.lt).trans hc) t (searchN t) HNN.out.1 w2 HS.out.lt (HS.out.cell 0) ((HS.out.cell 1).trans (by rw [HNN.out.2.2]; rfl))) belowK_t (belowK_b (Nat.le_refl _)) (Below.refl _ _) (fun _ => rfl)
    (fun pre W => ((∀ z ∈ pre, asked x y lit z.1 = false) ∧ NxM w.heap.size b1 b2 b3 x y lit W) ∧ Below w2.heap.size w2 W)
    (fun c pre W => (c = .ret ∧ ∃ q z, pre = q ++ [z] ∧ (∀ z ∈ q, asked x y lit z.1 = false) ∧ asked x y lit z.1 = true ∧ W.cell? ⟨b2, 0, none⟩ = some (iV z.1) ∧ W.cell? ⟨b3, 0, none⟩ = some (.int .i64 0)) ∧ Below w.heap.size w W)
    (OwnFrom.and (Own.from (fun s A B row hs hg hr => ⟨hs.1, NxM.own (β := List Min) w.heap.size b1 b2 b3 x y lit s A B row hs.2 hg hr⟩) _) (ownFrom_below (Nat.le_refl _) (Nat.le_refl _)))
    (fun c => OwnFrom.and (Own.from (fun s A B row hs hg hr => by
      obtain ⟨h1, q, z, h2, h3, h4, h5, h6⟩ := hs
      exact ⟨h1, q, z, h2, h3, h4, cell_kept h5 hg hr, cell_kept h6 hg hr⟩) _) (ownFrom_below (Nat.le_refl _) HB2.out.size))
    ⟨⟨by simp, HM2.out⟩, Below.refl _ _⟩
    ?a1 ?assign ?body ?done ?stop
  case assign =>
    intro l x W K hK
    gi_wp2
    exact hK
  case body =>
    rintro l pre ⟨m, hm6⟩ W ⟨⟨hp, hM⟩, hB⟩ hlt
    have HP := Lib.hid hp
    have HMW := Lib.hid hM
    have HBW := Lib.hid hB
    have HTW := Lib.hid (HT2.out.below hB HT2.out.1)
    clear hp hM hB
    have KC := Lib.hid (fun W' (h : Below W.heap.size W W') => show (W'.cell? ⟨w.heap.size, 0, none⟩ = some (.int .i64 (x : Int)) ∧ W'.cell? ⟨w.heap.size, 1, none⟩ = some (.int .i64 (y : Int)) ∧ W'.cell? ⟨b1, 0, none⟩ = some (.bool lit)) ∧
        W'.cell? ⟨0, 0, none⟩ = some (.bool true) ∧ W'.cell? ⟨0, 1, none⟩ = some (.bool false) from
      ⟨⟨((HMW.out.next h).c.cell 0), ((HMW.out.next h).c.cell 1), ((HMW.out.next h).l.cell 0)⟩, (HTW.out.below h HTW.out.1).2.2.1⟩)
    have hB0 := Lib.hid (Below.refl W.heap.size W).drew
    obtain ⟨⟨k1, k2, k3⟩, k4, k5⟩ := KC.out _ hB0.out
    have heq := run_eqDay (hgt x y m)
    have hfh : Fence.wide.fn 39 := trivial
    have hfl : Fence.wide.fn 43 := trivial
    obtain ⟨v, hvv⟩ : ∃ v, asked x y lit m = v := ⟨_, rfl⟩
    have HV := Lib.hid hvv
    have hv' : (decide (0 < hgt x y m) == lit) = v := hvv
    clear hvv i0 i1 hm hv
    gi_wp2_with fail
    gi_cut [34] from 27 (fun s34 wx => s34 = .bool v ∧ Below W.heap.size W wx)
    case first =>
      gi_region_with_o (first
        | (gi_at_call 39; refine (CallsIn.inRound l (callsIn_wide.2 (height_any x y m hx hy hm6 _))).mono ?_; rintro e w6 ⟨rfl, hb6⟩; have hB6 := Lib.hid (below_tr hB0.out hb6); obtain ⟨⟨k1, k2, k3⟩, k4, k5⟩ := KC.out _ hB6.out; clear hb6)
        | (gi_at_call 43; refine (CallsIn.inRound l (callsIn_wide.2 (light_any _ _))).mono ?_; rintro e w7 ⟨rfl, hb7⟩; have hB7 := Lib.hid (below_tr hB6.out hb7); obtain ⟨⟨k1, k2, k3⟩, k4, k5⟩ := KC.out _ hB7.out; clear hb7))
      all_goals gi_wp2
      all_goals gi_meet
      all_goals exact ⟨rfl, hB7.out⟩
    case rest =>
      obtain ⟨rfl, hb8⟩ := hcut
      have HB8 := Lib.hid hb8
      have HM8 := Lib.hid (HMW.out.next hb8)
      clear hb8 hv' heq hfh hfl k1 k2 k3 k4 k5
      cases v with
      | true =>
        have c2 : wc.cell? ⟨b2, 0, none⟩ = some (.int .i64 0) := HM8.out.r.cell 0
        have f2 := HM8.out.r.frozen 0
        have c3 : wc.cell? ⟨b3, 0, none⟩ = some (.int .i64 0) := HM8.out.e.cell 0
        have f3 := HM8.out.e.frozen 0
        have n23 : ¬ b2 = b3 := by have := HE.out; omega
        have n32 : ¬ b3 = b2 := by have := HE.out; omega
        gi_wp2
        have hr := show Boxed wc b2 3 (.int .i64 0) from HM8.out.r
        have he := show Boxed wc b3 34 (.int .i64 0) from HM8.out.e
        have l2 : w.heap.size ≤ b2 := by have := HE.out; omega
        have l3 : w.heap.size ≤ b3 := by have := HE.out; omega
        have hBB : Below w.heap.size w wc := (HB2.out.trans (HBW.out.mono HB2.out.size)).trans (HB8.out.mono (Nat.le_trans HB2.out.size HBW.out.size))
        exact ⟨(((ko_below HB8.out).trans (KeepsOthers.setCell _ _ _)).trans (KeepsOthers.setCell _ _ _)).from _,
          ⟨rfl, pre, ⟨m, hm6⟩, rfl, HP.out, HV.out, ((hr.set (iV m)).other n23 _).cell, ((he.other n32 _).set _).cell⟩,
          (hBB.setCell (p := ⟨b2, 0, none⟩) l2 _).setCell (p := ⟨b3, 0, none⟩) l3 _⟩
      | false =>
        have HN := Lib.hid (show NxM w.heap.size b1 b2 b3 x y lit wc from HM8.out)
        gi_wp2
        exact ⟨(ko_below HB8.out).from _, HB8.out.mono HBW.out.size, ⟨fun z hz => by
          rcases List.mem_append.1 hz with hz | hz
          · exact HP.out z hz
          · rw [List.mem_singleton.1 hz]; exact HV.out, HN.out⟩, HBW.out.trans (HB8.out.mono HBW.out.size)⟩
  case done =>
    rintro D ys W hD rfl ⟨⟨hp, hM⟩, hB⟩ hK
    have HP := Lib.hid hp
    have HMW := Lib.hid hM
    have HBW := Lib.hid hB
    have c2 : W.cell? ⟨b2, 0, none⟩ = some (.int .i64 0) := hM.r.cell 0
    have f2 := hM.r.frozen 0
    have c3 : W.cell? ⟨b3, 0, none⟩ = some (.int .i64 0) := hM.e.cell 0
    have f3 := hM.e.frozen 0
    have n23 : ¬ b2 = b3 := by have := HE.out; omega
    have n32 : ¬ b3 = b2 := by have := HE.out; omega
    have HK := Lib.hid hK
    have HD := Lib.hid hD
    clear hp hM hB hK hD
    gi_wp2
    have hr := show Boxed W b2 3 (.int .i64 0) from HMW.out.r
    have he := show Boxed W b3 34 (.int .i64 0) from HMW.out.e
    have l2 : w.heap.size ≤ b2 := by have := HE.out; omega
    have l3 : w.heap.size ≤ b3 := by have := HE.out; omega
    have hBB : Below w.heap.size w W := HB2.out.trans (HBW.out.mono HB2.out.size)
    have hK' := (KeepsOthers.setCell (W.setCell ⟨b2, 0, none⟩ (.int .i64 (-1))) ⟨b3, 0, none⟩ (.int .i64 0)).same D _ ((KeepsOthers.setCell W ⟨b2, 0, none⟩ (.int .i64 (-1))).same D _ HK.out rfl) rfl
    refine ⟨by simp, .inl ⟨_, _, rfl, run_takeDeferred hK', ?_⟩⟩
    have hc5 := cell_kept ((hr.set (.int .i64 (-1))).other n23 (.int .i64 0)).cell (grownBy_putObj' _ D (.deferred none)) (fun r e => by cases e; exact ⟨_, hK', rfl⟩)
    have hc6 := cell_kept ((he.other n32 (.int .i64 (-1))).set (.int .i64 0)).cell (grownBy_putObj' _ D (.deferred none)) (fun r e => by cases e; exact ⟨_, hK', rfl⟩)
    refine ⟨.tuple #[.int .i64 (-1), .int .i64 0], ?_, ?_, ((hBB.setCell (p := ⟨b2, 0, none⟩) l2 _).setCell (p := ⟨b3, 0, none⟩) l3 _).trans (belowK_b (w := w) (Nat.le_refl _) _ D _ _ (Nat.le_trans HB2.out.size HD.out) hK' rfl rfl)⟩
    · simp [results, Tryd.f20, go_sem, hc5, hc6]
    · have e : nextZ x y t lit = -1 := firstN_none _ _ _ (fun m h1 h2 => by
        obtain ⟨z, hz, rfl⟩ := List.mem_map.1 ((mins_mem HNN.out.1).2 ⟨h1, h2⟩)
        exact HP.out z hz)
      rw [e]
  case stop =>
    rintro D c pre W hD hpre ⟨⟨rfl, q, z, rfl, hq, hz, hc2, hc3⟩, hB⟩ hK
    obtain ⟨k, hk, rfl, rfl⟩ := mins_prefix hpre
    have HP := Lib.hid hq
    have HZ := Lib.hid hz
    have HBW := Lib.hid hB
    have HC := Lib.hid (And.intro hc2 hc3)
    have HK := Lib.hid hK
    have HD := Lib.hid hD
    clear hq hz hB hK hD hc2 hc3 hpre
    gi_wp2
    have hK' := HK.out
    refine ⟨by simp, .inl ⟨_, _, rfl, run_takeDeferred hK', ?_⟩⟩
    have hc5 := cell_kept HC.out.1 (grownBy_putObj' _ D (.deferred none)) (fun r e => by cases e; exact ⟨_, hK', rfl⟩)
    have hc6 := cell_kept HC.out.2 (grownBy_putObj' _ D (.deferred none)) (fun r e => by cases e; exact ⟨_, hK', rfl⟩)
    have ev : (cl (t + k)).1 = t + k := cl_val (by have := HNN.out; omega)
    refine ⟨.tuple #[.int .i64 ((t + k : Nat) : Int), .int .i64 0], ?_, ?_, HBW.out.trans (belowK_b (w := w) (Nat.le_refl _) _ D _ _ (Nat.le_trans HB2.out.size HD.out) hK' rfl rfl)⟩
    · rw [ev] at hc5
      simp [results, Tryd.f20, go_sem, hc5, hc6]
    · have e : nextZ x y t lit = ((t + k : Nat) : Int) := firstN_some _ _ _ k hk (fun m h1 h2 => by
        obtain ⟨z, hz, rfl⟩ := List.mem_map.1 ((mins_mem (k := k) (by have := HNN.out; omega)).2 ⟨h1, h2⟩)
        exact HP.out z hz) (by have := HZ.out; rw [ev] at this; exact this)
      rw [e]
end Go.Proofs.YtbgdlfkeimaaiaaDoor
