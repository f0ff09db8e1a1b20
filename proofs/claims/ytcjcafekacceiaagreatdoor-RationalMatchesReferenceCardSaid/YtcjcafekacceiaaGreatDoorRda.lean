/- Integer layer, merged: Rda. -/
import Derived.Deep.LoopGhost
import Derived.Test.YtcjcafekacceiaaGreatDoorJ
/-! Merged of Rpl, Rmi, Ror, Rti, Rdi. -/
/-! The reference's plus and minus, walked. -/
namespace Go.Proofs.YtcjcafekacceiaaGreatDoor
open Go.RowKit

/-- A list's shape, and what its elements read as wherever they have been kept. -/
theorem Ls.reader {w : World} {v : Value} {zs : List Int} (h : Ls w v zs) : ∃ al c, v = .slice al zs.length c ∧
    Hid (∀ W k, Below w.heap.size w W → k < zs.length → ∃ bk o, al = some ⟨bk, o, none⟩ ∧ W.cell? ⟨bk, o + k, none⟩ = some (.int .i64 (zs[k]?.getD 0))) := by
  rcases h with ⟨rfl, rfl⟩ | ⟨bk, o, c, rfl, _, hlt, hc⟩
  · exact ⟨none, 0, rfl, fun W k _ hk => by simp at hk⟩
  · exact ⟨_, c, rfl, fun W k hW hk => ⟨bk, o, rfl, (hW.cell (p := ⟨bk, o + k, none⟩) hlt).trans (hc k hk)⟩⟩
def PlusR (B : Nat) (w : World) (a b k : Nat) (c : Int) (v : Value) (wr : World) : Prop :=
  ∃ gs, PlusN a b k c gs ∧ gs.length = k ∧ wr.ownsRow B 3 1 v k (gs.map (Value.int .i64)) ∧ Below B w wr
theorem plusN_c {a b k : Nat} {c : Int} {gs : List Int} (h : PlusN a b k c gs) : 0 ≤ c ∧ c ≤ 1 := h.2.1
theorem plusR_step {B : Nat} {w : World} {a b k : Nat} {c n : Int} {gs : List Int} {v' : Value} {w1 : World} (h : PlusN a b k c gs) (hl : gs.length = k) (hn : n = c + (dz 10 a)[k]?.getD 0 + (dz 10 b)[k]?.getD 0) (hgo : k < (dz 10 a).length ∨ k < (dz 10 b).length ∨ 0 < c)
    (hown : w1.ownsRow B 3 1 v' (k + 1) (gs.map (Value.int .i64) ++ [.int .i64 (n % 10)])) (hb : Below B w w1) : PlusR B w a b (k + 1) (n / 10) v' w1 := by
  obtain ⟨h1, _⟩ := plusN_step a b k c n gs h hn hgo
  exact ⟨_, h1, by simp [hl], by simpa using hown, hb⟩

set_option maxRecDepth 100000 in
set_option maxHeartbeats 2000000 in
theorem rplus_dt (w : World) (v1 v2 : Value) (a b : Nat) (h1 : Dt w v1 a) (h2 : Dt w v2 b) (ha : (dz 10 a).length ≤ 10000) (hb : (dz 10 b).length ≤ 10000) :
    Calls Tryz.prog 84 #[v1, v2] w (DtOut w (a + b)) := by
  obtain ⟨i0, hi, hz0, hz1, hz2⟩ := info_parts infoInt
  obtain ⟨al1, c1, rfl, R1⟩ := Ls.reader h1
  obtain ⟨al2, c2, rfl, R2⟩ := Ls.reader h2
  clear h1 h2
  obtain ⟨L1, hL1⟩ : ∃ L1, (dz 10 a).length = L1 := ⟨_, rfl⟩
  obtain ⟨L2, hL2⟩ : ∃ L2, (dz 10 b).length = L2 := ⟨_, rfl⟩
  have D1 := Lib.hid (dig10_at a); have D2 := Lib.hid (dig10_at b)
  have HL1 := Lib.hid hL1; have HL2 := Lib.hid hL2
  rw [hL1] at R1 ha ⊢
  rw [hL2] at R2 hb ⊢
  have HST := Lib.hid (plusN_start a b)
  have HEND := Lib.hid (plusN_end a b)
  clear hL1 hL2
  go_enter Tryz.func84, Tryz.ntmps84
  go_wp2
  go_loopw [5, 6, 7] (fun v cv iv wr => ∃ (k : Nat) (c : Int), k ≤ 10001 ∧ iv = .int .i64 k ∧ cv = .int .i64 c ∧ PlusR w.heap.size w a b k c v wr) (fun _ _ iv _ => 10001 - (intOf iv).toNat)
  case atStart => exact ⟨0, 0, by omega, rfl, rfl, [], HST.out, rfl, World.ownsRow_nil _ _ _ _, Below.refl _ _⟩
  case round =>
    obtain ⟨k, c, hk, rfl, rfl, gs, hP, hgl, hrow, hB⟩ := hrel
    have hc01 := plusN_c hP
    have HP := Lib.hid hP; have HGL := Lib.hid hgl; have HB := Lib.hid hB
    have hBs := hB.size
    clear hP hgl hB
    have d1 := D1.out k
    have d2 := D2.out k
    have hSt := Lib.hid (fun n v' w1 => plusR_step (B := w.heap.size) (w := w) (n := n) (v' := v') (w1 := w1) HP.out HGL.out)
    have hOver := Lib.hid (plusN_over a b k c gs HP.out)
    obtain ⟨x, hx⟩ : ∃ x, (dz 10 a)[k]?.getD 0 = x := ⟨_, rfl⟩
    obtain ⟨y, hy⟩ : ∃ y, (dz 10 b)[k]?.getD 0 = y := ⟨_, rfl⟩
    rw [hx] at d1
    rw [hy] at d2
    have HX := Lib.hid hx; have HY := Lib.hid hy
    clear hx hy
    by_cases hk1 : k < L1
    · by_cases hk2 : k < L2
      · skip
        obtain ⟨b1, o1, rfl, q1⟩ := R1.out wr k HB.out hk1
        rw [HX.out] at q1
        obtain ⟨b2, o2, rfl, q2⟩ := R2.out wr k HB.out hk2
        rw [HY.out] at q2
        obtain ⟨n, hn⟩ : ∃ n, c + x + y = n := ⟨_, rfl⟩
        have hnb : 0 ≤ n ∧ n ≤ 19 := by omega
        have HS := Lib.hid (fun v' w1 => hSt.out n v' w1 (by rw [HX.out, HY.out]; omega) (by rw [HL1.out, HL2.out]; omega))
        go_wp2_with (at_builtin; refine wpList_append_lit rfl _ _ 40 3 rfl Tryz.underlying40 hi hz0 hz1 hz2 rfl w.heap.size _ _ _ rfl hrow #[.int .i64 (n % 10)] 1 rfl (by simp [Value.oneCell']) (by simp; omega) (by decide) hBs HB.out ?_; intro v' w1 hown' hb1)
        go_roundw
        case rel => exact ⟨k + 1, n / 10, by omega, by go_num, rfl, HS.out _ _ hown' hb1⟩
        case measure => simp [intOf]; omega
      · skip
        obtain ⟨b1, o1, rfl, q1⟩ := R1.out wr k HB.out hk1
        rw [HX.out] at q1
        obtain ⟨n, hn⟩ : ∃ n, c + x = n := ⟨_, rfl⟩
        have hy0 : y = 0 := by rw [← HY.out, List.getElem?_eq_none (by rw [HL2.out]; omega)]; rfl
        have hnb : 0 ≤ n ∧ n ≤ 19 := by omega
        have HS := Lib.hid (fun v' w1 => hSt.out n v' w1 (by rw [HX.out, HY.out]; omega) (by rw [HL1.out, HL2.out]; omega))
        clear hy0
        go_wp2_with (at_builtin; refine wpList_append_lit rfl _ _ 40 3 rfl Tryz.underlying40 hi hz0 hz1 hz2 rfl w.heap.size _ _ _ rfl hrow #[.int .i64 (n % 10)] 1 rfl (by simp [Value.oneCell']) (by simp; omega) (by decide) hBs HB.out ?_; intro v' w1 hown' hb1)
        go_roundw
        case rel => exact ⟨k + 1, n / 10, by omega, by go_num, rfl, HS.out _ _ hown' hb1⟩
        case measure => simp [intOf]; omega
    · by_cases hk2 : k < L2
      · skip
        obtain ⟨b2, o2, rfl, q2⟩ := R2.out wr k HB.out hk2
        rw [HY.out] at q2
        obtain ⟨n, hn⟩ : ∃ n, c + y = n := ⟨_, rfl⟩
        have hx0 : x = 0 := by rw [← HX.out, List.getElem?_eq_none (by rw [HL1.out]; omega)]; rfl
        have hnb : 0 ≤ n ∧ n ≤ 19 := by omega
        have HS := Lib.hid (fun v' w1 => hSt.out n v' w1 (by rw [HX.out, HY.out]; omega) (by rw [HL1.out, HL2.out]; omega))
        clear hx0
        go_wp2_with (at_builtin; refine wpList_append_lit rfl _ _ 40 3 rfl Tryz.underlying40 hi hz0 hz1 hz2 rfl w.heap.size _ _ _ rfl hrow #[.int .i64 (n % 10)] 1 rfl (by simp [Value.oneCell']) (by simp; omega) (by decide) hBs HB.out ?_; intro v' w1 hown' hb1)
        go_roundw
        case rel => exact ⟨k + 1, n / 10, by omega, by go_num, rfl, HS.out _ _ hown' hb1⟩
        case measure => simp [intOf]; omega
      · by_cases hc : 0 < c
        · have hk3 : k ≤ 10000 := by
            by_cases h : k ≤ 10000
            · exact h
            · exact absurd hc (hOver.out (by rw [HL1.out]; omega) (by rw [HL2.out]; omega))
          obtain ⟨n, hn⟩ : ∃ n, c = n := ⟨_, rfl⟩
          have hx0 : x = 0 := by rw [← HX.out, List.getElem?_eq_none (by rw [HL1.out]; omega)]; rfl
          have hy0 : y = 0 := by rw [← HY.out, List.getElem?_eq_none (by rw [HL2.out]; omega)]; rfl
          have hnb : 0 ≤ n ∧ n ≤ 19 := by omega
          have HS := Lib.hid (fun v' w1 => hSt.out n v' w1 (by rw [HX.out, HY.out]; omega) (by rw [HL1.out, HL2.out]; omega))
          subst hn
          clear hx0
          clear hy0
          go_wp2_with (at_builtin; refine wpList_append_lit rfl _ _ 40 3 rfl Tryz.underlying40 hi hz0 hz1 hz2 rfl w.heap.size _ _ _ rfl hrow #[.int .i64 (c % 10)] 1 rfl (by simp [Value.oneCell']) (by simp; omega) (by decide) hBs HB.out ?_; intro v' w1 hown' hb1)
          go_roundw
          case rel => exact ⟨k + 1, c / 10, by omega, by go_num, rfl, HS.out _ _ hown' hb1⟩
          case measure => simp [intOf]; omega
        · have hls := Lib.hid (Ls.own hrow gs rfl)
          have he := Lib.hid (HEND.out k c gs HP.out (by rw [HL1.out]; omega) (by rw [HL2.out]; omega) (by omega))
          go_wp2
          go_ret
          refine ⟨_, rfl, ?_, HB.out⟩
          unfold Dt
          rw [← he.out]
          exact hls.out
end Go.Proofs.YtcjcafekacceiaaGreatDoor

/-! The reference's minus, walked. -/
namespace Go.Proofs.YtcjcafekacceiaaGreatDoor
open Go.RowKit

/-- A number in a row that the call has made. -/
def DfOut (w : World) (n : Nat) (e : Ending) (w' : World) : Prop := ∃ v', e = .returned v' ∧ Dt w' v' n ∧ AtLeast w.heap.size v' ∧ Below w.heap.size w w'
def MinusR (B : Nat) (w : World) (a b k : Nat) (c : Int) (v : Value) (wr : World) : Prop :=
  ∃ gs, MinusN a b k c gs ∧ wr.ownsRow B 3 1 v k (gs.map (Value.int .i64)) ∧ Below B w wr
theorem minusN_c {a b k : Nat} {c : Int} {gs : List Int} (h : MinusN a b k c gs) : 0 ≤ c ∧ c ≤ 1 := h.2.1
theorem minusR_step {B : Nat} {w : World} {a b k : Nat} {c n m c' : Int} {gs : List Int} {v' : Value} {w1 : World} (h : MinusN a b k c gs) (hn : n = (dz 10 a)[k]?.getD 0 - c - (dz 10 b)[k]?.getD 0) (hm : m = n + 10 * c') (hc : c' = if n < 0 then 1 else 0)
    (hown : w1.ownsRow B 3 1 v' (k + 1) (gs.map (Value.int .i64) ++ [.int .i64 m])) (hb : Below B w w1) : MinusR B w a b (k + 1) c' v' w1 :=
  ⟨_, minusN_step a b k c n m c' gs h hn hm hc, by simpa using hown, hb⟩

set_option maxRecDepth 100000 in
set_option maxHeartbeats 2000000 in
theorem rminus_far (w : World) (v1 v2 : Value) (a b : Nat) (h1 : Dt w v1 a) (h2 : Dt w v2 b) (ha : (dz 10 a).length ≤ 10000) (hle : b ≤ a) :
    Calls Tryz.prog 85 #[v1, v2] w (DfOut w (a - b)) := by
  obtain ⟨i0, hi, hz0, hz1, hz2⟩ := info_parts infoInt
  obtain ⟨al1, c1, rfl, R1⟩ := Ls.reader h1
  obtain ⟨al2, c2, rfl, R2⟩ := Ls.reader h2
  clear h1 h2
  have hlen := dz_length_mono 10 (by decide) b a hle
  obtain ⟨L1, hL1⟩ : ∃ L1, (dz 10 a).length = L1 := ⟨_, rfl⟩
  obtain ⟨L2, hL2⟩ : ∃ L2, (dz 10 b).length = L2 := ⟨_, rfl⟩
  have D1 := Lib.hid (dig10_at a); have D2 := Lib.hid (dig10_at b)
  have HL1 := Lib.hid hL1; have HL2 := Lib.hid hL2
  rw [hL1] at R1 ha hlen ⊢
  rw [hL2] at R2 hlen ⊢
  have HST := Lib.hid (minusN_start a b)
  have HEND := Lib.hid (fun k c gs h hk => minusN_end a b k c gs h hk hle)
  clear hL1 hL2 hle
  go_enter Tryz.func85, Tryz.ntmps85
  go_wp2
  go_loopw [5, 6, 7] (fun v cv iv wr => ∃ (k : Nat) (c : Int), k ≤ L1 ∧ iv = .int .i64 k ∧ cv = .int .i64 c ∧ MinusR w.heap.size w a b k c v wr) (fun _ _ iv _ => L1 - (intOf iv).toNat)
  case atStart => exact ⟨0, 0, by omega, rfl, rfl, [], HST.out, World.ownsRow_nil _ _ _ _, Below.refl _ _⟩
  case round =>
    obtain ⟨k, c, hk, rfl, rfl, gs, hP, hrow, hB⟩ := hrel
    have hc01 := minusN_c hP
    have HP := Lib.hid hP; have HB := Lib.hid hB
    have hBs := hB.size
    clear hP hB
    have d1 := D1.out k
    have d2 := D2.out k
    have hSt := Lib.hid (fun n m c' v' w1 => minusR_step (B := w.heap.size) (w := w) (n := n) (m := m) (c' := c') (v' := v') (w1 := w1) HP.out)
    obtain ⟨x, hx⟩ : ∃ x, (dz 10 a)[k]?.getD 0 = x := ⟨_, rfl⟩
    obtain ⟨y, hy⟩ : ∃ y, (dz 10 b)[k]?.getD 0 = y := ⟨_, rfl⟩
    rw [hx] at d1
    rw [hy] at d2
    have HX := Lib.hid hx; have HY := Lib.hid hy
    clear hx hy
    by_cases hk1 : k < L1
    · obtain ⟨b1, o1, rfl, q1⟩ := R1.out wr k HB.out hk1
      rw [HX.out] at q1
      by_cases hk2 : k < L2
      · obtain ⟨b2, o2, rfl, q2⟩ := R2.out wr k HB.out hk2
        rw [HY.out] at q2
        obtain ⟨n, hn⟩ : ∃ n, x - c - y = n := ⟨_, rfl⟩
        have hnb : -10 ≤ n ∧ n ≤ 9 := by omega
        by_cases hneg : n < 0
        · have HS := Lib.hid (fun v' w1 => hSt.out n (n + 10) 1 v' w1 (by rw [HX.out, HY.out]; omega) (by omega) (by rw [if_pos hneg]))
          go_wp2_with (at_builtin; refine wpList_append_lit rfl _ _ 40 3 rfl Tryz.underlying40 hi hz0 hz1 hz2 rfl w.heap.size _ _ _ rfl hrow #[.int .i64 (n + 10)] 1 rfl (by simp [Value.oneCell']) (by simp; omega) (by decide) hBs HB.out ?_; intro v' w1 hown' hb1)
          go_roundw
          case rel => exact ⟨k + 1, 1, by omega, by go_num, rfl, HS.out _ _ hown' hb1⟩
          case measure => simp [intOf]; omega
        · have HS := Lib.hid (fun v' w1 => hSt.out n n 0 v' w1 (by rw [HX.out, HY.out]; omega) (by omega) (by rw [if_neg hneg]))
          go_wp2_with (at_builtin; refine wpList_append_lit rfl _ _ 40 3 rfl Tryz.underlying40 hi hz0 hz1 hz2 rfl w.heap.size _ _ _ rfl hrow #[.int .i64 n] 1 rfl (by simp [Value.oneCell']) (by simp; omega) (by decide) hBs HB.out ?_; intro v' w1 hown' hb1)
          go_roundw
          case rel => exact ⟨k + 1, 0, by omega, by go_num, rfl, HS.out _ _ hown' hb1⟩
          case measure => simp [intOf]; omega
      · have hy0 : y = 0 := by rw [← HY.out, List.getElem?_eq_none (by rw [HL2.out]; omega)]; rfl
        obtain ⟨n, hn⟩ : ∃ n, x - c = n := ⟨_, rfl⟩
        have hnb : -10 ≤ n ∧ n ≤ 9 := by omega
        by_cases hneg : n < 0
        · have HS := Lib.hid (fun v' w1 => hSt.out n (n + 10) 1 v' w1 (by rw [HX.out, HY.out]; omega) (by omega) (by rw [if_pos hneg]))
          clear hy0
          go_wp2_with (at_builtin; refine wpList_append_lit rfl _ _ 40 3 rfl Tryz.underlying40 hi hz0 hz1 hz2 rfl w.heap.size _ _ _ rfl hrow #[.int .i64 (n + 10)] 1 rfl (by simp [Value.oneCell']) (by simp; omega) (by decide) hBs HB.out ?_; intro v' w1 hown' hb1)
          go_roundw
          case rel => exact ⟨k + 1, 1, by omega, by go_num, rfl, HS.out _ _ hown' hb1⟩
          case measure => simp [intOf]; omega
        · have HS := Lib.hid (fun v' w1 => hSt.out n n 0 v' w1 (by rw [HX.out, HY.out]; omega) (by omega) (by rw [if_neg hneg]))
          clear hy0
          go_wp2_with (at_builtin; refine wpList_append_lit rfl _ _ 40 3 rfl Tryz.underlying40 hi hz0 hz1 hz2 rfl w.heap.size _ _ _ rfl hrow #[.int .i64 n] 1 rfl (by simp [Value.oneCell']) (by simp; omega) (by decide) hBs HB.out ?_; intro v' w1 hown' hb1)
          go_roundw
          case rel => exact ⟨k + 1, 0, by omega, by go_num, rfl, HS.out _ _ hown' hb1⟩
          case measure => simp [intOf]; omega
    · have hls := Lib.hid (Ls.own hrow gs rfl)
      have he := Lib.hid (HEND.out k c gs HP.out (by rw [HL1.out]; omega))
      have hat := Lib.hid (own_atLeast hrow)
      have CT := Lib.hid (rtrim_far wr u5 gs hls.out (by rw [HP.out.2.2.2]; omega) HP.out.1)
      rw [he.out, Int.toNat_natCast] at CT
      go_wp2_with (go_at_call 103; (with_reducible refine CT.out.mono ?_); rintro e w3 ⟨v3, rfl, hv3, hf3, rfl⟩; have HV3 := Lib.hid hv3; have HF3 := Lib.hid (hf3 _ hat.out); clear hv3 hf3)
      go_ret
      exact ⟨_, rfl, HV3.out, HF3.out, HB.out⟩
theorem rminus_dt (w : World) (v1 v2 : Value) (a b : Nat) (h1 : Dt w v1 a) (h2 : Dt w v2 b) (ha : (dz 10 a).length ≤ 10000) (hle : b ≤ a) :
    Calls Tryz.prog 85 #[v1, v2] w (DtOut w (a - b)) :=
  (rminus_far w v1 v2 a b h1 h2 ha hle).mono fun _ _ ⟨v', h3, h4, _, h5⟩ => ⟨v', h3, h4, h5⟩
end Go.Proofs.YtcjcafekacceiaaGreatDoor

/-! The reference's order and digits, walked. -/
namespace Go.Proofs.YtcjcafekacceiaaGreatDoor
open Go.RowKit

theorem cmpN_end (a b : Nat) (hl : (dz 10 a).length = (dz 10 b).length) (h : ∀ j : Nat, 0 ≤ j → (dz 10 a)[j]?.getD 0 = (dz 10 b)[j]?.getD 0) : cmpN a b = 0 := cmpN_same 10 (by decide) a b hl (fun j => h j (Nat.zero_le _))

set_option maxRecDepth 100000 in
set_option maxHeartbeats 2000000 in
theorem rorder_any (w : World) (v1 v2 : Value) (a b : Nat) (h1 : Dt w v1 a) (h2 : Dt w v2 b) (ha : (dz 10 a).length ≤ 10000) (hb : (dz 10 b).length ≤ 10000) :
    Calls Tryz.prog 86 #[v1, v2] w (IntOut w (cmpN a b)) := by
  obtain ⟨al1, c1, rfl, R1⟩ := Ls.reader h1
  obtain ⟨al2, c2, rfl, R2⟩ := Ls.reader h2
  clear h1 h2
  have HLEN := Lib.hid (cmpN_len 10 (by decide) a b)
  have HDIG := Lib.hid (cmpN_digit 10 (by decide) a b)
  have HSAME := Lib.hid (cmpN_end a b)
  have D1 := Lib.hid (dig10_at a); have D2 := Lib.hid (dig10_at b)
  generalize dz 10 a = xs at *
  generalize dz 10 b = ys at *
  generalize cmpN a b = z at *
  obtain ⟨L1, hL1⟩ : ∃ L1, xs.length = L1 := ⟨_, rfl⟩
  obtain ⟨L2, hL2⟩ : ∃ L2, ys.length = L2 := ⟨_, rfl⟩
  have HL1 := Lib.hid hL1; have HL2 := Lib.hid hL2
  rw [hL1] at R1 ha HLEN HDIG HSAME ⊢
  rw [hL2] at R2 hb HLEN HDIG HSAME ⊢
  clear hL1 hL2
  by_cases hne : L1 = L2
  · have HEX : Hid (∀ j, L1 ≤ j → xs[j]?.getD 0 = ys[j]?.getD 0) := fun j hj => by rw [List.getElem?_eq_none (by rw [HL1.out]; exact hj), List.getElem?_eq_none (by rw [HL2.out]; omega)]
    have hdig := fun i => HDIG.out i hne
    have hsame := HSAME.out hne
    subst hne
    have HDG := Lib.hid hdig; have HSM := Lib.hid hsame
    clear HDIG HSAME HLEN hdig hsame
    go_enter Tryz.func86, Tryz.ntmps86
    go_wp2
    go_loopw [5] (fun iv wr => ∃ k : Nat, k ≤ L1 ∧ iv = .int .i64 ((k : Int) - 1) ∧ (∀ j, k ≤ j → xs[j]?.getD 0 = ys[j]?.getD 0) ∧ Below w.heap.size w wr) (fun iv _ => (intOf iv + 1).toNat)
    case atStart => exact ⟨L1, Nat.le_refl _, rfl, HEX.out, Below.refl _ _⟩
    case round =>
      obtain ⟨k, hk, rfl, hq, hB⟩ := hrel
      have HQ := Lib.hid hq; have HB := Lib.hid hB
      clear hq hB
      by_cases hk0 : k = 0
      · subst hk0
        have hz := HSM.out HQ.out
        subst hz
        go_wp2
        go_ret
        exact ⟨rfl, HB.out⟩
      · obtain ⟨j, rfl⟩ : ∃ j, k = j + 1 := ⟨k - 1, by omega⟩
        obtain ⟨b1, o1, rfl, q1⟩ := R1.out wr j HB.out (by omega)
        obtain ⟨b2, o2, rfl, q2⟩ := R2.out wr j HB.out (by omega)
        have HD := Lib.hid (HDG.out j (by omega))
        have HQ2 : Hid (xs[j]?.getD 0 = ys[j]?.getD 0 → ∀ i, j ≤ i → xs[i]?.getD 0 = ys[i]?.getD 0) := fun h i hi => by
          rcases Nat.lt_or_ge j i with h2 | h2
          · exact HQ.out i h2
          · rw [show i = j by omega]; exact h
        have d1 := D1.out j
        have d2 := D2.out j
        obtain ⟨x, hx⟩ : ∃ x, xs[j]?.getD 0 = x := ⟨_, rfl⟩
        obtain ⟨y, hy⟩ : ∃ y, ys[j]?.getD 0 = y := ⟨_, rfl⟩
        rw [hx] at d1 q1 HD HQ2
        rw [hy] at d2 q2 HD HQ2
        clear hx hy hk0
        have hj1 : (j : Int) < (L1 : Int) := by omega
        rcases Int.lt_trichotomy x y with hlt | heq | hgt
        · have hz := HD.out (by omega) (fun i hi => HQ.out i hi)
          rw [if_pos hlt] at hz
          subst hz
          have hnn : (x != y) = true := by simp; omega
          go_wp2_with fail
          go_region
          go_wp2_with fail
          go_region
          go_wp2
          go_ret
          exact ⟨rfl, HB.out.drew.drew⟩
        · subst heq
          have HQ3 := Lib.hid (HQ2.out rfl)
          clear HQ2
          go_wp2_with fail
          go_region
          go_wp2
          go_roundw
          case rel => exact ⟨j, by omega, rfl, HQ3.out, HB.out.drew⟩
          case measure => simp [intOf]
        · have hz := HD.out (by omega) (fun i hi => HQ.out i hi)
          rw [if_neg (by omega)] at hz
          subst hz
          have hnn : (x != y) = true := by simp; omega
          have hnl : ¬ x < y := by omega
          go_wp2_with fail
          go_region
          go_wp2_with fail
          go_region
          go_wp2
          go_ret
          exact ⟨rfl, HB.out.drew.drew⟩
  · have hz := HLEN.out hne
    have hnn : ((L1 : Int) != (L2 : Int)) = true := by simp; omega
    by_cases hlt : L1 < L2
    · rw [if_pos hlt] at hz
      subst hz
      clear HLEN HDIG HSAME
      go_enter Tryz.func86, Tryz.ntmps86
      go_wp2
      go_ret
      exact ⟨rfl, Below.refl _ _⟩
    · rw [if_neg hlt] at hz
      subst hz
      clear HLEN HDIG HSAME
      go_enter Tryz.func86, Tryz.ntmps86
      go_wp2
      go_ret
      exact ⟨rfl, Below.refl _ _⟩
end Go.Proofs.YtcjcafekacceiaaGreatDoor

/-! The reference's times, walked. -/
namespace Go.Proofs.YtcjcafekacceiaaGreatDoor
open Go.RowKit

/-- Between two rows of a product. -/
def TimO (w : World) (a b i N : Nat) (wr : World) : Prop :=
  ∃ zs, RowN a b i zs ∧ wr.ownsRow w.heap.size 3 1 (.slice (some ⟨w.heap.size, 0, none⟩) N N) N (zs.map (Value.int .i64)) ∧ Below w.heap.size w wr
/-- Between two digits of a row. -/
def TimD (w : World) (a b i N k : Nat) (c : Int) (wr : World) : Prop :=
  ∃ zs, TimesN a b i k c zs ∧ wr.ownsRow w.heap.size 3 1 (.slice (some ⟨w.heap.size, 0, none⟩) N N) N (zs.map (Value.int .i64)) ∧ Below w.heap.size w wr
theorem timesN_c {a b i k : Nat} {c : Int} {zs : List Int} (h : TimesN a b i k c zs) : 0 ≤ c ∧ c ≤ 9 := h.2.2.1
theorem timD_step {w wr : World} {a b i N k : Nat} {c n : Int} {zs : List Int} (h : TimesN a b i k c zs) (hown : wr.ownsRow w.heap.size 3 1 (.slice (some ⟨w.heap.size, 0, none⟩) N N) N (zs.map (Value.int .i64))) (hb : Below w.heap.size w wr) (hlt : i + k < zs.length)
    (hn : n = zs[i + k]?.getD 0 + c + ((a / 10 ^ i % 10 : Nat) : Int) * (dz 10 b)[k]?.getD 0) : TimD w a b i N (k + 1) (n / 10) (wr.setCell ⟨w.heap.size, i + k, none⟩ (.int .i64 (n % 10))) := by
  obtain ⟨h1, _⟩ := timesN_step a b i k c n zs h hlt hn
  refine ⟨_, h1, ?_, hb.setCell (p := ⟨w.heap.size, i + k, none⟩) (Nat.le_refl _) _⟩
  have := (hown.stored (i + k) (.int .i64 (n % 10))).1
  rwa [map_set] at this
theorem TimD.drew {w wr : World} {a b i N k : Nat} {c : Int} (h : TimD w a b i N k c wr) : TimD w a b i N k c wr.drew := by
  obtain ⟨zs, h1, h2, h3⟩ := h
  exact ⟨zs, h1, h2.drew, h3.drew⟩

set_option maxRecDepth 100000 in
set_option maxHeartbeats 4000000 in
theorem rtimes_dt (w : World) (v1 v2 : Value) (a b : Nat) (h1 : Dt w v1 a) (h2 : Dt w v2 b) (ha : (dz 10 a).length ≤ 10000) (hb : (dz 10 b).length ≤ 10000) :
    Calls Tryz.prog 75 #[v1, v2] w (DtOut w (a * b)) := by
  obtain ⟨i0, hi, hz0, hz1, hz2⟩ := info_parts infoInt
  obtain ⟨al1, c1, rfl, R1⟩ := Ls.reader h1
  obtain ⟨al2, c2, rfl, R2⟩ := Ls.reader h2
  clear h1 h2
  have HDA := Lib.hid (dz_getD10 a)
  have D2 := Lib.hid (dig10_at b)
  have HST := Lib.hid (timesN_start a b)
  have HEN := Lib.hid (timesN_end a b)
  have HBD := Lib.hid (timesN_bound a b)
  have HAL := Lib.hid (dz_lt 10 (by decide) a)
  obtain ⟨L1, hL1⟩ : ∃ L1, (dz 10 a).length = L1 := ⟨_, rfl⟩
  obtain ⟨L2, hL2⟩ : ∃ L2, (dz 10 b).length = L2 := ⟨_, rfl⟩
  have HL1 := Lib.hid hL1; have HL2 := Lib.hid hL2
  have HR0 : Hid (RowN a b 0 (List.replicate (L1 + L2) 0)) := by
    refine ⟨fun d hd => by have := (List.mem_replicate.1 hd).2; omega, by rw [List.length_replicate, hL1, hL2], ?_⟩
    rw [vz_zeros 10 _ (fun d hd => (List.mem_replicate.1 hd).2), Nat.pow_zero, Nat.mod_one, Nat.zero_mul]; rfl
  rw [hL1] at R1 ha ⊢
  rw [hL2] at R2 hb ⊢
  clear hL1 hL2
  obtain ⟨N, hN⟩ : ∃ N, L1 + L2 = N := ⟨_, rfl⟩
  have hNI : (L1 : Int) + (L2 : Int) = (N : Int) := by omega
  have HNN := Lib.hid hN
  rw [hN] at HR0
  go_enter Tryz.func75, Tryz.ntmps75
  go_wp2_with (at_make
               refine wpList_make_full _ rfl _ _ 40 rfl w.heap.size 3 i0 (.int .i64 0) 1 Tryz.underlying40 hi hz0 hz1 .i64 .i64 _ _ N rfl rfl (by omega) (by omega) (by rw [hz2]; omega) (by unfold maxLen; omega) (Nat.le_refl _) ?_
               intro w1 hown hgrow
               have hb1 : Below w.heap.size w w1 := (Below.refl _ w).grown hgrow (Nat.le_refl _) (fun k e => by cases e)
               rw [made_ints] at hown
               have HO := Lib.hid hown
               have HB := Lib.hid hb1
               clear hown hgrow hb1)
  clear hN
  go_loopw [6] (fun iv wr => ∃ i : Nat, i ≤ L1 ∧ iv = .int .i64 i ∧ TimO w a b i N wr) (fun iv _ => L1 - (intOf iv).toNat)
  case atStart => exact ⟨0, Nat.zero_le _, rfl, _, HR0.out, HO.out, HB.out⟩
  case round =>
    obtain ⟨i, hi1, rfl, zs, hR, hrow, hB⟩ := hrel
    have HR := Lib.hid hR; have HBi := Lib.hid hB; have HRow := Lib.hid hrow
    clear hR hB hrow
    by_cases hlt : i < L1
    · have hdx := HDA.out i
      obtain ⟨b1, o1, rfl, q1⟩ := R1.out w i (Below.refl _ _) hlt
      have hltb := block_lt_of_cell q1
      obtain ⟨x, hx⟩ : ∃ x, a / 10 ^ i % 10 = x := ⟨_, rfl⟩
      have hx9 : x ≤ 9 := by omega
      rw [hdx, hx] at q1
      have HQ1 := Lib.hid q1
      have HX := Lib.hid hx
      clear hdx hx q1
      go_wp2
      go_loopw [7, 8] (fun cv kv wr => ∃ (k : Nat) (c : Int), k ≤ 20000 ∧ kv = .int .i64 k ∧ cv = .int .i64 c ∧ TimD w a b i N k c wr) (fun _ kv _ => 20000 - (intOf kv).toNat)
      case atStart => exact ⟨0, 0, by omega, rfl, rfl, zs, HST.out i zs HR.out, HRow.out, HBi.out⟩
      case round =>
        obtain ⟨k, c, hk2, rfl, rfl, zs2, hT, hrow2, hB2⟩ := hrel
        have hc01 := timesN_c hT
        have HT := Lib.hid hT; have HB2 := Lib.hid hB2; have HRow2 := Lib.hid hrow2
        have hzl : zs2.length = N := by rw [hT.2.1, HL1.out, HL2.out, HNN.out]
        have HZL := Lib.hid hzl
        have hzd := getD_mem (p := fun d => 0 ≤ d ∧ d < 10) zs2 (by decide) hT.1 (i + k)
        have hbd := HBD.out i k c zs2 hT (by rw [HL1.out]; exact hlt)
        have hSt := Lib.hid (fun n => timD_step (n := n) hT hrow2 hB2)
        have d2 := D2.out k
        rw [HX.out] at hSt
        obtain ⟨z, hz⟩ : ∃ z, zs2[i + k]?.getD 0 = z := ⟨_, rfl⟩
        have HZ := Lib.hid hz
        rw [hz] at hzd hSt
        rw [HL1.out, HL2.out, HNN.out] at hbd
        have hq1 := (HB2.out.cell (p := ⟨b1, o1 + i, none⟩) hltb).trans HQ1.out
        clear hT hB2 hrow2 hzl hz
        by_cases hkL : k < L2
        · have hik := hbd (.inl hkL)
          have hcz : wr.cell? ⟨w.heap.size, i + k, none⟩ = some (.int .i64 z) := by
            rw [HRow2.out.cellAt (i + k) (by omega), List.getElem?_map]
            have := HZ.out
            rw [List.getElem?_eq_getElem (by rw [HZL.out]; exact hik)] at this ⊢
            simpa using this
          obtain ⟨b2, o2, rfl, q2⟩ := R2.out wr k HB2.out hkL
          obtain ⟨y, hy⟩ : ∃ y, (dz 10 b)[k]?.getD 0 = y := ⟨_, rfl⟩
          rw [hy] at d2 q2 hSt
          have hp0 := Int.mul_nonneg (show (0 : Int) ≤ (x : Int) by omega) d2.1
          have hp1 : (x : Int) * y ≤ 9 * 9 := Int.mul_le_mul (by omega) (by omega) d2.1 (by decide)
          obtain ⟨p, hp⟩ : ∃ p, (x : Int) * y = p := ⟨_, rfl⟩
          rw [hp] at hp0 hp1 hSt
          obtain ⟨u, hu⟩ : ∃ u, z + c = u := ⟨_, rfl⟩
          obtain ⟨n, hn⟩ : ∃ n, u + p = n := ⟨_, rfl⟩
          have hS := Lib.hid (hSt.out n (by rw [HZL.out]; exact hik) (by omega))
          have hf := HRow2.out.frozenAt (i + k)
          have hub : 0 ≤ u ∧ u ≤ 18 := by omega
          have hnb : 0 ≤ n ∧ n ≤ 99 := by omega
          have hwp := wrap_in p ⟨by omega, by omega⟩
          have hwn := wrap_in n ⟨by omega, by omega⟩
          have hikI : (i : Int) + (k : Int) < (N : Int) := by omega
          have hk20 : k < 20000 := by omega
          clear hSt hy
          go_wp2_with fail
          go_region
          go_wp2
          go_roundw
          case rel => exact ⟨k + 1, n / 10, by omega, by go_num, rfl, TimD.drew hS.out⟩
          case measure => simp [intOf]; omega
        · by_cases hc : 0 < c
          · have hik := hbd (.inr hc)
            have hcz : wr.cell? ⟨w.heap.size, i + k, none⟩ = some (.int .i64 z) := by
              rw [HRow2.out.cellAt (i + k) (by omega), List.getElem?_map]
              have := HZ.out
              rw [List.getElem?_eq_getElem (by rw [HZL.out]; exact hik)] at this ⊢
              simpa using this
            have hy0 : (dz 10 b)[k]?.getD 0 = 0 := by rw [List.getElem?_eq_none (by rw [HL2.out]; omega)]; rfl
            obtain ⟨n, hn⟩ : ∃ n, z + c = n := ⟨_, rfl⟩
            rw [hy0] at hSt
            have hS := Lib.hid (hSt.out n (by rw [HZL.out]; exact hik) (by rw [Int.mul_zero]; omega))
            have hf := HRow2.out.frozenAt (i + k)
            have hnb : 0 ≤ n ∧ n ≤ 18 := by omega
            have hikI : (i : Int) + (k : Int) < (N : Int) := by omega
            have hk20 : k < 20000 := by omega
            clear hSt hy0
            go_wp2
            go_roundw
            case rel => exact ⟨k + 1, n / 10, by omega, by go_num, rfl, hS.out⟩
            case measure => simp [intOf]; omega
          · have hEnd := Lib.hid (HEN.out i k c zs2 HT.out (by rw [HL2.out]; omega) (by omega))
            go_wp2
            go_roundw
            case rel => exact ⟨i + 1, by omega, by go_num, zs2, hEnd.out, HRow2.out, HB2.out⟩
            case measure => simp [intOf]; omega
    · have hls := Lib.hid (Ls.own HRow.out zs rfl)
      have hv : Hid ((vz 10 zs).toNat = a * b) := by
        show (vz 10 zs).toNat = a * b
        rw [HR.out.2.2, Int.toNat_natCast]
        have h1 : L1 ≤ i := by omega
        have h2 := HAL.out
        rw [HL1.out] at h2
        have h3 : 10 ^ L1 ≤ 10 ^ i := Nat.pow_le_pow_right (by decide) h1
        rw [Nat.mod_eq_of_lt (by omega)]
      have CT := Lib.hid (rtrim_dt wr _ zs hls.out (by rw [HR.out.2.1, HL1.out, HL2.out]; omega) HR.out.1)
      rw [hv.out] at CT

      go_wp2_with (go_at_call 103; (with_reducible refine CT.out.mono ?_); rintro e w3 ⟨v3, rfl, hv3, rfl⟩; have HV3 := Lib.hid hv3; clear hv3)
      go_ret
      exact ⟨_, rfl, HV3.out, HBi.out⟩
end Go.Proofs.YtcjcafekacceiaaGreatDoor

/-! The reference's divided, walked. -/
namespace Go.Proofs.YtcjcafekacceiaaGreatDoor
open Go.RowKit

/-- Between two places of the quotient: the row, and the remainder so far. -/
def DivO (w : World) (n d i N : Nat) (v : Value) (wr : World) : Prop :=
  ∃ qs, QuoN n d i qs ∧ wr.ownsRow w.heap.size 3 1 (.slice (some ⟨w.heap.size, 0, none⟩) N N) N (qs.map (Value.int .i64)) ∧ Dt wr v (n / 10 ^ i % d) ∧ AtLeast (w.heap.size + 1) v ∧ Below w.heap.size w wr
/-- While a place is counted. -/
def DivC (w : World) (n d i N r : Nat) (v : Value) (wr : World) : Prop :=
  ∃ q qs, CntN n d i r q qs ∧ wr.ownsRow w.heap.size 3 1 (.slice (some ⟨w.heap.size, 0, none⟩) N N) N (qs.map (Value.int .i64)) ∧ Dt wr v r ∧ AtLeast (w.heap.size + 1) v ∧ Below w.heap.size w wr
def DivOut10 (w : World) (n d : Nat) (e : Ending) (w' : World) : Prop := ∃ v1 v2, e = .returned (.tuple #[v1, v2]) ∧ Dt w' v1 (n / d) ∧ Dt w' v2 (n % d) ∧ Below w.heap.size w w'
theorem cons10 (g r : Nat) : vz 10 (((g : Nat) : Int) :: dz 10 r) = ((10 * r + g : Nat) : Int) := by rw [vz, vz10]; omega
theorem lit_row (w : World) (z : Int) : (w.alloc (.cells #[.int .i64 z] 3)).ownsRow w.heap.size 3 1 (.slice (some ⟨w.heap.size, 0, none⟩) 1 1) 1 [.int .i64 z] :=
  ⟨rfl, .inr ⟨w.heap.size, 1, #[.int .i64 z], rfl, Nat.le_refl _, heap_new' _ _ _ rfl, Nat.le_refl _, by unfold maxLen; omega, rfl, rfl⟩⟩
theorem dt_setFar {W : World} {v : Value} {n : Nat} {B : Nat} (h : Dt W v n) (ha : AtLeast (B + 1) v) (o : Nat) (u : Value) : Dt (W.setCell ⟨B, o, none⟩ u) v n := ls_setFar h ha o u
theorem row_below {w W W' : World} {B N : Nat} {xs : List Value} (h : W.ownsRow B 3 1 (.slice (some ⟨w.heap.size, 0, none⟩) N N) N xs) (hlt : w.heap.size < W.heap.size) (hb : Below W.heap.size W W') : W'.ownsRow B 3 1 (.slice (some ⟨w.heap.size, 0, none⟩) N N) N xs := by
  refine ⟨h.1, ?_⟩
  rcases h.2 with ⟨h', _⟩ | ⟨g', cap', cur, h', hB, hg, h3⟩
  · simp at h'
  · have e : w.heap.size = g' := by simp at h'; exact h'.1
    refine .inr ⟨g', cap', cur, h', hB, ?_, h3⟩
    rw [← e] at hg ⊢
    exact (hb.block _ hlt).trans hg
theorem atLeast_mono {B C : Nat} {v : Value} (h : AtLeast C v) (hBC : B ≤ C) : AtLeast B v := by
  unfold AtLeast at *
  split <;> simp_all
  omega

set_option maxRecDepth 100000 in
set_option maxHeartbeats 4000000 in
theorem rdivided_dt (w : World) (v1 v2 : Value) (n d : Nat) (h1 : Dt w v1 n) (h2 : Dt w v2 d) (hd : 0 < d) (hn : (dz 10 n).length ≤ 5000) (hdl : (dz 10 d).length ≤ 5000) :
    Calls Tryz.prog 83 #[v1, v2] w (DivOut10 w n d) := by
  obtain ⟨i0, hi, hz0, hz1, hz2⟩ := info_parts infoInt
  obtain ⟨al1, c1, rfl, R1⟩ := Ls.reader h1
  obtain ⟨al2, c2, hv2⟩ := h2.shape
  subst hv2
  have H2 := Lib.hid h2
  clear h1 h2
  have HDN := Lib.hid (dz_getD10 n)
  have HQ0 := Lib.hid (quoN_start n d)
  have HQE := Lib.hid (quoN_end n d)
  have HCS := Lib.hid (cntN_start n d)
  have HCT := Lib.hid (cntN_step n d)
  have HCE := Lib.hid (fun i r q qs => cntN_end n d i r q qs hd)
  have HCG := Lib.hid (cntN_get n d)
  have HR0 := Lib.hid (rem_start n)
  have hrl : ∀ r, r < 10 * d → (dz 10 r).length ≤ 5001 := fun r hr => by
    have h1 := dz_lt 10 (by decide) d
    have h2 := (len10 r ((dz 10 d).length + 1)).2 (by rw [Nat.pow_succ]; omega)
    omega
  have HRL := Lib.hid hrl
  have HCL := Lib.hid (fun i => cnt_lt n d i hd)
  clear hrl
  obtain ⟨N, hN⟩ : ∃ N, (dz 10 n).length = N := ⟨_, rfl⟩
  have HN := Lib.hid hN
  rw [hN] at R1 hn HQ0 HR0 ⊢
  obtain ⟨M, hM⟩ : ∃ M, (dz 10 d).length = M := ⟨_, rfl⟩
  rw [hM] at H2 hdl ⊢
  have HM := Lib.hid hM
  have HD := Lib.hid hd
  clear hN hM hd
  go_enter Tryz.func83, Tryz.ntmps83
  go_wp2_with (at_make
               refine wpList_make_full _ rfl _ _ 40 rfl w.heap.size 3 i0 (.int .i64 0) 1 Tryz.underlying40 hi hz0 hz1 .i64 .i64 _ _ N rfl rfl (by omega) (by omega) (by rw [hz2]; omega) (by unfold maxLen; omega) (Nat.le_refl _) ?_
               intro w1 hown hgrow
               have hb1 : Below w.heap.size w w1 := (Below.refl _ w).grown hgrow (Nat.le_refl _) (fun k e => by cases e)
               rw [made_ints] at hown
               have HO := Lib.hid hown
               have HB := Lib.hid hb1
               clear hown hgrow hb1)
  go_loopw [7, 8] (fun v iv wr => ∃ k : Nat, k ≤ N ∧ iv = .int .i64 ((k : Int) - 1) ∧ DivO w n d k N v wr) (fun _ iv _ => (intOf iv + 1).toNat)
  case atStart => exact ⟨N, Nat.le_refl _, rfl, _, HQ0.out, HO.out, by rw [HR0.out, Nat.zero_mod]; exact Dt.zero _, trivial, HB.out⟩
  case round =>
    obtain ⟨k, hk, rfl, qs, hQ, hrow, hr, hat, hB⟩ := hrel
    obtain ⟨alr, cr, rfl⟩ := hr.shape
    have HQ := Lib.hid hQ; have HRow := Lib.hid hrow; have HRm := Lib.hid hr; have HAt := Lib.hid hat; have HBk := Lib.hid hB
    have hBs := hB.size
    have hgl : w.heap.size < wr.heap.size := by
      rcases hrow.2 with ⟨h', _⟩ | ⟨g', cap', cur, h', _, hg, _⟩
      · simp at h'
      · have e : w.heap.size = g' := by simp at h'; exact h'.1
        rw [e]; exact (Array.getElem?_eq_some_iff.1 hg).1
    obtain ⟨LR, hLR⟩ : ∃ LR, (dz 10 (n / 10 ^ k % d)).length = LR := ⟨_, rfl⟩
    rw [hLR] at HRm HAt ⊢
    have HLR := Lib.hid hLR
    clear hQ hrow hr hat hB hLR
    by_cases hk0 : k = 0
    · subst hk0
      obtain ⟨hq1, hq2⟩ := HQE.out qs HQ.out
      have hls := Lib.hid (Ls.own HRow.out qs rfl)
      have hql : qs.length = N := by have := HRow.out.1; simpa using this
      have CT := Lib.hid (rtrim_dt wr _ qs hls.out (by rw [hql]; omega) hq1)
      rw [hq2, Int.toNat_natCast] at CT
      have HRm0 := Lib.hid (show Dt wr (.slice alr LR cr) (n % d) from by have := HRm.out; rwa [Nat.pow_zero, Nat.div_one] at this)
      clear hq1 hq2 hql hgl
      go_wp2_with (go_at_call 103; (with_reducible refine CT.out.mono ?_); rintro e w3 ⟨v3, rfl, hv3, rfl⟩; have HV3 := Lib.hid hv3; clear hv3)
      go_ret2
      exact ⟨_, _, rfl, HV3.out, HRm0.out, HBk.out⟩
    · obtain ⟨i, rfl⟩ : ∃ i, k = i + 1 := ⟨k - 1, by omega⟩
      obtain ⟨b1, o1, rfl, q1⟩ := R1.out wr i HBk.out (by omega)
      rw [HDN.out] at q1
      have hcs := Lib.hid (HCS.out i qs HQ.out)
      obtain ⟨x, hx⟩ : ∃ x, n / 10 ^ i % 10 = x := ⟨_, rfl⟩
      obtain ⟨m, hm⟩ : ∃ m, n / 10 ^ (i + 1) % d = m := ⟨_, rfl⟩
      have hcl := HCL.out i
      have hx9 : x ≤ 9 := by omega
      rw [hx] at q1 hcl
      rw [hm] at hcl
      have hcs' := hcs.out
      rw [hx, hm] at hcs'
      have HCS2 := Lib.hid hcs'
      have hm2 := HRm.out
      rw [hm] at hm2
      have HRm2 := Lib.hid hm2
      have hlr2 := HLR.out
      rw [hm] at hlr2
      have HLR2 := Lib.hid hlr2
      have HCL2 := Lib.hid hcl
      have hml : LR ≤ 5001 := by rw [← hlr2]; exact HRL.out m (by omega)
      have HLS1 := Lib.hid (hm2.below (Nat.le_refl _) ((Below.refl wr.heap.size wr).alloc (Nat.le_refl _) (.cells #[.int .i64 ((x : Nat) : Int)] 3)))
      clear hcs hx hm hcl hcs' hm2 hlr2 hk0
      go_wp2_with (first
        | (at_builtin; refine wpList_append_ls (w0 := wr) rfl _ _ 40 3 rfl Tryz.underlying40 hi hz0 hz1 hz2 rfl wr.heap.size _ _ _ rfl (lit_row wr ((x : Nat) : Int)) (dz 10 m) HLS1.out (by rw [HLR2.out]; omega) (by decide) (by simp) ((Below.refl _ _).alloc (Nat.le_refl _) _) ?_; intro v3 w3 hown3 hb3; have HO3 := Lib.hid hown3; have HB3 := Lib.hid hb3; clear hown3 hb3)
        | fail)
      have HV3 := Lib.hid (Ls.own HO3.out (((x : Nat) : Int) :: dz 10 m) rfl)
      have hat3 := Lib.hid (atLeast_mono (own_atLeast HO3.out) (show w.heap.size + 1 ≤ wr.heap.size by omega))
      have CT := Lib.hid (rtrim_far w3 v3 _ HV3.out (by rw [List.length_cons, HLR2.out]; omega) (by
        intro z hz
        rcases List.mem_cons.1 hz with rfl | hz
        · omega
        · exact dig10 m z hz))
      rw [cons10, Int.toNat_natCast] at CT
      refine CT.out.mono ?_
      rintro e w4 ⟨v4, rfl, hv4, hf4, rfl⟩
      have HF4 := Lib.hid (hf4 _ hat3.out)
      have HV4 := Lib.hid hv4
      have HR3 := Lib.hid (row_below (w := w) HRow.out hgl HB3.out)
      have HBx := Lib.hid (HBk.out.trans (HB3.out.mono hBs))
      clear hv4 hf4 hgl
      go_wp2_with fail
      go_loopg [7] (10 * m + x) (fun r v wr => r < 10 * d ∧ DivC w n d i N r v wr)
      case atStart => exact ⟨HCL2.out, 0, qs, HCS2.out, HR3.out, HV4.out, HF4.out, HBx.out⟩
      case round =>
        obtain ⟨hr10, q, qs2, hC, hrow2, hrv, hat2, hB2⟩ := hrel
        have hrl2 := HRL.out gk hr10
        have hH2 := H2.out.below (Nat.le_refl _) hB2
        obtain ⟨alk, ck, rfl⟩ := hrv.shape
        have CO := Lib.hid (rorder_any wr _ _ gk d hrv hH2 (by omega) (by rw [HM.out]; omega))
        have HC := Lib.hid hC; have HRow2 := Lib.hid hrow2; have HRv := Lib.hid hrv; have HAt2 := Lib.hid hat2; have HB2 := Lib.hid hB2; have HH2 := Lib.hid hH2
        have hgl2 : w.heap.size < wr.heap.size := by
          rcases hrow2.2 with ⟨h', _⟩ | ⟨g', cap', cur, h', _, hg, _⟩
          · simp at h'
          · have e : w.heap.size = g' := by simp at h'; exact h'.1
            rw [e]; exact (Array.getElem?_eq_some_iff.1 hg).1
        obtain ⟨LK, hLK⟩ : ∃ LK, (dz 10 gk).length = LK := ⟨_, rfl⟩
        have HLK := Lib.hid hLK
        rw [hLK] at CO HRv HAt2 hrl2 ⊢
        clear hC hrow2 hrv hat2 hB2 hH2 hLK
        by_cases hge : d ≤ gk
        · have hc0 := cmpN_ge (show ¬ gk < d by omega)
          have HST2 := Lib.hid (HCT.out i gk q qs2 HC.out hge)
          have hget := HCG.out i gk q qs2 HC.out
          have hqs := cntN_small n d i gk q qs2 HD.out HC.out
          obtain ⟨hg1, hg2⟩ := hget
          have HG1 := Lib.hid hg1; have HG2 := Lib.hid hg2
          have hql : qs2.length = N := by have := HRow2.out.1; simpa using this
          have hiN : i < N := by rw [← hql]; exact hg2
          obtain ⟨cz, hcz⟩ : ∃ cz, cmpN gk d = cz := ⟨_, rfl⟩
          rw [hcz] at CO hc0
          clear hcz hg1 hg2 hql
          go_wp2_with fail
          refine CO.out.mono ?_
          rintro e w5 ⟨rfl, hb5⟩
          have CM := Lib.hid (rminus_far w5 _ _ gk d (HRv.out.below (Nat.le_refl _) hb5) (HH2.out.below (Nat.le_refl _) hb5) (by rw [HLK.out]; omega) hge)
          have HRow5 := Lib.hid (row_below (w := w) HRow2.out hgl2 hb5)
          have HB5 := Lib.hid (HB2.out.trans (hb5.mono HB2.out.size))
          have hgl5 : w.heap.size < w5.heap.size := Nat.lt_of_lt_of_le hgl2 hb5.size
          clear hb5
          go_wp2_with fail
          refine CM.out.mono ?_
          rintro e w6 ⟨v6, rfl, hv6, hat6, hb6⟩
          have HV6 := Lib.hid hv6
          have HA6 := Lib.hid (atLeast_mono hat6 (show w.heap.size + 1 ≤ w5.heap.size by omega))
          have HRow6 := Lib.hid (row_below (w := w) HRow5.out hgl5 hb6)
          have HB6 := Lib.hid (HB5.out.trans (hb6.mono HB5.out.size))
          clear hv6 hat6 hb6
          have hcell : w6.cell? ⟨w.heap.size, i, none⟩ = some (.int .i64 (q : Int)) := by
            rw [HRow6.out.cellAt i (by omega), List.getElem?_map]
            have := HG1.out
            rw [List.getElem?_eq_getElem HG2.out] at this ⊢
            simpa using this
          have hfz := HRow6.out.frozenAt i
          have HS := Lib.hid (HRow6.out.stored i (.int .i64 ((q : Int) + 1))).1
          go_wp2
          go_roundg (gk - d)
          case measure => have := HD.out; omega
          case rel =>
            refine ⟨by omega, q + 1, _, HST2.out, ?_, dt_setFar HV6.out HA6.out _ _, HA6.out, HB6.out.setCell (p := ⟨w.heap.size, i, none⟩) (Nat.le_refl _) _⟩
            rw [← map_set]; exact HS.out
        · have hc := cmpN_lt (show gk < d by omega)
          rw [hc] at CO
          obtain ⟨hE1, hE2⟩ := HCE.out i gk q qs2 HC.out (by omega)
          have HE1 := Lib.hid hE1; have HE2 := Lib.hid hE2
          clear hc hE1 hE2
          go_wp2_with fail
          refine CO.out.mono ?_
          rintro e w5 ⟨rfl, hb5⟩
          have HRow5 := Lib.hid (row_below (w := w) HRow2.out hgl2 hb5)
          have HB5 := Lib.hid (HB2.out.trans (hb5.mono HB2.out.size))
          have HRv5 := Lib.hid (HRv.out.below (Nat.le_refl _) hb5)
          clear hb5
          go_wp2
          go_roundw
          case rel => exact ⟨i, by omega, rfl, qs2, HE1.out, HRow5.out, by rw [← HE2.out]; exact HRv5.out, HAt2.out, HB5.out⟩
          case measure => simp [intOf]
end Go.Proofs.YtcjcafekacceiaaGreatDoor
