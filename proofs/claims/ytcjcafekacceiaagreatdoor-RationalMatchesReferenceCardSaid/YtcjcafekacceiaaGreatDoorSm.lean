/- The reference's Small, walked. -/
import Derived.Test.YtcjcafekacceiaaGreatDoorRf
import Derived.Test.YtcjcafekacceiaaGreatDoorIs
namespace Go.Proofs.YtcjcafekacceiaaGreatDoor
open Go.RowKit
set_option linter.unusedVariables false

/-- A variable that a region laid, wherever its place was taken. -/
def HeldR (V : World) (x y : ByteArray) (n : Int) (sp se : Value) (wx : World) : Prop :=
  ∃ g, sp = .pointer (some ⟨g, 0, none⟩) ∧ se = .int .i64 n ∧ V.heap.size ≤ g ∧ wx.heap[g]? = some (.cells #[.string x, .string y] 23) ∧ Below V.heap.size V wx
/-- What pick makes of a number. -/
def pickZ (c : Int) (n : Nat) : Nat := ((if c < 0 then -(c + 1) else c) % (n : Int)).toNat
theorem pickZ_lt (c : Int) {n : Nat} (hn : 0 < n) : pickZ c n < n := by
  unfold pickZ
  have h1 := Int.emod_nonneg (if c < 0 then -(c + 1) else c) (show (n : Int) ≠ 0 by omega)
  have h2 := Int.emod_lt_of_pos (if c < 0 then -(c + 1) else c) (show (0 : Int) < n by omega)
  omega
def PkOut (w : World) (r : Nat) (e : Ending) (w' : World) : Prop := e = .returned (.int .i64 (r : Int)) ∧ w' = w
theorem rpickz_any (c : Int) (h0 : -9223372036854775808 ≤ c) (h1 : c ≤ 9223372036854775807) (n : Nat) (hn : 0 < n) (hn2 : n ≤ 2000000000) (N : Int) (hN : N = (n : Int)) (w : World) : Calls Tryz.prog 46 #[.int .i64 c, .int .i64 N] w (PkOut w (pickZ c n)) := by
  subst hN
  by_cases hc : c < 0
  · have hp : pickZ c n = (-(c + 1) % (n : Int)).toNat := by unfold pickZ; rw [if_pos hc]
    rw [hp]
    obtain ⟨d, hd⟩ : ∃ d, -(c + 1) = d := ⟨_, rfl⟩
    have hd0 : 0 ≤ d ∧ d ≤ 9223372036854775807 := by omega
    have hm0 := Int.emod_nonneg d (show (n : Int) ≠ 0 by omega)
    have hm1 := Int.emod_lt_of_pos d (show (0 : Int) < n by omega)
    obtain ⟨r, hr⟩ := Int.eq_ofNat_of_zero_le hm0
    have HR := Lib.hid hr
    rw [hr] at hm1
    go_enter Tryz.func46, Tryz.ntmps46
    go_wp2
    go_ret
    refine ⟨?_, rfl⟩
    have h := HR.out
    first
      | (rw [hd, h]; rfl)
      | (rw [h]; rfl)
  · have hp : pickZ c n = (c % (n : Int)).toNat := by unfold pickZ; rw [if_neg hc]
    rw [hp]
    have hm0 := Int.emod_nonneg c (show (n : Int) ≠ 0 by omega)
    have hm1 := Int.emod_lt_of_pos c (show (0 : Int) < n by omega)
    obtain ⟨r, hr⟩ := Int.eq_ofNat_of_zero_le hm0
    have HR := Lib.hid hr
    rw [hr] at hm1
    go_enter Tryz.func46, Tryz.ntmps46
    go_wp2
    go_ret
    refine ⟨?_, rfl⟩
    have h := HR.out
    first
      | rfl
      | (rw [h]; rfl)
/-- A fraction whose integers are below some powers of ten. -/
def FrOut (w : World) (k : Nat) (e : Ending) (w' : World) : Prop := ∃ q : Rat, q.num.natAbs < 10 ^ k ∧ q.den < 10 ^ k ∧ e = .returned (.agg #[.string (str q.num), .string (str (q.den : Int))]) ∧ Below w.heap.size w w'
theorem small_q (n d : Int) (h : 0 < d) (k : Nat) (hn : n.natAbs < 10 ^ k) (hd : d.natAbs < 10 ^ k) (hk : k ≤ 200) : ∃ q : Rat, q.num.natAbs < 10 ^ k ∧ q.den < 10 ^ k ∧ mkS (str n) (str d) = some q := by
  have h200 : 10 ^ k ≤ 10 ^ 200 := Nat.pow_le_pow_right (by decide) hk
  refine ⟨Rat.divInt n d, Nat.lt_of_le_of_lt (num_le (by omega)) hn, Nat.lt_of_le_of_lt (den_le (by omega)) hd, ?_⟩
  rw [mkS_int (Nat.lt_of_lt_of_le hn h200) (Nat.lt_of_lt_of_le hd h200), if_neg (by omega)]

set_option maxRecDepth 100000 in
set_option maxHeartbeats 4000000 in
theorem small_any (c d : Int) (hc0 : -9223372036854775808 ≤ c) (hc1 : c ≤ 9223372036854775807) (hd0 : -9223372036854775808 ≤ d) (hd1 : d ≤ 9223372036854775807) (w : World) :
    Calls Tryz.prog 14 #[.agg #[.int .i64 c, .int .i64 d]] w (FrOut w 3) := by
  obtain ⟨p, hp⟩ : ∃ p, pickZ c 1999 = p := ⟨_, rfl⟩
  obtain ⟨r, hr⟩ : ∃ r, pickZ d 60 = r := ⟨_, rfl⟩
  have hp1 : p < 1999 := by rw [← hp]; exact pickZ_lt c (by decide)
  have hr1 : r < 60 := by rw [← hr]; exact pickZ_lt d (by decide)
  obtain ⟨q, hqn, hqd, hq⟩ := small_q ((p : Int) - 999) (1 + (r : Int)) (by omega) 3 (by omega) (by omega) (by decide)
  have C1 := Lib.hid (fun W => rpickz_any c hc0 hc1 1999 (by decide) (by decide) 1999 rfl W)
  have C2 := Lib.hid (fun W => rpickz_any d hd0 hd1 60 (by decide) (by decide) 60 rfl W)
  rw [hp] at C1
  rw [hr] at C2
  have CO := Lib.hid (fun W => rof_any ((p : Int) - 999) (1 + (r : Int)) (by omega) (by omega) (by omega) (by omega) W)
  rw [hq] at CO
  obtain ⟨V, hV⟩ : ∃ V, (w.alloc (.cells #[.int .i64 c, .int .i64 d] 25)).alloc (.cells #[.string ⟨#[]⟩, .string ⟨#[]⟩] 23) = V := ⟨_, rfl⟩
  have hbV : Below w.heap.size w V := by rw [← hV]; exact ((Below.refl w.heap.size w).alloc (Nat.le_refl _) _).alloc (by simp) _
  have h0 : V.heap[w.heap.size]? = some (.cells #[.int .i64 c, .int .i64 d] 25) := by rw [← hV]; exact (Below.heap_alloc _ _ _ (by simp)).trans (heap_new' _ _ _ rfl)
  have h1 : V.heap[w.heap.size + 1]? = some (.cells #[.string ⟨#[]⟩, .string ⟨#[]⟩] 23) := by rw [← hV]; exact heap_new' _ _ _ (by simp)
  have HK := Lib.hid (fun W' (h : Below V.heap.size V W') => bl_up h1 h)
  have HBV := Lib.hid hbV
  obtain ⟨k0, k1, _, _⟩ := box2 h0
  have KBB := Lib.hid (fun W' (h : Below V.heap.size V W') => And.intro ((h.cell (p := ⟨w.heap.size, 0, none⟩) (block_lt_of_cell k0)).trans k0) ((h.cell (p := ⟨w.heap.size, 1, none⟩) (block_lt_of_cell k1)).trans k1))
  have hw1 : IntKind.i64.wrap ((p : Int) - 999) = (p : Int) - 999 := wrap_in _ ⟨by omega, by omega⟩
  have hw2 : IntKind.i64.wrap (1 + (r : Int)) = 1 + (r : Int) := wrap_in _ ⟨by omega, by omega⟩
  have HQ := Lib.hid (And.intro hqn hqd)
  have hB : Below V.heap.size V V.drew := (Below.refl _ _).drew
  have hsi := hB.size
  obtain ⟨u, hu⟩ : ∃ u, str q.num = u := ⟨_, rfl⟩
  obtain ⟨v, hv⟩ : ∃ v, str (q.den : Int) = v := ⟨_, rfl⟩
  have CO' := Lib.hid (fun W => (CO.out W).mono (fun e W' h => show QRes W u v 0 e W' from h.at ⟨hu, hv, rfl⟩))
  have HU := Lib.hid (And.intro hu hv)
  clear CO hp hr hq hqn hqd h0 h1 hbV hu hv k0 k1 hc0 hc1 hd0 hd1
  go_enter Tryz.func14, Tryz.ntmps14
  go_upto_region 1 with fail
  go_cut [3, 4] (fun sp se wx => HeldR V u v 0 sp se wx)
  case first =>
    go_region_held3 (fun w' => w'.cell? ⟨w.heap.size, 0, none⟩ = some (.int .i64 c) ∧ w'.cell? ⟨w.heap.size, 1, none⟩ = some (.int .i64 d))
      (first
        | exact KBB.out _ hB
        | exact KBB.out _ (hB.alloc hB.size _)
        | exact KBB.out _ ((hB.setCell (p := ⟨_, 0, none⟩) (by first | exact Nat.le_refl _ | exact hsi) _).setCell (p := ⟨_, 1, none⟩) (by first | exact Nat.le_refl _ | exact hsi) _)
        | go_keep)
      (first
        | (go_at_call 46; (with_reducible refine (C1.out _).mono ?_); rintro e wp ⟨rfl, rfl⟩)
        | (go_at_call 46; (with_reducible refine (C2.out _).mono ?_); rintro e wp ⟨rfl, rfl⟩)
        | (go_at_call 32; (with_reducible refine (CO'.out _).mono ?_); rintro e wd ⟨rfl, hb⟩; (try have az := bl_up (heap_new' V.drew (.cells #[.string ⟨#[]⟩, .string ⟨#[]⟩] 23) V.heap.size rfl) hb); (try (have hz := box2 az; obtain ⟨az1, az2, az3, az4⟩ := hz)); replace hB := (by first | exact hB.trans (hb.mono hB.size) | exact (hB.alloc hB.size _).trans (hb.mono (hB.alloc hB.size _).size))))
    all_goals
      go_wp2_with fail
      go_meet
      exact ⟨_, rfl, rfl, (by first | exact hB.size | exact hsi | exact Nat.le_refl _), (by first | exact heap_new' _ _ _ rfl | exact put2_heap az _ _), (by first | exact hB.alloc hB.size _ | exact (hB.setCell (p := ⟨_, 0, none⟩) (by first | exact Nat.le_refl _ | exact hsi) _).setCell (p := ⟨_, 1, none⟩) (by first | exact Nat.le_refl _ | exact hsi) _)⟩
  case rest =>
    obtain ⟨g, rfl, rfl, hge, hgc, hb⟩ := hcut
    have HF := HK.out _ hb
    obtain ⟨m1, m2, _, _⟩ := box2 hgc
    obtain ⟨r1, r2, r3, r4⟩ := box2 HF
    obtain ⟨s1, s2, _, _⟩ := box2 (put2_heap HF (.string u) (.string v))
    have HP := Lib.hid (show FrOut w 3 (.returned (.agg #[.string u, .string v])) (put2 wc (w.heap.size + 1) (.string u) (.string v)) from ⟨q, HQ.out.1, HQ.out.2, by rw [HU.out.1, HU.out.2], put2_below (below1 HBV.out hb) (by omega) _ _⟩)
    clear HF hgc hb hB hge KBB
    go_wp2
    refine bodyPost_ret (v := .agg #[.string u, .string v]) (by simp [results, Tryz.results14, go_sem, s1, s2]) rfl ?_
    exact HP.out
end Go.Proofs.YtcjcafekacceiaaGreatDoor
