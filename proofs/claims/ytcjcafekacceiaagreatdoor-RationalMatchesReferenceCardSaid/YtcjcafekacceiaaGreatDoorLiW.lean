/- The walk of RationalLimits. -/
import Derived.Test.YtcjcafekacceiaaGreatDoorSa
import Derived.Test.YtcjcafekacceiaaGreatDoorSm
namespace Go.Proofs.YtcjcafekacceiaaGreatDoor
open Go.RowKit

theorem pw_next (k : Nat) : pwS k ++ (⟨#[48]⟩ : ByteArray) = pwS (k + 1) := by
  apply ba_ext
  rw [ByteArray.data_append, Array.toList_append]
  unfold pwS
  rw [str_data, str_data]
  unfold shw
  rw [if_neg (Int.not_lt.2 (Int.natCast_nonneg _)), if_neg (Int.not_lt.2 (Int.natCast_nonneg _)), Int.natAbs_natCast, Int.natAbs_natCast, txt_pow, txt_pow, List.replicate_succ']
  rfl
theorem pwS_small {k : Nat} (h : k ≤ 200) : (pwS k).size ≤ 300 := by
  have h2 : (pwS k).size = (shw (tenZ k)).length := by show (str (tenZ k)).size = _; rw [← str_data]; rfl
  rw [h2]
  unfold shw tenZ
  rw [if_neg (Int.not_lt.2 (Int.natCast_nonneg _)), Int.natAbs_natCast, txt_pow]
  simp; omega
/-- A power of ten, and one over it, as fractions. -/
def tq (n : Nat) : Rat := Rat.divInt (tenZ n) 1
def uq (n : Nat) : Rat := Rat.divInt 1 (tenZ n)
theorem tq_num (n : Nat) : (tq n).num = tenZ n ∧ ((tq n).den : Int) = 1 := by
  obtain ⟨h1, h2⟩ := q_int (tenZ n)
  exact ⟨h1, by unfold tq; rw [h2]; rfl⟩
theorem uq_num (n : Nat) : (uq n).num = 1 ∧ ((uq n).den : Int) = tenZ n := t_inv (tenZ_pos n)
theorem tq_bq {n : Nat} (h : n < 200) : BQ (tq n) := by
  unfold BQ; rw [(tq_num n).1, (tq_num n).2]; exact ⟨big_ten h, big1⟩
theorem uq_bq {n : Nat} (h : n < 200) : BQ (uq n) := by
  unfold BQ; rw [(uq_num n).1, (uq_num n).2]; exact ⟨big1, big_ten h⟩
theorem qp_tq (n : Nat) : qp (tq n) = (pwS n, ⟨#[49]⟩) := by
  unfold qp; rw [(tq_num n).1, (tq_num n).2, ← str1]; rfl
theorem qp_uq (n : Nat) : qp (uq n) = (⟨#[49]⟩, pwS n) := by
  unfold qp; rw [(uq_num n).1, (uq_num n).2, ← str1]; rfl
theorem ten_mul (n m : Nat) : tenZ n * tenZ m = tenZ (n + m) := by
  unfold tenZ; rw [Nat.pow_add, Int.natCast_mul]
theorem bigB_ten (k : Nat) : bigB (tenZ k) = decide (k < 200) := by
  unfold bigB tenZ
  rw [Int.natAbs_natCast, decide_eq_decide]
  exact Nat.pow_lt_pow_iff_right (by decide)
theorem bigB_ten1 (k : Nat) : bigB (tenZ k + 1) = decide (k < 200) := by
  unfold bigB tenZ
  rw [decide_eq_decide]
  have h1 : ((10 ^ k : Nat) : Int) + 1 = ((10 ^ k + 1 : Nat) : Int) := by omega
  rw [h1, Int.natAbs_natCast]
  constructor
  · intro h
    exact (Nat.pow_lt_pow_iff_right (by decide)).1 (Nat.lt_of_le_of_lt (Nat.le_succ _) h)
  · intro h
    have h2 : 10 ^ (k + 1) ≤ 10 ^ 200 := Nat.pow_le_pow_right (by decide) h
    have h3 := Nat.pow_pos (n := k) (show 0 < 10 by decide)
    rw [Nat.pow_succ] at h2
    omega
theorem lim_mul (n m : Nat) : mul2 (tq n) (tq m) = if n + m < 200 then some (tq n * tq m) else none := by
  unfold mul2
  rw [(tq_num n).1, (tq_num m).1, (tq_num n).2, (tq_num m).2, ten_mul, bigB_ten, show bigB (1 * 1) = true from by decide +kernel, Bool.and_true]
  by_cases h : n + m < 200 <;> simp [h]
theorem one_num : (tq 0).num = 1 := by rw [(tq_num 0).1]; rfl
theorem lim_div {m : Nat} (hm : m < 200) : div2 (tq 0) (tq m) = some (uq m) := by
  unfold div2
  rw [(tq_num 0).1, (tq_num 0).2, (tq_num m).1, (tq_num m).2, show tenZ 0 * 1 = 1 from rfl, Int.one_mul, bigB_ten, decide_eq_true hm, decide_eq_true (Int.ne_of_gt (tenZ_pos m)), show bigB 1 = true from by decide +kernel]
  show some (tq 0 / tq m) = _
  unfold tq uq
  rw [cross_quo, show tenZ 0 * 1 = 1 from rfl, Int.one_mul]
theorem lim_add {n m : Nat} (hm : m < 200) : add2 (tq n) (uq m) = if n + m < 200 then some (tq n + uq m) else none := by
  unfold add2
  rw [(tq_num n).1, (tq_num n).2, (uq_num m).1, (uq_num m).2, ten_mul, Int.one_mul, Int.one_mul, bigB_ten, show bigB 1 = true from by decide +kernel, bigB_ten1, bigB_ten m, decide_eq_true hm]
  by_cases h : n + m < 200 <;> simp [h]
theorem ten_lt {n m : Nat} : tenZ n < tenZ m ↔ n < m := by
  unfold tenZ
  rw [Int.ofNat_lt]
  exact Nat.pow_lt_pow_iff_right (by decide)
theorem lim_cmp (n m : Nat) : cmpQ (tq n) (tq m) = if n < m then -1 else if m < n then 1 else 0 := by
  rw [cmpQ_cross, (tq_num n).1, (tq_num n).2, (tq_num m).1, (tq_num m).2, Int.mul_one, Int.mul_one]
  unfold cmpZ
  simp only [ten_lt]
theorem lim_cmp2 (n m : Nat) : cmpQ (tq n) (uq m) = if n = 0 ∧ m = 0 then 0 else 1 := by
  rw [cmpQ_cross, (tq_num n).1, (tq_num n).2, (uq_num m).1, (uq_num m).2, ten_mul, Int.one_mul]
  unfold cmpZ
  rw [show (1 : Int) = tenZ 0 from rfl]
  simp only [ten_lt]
  by_cases h : n = 0 ∧ m = 0
  · rw [if_pos h, if_neg (by omega), if_neg (by omega)]
  · rw [if_neg h, if_neg (by omega), if_pos (by omega)]

set_option maxRecDepth 100000 in
set_option maxHeartbeats 8000000 in
theorem limits_walk (c d : Int) (hc0 : -9223372036854775808 ≤ c) (hc1 : c ≤ 9223372036854775807) (hd0 : -9223372036854775808 ≤ d) (hd1 : d ≤ 9223372036854775807) (w : World) (ht : Tb w) :
    Calls Tryz.prog 10 #[.int .i64 c, .int .i64 d] w (BOut w true) := by
  have HT := Lib.hid (fun W (hW : Below w.heap.size w W) => ht.below hW)
  have CSN := Lib.hid (sane_any w ht)
  clear ht
  have B0 := Lib.hid (Below.refl w.heap.size w)
  go_enter Tryz.func10, Tryz.ntmps10
  go_wp2_with fail
  (with_reducible refine (CSN.out).mono ?_)
  rintro e w1 ⟨rfl, hb⟩
  replace B0 := Lib.hid (below1 B0.out hb)
  clear hb
  go_wp2_with fail
  (with_reducible refine (lpick_any c hc0 hc1 200 (by decide) (by decide) 200 rfl _).mono ?_)
  rintro e w2 ⟨n, hn, rfl, rfl⟩
  go_wp2_with fail
  (with_reducible refine (lpick_any d hd0 hd1 200 (by decide) (by decide) 200 rfl _).mono ?_)
  rintro e w3 ⟨m, hm, rfl, rfl⟩
  clear hc0 hc1 hd0 hd1
  have hnI : (n : Int) < 200 := by omega
  have hmI : (m : Int) < 200 := by omega
  go_wp2
  go_loop [6, 7] (fun s iv => ∃ k : Nat, k ≤ n ∧ iv = .int .i64 k ∧ s = .string (pwS k)) (fun _ iv => n - (intOf iv).toNat)
  case atStart => exact ⟨0, Nat.zero_le _, rfl, by rw [show pwS 0 = ⟨#[49]⟩ from by decide +kernel]⟩
  case round =>
    obtain ⟨k, hk, rfl, rfl⟩ := hrel
    have hap := pw_next k
    have hsz := pwS_small (show k ≤ 200 by omega)
    by_cases hkn : k < n
    · obtain ⟨s1, hs1⟩ : ∃ s1, pwS k = s1 := ⟨_, rfl⟩
      rw [hs1] at hap hsz ⊢
      have H2 := Lib.hid hap
      clear hs1
      go_wp2
      go_round
      case rel => exact ⟨k + 1, by omega, by go_num, rfl⟩
      case measure => simp [intOf]; omega
    · obtain rfl : k = n := by omega
      clear hap hkn hk
      have HSA := Lib.hid hsz
      obtain ⟨a, ha⟩ : ∃ a, pwS k = a := ⟨_, rfl⟩
      rw [ha] at HSA ⊢
      have HA := Lib.hid ha
      clear ha hsz
      go_wp2
      go_loop [8, 9] (fun s iv => ∃ j : Nat, j ≤ m ∧ iv = .int .i64 j ∧ s = .string (pwS j)) (fun _ iv => m - (intOf iv).toNat)
      case atStart => exact ⟨0, Nat.zero_le _, rfl, by rw [show pwS 0 = ⟨#[49]⟩ from by decide +kernel]⟩
      case round =>
        obtain ⟨j, hj, rfl, rfl⟩ := hrel
        have hap := pw_next j
        have hsz := pwS_small (show j ≤ 200 by omega)
        by_cases hjm : j < m
        · obtain ⟨s1, hs1⟩ : ∃ s1, pwS j = s1 := ⟨_, rfl⟩
          rw [hs1] at hap hsz ⊢
          have H2 := Lib.hid hap
          clear hs1
          go_wp2
          go_round
          case rel => exact ⟨j + 1, by omega, by go_num, rfl⟩
          case measure => simp [intOf]; omega
        · obtain rfl : j = m := by omega
          clear hap hjm hj
          have HSB := Lib.hid hsz
          obtain ⟨b, hb⟩ : ∃ b, pwS j = b := ⟨_, rfl⟩
          rw [hb] at HSB ⊢
          have HB := Lib.hid hb
          clear hb hsz
          have bk := tq_bq hn
          have bj := tq_bq hm
          have uj := uq_bq hm
          have ek := qp_tq k
          have ej := qp_tq j
          have eu := qp_uq j
          rw [HA.out] at ek
          rw [HB.out] at ej eu
          have e0 : qp (tq 0) = (⟨#[49]⟩, ⟨#[49]⟩) := by rw [qp_tq]; rfl
          have b0 := tq_bq (n := 0) (by decide)
          have SA : a.size ≤ 9223372036854775807 ∧ (⟨#[49]⟩ : ByteArray).size ≤ 9223372036854775807 := ⟨by have := HSA.out; omega, by decide⟩
          have SB : b.size ≤ 9223372036854775807 ∧ (⟨#[49]⟩ : ByteArray).size ≤ 9223372036854775807 := ⟨by have := HSB.out; omega, by decide⟩
          have C1 := Lib.hid (fun W (hW : Below w.heap.size w W) => qmul_any (a, ⟨#[49]⟩) (b, ⟨#[49]⟩) W SA SB (HT.out W hW))
          rw [show prodO (a, ⟨#[49]⟩) (b, ⟨#[49]⟩) (b, (⟨#[49]⟩ : ByteArray)).1 (b, (⟨#[49]⟩ : ByteArray)).2 = mul2 (tq k) (tq j) from by
            rw [← mul_q bk bj, ek, ej, show str (tq j).num = b from congrArg Prod.fst ej, show str ((tq j).den : Int) = ⟨#[49]⟩ from congrArg Prod.snd ej], lim_mul] at C1
          have C2 := Lib.hid (fun W (hW : Below w.heap.size w W) => qdiv_any (⟨#[49]⟩, ⟨#[49]⟩) (b, ⟨#[49]⟩) W ⟨by decide, by decide⟩ SB (HT.out W hW))
          rw [show prodO (⟨#[49]⟩, ⟨#[49]⟩) (b, ⟨#[49]⟩) (b, (⟨#[49]⟩ : ByteArray)).2 (b, (⟨#[49]⟩ : ByteArray)).1 = some (uq j) from by
            rw [← lim_div hm, ← div_q b0 bj, e0, ej, show str (tq j).num = b from congrArg Prod.fst ej, show str ((tq j).den : Int) = ⟨#[49]⟩ from congrArg Prod.snd ej]] at C2
          have C2' := Lib.hid (fun W (hW : Below w.heap.size w W) => (C2.out W hW).mono (fun e W' h => show QRes W ⟨#[49]⟩ b 0 e W' from h.at ⟨by show str (uq j).num = _; exact congrArg Prod.fst eu, by show str ((uq j).den : Int) = _; exact congrArg Prod.snd eu, rfl⟩))
          have C3 := Lib.hid (fun W (hW : Below w.heap.size w W) => qadds_any (a, ⟨#[49]⟩) (⟨#[49]⟩, b) W SA ⟨SB.2, SB.1⟩ (HT.out W hW))
          rw [show sumO (fun x y => x + y) (a, ⟨#[49]⟩) (⟨#[49]⟩, b) = add2 (tq k) (uq j) from by rw [← add_q bk uj, ek, eu], lim_add hm] at C3
          have C4 := Lib.hid (fun W (hW : Below w.heap.size w W) => qcmp_pr (a, ⟨#[49]⟩) (b, ⟨#[49]⟩) W SA SB (HT.out W hW))
          rw [show cmpO (a, ⟨#[49]⟩) (b, ⟨#[49]⟩) = cmpQ (tq k) (tq j) from by rw [← cmpO_q bk bj]; show _ = cmpO (qp (tq k)) (qp (tq j)); rw [ek, ej], lim_cmp] at C4
          have C5 := Lib.hid (fun W (hW : Below w.heap.size w W) => qcmp_pr (a, ⟨#[49]⟩) (⟨#[49]⟩, b) W SA ⟨SB.2, SB.1⟩ (HT.out W hW))
          rw [show cmpO (a, ⟨#[49]⟩) (⟨#[49]⟩, b) = cmpQ (tq k) (uq j) from by rw [← cmpO_q bk uj]; show _ = cmpO (qp (tq k)) (qp (uq j)); rw [ek, eu], lim_cmp2] at C5
          clear C2 bk bj uj ek ej eu e0 b0 SA SB HA HB HSA HSB
          by_cases hfit : k + j < 200
          · rw [if_pos hfit] at C1 C3
            obtain ⟨z1, hz1⟩ : ∃ z, oN (some (tq k * tq j)) = z := ⟨_, rfl⟩
            obtain ⟨z2, hz2⟩ : ∃ z, oD (some (tq k * tq j)) = z := ⟨_, rfl⟩
            obtain ⟨y1, hy1⟩ : ∃ z, oN (some (tq k + uq j)) = z := ⟨_, rfl⟩
            obtain ⟨y2, hy2⟩ : ∃ z, oD (some (tq k + uq j)) = z := ⟨_, rfl⟩
            have M1 := Lib.hid (fun W (hW : Below w.heap.size w W) => (C1.out W hW).mono (fun e W' h => show QRes W z1 z2 0 e W' from h.at ⟨hz1, hz2, rfl⟩))
            have M3 := Lib.hid (fun W (hW : Below w.heap.size w W) => (C3.out W hW).mono (fun e W' h => show QRes W y1 y2 0 e W' from h.at ⟨hy1, hy2, rfl⟩))
            have hf1 : decide ((k : Int) + (j : Int) + 1 ≤ 200) = true := by rw [decide_eq_true_eq]; omega
            have hf2 : decide ((k : Int) + (j : Int) < 200) = true := by rw [decide_eq_true_eq]; omega
            clear hz1 hz2 hy1 hy2 C1 C3
            have HFI := Lib.hid hfit
            clear hfit
            go_wp2_with fail
            (with_reducible refine (is_any _ _ _).mono ?_)
            rintro e w4 ⟨rfl, hb⟩
            replace B0 := Lib.hid (below1 B0.out hb)
            clear hb
            have hA := (Below.refl w4.heap.size w4).alloc (Nat.le_refl _) (.cells #[.string a, .string ⟨#[49]⟩] 23)
            replace B0 := Lib.hid (below1 B0.out hA)
            have Kx := Lib.hid (heap_new' w4 (.cells #[.string a, .string ⟨#[49]⟩] 23) w4.heap.size rfl)
            clear hA
            obtain ⟨gx, hg⟩ : ∃ g, w4.heap.size = g := ⟨_, rfl⟩
            rw [hg] at Kx
            have GGx := Lib.hid hg
            clear hg
            go_wp2_with fail
            (with_reducible refine (is_any _ _ _).mono ?_)
            rintro e w5 ⟨rfl, hb⟩
            replace B0 := Lib.hid (below1 B0.out hb)
            replace Kx := Lib.hid (bl_up Kx.out hb)
            clear hb
            have hA := (Below.refl w5.heap.size w5).alloc (Nat.le_refl _) (.cells #[.string b, .string ⟨#[49]⟩] 23)
            replace B0 := Lib.hid (below1 B0.out hA)
            have Ky := Lib.hid (heap_new' w5 (.cells #[.string b, .string ⟨#[49]⟩] 23) w5.heap.size rfl)
            replace Kx := Lib.hid (bl_up Kx.out hA)
            clear hA
            obtain ⟨gy, hg⟩ : ∃ g, w5.heap.size = g := ⟨_, rfl⟩
            rw [hg] at Ky
            have GGy := Lib.hid hg
            clear hg
            obtain ⟨x_1, x_2, _, _⟩ := box2 Kx.out
            rw [← GGx.out] at x_1 x_2
            go_wp2_with fail
            (with_reducible refine (M1.out _ B0.out).mono ?_)
            rintro e w6 ⟨rfl, hb⟩
            replace B0 := Lib.hid (below1 B0.out hb)
            replace Kx := Lib.hid (bl_up Kx.out hb)
            replace Ky := Lib.hid (bl_up Ky.out hb)
            clear hb
            clear x_1 x_2
            have hA := (Below.refl w6.heap.size w6).alloc (Nat.le_refl _) (.cells #[.string z1, .string z2] 23)
            replace B0 := Lib.hid (below1 B0.out hA)
            have Kz := Lib.hid (heap_new' w6 (.cells #[.string z1, .string z2] 23) w6.heap.size rfl)
            replace Kx := Lib.hid (bl_up Kx.out hA)
            replace Ky := Lib.hid (bl_up Ky.out hA)
            clear hA
            obtain ⟨gz, hg⟩ : ∃ g, w6.heap.size = g := ⟨_, rfl⟩
            rw [hg] at Kz
            have GGz := Lib.hid hg
            clear hg
            go_upto_region 17 with fail
            obtain ⟨V, hV⟩ : ∃ V, w6.alloc (.cells #[.string z1, .string z2] 23) = V := ⟨_, rfl⟩
            rw [hV] at B0 ⊢
            rw [hV] at Kx
            rw [hV] at Ky
            rw [hV] at Kz
            obtain ⟨kb1, kb2, _, _⟩ := box2 Ky.out
            rw [← GGy.out] at kb1 kb2
            clear hV
            have KBB := Lib.hid (fun W' (h : Below V.heap.size V W') => And.intro ((h.cell (p := ⟨w5.heap.size, 0, none⟩) (block_lt_of_cell kb1)).trans kb1) ((h.cell (p := ⟨w5.heap.size, 1, none⟩) (block_lt_of_cell kb2)).trans kb2))
            have hB : Below V.heap.size V V.drew := (Below.refl _ _).drew
            clear kb1 kb2
            go_cut [14, 15] (fun sp se wx => HeldR V ⟨#[49]⟩ b 0 sp se wx)
            case first =>
              go_region_held3 (fun w' => w'.cell? ⟨w5.heap.size, 0, none⟩ = some (.string b) ∧ w'.cell? ⟨w5.heap.size, 1, none⟩ = some (.string ⟨#[49]⟩))
                (first
                  | exact KBB.out _ hB
                  | exact KBB.out _ (hB.alloc hB.size _)
                  | exact KBB.out _ ((hB.setCell (p := ⟨_, 0, none⟩) (by first | exact Nat.le_refl _ | exact hsi) _).setCell (p := ⟨_, 1, none⟩) (by first | exact Nat.le_refl _ | exact hsi) _)
                  | go_keep)
                (first
                  | (go_at_call 41; (with_reducible refine (is_any _ _ _).mono ?_); rintro e wi ⟨rfl, hb⟩; (try have az := bl_up (heap_new' V.drew (.cells #[.string ⟨#[]⟩, .string ⟨#[]⟩] 23) V.heap.size rfl) hb); replace hB := (by first | exact hB.trans (hb.mono hB.size) | exact (hB.alloc hB.size _).trans (hb.mono (hB.alloc hB.size _).size)); have hsi := hB.size)
                  | (go_at_call 45; (with_reducible refine (C2'.out _ (by first | exact below1 B0.out hB | exact below1 B0.out (hB.alloc hB.size _))).mono ?_); rintro e wd ⟨rfl, hb⟩; (try replace az := bl_up az hb); (try have az := bl_up (heap_new' wi (.cells #[.string ⟨#[]⟩, .string ⟨#[]⟩] 23) wi.heap.size rfl) hb); (try (have hz := box2 az; obtain ⟨az1, az2, az3, az4⟩ := hz)); replace hB := (by first | exact hB.trans (hb.mono hB.size) | exact (hB.alloc hB.size _).trans (hb.mono (hB.alloc hB.size _).size))))
              all_goals
                go_wp2_with fail
                go_meet
                exact ⟨_, rfl, rfl, (by first | exact hB.size | exact hsi | exact Nat.le_refl _), (by first | exact heap_new' _ _ _ rfl | exact put2_heap az _ _), (by first | exact hB.alloc hB.size _ | exact (hB.setCell (p := ⟨_, 0, none⟩) (by first | exact Nat.le_refl _ | exact hsi) _).setCell (p := ⟨_, 1, none⟩) (by first | exact Nat.le_refl _ | exact hsi) _)⟩
            case rest =>
              obtain ⟨gu, rfl, rfl, hge, hgc, hb⟩ := hcut
              clear KBB hB hge
              replace B0 := Lib.hid (below1 B0.out hb)
              replace Kx := Lib.hid (bl_up Kx.out hb)
              replace Ky := Lib.hid (bl_up Ky.out hb)
              replace Kz := Lib.hid (bl_up Kz.out hb)
              have Ku := Lib.hid hgc
              clear hb hgc
              obtain ⟨x_1, x_2, _, _⟩ := box2 Kx.out
              rw [← GGx.out] at x_1 x_2
              obtain ⟨u_1, u_2, _, _⟩ := box2 Ku.out
              go_wp2_with fail
              (with_reducible refine (M3.out _ B0.out).mono ?_)
              rintro e w7 ⟨rfl, hb⟩
              replace B0 := Lib.hid (below1 B0.out hb)
              replace Kx := Lib.hid (bl_up Kx.out hb)
              replace Ky := Lib.hid (bl_up Ky.out hb)
              replace Kz := Lib.hid (bl_up Kz.out hb)
              replace Ku := Lib.hid (bl_up Ku.out hb)
              clear hb
              clear x_1 x_2 u_1 u_2
              have hA := (Below.refl w7.heap.size w7).alloc (Nat.le_refl _) (.cells #[.string y1, .string y2] 23)
              replace B0 := Lib.hid (below1 B0.out hA)
              have Kv := Lib.hid (heap_new' w7 (.cells #[.string y1, .string y2] 23) w7.heap.size rfl)
              replace Kx := Lib.hid (bl_up Kx.out hA)
              replace Ky := Lib.hid (bl_up Ky.out hA)
              replace Kz := Lib.hid (bl_up Kz.out hA)
              replace Ku := Lib.hid (bl_up Ku.out hA)
              clear hA
              obtain ⟨gv, hg⟩ : ∃ g, w7.heap.size = g := ⟨_, rfl⟩
              rw [hg] at Kv
              have GGv := Lib.hid hg
              clear hg
              obtain ⟨z_1, z_2, _, _⟩ := box2 Kz.out
              rw [← GGz.out] at z_1 z_2
              have hwk : IntKind.i64.wrap ((k : Int) + (j : Int)) = (k : Int) + (j : Int) := wrap_in _ ⟨by omega, by omega⟩
              have hwk2 : IntKind.i64.wrap ((k : Int) + (j : Int) + 1) = (k : Int) + (j : Int) + 1 := wrap_in _ ⟨by omega, by omega⟩
              have HFIT := HFI.out
              rcases Nat.lt_trichotomy k j with hkj | hkj | hkj
              · have i1 : (k : Int) < (j : Int) := by omega
                rw [if_pos hkj] at C4
                by_cases h0 : k = 0 ∧ j = 0
                · exfalso; omega
                · rw [if_neg h0] at C5
                  have j12 : ((k : Int) == 0) = false ∨ ((k : Int) == 0) = true ∧ ((j : Int) == 0) = false := by
                    rcases Nat.eq_zero_or_pos k with h | h
                    · right; refine ⟨by rw [h]; rfl, ?_⟩; rw [beq_eq_false_iff_ne]; omega
                    · left; rw [beq_eq_false_iff_ne]; omega
                  clear h0 hkj
                  rcases j12 with j1 | ⟨j1, j2⟩
                  all_goals
                    obtain ⟨x_1, x_2, _, _⟩ := box2 Kx.out
                    rw [← GGx.out] at x_1 x_2
                    obtain ⟨y_1, y_2, _, _⟩ := box2 Ky.out
                    rw [← GGy.out] at y_1 y_2
                    go_wp2_with fail
                    (with_reducible refine (C4.out _ B0.out).mono ?_)
                    rintro e w8 ⟨rfl, hb⟩
                    replace B0 := Lib.hid (below1 B0.out hb)
                    replace Kx := Lib.hid (bl_up Kx.out hb)
                    replace Ky := Lib.hid (bl_up Ky.out hb)
                    replace Kz := Lib.hid (bl_up Kz.out hb)
                    replace Ku := Lib.hid (bl_up Ku.out hb)
                    replace Kv := Lib.hid (bl_up Kv.out hb)
                    clear hb
                    clear x_1 x_2 y_1 y_2
                    obtain ⟨x_1, x_2, _, _⟩ := box2 Kx.out
                    rw [← GGx.out] at x_1 x_2
                    obtain ⟨u_1, u_2, _, _⟩ := box2 Ku.out
                    go_wp2_with fail
                    (with_reducible refine (C5.out _ B0.out).mono ?_)
                    rintro e w9 ⟨rfl, hb⟩
                    replace B0 := Lib.hid (below1 B0.out hb)
                    replace Kx := Lib.hid (bl_up Kx.out hb)
                    replace Ky := Lib.hid (bl_up Ky.out hb)
                    replace Kz := Lib.hid (bl_up Kz.out hb)
                    replace Ku := Lib.hid (bl_up Ku.out hb)
                    replace Kv := Lib.hid (bl_up Kv.out hb)
                    clear hb
                    have HF := Lib.hid B0.out
                    go_wp2
                    go_ret
                    exact ⟨rfl, HF.out⟩
              · have i1 : ¬ (k : Int) < (j : Int) := by omega
                have i2 : ¬ (j : Int) < (k : Int) := by omega
                have i3 : ¬ k < j := by omega
                have i4 : ¬ j < k := by omega
                rw [if_neg i3, if_neg i4] at C4
                by_cases h0 : k = 0 ∧ j = 0
                · rw [if_pos h0] at C5
                  obtain ⟨z0, z0'⟩ := h0
                  have j1 : ((k : Int) == 0) = true := by rw [z0]; rfl
                  have j2 : ((j : Int) == 0) = true := by rw [z0']; rfl
                  have HZ0 := Lib.hid z0
                  have HZ1 := Lib.hid z0'
                  clear z0 z0'
                  clear hkj
                  obtain ⟨x_1, x_2, _, _⟩ := box2 Kx.out
                  rw [← GGx.out] at x_1 x_2
                  obtain ⟨y_1, y_2, _, _⟩ := box2 Ky.out
                  rw [← GGy.out] at y_1 y_2
                  go_wp2_with fail
                  (with_reducible refine (C4.out _ B0.out).mono ?_)
                  rintro e w8 ⟨rfl, hb⟩
                  replace B0 := Lib.hid (below1 B0.out hb)
                  replace Kx := Lib.hid (bl_up Kx.out hb)
                  replace Ky := Lib.hid (bl_up Ky.out hb)
                  replace Kz := Lib.hid (bl_up Kz.out hb)
                  replace Ku := Lib.hid (bl_up Ku.out hb)
                  replace Kv := Lib.hid (bl_up Kv.out hb)
                  clear hb
                  clear x_1 x_2 y_1 y_2
                  obtain ⟨x_1, x_2, _, _⟩ := box2 Kx.out
                  rw [← GGx.out] at x_1 x_2
                  obtain ⟨u_1, u_2, _, _⟩ := box2 Ku.out
                  go_wp2_with fail
                  (with_reducible refine (C5.out _ B0.out).mono ?_)
                  rintro e w9 ⟨rfl, hb⟩
                  replace B0 := Lib.hid (below1 B0.out hb)
                  replace Kx := Lib.hid (bl_up Kx.out hb)
                  replace Ky := Lib.hid (bl_up Ky.out hb)
                  replace Kz := Lib.hid (bl_up Kz.out hb)
                  replace Ku := Lib.hid (bl_up Ku.out hb)
                  replace Kv := Lib.hid (bl_up Kv.out hb)
                  clear hb
                  have HF := Lib.hid B0.out
                  go_wp2
                  go_ret
                  exact ⟨rfl, HF.out⟩
                · rw [if_neg h0] at C5
                  have j12 : ((k : Int) == 0) = false ∨ ((k : Int) == 0) = true ∧ ((j : Int) == 0) = false := by
                    rcases Nat.eq_zero_or_pos k with h | h
                    · right; refine ⟨by rw [h]; rfl, ?_⟩; rw [beq_eq_false_iff_ne]; omega
                    · left; rw [beq_eq_false_iff_ne]; omega
                  clear h0 hkj
                  rcases j12 with j1 | ⟨j1, j2⟩
                  all_goals
                    obtain ⟨x_1, x_2, _, _⟩ := box2 Kx.out
                    rw [← GGx.out] at x_1 x_2
                    obtain ⟨y_1, y_2, _, _⟩ := box2 Ky.out
                    rw [← GGy.out] at y_1 y_2
                    go_wp2_with fail
                    (with_reducible refine (C4.out _ B0.out).mono ?_)
                    rintro e w8 ⟨rfl, hb⟩
                    replace B0 := Lib.hid (below1 B0.out hb)
                    replace Kx := Lib.hid (bl_up Kx.out hb)
                    replace Ky := Lib.hid (bl_up Ky.out hb)
                    replace Kz := Lib.hid (bl_up Kz.out hb)
                    replace Ku := Lib.hid (bl_up Ku.out hb)
                    replace Kv := Lib.hid (bl_up Kv.out hb)
                    clear hb
                    clear x_1 x_2 y_1 y_2
                    obtain ⟨x_1, x_2, _, _⟩ := box2 Kx.out
                    rw [← GGx.out] at x_1 x_2
                    obtain ⟨u_1, u_2, _, _⟩ := box2 Ku.out
                    go_wp2_with fail
                    (with_reducible refine (C5.out _ B0.out).mono ?_)
                    rintro e w9 ⟨rfl, hb⟩
                    replace B0 := Lib.hid (below1 B0.out hb)
                    replace Kx := Lib.hid (bl_up Kx.out hb)
                    replace Ky := Lib.hid (bl_up Ky.out hb)
                    replace Kz := Lib.hid (bl_up Kz.out hb)
                    replace Ku := Lib.hid (bl_up Ku.out hb)
                    replace Kv := Lib.hid (bl_up Kv.out hb)
                    clear hb
                    have HF := Lib.hid B0.out
                    go_wp2
                    go_ret
                    exact ⟨rfl, HF.out⟩
              · have i1 : ¬ (k : Int) < (j : Int) := by omega
                have i2 : (j : Int) < (k : Int) := by omega
                have i3 : ¬ k < j := by omega
                rw [if_neg i3, if_pos hkj] at C4
                by_cases h0 : k = 0 ∧ j = 0
                · exfalso; omega
                · rw [if_neg h0] at C5
                  have j12 : ((k : Int) == 0) = false ∨ ((k : Int) == 0) = true ∧ ((j : Int) == 0) = false := by
                    rcases Nat.eq_zero_or_pos k with h | h
                    · right; refine ⟨by rw [h]; rfl, ?_⟩; rw [beq_eq_false_iff_ne]; omega
                    · left; rw [beq_eq_false_iff_ne]; omega
                  clear h0 hkj
                  rcases j12 with j1 | ⟨j1, j2⟩
                  all_goals
                    obtain ⟨x_1, x_2, _, _⟩ := box2 Kx.out
                    rw [← GGx.out] at x_1 x_2
                    obtain ⟨y_1, y_2, _, _⟩ := box2 Ky.out
                    rw [← GGy.out] at y_1 y_2
                    go_wp2_with fail
                    (with_reducible refine (C4.out _ B0.out).mono ?_)
                    rintro e w8 ⟨rfl, hb⟩
                    replace B0 := Lib.hid (below1 B0.out hb)
                    replace Kx := Lib.hid (bl_up Kx.out hb)
                    replace Ky := Lib.hid (bl_up Ky.out hb)
                    replace Kz := Lib.hid (bl_up Kz.out hb)
                    replace Ku := Lib.hid (bl_up Ku.out hb)
                    replace Kv := Lib.hid (bl_up Kv.out hb)
                    clear hb
                    clear x_1 x_2 y_1 y_2
                    obtain ⟨x_1, x_2, _, _⟩ := box2 Kx.out
                    rw [← GGx.out] at x_1 x_2
                    obtain ⟨u_1, u_2, _, _⟩ := box2 Ku.out
                    go_wp2_with fail
                    (with_reducible refine (C5.out _ B0.out).mono ?_)
                    rintro e w9 ⟨rfl, hb⟩
                    replace B0 := Lib.hid (below1 B0.out hb)
                    replace Kx := Lib.hid (bl_up Kx.out hb)
                    replace Ky := Lib.hid (bl_up Ky.out hb)
                    replace Kz := Lib.hid (bl_up Kz.out hb)
                    replace Ku := Lib.hid (bl_up Ku.out hb)
                    replace Kv := Lib.hid (bl_up Kv.out hb)
                    clear hb
                    have HF := Lib.hid B0.out
                    go_wp2
                    go_ret
                    exact ⟨rfl, HF.out⟩
          · rw [if_neg hfit] at C1 C3
            have M1 := Lib.hid (fun W (hW : Below w.heap.size w W) => (C1.out W hW).mono (fun e W' h => show QRes W ⟨#[]⟩ ⟨#[]⟩ 40 e W' from h.at ⟨rfl, rfl, rfl⟩))
            have M3 := Lib.hid (fun W (hW : Below w.heap.size w W) => (C3.out W hW).mono (fun e W' h => show QRes W ⟨#[]⟩ ⟨#[]⟩ 40 e W' from h.at ⟨rfl, rfl, rfl⟩))
            have hf1 : decide ((k : Int) + (j : Int) + 1 ≤ 200) = false := by rw [decide_eq_false_iff_not]; omega
            have hf2 : decide ((k : Int) + (j : Int) < 200) = false := by rw [decide_eq_false_iff_not]; omega
            clear C1 C3
            have HFI := Lib.hid hfit
            clear hfit
            go_wp2_with fail
            (with_reducible refine (is_any _ _ _).mono ?_)
            rintro e w4 ⟨rfl, hb⟩
            replace B0 := Lib.hid (below1 B0.out hb)
            clear hb
            have hA := (Below.refl w4.heap.size w4).alloc (Nat.le_refl _) (.cells #[.string a, .string ⟨#[49]⟩] 23)
            replace B0 := Lib.hid (below1 B0.out hA)
            have Kx := Lib.hid (heap_new' w4 (.cells #[.string a, .string ⟨#[49]⟩] 23) w4.heap.size rfl)
            clear hA
            obtain ⟨gx, hg⟩ : ∃ g, w4.heap.size = g := ⟨_, rfl⟩
            rw [hg] at Kx
            have GGx := Lib.hid hg
            clear hg
            go_wp2_with fail
            (with_reducible refine (is_any _ _ _).mono ?_)
            rintro e w5 ⟨rfl, hb⟩
            replace B0 := Lib.hid (below1 B0.out hb)
            replace Kx := Lib.hid (bl_up Kx.out hb)
            clear hb
            have hA := (Below.refl w5.heap.size w5).alloc (Nat.le_refl _) (.cells #[.string b, .string ⟨#[49]⟩] 23)
            replace B0 := Lib.hid (below1 B0.out hA)
            have Ky := Lib.hid (heap_new' w5 (.cells #[.string b, .string ⟨#[49]⟩] 23) w5.heap.size rfl)
            replace Kx := Lib.hid (bl_up Kx.out hA)
            clear hA
            obtain ⟨gy, hg⟩ : ∃ g, w5.heap.size = g := ⟨_, rfl⟩
            rw [hg] at Ky
            have GGy := Lib.hid hg
            clear hg
            obtain ⟨x_1, x_2, _, _⟩ := box2 Kx.out
            rw [← GGx.out] at x_1 x_2
            go_wp2_with fail
            (with_reducible refine (M1.out _ B0.out).mono ?_)
            rintro e w6 ⟨rfl, hb⟩
            replace B0 := Lib.hid (below1 B0.out hb)
            replace Kx := Lib.hid (bl_up Kx.out hb)
            replace Ky := Lib.hid (bl_up Ky.out hb)
            clear hb
            clear x_1 x_2
            have hA := (Below.refl w6.heap.size w6).alloc (Nat.le_refl _) (.cells #[.string ⟨#[]⟩, .string ⟨#[]⟩] 23)
            replace B0 := Lib.hid (below1 B0.out hA)
            have Kz := Lib.hid (heap_new' w6 (.cells #[.string ⟨#[]⟩, .string ⟨#[]⟩] 23) w6.heap.size rfl)
            replace Kx := Lib.hid (bl_up Kx.out hA)
            replace Ky := Lib.hid (bl_up Ky.out hA)
            clear hA
            obtain ⟨gz, hg⟩ : ∃ g, w6.heap.size = g := ⟨_, rfl⟩
            rw [hg] at Kz
            have GGz := Lib.hid hg
            clear hg
            go_upto_region 17 with fail
            obtain ⟨V, hV⟩ : ∃ V, w6.alloc (.cells #[.string ⟨#[]⟩, .string ⟨#[]⟩] 23) = V := ⟨_, rfl⟩
            rw [hV] at B0 ⊢
            rw [hV] at Kx
            rw [hV] at Ky
            rw [hV] at Kz
            obtain ⟨kb1, kb2, _, _⟩ := box2 Ky.out
            rw [← GGy.out] at kb1 kb2
            clear hV
            have KBB := Lib.hid (fun W' (h : Below V.heap.size V W') => And.intro ((h.cell (p := ⟨w5.heap.size, 0, none⟩) (block_lt_of_cell kb1)).trans kb1) ((h.cell (p := ⟨w5.heap.size, 1, none⟩) (block_lt_of_cell kb2)).trans kb2))
            have hB : Below V.heap.size V V.drew := (Below.refl _ _).drew
            clear kb1 kb2
            go_cut [14, 15] (fun sp se wx => HeldR V ⟨#[49]⟩ b 0 sp se wx)
            case first =>
              go_region_held3 (fun w' => w'.cell? ⟨w5.heap.size, 0, none⟩ = some (.string b) ∧ w'.cell? ⟨w5.heap.size, 1, none⟩ = some (.string ⟨#[49]⟩))
                (first
                  | exact KBB.out _ hB
                  | exact KBB.out _ (hB.alloc hB.size _)
                  | exact KBB.out _ ((hB.setCell (p := ⟨_, 0, none⟩) (by first | exact Nat.le_refl _ | exact hsi) _).setCell (p := ⟨_, 1, none⟩) (by first | exact Nat.le_refl _ | exact hsi) _)
                  | go_keep)
                (first
                  | (go_at_call 41; (with_reducible refine (is_any _ _ _).mono ?_); rintro e wi ⟨rfl, hb⟩; (try have az := bl_up (heap_new' V.drew (.cells #[.string ⟨#[]⟩, .string ⟨#[]⟩] 23) V.heap.size rfl) hb); replace hB := (by first | exact hB.trans (hb.mono hB.size) | exact (hB.alloc hB.size _).trans (hb.mono (hB.alloc hB.size _).size)); have hsi := hB.size)
                  | (go_at_call 45; (with_reducible refine (C2'.out _ (by first | exact below1 B0.out hB | exact below1 B0.out (hB.alloc hB.size _))).mono ?_); rintro e wd ⟨rfl, hb⟩; (try replace az := bl_up az hb); (try have az := bl_up (heap_new' wi (.cells #[.string ⟨#[]⟩, .string ⟨#[]⟩] 23) wi.heap.size rfl) hb); (try (have hz := box2 az; obtain ⟨az1, az2, az3, az4⟩ := hz)); replace hB := (by first | exact hB.trans (hb.mono hB.size) | exact (hB.alloc hB.size _).trans (hb.mono (hB.alloc hB.size _).size))))
              all_goals
                go_wp2_with fail
                go_meet
                exact ⟨_, rfl, rfl, (by first | exact hB.size | exact hsi | exact Nat.le_refl _), (by first | exact heap_new' _ _ _ rfl | exact put2_heap az _ _), (by first | exact hB.alloc hB.size _ | exact (hB.setCell (p := ⟨_, 0, none⟩) (by first | exact Nat.le_refl _ | exact hsi) _).setCell (p := ⟨_, 1, none⟩) (by first | exact Nat.le_refl _ | exact hsi) _)⟩
            case rest =>
              obtain ⟨gu, rfl, rfl, hge, hgc, hb⟩ := hcut
              clear KBB hB hge
              replace B0 := Lib.hid (below1 B0.out hb)
              replace Kx := Lib.hid (bl_up Kx.out hb)
              replace Ky := Lib.hid (bl_up Ky.out hb)
              replace Kz := Lib.hid (bl_up Kz.out hb)
              have Ku := Lib.hid hgc
              clear hb hgc
              obtain ⟨x_1, x_2, _, _⟩ := box2 Kx.out
              rw [← GGx.out] at x_1 x_2
              obtain ⟨u_1, u_2, _, _⟩ := box2 Ku.out
              go_wp2_with fail
              (with_reducible refine (M3.out _ B0.out).mono ?_)
              rintro e w7 ⟨rfl, hb⟩
              replace B0 := Lib.hid (below1 B0.out hb)
              replace Kx := Lib.hid (bl_up Kx.out hb)
              replace Ky := Lib.hid (bl_up Ky.out hb)
              replace Kz := Lib.hid (bl_up Kz.out hb)
              replace Ku := Lib.hid (bl_up Ku.out hb)
              clear hb
              clear x_1 x_2 u_1 u_2
              have hA := (Below.refl w7.heap.size w7).alloc (Nat.le_refl _) (.cells #[.string ⟨#[]⟩, .string ⟨#[]⟩] 23)
              replace B0 := Lib.hid (below1 B0.out hA)
              have Kv := Lib.hid (heap_new' w7 (.cells #[.string ⟨#[]⟩, .string ⟨#[]⟩] 23) w7.heap.size rfl)
              replace Kx := Lib.hid (bl_up Kx.out hA)
              replace Ky := Lib.hid (bl_up Ky.out hA)
              replace Kz := Lib.hid (bl_up Kz.out hA)
              replace Ku := Lib.hid (bl_up Ku.out hA)
              clear hA
              obtain ⟨gv, hg⟩ : ∃ g, w7.heap.size = g := ⟨_, rfl⟩
              rw [hg] at Kv
              have GGv := Lib.hid hg
              clear hg
              obtain ⟨z_1, z_2, _, _⟩ := box2 Kz.out
              rw [← GGz.out] at z_1 z_2
              have hwk : IntKind.i64.wrap ((k : Int) + (j : Int)) = (k : Int) + (j : Int) := wrap_in _ ⟨by omega, by omega⟩
              have hwk2 : IntKind.i64.wrap ((k : Int) + (j : Int) + 1) = (k : Int) + (j : Int) + 1 := wrap_in _ ⟨by omega, by omega⟩
              have HFIT := HFI.out
              rcases Nat.lt_trichotomy k j with hkj | hkj | hkj
              · have i1 : (k : Int) < (j : Int) := by omega
                rw [if_pos hkj] at C4
                by_cases h0 : k = 0 ∧ j = 0
                · exfalso; omega
                · rw [if_neg h0] at C5
                  have j12 : ((k : Int) == 0) = false ∨ ((k : Int) == 0) = true ∧ ((j : Int) == 0) = false := by
                    rcases Nat.eq_zero_or_pos k with h | h
                    · right; refine ⟨by rw [h]; rfl, ?_⟩; rw [beq_eq_false_iff_ne]; omega
                    · left; rw [beq_eq_false_iff_ne]; omega
                  clear h0 hkj
                  rcases j12 with j1 | ⟨j1, j2⟩
                  all_goals
                    obtain ⟨x_1, x_2, _, _⟩ := box2 Kx.out
                    rw [← GGx.out] at x_1 x_2
                    obtain ⟨y_1, y_2, _, _⟩ := box2 Ky.out
                    rw [← GGy.out] at y_1 y_2
                    go_wp2_with fail
                    (with_reducible refine (C4.out _ B0.out).mono ?_)
                    rintro e w8 ⟨rfl, hb⟩
                    replace B0 := Lib.hid (below1 B0.out hb)
                    replace Kx := Lib.hid (bl_up Kx.out hb)
                    replace Ky := Lib.hid (bl_up Ky.out hb)
                    replace Kz := Lib.hid (bl_up Kz.out hb)
                    replace Ku := Lib.hid (bl_up Ku.out hb)
                    replace Kv := Lib.hid (bl_up Kv.out hb)
                    clear hb
                    clear x_1 x_2 y_1 y_2
                    obtain ⟨x_1, x_2, _, _⟩ := box2 Kx.out
                    rw [← GGx.out] at x_1 x_2
                    obtain ⟨u_1, u_2, _, _⟩ := box2 Ku.out
                    go_wp2_with fail
                    (with_reducible refine (C5.out _ B0.out).mono ?_)
                    rintro e w9 ⟨rfl, hb⟩
                    replace B0 := Lib.hid (below1 B0.out hb)
                    replace Kx := Lib.hid (bl_up Kx.out hb)
                    replace Ky := Lib.hid (bl_up Ky.out hb)
                    replace Kz := Lib.hid (bl_up Kz.out hb)
                    replace Ku := Lib.hid (bl_up Ku.out hb)
                    replace Kv := Lib.hid (bl_up Kv.out hb)
                    clear hb
                    have HF := Lib.hid B0.out
                    go_wp2
                    go_ret
                    exact ⟨rfl, HF.out⟩
              · have i1 : ¬ (k : Int) < (j : Int) := by omega
                have i2 : ¬ (j : Int) < (k : Int) := by omega
                have i3 : ¬ k < j := by omega
                have i4 : ¬ j < k := by omega
                rw [if_neg i3, if_neg i4] at C4
                by_cases h0 : k = 0 ∧ j = 0
                · rw [if_pos h0] at C5
                  obtain ⟨z0, z0'⟩ := h0
                  have j1 : ((k : Int) == 0) = true := by rw [z0]; rfl
                  have j2 : ((j : Int) == 0) = true := by rw [z0']; rfl
                  have HZ0 := Lib.hid z0
                  have HZ1 := Lib.hid z0'
                  clear z0 z0'
                  clear hkj
                  obtain ⟨x_1, x_2, _, _⟩ := box2 Kx.out
                  rw [← GGx.out] at x_1 x_2
                  obtain ⟨y_1, y_2, _, _⟩ := box2 Ky.out
                  rw [← GGy.out] at y_1 y_2
                  go_wp2_with fail
                  (with_reducible refine (C4.out _ B0.out).mono ?_)
                  rintro e w8 ⟨rfl, hb⟩
                  replace B0 := Lib.hid (below1 B0.out hb)
                  replace Kx := Lib.hid (bl_up Kx.out hb)
                  replace Ky := Lib.hid (bl_up Ky.out hb)
                  replace Kz := Lib.hid (bl_up Kz.out hb)
                  replace Ku := Lib.hid (bl_up Ku.out hb)
                  replace Kv := Lib.hid (bl_up Kv.out hb)
                  clear hb
                  clear x_1 x_2 y_1 y_2
                  obtain ⟨x_1, x_2, _, _⟩ := box2 Kx.out
                  rw [← GGx.out] at x_1 x_2
                  obtain ⟨u_1, u_2, _, _⟩ := box2 Ku.out
                  go_wp2_with fail
                  (with_reducible refine (C5.out _ B0.out).mono ?_)
                  rintro e w9 ⟨rfl, hb⟩
                  replace B0 := Lib.hid (below1 B0.out hb)
                  replace Kx := Lib.hid (bl_up Kx.out hb)
                  replace Ky := Lib.hid (bl_up Ky.out hb)
                  replace Kz := Lib.hid (bl_up Kz.out hb)
                  replace Ku := Lib.hid (bl_up Ku.out hb)
                  replace Kv := Lib.hid (bl_up Kv.out hb)
                  clear hb
                  have HF := Lib.hid B0.out
                  go_wp2
                  go_ret
                  exact ⟨rfl, HF.out⟩
                · rw [if_neg h0] at C5
                  have j12 : ((k : Int) == 0) = false ∨ ((k : Int) == 0) = true ∧ ((j : Int) == 0) = false := by
                    rcases Nat.eq_zero_or_pos k with h | h
                    · right; refine ⟨by rw [h]; rfl, ?_⟩; rw [beq_eq_false_iff_ne]; omega
                    · left; rw [beq_eq_false_iff_ne]; omega
                  clear h0 hkj
                  rcases j12 with j1 | ⟨j1, j2⟩
                  all_goals
                    obtain ⟨x_1, x_2, _, _⟩ := box2 Kx.out
                    rw [← GGx.out] at x_1 x_2
                    obtain ⟨y_1, y_2, _, _⟩ := box2 Ky.out
                    rw [← GGy.out] at y_1 y_2
                    go_wp2_with fail
                    (with_reducible refine (C4.out _ B0.out).mono ?_)
                    rintro e w8 ⟨rfl, hb⟩
                    replace B0 := Lib.hid (below1 B0.out hb)
                    replace Kx := Lib.hid (bl_up Kx.out hb)
                    replace Ky := Lib.hid (bl_up Ky.out hb)
                    replace Kz := Lib.hid (bl_up Kz.out hb)
                    replace Ku := Lib.hid (bl_up Ku.out hb)
                    replace Kv := Lib.hid (bl_up Kv.out hb)
                    clear hb
                    clear x_1 x_2 y_1 y_2
                    obtain ⟨x_1, x_2, _, _⟩ := box2 Kx.out
                    rw [← GGx.out] at x_1 x_2
                    obtain ⟨u_1, u_2, _, _⟩ := box2 Ku.out
                    go_wp2_with fail
                    (with_reducible refine (C5.out _ B0.out).mono ?_)
                    rintro e w9 ⟨rfl, hb⟩
                    replace B0 := Lib.hid (below1 B0.out hb)
                    replace Kx := Lib.hid (bl_up Kx.out hb)
                    replace Ky := Lib.hid (bl_up Ky.out hb)
                    replace Kz := Lib.hid (bl_up Kz.out hb)
                    replace Ku := Lib.hid (bl_up Ku.out hb)
                    replace Kv := Lib.hid (bl_up Kv.out hb)
                    clear hb
                    have HF := Lib.hid B0.out
                    go_wp2
                    go_ret
                    exact ⟨rfl, HF.out⟩
              · have i1 : ¬ (k : Int) < (j : Int) := by omega
                have i2 : (j : Int) < (k : Int) := by omega
                have i3 : ¬ k < j := by omega
                rw [if_neg i3, if_pos hkj] at C4
                by_cases h0 : k = 0 ∧ j = 0
                · exfalso; omega
                · rw [if_neg h0] at C5
                  have j12 : ((k : Int) == 0) = false ∨ ((k : Int) == 0) = true ∧ ((j : Int) == 0) = false := by
                    rcases Nat.eq_zero_or_pos k with h | h
                    · right; refine ⟨by rw [h]; rfl, ?_⟩; rw [beq_eq_false_iff_ne]; omega
                    · left; rw [beq_eq_false_iff_ne]; omega
                  clear h0 hkj
                  rcases j12 with j1 | ⟨j1, j2⟩
                  all_goals
                    obtain ⟨x_1, x_2, _, _⟩ := box2 Kx.out
                    rw [← GGx.out] at x_1 x_2
                    obtain ⟨y_1, y_2, _, _⟩ := box2 Ky.out
                    rw [← GGy.out] at y_1 y_2
                    go_wp2_with fail
                    (with_reducible refine (C4.out _ B0.out).mono ?_)
                    rintro e w8 ⟨rfl, hb⟩
                    replace B0 := Lib.hid (below1 B0.out hb)
                    replace Kx := Lib.hid (bl_up Kx.out hb)
                    replace Ky := Lib.hid (bl_up Ky.out hb)
                    replace Kz := Lib.hid (bl_up Kz.out hb)
                    replace Ku := Lib.hid (bl_up Ku.out hb)
                    replace Kv := Lib.hid (bl_up Kv.out hb)
                    clear hb
                    clear x_1 x_2 y_1 y_2
                    obtain ⟨x_1, x_2, _, _⟩ := box2 Kx.out
                    rw [← GGx.out] at x_1 x_2
                    obtain ⟨u_1, u_2, _, _⟩ := box2 Ku.out
                    go_wp2_with fail
                    (with_reducible refine (C5.out _ B0.out).mono ?_)
                    rintro e w9 ⟨rfl, hb⟩
                    replace B0 := Lib.hid (below1 B0.out hb)
                    replace Kx := Lib.hid (bl_up Kx.out hb)
                    replace Ky := Lib.hid (bl_up Ky.out hb)
                    replace Kz := Lib.hid (bl_up Kz.out hb)
                    replace Ku := Lib.hid (bl_up Ku.out hb)
                    replace Kv := Lib.hid (bl_up Kv.out hb)
                    clear hb
                    have HF := Lib.hid B0.out
                    go_wp2
                    go_ret
                    exact ⟨rfl, HF.out⟩
end Go.Proofs.YtcjcafekacceiaaGreatDoor
