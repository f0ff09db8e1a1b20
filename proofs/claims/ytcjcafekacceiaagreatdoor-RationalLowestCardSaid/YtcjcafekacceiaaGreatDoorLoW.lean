/- The walk of RationalLowest. -/
import Derived.Test.YtcjcafekacceiaaGreatDoorSa
import Derived.Test.YtcjcafekacceiaaGreatDoorLg
namespace Go.Proofs.YtcjcafekacceiaaGreatDoor
open Go.RowKit
set_option linter.unusedVariables false
set_option linter.unusedSimpArgs false

theorem box4i {w : World} {B : Nat} {x0 x1 x2 x3 : Value} {T : TypeId} (h : w.heap[B]? = some (.cells #[x0, x1, x2, x3] T)) :
    w.cell? ⟨B, 0, none⟩ = some x0 ∧ w.cell? ⟨B, 1, none⟩ = some x1 ∧ w.cell? ⟨B, 2, none⟩ = some x2 ∧ w.cell? ⟨B, 3, none⟩ = some x3 := by
  refine ⟨?_, ?_, ?_, ?_⟩ <;> simp [World.cell?, h]
theorem low_big {z k : Int} (hz : z.natAbs < 10 ^ 101) (hk : k.natAbs ≤ 1000000) : Big (z * k) ∧ Big z ∧ Big k := by
  have e : (10 : Nat) ^ 101 * 1000001 < 10 ^ 200 := by decide +kernel
  have e1 : (10 : Nat) ^ 101 < 10 ^ 200 := by decide +kernel
  have e2 : 1000000 < (10 : Nat) ^ 200 := by decide +kernel
  refine ⟨?_, Nat.lt_trans hz e1, Nat.lt_of_le_of_lt hk e2⟩
  unfold Big
  rw [Int.natAbs_mul]
  exact Nat.lt_of_le_of_lt (Nat.mul_le_mul (Nat.le_of_lt hz) (Nat.le_succ_of_le hk)) e
theorem low_mul {z k : Int} (hz : z.natAbs < 10 ^ 101) (hk : k.natAbs ≤ 1000000) : opS (fun x y => x * y) (str z) (str k) = str (z * k) := by
  obtain ⟨h, h1, h2⟩ := low_big hz hk
  exact opS_z h1 h2 ((bigB_iff _).2 h)
theorem low_mk {q : Rat} {k : Int} (hn : q.num.natAbs < 10 ^ 101) (hd : q.den < 10 ^ 101) (hk : k.natAbs ≤ 1000000) (h0 : k ≠ 0) : mkS (str (q.num * k)) (str ((q.den : Int) * k)) = some q := by
  have hd' : ((q.den : Int)).natAbs < 10 ^ 101 := by rw [Int.natAbs_natCast]; exact hd
  rw [mkS_int (low_big hn hk).1 (low_big hd' hk).1, if_neg (Int.mul_ne_zero (q_den_ne q) h0), Rat.divInt_mul_right h0, q_div]
theorem low_zero {k : Int} (hk : k.natAbs ≤ 1000000) (h0 : k ≠ 0) : mkS (str 0) (str k) = some 0 := by
  rw [mkS_int (by unfold Big; exact Nat.pow_pos (by decide)) (low_big (z := 0) (Nat.pow_pos (by decide)) hk).2.2, if_neg h0, Rat.zero_divInt]

set_option maxRecDepth 100000 in
set_option maxHeartbeats 8000000 in
theorem lowest_walk (c0 c1 c2 c3 : Int) (b0 : -9223372036854775808 ≤ c0 ∧ c0 ≤ 9223372036854775807) (b1 : -9223372036854775808 ≤ c1 ∧ c1 ≤ 9223372036854775807) (b2 : -9223372036854775808 ≤ c2 ∧ c2 ≤ 9223372036854775807) (b3 : -9223372036854775808 ≤ c3 ∧ c3 ≤ 9223372036854775807) (c : Int) (hc0 : -9223372036854775808 ≤ c) (hc1 : c ≤ 9223372036854775807) (sg : Bool) (w : World) (ht : Tb w) :
    Calls Tryz.prog 9 #[.agg #[.int .i64 c0, .int .i64 c1, .int .i64 c2, .int .i64 c3], .int .i64 c, .bool sg] w (BOut w true) := by
  have HT := Lib.hid (fun W (hW : Below w.heap.size w W) => ht.below hW)
  have CS := Lib.hid (fun W (hW : Below w.heap.size w W) => sane_any W (HT.out W hW))
  clear ht
  have CL := Lib.hid (long_any c0 c1 c2 c3 b0 b1 b2 b3)
  have CP := Lib.hid (lpick_any c hc0 hc1 1000000 (by decide) (by decide) 1000000 rfl)
  clear b0 b1 b2 b3 hc0 hc1
  have B0 := Lib.hid ((Below.refl w.heap.size w).alloc (Nat.le_refl _) (.cells #[.int .i64 c0, .int .i64 c1, .int .i64 c2, .int .i64 c3] 24))
  have Kx := Lib.hid (heap_new' w (.cells #[.int .i64 c0, .int .i64 c1, .int .i64 c2, .int .i64 c3] 24) w.heap.size rfl)
  go_enter Tryz.func9, Tryz.ntmps9
  go_wp2_with fail
  (with_reducible refine (CS.out _ B0.out).mono ?_)
  rintro e w1 ⟨rfl, hb⟩
  replace B0 := Lib.hid (below1 B0.out hb)
  replace Kx := Lib.hid (bl_up Kx.out hb)
  clear hb
  obtain ⟨x0, x1, x2, x3⟩ := box4i Kx.out
  go_wp2_with fail
  (with_reducible refine (CL.out _).mono ?_)
  rintro e w2 ⟨q, hqn, hqd, rfl, hb⟩
  replace B0 := Lib.hid (below1 B0.out hb)
  replace Kx := Lib.hid (bl_up Kx.out hb)
  clear hb
  clear x0 x1 x2 x3 Kx
  have HQN := Lib.hid hqn; have HQD := Lib.hid hqd
  have hqd' : ((q.den : Int)).natAbs < 10 ^ 101 := by rw [Int.natAbs_natCast]; exact hqd
  have b101 : (10 : Nat) ^ 101 < 10 ^ 200 := by decide +kernel
  have HBQ := Lib.hid (show BQ q from ⟨Nat.lt_trans hqn b101, Nat.lt_trans hqd' b101⟩)
  have HQD' := Lib.hid hqd'
  clear hqn hqd hqd' b101
  obtain ⟨u, hu⟩ : ∃ u, str q.num = u := ⟨_, rfl⟩
  obtain ⟨v, hv⟩ : ∃ v, str (q.den : Int) = v := ⟨_, rfl⟩
  rw [hu, hv]
  have HU := Lib.hid hu; have HV := Lib.hid hv
  clear hu hv
  have hA := (Below.refl w2.heap.size w2).alloc (Nat.le_refl _) (.cells #[.string u, .string v] 23)
  replace B0 := Lib.hid (below1 B0.out hA)
  have Kr := Lib.hid (heap_new' w2 (.cells #[.string u, .string v] 23) w2.heap.size rfl)
  clear hA
  go_wp2_with fail
  (with_reducible refine (CP.out _).mono ?_)
  rintro e wq ⟨p, hp, rfl, rfl⟩
  have hpI : (p : Int) < 1000000 := by omega
  clear CP CL CS
  cases sg
  ·
    obtain ⟨k, hk⟩ : ∃ k : Int, 1 + (p : Int) = k := ⟨_, rfl⟩
    have hk1 : k.natAbs ≤ 1000000 := by omega
    have hk0 : k ≠ 0 := by omega
    have CF := Lib.hid (fun W (hW : Below w.heap.size w W) => rfromInt_any k (by omega) (by omega) W)
    have HK := Lib.hid (And.intro hk1 hk0)
    have sz := (low_big (z := 0) (Nat.pow_pos (by decide)) hk1).2.2
    have CM1 := Lib.hid (fun W => rmul_any u (str k) W (by rw [← HU.out]; exact str_size HBQ.out.1) (str_size sz))
    have CM2 := Lib.hid (fun W => rmul_any v (str k) W (by rw [← HV.out]; exact str_size HBQ.out.2) (str_size sz))
    have e1 := low_mul HQN.out hk1
    have e2 := low_mul HQD'.out hk1
    rw [HU.out] at e1; rw [HV.out] at e2
    rw [e1] at CM1; rw [e2] at CM2
    have hm := low_mk HQN.out HQD.out hk1 hk0
    have g1 := low_big HQN.out hk1
    have g2 := low_big HQD'.out hk1
    have CA := Lib.hid (fun W (hW : Below w.heap.size w W) => (make_any (str (q.num * k)) (str ((q.den : Int) * k)) W (str_size g1.1) (str_size g2.1) (HT.out W hW)).mono (fun e W' h => show QRes W u v 0 e W' from h.at (by rw [hm]; exact ⟨HU.out, HV.out, rfl⟩)))
    have CB := Lib.hid (fun W (hW : Below w.heap.size w W) => (make_any u v W (by rw [← HU.out]; exact str_size HBQ.out.1) (by rw [← HV.out]; exact str_size HBQ.out.2) (HT.out W hW)).mono (fun e W' h => show QRes W u v 0 e W' from h.at (by rw [← HU.out, ← HV.out, mkS_str HBQ.out]; exact ⟨rfl, rfl, rfl⟩)))
    have CZ := Lib.hid (fun W (hW : Below w.heap.size w W) => (make_any ⟨#[48]⟩ (str k) W (by decide) (str_size sz) (HT.out W hW)).mono (fun e W' h => show QRes W ⟨#[48]⟩ ⟨#[49]⟩ 0 e W' from h.at (by rw [show (⟨#[48]⟩ : ByteArray) = str 0 from by decide +kernel, low_zero hk1 hk0]; decide +kernel)))
    have CV := Lib.hid (fun W (hW : Below w.heap.size w W) => qvalid_any u v W (by rw [← HU.out]; exact str_size HBQ.out.1) (by rw [← HV.out]; exact str_size HBQ.out.2) (HT.out W hW))
    rw [show fV u v = true from by rw [← HU.out, ← HV.out]; exact fV_str HBQ.out] at CV
    have CC := Lib.hid (fun W (hW : Below w.heap.size w W) => qcmp_any q q HBQ.out HBQ.out W (HT.out W hW))
    rw [cmpQ_self, HU.out, HV.out] at CC
    have CR := Lib.hid (fun W (hW : Below w.heap.size w W) => print_q q HBQ.out W (HT.out W hW))
    rw [HU.out, HV.out] at CR
    generalize prQ q = pq at CR
    obtain ⟨sk, hsk⟩ : ∃ sk, str k = sk := ⟨_, rfl⟩
    obtain ⟨sn, hsn⟩ : ∃ sn, str (q.num * k) = sn := ⟨_, rfl⟩
    obtain ⟨sd, hsd⟩ : ∃ sd, str ((q.den : Int) * k) = sd := ⟨_, rfl⟩
    rw [hsk] at CF CM1 CM2 CZ
    rw [hsn] at CM1 CA
    rw [hsd] at CM2 CA
    clear e1 e2 hm g1 g2 sz hk1 hk0
    go_wp2_with fail
    (try (rw [show _ = k from hk]))
    (with_reducible refine (CF.out _ B0.out).mono ?_)
    rintro e w6 ⟨rfl, hb⟩
    replace B0 := Lib.hid (below1 B0.out hb)
    replace Kr := Lib.hid (bl_up Kr.out hb)
    clear hb
    obtain ⟨r_1, r_2, _, _⟩ := box2 Kr.out
    go_wp2_with fail
    (with_reducible refine (CM1.out _).mono ?_)
    rintro e w7 ⟨rfl, hb⟩
    replace B0 := Lib.hid (below1 B0.out hb)
    replace Kr := Lib.hid (bl_up Kr.out hb)
    clear hb
    clear r_1 r_2
    obtain ⟨r_1, r_2, _, _⟩ := box2 Kr.out
    go_wp2_with fail
    (with_reducible refine (CM2.out _).mono ?_)
    rintro e w8 ⟨rfl, hb⟩
    replace B0 := Lib.hid (below1 B0.out hb)
    replace Kr := Lib.hid (bl_up Kr.out hb)
    clear hb
    clear r_1 r_2
    obtain ⟨r_1, r_2, _, _⟩ := box2 Kr.out
    go_wp2_with fail
    (with_reducible refine (CA.out _ B0.out).mono ?_)
    rintro e w9 ⟨rfl, hb⟩
    replace B0 := Lib.hid (below1 B0.out hb)
    replace Kr := Lib.hid (bl_up Kr.out hb)
    clear hb
    clear r_1 r_2
    have hA := (Below.refl w9.heap.size w9).alloc (Nat.le_refl _) (.cells #[.string u, .string v] 23)
    replace B0 := Lib.hid (below1 B0.out hA)
    have Ka := Lib.hid (heap_new' w9 (.cells #[.string u, .string v] 23) w9.heap.size rfl)
    replace Kr := Lib.hid (bl_up Kr.out hA)
    clear hA
    obtain ⟨r_1, r_2, _, _⟩ := box2 Kr.out
    go_wp2_with fail
    (with_reducible refine (CB.out _ B0.out).mono ?_)
    rintro e w10 ⟨rfl, hb⟩
    replace B0 := Lib.hid (below1 B0.out hb)
    replace Kr := Lib.hid (bl_up Kr.out hb)
    replace Ka := Lib.hid (bl_up Ka.out hb)
    clear hb
    clear r_1 r_2
    have hA := (Below.refl w10.heap.size w10).alloc (Nat.le_refl _) (.cells #[.string u, .string v] 23)
    replace B0 := Lib.hid (below1 B0.out hA)
    have Kb := Lib.hid (heap_new' w10 (.cells #[.string u, .string v] 23) w10.heap.size rfl)
    replace Kr := Lib.hid (bl_up Kr.out hA)
    replace Ka := Lib.hid (bl_up Ka.out hA)
    clear hA
    go_wp2_with fail
    (with_reducible refine (CZ.out _ B0.out).mono ?_)
    rintro e w11 ⟨rfl, hb⟩
    replace B0 := Lib.hid (below1 B0.out hb)
    replace Kr := Lib.hid (bl_up Kr.out hb)
    replace Ka := Lib.hid (bl_up Ka.out hb)
    replace Kb := Lib.hid (bl_up Kb.out hb)
    clear hb
    have hA := (Below.refl w11.heap.size w11).alloc (Nat.le_refl _) (.cells #[.string ⟨#[48]⟩, .string ⟨#[49]⟩] 23)
    replace B0 := Lib.hid (below1 B0.out hA)
    have Kz := Lib.hid (heap_new' w11 (.cells #[.string ⟨#[48]⟩, .string ⟨#[49]⟩] 23) w11.heap.size rfl)
    replace Kr := Lib.hid (bl_up Kr.out hA)
    replace Ka := Lib.hid (bl_up Ka.out hA)
    replace Kb := Lib.hid (bl_up Kb.out hA)
    clear hA
    go_upto_region 12 with fail
    obtain ⟨X, hX⟩ : ∃ X, w11.alloc (.cells #[.string ⟨#[48]⟩, .string ⟨#[49]⟩] 23) = X := ⟨_, rfl⟩
    rw [hX] at B0 ⊢
    rw [hX] at Kr
    obtain ⟨r1, r2, _, _⟩ := box2 Kr.out
    rw [hX] at Ka
    obtain ⟨a1, a2, _, _⟩ := box2 Ka.out
    rw [hX] at Kb
    obtain ⟨b1, b2, _, _⟩ := box2 Kb.out
    rw [hX] at Kz
    obtain ⟨z1, z2, _, _⟩ := box2 Kz.out
    clear hX
    have KS := Lib.hid (fun w' (h : Below X.heap.size X w') => show w'.cell? ⟨w2.heap.size, 0, none⟩ = some (.string u) ∧ w'.cell? ⟨w2.heap.size, 1, none⟩ = some (.string v) ∧ w'.cell? ⟨w9.heap.size, 0, none⟩ = some (.string u) ∧ w'.cell? ⟨w9.heap.size, 1, none⟩ = some (.string v) ∧ w'.cell? ⟨w10.heap.size, 0, none⟩ = some (.string u) ∧ w'.cell? ⟨w10.heap.size, 1, none⟩ = some (.string v) ∧ w'.cell? ⟨w11.heap.size, 0, none⟩ = some (.string ⟨#[48]⟩) ∧ w'.cell? ⟨w11.heap.size, 1, none⟩ = some (.string ⟨#[49]⟩) from ⟨(h.cell (p := ⟨_, 0, none⟩) (block_lt_of_cell r1)).trans r1, (h.cell (p := ⟨_, 1, none⟩) (block_lt_of_cell r2)).trans r2, (h.cell (p := ⟨_, 0, none⟩) (block_lt_of_cell a1)).trans a1, (h.cell (p := ⟨_, 1, none⟩) (block_lt_of_cell a2)).trans a2, (h.cell (p := ⟨_, 0, none⟩) (block_lt_of_cell b1)).trans b1, (h.cell (p := ⟨_, 1, none⟩) (block_lt_of_cell b2)).trans b2, (h.cell (p := ⟨_, 0, none⟩) (block_lt_of_cell z1)).trans z1, (h.cell (p := ⟨_, 1, none⟩) (block_lt_of_cell z2)).trans z2⟩)
    have hB : Below X.heap.size X X.drew := (Below.refl _ _).drew
    clear r1 r2 a1 a2 b1 b2 z1 z2
    go_region_held3 (fun w' => w'.cell? ⟨w2.heap.size, 0, none⟩ = some (.string u) ∧ w'.cell? ⟨w2.heap.size, 1, none⟩ = some (.string v) ∧ w'.cell? ⟨w9.heap.size, 0, none⟩ = some (.string u) ∧ w'.cell? ⟨w9.heap.size, 1, none⟩ = some (.string v) ∧ w'.cell? ⟨w10.heap.size, 0, none⟩ = some (.string u) ∧ w'.cell? ⟨w10.heap.size, 1, none⟩ = some (.string v) ∧ w'.cell? ⟨w11.heap.size, 0, none⟩ = some (.string ⟨#[48]⟩) ∧ w'.cell? ⟨w11.heap.size, 1, none⟩ = some (.string ⟨#[49]⟩))
      (first
        | exact KS.out _ hB
        | go_keep)
      (first
        | (go_at_call 41; (with_reducible refine (is_any _ _ _).mono ?_); rintro e wi ⟨rfl, hb⟩; replace hB := hB.trans (hb.mono hB.size))
        | (go_at_call 33; (with_reducible refine (CR.out _ (below1 B0.out hB)).mono ?_); rintro e wi ⟨rfl, hb⟩; replace hB := hB.trans (hb.mono hB.size))
        | (go_at_call 20; (with_reducible refine (CC.out _ (below1 B0.out hB)).mono ?_); rintro e wi ⟨rfl, hb⟩; replace hB := hB.trans (hb.mono hB.size))
        | (go_at_call 29; (with_reducible refine (CV.out _ (below1 B0.out hB)).mono ?_); rintro e wi ⟨rfl, hb⟩; replace hB := hB.trans (hb.mono hB.size)))
    all_goals
      have HF := Lib.hid (below1 B0.out hB)
      clear hB hb
      go_wp2
      go_ret
      exact ⟨rfl, HF.out⟩
  ·
    obtain ⟨k, hk⟩ : ∃ k : Int, -(1 + (p : Int)) = k := ⟨_, rfl⟩
    have hk1 : k.natAbs ≤ 1000000 := by omega
    have hk0 : k ≠ 0 := by omega
    have CF := Lib.hid (fun W (hW : Below w.heap.size w W) => rfromInt_any k (by omega) (by omega) W)
    have HK := Lib.hid (And.intro hk1 hk0)
    have sz := (low_big (z := 0) (Nat.pow_pos (by decide)) hk1).2.2
    have CM1 := Lib.hid (fun W => rmul_any u (str k) W (by rw [← HU.out]; exact str_size HBQ.out.1) (str_size sz))
    have CM2 := Lib.hid (fun W => rmul_any v (str k) W (by rw [← HV.out]; exact str_size HBQ.out.2) (str_size sz))
    have e1 := low_mul HQN.out hk1
    have e2 := low_mul HQD'.out hk1
    rw [HU.out] at e1; rw [HV.out] at e2
    rw [e1] at CM1; rw [e2] at CM2
    have hm := low_mk HQN.out HQD.out hk1 hk0
    have g1 := low_big HQN.out hk1
    have g2 := low_big HQD'.out hk1
    have CA := Lib.hid (fun W (hW : Below w.heap.size w W) => (make_any (str (q.num * k)) (str ((q.den : Int) * k)) W (str_size g1.1) (str_size g2.1) (HT.out W hW)).mono (fun e W' h => show QRes W u v 0 e W' from h.at (by rw [hm]; exact ⟨HU.out, HV.out, rfl⟩)))
    have CB := Lib.hid (fun W (hW : Below w.heap.size w W) => (make_any u v W (by rw [← HU.out]; exact str_size HBQ.out.1) (by rw [← HV.out]; exact str_size HBQ.out.2) (HT.out W hW)).mono (fun e W' h => show QRes W u v 0 e W' from h.at (by rw [← HU.out, ← HV.out, mkS_str HBQ.out]; exact ⟨rfl, rfl, rfl⟩)))
    have CZ := Lib.hid (fun W (hW : Below w.heap.size w W) => (make_any ⟨#[48]⟩ (str k) W (by decide) (str_size sz) (HT.out W hW)).mono (fun e W' h => show QRes W ⟨#[48]⟩ ⟨#[49]⟩ 0 e W' from h.at (by rw [show (⟨#[48]⟩ : ByteArray) = str 0 from by decide +kernel, low_zero hk1 hk0]; decide +kernel)))
    have CV := Lib.hid (fun W (hW : Below w.heap.size w W) => qvalid_any u v W (by rw [← HU.out]; exact str_size HBQ.out.1) (by rw [← HV.out]; exact str_size HBQ.out.2) (HT.out W hW))
    rw [show fV u v = true from by rw [← HU.out, ← HV.out]; exact fV_str HBQ.out] at CV
    have CC := Lib.hid (fun W (hW : Below w.heap.size w W) => qcmp_any q q HBQ.out HBQ.out W (HT.out W hW))
    rw [cmpQ_self, HU.out, HV.out] at CC
    have CR := Lib.hid (fun W (hW : Below w.heap.size w W) => print_q q HBQ.out W (HT.out W hW))
    rw [HU.out, HV.out] at CR
    generalize prQ q = pq at CR
    obtain ⟨sk, hsk⟩ : ∃ sk, str k = sk := ⟨_, rfl⟩
    obtain ⟨sn, hsn⟩ : ∃ sn, str (q.num * k) = sn := ⟨_, rfl⟩
    obtain ⟨sd, hsd⟩ : ∃ sd, str ((q.den : Int) * k) = sd := ⟨_, rfl⟩
    rw [hsk] at CF CM1 CM2 CZ
    rw [hsn] at CM1 CA
    rw [hsd] at CM2 CA
    clear e1 e2 hm g1 g2 sz hk1 hk0
    go_wp2_with fail
    (try (rw [show _ = k from hk]))
    (with_reducible refine (CF.out _ B0.out).mono ?_)
    rintro e w6 ⟨rfl, hb⟩
    replace B0 := Lib.hid (below1 B0.out hb)
    replace Kr := Lib.hid (bl_up Kr.out hb)
    clear hb
    obtain ⟨r_1, r_2, _, _⟩ := box2 Kr.out
    go_wp2_with fail
    (with_reducible refine (CM1.out _).mono ?_)
    rintro e w7 ⟨rfl, hb⟩
    replace B0 := Lib.hid (below1 B0.out hb)
    replace Kr := Lib.hid (bl_up Kr.out hb)
    clear hb
    clear r_1 r_2
    obtain ⟨r_1, r_2, _, _⟩ := box2 Kr.out
    go_wp2_with fail
    (with_reducible refine (CM2.out _).mono ?_)
    rintro e w8 ⟨rfl, hb⟩
    replace B0 := Lib.hid (below1 B0.out hb)
    replace Kr := Lib.hid (bl_up Kr.out hb)
    clear hb
    clear r_1 r_2
    obtain ⟨r_1, r_2, _, _⟩ := box2 Kr.out
    go_wp2_with fail
    (with_reducible refine (CA.out _ B0.out).mono ?_)
    rintro e w9 ⟨rfl, hb⟩
    replace B0 := Lib.hid (below1 B0.out hb)
    replace Kr := Lib.hid (bl_up Kr.out hb)
    clear hb
    clear r_1 r_2
    have hA := (Below.refl w9.heap.size w9).alloc (Nat.le_refl _) (.cells #[.string u, .string v] 23)
    replace B0 := Lib.hid (below1 B0.out hA)
    have Ka := Lib.hid (heap_new' w9 (.cells #[.string u, .string v] 23) w9.heap.size rfl)
    replace Kr := Lib.hid (bl_up Kr.out hA)
    clear hA
    obtain ⟨r_1, r_2, _, _⟩ := box2 Kr.out
    go_wp2_with fail
    (with_reducible refine (CB.out _ B0.out).mono ?_)
    rintro e w10 ⟨rfl, hb⟩
    replace B0 := Lib.hid (below1 B0.out hb)
    replace Kr := Lib.hid (bl_up Kr.out hb)
    replace Ka := Lib.hid (bl_up Ka.out hb)
    clear hb
    clear r_1 r_2
    have hA := (Below.refl w10.heap.size w10).alloc (Nat.le_refl _) (.cells #[.string u, .string v] 23)
    replace B0 := Lib.hid (below1 B0.out hA)
    have Kb := Lib.hid (heap_new' w10 (.cells #[.string u, .string v] 23) w10.heap.size rfl)
    replace Kr := Lib.hid (bl_up Kr.out hA)
    replace Ka := Lib.hid (bl_up Ka.out hA)
    clear hA
    go_wp2_with fail
    (with_reducible refine (CZ.out _ B0.out).mono ?_)
    rintro e w11 ⟨rfl, hb⟩
    replace B0 := Lib.hid (below1 B0.out hb)
    replace Kr := Lib.hid (bl_up Kr.out hb)
    replace Ka := Lib.hid (bl_up Ka.out hb)
    replace Kb := Lib.hid (bl_up Kb.out hb)
    clear hb
    have hA := (Below.refl w11.heap.size w11).alloc (Nat.le_refl _) (.cells #[.string ⟨#[48]⟩, .string ⟨#[49]⟩] 23)
    replace B0 := Lib.hid (below1 B0.out hA)
    have Kz := Lib.hid (heap_new' w11 (.cells #[.string ⟨#[48]⟩, .string ⟨#[49]⟩] 23) w11.heap.size rfl)
    replace Kr := Lib.hid (bl_up Kr.out hA)
    replace Ka := Lib.hid (bl_up Ka.out hA)
    replace Kb := Lib.hid (bl_up Kb.out hA)
    clear hA
    go_upto_region 12 with fail
    obtain ⟨X, hX⟩ : ∃ X, w11.alloc (.cells #[.string ⟨#[48]⟩, .string ⟨#[49]⟩] 23) = X := ⟨_, rfl⟩
    rw [hX] at B0 ⊢
    rw [hX] at Kr
    obtain ⟨r1, r2, _, _⟩ := box2 Kr.out
    rw [hX] at Ka
    obtain ⟨a1, a2, _, _⟩ := box2 Ka.out
    rw [hX] at Kb
    obtain ⟨b1, b2, _, _⟩ := box2 Kb.out
    rw [hX] at Kz
    obtain ⟨z1, z2, _, _⟩ := box2 Kz.out
    clear hX
    have KS := Lib.hid (fun w' (h : Below X.heap.size X w') => show w'.cell? ⟨w2.heap.size, 0, none⟩ = some (.string u) ∧ w'.cell? ⟨w2.heap.size, 1, none⟩ = some (.string v) ∧ w'.cell? ⟨w9.heap.size, 0, none⟩ = some (.string u) ∧ w'.cell? ⟨w9.heap.size, 1, none⟩ = some (.string v) ∧ w'.cell? ⟨w10.heap.size, 0, none⟩ = some (.string u) ∧ w'.cell? ⟨w10.heap.size, 1, none⟩ = some (.string v) ∧ w'.cell? ⟨w11.heap.size, 0, none⟩ = some (.string ⟨#[48]⟩) ∧ w'.cell? ⟨w11.heap.size, 1, none⟩ = some (.string ⟨#[49]⟩) from ⟨(h.cell (p := ⟨_, 0, none⟩) (block_lt_of_cell r1)).trans r1, (h.cell (p := ⟨_, 1, none⟩) (block_lt_of_cell r2)).trans r2, (h.cell (p := ⟨_, 0, none⟩) (block_lt_of_cell a1)).trans a1, (h.cell (p := ⟨_, 1, none⟩) (block_lt_of_cell a2)).trans a2, (h.cell (p := ⟨_, 0, none⟩) (block_lt_of_cell b1)).trans b1, (h.cell (p := ⟨_, 1, none⟩) (block_lt_of_cell b2)).trans b2, (h.cell (p := ⟨_, 0, none⟩) (block_lt_of_cell z1)).trans z1, (h.cell (p := ⟨_, 1, none⟩) (block_lt_of_cell z2)).trans z2⟩)
    have hB : Below X.heap.size X X.drew := (Below.refl _ _).drew
    clear r1 r2 a1 a2 b1 b2 z1 z2
    go_region_held3 (fun w' => w'.cell? ⟨w2.heap.size, 0, none⟩ = some (.string u) ∧ w'.cell? ⟨w2.heap.size, 1, none⟩ = some (.string v) ∧ w'.cell? ⟨w9.heap.size, 0, none⟩ = some (.string u) ∧ w'.cell? ⟨w9.heap.size, 1, none⟩ = some (.string v) ∧ w'.cell? ⟨w10.heap.size, 0, none⟩ = some (.string u) ∧ w'.cell? ⟨w10.heap.size, 1, none⟩ = some (.string v) ∧ w'.cell? ⟨w11.heap.size, 0, none⟩ = some (.string ⟨#[48]⟩) ∧ w'.cell? ⟨w11.heap.size, 1, none⟩ = some (.string ⟨#[49]⟩))
      (first
        | exact KS.out _ hB
        | go_keep)
      (first
        | (go_at_call 41; (with_reducible refine (is_any _ _ _).mono ?_); rintro e wi ⟨rfl, hb⟩; replace hB := hB.trans (hb.mono hB.size))
        | (go_at_call 33; (with_reducible refine (CR.out _ (below1 B0.out hB)).mono ?_); rintro e wi ⟨rfl, hb⟩; replace hB := hB.trans (hb.mono hB.size))
        | (go_at_call 20; (with_reducible refine (CC.out _ (below1 B0.out hB)).mono ?_); rintro e wi ⟨rfl, hb⟩; replace hB := hB.trans (hb.mono hB.size))
        | (go_at_call 29; (with_reducible refine (CV.out _ (below1 B0.out hB)).mono ?_); rintro e wi ⟨rfl, hb⟩; replace hB := hB.trans (hb.mono hB.size)))
    all_goals
      have HF := Lib.hid (below1 B0.out hB)
      clear hB hb
      go_wp2
      go_ret
      exact ⟨rfl, HF.out⟩
end Go.Proofs.YtcjcafekacceiaaGreatDoor
