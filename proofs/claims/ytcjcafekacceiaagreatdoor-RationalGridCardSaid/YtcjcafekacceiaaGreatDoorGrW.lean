/- The walk of RationalGrid. -/
import Derived.Test.YtcjcafekacceiaaGreatDoorSa
import Derived.Test.YtcjcafekacceiaaGreatDoorLg
import Derived.Test.YtcjcafekacceiaaGreatDoorGd
namespace Go.Proofs.YtcjcafekacceiaaGreatDoor
open Go.RowKit
set_option linter.unusedVariables false
set_option linter.unusedSimpArgs false

theorem box4g {w : World} {B : Nat} {x0 x1 x2 x3 : Value} {T : TypeId} (h : w.heap[B]? = some (.cells #[x0, x1, x2, x3] T)) :
    w.cell? ⟨B, 0, none⟩ = some x0 ∧ w.cell? ⟨B, 1, none⟩ = some x1 ∧ w.cell? ⟨B, 2, none⟩ = some x2 ∧ w.cell? ⟨B, 3, none⟩ = some x3 := by
  refine ⟨?_, ?_, ?_, ?_⟩ <;> simp [World.cell?, h]
set_option maxRecDepth 100000 in
set_option maxHeartbeats 8000000 in
theorem minus_any (q : Rat) (hq : BQ q) (w : World) (ht : ∀ W, Below w.heap.size w W → Tb W) :
    Calls Tryz.prog 42 #[.agg #[.string (str q.num), .string (str (q.den : Int))]] w (MnOut w (str (-q).num) (str ((-q).den : Int))) := by
  have CS := Lib.hid (fun W (hW : Below w.heap.size w W) => gc_sub ht bq0 hq W hW)
  rw [sub0_q hq, str00, str01] at CS
  change Hid (∀ W, Below w.heap.size w W → Calls Tryz.prog 40 #[.agg #[.string ⟨#[48]⟩, .string ⟨#[49]⟩], .agg #[.string (str q.num), .string (str (q.den : Int))]] W (QRes W (str (-q).num) (str ((-q).den : Int)) 0)) at CS
  generalize str (-q).num = nx at *
  generalize str ((-q).den : Int) = ny at *
  generalize str q.num = qn at *
  generalize str (q.den : Int) = qd at *
  clear ht hq
  obtain ⟨W0, hW0⟩ : ∃ V, (w.alloc (.cells #[.string qn, .string qd] 23)).alloc (.cells #[.string ⟨#[]⟩, .string ⟨#[]⟩] 23) = V := ⟨_, rfl⟩
  have B0 := Lib.hid (show Below w.heap.size w W0 from by rw [← hW0]; exact ((Below.refl w.heap.size w).alloc (Nat.le_refl _) _).alloc (by simp <;> omega) _)
  have Kr := Lib.hid (show W0.heap[w.heap.size]? = some (.cells #[.string qn, .string qd] 23) from by rw [← hW0]; exact (Below.heap_alloc _ _ _ (by simp <;> omega)).trans (heap_new' _ _ _ rfl))
  have Ko := Lib.hid (show W0.heap[w.heap.size + 1]? = some (.cells #[.string ⟨#[]⟩, .string ⟨#[]⟩] 23) from by rw [← hW0]; exact heap_new' _ _ _ (by simp))
  go_enter Tryz.func42, Tryz.ntmps42
  go_upto_region 1 with fail
  obtain ⟨V, hV⟩ : ∃ V, W0 = V := ⟨_, rfl⟩
  rw [hV] at B0 ⊢
  rw [hV] at Kr
  rw [hV] at Ko
  clear hV
  obtain ⟨r1, r2, _, _⟩ := box2 Kr.out
  have KBB := Lib.hid (fun w' (h : Below V.heap.size V w') => show w'.cell? ⟨w.heap.size, 0, none⟩ = some (.string qn) ∧ w'.cell? ⟨w.heap.size, 1, none⟩ = some (.string qd) from ⟨(h.cell (p := ⟨w.heap.size, 0, none⟩) (block_lt_of_cell r1)).trans r1, (h.cell (p := ⟨w.heap.size, 1, none⟩) (block_lt_of_cell r2)).trans r2⟩)
  have hB : Below V.heap.size V V.drew := (Below.refl _ _).drew
  clear r1 r2
  go_cut [3, 4] (fun sp se wx => HeldR V nx ny 0 sp se wx)
  case first =>
    as_aux_lemma =>
      go_region_held3 (fun w' => w'.cell? ⟨w.heap.size, 0, none⟩ = some (.string qn) ∧ w'.cell? ⟨w.heap.size, 1, none⟩ = some (.string qd))
        (first
          | exact KBB.out _ hB
          | exact KBB.out _ (hB.alloc hB.size _)
          | exact KBB.out _ ((hB.setCell (p := ⟨_, 0, none⟩) (by first | exact Nat.le_refl _ | exact hsi) _).setCell (p := ⟨_, 1, none⟩) (by first | exact Nat.le_refl _ | exact hsi) _)
          | go_keep)
        (first
          | (go_at_call 41; (with_reducible refine (is_any _ _ _).mono ?_); rintro e wi ⟨rfl, hb⟩; (try have az := bl_up (heap_new' V.drew (.cells #[.string ⟨#[]⟩, .string ⟨#[]⟩] 23) V.heap.size rfl) hb); replace hB := (by first | exact hB.trans (hb.mono hB.size) | exact (hB.alloc hB.size _).trans (hb.mono (hB.alloc hB.size _).size)); have hsi := hB.size)
          | (go_at_call 40; (with_reducible refine (CS.out _ (by first | exact below1 B0.out hB | exact below1 B0.out (hB.alloc hB.size _))).mono ?_); rintro e wd ⟨rfl, hb⟩; (try replace az := bl_up az hb); (try have az := bl_up (heap_new' wi (.cells #[.string ⟨#[]⟩, .string ⟨#[]⟩] 23) wi.heap.size rfl) hb); (try (have hz := box2 az; obtain ⟨az1, az2, az3, az4⟩ := hz)); replace hB := (by first | exact hB.trans (hb.mono hB.size) | exact (hB.alloc hB.size _).trans (hb.mono (hB.alloc hB.size _).size))))
      all_goals
        go_wp2_with fail
        go_meet
        exact ⟨_, rfl, rfl, (by first | exact hB.size | exact hsi | exact Nat.le_refl _), (by first | exact heap_new' _ _ _ rfl | exact put2_heap az _ _), (by first | exact hB.alloc hB.size _ | exact (hB.setCell (p := ⟨_, 0, none⟩) (by first | exact Nat.le_refl _ | exact hsi) _).setCell (p := ⟨_, 1, none⟩) (by first | exact Nat.le_refl _ | exact hsi) _)⟩
  case rest =>
    obtain ⟨gd, rfl, rfl, hge, hgc, hb⟩ := hcut
    clear KBB hB
    replace B0 := Lib.hid (below1 B0.out hb)
    replace Kr := Lib.hid (bl_up Kr.out hb)
    replace Ko := Lib.hid (bl_up Ko.out hb)
    have Kd := Lib.hid hgc
    have GEd := Lib.hid hge
    clear hb hgc hge
    obtain ⟨d1, d2, _, _⟩ := box2 Kd.out
    obtain ⟨r1, r2, r3, r4⟩ := box2 Ko.out
    obtain ⟨s1, s2, _, _⟩ := box2 (put2_heap Ko.out (.string nx) (.string ny))
    have HF := Lib.hid (put2_below B0.out (show w.heap.size ≤ w.heap.size + 1 by omega) (.string nx) (.string ny))
    clear Kr Ko Kd GEd
    go_wp2
    refine bodyPost_ret (v := .agg #[.string nx, .string ny]) (by simp [results, Tryz.results42, go_sem, s1, s2]) rfl ?_
    exact ⟨rfl, HF.out⟩

set_option maxRecDepth 100000 in
set_option maxHeartbeats 8000000 in
theorem grid_walk (x0 x1 x2 x3 : Int) (b0 : (-9223372036854775808 ≤ x0 ∧ x0 ≤ 9223372036854775807)) (b1 : (-9223372036854775808 ≤ x1 ∧ x1 ≤ 9223372036854775807)) (b2 : (-9223372036854775808 ≤ x2 ∧ x2 ≤ 9223372036854775807)) (b3 : (-9223372036854775808 ≤ x3 ∧ x3 ≤ 9223372036854775807)) (c : Int) (hc0 : -9223372036854775808 ≤ c) (hc1 : c ≤ 9223372036854775807) (w : World) (ht : Tb w) :
    Calls Tryz.prog 8 #[.agg #[.int .i64 x0, .int .i64 x1, .int .i64 x2, .int .i64 x3], .int .i64 c] w (BOut w true) := by
  have HT := Lib.hid (fun W (hW : Below w.heap.size w W) => ht.below hW)
  have CS := Lib.hid (fun W (hW : Below w.heap.size w W) => sane_any W (HT.out W hW))
  clear ht
  have CL := Lib.hid (long_any x0 x1 x2 x3 b0 b1 b2 b3)
  have CP := Lib.hid (lpick_any c hc0 hc1 31 (by decide) (by decide) 31 rfl)
  clear b0 b1 b2 b3 hc0 hc1
  have B0 := Lib.hid ((Below.refl w.heap.size w).alloc (Nat.le_refl _) (.cells #[.int .i64 x0, .int .i64 x1, .int .i64 x2, .int .i64 x3] 24))
  have Kx := Lib.hid (heap_new' w (.cells #[.int .i64 x0, .int .i64 x1, .int .i64 x2, .int .i64 x3] 24) w.heap.size rfl)
  go_enter Tryz.func8, Tryz.ntmps8
  go_wp2_with fail
  (with_reducible refine (CS.out _ B0.out).mono ?_)
  rintro e w1 ⟨rfl, hb⟩
  replace B0 := Lib.hid (below1 B0.out hb)
  replace Kx := Lib.hid (bl_up Kx.out hb)
  clear hb
  obtain ⟨c0, c1, c2, c3⟩ := box4g Kx.out
  go_wp2_with fail
  (with_reducible refine (CL.out _).mono ?_)
  rintro e w2 ⟨q, hqn, hqd, rfl, hb⟩
  replace B0 := Lib.hid (below1 B0.out hb)
  replace Kx := Lib.hid (bl_up Kx.out hb)
  clear hb
  clear c0 c1 c2 c3 Kx CL CS
  have HQN := Lib.hid hqn
  have HBQ := Lib.hid (show BQ q from ⟨Nat.lt_trans hqn (by decide +kernel : (10 : Nat) ^ 101 < 10 ^ 200), by show ((q.den : Int)).natAbs < _; rw [Int.natAbs_natCast]; exact Nat.lt_trans hqd (by decide +kernel : (10 : Nat) ^ 101 < 10 ^ 200)⟩)
  clear hqn hqd
  obtain ⟨rn, hu⟩ : ∃ u, str q.num = u := ⟨_, rfl⟩
  obtain ⟨rd, hv⟩ : ∃ v, str (q.den : Int) = v := ⟨_, rfl⟩
  rw [hu, hv]
  have HU := Lib.hid hu; have HV := Lib.hid hv
  clear hu hv
  have hA := (Below.refl w2.heap.size w2).alloc (Nat.le_refl _) (.cells #[.string rn, .string rd] 23)
  replace B0 := Lib.hid (below1 B0.out hA)
  have Kr := Lib.hid (heap_new' w2 (.cells #[.string rn, .string rd] 23) w2.heap.size rfl)
  clear hA
  go_wp2_with fail
  (with_reducible refine (CP.out _).mono ?_)
  rintro e wq ⟨n, hn, rfl, rfl⟩
  clear CP
  have hnI : (n : Int) < 31 := by omega
  have HN := Lib.hid (show n ≤ 30 by omega)
  clear hn
  go_wp2
  go_loop [7, 8] (fun s iv => ∃ k : Nat, k ≤ n ∧ iv = .int .i64 k ∧ s = .string (pwS k)) (fun _ iv => n - (intOf iv).toNat)
  case atStart => exact ⟨0, Nat.zero_le _, rfl, by rw [show pwS 0 = ⟨#[49]⟩ from by decide +kernel]⟩
  case round =>
    obtain ⟨k, hk, rfl, rfl⟩ := hrel
    have hap := pw_next k
    have hsz := pwS_small (show k ≤ 200 by omega)
    by_cases hkn : k < n
    · obtain ⟨s1, hs1⟩ : ∃ s1, pwS k = s1 := ⟨_, rfl⟩
      rw [hs1] at hap hsz ⊢
      have H2 := Lib.hid hap
      clear hs1
      go_wp2
      go_round
      case rel => exact ⟨k + 1, by omega, by go_num, rfl⟩
      case measure => simp [intOf]; omega
    ·
      obtain rfl : k = n := by omega
      clear hap hkn hk hsz
      have C1 := Lib.hid (gc_dn HT.out HBQ.out (gr_dn HBQ.out HQN.out HN.out))
      have C2 := Lib.hid (gc_up HT.out HBQ.out (gr_up HBQ.out HQN.out HN.out))
      have C3 := Lib.hid (fun W (hW : Below w.heap.size w W) => minus_any q HBQ.out W (fun V hV => HT.out V (below1 hW hV)))
      have QN2 := Lib.hid (show (-q).num.natAbs < 10 ^ 101 by rw [Rat.neg_num, Int.natAbs_neg]; exact HQN.out)
      have C4 := Lib.hid (gc_dn HT.out (neg_bq HBQ.out) (gr_dn (neg_bq HBQ.out) QN2.out HN.out))
      have C5 := Lib.hid (fun W (hW : Below w.heap.size w W) => minus_any (dnQ (-q) (tenZ k)) (gr_dnb QN2.out HN.out) W (fun V hV => HT.out V (below1 hW hV)))
      rw [dn_neg_q] at C5
      have C6 := Lib.hid (gc_cmp HT.out (gr_dnb HQN.out HN.out) HBQ.out)
      have C7 := Lib.hid (gc_cmp HT.out (gr_upb HQN.out HN.out) HBQ.out)
      have C8 := Lib.hid (gc_dn HT.out (gr_upb HQN.out HN.out) (gr_dn2 HQN.out HN.out))
      have C9 := Lib.hid (gc_up HT.out (gr_dnb HQN.out HN.out) (gr_up2 HQN.out HN.out))
      have C10 := Lib.hid (gc_mul HT.out (gr_dnb HQN.out HN.out) HN.out (gr_mul HQN.out HN.out))
      rw [gr_one] at C10
      have C11 := Lib.hid (gc_sub HT.out (gr_upb HQN.out HN.out) (gr_dnb HQN.out HN.out))
      have GX := gr_x HQN.out HN.out
      have e11 : oE (sub2 (upQ q (tenZ k)) (dnQ q (tenZ k))) = 0 := by rw [gr_width HQN.out HN.out]; rfl
      rw [e11] at C11
      have TT0 := Lib.hid (fun h : k = 0 => show pwS k = ⟨#[49]⟩ from by rw [h]; decide +kernel)
      have hsz := pwS_small (show k ≤ 200 by have := HN.out; omega)
      rw [HU.out, HV.out] at C1 C2 C3 C6 C7
      generalize oN (sub2 (upQ q (tenZ k)) (dnQ q (tenZ k))) = un at *
      generalize oD (sub2 (upQ q (tenZ k)) (dnQ q (tenZ k))) = ud at *
      generalize cmpQ (dnQ q (tenZ k)) q = za at *
      generalize cmpQ (upQ q (tenZ k)) q = zb at *
      generalize str (Rat.divInt (dnk q (tenZ k)) 1).num = kn at *
      generalize str (dnQ q (tenZ k)).num = an at *
      generalize str ((dnQ q (tenZ k)).den : Int) = ad at *
      generalize str (upQ q (tenZ k)).num = bn at *
      generalize str ((upQ q (tenZ k)).den : Int) = bd at *
      generalize str (dnQ (-q) (tenZ k)).num = cn at *
      generalize str ((dnQ (-q) (tenZ k)).den : Int) = cd at *
      generalize str (-q).num = mn at *
      generalize str ((-q).den : Int) = md at *
      obtain ⟨tt, htt⟩ : ∃ x, pwS k = x := ⟨_, rfl⟩
      rw [htt] at C10 GX TT0 hsz ⊢
      unfold GrX at GX
      have HX := Lib.hid GX
      have HSZ := Lib.hid hsz
      clear GX e11 QN2 HU HV HQN HBQ HT htt hsz
      obtain ⟨r_1, r_2, _, _⟩ := box2 Kr.out
      go_wp2_with fail
      (with_reducible refine (C1.out _ B0.out).mono ?_)
      rintro e w3 ⟨rfl, hb⟩
      replace B0 := Lib.hid (below1 B0.out hb)
      replace Kr := Lib.hid (bl_up Kr.out hb)
      clear hb
      clear r_1 r_2
      have hA := (Below.refl w3.heap.size w3).alloc (Nat.le_refl _) (.cells #[.string an, .string ad] 23)
      replace B0 := Lib.hid (below1 B0.out hA)
      have Ka := Lib.hid (heap_new' w3 (.cells #[.string an, .string ad] 23) w3.heap.size rfl)
      replace Kr := Lib.hid (bl_up Kr.out hA)
      clear hA
      obtain ⟨r_1, r_2, _, _⟩ := box2 Kr.out
      go_wp2_with fail
      (with_reducible refine (C2.out _ B0.out).mono ?_)
      rintro e w4 ⟨rfl, hb⟩
      replace B0 := Lib.hid (below1 B0.out hb)
      replace Kr := Lib.hid (bl_up Kr.out hb)
      replace Ka := Lib.hid (bl_up Ka.out hb)
      clear hb
      clear r_1 r_2
      have hA := (Below.refl w4.heap.size w4).alloc (Nat.le_refl _) (.cells #[.string bn, .string bd] 23)
      replace B0 := Lib.hid (below1 B0.out hA)
      have Kb := Lib.hid (heap_new' w4 (.cells #[.string bn, .string bd] 23) w4.heap.size rfl)
      replace Kr := Lib.hid (bl_up Kr.out hA)
      replace Ka := Lib.hid (bl_up Ka.out hA)
      clear hA
      obtain ⟨r_1, r_2, _, _⟩ := box2 Kr.out
      go_wp2_with fail
      (with_reducible refine (C3.out _ B0.out).mono ?_)
      rintro e w5 ⟨rfl, hb⟩
      replace B0 := Lib.hid (below1 B0.out hb)
      replace Kr := Lib.hid (bl_up Kr.out hb)
      replace Ka := Lib.hid (bl_up Ka.out hb)
      replace Kb := Lib.hid (bl_up Kb.out hb)
      clear hb
      clear r_1 r_2
      go_wp2_with fail
      (with_reducible refine (C4.out _ B0.out).mono ?_)
      rintro e w6 ⟨rfl, hb⟩
      replace B0 := Lib.hid (below1 B0.out hb)
      replace Kr := Lib.hid (bl_up Kr.out hb)
      replace Ka := Lib.hid (bl_up Ka.out hb)
      replace Kb := Lib.hid (bl_up Kb.out hb)
      clear hb
      have hA := (Below.refl w6.heap.size w6).alloc (Nat.le_refl _) (.cells #[.string cn, .string cd] 23)
      replace B0 := Lib.hid (below1 B0.out hA)
      have Kc := Lib.hid (heap_new' w6 (.cells #[.string cn, .string cd] 23) w6.heap.size rfl)
      replace Kr := Lib.hid (bl_up Kr.out hA)
      replace Ka := Lib.hid (bl_up Ka.out hA)
      replace Kb := Lib.hid (bl_up Kb.out hA)
      clear hA
      go_upto_region 12 with fail
      obtain ⟨X, hX⟩ : ∃ X, w6.alloc (.cells #[.string cn, .string cd] 23) = X := ⟨_, rfl⟩
      rw [hX] at B0 ⊢
      rw [hX] at Kr
      rw [hX] at Ka
      rw [hX] at Kb
      rw [hX] at Kc
      clear hX
      obtain ⟨r1, r2, _, _⟩ := box2 Kr.out
      obtain ⟨a1, a2, _, _⟩ := box2 Ka.out
      obtain ⟨b1, b2, _, _⟩ := box2 Kb.out
      obtain ⟨c1, c2, _, _⟩ := box2 Kc.out
      have KS := Lib.hid (fun w' (h : Below X.heap.size X w') => show w'.cell? ⟨w2.heap.size, 0, none⟩ = some (.string rn) ∧ w'.cell? ⟨w2.heap.size, 1, none⟩ = some (.string rd) ∧ w'.cell? ⟨w3.heap.size, 0, none⟩ = some (.string an) ∧ w'.cell? ⟨w3.heap.size, 1, none⟩ = some (.string ad) ∧ w'.cell? ⟨w4.heap.size, 0, none⟩ = some (.string bn) ∧ w'.cell? ⟨w4.heap.size, 1, none⟩ = some (.string bd) ∧ w'.cell? ⟨w6.heap.size, 0, none⟩ = some (.string cn) ∧ w'.cell? ⟨w6.heap.size, 1, none⟩ = some (.string cd) from ⟨(h.cell (p := ⟨_, 0, none⟩) (block_lt_of_cell r1)).trans r1, (h.cell (p := ⟨_, 1, none⟩) (block_lt_of_cell r2)).trans r2, (h.cell (p := ⟨_, 0, none⟩) (block_lt_of_cell a1)).trans a1, (h.cell (p := ⟨_, 1, none⟩) (block_lt_of_cell a2)).trans a2, (h.cell (p := ⟨_, 0, none⟩) (block_lt_of_cell b1)).trans b1, (h.cell (p := ⟨_, 1, none⟩) (block_lt_of_cell b2)).trans b2, (h.cell (p := ⟨_, 0, none⟩) (block_lt_of_cell c1)).trans c1, (h.cell (p := ⟨_, 1, none⟩) (block_lt_of_cell c2)).trans c2⟩)
      have hB : Below X.heap.size X X.drew := (Below.refl _ _).drew
      clear r1 r2 a1 a2 b1 b2 c1 c2
      go_cut [83] (fun bv wx => bv = .bool false ∧ Below X.heap.size X wx)
      case first =>
        clear C1 C2 C3 C4 C8 C9 C10 C11 TT0 HSZ HN hnI
        rcases HX.out with ⟨rfl, rfl, _, _⟩ | ⟨rfl, rfl, _, _⟩
        all_goals
          as_aux_lemma =>
            go_region_held3 (fun w' => w'.cell? ⟨w2.heap.size, 0, none⟩ = some (.string rn) ∧ w'.cell? ⟨w2.heap.size, 1, none⟩ = some (.string rd) ∧ w'.cell? ⟨w3.heap.size, 0, none⟩ = some (.string an) ∧ w'.cell? ⟨w3.heap.size, 1, none⟩ = some (.string ad) ∧ w'.cell? ⟨w4.heap.size, 0, none⟩ = some (.string bn) ∧ w'.cell? ⟨w4.heap.size, 1, none⟩ = some (.string bd) ∧ w'.cell? ⟨w6.heap.size, 0, none⟩ = some (.string cn) ∧ w'.cell? ⟨w6.heap.size, 1, none⟩ = some (.string cd))
              (first
                | exact KS.out _ hB
                | go_keep)
              (first
                | (go_at_call 42; (with_reducible refine (C5.out _ (below1 B0.out hB)).mono ?_); rintro e wi ⟨rfl, hb⟩; replace hB := hB.trans (hb.mono hB.size))
                | (go_at_call 20; (with_reducible refine (C6.out _ (below1 B0.out hB)).mono ?_); rintro e wi ⟨rfl, hb⟩; replace hB := hB.trans (hb.mono hB.size))
                | (go_at_call 20; (with_reducible refine (C7.out _ (below1 B0.out hB)).mono ?_); rintro e wi ⟨rfl, hb⟩; replace hB := hB.trans (hb.mono hB.size)))
            all_goals
              go_wp2_with fail
              go_meet
              exact ⟨rfl, hB⟩
      case rest =>
        obtain ⟨rfl, hb⟩ := hcut
        clear hB KS C1 C2 C3 C4 C5
        replace B0 := Lib.hid (below1 B0.out hb)
        replace Kr := Lib.hid (bl_up Kr.out hb)
        replace Ka := Lib.hid (bl_up Ka.out hb)
        replace Kb := Lib.hid (bl_up Kb.out hb)
        replace Kc := Lib.hid (bl_up Kc.out hb)
        clear hb Kc
        obtain ⟨b_1, b_2, _, _⟩ := box2 Kb.out
        go_wp2_with fail
        (with_reducible refine (C8.out _ B0.out).mono ?_)
        rintro e w7 ⟨rfl, hb⟩
        replace B0 := Lib.hid (below1 B0.out hb)
        replace Kr := Lib.hid (bl_up Kr.out hb)
        replace Ka := Lib.hid (bl_up Ka.out hb)
        replace Kb := Lib.hid (bl_up Kb.out hb)
        clear hb
        clear b_1 b_2
        have hA := (Below.refl w7.heap.size w7).alloc (Nat.le_refl _) (.cells #[.string bn, .string bd] 23)
        replace B0 := Lib.hid (below1 B0.out hA)
        have Kg := Lib.hid (heap_new' w7 (.cells #[.string bn, .string bd] 23) w7.heap.size rfl)
        replace Kr := Lib.hid (bl_up Kr.out hA)
        replace Ka := Lib.hid (bl_up Ka.out hA)
        replace Kb := Lib.hid (bl_up Kb.out hA)
        clear hA
        obtain ⟨a_1, a_2, _, _⟩ := box2 Ka.out
        go_wp2_with fail
        (with_reducible refine (C9.out _ B0.out).mono ?_)
        rintro e w8 ⟨rfl, hb⟩
        replace B0 := Lib.hid (below1 B0.out hb)
        replace Kr := Lib.hid (bl_up Kr.out hb)
        replace Ka := Lib.hid (bl_up Ka.out hb)
        replace Kb := Lib.hid (bl_up Kb.out hb)
        replace Kg := Lib.hid (bl_up Kg.out hb)
        clear hb
        clear a_1 a_2
        have hA := (Below.refl w8.heap.size w8).alloc (Nat.le_refl _) (.cells #[.string an, .string ad] 23)
        replace B0 := Lib.hid (below1 B0.out hA)
        have Kh := Lib.hid (heap_new' w8 (.cells #[.string an, .string ad] 23) w8.heap.size rfl)
        replace Kr := Lib.hid (bl_up Kr.out hA)
        replace Ka := Lib.hid (bl_up Ka.out hA)
        replace Kb := Lib.hid (bl_up Kb.out hA)
        replace Kg := Lib.hid (bl_up Kg.out hA)
        clear hA
        clear C8 C9
        have htz : tt.size ≤ 300 := HSZ.out
        go_upto_region 16 with fail
        obtain ⟨V, hV⟩ : ∃ V, w8.alloc (.cells #[.string an, .string ad] 23) = V := ⟨_, rfl⟩
        rw [hV] at B0 ⊢
        rw [hV] at Kr
        rw [hV] at Ka
        rw [hV] at Kb
        rw [hV] at Kg
        rw [hV] at Kh
        clear hV
        obtain ⟨a1, a2, _, _⟩ := box2 Ka.out
        have KBB := Lib.hid (fun w' (h : Below V.heap.size V w') => show w'.cell? ⟨w3.heap.size, 0, none⟩ = some (.string an) ∧ w'.cell? ⟨w3.heap.size, 1, none⟩ = some (.string ad) from ⟨(h.cell (p := ⟨w3.heap.size, 0, none⟩) (block_lt_of_cell a1)).trans a1, (h.cell (p := ⟨w3.heap.size, 1, none⟩) (block_lt_of_cell a2)).trans a2⟩)
        have hB : Below V.heap.size V V.drew := (Below.refl _ _).drew
        clear a1 a2
        go_cut [19, 20] (fun sp se wx => HeldR V kn ⟨#[49]⟩ 0 sp se wx)
        case first =>
          as_aux_lemma =>
            go_region_held3 (fun w' => w'.cell? ⟨w3.heap.size, 0, none⟩ = some (.string an) ∧ w'.cell? ⟨w3.heap.size, 1, none⟩ = some (.string ad))
              (first
                | exact KBB.out _ hB
                | exact KBB.out _ (hB.alloc hB.size _)
                | exact KBB.out _ ((hB.setCell (p := ⟨_, 0, none⟩) (by first | exact Nat.le_refl _ | exact hsi) _).setCell (p := ⟨_, 1, none⟩) (by first | exact Nat.le_refl _ | exact hsi) _)
                | go_keep)
              (first
                | (go_at_call 41; (with_reducible refine (is_any _ _ _).mono ?_); rintro e wi ⟨rfl, hb⟩; (try have az := bl_up (heap_new' V.drew (.cells #[.string ⟨#[]⟩, .string ⟨#[]⟩] 23) V.heap.size rfl) hb); replace hB := (by first | exact hB.trans (hb.mono hB.size) | exact (hB.alloc hB.size _).trans (hb.mono (hB.alloc hB.size _).size)); have hsi := hB.size)
                | (go_at_call 39; (with_reducible refine (C10.out _ (by first | exact below1 B0.out hB | exact below1 B0.out (hB.alloc hB.size _))).mono ?_); rintro e wd ⟨rfl, hb⟩; (try replace az := bl_up az hb); (try have az := bl_up (heap_new' wi (.cells #[.string ⟨#[]⟩, .string ⟨#[]⟩] 23) wi.heap.size rfl) hb); (try (have hz := box2 az; obtain ⟨az1, az2, az3, az4⟩ := hz)); replace hB := (by first | exact hB.trans (hb.mono hB.size) | exact (hB.alloc hB.size _).trans (hb.mono (hB.alloc hB.size _).size))))
            all_goals
              go_wp2_with fail
              go_meet
              exact ⟨_, rfl, rfl, (by first | exact hB.size | exact hsi | exact Nat.le_refl _), (by first | exact heap_new' _ _ _ rfl | exact put2_heap az _ _), (by first | exact hB.alloc hB.size _ | exact (hB.setCell (p := ⟨_, 0, none⟩) (by first | exact Nat.le_refl _ | exact hsi) _).setCell (p := ⟨_, 1, none⟩) (by first | exact Nat.le_refl _ | exact hsi) _)⟩
        case rest =>
          obtain ⟨gn, rfl, rfl, hge, hgc, hb⟩ := hcut
          clear KBB hB
          replace B0 := Lib.hid (below1 B0.out hb)
          replace Kr := Lib.hid (bl_up Kr.out hb)
          replace Ka := Lib.hid (bl_up Ka.out hb)
          replace Kb := Lib.hid (bl_up Kb.out hb)
          replace Kg := Lib.hid (bl_up Kg.out hb)
          replace Kh := Lib.hid (bl_up Kh.out hb)
          have Kn := Lib.hid hgc
          have GEn := Lib.hid hge
          clear hb hgc hge
          clear C10 GEn
          obtain ⟨b_1, b_2, _, _⟩ := box2 Kb.out
          obtain ⟨a_1, a_2, _, _⟩ := box2 Ka.out
          go_wp2_with fail
          (with_reducible refine (C11.out _ B0.out).mono ?_)
          rintro e w9 ⟨rfl, hb⟩
          replace B0 := Lib.hid (below1 B0.out hb)
          replace Kr := Lib.hid (bl_up Kr.out hb)
          replace Ka := Lib.hid (bl_up Ka.out hb)
          replace Kb := Lib.hid (bl_up Kb.out hb)
          replace Kg := Lib.hid (bl_up Kg.out hb)
          replace Kh := Lib.hid (bl_up Kh.out hb)
          replace Kn := Lib.hid (bl_up Kn.out hb)
          clear hb
          clear b_1 b_2 a_1 a_2
          have hA := (Below.refl w9.heap.size w9).alloc (Nat.le_refl _) (.cells #[.string un, .string ud] 23)
          replace B0 := Lib.hid (below1 B0.out hA)
          have Ku := Lib.hid (heap_new' w9 (.cells #[.string un, .string ud] 23) w9.heap.size rfl)
          replace Kr := Lib.hid (bl_up Kr.out hA)
          replace Ka := Lib.hid (bl_up Ka.out hA)
          replace Kb := Lib.hid (bl_up Kb.out hA)
          replace Kg := Lib.hid (bl_up Kg.out hA)
          replace Kh := Lib.hid (bl_up Kh.out hA)
          replace Kn := Lib.hid (bl_up Kn.out hA)
          clear hA
          obtain ⟨a_1, a_2, _, _⟩ := box2 Ka.out
          obtain ⟨r_1, r_2, _, _⟩ := box2 Kr.out
          go_wp2_with fail
          (with_reducible refine (C6.out _ B0.out).mono ?_)
          rintro e w10 ⟨rfl, hb⟩
          replace B0 := Lib.hid (below1 B0.out hb)
          replace Kr := Lib.hid (bl_up Kr.out hb)
          replace Ka := Lib.hid (bl_up Ka.out hb)
          replace Kb := Lib.hid (bl_up Kb.out hb)
          replace Kg := Lib.hid (bl_up Kg.out hb)
          replace Kh := Lib.hid (bl_up Kh.out hb)
          replace Kn := Lib.hid (bl_up Kn.out hb)
          replace Ku := Lib.hid (bl_up Ku.out hb)
          clear hb
          clear a_1 a_2 r_1 r_2
          clear C6 C11
          have J0 : (k = 0 ∧ ((k : Int) == 0) = true) ∨ ((k : Int) == 0) = false := by
            rcases Nat.eq_zero_or_pos k with h | h
            · exact .inl ⟨h, by rw [h]; rfl⟩
            · exact .inr (by rw [beq_eq_false_iff_ne]; omega)
          rcases HX.out with ⟨rfl, rfl, rfl, rfl⟩ | ⟨rfl, rfl, rfl, rfl⟩
          ·
            rcases J0 with ⟨hk0, j0⟩ | j0
            ·
              as_aux_lemma =>
                have ht1 := TT0.out hk0
                subst ht1
                have HK0 := Lib.hid hk0
                clear hk0 TT0
                go_wp2_with fail
                (with_reducible refine (is_any _ _ _).mono ?_)
                rintro e w11 ⟨rfl, hb⟩
                replace B0 := Lib.hid (below1 B0.out hb)
                replace Kr := Lib.hid (bl_up Kr.out hb)
                replace Ka := Lib.hid (bl_up Ka.out hb)
                replace Kb := Lib.hid (bl_up Kb.out hb)
                replace Kg := Lib.hid (bl_up Kg.out hb)
                replace Kh := Lib.hid (bl_up Kh.out hb)
                replace Kn := Lib.hid (bl_up Kn.out hb)
                replace Ku := Lib.hid (bl_up Ku.out hb)
                clear hb
                have LTr := Lib.hid (Array.getElem?_eq_some_iff.1 Kr.out).1
                have LTa := Lib.hid (Array.getElem?_eq_some_iff.1 Ka.out).1
                have LTb := Lib.hid (Array.getElem?_eq_some_iff.1 Kb.out).1
                have LTg := Lib.hid (Array.getElem?_eq_some_iff.1 Kg.out).1
                have LTh := Lib.hid (Array.getElem?_eq_some_iff.1 Kh.out).1
                have LTn := Lib.hid (Array.getElem?_eq_some_iff.1 Kn.out).1
                have LTu := Lib.hid (Array.getElem?_eq_some_iff.1 Ku.out).1
                have hWs := Lib.hid B0.out.size
                have hA := (Below.refl w11.heap.size w11).alloc (Nat.le_refl _) (.cells #[.string ⟨#[49]⟩, .string ⟨#[49]⟩] 23)
                replace B0 := Lib.hid (below1 B0.out hA)
                have Kt := Lib.hid (heap_new' w11 (.cells #[.string ⟨#[49]⟩, .string ⟨#[49]⟩] 23) w11.heap.size rfl)
                replace Kr := Lib.hid (bl_up Kr.out hA)
                replace Ka := Lib.hid (bl_up Ka.out hA)
                replace Kb := Lib.hid (bl_up Kb.out hA)
                replace Kg := Lib.hid (bl_up Kg.out hA)
                replace Kh := Lib.hid (bl_up Kh.out hA)
                replace Kn := Lib.hid (bl_up Kn.out hA)
                replace Ku := Lib.hid (bl_up Ku.out hA)
                clear hA
                go_wp2_with fail
                (with_reducible refine (is_any _ _ _).mono ?_)
                rintro e w12 ⟨rfl, hb⟩
                replace B0 := Lib.hid (below1 B0.out hb)
                replace Kr := Lib.hid (bl_up Kr.out hb)
                replace Ka := Lib.hid (bl_up Ka.out hb)
                replace Kb := Lib.hid (bl_up Kb.out hb)
                replace Kg := Lib.hid (bl_up Kg.out hb)
                replace Kh := Lib.hid (bl_up Kh.out hb)
                replace Kn := Lib.hid (bl_up Kn.out hb)
                replace Ku := Lib.hid (bl_up Ku.out hb)
                replace Kt := Lib.hid (bl_up Kt.out hb)
                clear hb
                obtain ⟨y1, y2, y3, y4⟩ := box2 Kt.out
                have hZ1 : ∃ V, (w12.setCell ⟨w11.heap.size, 0, none⟩ (.string ⟨#[49]⟩)).setCell ⟨w11.heap.size, 1, none⟩ (.string ⟨#[49]⟩) = V := ⟨_, rfl⟩
                obtain ⟨Z1, hZ1⟩ := hZ1
                replace B0 := Lib.hid (show Below w.heap.size w Z1 from by rw [← hZ1]; exact put2_below B0.out hWs.out _ _)
                replace Kr := Lib.hid (show Z1.heap[w2.heap.size]? = some (.cells #[.string rn, .string rd] 23) from by rw [← hZ1]; exact set_far (set_far Kr.out (Nat.ne_of_lt LTr.out) _) (Nat.ne_of_lt LTr.out) _)
                replace Ka := Lib.hid (show Z1.heap[w3.heap.size]? = some (.cells #[.string an, .string ad] 23) from by rw [← hZ1]; exact set_far (set_far Ka.out (Nat.ne_of_lt LTa.out) _) (Nat.ne_of_lt LTa.out) _)
                replace Kb := Lib.hid (show Z1.heap[w4.heap.size]? = some (.cells #[.string bn, .string bd] 23) from by rw [← hZ1]; exact set_far (set_far Kb.out (Nat.ne_of_lt LTb.out) _) (Nat.ne_of_lt LTb.out) _)
                replace Kg := Lib.hid (show Z1.heap[w7.heap.size]? = some (.cells #[.string bn, .string bd] 23) from by rw [← hZ1]; exact set_far (set_far Kg.out (Nat.ne_of_lt LTg.out) _) (Nat.ne_of_lt LTg.out) _)
                replace Kh := Lib.hid (show Z1.heap[w8.heap.size]? = some (.cells #[.string an, .string ad] 23) from by rw [← hZ1]; exact set_far (set_far Kh.out (Nat.ne_of_lt LTh.out) _) (Nat.ne_of_lt LTh.out) _)
                replace Kn := Lib.hid (show Z1.heap[gn]? = some (.cells #[.string kn, .string ⟨#[49]⟩] 23) from by rw [← hZ1]; exact set_far (set_far Kn.out (Nat.ne_of_lt LTn.out) _) (Nat.ne_of_lt LTn.out) _)
                replace Ku := Lib.hid (show Z1.heap[w9.heap.size]? = some (.cells #[.string ⟨#[48]⟩, .string ⟨#[49]⟩] 23) from by rw [← hZ1]; exact set_far (set_far Ku.out (Nat.ne_of_lt LTu.out) _) (Nat.ne_of_lt LTu.out) _)
                replace Kt := Lib.hid (show Z1.heap[w11.heap.size]? = some (.cells #[.string ⟨#[49]⟩, .string ⟨#[49]⟩] 23) from by rw [← hZ1]; exact put2_heap Kt.out _ _)
                go_wp2_with fail
                (with_reducible refine (is_any _ _ _).mono ?_)
                rintro e w13 ⟨rfl, hb⟩
                replace B0 := Lib.hid (below1 B0.out hb)
                replace Kr := Lib.hid (bl_up Kr.out hb)
                replace Ka := Lib.hid (bl_up Ka.out hb)
                replace Kb := Lib.hid (bl_up Kb.out hb)
                replace Kg := Lib.hid (bl_up Kg.out hb)
                replace Kh := Lib.hid (bl_up Kh.out hb)
                replace Kn := Lib.hid (bl_up Kn.out hb)
                replace Ku := Lib.hid (bl_up Ku.out hb)
                replace Kt := Lib.hid (bl_up Kt.out hb)
                clear hb
                obtain ⟨y1, y2, y3, y4⟩ := box2 Kt.out
                have hZ2 : ∃ V, (w13.setCell ⟨w11.heap.size, 0, none⟩ (.string ⟨#[48]⟩)).setCell ⟨w11.heap.size, 1, none⟩ (.string ⟨#[49]⟩) = V := ⟨_, rfl⟩
                obtain ⟨Z2, hZ2⟩ := hZ2
                replace B0 := Lib.hid (show Below w.heap.size w Z2 from by rw [← hZ2]; exact put2_below B0.out hWs.out _ _)
                replace Kr := Lib.hid (show Z2.heap[w2.heap.size]? = some (.cells #[.string rn, .string rd] 23) from by rw [← hZ2]; exact set_far (set_far Kr.out (Nat.ne_of_lt LTr.out) _) (Nat.ne_of_lt LTr.out) _)
                replace Ka := Lib.hid (show Z2.heap[w3.heap.size]? = some (.cells #[.string an, .string ad] 23) from by rw [← hZ2]; exact set_far (set_far Ka.out (Nat.ne_of_lt LTa.out) _) (Nat.ne_of_lt LTa.out) _)
                replace Kb := Lib.hid (show Z2.heap[w4.heap.size]? = some (.cells #[.string bn, .string bd] 23) from by rw [← hZ2]; exact set_far (set_far Kb.out (Nat.ne_of_lt LTb.out) _) (Nat.ne_of_lt LTb.out) _)
                replace Kg := Lib.hid (show Z2.heap[w7.heap.size]? = some (.cells #[.string bn, .string bd] 23) from by rw [← hZ2]; exact set_far (set_far Kg.out (Nat.ne_of_lt LTg.out) _) (Nat.ne_of_lt LTg.out) _)
                replace Kh := Lib.hid (show Z2.heap[w8.heap.size]? = some (.cells #[.string an, .string ad] 23) from by rw [← hZ2]; exact set_far (set_far Kh.out (Nat.ne_of_lt LTh.out) _) (Nat.ne_of_lt LTh.out) _)
                replace Kn := Lib.hid (show Z2.heap[gn]? = some (.cells #[.string kn, .string ⟨#[49]⟩] 23) from by rw [← hZ2]; exact set_far (set_far Kn.out (Nat.ne_of_lt LTn.out) _) (Nat.ne_of_lt LTn.out) _)
                replace Ku := Lib.hid (show Z2.heap[w9.heap.size]? = some (.cells #[.string ⟨#[48]⟩, .string ⟨#[49]⟩] 23) from by rw [← hZ2]; exact set_far (set_far Ku.out (Nat.ne_of_lt LTu.out) _) (Nat.ne_of_lt LTu.out) _)
                replace Kt := Lib.hid (show Z2.heap[w11.heap.size]? = some (.cells #[.string ⟨#[48]⟩, .string ⟨#[49]⟩] 23) from by rw [← hZ2]; exact put2_heap Kt.out _ _)
                obtain ⟨g_1, g_2, _, _⟩ := box2 Kg.out
                obtain ⟨b_1, b_2, _, _⟩ := box2 Kb.out
                obtain ⟨h_1, h_2, _, _⟩ := box2 Kh.out
                obtain ⟨a_1, a_2, _, _⟩ := box2 Ka.out
                obtain ⟨n_1, n_2, _, _⟩ := box2 Kn.out
                obtain ⟨u_1, u_2, _, _⟩ := box2 Ku.out
                obtain ⟨t_1, t_2, _, _⟩ := box2 Kt.out
                obtain ⟨r_1, r_2, _, _⟩ := box2 Kr.out
                go_wp2_with fail
                (with_reducible refine (C7.out _ B0.out).mono ?_)
                rintro e w14 ⟨rfl, hb⟩
                replace B0 := Lib.hid (below1 B0.out hb)
                replace Kr := Lib.hid (bl_up Kr.out hb)
                replace Ka := Lib.hid (bl_up Ka.out hb)
                replace Kb := Lib.hid (bl_up Kb.out hb)
                replace Kg := Lib.hid (bl_up Kg.out hb)
                replace Kh := Lib.hid (bl_up Kh.out hb)
                replace Kn := Lib.hid (bl_up Kn.out hb)
                replace Ku := Lib.hid (bl_up Ku.out hb)
                replace Kt := Lib.hid (bl_up Kt.out hb)
                clear hb
                have HF := Lib.hid B0.out
                clear Kr Ka Kb Kg Kh Kn Ku Kt
                go_wp2
                go_ret
                exact ⟨rfl, HF.out⟩
            ·
              as_aux_lemma =>
                clear TT0
                go_wp2_with fail
                (with_reducible refine (is_any _ _ _).mono ?_)
                rintro e w11 ⟨rfl, hb⟩
                replace B0 := Lib.hid (below1 B0.out hb)
                replace Kr := Lib.hid (bl_up Kr.out hb)
                replace Ka := Lib.hid (bl_up Ka.out hb)
                replace Kb := Lib.hid (bl_up Kb.out hb)
                replace Kg := Lib.hid (bl_up Kg.out hb)
                replace Kh := Lib.hid (bl_up Kh.out hb)
                replace Kn := Lib.hid (bl_up Kn.out hb)
                replace Ku := Lib.hid (bl_up Ku.out hb)
                clear hb
                have LTr := Lib.hid (Array.getElem?_eq_some_iff.1 Kr.out).1
                have LTa := Lib.hid (Array.getElem?_eq_some_iff.1 Ka.out).1
                have LTb := Lib.hid (Array.getElem?_eq_some_iff.1 Kb.out).1
                have LTg := Lib.hid (Array.getElem?_eq_some_iff.1 Kg.out).1
                have LTh := Lib.hid (Array.getElem?_eq_some_iff.1 Kh.out).1
                have LTn := Lib.hid (Array.getElem?_eq_some_iff.1 Kn.out).1
                have LTu := Lib.hid (Array.getElem?_eq_some_iff.1 Ku.out).1
                have hWs := Lib.hid B0.out.size
                have hA := (Below.refl w11.heap.size w11).alloc (Nat.le_refl _) (.cells #[.string ⟨#[49]⟩, .string tt] 23)
                replace B0 := Lib.hid (below1 B0.out hA)
                have Kt := Lib.hid (heap_new' w11 (.cells #[.string ⟨#[49]⟩, .string tt] 23) w11.heap.size rfl)
                replace Kr := Lib.hid (bl_up Kr.out hA)
                replace Ka := Lib.hid (bl_up Ka.out hA)
                replace Kb := Lib.hid (bl_up Kb.out hA)
                replace Kg := Lib.hid (bl_up Kg.out hA)
                replace Kh := Lib.hid (bl_up Kh.out hA)
                replace Kn := Lib.hid (bl_up Kn.out hA)
                replace Ku := Lib.hid (bl_up Ku.out hA)
                clear hA
                go_wp2_with fail
                (with_reducible refine (is_any _ _ _).mono ?_)
                rintro e w12 ⟨rfl, hb⟩
                replace B0 := Lib.hid (below1 B0.out hb)
                replace Kr := Lib.hid (bl_up Kr.out hb)
                replace Ka := Lib.hid (bl_up Ka.out hb)
                replace Kb := Lib.hid (bl_up Kb.out hb)
                replace Kg := Lib.hid (bl_up Kg.out hb)
                replace Kh := Lib.hid (bl_up Kh.out hb)
                replace Kn := Lib.hid (bl_up Kn.out hb)
                replace Ku := Lib.hid (bl_up Ku.out hb)
                replace Kt := Lib.hid (bl_up Kt.out hb)
                clear hb
                obtain ⟨y1, y2, y3, y4⟩ := box2 Kt.out
                have hZ1 : ∃ V, (w12.setCell ⟨w11.heap.size, 0, none⟩ (.string ⟨#[48]⟩)).setCell ⟨w11.heap.size, 1, none⟩ (.string ⟨#[49]⟩) = V := ⟨_, rfl⟩
                obtain ⟨Z1, hZ1⟩ := hZ1
                replace B0 := Lib.hid (show Below w.heap.size w Z1 from by rw [← hZ1]; exact put2_below B0.out hWs.out _ _)
                replace Kr := Lib.hid (show Z1.heap[w2.heap.size]? = some (.cells #[.string rn, .string rd] 23) from by rw [← hZ1]; exact set_far (set_far Kr.out (Nat.ne_of_lt LTr.out) _) (Nat.ne_of_lt LTr.out) _)
                replace Ka := Lib.hid (show Z1.heap[w3.heap.size]? = some (.cells #[.string an, .string ad] 23) from by rw [← hZ1]; exact set_far (set_far Ka.out (Nat.ne_of_lt LTa.out) _) (Nat.ne_of_lt LTa.out) _)
                replace Kb := Lib.hid (show Z1.heap[w4.heap.size]? = some (.cells #[.string bn, .string bd] 23) from by rw [← hZ1]; exact set_far (set_far Kb.out (Nat.ne_of_lt LTb.out) _) (Nat.ne_of_lt LTb.out) _)
                replace Kg := Lib.hid (show Z1.heap[w7.heap.size]? = some (.cells #[.string bn, .string bd] 23) from by rw [← hZ1]; exact set_far (set_far Kg.out (Nat.ne_of_lt LTg.out) _) (Nat.ne_of_lt LTg.out) _)
                replace Kh := Lib.hid (show Z1.heap[w8.heap.size]? = some (.cells #[.string an, .string ad] 23) from by rw [← hZ1]; exact set_far (set_far Kh.out (Nat.ne_of_lt LTh.out) _) (Nat.ne_of_lt LTh.out) _)
                replace Kn := Lib.hid (show Z1.heap[gn]? = some (.cells #[.string kn, .string ⟨#[49]⟩] 23) from by rw [← hZ1]; exact set_far (set_far Kn.out (Nat.ne_of_lt LTn.out) _) (Nat.ne_of_lt LTn.out) _)
                replace Ku := Lib.hid (show Z1.heap[w9.heap.size]? = some (.cells #[.string ⟨#[48]⟩, .string ⟨#[49]⟩] 23) from by rw [← hZ1]; exact set_far (set_far Ku.out (Nat.ne_of_lt LTu.out) _) (Nat.ne_of_lt LTu.out) _)
                replace Kt := Lib.hid (show Z1.heap[w11.heap.size]? = some (.cells #[.string ⟨#[48]⟩, .string ⟨#[49]⟩] 23) from by rw [← hZ1]; exact put2_heap Kt.out _ _)
                obtain ⟨g_1, g_2, _, _⟩ := box2 Kg.out
                obtain ⟨b_1, b_2, _, _⟩ := box2 Kb.out
                obtain ⟨h_1, h_2, _, _⟩ := box2 Kh.out
                obtain ⟨a_1, a_2, _, _⟩ := box2 Ka.out
                obtain ⟨n_1, n_2, _, _⟩ := box2 Kn.out
                obtain ⟨u_1, u_2, _, _⟩ := box2 Ku.out
                obtain ⟨t_1, t_2, _, _⟩ := box2 Kt.out
                obtain ⟨r_1, r_2, _, _⟩ := box2 Kr.out
                go_wp2_with fail
                (with_reducible refine (C7.out _ B0.out).mono ?_)
                rintro e w13 ⟨rfl, hb⟩
                replace B0 := Lib.hid (below1 B0.out hb)
                replace Kr := Lib.hid (bl_up Kr.out hb)
                replace Ka := Lib.hid (bl_up Ka.out hb)
                replace Kb := Lib.hid (bl_up Kb.out hb)
                replace Kg := Lib.hid (bl_up Kg.out hb)
                replace Kh := Lib.hid (bl_up Kh.out hb)
                replace Kn := Lib.hid (bl_up Kn.out hb)
                replace Ku := Lib.hid (bl_up Ku.out hb)
                replace Kt := Lib.hid (bl_up Kt.out hb)
                clear hb
                have HF := Lib.hid B0.out
                clear Kr Ka Kb Kg Kh Kn Ku Kt
                go_wp2
                go_ret
                exact ⟨rfl, HF.out⟩
          ·
            rcases J0 with ⟨hk0, j0⟩ | j0
            ·
              as_aux_lemma =>
                have ht1 := TT0.out hk0
                subst ht1
                have HK0 := Lib.hid hk0
                clear hk0 TT0
                go_wp2_with fail
                (with_reducible refine (is_any _ _ _).mono ?_)
                rintro e w11 ⟨rfl, hb⟩
                replace B0 := Lib.hid (below1 B0.out hb)
                replace Kr := Lib.hid (bl_up Kr.out hb)
                replace Ka := Lib.hid (bl_up Ka.out hb)
                replace Kb := Lib.hid (bl_up Kb.out hb)
                replace Kg := Lib.hid (bl_up Kg.out hb)
                replace Kh := Lib.hid (bl_up Kh.out hb)
                replace Kn := Lib.hid (bl_up Kn.out hb)
                replace Ku := Lib.hid (bl_up Ku.out hb)
                clear hb
                have LTr := Lib.hid (Array.getElem?_eq_some_iff.1 Kr.out).1
                have LTa := Lib.hid (Array.getElem?_eq_some_iff.1 Ka.out).1
                have LTb := Lib.hid (Array.getElem?_eq_some_iff.1 Kb.out).1
                have LTg := Lib.hid (Array.getElem?_eq_some_iff.1 Kg.out).1
                have LTh := Lib.hid (Array.getElem?_eq_some_iff.1 Kh.out).1
                have LTn := Lib.hid (Array.getElem?_eq_some_iff.1 Kn.out).1
                have LTu := Lib.hid (Array.getElem?_eq_some_iff.1 Ku.out).1
                have hWs := Lib.hid B0.out.size
                have hA := (Below.refl w11.heap.size w11).alloc (Nat.le_refl _) (.cells #[.string ⟨#[49]⟩, .string ⟨#[49]⟩] 23)
                replace B0 := Lib.hid (below1 B0.out hA)
                have Kt := Lib.hid (heap_new' w11 (.cells #[.string ⟨#[49]⟩, .string ⟨#[49]⟩] 23) w11.heap.size rfl)
                replace Kr := Lib.hid (bl_up Kr.out hA)
                replace Ka := Lib.hid (bl_up Ka.out hA)
                replace Kb := Lib.hid (bl_up Kb.out hA)
                replace Kg := Lib.hid (bl_up Kg.out hA)
                replace Kh := Lib.hid (bl_up Kh.out hA)
                replace Kn := Lib.hid (bl_up Kn.out hA)
                replace Ku := Lib.hid (bl_up Ku.out hA)
                clear hA
                go_wp2_with fail
                (with_reducible refine (is_any _ _ _).mono ?_)
                rintro e w12 ⟨rfl, hb⟩
                replace B0 := Lib.hid (below1 B0.out hb)
                replace Kr := Lib.hid (bl_up Kr.out hb)
                replace Ka := Lib.hid (bl_up Ka.out hb)
                replace Kb := Lib.hid (bl_up Kb.out hb)
                replace Kg := Lib.hid (bl_up Kg.out hb)
                replace Kh := Lib.hid (bl_up Kh.out hb)
                replace Kn := Lib.hid (bl_up Kn.out hb)
                replace Ku := Lib.hid (bl_up Ku.out hb)
                replace Kt := Lib.hid (bl_up Kt.out hb)
                clear hb
                obtain ⟨y1, y2, y3, y4⟩ := box2 Kt.out
                have hZ1 : ∃ V, (w12.setCell ⟨w11.heap.size, 0, none⟩ (.string ⟨#[49]⟩)).setCell ⟨w11.heap.size, 1, none⟩ (.string ⟨#[49]⟩) = V := ⟨_, rfl⟩
                obtain ⟨Z1, hZ1⟩ := hZ1
                replace B0 := Lib.hid (show Below w.heap.size w Z1 from by rw [← hZ1]; exact put2_below B0.out hWs.out _ _)
                replace Kr := Lib.hid (show Z1.heap[w2.heap.size]? = some (.cells #[.string rn, .string rd] 23) from by rw [← hZ1]; exact set_far (set_far Kr.out (Nat.ne_of_lt LTr.out) _) (Nat.ne_of_lt LTr.out) _)
                replace Ka := Lib.hid (show Z1.heap[w3.heap.size]? = some (.cells #[.string an, .string ad] 23) from by rw [← hZ1]; exact set_far (set_far Ka.out (Nat.ne_of_lt LTa.out) _) (Nat.ne_of_lt LTa.out) _)
                replace Kb := Lib.hid (show Z1.heap[w4.heap.size]? = some (.cells #[.string bn, .string bd] 23) from by rw [← hZ1]; exact set_far (set_far Kb.out (Nat.ne_of_lt LTb.out) _) (Nat.ne_of_lt LTb.out) _)
                replace Kg := Lib.hid (show Z1.heap[w7.heap.size]? = some (.cells #[.string bn, .string bd] 23) from by rw [← hZ1]; exact set_far (set_far Kg.out (Nat.ne_of_lt LTg.out) _) (Nat.ne_of_lt LTg.out) _)
                replace Kh := Lib.hid (show Z1.heap[w8.heap.size]? = some (.cells #[.string an, .string ad] 23) from by rw [← hZ1]; exact set_far (set_far Kh.out (Nat.ne_of_lt LTh.out) _) (Nat.ne_of_lt LTh.out) _)
                replace Kn := Lib.hid (show Z1.heap[gn]? = some (.cells #[.string kn, .string ⟨#[49]⟩] 23) from by rw [← hZ1]; exact set_far (set_far Kn.out (Nat.ne_of_lt LTn.out) _) (Nat.ne_of_lt LTn.out) _)
                replace Ku := Lib.hid (show Z1.heap[w9.heap.size]? = some (.cells #[.string ⟨#[49]⟩, .string ⟨#[49]⟩] 23) from by rw [← hZ1]; exact set_far (set_far Ku.out (Nat.ne_of_lt LTu.out) _) (Nat.ne_of_lt LTu.out) _)
                replace Kt := Lib.hid (show Z1.heap[w11.heap.size]? = some (.cells #[.string ⟨#[49]⟩, .string ⟨#[49]⟩] 23) from by rw [← hZ1]; exact put2_heap Kt.out _ _)
                obtain ⟨g_1, g_2, _, _⟩ := box2 Kg.out
                obtain ⟨b_1, b_2, _, _⟩ := box2 Kb.out
                obtain ⟨h_1, h_2, _, _⟩ := box2 Kh.out
                obtain ⟨a_1, a_2, _, _⟩ := box2 Ka.out
                obtain ⟨n_1, n_2, _, _⟩ := box2 Kn.out
                obtain ⟨u_1, u_2, _, _⟩ := box2 Ku.out
                obtain ⟨t_1, t_2, _, _⟩ := box2 Kt.out
                obtain ⟨r_1, r_2, _, _⟩ := box2 Kr.out
                go_wp2_with fail
                (with_reducible refine (C7.out _ B0.out).mono ?_)
                rintro e w13 ⟨rfl, hb⟩
                replace B0 := Lib.hid (below1 B0.out hb)
                replace Kr := Lib.hid (bl_up Kr.out hb)
                replace Ka := Lib.hid (bl_up Ka.out hb)
                replace Kb := Lib.hid (bl_up Kb.out hb)
                replace Kg := Lib.hid (bl_up Kg.out hb)
                replace Kh := Lib.hid (bl_up Kh.out hb)
                replace Kn := Lib.hid (bl_up Kn.out hb)
                replace Ku := Lib.hid (bl_up Ku.out hb)
                replace Kt := Lib.hid (bl_up Kt.out hb)
                clear hb
                have HF := Lib.hid B0.out
                clear Kr Ka Kb Kg Kh Kn Ku Kt
                go_wp2
                go_ret
                exact ⟨rfl, HF.out⟩
            ·
              as_aux_lemma =>
                clear TT0
                go_wp2_with fail
                (with_reducible refine (is_any _ _ _).mono ?_)
                rintro e w11 ⟨rfl, hb⟩
                replace B0 := Lib.hid (below1 B0.out hb)
                replace Kr := Lib.hid (bl_up Kr.out hb)
                replace Ka := Lib.hid (bl_up Ka.out hb)
                replace Kb := Lib.hid (bl_up Kb.out hb)
                replace Kg := Lib.hid (bl_up Kg.out hb)
                replace Kh := Lib.hid (bl_up Kh.out hb)
                replace Kn := Lib.hid (bl_up Kn.out hb)
                replace Ku := Lib.hid (bl_up Ku.out hb)
                clear hb
                have LTr := Lib.hid (Array.getElem?_eq_some_iff.1 Kr.out).1
                have LTa := Lib.hid (Array.getElem?_eq_some_iff.1 Ka.out).1
                have LTb := Lib.hid (Array.getElem?_eq_some_iff.1 Kb.out).1
                have LTg := Lib.hid (Array.getElem?_eq_some_iff.1 Kg.out).1
                have LTh := Lib.hid (Array.getElem?_eq_some_iff.1 Kh.out).1
                have LTn := Lib.hid (Array.getElem?_eq_some_iff.1 Kn.out).1
                have LTu := Lib.hid (Array.getElem?_eq_some_iff.1 Ku.out).1
                have hWs := Lib.hid B0.out.size
                have hA := (Below.refl w11.heap.size w11).alloc (Nat.le_refl _) (.cells #[.string ⟨#[49]⟩, .string ud] 23)
                replace B0 := Lib.hid (below1 B0.out hA)
                have Kt := Lib.hid (heap_new' w11 (.cells #[.string ⟨#[49]⟩, .string ud] 23) w11.heap.size rfl)
                replace Kr := Lib.hid (bl_up Kr.out hA)
                replace Ka := Lib.hid (bl_up Ka.out hA)
                replace Kb := Lib.hid (bl_up Kb.out hA)
                replace Kg := Lib.hid (bl_up Kg.out hA)
                replace Kh := Lib.hid (bl_up Kh.out hA)
                replace Kn := Lib.hid (bl_up Kn.out hA)
                replace Ku := Lib.hid (bl_up Ku.out hA)
                clear hA
                obtain ⟨g_1, g_2, _, _⟩ := box2 Kg.out
                obtain ⟨b_1, b_2, _, _⟩ := box2 Kb.out
                obtain ⟨h_1, h_2, _, _⟩ := box2 Kh.out
                obtain ⟨a_1, a_2, _, _⟩ := box2 Ka.out
                obtain ⟨n_1, n_2, _, _⟩ := box2 Kn.out
                obtain ⟨u_1, u_2, _, _⟩ := box2 Ku.out
                obtain ⟨t_1, t_2, _, _⟩ := box2 Kt.out
                obtain ⟨r_1, r_2, _, _⟩ := box2 Kr.out
                go_wp2_with fail
                (with_reducible refine (C7.out _ B0.out).mono ?_)
                rintro e w12 ⟨rfl, hb⟩
                replace B0 := Lib.hid (below1 B0.out hb)
                replace Kr := Lib.hid (bl_up Kr.out hb)
                replace Ka := Lib.hid (bl_up Ka.out hb)
                replace Kb := Lib.hid (bl_up Kb.out hb)
                replace Kg := Lib.hid (bl_up Kg.out hb)
                replace Kh := Lib.hid (bl_up Kh.out hb)
                replace Kn := Lib.hid (bl_up Kn.out hb)
                replace Ku := Lib.hid (bl_up Ku.out hb)
                replace Kt := Lib.hid (bl_up Kt.out hb)
                clear hb
                have HF := Lib.hid B0.out
                clear Kr Ka Kb Kg Kh Kn Ku Kt
                go_wp2
                go_ret
                exact ⟨rfl, HF.out⟩
end Go.Proofs.YtcjcafekacceiaaGreatDoor
