/- The walk of IntegerLimits. -/
import Derived.Test.YtebjjgbdiabapaaDoorLim
namespace Go.Proofs.YtebjjgbdiabapaaDoor
open Go.RowKit

theorem add_over {x y : Int} (hx : Big x) (hy : Big y) (hz : ¬ Big (x + y)) (W : World) (ht : Tb W) : Calls Tryd.prog 11 #[.string (str x), .string (str y)] W (ResOut W ⟨#[]⟩ 30) := by
  have := add_any (str x) (str y) W (str_size hx) (str_size hy) ht
  rw [opS_ok hx hy, opE_ok hx hy, resS_no hz, resE_no hz] at this
  exact this
theorem sub_over {x y : Int} (hx : Big x) (hy : Big y) (hz : ¬ Big (x - y)) (W : World) (ht : Tb W) : Calls Tryd.prog 13 #[.string (str x), .string (str y)] W (ResOut W ⟨#[]⟩ 30) := by
  have := sub_any (str x) (str y) W (str_size hx) (str_size hy) ht
  rw [opS_ok hx hy, opE_ok hx hy, resS_no hz, resE_no hz] at this
  exact this
theorem mul_over {x y : Int} (hx : Big x) (hy : Big y) (hz : ¬ Big (x * y)) (W : World) (ht : Tb W) : Calls Tryd.prog 12 #[.string (str x), .string (str y)] W (ResOut W ⟨#[]⟩ 30) := by
  have := mul_any (str x) (str y) W (str_size hx) (str_size hy) ht
  rw [opS_ok hx hy, opE_ok hx hy, resS_no hz, resE_no hz] at this
  exact this
theorem add_empty (W : World) (ht : Tb W) : Calls Tryd.prog 11 #[.string ⟨#[]⟩, .string ⟨#[49]⟩] W (ResOut W ⟨#[]⟩ 30) := by
  have := add_any ⟨#[]⟩ ⟨#[49]⟩ W (by decide) (by decide) ht
  rw [show opS (fun x y => x + y) ⟨#[]⟩ ⟨#[49]⟩ = ⟨#[]⟩ from by decide +kernel, show opE (fun x y => x + y) ⟨#[]⟩ ⟨#[49]⟩ = 30 from by decide +kernel] at this
  exact this
theorem str_small {z : Int} (h : Big z) : (str z).size ≤ 300 := by
  have h1 := shw_length z h
  have h2 : (str z).size = (shw z).length := by rw [← str_data]; rfl
  omega
theorem nines_small {n : Nat} (h : n ≤ 200) : (⟨(ninesL n).toArray⟩ : ByteArray).size ≤ 300 := by
  show (ninesL n).toArray.size ≤ 300
  unfold ninesL; simp; omega
set_option maxRecDepth 100000 in
set_option maxHeartbeats 8000000 in
theorem limits_walk (a : ByteArray) (hsa : a.size ≤ 9223372036854775807) (c d : Int) (hc0 : -9223372036854775808 ≤ c) (hc1 : c ≤ 9223372036854775807) (hd0 : -9223372036854775808 ≤ d) (hd1 : d ≤ 9223372036854775807) (w : World) (ht : Tb w) : Calls Tryd.prog 8 #[.string a, .int .i64 c, .int .i64 d] w fun e w' => e = .returned (.bool true) ∧ Below w.heap.size w w' := by
  have HT := Lib.hid (fun W (hW : Below w.heap.size w W) => ht.below hW)
  have CSN := Lib.hid (sane_any w ht)
  clear ht
  go_enter Tryd.func8, Tryd.ntmps8
  go_wp2_with fail
  (with_reducible refine (CSN.out).mono ?_)
  rintro e w1 ⟨rfl, hb⟩
  have HB1 := Lib.hid ((Below.refl w.heap.size w).trans (hb.mono (Below.refl w.heap.size w).size))
  clear hb
  go_wp2_with fail
  (with_reducible refine (made_at a 5 5 rfl (by decide) _ hsa).mono ?_)
  rintro e w2 ⟨X, hmX, rfl, hb⟩
  have HB2 := Lib.hid (HB1.out.trans (hb.mono HB1.out.size))
  clear hb
  have sX : Sm 5 X := hmX
  obtain ⟨x, hx⟩ : ∃ ttt, str X = ttt := ⟨_, rfl⟩
  obtain ⟨mo, hmo⟩ : ∃ ttt, str top = ttt := ⟨_, rfl⟩
  obtain ⟨nm, hnm⟩ : ∃ ttt, str (-top) = ttt := ⟨_, rfl⟩
  have hcat := minus_str top_pos
  have hmsz := str_small big_top
  have hmo9 := nine_app 200
  rw [show (⟨(ninesL 200).toArray⟩ : ByteArray) = str top from str_nine 200 (by decide)] at hmo9
  have CN := Lib.hid (fun W => nines_any 200 (by decide) 200 rfl W)
  rw [show (⟨(ninesL 200).toArray⟩ : ByteArray) = str top from str_nine 200 (by decide), hmo] at CN
  rw [hmo, hnm] at hcat
  rw [hmo] at hmsz hmo9
  obtain ⟨mm, hmm⟩ : ∃ ttt : ByteArray, ⟨(ninesL 201).toArray⟩ = ttt := ⟨_, rfl⟩
  rw [hmm] at hmo9
  have CV1 := Lib.hid (fun W => valid_any ⟨(ninesL 201).toArray⟩ W (by show (ninesL 201).toArray.size ≤ _; unfold ninesL; simp))
  rw [show vld (⟨(ninesL 201).toArray⟩ : ByteArray).data.toList = false from by rw [show (⟨(ninesL 201).toArray⟩ : ByteArray).data.toList = ninesL 201 from by simp]; exact nines_long, hmm] at CV1
  have CV2 := Lib.hid (fun W => valid_str (big_neg big_top) W)
  rw [hnm] at CV2
  have CM1 := Lib.hid (fun W => pick_any c hc0 hc1 200 (by decide) (by decide) 200 rfl W)
  have CM2 := Lib.hid (fun W => pick_any d hd0 hd1 200 (by decide) (by decide) 200 rfl W)
  have HCAT := Lib.hid hcat
  have HMO9 := Lib.hid hmo9
  clear hcat hmo9 hmm
  by_cases hg : 0 < X
  · have hcz := cmpZ_gt hg
    have C1 := Lib.hid (fun W (hW : Below w.heap.size w W) => add_over big_top (sX.big (by decide)) (fun h => by have := (top_add sX).1 h; omega) W (HT.out W hW))
    rw [hmo, hx] at C1
    have C2 := Lib.hid (fun W (hW : Below w.heap.size w W) => sub_over (big_neg big_top) (sX.big (by decide)) (fun h => by have := (top_sub sX).1 h; omega) W (HT.out W hW))
    rw [hnm, hx] at C2
    have C5 := Lib.hid (fun W (hW : Below w.heap.size w W) => cmp_str (sX.big (by decide)) big0 W)
    rw [hx, ← str0, hcz] at C5
    clear hcz
    rw [hx]
    clear hx hmo hnm sX hmX hg
    go_wp2_with fail
    (with_reducible refine (CN.out _).mono ?_)
    rintro e w3 ⟨rfl, rfl⟩
    go_wp2_with fail
    (with_reducible refine (C1.out _ HB2.out).mono ?_)
    rintro e w4 ⟨rfl, hb⟩
    have HB4 := Lib.hid (HB2.out.trans (hb.mono HB2.out.size))
    clear hb
    have hcat := HCAT.out
    go_wp2_with fail
    (with_reducible refine (C2.out _ HB4.out).mono ?_)
    rintro e w5 ⟨rfl, hb⟩
    have HB5 := Lib.hid (HB4.out.trans (hb.mono HB4.out.size))
    clear hb
    clear hcat
    go_wp2_with fail
    (with_reducible refine (CM1.out _).mono ?_)
    rintro e w6 ⟨m, hm, rfl, rfl⟩
    go_wp2_with fail
    (with_reducible refine (CM2.out _).mono ?_)
    rintro e w7 ⟨n, hn, rfl, rfl⟩
    have hpr := size_prod m n
    obtain ⟨on, hon⟩ : ∃ ttt, str (one m) = ttt := ⟨_, rfl⟩
    obtain ⟨tw, htw⟩ : ∃ ttt, str (two n) = ttt := ⟨_, rfl⟩
    obtain ⟨nn, hnn⟩ : ∃ ttt : ByteArray, ⟨(ninesL n).toArray⟩ = ttt := ⟨_, rfl⟩
    obtain ⟨pr, hprr⟩ : ∃ ttt, str (one m * two n) = ttt := ⟨_, rfl⟩
    have htwo := one_app (ninesL n)
    have hnsz := nines_small (show n ≤ 200 by omega)
    rw [str_two n, htw, hnn] at htwo
    rw [hnn] at hnsz
    rw [hprr] at hpr
    have CNm := Lib.hid (fun W => nines_any m (by omega) (m : Int) rfl W)
    have CNn := Lib.hid (fun W => nines_any n (by omega) (n : Int) rfl W)
    rw [hnn] at CNn
    have HTW := Lib.hid htwo
    clear htwo
    by_cases hs : m + n < 200
    · have hsI : (m : Int) + (n : Int) < 200 := by omega
      have hlen : ((pr.size : Int) == (m : Int) + (n : Int) + 1) = true := by rw [hpr]; simp
      have C4 := Lib.hid (fun W (hW : Below w.heap.size w W) => mul_str (big_one (by omega)) (big_two (by omega)) (big_prod.2 hs) W (HT.out W hW))
      rw [hon, htw, hprr] at C4
      clear hs hpr hprr
      by_cases hm0 : m = 0
      · subst hm0
        have hsI2 : (n : Int) < 200 := by omega
        have hlen2 : ((pr.size : Int) == (n : Int) + 1) = true := by simpa using hlen
        clear hsI hlen
        rw [one_zero] at hon
        have C3 := Lib.hid (fun W (hW : Below w.heap.size w W) => add_empty W (HT.out W hW))
        have C3b := Lib.hid (fun W (hW : Below w.heap.size w W) => add_str big0 big1 (by rw [← one_zero]; exact big_one (by decide)) W (HT.out W hW))
        rw [hon, ← str0, ← str1] at C3b
        clear CNm
        have CNm := Lib.hid (fun W => nines_any 0 (by decide) 0 rfl W)
        rw [show (⟨(ninesL 0).toArray⟩ : ByteArray) = ⟨#[]⟩ from rfl] at CNm
        clear hon htw hnn
        go_wp2_with fail
        (with_reducible refine (CNm.out _).mono ?_)
        rintro e w8 ⟨rfl, rfl⟩
        go_wp2_with fail
        (with_reducible refine (C3.out _ HB5.out).mono ?_)
        rintro e w9 ⟨rfl, hb⟩
        have HB9 := Lib.hid (HB5.out.trans (hb.mono HB5.out.size))
        clear hb
        go_wp2_with fail
        (with_reducible refine (C3b.out _ HB9.out).mono ?_)
        rintro e w10 ⟨rfl, hb⟩
        have HB10 := Lib.hid (HB9.out.trans (hb.mono HB9.out.size))
        clear hb
        go_wp2_with fail
        (with_reducible refine (CNn.out _).mono ?_)
        rintro e w11 ⟨rfl, rfl⟩
        have htwo := HTW.out
        go_wp2_with fail
        (with_reducible refine (C4.out _ HB10.out).mono ?_)
        rintro e w12 ⟨rfl, hb⟩
        have HB12 := Lib.hid (HB10.out.trans (hb.mono HB10.out.size))
        clear hb
        clear htwo
        go_wp2_with fail
        (with_reducible refine (C5.out _ HB12.out).mono ?_)
        rintro e w13 ⟨rfl, hb⟩
        have HB13 := Lib.hid (HB12.out.trans (hb.mono HB12.out.size))
        clear hb
        have hmo9 := HMO9.out
        have hcat := HCAT.out
        go_wp2_with fail
        (with_reducible refine (CV1.out _).mono ?_)
        rintro e w14 ⟨rfl, rfl⟩
        go_wp2_with fail
        (with_reducible refine (CV2.out _).mono ?_)
        rintro e w15 ⟨rfl, rfl⟩
        go_wp2
        go_ret
        exact ⟨rfl, HB13.out⟩
      · have hmI : ((m : Int) == 0) = false := by simp; omega
        rw [str_nine m (by omega)] at CNm
        obtain ⟨nk, hnk⟩ : ∃ ttt, str (nine m) = ttt := ⟨_, rfl⟩
        rw [hnk] at CNm
        have C3 := Lib.hid (fun W (hW : Below w.heap.size w W) => add_str (big_nine (m := m) (by omega)) big1 (by rw [nine_one]; exact big_one (by omega)) W (HT.out W hW))
        rw [nine_one, hon, hnk, ← str1] at C3
        clear hnk
        clear hon htw hnn
        go_wp2_with fail
        (with_reducible refine (CNm.out _).mono ?_)
        rintro e w8 ⟨rfl, rfl⟩
        go_wp2_with fail
        (with_reducible refine (C3.out _ HB5.out).mono ?_)
        rintro e w9 ⟨rfl, hb⟩
        have HB9 := Lib.hid (HB5.out.trans (hb.mono HB5.out.size))
        clear hb
        go_wp2_with fail
        (with_reducible refine (CNn.out _).mono ?_)
        rintro e w10 ⟨rfl, rfl⟩
        have htwo := HTW.out
        go_wp2_with fail
        (with_reducible refine (C4.out _ HB9.out).mono ?_)
        rintro e w11 ⟨rfl, hb⟩
        have HB11 := Lib.hid (HB9.out.trans (hb.mono HB9.out.size))
        clear hb
        clear htwo
        go_wp2_with fail
        (with_reducible refine (C5.out _ HB11.out).mono ?_)
        rintro e w12 ⟨rfl, hb⟩
        have HB12 := Lib.hid (HB11.out.trans (hb.mono HB11.out.size))
        clear hb
        have hmo9 := HMO9.out
        have hcat := HCAT.out
        go_wp2_with fail
        (with_reducible refine (CV1.out _).mono ?_)
        rintro e w13 ⟨rfl, rfl⟩
        go_wp2_with fail
        (with_reducible refine (CV2.out _).mono ?_)
        rintro e w14 ⟨rfl, rfl⟩
        go_wp2
        go_ret
        exact ⟨rfl, HB12.out⟩
    · have hsI : ¬ (m : Int) + (n : Int) < 200 := by omega
      have C4 := Lib.hid (fun W (hW : Below w.heap.size w W) => mul_over (big_one (by omega)) (big_two (by omega)) (fun h => hs (big_prod.1 h)) W (HT.out W hW))
      rw [hon, htw] at C4
      clear hs hpr hprr
      by_cases hm0 : m = 0
      · exfalso; omega
      · have hmI : ((m : Int) == 0) = false := by simp; omega
        rw [str_nine m (by omega)] at CNm
        obtain ⟨nk, hnk⟩ : ∃ ttt, str (nine m) = ttt := ⟨_, rfl⟩
        rw [hnk] at CNm
        have C3 := Lib.hid (fun W (hW : Below w.heap.size w W) => add_str (big_nine (m := m) (by omega)) big1 (by rw [nine_one]; exact big_one (by omega)) W (HT.out W hW))
        rw [nine_one, hon, hnk, ← str1] at C3
        clear hnk
        clear hon htw hnn
        go_wp2_with fail
        (with_reducible refine (CNm.out _).mono ?_)
        rintro e w8 ⟨rfl, rfl⟩
        go_wp2_with fail
        (with_reducible refine (C3.out _ HB5.out).mono ?_)
        rintro e w9 ⟨rfl, hb⟩
        have HB9 := Lib.hid (HB5.out.trans (hb.mono HB5.out.size))
        clear hb
        go_wp2_with fail
        (with_reducible refine (CNn.out _).mono ?_)
        rintro e w10 ⟨rfl, rfl⟩
        have htwo := HTW.out
        go_wp2_with fail
        (with_reducible refine (C4.out _ HB9.out).mono ?_)
        rintro e w11 ⟨rfl, hb⟩
        have HB11 := Lib.hid (HB9.out.trans (hb.mono HB9.out.size))
        clear hb
        clear htwo
        go_wp2_with fail
        (with_reducible refine (C5.out _ HB11.out).mono ?_)
        rintro e w12 ⟨rfl, hb⟩
        have HB12 := Lib.hid (HB11.out.trans (hb.mono HB11.out.size))
        clear hb
        have hmo9 := HMO9.out
        have hcat := HCAT.out
        go_wp2_with fail
        (with_reducible refine (CV1.out _).mono ?_)
        rintro e w13 ⟨rfl, rfl⟩
        go_wp2_with fail
        (with_reducible refine (CV2.out _).mono ?_)
        rintro e w14 ⟨rfl, rfl⟩
        go_wp2
        go_ret
        exact ⟨rfl, HB12.out⟩
  · obtain ⟨cz, hcz⟩ : ∃ cz, cmpZ X 0 = cz := ⟨_, rfl⟩
    have hcz0 : ¬ 0 < cz := by rw [← hcz]; have := cmpZ_le (show X ≤ 0 by omega); omega
    obtain ⟨sm, hsm⟩ : ∃ ttt, str (top + X) = ttt := ⟨_, rfl⟩
    obtain ⟨df, hdf⟩ : ∃ ttt, str (-top - X) = ttt := ⟨_, rfl⟩
    have C1 := Lib.hid (fun W (hW : Below w.heap.size w W) => add_str big_top (sX.big (by decide)) ((top_add sX).2 (by omega)) W (HT.out W hW))
    rw [hmo, hx, hsm] at C1
    have C2 := Lib.hid (fun W (hW : Below w.heap.size w W) => sub_str (big_neg big_top) (sX.big (by decide)) ((top_sub sX).2 (by omega)) W (HT.out W hW))
    rw [hnm, hx, hdf] at C2
    have C5 := Lib.hid (fun W (hW : Below w.heap.size w W) => cmp_str (sX.big (by decide)) big0 W)
    rw [hx, ← str0, hcz] at C5
    clear hcz hsm hdf
    rw [hx]
    clear hx hmo hnm sX hmX hg
    go_wp2_with fail
    (with_reducible refine (CN.out _).mono ?_)
    rintro e w3 ⟨rfl, rfl⟩
    go_wp2_with fail
    (with_reducible refine (C1.out _ HB2.out).mono ?_)
    rintro e w4 ⟨rfl, hb⟩
    have HB4 := Lib.hid (HB2.out.trans (hb.mono HB2.out.size))
    clear hb
    have hcat := HCAT.out
    go_wp2_with fail
    (with_reducible refine (C2.out _ HB4.out).mono ?_)
    rintro e w5 ⟨rfl, hb⟩
    have HB5 := Lib.hid (HB4.out.trans (hb.mono HB4.out.size))
    clear hb
    clear hcat
    go_wp2_with fail
    (with_reducible refine (CM1.out _).mono ?_)
    rintro e w6 ⟨m, hm, rfl, rfl⟩
    go_wp2_with fail
    (with_reducible refine (CM2.out _).mono ?_)
    rintro e w7 ⟨n, hn, rfl, rfl⟩
    have hpr := size_prod m n
    obtain ⟨on, hon⟩ : ∃ ttt, str (one m) = ttt := ⟨_, rfl⟩
    obtain ⟨tw, htw⟩ : ∃ ttt, str (two n) = ttt := ⟨_, rfl⟩
    obtain ⟨nn, hnn⟩ : ∃ ttt : ByteArray, ⟨(ninesL n).toArray⟩ = ttt := ⟨_, rfl⟩
    obtain ⟨pr, hprr⟩ : ∃ ttt, str (one m * two n) = ttt := ⟨_, rfl⟩
    have htwo := one_app (ninesL n)
    have hnsz := nines_small (show n ≤ 200 by omega)
    rw [str_two n, htw, hnn] at htwo
    rw [hnn] at hnsz
    rw [hprr] at hpr
    have CNm := Lib.hid (fun W => nines_any m (by omega) (m : Int) rfl W)
    have CNn := Lib.hid (fun W => nines_any n (by omega) (n : Int) rfl W)
    rw [hnn] at CNn
    have HTW := Lib.hid htwo
    clear htwo
    by_cases hs : m + n < 200
    · have hsI : (m : Int) + (n : Int) < 200 := by omega
      have hlen : ((pr.size : Int) == (m : Int) + (n : Int) + 1) = true := by rw [hpr]; simp
      have C4 := Lib.hid (fun W (hW : Below w.heap.size w W) => mul_str (big_one (by omega)) (big_two (by omega)) (big_prod.2 hs) W (HT.out W hW))
      rw [hon, htw, hprr] at C4
      clear hs hpr hprr
      by_cases hm0 : m = 0
      · subst hm0
        have hsI2 : (n : Int) < 200 := by omega
        have hlen2 : ((pr.size : Int) == (n : Int) + 1) = true := by simpa using hlen
        clear hsI hlen
        rw [one_zero] at hon
        have C3 := Lib.hid (fun W (hW : Below w.heap.size w W) => add_empty W (HT.out W hW))
        have C3b := Lib.hid (fun W (hW : Below w.heap.size w W) => add_str big0 big1 (by rw [← one_zero]; exact big_one (by decide)) W (HT.out W hW))
        rw [hon, ← str0, ← str1] at C3b
        clear CNm
        have CNm := Lib.hid (fun W => nines_any 0 (by decide) 0 rfl W)
        rw [show (⟨(ninesL 0).toArray⟩ : ByteArray) = ⟨#[]⟩ from rfl] at CNm
        clear hon htw hnn
        go_wp2_with fail
        (with_reducible refine (CNm.out _).mono ?_)
        rintro e w8 ⟨rfl, rfl⟩
        go_wp2_with fail
        (with_reducible refine (C3.out _ HB5.out).mono ?_)
        rintro e w9 ⟨rfl, hb⟩
        have HB9 := Lib.hid (HB5.out.trans (hb.mono HB5.out.size))
        clear hb
        go_wp2_with fail
        (with_reducible refine (C3b.out _ HB9.out).mono ?_)
        rintro e w10 ⟨rfl, hb⟩
        have HB10 := Lib.hid (HB9.out.trans (hb.mono HB9.out.size))
        clear hb
        go_wp2_with fail
        (with_reducible refine (CNn.out _).mono ?_)
        rintro e w11 ⟨rfl, rfl⟩
        have htwo := HTW.out
        go_wp2_with fail
        (with_reducible refine (C4.out _ HB10.out).mono ?_)
        rintro e w12 ⟨rfl, hb⟩
        have HB12 := Lib.hid (HB10.out.trans (hb.mono HB10.out.size))
        clear hb
        clear htwo
        go_wp2_with fail
        (with_reducible refine (C5.out _ HB12.out).mono ?_)
        rintro e w13 ⟨rfl, hb⟩
        have HB13 := Lib.hid (HB12.out.trans (hb.mono HB12.out.size))
        clear hb
        have hmo9 := HMO9.out
        have hcat := HCAT.out
        go_wp2_with fail
        (with_reducible refine (CV1.out _).mono ?_)
        rintro e w14 ⟨rfl, rfl⟩
        go_wp2_with fail
        (with_reducible refine (CV2.out _).mono ?_)
        rintro e w15 ⟨rfl, rfl⟩
        go_wp2
        go_ret
        exact ⟨rfl, HB13.out⟩
      · have hmI : ((m : Int) == 0) = false := by simp; omega
        rw [str_nine m (by omega)] at CNm
        obtain ⟨nk, hnk⟩ : ∃ ttt, str (nine m) = ttt := ⟨_, rfl⟩
        rw [hnk] at CNm
        have C3 := Lib.hid (fun W (hW : Below w.heap.size w W) => add_str (big_nine (m := m) (by omega)) big1 (by rw [nine_one]; exact big_one (by omega)) W (HT.out W hW))
        rw [nine_one, hon, hnk, ← str1] at C3
        clear hnk
        clear hon htw hnn
        go_wp2_with fail
        (with_reducible refine (CNm.out _).mono ?_)
        rintro e w8 ⟨rfl, rfl⟩
        go_wp2_with fail
        (with_reducible refine (C3.out _ HB5.out).mono ?_)
        rintro e w9 ⟨rfl, hb⟩
        have HB9 := Lib.hid (HB5.out.trans (hb.mono HB5.out.size))
        clear hb
        go_wp2_with fail
        (with_reducible refine (CNn.out _).mono ?_)
        rintro e w10 ⟨rfl, rfl⟩
        have htwo := HTW.out
        go_wp2_with fail
        (with_reducible refine (C4.out _ HB9.out).mono ?_)
        rintro e w11 ⟨rfl, hb⟩
        have HB11 := Lib.hid (HB9.out.trans (hb.mono HB9.out.size))
        clear hb
        clear htwo
        go_wp2_with fail
        (with_reducible refine (C5.out _ HB11.out).mono ?_)
        rintro e w12 ⟨rfl, hb⟩
        have HB12 := Lib.hid (HB11.out.trans (hb.mono HB11.out.size))
        clear hb
        have hmo9 := HMO9.out
        have hcat := HCAT.out
        go_wp2_with fail
        (with_reducible refine (CV1.out _).mono ?_)
        rintro e w13 ⟨rfl, rfl⟩
        go_wp2_with fail
        (with_reducible refine (CV2.out _).mono ?_)
        rintro e w14 ⟨rfl, rfl⟩
        go_wp2
        go_ret
        exact ⟨rfl, HB12.out⟩
    · have hsI : ¬ (m : Int) + (n : Int) < 200 := by omega
      have C4 := Lib.hid (fun W (hW : Below w.heap.size w W) => mul_over (big_one (by omega)) (big_two (by omega)) (fun h => hs (big_prod.1 h)) W (HT.out W hW))
      rw [hon, htw] at C4
      clear hs hpr hprr
      by_cases hm0 : m = 0
      · exfalso; omega
      · have hmI : ((m : Int) == 0) = false := by simp; omega
        rw [str_nine m (by omega)] at CNm
        obtain ⟨nk, hnk⟩ : ∃ ttt, str (nine m) = ttt := ⟨_, rfl⟩
        rw [hnk] at CNm
        have C3 := Lib.hid (fun W (hW : Below w.heap.size w W) => add_str (big_nine (m := m) (by omega)) big1 (by rw [nine_one]; exact big_one (by omega)) W (HT.out W hW))
        rw [nine_one, hon, hnk, ← str1] at C3
        clear hnk
        clear hon htw hnn
        go_wp2_with fail
        (with_reducible refine (CNm.out _).mono ?_)
        rintro e w8 ⟨rfl, rfl⟩
        go_wp2_with fail
        (with_reducible refine (C3.out _ HB5.out).mono ?_)
        rintro e w9 ⟨rfl, hb⟩
        have HB9 := Lib.hid (HB5.out.trans (hb.mono HB5.out.size))
        clear hb
        go_wp2_with fail
        (with_reducible refine (CNn.out _).mono ?_)
        rintro e w10 ⟨rfl, rfl⟩
        have htwo := HTW.out
        go_wp2_with fail
        (with_reducible refine (C4.out _ HB9.out).mono ?_)
        rintro e w11 ⟨rfl, hb⟩
        have HB11 := Lib.hid (HB9.out.trans (hb.mono HB9.out.size))
        clear hb
        clear htwo
        go_wp2_with fail
        (with_reducible refine (C5.out _ HB11.out).mono ?_)
        rintro e w12 ⟨rfl, hb⟩
        have HB12 := Lib.hid (HB11.out.trans (hb.mono HB11.out.size))
        clear hb
        have hmo9 := HMO9.out
        have hcat := HCAT.out
        go_wp2_with fail
        (with_reducible refine (CV1.out _).mono ?_)
        rintro e w13 ⟨rfl, rfl⟩
        go_wp2_with fail
        (with_reducible refine (CV2.out _).mono ?_)
        rintro e w14 ⟨rfl, rfl⟩
        go_wp2
        go_ret
        exact ⟨rfl, HB12.out⟩
end Go.Proofs.YtebjjgbdiabapaaDoor
