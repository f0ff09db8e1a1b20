/- The walk of IntegerMatchesReference. -/
import Derived.Test.YtebjjgbdiabapaaGreatDoorTxtW
namespace Go.Proofs.YtebjjgbdiabapaaGreatDoor
open Go.RowKit

def rowA (u v X Y Z F : ByteArray) : Array Value := #[.string u, .string v, .string X, .string Y, .string Z, .string F]
theorem row_at (w5 : World) (u v x y z fn : ByteArray) (h1 : u.size ≤ 300) (h2 : v.size ≤ 300) (h3 : x.size ≤ 300) (h4 : y.size ≤ 300) (h5 : z.size ≤ 300) (h6 : fn.size ≤ 300) (i : Nat) (hi : i < 3) :
    ∃ p q : ByteArray, p.size ≤ 300 ∧ q.size ≤ 300 ∧ ∀ W, Below (w5.heap.size + 1) (w5.alloc (.cells (rowA u v x y z fn) 23)) W → W.cell? ⟨w5.heap.size, i * 2, none⟩ = some (.string p) ∧ W.cell? ⟨w5.heap.size, i * 2 + 1, none⟩ = some (.string q) := by
  have hb : ∀ W, Below (w5.heap.size + 1) (w5.alloc (.cells (rowA u v x y z fn) 23)) W → W.heap[w5.heap.size]? = some (.cells (rowA u v x y z fn) 23) := fun W hW =>
    (hW.block _ (by omega)).trans (heap_new' _ _ _ rfl)
  have hc : ∀ W, Below (w5.heap.size + 1) (w5.alloc (.cells (rowA u v x y z fn) 23)) W → ∀ k, W.cell? ⟨w5.heap.size, k, none⟩ = (rowA u v x y z fn)[k]? := fun W hW k => by
    simp [World.cell?, hb W hW]
  rcases (show i = 0 ∨ i = 1 ∨ i = 2 by omega) with rfl | rfl | rfl
  · exact ⟨u, v, h1, h2, fun W hW => ⟨by rw [hc W hW]; rfl, by rw [hc W hW]; rfl⟩⟩
  · exact ⟨x, y, h3, h4, fun W hW => ⟨by rw [hc W hW]; rfl, by rw [hc W hW]; rfl⟩⟩
  · exact ⟨z, fn, h5, h6, fun W hW => ⟨by rw [hc W hW]; rfl, by rw [hc W hW]; rfl⟩⟩
set_option maxRecDepth 100000 in
set_option maxHeartbeats 20000000 in
theorem matches_walk (a b : ByteArray) (n : Int) (h0 : -9223372036854775808 ≤ n) (h1 : n ≤ 9223372036854775807) (w : World) (ht : Tb w) (he : Er w) :
    Calls Tryz.prog 3 #[.string a, .string b, .int .i64 n] w fun e w' => e = .returned (.bool true) ∧ Below w.heap.size w w' := by
  have HT := Lib.hid (fun W (hW : Below w.heap.size w W) => ht.below hW)
  have HE := Lib.hid (fun W (hW : Below w.heap.size w W) => he.below hW)
  have CSN := Lib.hid (sane_any w ht)
  clear ht he
  obtain ⟨ka, ha1, ha2, ha3⟩ := cutn a 210
  obtain ⟨kb, hb1, hb2, hb3⟩ := cutn b 210
  rw [show ((210 : Nat) : Int) = 210 from rfl] at ha1 hb1
  obtain ⟨u, hu⟩ : ∃ u, a.extract 0 ka = u := ⟨_, rfl⟩
  obtain ⟨v, hv⟩ : ∃ u, b.extract 0 kb = u := ⟨_, rfl⟩
  rw [hu] at ha3
  rw [hv] at hb3
  have CF := Lib.hid (fun W (hW : Below w.heap.size w W) => fromInt_any n h0 h1 W (HT.out W hW))
  have CR := Lib.hid (fun W => rfromInt_any n h0 h1 W)
  have hfs := str_small0 (big_i64 h0 h1)
  obtain ⟨fn, hfn⟩ : ∃ t, str n = t := ⟨_, rfl⟩
  rw [hfn] at CF CR hfs
  have M1 := Lib.hid (fun W => made_at u 70 70 rfl (by decide) W (by omega))
  have M2 := Lib.hid (fun W => made_at v 30 30 rfl (by decide) W (by omega))
  have M3 := Lib.hid (fun W => made_at u 12 12 rfl (by decide) W (by omega))
  clear hfn
  go_enter Tryz.func3, Tryz.ntmps3
  go_wp2_with fail
  (with_reducible refine CSN.out.mono ?_)
  rintro e w1 ⟨rfl, hb⟩
  have HB1 := Lib.hid hb
  clear hb
  go_wp2_with fail
  (with_reducible refine (M1.out _).mono ?_)
  rintro e w2 ⟨X, hX, rfl, hb⟩
  have HB2 := Lib.hid (HB1.out.trans (hb.mono HB1.out.size))
  have hXs := str_small0 (Sm.big (k := 70) hX (by decide))
  obtain ⟨x, hxx⟩ : ∃ t, str X = t := ⟨_, rfl⟩
  rw [hxx] at hXs ⊢
  clear hb hX hxx
  go_wp2_with fail
  (with_reducible refine (M2.out _).mono ?_)
  rintro e w3 ⟨Y, hY, rfl, hb⟩
  have HB3 := Lib.hid (HB2.out.trans (hb.mono HB2.out.size))
  have hYs := str_small0 (Sm.big (k := 30) hY (by decide))
  obtain ⟨y, hyy⟩ : ∃ t, str Y = t := ⟨_, rfl⟩
  rw [hyy] at hYs ⊢
  clear hb hY hyy
  go_wp2_with fail
  (with_reducible refine (M3.out _).mono ?_)
  rintro e w4 ⟨Z, hZ, rfl, hb⟩
  have HB4 := Lib.hid (HB3.out.trans (hb.mono HB3.out.size))
  have hZs := str_small0 (Sm.big (k := 12) hZ (by decide))
  obtain ⟨z, hzz⟩ : ∃ t, str Z = t := ⟨_, rfl⟩
  rw [hzz] at hZs ⊢
  clear hb hZ hzz
  go_wp2_with fail
  (with_reducible refine (CR.out _).mono ?_)
  rintro e w5 ⟨rfl, hb⟩
  have HB5 := Lib.hid (HB4.out.trans (hb.mono HB4.out.size))
  clear hb
  go_wp2_with fail
  go_loopw [50] (fun iv wr => ∃ i : Nat, i ≤ 3 ∧ iv = .int .i64 i ∧ Below (w5.heap.size + 1) (w5.alloc (.cells (rowA u v x y z fn) 23)) wr) (fun iv _ => 3 - (intOf iv).toNat)
  case atStart => exact ⟨0, by omega, rfl, Below.refl _ _⟩
  case round =>
    obtain ⟨i, hi, rfl, hB⟩ := hrel
    by_cases hi3 : i < 3
    · obtain ⟨p, q, hps, hqs, hpq⟩ := row_at w5 u v x y z fn (by omega) (by omega) hXs hYs hZs hfs i hi3
      obtain ⟨hp, hq⟩ := hpq wr hB
      have HB := Lib.hid hB
      have hbw : Below w.heap.size w wr := (HB5.out.alloc HB5.out.size (.cells (rowA u v x y z fn) 23)).trans (hB.mono (by have := HB5.out.size; omega))
      obtain ⟨Wb, hWb⟩ : ∃ Wb, wr.alloc (.cells #[.string p, .string q] 23) = Wb := ⟨_, rfl⟩
      have hsz : Wb.heap.size = wr.heap.size + 1 := by rw [← hWb]; simp
      have hWr : Below wr.heap.size wr Wb := by rw [← hWb]; exact (Below.refl _ wr).alloc (Nat.le_refl _) _
      have HW := Lib.hid (fun W (hW : Below Wb.heap.size Wb W) => hbw.trans ((hWr.trans (hW.mono hWr.size)).mono hbw.size))
      have HR := Lib.hid (fun W (hW : Below Wb.heap.size Wb W) => hB.trans ((hWr.trans (hW.mono hWr.size)).mono (show w5.heap.size + 1 ≤ wr.heap.size by have := hB.size; simpa using this)))
      have HK := Lib.hid (show ∀ W, Below Wb.heap.size Wb W → W.cell? ⟨wr.heap.size, 0, none⟩ = some (.string p) ∧ W.cell? ⟨wr.heap.size, 1, none⟩ = some (.string q) from fun W hW => by
        have h : W.heap[wr.heap.size]? = some (.cells #[.string p, .string q] 23) := (hW.block wr.heap.size (by omega)).trans (by rw [← hWb]; exact heap_new' wr _ _ rfl)
        exact ⟨by simp [World.cell?, h], by simp [World.cell?, h]⟩)
      have CA := Lib.hid (fun W (hW : Below Wb.heap.size Wb W) => add_any p q W (by omega) (by omega) (HT.out W (HW.out W hW)))
      have RA := Lib.hid (fun W => radd_any p q W (by omega) (by omega))
      have CS := Lib.hid (fun W (hW : Below Wb.heap.size Wb W) => sub_any p q W (by omega) (by omega) (HT.out W (HW.out W hW)))
      have RS := Lib.hid (fun W => rsub_any p q W (by omega) (by omega))
      have CM := Lib.hid (fun W (hW : Below Wb.heap.size Wb W) => mul_any p q W (by omega) (by omega) (HT.out W (HW.out W hW)))
      have RM := Lib.hid (fun W => rmul_any p q W (by omega) (by omega))
      have CD := Lib.hid (fun W (hW : Below Wb.heap.size Wb W) => div_any p q W (by omega) (by omega) (HT.out W (HW.out W hW)))
      have RD := Lib.hid (fun W => rdiv_any p q W (by omega) (by omega))
      have CG := Lib.hid (fun W (hW : Below Wb.heap.size Wb W) => gcd_any p q W (by omega) (by omega) (HT.out W (HW.out W hW)))
      have RG := Lib.hid (fun W => rgcd_any p q W (by omega) (by omega))
      have CO := Lib.hid (fun W (hW : Below Wb.heap.size Wb W) => root_any p W (by omega) (HT.out W (HW.out W hW)))
      have RO := Lib.hid (fun W => rroot_any p W (by omega))
      have CI := Lib.hid (fun W (hW : Below Wb.heap.size Wb W) => toInt_any p W (by omega) (HE.out W (HW.out W hW)))
      have RI := Lib.hid (fun W => rtoInt_any p W (by omega))
      have CV := Lib.hid (fun W => valid_any p W (by omega))
      rw [show vld p.data.toList = vS p from rfl] at CV
      have RV := Lib.hid (fun W => rvalid_any p W (by omega))
      have CC := Lib.hid (fun W => compare_any p q W (by omega) (by omega))
      have RC := Lib.hid (fun W => rcmp_any p q W (by omega) (by omega))
      obtain ⟨s1, hs1⟩ : ∃ t, opS (fun x y => x + y) p q = t := ⟨_, rfl⟩
      rw [hs1] at CA RA
      clear hs1
      obtain ⟨e1, he1⟩ : ∃ t, opE (fun x y => x + y) p q = t := ⟨_, rfl⟩
      rw [he1] at CA RA
      clear he1
      obtain ⟨s2, hs2⟩ : ∃ t, opS (fun x y => x - y) p q = t := ⟨_, rfl⟩
      rw [hs2] at CS RS
      clear hs2
      obtain ⟨e2, he2⟩ : ∃ t, opE (fun x y => x - y) p q = t := ⟨_, rfl⟩
      rw [he2] at CS RS
      clear he2
      obtain ⟨s3, hs3⟩ : ∃ t, opS (fun x y => x * y) p q = t := ⟨_, rfl⟩
      rw [hs3] at CM RM
      clear hs3
      obtain ⟨e3, he3⟩ : ∃ t, opE (fun x y => x * y) p q = t := ⟨_, rfl⟩
      rw [he3] at CM RM
      clear he3
      obtain ⟨s4, hs4⟩ : ∃ t, divQ p q = t := ⟨_, rfl⟩
      rw [hs4] at CD RD
      clear hs4
      obtain ⟨r4, hr4⟩ : ∃ t, divR p q = t := ⟨_, rfl⟩
      rw [hr4] at CD RD
      clear hr4
      obtain ⟨e4, he4⟩ : ∃ t, divE p q = t := ⟨_, rfl⟩
      rw [he4] at CD RD
      clear he4
      obtain ⟨s5, hs5⟩ : ∃ t, opS gcdZ p q = t := ⟨_, rfl⟩
      rw [hs5] at CG RG
      clear hs5
      obtain ⟨e5, he5⟩ : ∃ t, opE gcdZ p q = t := ⟨_, rfl⟩
      rw [he5] at CG RG
      clear he5
      obtain ⟨s6, hs6⟩ : ∃ t, rootS p = t := ⟨_, rfl⟩
      rw [hs6] at CO RO
      clear hs6
      obtain ⟨e6, he6⟩ : ∃ t, rootE p = t := ⟨_, rfl⟩
      rw [he6] at CO RO
      clear he6
      obtain ⟨k7, hk7⟩ : ∃ t, tiV p = t := ⟨_, rfl⟩
      rw [hk7] at CI RI
      clear hk7
      obtain ⟨e7, he7⟩ : ∃ t, tiE p = t := ⟨_, rfl⟩
      rw [he7] at CI RI
      clear he7
      obtain ⟨b8, hb8⟩ : ∃ t, vS p = t := ⟨_, rfl⟩
      rw [hb8] at CV RV
      clear hb8
      obtain ⟨c9, hc9⟩ : ∃ t, cmpS p q = t := ⟨_, rfl⟩
      rw [hc9] at CC RC
      clear hc9
      clear hbw hWr hsz hB hpq hps hqs
      have hiI : (i : Int) < 3 := by omega
      obtain ⟨k0, k1⟩ := HK.out Wb (Below.refl _ Wb)
      go_wp2_with fail
      clear k0 k1 hWb hp hq
      (with_reducible refine (CA.out _ (Below.refl _ Wb)).mono ?_)
      rintro e w10 ⟨rfl, hb⟩
      have HD10 := Lib.hid ((Below.refl Wb.heap.size Wb).trans (hb.mono (Below.refl Wb.heap.size Wb).size))
      obtain ⟨k0, k1⟩ := HK.out _ HD10.out
      clear hb
      go_wp2_with fail
      clear k0 k1
      (with_reducible refine (RA.out _).mono ?_)
      rintro e w11 ⟨rfl, hb⟩
      have HD11 := Lib.hid (HD10.out.trans (hb.mono HD10.out.size))
      obtain ⟨k0, k1⟩ := HK.out _ HD11.out
      clear hb
      go_wp2_with fail
      clear k0 k1
      (with_reducible refine (CS.out _ HD11.out).mono ?_)
      rintro e w12 ⟨rfl, hb⟩
      have HD12 := Lib.hid (HD11.out.trans (hb.mono HD11.out.size))
      obtain ⟨k0, k1⟩ := HK.out _ HD12.out
      clear hb
      go_wp2_with fail
      clear k0 k1
      (with_reducible refine (RS.out _).mono ?_)
      rintro e w13 ⟨rfl, hb⟩
      have HD13 := Lib.hid (HD12.out.trans (hb.mono HD12.out.size))
      obtain ⟨k0, k1⟩ := HK.out _ HD13.out
      clear hb
      go_wp2_with fail
      clear k0 k1
      (with_reducible refine (CM.out _ HD13.out).mono ?_)
      rintro e w14 ⟨rfl, hb⟩
      have HD14 := Lib.hid (HD13.out.trans (hb.mono HD13.out.size))
      obtain ⟨k0, k1⟩ := HK.out _ HD14.out
      clear hb
      go_wp2_with fail
      clear k0 k1
      (with_reducible refine (RM.out _).mono ?_)
      rintro e w15 ⟨rfl, hb⟩
      have HD15 := Lib.hid (HD14.out.trans (hb.mono HD14.out.size))
      obtain ⟨k0, k1⟩ := HK.out _ HD15.out
      clear hb
      go_wp2_with fail
      clear k0 k1
      (with_reducible refine (CD.out _ HD15.out).mono ?_)
      rintro e w16 ⟨rfl, hb⟩
      have HD16 := Lib.hid (HD15.out.trans (hb.mono HD15.out.size))
      obtain ⟨k0, k1⟩ := HK.out _ HD16.out
      clear hb
      go_wp2_with fail
      clear k0 k1
      (with_reducible refine (RD.out _).mono ?_)
      rintro e w17 ⟨rfl, hb⟩
      have HD17 := Lib.hid (HD16.out.trans (hb.mono HD16.out.size))
      obtain ⟨k0, k1⟩ := HK.out _ HD17.out
      clear hb
      go_wp2_with fail
      clear k0 k1
      (with_reducible refine (CG.out _ HD17.out).mono ?_)
      rintro e w18 ⟨rfl, hb⟩
      have HD18 := Lib.hid (HD17.out.trans (hb.mono HD17.out.size))
      obtain ⟨k0, k1⟩ := HK.out _ HD18.out
      clear hb
      go_wp2_with fail
      clear k0 k1
      (with_reducible refine (RG.out _).mono ?_)
      rintro e w19 ⟨rfl, hb⟩
      have HD19 := Lib.hid (HD18.out.trans (hb.mono HD18.out.size))
      obtain ⟨k0, k1⟩ := HK.out _ HD19.out
      clear hb
      go_wp2_with fail
      clear k0 k1
      (with_reducible refine (CO.out _ HD19.out).mono ?_)
      rintro e w20 ⟨rfl, hb⟩
      have HD20 := Lib.hid (HD19.out.trans (hb.mono HD19.out.size))
      obtain ⟨k0, k1⟩ := HK.out _ HD20.out
      clear hb
      go_wp2_with fail
      clear k0 k1
      (with_reducible refine (RO.out _).mono ?_)
      rintro e w21 ⟨rfl, hb⟩
      have HD21 := Lib.hid (HD20.out.trans (hb.mono HD20.out.size))
      obtain ⟨k0, k1⟩ := HK.out _ HD21.out
      clear hb
      go_wp2_with fail
      clear k0 k1
      (with_reducible refine (CI.out _ HD21.out).mono ?_)
      rintro e w22 ⟨rfl, hb⟩
      have HD22 := Lib.hid (HD21.out.trans (hb.mono HD21.out.size))
      obtain ⟨k0, k1⟩ := HK.out _ HD22.out
      clear hb
      go_wp2_with fail
      clear k0 k1
      (with_reducible refine (RI.out _).mono ?_)
      rintro e w23 ⟨rfl, hb⟩
      have HD23 := Lib.hid (HD22.out.trans (hb.mono HD22.out.size))
      obtain ⟨k0, k1⟩ := HK.out _ HD23.out
      clear hb
      go_wp2_with fail
      clear k0 k1
      go_region_held3 (fun w' => w'.cell? ⟨wr.heap.size, 0, none⟩ = some (.string p) ∧ w'.cell? ⟨wr.heap.size, 1, none⟩ = some (.string q))
        (first
          | exact HK.out _ HD23.out.drew
          | exact HK.out _ hD1
          | exact HK.out _ hD2
          | go_keep)
        (first
          | (go_at_call 23; (with_reducible refine (CV.out _).mono ?_); rintro e w40 ⟨rfl, rfl⟩)
          | (go_at_call 24; (with_reducible refine (RV.out _).mono ?_); rintro e w41 ⟨rfl, rfl⟩)
          | (go_at_call 25; (with_reducible refine (CC.out _).mono ?_); rintro e w42 ⟨rfl, hb1⟩; have hD1 := below1 HD23.out.drew hb1)
          | (go_at_call 26; (with_reducible refine (RC.out _).mono ?_); rintro e w43 ⟨rfl, hb2⟩; have hD2 := below1 hD1 hb2))
      go_wp2
      go_roundw
      case rel => exact ⟨i + 1, by omega, by go_num, HR.out _ hD2⟩
      case measure => simp [intOf]; omega
    · obtain rfl : i = 3 := by omega
      have hbw : Below w.heap.size w wr := (HB5.out.alloc HB5.out.size (.cells (rowA u v x y z fn) 23)).trans (hB.mono (by have := HB5.out.size; omega))
      have HBW := Lib.hid hbw
      clear hB hbw
      go_wp2_with fail
      (with_reducible refine (CF.out _ HBW.out).mono ?_)
      rintro e w6 ⟨rfl, hb⟩
      have HB6 := Lib.hid (HBW.out.trans (hb.mono HBW.out.size))
      clear hb
      go_wp2_with fail
      (with_reducible refine (CR.out _).mono ?_)
      rintro e w7 ⟨rfl, hb⟩
      have HB7 := Lib.hid (HB6.out.trans (hb.mono HB6.out.size))
      clear hb
      go_wp2
      go_ret
      exact ⟨rfl, HB7.out⟩
end Go.Proofs.YtebjjgbdiabapaaGreatDoor
