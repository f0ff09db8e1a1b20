/- The walk of DigestTreeMatchesReference. -/
import Derived.Test.YtiilkjonbfllfaaDoorRfX
import Derived.Test.YtiilkjonbfllfaaDoorAt
namespace Go.Proofs.YtiilkjonbfllfaaDoor
open Go.RowKit
def prfE (l : List ByteArray) (i : Int) : Int := if 0 ≤ i ∧ i < l.length then 0 else 2
def prfA (l : List ByteArray) (i : Int) : List ByteArray := if 0 ≤ i ∧ i < l.length then prfS l i.toNat else []
def extE (l : List ByteArray) (m : Int) : Int := if 0 ≤ m ∧ m ≤ l.length then 0 else 2
def extA (l : List ByteArray) (m : Int) : List ByteArray := if 0 ≤ m ∧ m ≤ l.length then extS l m.toNat else []
theorem prfA_len (l : List ByteArray) (i : Int) : (prfA l i).length ≤ l.length := by
  unfold prfA
  split
  · exact Nat.le_trans (prf_len _ _) (digits_le _)
  · exact Nat.zero_le _
theorem extA_len (l : List ByteArray) (m : Int) : (extA l m).length ≤ 2 * l.length := by
  unfold extA
  split
  · rename_i h
    exact Nat.le_trans (ext_len _ _ (by omega)) (Nat.mul_le_mul_left 2 (digits_le _))
  · exact Nat.zero_le _
theorem proof_all (al : Option Addr) (n c : Nat) (l : List ByteArray) (hn : n ≤ 1000) (hnc : n ≤ c) (hc : c ≤ maxLen) (w : World) (hl : Strs w al n l) (hls : ∀ s ∈ l, s.size ≤ 400000) (hT : Tab w) (i : Int) :
    Calls Tryd.prog 22 #[.slice al n c, .int .i64 i] w fun e w' => ∃ v, e = .returned (.tuple #[v, .int .i64 (prfE l i)]) ∧ StrOwn w (prfA l i) v w' := by
  have hlen := hl.1
  by_cases h : 0 ≤ i ∧ i < l.length
  · obtain ⟨k, rfl⟩ := Int.eq_ofNat_of_zero_le h.1
    have e1 : prfE l (k : Int) = 0 := if_pos h
    have e2 : prfA l (k : Int) = prfS l k := if_pos h
    rw [e1, e2]
    exact proof_at al n c l hn hnc hc w hl hls hT k (by omega)
  · have e1 : prfE l i = 2 := if_neg h
    have e2 : prfA l i = [] := if_neg h
    rw [e1, e2]
    refine (proof_bad al n c i (by omega) w).mono ?_
    rintro e w' ⟨rfl, rfl⟩
    exact ⟨_, rfl, strown_nil w⟩
theorem rproof_all (al : Option Addr) (n c : Nat) (l : List ByteArray) (hn : n ≤ 1000) (hnc : n ≤ c) (hc : c ≤ maxLen) (w : World) (hl : Strs w al n l) (hls : ∀ s ∈ l, s.size ≤ 400000) (hT : Tab w) (i : Int) :
    Calls Tryd.prog 23 #[.slice al n c, .int .i64 i] w fun e w' => ∃ v, e = .returned (.tuple #[v, .int .i64 (prfE l i)]) ∧ StrOwn w (prfA l i) v w' := by
  have hlen := hl.1
  by_cases h : 0 ≤ i ∧ i < l.length
  · obtain ⟨k, rfl⟩ := Int.eq_ofNat_of_zero_le h.1
    have e1 : prfE l (k : Int) = 0 := if_pos h
    have e2 : prfA l (k : Int) = prfS l k := if_pos h
    rw [e1, e2]
    exact rproof_any n l al n c w k (Nat.le_refl _) hn hnc hc hl hls hT (by omega)
  · have e1 : prfE l i = 2 := if_neg h
    have e2 : prfA l i = [] := if_neg h
    rw [e1, e2]
    refine (rproof_bad al n c i (by omega) w).mono ?_
    rintro e w' ⟨rfl, rfl⟩
    exact ⟨_, rfl, strown_nil w⟩
theorem ext_all (al : Option Addr) (n c : Nat) (l : List ByteArray) (hn : n ≤ 1000) (hnc : n ≤ c) (hc : c ≤ maxLen) (w : World) (hl : Strs w al n l) (hls : ∀ s ∈ l, s.size ≤ 400000) (hT : Tab w) (i : Int) :
    Calls Tryd.prog 24 #[.slice al n c, .int .i64 i] w fun e w' => ∃ v, e = .returned (.tuple #[v, .int .i64 (extE l i)]) ∧ StrOwn w (extA l i) v w' := by
  have hlen := hl.1
  by_cases h : 0 ≤ i ∧ i ≤ l.length
  · obtain ⟨k, rfl⟩ := Int.eq_ofNat_of_zero_le h.1
    have e1 : extE l (k : Int) = 0 := if_pos h
    have e2 : extA l (k : Int) = extS l k := if_pos h
    rw [e1, e2]
    exact ext_at al n c l hn hnc hc w hl hls hT k (by omega)
  · have e1 : extE l i = 2 := if_neg h
    have e2 : extA l i = [] := if_neg h
    rw [e1, e2]
    refine (ext_bad al n c i (by omega) w).mono ?_
    rintro e w' ⟨rfl, rfl⟩
    exact ⟨_, rfl, strown_nil w⟩
theorem rext_all (al : Option Addr) (n c : Nat) (l : List ByteArray) (hn : n ≤ 1000) (hnc : n ≤ c) (hc : c ≤ maxLen) (w : World) (hl : Strs w al n l) (hls : ∀ s ∈ l, s.size ≤ 400000) (hT : Tab w) (i : Int) :
    Calls Tryd.prog 25 #[.slice al n c, .int .i64 i] w fun e w' => ∃ v, e = .returned (.tuple #[v, .int .i64 (extE l i)]) ∧ StrOwn w (extA l i) v w' := by
  have hlen := hl.1
  by_cases h : 0 ≤ i ∧ i ≤ l.length
  · obtain ⟨k, rfl⟩ := Int.eq_ofNat_of_zero_le h.1
    have e1 : extE l (k : Int) = 0 := if_pos h
    have e2 : extA l (k : Int) = extS l k := if_pos h
    rw [e1, e2]
    exact rext_at al n c l hn hnc hc w hl hls hT k (by omega)
  · have e1 : extE l i = 2 := if_neg h
    have e2 : extA l i = [] := if_neg h
    rw [e1, e2]
    refine (rext_bad al n c i (by omega) w).mono ?_
    rintro e w' ⟨rfl, rfl⟩
    exact ⟨_, rfl, strown_nil w⟩

set_option maxRecDepth 100000 in
set_option maxHeartbeats 4000000 in
theorem tree_walk (al1 : Option Addr) (n1 c1 : Nat) (ss1 : List ByteArray) (hm1 : n1 ≤ maxLen) (i m : Int)
    (hw1 : ∀ s ∈ ss1, s.size ≤ maxLen) (w : World) (hT : Tab w)
    (hr1 : n1 = 0 ∨ ∃ b o, al1 = some ⟨b, o, none⟩ ∧ ∀ i, i < n1 → w.cell? ⟨b, o + i, none⟩ = some (.string (ss1.getD i ByteArray.empty))) :
    Calls Tryd.prog 4 #[.slice al1 n1 c1, .int .i64 i, .int .i64 m] w fun e w' => e = .returned (.bool true) ∧ Below w.heap.size w w' := by
  obtain ⟨ps, hps, hpz⟩ := strs_arg hw1 hr1
  clear hr1 hw1
  have hz : 0 < w.heap.size := hT.1
  have HT := Lib.hid (fun W (hB : Below w.heap.size w W) => hT.below hB hz)
  have HP := Lib.hid hps; have HPZ := Lib.hid hpz; have HT0 := Lib.hid hT
  have hPl : (fewL ps 40).length ≤ 40 := by rw [fewL_length]; omega
  have HPS := Lib.hid (fun (x : ByteArray) hx => Nat.le_trans (fewL_size ps 40 x hx) (show 60 ≤ 400000 by decide))
  have FP := Lib.hid (fun W hW => few_any al1 n1 c1 40 ps (by omega) hm1 W hW HPZ.out)
  clear hps hpz hT
  generalize fewL ps 40 = P at *
  have HLP := Lib.hid (prfA_len P i); have HLX := Lib.hid (extA_len P m)
  have hroot : ((root P).toList == (root P).toList) = true := by simp
  obtain ⟨Q, hQ⟩ : ∃ Q, prfA P i = Q := ⟨_, rfl⟩
  obtain ⟨X, hX⟩ : ∃ X, extA P m = X := ⟨_, rfl⟩
  obtain ⟨E1, hE1⟩ : ∃ E1, prfE P i = E1 := ⟨_, rfl⟩
  obtain ⟨E2, hE2⟩ : ∃ E2, extE P m = E2 := ⟨_, rfl⟩
  rw [hQ] at HLP
  rw [hX] at HLX
  have hql : Q.length ≤ 100 := by have := HLP.out; omega
  have hxl : X.length ≤ 100 := by have := HLX.out; omega
  have HS1 := Lib.hid (show sameB Q Q = true by unfold sameB; simp)
  have HS2 := Lib.hid (show sameB X X = true by unfold sameB; simp)
  have HQ := Lib.hid hQ; have HX := Lib.hid hX; have HE1 := Lib.hid hE1; have HE2 := Lib.hid hE2
  clear hQ hX hE1 hE2 HLP HLX
  go_enter Tryd.func4, Tryd.ntmps4
  go_wp2_with fail
  refine (sane_any _ HT0.out).mono ?_
  rintro e w1 ⟨rfl, hb1⟩
  have HB1 := Lib.hid hb1; clear hb1
  go_wp2_with fail
  refine (FP.out _ (HP.out.below HB1.out)).mono ?_
  rintro e w2 ⟨v2, rfl, a3, c3, rfl, hlc3, hc3, ho3, hb2⟩
  have HB := Lib.hid (HB1.out.trans (hb2.mono HB1.out.size)); have HS := Lib.hid (strs_of_own ho3)
  clear ho3 hb2 HB1
  go_wp2_with fail
  refine (proof_all a3 P.length c3 P (by omega) hlc3 hc3 _ HS.out HPS.out (HT.out _ HB.out) i).mono ?_
  rw [HQ.out, HE1.out]
  rintro e y_q1 ⟨v_q1, rfl, a_q1, c_q1, rfl, h1_q1, h2_q1, ho, hb⟩
  have HB' := Lib.hid (HB.out.trans (hb.mono HB.out.size)); have HS' := Lib.hid (HS.out.below hb); have HR_q1 := Lib.hid (strs_of_own ho)
  clear hb ho HB HS
  have HB := HB'; have HS := HS'; clear HB' HS'
  go_wp2_with fail
  refine (rproof_all a3 P.length c3 P (by omega) hlc3 hc3 _ HS.out HPS.out (HT.out _ HB.out) i).mono ?_
  rw [HQ.out, HE1.out]
  rintro e y_q2 ⟨v_q2, rfl, a_q2, c_q2, rfl, h1_q2, h2_q2, ho, hb⟩
  have HB' := Lib.hid (HB.out.trans (hb.mono HB.out.size)); have HS' := Lib.hid (HS.out.below hb); have HR_q2 := Lib.hid (strs_of_own ho)
  have HR'_q1 := Lib.hid (HR_q1.out.below hb); clear HR_q1
  have HR_q1 := HR'_q1; clear HR'_q1
  clear hb ho HB HS
  have HB := HB'; have HS := HS'; clear HB' HS'
  go_wp2_with fail
  refine (ext_all a3 P.length c3 P (by omega) hlc3 hc3 _ HS.out HPS.out (HT.out _ HB.out) m).mono ?_
  rw [HX.out, HE2.out]
  rintro e y_x1 ⟨v_x1, rfl, a_x1, c_x1, rfl, h1_x1, h2_x1, ho, hb⟩
  have HB' := Lib.hid (HB.out.trans (hb.mono HB.out.size)); have HS' := Lib.hid (HS.out.below hb); have HR_x1 := Lib.hid (strs_of_own ho)
  have HR'_q1 := Lib.hid (HR_q1.out.below hb); clear HR_q1
  have HR_q1 := HR'_q1; clear HR'_q1
  have HR'_q2 := Lib.hid (HR_q2.out.below hb); clear HR_q2
  have HR_q2 := HR'_q2; clear HR'_q2
  clear hb ho HB HS
  have HB := HB'; have HS := HS'; clear HB' HS'
  go_wp2_with fail
  refine (rext_all a3 P.length c3 P (by omega) hlc3 hc3 _ HS.out HPS.out (HT.out _ HB.out) m).mono ?_
  rw [HX.out, HE2.out]
  rintro e y_x2 ⟨v_x2, rfl, a_x2, c_x2, rfl, h1_x2, h2_x2, ho, hb⟩
  have HB' := Lib.hid (HB.out.trans (hb.mono HB.out.size)); have HS' := Lib.hid (HS.out.below hb); have HR_x2 := Lib.hid (strs_of_own ho)
  have HR'_q1 := Lib.hid (HR_q1.out.below hb); clear HR_q1
  have HR_q1 := HR'_q1; clear HR'_q1
  have HR'_q2 := Lib.hid (HR_q2.out.below hb); clear HR_q2
  have HR_q2 := HR'_q2; clear HR'_q2
  have HR'_x1 := Lib.hid (HR_x1.out.below hb); clear HR_x1
  have HR_x1 := HR'_x1; clear HR'_x1
  clear hb ho HB HS
  have HB := HB'; have HS := HS'; clear HB' HS'
  go_wp2_with fail
  refine (same_any a_q1 a_q2 Q.length Q.length c_q1 c_q2 Q Q (by omega) (by omega) _ HR_q1.out HR_q2.out).mono ?_
  rw [HS1.out]
  rintro e z1 ⟨rfl, d1, rfl⟩
  go_wp2_with fail
  refine (same_any a_x1 a_x2 X.length X.length c_x1 c_x2 X X (by omega) (by omega) (y_x2.drewN d1) (HR_x1.out.below (below_drewN (Below.refl _ _) d1)) (HR_x2.out.below (below_drewN (Below.refl _ _) d1))).mono ?_
  rw [HS2.out]
  rintro e z2 ⟨rfl, d2, rfl⟩
  have HB9 := Lib.hid (below_drewN (below_drewN HB.out d1) d2)
  have HS9 := Lib.hid (Strs.below HS.out (show Below y_x2.heap.size y_x2 ((y_x2.drewN d1).drewN d2) from below_drewN (below_drewN (Below.refl _ _) d1) d2))
  generalize (y_x2.drewN d1).drewN d2 = W9 at *
  go_wp2_with fail
  refine (root_at a3 P.length c3 P W9 HS9.out (by omega) hlc3 hc3 HPS.out (HT.out _ HB9.out)).mono ?_
  rintro e w8 ⟨rfl, hb⟩
  have HB8 := Lib.hid (HB9.out.trans (hb.mono HB9.out.size)); have HS8 := Lib.hid (HS9.out.below hb)
  clear hb
  go_wp2_with fail
  refine (rroot_at a3 P.length c3 P _ HS8.out (by omega) hlc3 hc3 HPS.out (HT.out _ HB8.out)).mono ?_
  rintro e w9 ⟨rfl, hb⟩
  have HBF := Lib.hid (HB8.out.trans (hb.mono HB8.out.size))
  clear hb
  go_wp2_with fail
  go_ret
  exact ⟨rfl, HBF.out⟩
end Go.Proofs.YtiilkjonbfllfaaDoor
