/- The walk of DigestVerifyMatchesReference. -/
import Derived.Test.YtiilkjonbfllfaaDoorRfX
import Derived.Test.YtiilkjonbfllfaaDoorBinW
namespace Go.Proofs.YtiilkjonbfllfaaDoor
open Go.RowKit

set_option maxRecDepth 100000 in
set_option maxHeartbeats 4000000 in
theorem ver_walk (old root s : ByteArray) (ho : old.size ≤ maxLen) (hr : root.size ≤ maxLen) (n i : Int) (hn : n ≤ 9223372036854775807) (hi : -9223372036854775808 ≤ i) (al1 : Option Addr) (n1 c1 : Nat) (ss1 : List ByteArray) (hm1 : n1 ≤ maxLen)
    (hw1 : ∀ s ∈ ss1, s.size ≤ maxLen) (w : World) (hT : Tab w)
    (hr1 : n1 = 0 ∨ ∃ b o, al1 = some ⟨b, o, none⟩ ∧ ∀ i, i < n1 → w.cell? ⟨b, o + i, none⟩ = some (.string (ss1.getD i ByteArray.empty))) :
    Calls Tryd.prog 5 #[.string old, .string root, .int .i64 n, .int .i64 i, .string s, .slice al1 n1 c1] w fun e w' => e = .returned (.bool true) ∧ Below w.heap.size w w' := by
  obtain ⟨ps, hps, hpz⟩ := strs_arg hw1 hr1
  clear hr1 hw1
  obtain ⟨ks, hks1, hks2, hks3⟩ := cut_of s
  have hz : 0 < w.heap.size := hT.1
  have HT := Lib.hid (fun W (hB : Below w.heap.size w W) => hT.below hB hz)
  have HP := Lib.hid hps; have HPZ := Lib.hid hpz; have HKS := Lib.hid hks3; have HT0 := Lib.hid hT
  have hPl : (fewL ps 70).length ≤ 70 := by rw [fewL_length]; omega
  have HPS := Lib.hid (fewL_size ps 70)
  have hS := cut60_size s
  have FP := Lib.hid (fun W hW => few_any al1 n1 c1 70 ps (by omega) hm1 W hW HPZ.out)
  have HO := Lib.hid ho; have HR := Lib.hid hr
  clear hps hpz hks3 hT ho hr
  generalize fewL ps 70 = P at *
  generalize cut60 s = S at *
  go_enter Tryd.func5, Tryd.ntmps5
  go_wp2_with fail
  refine (sane_any _ HT0.out).mono ?_
  rintro e w1 ⟨rfl, hb1⟩
  have HB1 := Lib.hid hb1; clear hb1
  go_wp2_with fail
  refine (FP.out _ (HP.out.below HB1.out)).mono ?_
  rintro e w2 ⟨v2, rfl, a3, c3, rfl, hlc3, hc3, ho3, hb2⟩
  have HB := Lib.hid (HB1.out.trans (hb2.mono HB1.out.size)); have HS := Lib.hid (strs_of_own ho3)
  clear ho3 hb2 HB1
  go_wp2_with fail
  rw [HKS.out]
  refine (verify_any root n i hn hi S (by omega) a3 P.length c3 P (by omega) _ HS.out (fun s hs => Nat.le_trans (HPS.out s hs) (by decide)) (HT.out _ HB.out)).mono ?_
  generalize hV : verS root n i S P = V
  have HV := Lib.hid hV; clear hV
  rintro e y1 ⟨rfl, hb⟩
  have HB' := Lib.hid (HB.out.trans (hb.mono HB.out.size)); have HS' := Lib.hid (HS.out.below hb); clear hb HB HS
  have HB := HB'; have HS := HS'; clear HB' HS'
  go_wp2_with fail
  refine (rverify_any root n i hn hi S hS a3 P.length c3 P (by omega) hlc3 hc3 _ HS.out HPS.out (HT.out _ HB.out)).mono ?_
  rw [HV.out]
  rintro e y2 ⟨rfl, hb⟩
  have HB' := Lib.hid (HB.out.trans (hb.mono HB.out.size)); have HS' := Lib.hid (HS.out.below hb); clear hb HB HS
  have HB := HB'; have HS := HS'; clear HB' HS'
  go_wp2_with fail
  refine (vex_any old root i n hi hn a3 P.length c3 P (by omega) hlc3 hc3 _ HS.out (fun s hs => Nat.le_trans (HPS.out s hs) (by decide)) HO.out HR.out (HT.out _ HB.out)).mono ?_
  generalize hE : vexS old i root n P = E
  have HE := Lib.hid hE; clear hE
  rintro e y3 ⟨rfl, hb⟩
  have HB' := Lib.hid (HB.out.trans (hb.mono HB.out.size)); have HS' := Lib.hid (HS.out.below hb); clear hb HB HS
  have HB := HB'; have HS := HS'; clear HB' HS'
  go_wp2_with fail
  refine (rvex_any old root i n hi hn a3 P.length c3 P (by omega) hlc3 hc3 _ HS.out HPS.out HO.out HR.out (HT.out _ HB.out)).mono ?_
  rw [HE.out]
  rintro e y4 ⟨rfl, hb⟩
  have HB' := Lib.hid (HB.out.trans (hb.mono HB.out.size)); have HS' := Lib.hid (HS.out.below hb); clear hb HB HS
  have HB := HB'; have HS := HS'; clear HB' HS'
  go_wp2_with fail
  go_ret
  exact ⟨rfl, HB.out⟩
end Go.Proofs.YtiilkjonbfllfaaDoor
