/- The walk of DigestSumMatchesReference. -/
import Derived.Test.YtiilkjonbfllfaaDoorRfT
import Derived.Test.YtiilkjonbfllfaaDoorBinW
namespace Go.Proofs.YtiilkjonbfllfaaDoor
open Go.RowKit
theorem cut500_of (s : ByteArray) : ∃ (k : Nat) (S : ByteArray), min (s.size : Int) 500 = k ∧ (k : Int) ≤ s.size ∧ s.extract 0 k = S ∧ S.size ≤ 500 :=
  ⟨min s.size 500, _, by omega, by omega, rfl, by rw [ByteArray.size_extract]; omega⟩

set_option maxRecDepth 100000 in
set_option maxHeartbeats 4000000 in
theorem sum_walk (s t : ByteArray) (w : World) (hT : Tab w) :
    Calls Tryd.prog 3 #[.string s, .string t] w fun e w' => e = .returned (.bool true) ∧ Below w.heap.size w w' := by
  obtain ⟨ks, S, hks1, hks2, hks3, hS⟩ := cut500_of s
  obtain ⟨kt, T, hkt1, hkt2, hkt3, hU⟩ := cut500_of t
  have hz : 0 < w.heap.size := hT.1
  have HT := Lib.hid (fun W (hB : Below w.heap.size w W) => hT.below hB hz)
  have HKS := Lib.hid hks3; have HKT := Lib.hid hkt3; have HT0 := Lib.hid hT
  have h1 : ((dg S).toList == (dg S).toList) = true := by simp
  have h2 : ((leaf T).toList == (leaf T).toList) = true := by simp
  have h3 : ((node S T).toList == (node S T).toList) = true := by simp
  have h4 : ((chain T S).toList == (chain T S).toList) = true := by simp
  clear hks3 hkt3 hT
  go_enter Tryd.func3, Tryd.ntmps3
  go_wp2_with fail
  refine (sane_any _ HT0.out).mono ?_
  rintro e w1 ⟨rfl, hb1⟩
  have HB := Lib.hid hb1; clear hb1
  go_wp2_with fail
  rw [HKS.out, HKT.out]
  refine (sum_any S (by omega) _ (HT.out _ HB.out)).mono ?_
  rintro e v0 ⟨rfl, hb⟩
  have HB' := Lib.hid (HB.out.trans (hb.mono HB.out.size)); clear hb HB
  have HB := HB'; clear HB'
  go_wp2_with fail
  refine (rsum_any S (by omega) _).mono ?_
  rintro e v1 ⟨rfl, hb⟩
  have HB' := Lib.hid (HB.out.trans (hb.mono HB.out.size)); clear hb HB
  have HB := HB'; clear HB'
  go_wp2_with fail
  refine (leaf_any T (by omega) _ (HT.out _ HB.out)).mono ?_
  rintro e v2 ⟨rfl, hb⟩
  have HB' := Lib.hid (HB.out.trans (hb.mono HB.out.size)); clear hb HB
  have HB := HB'; clear HB'
  go_wp2_with fail
  refine (rleaf_any T (by omega) _ (HT.out _ HB.out)).mono ?_
  rintro e v3 ⟨rfl, hb⟩
  have HB' := Lib.hid (HB.out.trans (hb.mono HB.out.size)); clear hb HB
  have HB := HB'; clear HB'
  go_wp2_with fail
  refine (node_any S T (by omega) (by omega) _ (HT.out _ HB.out)).mono ?_
  rintro e v4 ⟨rfl, hb⟩
  have HB' := Lib.hid (HB.out.trans (hb.mono HB.out.size)); clear hb HB
  have HB := HB'; clear HB'
  go_wp2_with fail
  refine (rnode_any S T (by omega) (by omega) _ (HT.out _ HB.out)).mono ?_
  rintro e v5 ⟨rfl, hb⟩
  have HB' := Lib.hid (HB.out.trans (hb.mono HB.out.size)); clear hb HB
  have HB := HB'; clear HB'
  go_wp2_with fail
  refine (chain_any T S (by omega) (by omega) _ (HT.out _ HB.out)).mono ?_
  rintro e v6 ⟨rfl, hb⟩
  have HB' := Lib.hid (HB.out.trans (hb.mono HB.out.size)); clear hb HB
  have HB := HB'; clear HB'
  go_wp2_with fail
  refine (rchain_any T S (by omega) (by omega) _ (HT.out _ HB.out)).mono ?_
  rintro e v7 ⟨rfl, hb⟩
  have HB' := Lib.hid (HB.out.trans (hb.mono HB.out.size)); clear hb HB
  have HB := HB'; clear HB'
  go_wp2_with fail
  go_ret
  exact ⟨rfl, HB.out⟩
end Go.Proofs.YtiilkjonbfllfaaDoor
