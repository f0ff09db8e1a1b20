/- heads, walked. -/
import Derived.Test.YtiilkjonbfllfaaDoorAps
namespace Go.Proofs.YtiilkjonbfllfaaDoor
open Go.RowKit

theorem heads_step (l : List ByteArray) (k : Nat) (h : k < l.length) : headsR (l.take (k + 1)).reverse = (chainB (headsR (l.take k).reverse).2 (l.getD k ByteArray.empty) :: (headsR (l.take k).reverse).1, chain (headsR (l.take k).reverse).2 (l.getD k ByteArray.empty)) := by
  rw [List.take_succ_eq_append_getElem h, List.reverse_append, List.reverse_singleton, List.singleton_append, headsR, List.getD_eq_getElem?_getD, List.getElem?_eq_getElem h]; rfl
theorem heads_texts : ∀ (q : List ByteArray), (∀ x ∈ q, x.size ≤ 60) → ∀ x ∈ (headsR q).1, x.size ≤ 800000
  | [], _, x, hx => by cases hx
  | r :: q, hq, x, hx => by
    rw [headsR] at hx
    rcases List.mem_cons.1 hx with rfl | hx
    · have h1 := heads_size q
      have h2 := hq r (List.mem_cons_self ..)
      unfold chainB; rw [size_app, size_app]; show 1 + _ + r.size ≤ _; omega
    · exact heads_texts q (fun z hz => hq z (List.mem_cons_of_mem r hz)) x hx

set_option maxRecDepth 100000 in
set_option maxHeartbeats 4000000 in
theorem heads_any (al : Option Addr) (n c : Nat) (l : List ByteArray) (hn : n ≤ 100) (w : World) (hl : Strs w al n l) (hls : ∀ s ∈ l, s.size ≤ 60) (hT : Tab w) :
    Calls Tryd.prog 36 #[.slice al n c] w fun e w' => ∃ v, e = .returned (.tuple #[v, .string (headsR l.reverse).2]) ∧ StrOwn w (headsR l.reverse).1 v w' := by
  obtain ⟨i0, hi, hz0, hz1, hz2⟩ := info_parts info5
  have HL := Lib.hid hl; have HLS := Lib.hid hls; have HT := Lib.hid hT
  have hz : 0 < w.heap.size := hT.1
  clear hl hls hT
  go_enter Tryd.func36, Tryd.ntmps36
  go_wp2_with (at_make
               refine wpList_make_full _ rfl _ _ 43 rfl w.heap.size 5 i0 (.int .u8 0) 1 Tryd.underlying43 hi hz0 hz1 .i64 .i64 _ _ 32 rfl rfl (by omega) (by omega) (by rw [hz2]; omega) (by unfold maxLen; omega) (Nat.le_refl _) ?_
               intro w1 hown hgrow
               obtain ⟨HK, hB1⟩ := made_bytes w w1 32 hown hgrow
               have hcv := run_convert_bytes_arg (P := Tryd.prog) w1 43 5 Tryd.underlying43 Tryd.underlying5 w.heap.size 0 32 32 ((List.replicate 32 0).map fun n : Nat => (n : Int)) rfl (fun j hj => by rw [Nat.zero_add, cells_at HK.out (i := j) (x := 0) (by rw [List.getElem?_replicate, if_pos hj])]; rw [getD_cast, List.getD_eq_getElem?_getD, List.getElem?_replicate, if_pos hj]; rfl) 9 Tryd.underlying9
               rw [strOfNums_nat, show strN (List.replicate 32 0) = zer32 from rfl] at hcv
               clear hown hgrow)
  clear hcv
  go_loopg [4, 5, 6] n (fun gk hv ov iv wr => ∃ k : Nat, iv = .int .i64 k ∧ gk = n - k ∧ k ≤ n ∧ hv = .string (headsR (l.take k).reverse).2 ∧ wr.ownsRow w.heap.size 9 1 ov k ((headsR (l.take k).reverse).1.map Value.string) ∧ Below w.heap.size w wr)
  case atStart => exact ⟨0, rfl, by omega, Nat.zero_le _, rfl, World.ownsRow_nil _ _ _ _, hB1⟩
  case round =>
    obtain ⟨k, rfl, hgk, hkn, rfl, hown, hB⟩ := hrel
    have HGK := Lib.hid hgk; clear hgk
    by_cases h1 : k < n
    · obtain ⟨g, o, rfl, hg, hcs⟩ := strs_out HL.out h1
      have hpl := HL.out.1
      have hc0 := (hB.cell (p := ⟨g, o + k, none⟩) hg).trans (hcs k h1)
      have HCS := Lib.hid (hcs k h1)
      have hmem : l.getD k ByteArray.empty ∈ l := by
        rw [List.getD_eq_getElem?_getD, List.getElem?_eq_getElem (by omega)]; exact List.getElem_mem _
      have hps := HLS.out _ hmem
      have HST := Lib.hid (heads_step l k (by omega))
      have hhs := heads_size (l.take k).reverse
      clear hcs hmem hpl
      generalize l.getD k ByteArray.empty = p at *
      generalize headsR (l.take k).reverse = r at *
      obtain ⟨ro, rh⟩ := r
      dsimp only at *
      have hki : (k : Int) < n := by omega
      have hk0 : (0 : Int) ≤ k := by omega
      have hro : ro.length = k := by have := hown.1; simpa using this
      obtain ⟨ho1, hb2, hz2w⟩ := pre_own hB (chainB rh p)
      have HSRC := Lib.hid (own_below hown (show Below wr.heap.size wr (wr.alloc (.cells #[.string (chainB rh p)] 9)) from (Below.refl _ _).alloc (Nat.le_refl _) _))
      have HB2 := Lib.hid hb2
      clear hown hb2
      go_wp2_with (first
        | (at_builtin; refine wpList_append_strs rfl _ _ rfl w.heap.size _ 1 _ rfl ho1 w.heap.size _ k ro rfl HSRC.out (by omega) hz2w HB2.out ?_; intro v' w3 hown' hb3; have hc3 := (hb3.cell (p := ⟨g, o + k, none⟩) hg).trans HCS.out)
        | (go_at_call 19; refine (chain_any rh p (by omega) (by omega) _ (HT.out.below hb3 hz)).mono ?_; rintro e w4 ⟨rfl, hb4⟩))
      have hown2 : w4.ownsRow w.heap.size 9 1 v' (k + 1) (chainB rh p :: ro |>.map Value.string) := own_below (by rw [Nat.add_comm]; exact hown') hb4
      go_roundg (n - (k + 1))
      case measure => have := HGK.out; omega
      case rel => exact ⟨k + 1, by go_num, rfl, by omega, by rw [HST.out], by rw [HST.out]; exact hown2, hb3.trans (hb4.mono hb3.size)⟩
    · obtain rfl : k = n := by omega
      obtain ⟨al2, c2, rfl, r1, r2⟩ := own_form hown
      have hfe : headsR (l.take k).reverse = headsR l.reverse := by rw [List.take_of_length_le (by rw [HL.out.1]; exact Nat.le_refl _)]
      have hfl : (headsR l.reverse).1.length = k := by rw [heads_len, List.length_reverse, HL.out.1]
      have HF := Lib.hid hfl; have HE := Lib.hid hfe; clear hfl hfe
      rw [HE.out] at hown
      have HO := Lib.hid hown; clear hown
      go_wp2_with fail
      go_ret2
      refine ⟨_, by rw [← HE.out]; rfl, al2, c2, ?_, by rw [HF.out]; exact r1, r2, ?_, hB⟩
      · rw [HF.out]; rfl
      · rw [HF.out]; exact HO.out
end Go.Proofs.YtiilkjonbfllfaaDoor
