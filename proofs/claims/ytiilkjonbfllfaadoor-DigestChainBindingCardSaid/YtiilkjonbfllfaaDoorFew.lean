/- few, walked; texts cut. -/
import Derived.Test.YtiilkjonbfllfaaDoorSaneW
namespace Go.Proofs.YtiilkjonbfllfaaDoor
open Go.RowKit

def cut60 (s : ByteArray) : ByteArray := s.extract 0 (min s.size 60)
theorem cut60_size (s : ByteArray) : (cut60 s).size ≤ 60 := by unfold cut60; rw [ByteArray.size_extract]; omega
def fewL (ps : List ByteArray) (n : Nat) : List ByteArray := (ps.take n).map cut60
theorem fewL_length (ps : List ByteArray) (n : Nat) : (fewL ps n).length = min n ps.length := by simp [fewL]
theorem fewL_size (ps : List ByteArray) (n : Nat) : ∀ s ∈ fewL ps n, s.size ≤ 60 := by
  intro s hs
  obtain ⟨t, _, rfl⟩ := List.mem_map.1 hs
  exact cut60_size t
theorem fewL_step (ps : List ByteArray) (k : Nat) (h : k < ps.length) : fewL ps (k + 1) = fewL ps k ++ [cut60 (ps.getD k ByteArray.empty)] := by
  unfold fewL
  rw [List.take_succ_eq_append_getElem h, List.map_append, List.getD_eq_getElem?_getD, List.getElem?_eq_getElem h]; rfl
theorem fewL_all (ps : List ByteArray) (k : Nat) (h : ps.length ≤ k) : fewL ps k = fewL ps ps.length := by
  unfold fewL; rw [List.take_of_length_le h, List.take_length]
/-- A slice of texts that the call made: it may be nil, it may have room. -/
def StrOwn (w : World) (ps : List ByteArray) (v : Value) (w' : World) : Prop :=
  ∃ al c, v = .slice al ps.length c ∧ ps.length ≤ c ∧ c ≤ maxLen ∧ w'.ownsRow w.heap.size 9 1 v ps.length (ps.map Value.string) ∧ Below w.heap.size w w'
theorem strs_of_own {w : World} {base c : Nat} {al : Option Addr} {ps : List ByteArray} (h : w.ownsRow base 9 1 (.slice al ps.length c) ps.length (ps.map Value.string)) : Strs w al ps.length ps := by
  refine ⟨rfl, ?_⟩
  rcases Nat.eq_zero_or_pos ps.length with h0 | h0
  · exact .inl h0
  · obtain ⟨g, c', e, _, hg, hc⟩ := own_slice h h0
    injection e with e1 _ _
    refine .inr ⟨g, 0, e1, hg, fun i hi => ?_⟩
    rw [Nat.zero_add]
    refine hc i _ ?_
    rw [List.getElem?_map, List.getD_eq_getElem?_getD, List.getElem?_eq_getElem hi]; rfl
theorem own_form {w : World} {base n : Nat} {e : TypeId} {v : Value} {xs : List Value} (h : w.ownsRow base e 1 v n xs) : ∃ al c, v = .slice al n c ∧ n ≤ c ∧ c ≤ maxLen := by
  rcases h.2 with ⟨rfl, rfl⟩ | ⟨g, c, cur, rfl, _, _, h1, h2, _⟩
  · exact ⟨none, 0, rfl, Nat.le_refl _, by decide⟩
  · exact ⟨_, c, rfl, h1, h2⟩

set_option maxRecDepth 100000 in
set_option maxHeartbeats 4000000 in
theorem few_any (al : Option Addr) (len c n : Nat) (ps : List ByteArray) (hn : n ≤ 100) (hlen : len ≤ maxLen) (w : World) (h : Strs w al len ps) (hsz : ∀ s ∈ ps, s.size ≤ maxLen) :
    Calls Tryd.prog 21 #[.slice al len c, .int .i64 n] w fun e w' => ∃ v, e = .returned v ∧ StrOwn w (fewL ps n) v w' := by
  obtain ⟨i0, hi0, hz0, hz1, hz2⟩ := info_parts info9
  have HL := Lib.hid h; have HSZ := Lib.hid hsz
  clear h hsz
  unfold maxLen at hlen
  go_enter Tryd.func21, Tryd.ntmps21
  go_wp2
  go_loopg [5, 6] n (fun gk v iv wr => ∃ k : Nat, iv = .int .i64 k ∧ gk = n - k ∧ k ≤ n ∧ k ≤ len ∧ wr.ownsRow w.heap.size 9 1 v k ((fewL ps k).map Value.string) ∧ Below w.heap.size w wr)
  case atStart => exact ⟨0, rfl, by omega, Nat.zero_le _, Nat.zero_le _, World.ownsRow_nil _ _ _ _, Below.refl _ _⟩
  case round =>
    obtain ⟨k, rfl, hgk, hkn, hkl, hown, hB⟩ := hrel
    have HGK := Lib.hid hgk; clear hgk
    by_cases h1 : k < len
    · by_cases h2 : k < n
      · obtain ⟨g, o, rfl, hg, hcs⟩ := strs_out HL.out h1
        have hpl := HL.out.1
        have hc0 := (hB.cell (p := ⟨g, o + k, none⟩) hg).trans (hcs k h1)
        have hmem : ps.getD k ByteArray.empty ∈ ps := by
          rw [List.getD_eq_getElem?_getD, List.getElem?_eq_getElem (by omega)]; exact List.getElem_mem _
        have hps := HSZ.out _ hmem
        have HST := Lib.hid (fewL_step ps k (by omega))
        unfold maxLen at hps
        clear hcs hmem hpl
        generalize ps.getD k ByteArray.empty = p at *
        have hki : (k : Int) < len := by omega
        have hk0 : (0 : Int) ≤ k := by omega
        obtain ⟨q, hq⟩ : ∃ q, min p.size 60 = q := ⟨_, rfl⟩
        have hmin : min (p.size : Int) 60 = q := by omega
        have hqp : (q : Int) ≤ p.size := by omega
        have HQ := Lib.hid (show p.extract 0 q = cut60 p by rw [cut60, hq])
        clear hq
        obtain ⟨y, hy⟩ : ∃ y, p.extract 0 q = y := ⟨_, rfl⟩
        have HY := Lib.hid hy; clear hy
        go_wp2_with fail
        go_region_law ((refine step_append_lies _ (by rfl) _ _ _ (by rfl) w.heap.size 9 i0 _ 1 16 Tryd.underlying26 hi0 hz0 hz1 hz2 rfl (by omega) u5 k ((fewL ps k).map Value.string) (by rfl) ((hown.alloc _).drew) ⟨wr.heap.size, 0, none⟩ 1 1 [.string (p.extract 0 q)] (by rfl) (by rfl) (World.news_of_block (cs := #[.string (p.extract 0 q)]) (t := 9) (fr := (0, 0)) (heap_alloc_new wr _)) (by simp [Value.oneCell']) (by omega) (by unfold maxLen; omega) (by omega) (by have := hB.size; simp; omega) (wr.heap.size + 1) (by simp) ?_; intro gg cap w5 hown5 hgrow hat hlt5))
        all_goals
          have hB5 : Below w.heap.size w w5 := ((hB.alloc hB.size _).drew).grown hgrow (by have := hB.size; simp; omega) (own_lt hown)
          have hown6 : w5.ownsRow w.heap.size 9 1 (.slice (some ⟨gg, 0, none⟩) (k + 1) cap) (k + 1) ((fewL ps (k + 1)).map Value.string) := by
            rw [HST.out, List.map_append, ← HQ.out]; exact hown5
          clear hown5 hgrow hown
          go_wp2_with fail
          go_roundg (n - (k + 1))
          case measure => have := HGK.out; omega
          case rel => exact ⟨k + 1, by go_num, rfl, by omega, by omega, hown6, hB5⟩
      · obtain rfl : k = n := by omega
        obtain ⟨al2, c2, rfl, r1, r2⟩ := own_form hown
        have hfl : (fewL ps k).length = k := by rw [fewL_length, HL.out.1]; omega
        have hki : (k : Int) < len := by omega
        have HF := Lib.hid hfl; clear hfl
        go_wp2_with fail
        go_ret
        refine ⟨_, rfl, al2, c2, ?_, by rw [HF.out]; exact r1, r2, ?_, hB⟩
        · rw [HF.out]; rfl
        · rw [HF.out]; exact hown
    · obtain rfl : k = len := by omega
      obtain ⟨al2, c2, rfl, r1, r2⟩ := own_form hown
      have hfe : fewL ps n = fewL ps k := by rw [fewL_all ps n (by rw [HL.out.1]; exact hkn), HL.out.1]
      have hfl : (fewL ps k).length = k := by rw [fewL_length, HL.out.1]; omega
      have HF := Lib.hid hfl; have HE := Lib.hid hfe; clear hfl hfe
      go_wp2_with fail
      go_ret
      refine ⟨_, rfl, al2, c2, ?_, by rw [HE.out, HF.out]; exact r1, r2, ?_, hB⟩
      · rw [HE.out, HF.out]; rfl
      · rw [HE.out, HF.out]; exact hown
end Go.Proofs.YtiilkjonbfllfaaDoor
