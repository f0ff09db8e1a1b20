/- text, walked. -/
import Derived.Lib.AppendIntMem
import Derived.Test.YtebjjgbdiabapaaGreatDoorBld
import Derived.Test.YtebjjgbdiabapaaGreatDoorShelf
import Derived.Test.YtebjjgbdiabapaaGreatDoorTxm
import Derived.Test.YtebjjgbdiabapaaGreatDoorTim
namespace Go.Proofs.YtebjjgbdiabapaaGreatDoor
open Go.RowKit Go.Shelf
attribute [local go_sem] Oper.semAt_some

/-- The library's table of powers lies as its text lays it. -/
abbrev Tb (w : World) : Prop := Lib.TabIs Tryz.prog w "internal/strconv.uint64pow10" .u64 Lib.pow10Tab
theorem Tb.below {w w' : World} (h : Tb w) (hb : Below w.heap.size w w') : Tb w' := Lib.tabBelow_of_tabIs h w' hb
theorem below_grow (w : World) (q : Nat) (os : Array Obj) : Below w.heap.size w (Go.Sort.grow (w.drewN q) os) :=
  ⟨rfl, rfl, rfl, by simp [Go.Sort.grow], fun i hi => by
    show ((w.drewN q).heap ++ os)[i]? = _
    rw [Array.getElem?_append_left (by show i < w.heap.size; omega)]
    rfl⟩

def StrOut (w : World) (l : List UInt8) (e : Ending) (w' : World) : Prop := e = .returned (.string ⟨l.toArray⟩) ∧ Below w.heap.size w w'

set_option maxRecDepth 100000 in
set_option maxHeartbeats 1000000 in
theorem or_first (g : Nat) (s _t : ByteArray) (w : World) (h0 : w.cell? ⟨g, 0, none⟩ = some (.string s)) (hs : s.toList.isEmpty = false) :
    Calls Tryz.prog 64 #[.slice (some ⟨g, 0, none⟩) 2 2] w fun e w' => e = .returned (.string s) ∧ w' = w := by
  go_enter Tryz.func64, Tryz.ntmps64
  go_wp2
  go_loop [8] (fun iv => iv = .int .i64 0) (fun iv => 0)
  case atStart => exact rfl
  case round =>
    obtain rfl := hrel
    go_wp2
    go_ret
    exact ⟨rfl, rfl⟩
set_option maxRecDepth 100000 in
set_option maxHeartbeats 1000000 in
theorem or_second (g : Nat) (s t : ByteArray) (w : World) (h0 : w.cell? ⟨g, 0, none⟩ = some (.string s)) (h1 : w.cell? ⟨g, 1, none⟩ = some (.string t)) (hs : s.toList.isEmpty = true) (ht : t.toList.isEmpty = false) :
    Calls Tryz.prog 64 #[.slice (some ⟨g, 0, none⟩) 2 2] w fun e w' => e = .returned (.string t) ∧ w' = w := by
  go_enter Tryz.func64, Tryz.ntmps64
  go_wp2
  go_loop [8] (fun iv => iv = .int .i64 0 ∨ iv = .int .i64 1) (fun iv => 2 - (intOf iv).toNat)
  case atStart => exact .inl rfl
  case round =>
    rcases hrel with rfl | rfl
    · go_wp2
      exact ⟨.inr rfl, by decide⟩
    · go_wp2
      go_ret
      exact ⟨rfl, rfl⟩
theorem isEmpty_str (l : List UInt8) : (⟨l.toArray⟩ : ByteArray).toList.isEmpty = l.isEmpty := by rw [ByteArray.toList_eq]
/-- A builder stays one behind the turn of a block that is no cells. -/
theorem bld_grown {B b : Nat} {l : List UInt8} {X Y : World} {row : Option Nat} (h : Bld B b l X) (hg : X.grownBy Y row) (hr : ∀ r, row = some r → ∃ o : Obj, X.heap[r]? = some o ∧ o.isCells = false) : Bld B b l Y := by
  have key : ∀ p, Lib.BuilderAt 82 5 B b p (Lib.byteCells l) X → Lib.BuilderAt 82 5 B b p (Lib.byteCells l) Y := by
    rintro p ⟨hB, v, hbk, hown, hne⟩
    refine ⟨hB, v, (hg.block b (Array.getElem?_eq_some_iff.1 hbk).1 (fun e => ?_)).trans hbk, hown.kept hg ?_, hne⟩
    · obtain ⟨o, ho, hc⟩ := hr b e.symm
      rw [hbk] at ho; cases ho; cases hc
    · rcases hown.2 with ⟨rfl, _⟩ | ⟨g, cap, cur, rfl, _, hgb, _⟩
      · exact .inl rfl
      · refine .inr fun e' => ?_
        obtain ⟨o, ho, hc⟩ := hr g (by simpa [Value.ownBlock] using e'.symm)
        rw [hgb] at ho; cases ho; cases hc
  exact h.imp (key _) (key _)
theorem bld_below {B b : Nat} {l : List UInt8} {X Y : World} (h : Bld B b l X) (hb : Below X.heap.size X Y) : Bld B b l Y :=
  bld_grown h (row := none) ⟨hb.os, hb.tape, hb.output, hb.size, fun k hk _ => hb.block k hk⟩ (fun r e => by cases e)
theorem bld_alloc {B b : Nat} {l : List UInt8} {X : World} (h : Bld B b l X) (o : Obj) : Bld B b l (X.alloc o) := bld_below h ((Below.refl _ _).alloc (Nat.le_refl _) _)
theorem ext_cons (a : UInt8) (l : List UInt8) : (⟨(a :: l).toArray⟩ : ByteArray).extract 1 (l.length + 1) = ⟨l.toArray⟩ := by
  apply ByteArray.ext
  apply Array.ext'
  simp [ByteArray.data_extract]
/-- Between two groups. -/
def TexI (w : World) (Bs : Nat) (v : Value) (zs : List Int) (pre : List (Fin zs.length)) (W : World) : Prop :=
  Bld w.heap.size w.heap.size (accT zs pre) W ∧ Boxed W Bs 47 v ∧ Below w.heap.size w W
theorem texI_own (w : World) (Bs : Nat) (v : Value) (zs : List Int) (B' : Nat) (hB' : w.heap.size ≤ B') : OwnFrom B' (TexI w Bs v zs) := by
  rintro s X Y row ⟨h1, h2, h3⟩ hg hr
  have hr' := fun r e => (hr r e).2
  exact ⟨bld_grown h1 hg hr', boxed_own (β := Unit) _ _ (fun _ => v) () X Y row h2 hg hr', ownFrom_below (β := Unit) (Nat.le_refl _) hB' () X Y row h3 hg hr⟩

set_option maxRecDepth 100000 in
set_option maxHeartbeats 2000000 in
theorem text_any (w : World) (v : Value) (n : Nat) (h : Nt w v n) (ht : Tb w) (hln : (dz 10000 n).length ≤ 20000) :
    Calls Tryz.prog 42 #[v] w (StrOut w (txt n)) := by
  have HTD := Lib.hid (text_done n)
  have HDG := Lib.hid (dig4 n)
  have hall := txt_ne n
  unfold Nt at h
  generalize dz 10000 n = zs at *
  obtain ⟨al, c, rfl, _⟩ := h.shape
  obtain ⟨N, hNe⟩ : ∃ N, zs.length = N := ⟨_, rfl⟩
  have HN := Lib.hid hNe
  have h' := h
  rw [hNe] at h' ⊢
  have HL := Lib.hid h'
  have HT := Lib.hid ht
  clear h h' ht hNe
  have bB := Lib.fresh_isBuilder 82 5 w
  have bS := Boxed.new (w.alloc (.cells #[.pointer none, .slice none 0 0] 82)) 47 (.slice al N c)
  rw [World.size_alloc] at bS
  have hB0 : Below w.heap.size w ((w.alloc (.cells #[.pointer none, .slice none 0 0] 82)).alloc (.cells #[.slice al N c] 47)) := ((Below.refl _ w).alloc (Nat.le_refl _) _).alloc (by simp) _
  have hls0 := Lib.hid (HL.out.below (Nat.le_refl _) hB0)
  have hblk : blkOf (w.heap.size + 1) (.slice al N c) = w.heap.size + 1 ∨ blkOf (w.heap.size + 1) (.slice al N c) < w.heap.size := by
    rcases HL.out with ⟨h1, _⟩ | ⟨b, o, c2, h1, _, hlt2, _⟩
    · rw [h1]; exact .inl rfl
    · rw [h1]; exact .inr hlt2
  refine (callsIn_wide (n := 3)).1 ?_
  refine callsIn_of_wp_marks Tryz.func42 rfl trivial ?_ rfl
  simp only [Tryz.ntmps42, List.size_toArray, List.length_cons, List.length_nil, Nat.reduceAdd, Nat.reduceSub, Array.replicate_succ, Array.replicate_zero, List.push_toArray, List.append_toArray, List.nil_append, List.cons_append]
  gi_wp2_with (refine ⟨trivial, ?_⟩; gi_at_call 62; refine (backward_in Fence.wide _ trivial rfl _ _ _ _ rfl _).mono ?_; rintro e w' ⟨rfl, rfl⟩)
  refine wpIn_rangeFunc_ownG rfl (by decide) (gf := 83) (lb := #[.pointer (some ⟨w.heap.size + 1, 0, none⟩)]) rfl trivial (enters_of Tryz.func83 (by kernel_rfl) rfl)
    (backward_stops Fence.wide _ trivial rfl (by decide) (w.heap.size + 1) _ zs (by omega) _ bS.cell hls0.out) kq_t (kq_b (by simp) (by have := blk_lt hls0.out (Bs := w.heap.size + 1) (by simp); exact this)) (Below.refl _ _) (fun _ => rfl)
    (fun pre W => TexI w (w.heap.size + 1) (.slice al N c) zs pre W)
    (fun _ _ _ => False)
    (texI_own w (w.heap.size + 1) _ zs _ (by simp; omega))
    (fun _ _ _ _ _ hs _ _ => hs)
    ⟨bld_alloc bB _, bS, hB0⟩
    ?a1 ?assign ?body ?done ?stop
  case assign =>
    intro l x W K hK
    gi_wp2
    exact hK
  case body =>
    rintro l pre x W ⟨hb, hs, hB⟩ hlt'
    have hgx := HDG.out _ (List.getElem_mem x.isLt)
    obtain ⟨g, hg⟩ : ∃ g : Nat, zs[x.val] = (g : Int) := Int.eq_ofNat_of_zero_le hgx.1
    rw [hg] at hgx
    have hg9 : g < 10000 := by omega
    have hacc := Lib.hid (accT_snoc zs pre x)
    rw [hg] at hacc
    have hal := Lib.hid (accT_length zs pre)
    have HB := Lib.hid hB; have HBL := Lib.hid hb; have HS := Lib.hid hs
    clear hB hb hs
    have CI := Lib.hid (Tryz.strconv_Itoa ((10000 + g : Nat) : Int) (by omega) (by omega) W (HT.out.below HB.out))
    rw [itoa_group g hg9] at CI
    obtain ⟨z, hz⟩ : ∃ z : Int, (10000 : Int) + (g : Int) = z := ⟨_, rfl⟩
    rw [show ((10000 + g : Nat) : Int) = z by omega] at CI
    have hex := ext_cons 49 (blk4 (g : Int))
    have CW := Lib.hid (fun W1 (hW : Below W.heap.size W W1) => writeString_any w.heap.size w.heap.size (accT zs pre) ⟨(blk4 (g : Int)).toArray⟩ W1 (bld_below HBL.out hW) (by rw [hal.out]; have : (blk4 (g : Int)).length = 4 := rfl; show 4 * pre.length + (blk4 (g : Int)).length ≤ _; omega) (by have := HB.out.size; have := hW.size; omega))
    gi_wp2_with (first
      | (refine ⟨trivial, ?_⟩; gi_at_call 54; refine (CallsIn.inRound l (callsIn_wide.2 CI.out)).mono ?_; rintro e w1 ⟨rfl, q, os, hw⟩; have HB1 := Lib.hid (show Below W.heap.size W w1 by rw [hw]; exact below_grow W q os); clear hw)
      | (refine ⟨trivial, ?_⟩; gi_at_call 63; refine (CallsIn.inRound l (callsIn_wide.2 (CW.out _ HB1.out))).mono ?_; rintro e w2 ⟨rfl, hb2, hl2, ho2⟩; have HBL2 := Lib.hid hb2; have HB2 := Lib.hid hl2; have HO2 := Lib.hid ho2; clear hb2 hl2 ho2))
    have hB2 : Below w.heap.size w w2 := (HB.out.trans (HB1.out.mono HB.out.size)).trans HB2.out
    have kept : ∀ k o, W.heap[k]? = some o → k ≠ w.heap.size → (∀ cs fz, o ≠ .cells cs 5 fz) → w2.heap[k]? = some o := fun k o hk h1 h2 => HO2.out k o ((HB1.out.block k (Array.getElem?_eq_some_iff.1 hk).1).trans hk) (fun e => h1 (by cases e; rfl)) h2
    refine ⟨⟨?_, fun k o hk h1 h2 => kept k o h1 (by simp at hk; omega) (fun cs fz e => by rw [e] at h2; cases h2)⟩, fun k hk hlt2 => ?_, ?_, ?_, hB2⟩
    · exact Nat.le_trans HB1.out.size HB2.out.size
    · have hbs : w2.heap[w.heap.size + 1]? = W.heap[w.heap.size + 1]? := by
        rw [HS.out]; exact kept _ _ HS.out (by omega) (fun cs fz e => by cases e)
      have hold : ∀ j, j < w.heap.size → w2.heap[j]? = W.heap[j]? := fun j hj => (hB2.block j hj).trans (HB.out.block j hj).symm
      rcases hk with rfl | rfl
      · exact hbs
      · rcases hblk with e | e
        · rw [e]; exact hbs
        · exact hold _ e
    · rw [hacc.out]; exact HBL2.out
    · exact kept _ _ HS.out (by omega) (fun cs fz e => by cases e)
  case done =>
    rintro D ys W hD rfl ⟨hb, hs, hB⟩ hK
    have HBL := Lib.hid hb; have HB := Lib.hid hB; have HK := Lib.hid hK
    have CS := Lib.hid (Tryz.Builder_String_any_k w.heap.size w.heap.size (accT zs (dn zs.length (Nat.le_refl _))) W (Lib.IsBuilderF.of HBL.out) HB.out.size)
    have CTr := Lib.hid (fun W' => Tryz.strings_TrimLeft_one ⟨(accT zs (dn zs.length (Nat.le_refl _))).toArray⟩ 48 (by decide) W')
    have el : (⟨(accT zs (dn zs.length (Nat.le_refl _))).toArray⟩ : ByteArray).data.toList = accT zs (dn zs.length (Nat.le_refl _)) := by simp
    rw [el, HTD.out] at CTr
    clear el
    by_cases hn : n = 0
    · rw [if_pos hn] at CTr
      have htx : Hid (txt n = [48]) := by rw [hn]; exact Lib.hid rfl
      gi_wp2_with (first
        | (refine ⟨trivial, ?_⟩; gi_at_call 66; refine (callsIn_wide.2 CS.out).mono ?_; rintro e w2 ⟨rfl, _, hb2, ho2⟩; have HB2 := Lib.hid hb2; have HO2 := Lib.hid ho2; clear hb2 ho2)
        | (refine ⟨trivial, ?_⟩; gi_at_call 65; refine (callsIn_wide.2 (CTr.out _)).mono ?_; rintro e w3 ⟨rfl, rfl⟩)
        | (refine ⟨trivial, ?_⟩; gi_at_call 64; refine (callsIn_wide.2 (or_second _ ⟨#[]⟩ ⟨#[48]⟩ _ (by rw [cell_of_row _ _ 0 _ _ _ (heap_alloc_new _ _)]; rfl) (by rw [cell_of_row _ _ 1 _ _ _ (heap_alloc_new _ _)]; rfl) (isEmpty_str []) (isEmpty_str [48]))).mono ?_; rintro e w4 ⟨rfl, rfl⟩; refine Hid.out ?_))
      refine Lib.hid ?_
      have hK2 : (w3.alloc (.cells #[.string ⟨#[]⟩, .string ⟨#[48]⟩] 9)).heap[D]? = some (Obj.deferred (some [])) :=
        (Below.heap_alloc _ _ _ (Array.getElem?_eq_some_iff.1 (HO2.out D _ HK.out (by intro e; cases e; simp at hD; omega) (fun cs fz e => by cases e))).1).trans (HO2.out D _ HK.out (by intro e; cases e; simp at hD; omega) (fun cs fz e => by cases e))
      have hB3 : Below w.heap.size w (w3.alloc (.cells #[.string ⟨#[]⟩, .string ⟨#[48]⟩] 9)) := (HB.out.trans HB2.out).alloc (Nat.le_trans HB.out.size HB2.out.size) _
      gi_wp2
      refine ⟨by simp, .inl ⟨_, _, rfl, run_takeDeferred hK2, ?_⟩⟩
      refine ⟨_, results_tmp rfl _ _ _, ?_, hB3.trans (belowK_b (w := w) (Nat.le_refl _) _ D _ _ (by simp at hD; omega) hK2 rfl rfl)⟩
      rw [htx.out]; rfl
    · rw [if_neg hn] at CTr
      have hemp : (⟨(txt n).toArray⟩ : ByteArray).toList.isEmpty = false := by rw [isEmpty_str]; simpa using hall
      gi_wp2_with (first
        | (refine ⟨trivial, ?_⟩; gi_at_call 66; refine (callsIn_wide.2 CS.out).mono ?_; rintro e w2 ⟨rfl, _, hb2, ho2⟩; have HB2 := Lib.hid hb2; have HO2 := Lib.hid ho2; clear hb2 ho2)
        | (refine ⟨trivial, ?_⟩; gi_at_call 65; refine (callsIn_wide.2 (CTr.out _)).mono ?_; rintro e w3 ⟨rfl, rfl⟩)
        | (refine ⟨trivial, ?_⟩; gi_at_call 64; refine (callsIn_wide.2 (or_first _ ⟨(txt n).toArray⟩ ⟨#[48]⟩ _ (by rw [cell_of_row _ _ 0 _ _ _ (heap_alloc_new _ _)]; rfl) hemp)).mono ?_; rintro e w4 ⟨rfl, rfl⟩; refine Hid.out ?_))
      refine Lib.hid ?_
      have hK2 : (w3.alloc (.cells #[.string ⟨(txt n).toArray⟩, .string ⟨#[48]⟩] 9)).heap[D]? = some (Obj.deferred (some [])) :=
        (Below.heap_alloc _ _ _ (Array.getElem?_eq_some_iff.1 (HO2.out D _ HK.out (by intro e; cases e; simp at hD; omega) (fun cs fz e => by cases e))).1).trans (HO2.out D _ HK.out (by intro e; cases e; simp at hD; omega) (fun cs fz e => by cases e))
      have hB3 : Below w.heap.size w (w3.alloc (.cells #[.string ⟨(txt n).toArray⟩, .string ⟨#[48]⟩] 9)) := (HB.out.trans HB2.out).alloc (Nat.le_trans HB.out.size HB2.out.size) _
      gi_wp2
      refine ⟨by simp, .inl ⟨_, _, rfl, run_takeDeferred hK2, ?_⟩⟩
      refine ⟨_, results_tmp rfl _ _ _, ?_, hB3.trans (belowK_b (w := w) (Nat.le_refl _) _ D _ _ (by simp at hD; omega) hK2 rfl rfl)⟩
      rfl
  case stop =>
    rintro D c pre W _ _ h _
    exact h.elim
end Go.Proofs.YtebjjgbdiabapaaGreatDoor
