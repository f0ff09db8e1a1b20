/- Integer layer, merged: Txm, Bld, Tex, Nat, Nto, Val, Num. -/
import Derived.Lib.TrimByte
import Derived.Lib.Builder
import Derived.Lib.AppendStr
import Derived.Lib.OthersKept
import Derived.WalkKit
import Derived.WalkLawsBesides
import Derived.Laws.Externs
import Derived.OwnWalk
import Derived.Lib.Hide
import Derived.Lib.AppendIntMem
import Derived.Lib.ConvBytes
import Derived.Lib.AtoiErrMem
import Derived.Test.YtcjcafekacceiaaGreatDoorN
import Derived.Test.YtcjcafekacceiaaGreatDoorShelf
/-! The text of a number out of its groups of four digits: of no program. -/
namespace Go.Proofs.YtcjcafekacceiaaGreatDoor

theorem snoc_ind {α : Type} {p : List α → Prop} (h0 : p []) (h1 : ∀ l x, p l → p (l ++ [x])) (l : List α) : p l := by
  rw [← List.reverse_reverse l]
  induction l.reverse with
  | nil => exact h0
  | cons x l ih => rw [List.reverse_cons]; exact h1 _ _ ih
/-- The four digits of a group, lowest first. -/
def d4 (g : Int) : List Int := [g % 10, g / 10 % 10, g / 100 % 10, g / 1000 % 10]
def blk4 (g : Int) : List UInt8 := txtD (d4 g)
theorem d4_digit (g : Int) : ∀ d ∈ d4 g, 0 ≤ d ∧ d < 10 := by
  intro d hd
  simp only [d4, List.mem_cons, List.not_mem_nil, or_false] at hd
  rcases hd with rfl | rfl | rfl | rfl <;> omega
theorem vz_d4 (g v : Int) (h0 : 0 ≤ g) (h1 : g < 10000) : vt 10 (d4 g) v = g + 10000 * v := by
  simp only [d4, vt]
  omega
theorem vz_flat : ∀ gs : List Int, (∀ g ∈ gs, 0 ≤ g ∧ g < 10000) → vz 10 (gs.flatMap d4) = vz 10000 gs
  | [], _ => rfl
  | g :: gs, h => by
    have hg := h g (List.mem_cons_self ..)
    rw [List.flatMap_cons, vz_append, vz_d4 _ _ hg.1 hg.2, vz_flat gs (fun x hx => h x (List.mem_cons_of_mem _ hx)), vz]
theorem txtD_append (a b : List Int) : txtD (a ++ b) = txtD b ++ txtD a := by simp [txtD]
theorem trimD (F : List Int) : (∀ d ∈ F, 0 ≤ d ∧ d < 10) → (txtD F).dropWhile (· == 48) = txtD (dz 10 (vz 10 F).toNat) := by
  refine snoc_ind (p := fun F => (∀ d ∈ F, 0 ≤ d ∧ d < 10) → (txtD F).dropWhile (· == 48) = txtD (dz 10 (vz 10 F).toNat)) ?_ ?_ F
  · intro _; simp [txtD, vz, dz_zero]
  · intro F d ih h
    have hd := h d (by simp)
    have e : txtD (F ++ [d]) = chr d :: txtD F := by rw [txtD_append]; rfl
    have hc := chr_toNat d hd.1 hd.2
    rw [e]
    by_cases h0 : d = 0
    · subst h0
      have ec : chr 0 = 48 := by decide
      rw [ec, List.dropWhile_cons_of_pos (by decide), ih (fun x hx => h x (by simp [hx]))]
      rw [vz_append, vz, show vz 10 [] = 0 from rfl, Int.mul_zero, Int.add_zero, vt_zero]
    · have hne : ¬ (chr d == 48) = true := by
        intro hh
        have : chr d = 48 := by simpa using hh
        rw [this] at hc
        have h48 : ((48 : UInt8).toNat : Int) = 48 := by decide
        omega
      rw [List.dropWhile_cons, if_neg hne, ← e]
      congr 1
      apply canon_all 10 (by decide) _ h
      right
      simp [h0]
/-- What has been written when the groups have come from the top down. -/
def accT (zs : List Int) (pre : List (Fin zs.length)) : List UInt8 := pre.flatMap (fun x => blk4 zs[x.val])
theorem accT_snoc (zs : List Int) (pre : List (Fin zs.length)) (x : Fin zs.length) : accT zs (pre ++ [x]) = accT zs pre ++ blk4 zs[x.val] := by simp [accT]
theorem accT_length (zs : List Int) (pre : List (Fin zs.length)) : (accT zs pre).length = 4 * pre.length := by
  refine snoc_ind (p := fun pre => (accT zs pre).length = 4 * pre.length) rfl ?_ pre
  intro pre x ih
  rw [accT_snoc, List.length_append, ih]; simp [blk4, txtD, d4]; omega
theorem accT_dn (zs : List Int) : ∀ (i : Nat) (h : i ≤ zs.length), accT zs (dn i h) = txtD ((zs.take i).flatMap d4)
  | 0, _ => by simp [accT, dn, txtD]
  | i + 1, h => by
    rw [dn, List.take_succ_eq_append_getElem h, List.flatMap_append, txtD_append]
    show blk4 zs[i] ++ accT zs (dn i _) = _
    rw [accT_dn zs i]
    simp [blk4]
theorem text_done (n : Nat) : (Go.Lib.trimLeftB (accT (dz 10000 n) (dn (dz 10000 n).length (Nat.le_refl _))) 48) = if n = 0 then [] else txt n := by
  unfold Go.Lib.trimLeftB
  rw [accT_dn, List.take_length, trimD _ (fun d hd => by
    rw [List.mem_flatMap] at hd
    obtain ⟨g, _, hd⟩ := hd
    exact d4_digit g d hd), vz_flat _ (dig4 n), vz4, Int.toNat_natCast]
  split
  · next h => subst h; rw [dz_zero]; rfl
  · next h => unfold txt; rw [if_neg h]
theorem itoa_group (g : Nat) (h : g < 10000) : Go.Lib.itoa ((10000 + g : Nat) : Int) = 49 :: blk4 g := by
  unfold Go.Lib.itoa
  rw [if_neg (by omega), Int.toNat_natCast]
  rw [Go.Lib.decDigits, dif_neg (by omega), Go.Lib.decDigits, dif_neg (by omega), Go.Lib.decDigits, dif_neg (by omega), Go.Lib.decDigits, dif_neg (by omega), Go.Lib.decDigits, dif_pos (by omega)]
  have e1 : (10000 + g) / 10 / 10 / 10 / 10 = 1 := by omega
  have e2 : (10000 + g) / 10 / 10 / 10 % 10 = g / 1000 % 10 := by omega
  have e3 : (10000 + g) / 10 / 10 % 10 = g / 100 % 10 := by omega
  have e4 : (10000 + g) / 10 % 10 = g / 10 % 10 := by omega
  have e5 : (10000 + g) % 10 = g % 10 := by omega
  rw [e1, e2, e3, e4, e5]
  have c : ∀ x : Nat, chr ((x : Nat) : Int) = UInt8.ofNat (48 + x) := fun x => by unfold chr; rw [Int.toNat_natCast]
  have f1 : (g : Int) / 1000 % 10 = ((g / 1000 % 10 : Nat) : Int) := by omega
  have f2 : (g : Int) / 100 % 10 = ((g / 100 % 10 : Nat) : Int) := by omega
  have f3 : (g : Int) / 10 % 10 = ((g / 10 % 10 : Nat) : Int) := by omega
  have f4 : (g : Int) % 10 = ((g % 10 : Nat) : Int) := by omega
  unfold blk4 d4 txtD
  rw [f1, f2, f3, f4]
  simp only [List.map_cons, List.map_nil, c]
  rfl
end Go.Proofs.YtcjcafekacceiaaGreatDoor

/-! strings.Builder's WriteString at a builder of the call's own, walked: it writes behind what stands there. -/
namespace Go.Proofs.YtcjcafekacceiaaGreatDoor
open Go.RowKit

theorem infoByte : (Tryz.prog.info? 5).map (fun i => (i.zero, i.size, i.bytes)) = some (some (.int .u8 0), 1, 1) := by kernel_rfl
abbrev Bld (B b : Nat) (l : List UInt8) (w : World) : Prop := Lib.IsBuilder 122 5 B b (Lib.byteCells l) w

theorem sizeBld : (Tryz.prog.info? 122).map (·.size) = some 2 := by kernel_rfl
theorem liesBld : liesAt Tryz.prog Tryz.prog.depth 122 (2 / Tryz.prog.cellsOf 122) 0 122 1 = true := by kernel_rfl

set_option maxRecDepth 100000 in
set_option maxHeartbeats 1000000 in
theorem copyCheck_any (B b : Nat) (bs : List Value) (w : World) (h : Lib.IsBuilder 122 5 B b bs w) :
    Calls Tryz.prog 138 #[.pointer (some ⟨b, 0, none⟩)] w fun e w' => e = .returned (.tuple #[]) ∧ Lib.BuilderAt 122 5 B b (.pointer (some ⟨b, 0, none⟩)) bs w' ∧ (w' = w ∨ ∃ u, w' = w.setCell ⟨b, 0, none⟩ u) := by
  obtain ⟨j, hj, hjs⟩ := Option.map_eq_some_iff.1 sizeBld
  rcases h with h | h
  · have hc := h.cell0; have hf := h.frozen0
    have H := Lib.hid h
    have hsh := h.shape
    clear h
    go_enter Tryz.func138, Tryz.ntmps138
    go_wp2
    rw [Lib.run_to_unsafe w ⟨b, 0, none⟩ Tryz.underlying120 Tryz.underlying171 hj (by rw [hjs]; decide) hsh (Nat.zero_lt_succ 1)]
    simp only [Result.andThen]
    rw [Oper.upon_value]
    go_wp2
    rw [run_callFunc_extern Tryz.func163 (by kernel_rfl) (by kernel_rfl) (by kernel_rfl) (e := Extern.AbiNoEscape.same) (by kernel_rfl)]
    rw [Lib.run_noEscape]
    simp only [Result.andThen]
    rw [Oper.upon_value]
    go_wp2
    rw [Lib.run_from_unsafe w ⟨b, 0, none⟩ Tryz.underlying171 Tryz.underlying120 hj hsh liesBld]
    simp only [Result.andThen]
    rw [Oper.upon_value]
    go_wp2
    go_end0
    exact ⟨rfl, H.out.used _, .inr ⟨_, rfl⟩⟩
  · have hc := h.cell0
    have H := Lib.hid h
    clear h
    go_enter Tryz.func138, Tryz.ntmps138
    go_wp2
    rw [Lib.run_neq_ptr_same w _ Tryz.underlying120 hj]
    go_wp2
    go_end0
    exact ⟨rfl, H.out, .inl rfl⟩

theorem others_set (T : TypeId) (w : World) (b o : Nat) (u : Value) : Lib.OthersKept T (some b) w (w.setCell ⟨b, o, none⟩ u) := fun k ob hk hne _ => by
  rw [Below.heap_setCell _ _ _ _ (show k ≠ b from fun e => hne (by rw [e]))]; exact hk

set_option maxRecDepth 100000 in
set_option maxHeartbeats 1000000 in
theorem writeString_any (B b : Nat) (l : List UInt8) (s : ByteArray) (w : World) (h : Bld B b l w) (hlen : l.length + s.size ≤ 1000000) (hBw : B ≤ w.heap.size) :
    Calls Tryz.prog 110 #[.pointer (some ⟨b, 0, none⟩), .string s] w fun e w' => e = .returned (.tuple #[.int .i64 s.size, .nilIface]) ∧ Bld B b (l ++ s.data.toList) w' ∧ Below B w w' ∧ Lib.OthersKept 5 (some b) w w' := by
  obtain ⟨i0, hi, hz0, hz1, hz2⟩ := info_parts infoByte
  have HC := Lib.hid (copyCheck_any B b _ w h)
  have hbl := Lib.byteCells_length l
  go_enter Tryz.func110, Tryz.ntmps110
  go_wp2_with (go_at_call 138; refine HC.out.mono ?_; rintro e w1 ⟨rfl, h1, hw1⟩; refine Hid.out ?_)
  refine Lib.hid ?_
  have hb1 : Below B w w1 := by
    rcases hw1 with rfl | ⟨u, rfl⟩
    · exact Below.refl _ _
    · exact (Below.refl _ _).setCell (p := ⟨b, 0, none⟩) h1.1 _
  have ho1 : Lib.OthersKept 5 (some b) w w1 := by
    rcases hw1 with rfl | ⟨u, rfl⟩
    · exact Lib.OthersKept.refl _ _ _
    · exact others_set _ _ _ _ _
  obtain ⟨hB, v, hbk, hown, hne⟩ := h1
  have c0 : w1.cell? ⟨b, 0, none⟩ = some (.pointer (some ⟨b, 0, none⟩)) := by rw [cell_of_row _ _ _ _ _ _ hbk]; rfl
  have c1 : w1.cell? ⟨b, 1, none⟩ = some v := by rw [cell_of_row _ _ _ _ _ _ hbk]; rfl
  have hs1 := hb1.size
  rw [hbl] at hown
  have HO1 := Lib.hid ho1; have HB1 := Lib.hid hb1; have HNE := Lib.hid hne; have HBK := Lib.hid hbk
  clear ho1 hb1 hw1 hne
  go_wp2_with (at_builtin; refine Lib.wpList_append_own_string _ rfl _ _ 48 9 rfl B 5 i0 Tryz.underlying48 Tryz.underlying9 hi hz0 hz1 hz2 _ _ _ rfl hown s rfl (by unfold maxLen; omega) (by omega) (by omega) ?_; intro v' w2 hown' hgrow _; refine Hid.out ?_)
  refine Lib.hid ?_
  have hgrow : w1.grownBy w2 v.ownBlock := hgrow
  have hlt : b < w1.heap.size := (Array.getElem?_eq_some_iff.1 HBK.out).1
  have hb2 : w2.heap[b]? = some (.cells #[.pointer (some ⟨b, 0, none⟩), v] 122 (0, 0)) := by
    rw [hgrow.block b hlt (fun e => HNE.out e.symm)]
    exact HBK.out
  have d0 : w2.cell? ⟨b, 0, none⟩ = some (.pointer (some ⟨b, 0, none⟩)) := by rw [cell_of_row _ _ _ _ _ _ hb2]; rfl
  have d1 : w2.cell? ⟨b, 1, none⟩ = some v := by rw [cell_of_row _ _ _ _ _ _ hb2]; rfl
  have f1 : w2.frozen? ⟨b, 1, none⟩ = false := frozen_of_row _ _ _ _ _ hb2
  have ho2 : Hid (Lib.OthersKept 5 (some b) w1 w2) := fun k ob hk _ hnc => by
    refine (hgrow.block k (Array.getElem?_eq_some_iff.1 hk).1 (fun e => ?_)).trans hk
    rcases hown.2 with ⟨rfl, _⟩ | ⟨g, cap, cur, rfl, _, hg, _⟩
    · simp [Value.ownBlock] at e
    · simp [Value.ownBlock] at e
      subst e
      rw [hg] at hk
      exact hnc _ _ (Option.some.inj hk).symm
  have HB2 := Lib.hid (HB1.out.grown hgrow (by omega) (fun k hk => (hown.lt k hk).1))
  obtain ⟨ao, n', cap, rfl⟩ : ∃ ao n' cap, v' = .slice ao n' cap := by
    rcases hown'.2 with ⟨hv, _⟩ | ⟨g, cap, cur, hv, _⟩
    · exact ⟨_, _, _, hv⟩
    · exact ⟨_, _, _, hv⟩
  have HP := Lib.hid (Lib.BuilderAt.put (T := 122) (e := 5) hB hb2 (bs' := Lib.byteCells l ++ Lib.strCells s) (by rw [List.length_append, hbl, Lib.strCells_length]; exact hown') (by decide))
  clear hown hown' hgrow HC h hbl hb2 hbk
  go_wp2
  go_ret2
  refine ⟨rfl, ?_, HB2.out.setCell (p := ⟨b, 1, none⟩) hB _, (HO1.out.trans ho2).trans (others_set _ _ _ _ _)⟩
  have := HP.out
  refine .inr ?_
  rw [show Lib.byteCells (l ++ s.data.toList) = Lib.byteCells l ++ Lib.strCells s by simp [Lib.byteCells, Lib.strCells]]
  exact this
end Go.Proofs.YtcjcafekacceiaaGreatDoor

/-! text, walked. -/
namespace Go.Proofs.YtcjcafekacceiaaGreatDoor
open Go.RowKit Go.Shelf
attribute [local go_sem] Oper.semAt_some

/-- The library's table of powers lies as its text lays it. -/
abbrev Tb (w : World) : Prop := Lib.TabIs Tryz.prog w "internal/strconv.uint64pow10" .u64 Lib.pow10Tab
theorem Tb.below {w w' : World} (h : Tb w) (hb : Below w.heap.size w w') : Tb w' := Lib.tabBelow_of_tabIs h w' hb
theorem below_grow (w : World) (q : Nat) (os : Array Obj) : Below w.heap.size w (Go.Sort.grow (w.drewN q) os) :=
  ⟨rfl, rfl, rfl, by simp [Go.Sort.grow], fun i hi => by
    show ((w.drewN q).heap ++ os)[i]? = _
    rw [Array.getElem?_append_left (by show i < w.heap.size; omega)]
    rfl⟩

def StrOut (w : World) (l : List UInt8) (e : Ending) (w' : World) : Prop := e = .returned (.string ⟨l.toArray⟩) ∧ Below w.heap.size w w'

set_option maxRecDepth 100000 in
set_option maxHeartbeats 1000000 in
theorem or_first (g : Nat) (s _t : ByteArray) (w : World) (h0 : w.cell? ⟨g, 0, none⟩ = some (.string s)) (hs : s.toList.isEmpty = false) :
    Calls Tryz.prog 111 #[.slice (some ⟨g, 0, none⟩) 2 2] w fun e w' => e = .returned (.string s) ∧ w' = w := by
  go_enter Tryz.func111, Tryz.ntmps111
  go_wp2
  go_loop [8] (fun iv => iv = .int .i64 0) (fun iv => 0)
  case atStart => exact rfl
  case round =>
    obtain rfl := hrel
    go_wp2
    go_ret
    exact ⟨rfl, rfl⟩
set_option maxRecDepth 100000 in
set_option maxHeartbeats 1000000 in
theorem or_second (g : Nat) (s t : ByteArray) (w : World) (h0 : w.cell? ⟨g, 0, none⟩ = some (.string s)) (h1 : w.cell? ⟨g, 1, none⟩ = some (.string t)) (hs : s.toList.isEmpty = true) (ht : t.toList.isEmpty = false) :
    Calls Tryz.prog 111 #[.slice (some ⟨g, 0, none⟩) 2 2] w fun e w' => e = .returned (.string t) ∧ w' = w := by
  go_enter Tryz.func111, Tryz.ntmps111
  go_wp2
  go_loop [8] (fun iv => iv = .int .i64 0 ∨ iv = .int .i64 1) (fun iv => 2 - (intOf iv).toNat)
  case atStart => exact .inl rfl
  case round =>
    rcases hrel with rfl | rfl
    · go_wp2
      exact ⟨.inr rfl, by decide⟩
    · go_wp2
      go_ret
      exact ⟨rfl, rfl⟩
theorem isEmpty_str (l : List UInt8) : (⟨l.toArray⟩ : ByteArray).toList.isEmpty = l.isEmpty := by rw [ByteArray.toList_eq]
/-- A builder stays one behind the turn of a block that is no cells. -/
theorem bld_grown {B b : Nat} {l : List UInt8} {X Y : World} {row : Option Nat} (h : Bld B b l X) (hg : X.grownBy Y row) (hr : ∀ r, row = some r → ∃ o : Obj, X.heap[r]? = some o ∧ o.isCells = false) : Bld B b l Y := by
  have key : ∀ p, Lib.BuilderAt 122 5 B b p (Lib.byteCells l) X → Lib.BuilderAt 122 5 B b p (Lib.byteCells l) Y := by
    rintro p ⟨hB, v, hbk, hown, hne⟩
    refine ⟨hB, v, (hg.block b (Array.getElem?_eq_some_iff.1 hbk).1 (fun e => ?_)).trans hbk, hown.kept hg ?_, hne⟩
    · obtain ⟨o, ho, hc⟩ := hr b e.symm
      rw [hbk] at ho; cases ho; cases hc
    · rcases hown.2 with ⟨rfl, _⟩ | ⟨g, cap, cur, rfl, _, hgb, _⟩
      · exact .inl rfl
      · refine .inr fun e' => ?_
        obtain ⟨o, ho, hc⟩ := hr g (by simpa [Value.ownBlock] using e'.symm)
        rw [hgb] at ho; cases ho; cases hc
  exact h.imp (key _) (key _)
theorem bld_below {B b : Nat} {l : List UInt8} {X Y : World} (h : Bld B b l X) (hb : Below X.heap.size X Y) : Bld B b l Y :=
  bld_grown h (row := none) ⟨hb.os, hb.tape, hb.output, hb.size, fun k hk _ => hb.block k hk⟩ (fun r e => by cases e)
theorem bld_alloc {B b : Nat} {l : List UInt8} {X : World} (h : Bld B b l X) (o : Obj) : Bld B b l (X.alloc o) := bld_below h ((Below.refl _ _).alloc (Nat.le_refl _) _)
theorem ext_cons (a : UInt8) (l : List UInt8) : (⟨(a :: l).toArray⟩ : ByteArray).extract 1 (l.length + 1) = ⟨l.toArray⟩ := by
  apply ByteArray.ext
  apply Array.ext'
  simp [ByteArray.data_extract]
/-- Between two groups. -/
def TexI (w : World) (Bs : Nat) (v : Value) (zs : List Int) (pre : List (Fin zs.length)) (W : World) : Prop :=
  Bld w.heap.size w.heap.size (accT zs pre) W ∧ Boxed W Bs 92 v ∧ Below w.heap.size w W
theorem texI_own (w : World) (Bs : Nat) (v : Value) (zs : List Int) (B' : Nat) (hB' : w.heap.size ≤ B') : OwnFrom B' (TexI w Bs v zs) := by
  rintro s X Y row ⟨h1, h2, h3⟩ hg hr
  have hr' := fun r e => (hr r e).2
  exact ⟨bld_grown h1 hg hr', boxed_own (β := Unit) _ _ (fun _ => v) () X Y row h2 hg hr', ownFrom_below (β := Unit) (Nat.le_refl _) hB' () X Y row h3 hg hr⟩

set_option maxRecDepth 100000 in
set_option maxHeartbeats 2000000 in
theorem text_any (w : World) (v : Value) (n : Nat) (h : Nt w v n) (ht : Tb w) (hln : (dz 10000 n).length ≤ 20000) :
    Calls Tryz.prog 81 #[v] w (StrOut w (txt n)) := by
  have HTD := Lib.hid (text_done n)
  have HDG := Lib.hid (dig4 n)
  have hall := txt_ne n
  unfold Nt at h
  generalize dz 10000 n = zs at *
  obtain ⟨al, c, rfl, _⟩ := h.shape
  obtain ⟨N, hNe⟩ : ∃ N, zs.length = N := ⟨_, rfl⟩
  have HN := Lib.hid hNe
  have h' := h
  rw [hNe] at h' ⊢
  have HL := Lib.hid h'
  have HT := Lib.hid ht
  clear h h' ht hNe
  have bB := Lib.fresh_isBuilder 122 5 w
  have bS := Boxed.new (w.alloc (.cells #[.pointer none, .slice none 0 0] 122)) 92 (.slice al N c)
  rw [World.size_alloc] at bS
  have hB0 : Below w.heap.size w ((w.alloc (.cells #[.pointer none, .slice none 0 0] 122)).alloc (.cells #[.slice al N c] 92)) := ((Below.refl _ w).alloc (Nat.le_refl _) _).alloc (by simp) _
  have hls0 := Lib.hid (HL.out.below (Nat.le_refl _) hB0)
  have hblk : blkOf (w.heap.size + 1) (.slice al N c) = w.heap.size + 1 ∨ blkOf (w.heap.size + 1) (.slice al N c) < w.heap.size := by
    rcases HL.out with ⟨h1, _⟩ | ⟨b, o, c2, h1, _, hlt2, _⟩
    · rw [h1]; exact .inl rfl
    · rw [h1]; exact .inr hlt2
  refine (callsIn_wide (n := 3)).1 ?_
  refine callsIn_of_wp_marks Tryz.func81 rfl trivial ?_ rfl
  simp only [Tryz.ntmps81, List.size_toArray, List.length_cons, List.length_nil, Nat.reduceAdd, Nat.reduceSub, Array.replicate_succ, Array.replicate_zero, List.push_toArray, List.append_toArray, List.nil_append, List.cons_append]
  gi_wp2_with (refine ⟨trivial, ?_⟩; gi_at_call 109; refine (backward_in Fence.wide _ trivial rfl _ _ _ _ rfl _).mono ?_; rintro e w' ⟨rfl, rfl⟩)
  refine wpIn_rangeFunc_ownG rfl (by decide) (gf := 137) (lb := #[.pointer (some ⟨w.heap.size + 1, 0, none⟩)]) rfl trivial (enters_of Tryz.func137 (by kernel_rfl) rfl)
    (backward_stops Fence.wide _ trivial rfl (by decide) (w.heap.size + 1) _ zs (by omega) _ bS.cell hls0.out) kq_t (kq_b (by simp) (by have := blk_lt hls0.out (Bs := w.heap.size + 1) (by simp); exact this)) (Below.refl _ _) (fun _ => rfl)
    (fun pre W => TexI w (w.heap.size + 1) (.slice al N c) zs pre W)
    (fun _ _ _ => False)
    (texI_own w (w.heap.size + 1) _ zs _ (by simp; omega))
    (fun _ _ _ _ _ hs _ _ => hs)
    ⟨bld_alloc bB _, bS, hB0⟩
    ?a1 ?assign ?body ?done ?stop
  case assign =>
    intro l x W K hK
    gi_wp2
    exact hK
  case body =>
    rintro l pre x W ⟨hb, hs, hB⟩ hlt'
    have hgx := HDG.out _ (List.getElem_mem x.isLt)
    obtain ⟨g, hg⟩ : ∃ g : Nat, zs[x.val] = (g : Int) := Int.eq_ofNat_of_zero_le hgx.1
    rw [hg] at hgx
    have hg9 : g < 10000 := by omega
    have hacc := Lib.hid (accT_snoc zs pre x)
    rw [hg] at hacc
    have hal := Lib.hid (accT_length zs pre)
    have HB := Lib.hid hB; have HBL := Lib.hid hb; have HS := Lib.hid hs
    clear hB hb hs
    have CI := Lib.hid (Tryz.strconv_Itoa ((10000 + g : Nat) : Int) (by omega) (by omega) W (HT.out.below HB.out))
    rw [itoa_group g hg9] at CI
    obtain ⟨z, hz⟩ : ∃ z : Int, (10000 : Int) + (g : Int) = z := ⟨_, rfl⟩
    rw [show ((10000 + g : Nat) : Int) = z by omega] at CI
    have hex := ext_cons 49 (blk4 (g : Int))
    have CW := Lib.hid (fun W1 (hW : Below W.heap.size W W1) => writeString_any w.heap.size w.heap.size (accT zs pre) ⟨(blk4 (g : Int)).toArray⟩ W1 (bld_below HBL.out hW) (by rw [hal.out]; have : (blk4 (g : Int)).length = 4 := rfl; show 4 * pre.length + (blk4 (g : Int)).length ≤ _; omega) (by have := HB.out.size; have := hW.size; omega))
    gi_wp2_with (first
      | (refine ⟨trivial, ?_⟩; gi_at_call 96; refine (CallsIn.inRound l (callsIn_wide.2 CI.out)).mono ?_; rintro e w1 ⟨rfl, q, os, hw⟩; have HB1 := Lib.hid (show Below W.heap.size W w1 by rw [hw]; exact below_grow W q os); clear hw)
      | (refine ⟨trivial, ?_⟩; gi_at_call 110; refine (CallsIn.inRound l (callsIn_wide.2 (CW.out _ HB1.out))).mono ?_; rintro e w2 ⟨rfl, hb2, hl2, ho2⟩; have HBL2 := Lib.hid hb2; have HB2 := Lib.hid hl2; have HO2 := Lib.hid ho2; clear hb2 hl2 ho2))
    have hB2 : Below w.heap.size w w2 := (HB.out.trans (HB1.out.mono HB.out.size)).trans HB2.out
    have kept : ∀ k o, W.heap[k]? = some o → k ≠ w.heap.size → (∀ cs fz, o ≠ .cells cs 5 fz) → w2.heap[k]? = some o := fun k o hk h1 h2 => HO2.out k o ((HB1.out.block k (Array.getElem?_eq_some_iff.1 hk).1).trans hk) (fun e => h1 (by cases e; rfl)) h2
    refine ⟨⟨?_, fun k o hk h1 h2 => kept k o h1 (by simp at hk; omega) (fun cs fz e => by rw [e] at h2; cases h2)⟩, fun k hk hlt2 => ?_, ?_, ?_, hB2⟩
    · exact Nat.le_trans HB1.out.size HB2.out.size
    · have hbs : w2.heap[w.heap.size + 1]? = W.heap[w.heap.size + 1]? := by
        rw [HS.out]; exact kept _ _ HS.out (by omega) (fun cs fz e => by cases e)
      have hold : ∀ j, j < w.heap.size → w2.heap[j]? = W.heap[j]? := fun j hj => (hB2.block j hj).trans (HB.out.block j hj).symm
      rcases hk with rfl | rfl
      · exact hbs
      · rcases hblk with e | e
        · rw [e]; exact hbs
        · exact hold _ e
    · rw [hacc.out]; exact HBL2.out
    · exact kept _ _ HS.out (by omega) (fun cs fz e => by cases e)
  case done =>
    rintro D ys W hD rfl ⟨hb, hs, hB⟩ hK
    have HBL := Lib.hid hb; have HB := Lib.hid hB; have HK := Lib.hid hK
    have CS := Lib.hid (Tryz.Builder_String_any_k w.heap.size w.heap.size (accT zs (dn zs.length (Nat.le_refl _))) W (Lib.IsBuilderF.of HBL.out) HB.out.size)
    have CTr := Lib.hid (fun W' => Tryz.strings_TrimLeft_one ⟨(accT zs (dn zs.length (Nat.le_refl _))).toArray⟩ 48 (by decide) W')
    have el : (⟨(accT zs (dn zs.length (Nat.le_refl _))).toArray⟩ : ByteArray).data.toList = accT zs (dn zs.length (Nat.le_refl _)) := by simp
    rw [el, HTD.out] at CTr
    clear el
    by_cases hn : n = 0
    · rw [if_pos hn] at CTr
      have htx : Hid (txt n = [48]) := by rw [hn]; exact Lib.hid rfl
      gi_wp2_with (first
        | (refine ⟨trivial, ?_⟩; gi_at_call 113; refine (callsIn_wide.2 CS.out).mono ?_; rintro e w2 ⟨rfl, _, hb2, ho2⟩; have HB2 := Lib.hid hb2; have HO2 := Lib.hid ho2; clear hb2 ho2)
        | (refine ⟨trivial, ?_⟩; gi_at_call 112; refine (callsIn_wide.2 (CTr.out _)).mono ?_; rintro e w3 ⟨rfl, rfl⟩)
        | (refine ⟨trivial, ?_⟩; gi_at_call 111; refine (callsIn_wide.2 (or_second _ ⟨#[]⟩ ⟨#[48]⟩ _ (by rw [cell_of_row _ _ 0 _ _ _ (heap_alloc_new _ _)]; rfl) (by rw [cell_of_row _ _ 1 _ _ _ (heap_alloc_new _ _)]; rfl) (isEmpty_str []) (isEmpty_str [48]))).mono ?_; rintro e w4 ⟨rfl, rfl⟩; refine Hid.out ?_))
      refine Lib.hid ?_
      have hK2 : (w3.alloc (.cells #[.string ⟨#[]⟩, .string ⟨#[48]⟩] 9)).heap[D]? = some (Obj.deferred (some [])) :=
        (Below.heap_alloc _ _ _ (Array.getElem?_eq_some_iff.1 (HO2.out D _ HK.out (by intro e; cases e; simp at hD; omega) (fun cs fz e => by cases e))).1).trans (HO2.out D _ HK.out (by intro e; cases e; simp at hD; omega) (fun cs fz e => by cases e))
      have hB3 : Below w.heap.size w (w3.alloc (.cells #[.string ⟨#[]⟩, .string ⟨#[48]⟩] 9)) := (HB.out.trans HB2.out).alloc (Nat.le_trans HB.out.size HB2.out.size) _
      gi_wp2
      refine ⟨by simp, .inl ⟨_, _, rfl, run_takeDeferred hK2, ?_⟩⟩
      refine ⟨_, results_tmp rfl _ _ _, ?_, hB3.trans (belowK_b (w := w) (Nat.le_refl _) _ D _ _ (by simp at hD; omega) hK2 rfl rfl)⟩
      rw [htx.out]; rfl
    · rw [if_neg hn] at CTr
      have hemp : (⟨(txt n).toArray⟩ : ByteArray).toList.isEmpty = false := by rw [isEmpty_str]; simpa using hall
      gi_wp2_with (first
        | (refine ⟨trivial, ?_⟩; gi_at_call 113; refine (callsIn_wide.2 CS.out).mono ?_; rintro e w2 ⟨rfl, _, hb2, ho2⟩; have HB2 := Lib.hid hb2; have HO2 := Lib.hid ho2; clear hb2 ho2)
        | (refine ⟨trivial, ?_⟩; gi_at_call 112; refine (callsIn_wide.2 (CTr.out _)).mono ?_; rintro e w3 ⟨rfl, rfl⟩)
        | (refine ⟨trivial, ?_⟩; gi_at_call 111; refine (callsIn_wide.2 (or_first _ ⟨(txt n).toArray⟩ ⟨#[48]⟩ _ (by rw [cell_of_row _ _ 0 _ _ _ (heap_alloc_new _ _)]; rfl) hemp)).mono ?_; rintro e w4 ⟨rfl, rfl⟩; refine Hid.out ?_))
      refine Lib.hid ?_
      have hK2 : (w3.alloc (.cells #[.string ⟨(txt n).toArray⟩, .string ⟨#[48]⟩] 9)).heap[D]? = some (Obj.deferred (some [])) :=
        (Below.heap_alloc _ _ _ (Array.getElem?_eq_some_iff.1 (HO2.out D _ HK.out (by intro e; cases e; simp at hD; omega) (fun cs fz e => by cases e))).1).trans (HO2.out D _ HK.out (by intro e; cases e; simp at hD; omega) (fun cs fz e => by cases e))
      have hB3 : Below w.heap.size w (w3.alloc (.cells #[.string ⟨(txt n).toArray⟩, .string ⟨#[48]⟩] 9)) := (HB.out.trans HB2.out).alloc (Nat.le_trans HB.out.size HB2.out.size) _
      gi_wp2
      refine ⟨by simp, .inl ⟨_, _, rfl, run_takeDeferred hK2, ?_⟩⟩
      refine ⟨_, results_tmp rfl _ _ _, ?_, hB3.trans (belowK_b (w := w) (Nat.le_refl _) _ D _ _ (by simp at hD; omega) hK2 rfl rfl)⟩
      rfl
  case stop =>
    rintro D c pre W _ _ h _
    exact h.elim
end Go.Proofs.YtcjcafekacceiaaGreatDoor

/-! naturalOf, walked. -/
namespace Go.Proofs.YtcjcafekacceiaaGreatDoor
open Go.RowKit

/-- The number that digits spell. -/
def dgv (l : List UInt8) : Nat := l.foldl (fun v c => 10 * v + (c.toNat - 48)) 0
theorem dgv_snoc (l : List UInt8) (c : UInt8) : dgv (l ++ [c]) = 10 * dgv l + (c.toNat - 48) := by unfold dgv; rw [List.foldl_append]; rfl
theorem digN_append (a b : List UInt8) : digN (a ++ b) = digN b ++ digN a := by simp [digN]
theorem dgv_eq (l : List UInt8) : l.all isD = true → ((dgv l : Nat) : Int) = vz 10 (digN l) := by
  refine snoc_ind (p := fun l => l.all isD = true → ((dgv l : Nat) : Int) = vz 10 (digN l)) (fun _ => rfl) ?_ l
  intro l c ih h
  rw [List.all_append, Bool.and_eq_true] at h
  have hc : isD c = true := by simpa using h.2
  simp [isD] at hc
  rw [dgv_snoc, digN_append, show digN [c] = [(c.toNat : Int) - 48] from rfl, List.singleton_append, vz, ← ih h.1]
  omega
theorem dgv_lt (l : List UInt8) (h : l.all isD = true) (h4 : l.length ≤ 4) : dgv l < 10000 := by
  have h1 := vz_lt 10 (digN l) (digN_digit l h)
  rw [digN_length] at h1
  have h2 := dgv_eq l h
  have h3 : 10 ^ l.length ≤ 10 ^ 4 := Nat.pow_le_pow_right (by decide) h4
  have h5 : vz 10 (digN l) < ((10 ^ l.length : Nat) : Int) := h1
  have : (10 : Nat) ^ 4 = 10000 := by decide
  omega
theorem dgv_take_le (l : List UInt8) (h : l.all isD = true) (h4 : l.length ≤ 4) (k : Nat) : dgv (l.take k) < 10000 :=
  dgv_lt _ (by rw [List.all_eq_true] at h ⊢; exact fun c hc => h c (List.mem_of_mem_take hc)) (by rw [List.length_take]; omega)

set_option maxRecDepth 100000 in
theorem digit_any (v : Nat) (c : UInt8) (hv : v < 10000) (hc : isD c = true) (w : World) :
    Calls Tryz.prog 158 #[.int .i64 v, .int .u8 c.toNat] w fun e w' => e = .returned (.int .i64 ((10 * v + (c.toNat - 48) : Nat) : Int)) ∧ w' = w := by
  simp [isD] at hc
  have hc0 : (48 : Int) ≤ (c.toNat : Int) := by omega
  have hc1 : (c.toNat : Int) ≤ 57 := by omega
  have hv1 : (v : Int) < 10000 := by omega
  have e : ((10 * v + (c.toNat - 48) : Nat) : Int) = 10 * (v : Int) + ((c.toNat : Int) - 48) := by omega
  rw [e]
  clear e
  generalize (c.toNat : Int) = x at *
  go_enter Tryz.func158, Tryz.ntmps158
  go_wp2
  go_ret
  exact ⟨rfl, rfl⟩

set_option maxRecDepth 100000 in
set_option maxHeartbeats 1000000 in
theorem foldDigits (g n c : Nat) (l : List UInt8) (hl : l.length = n) (hn : n ≤ 4) (hall : l.all isD = true) (w : World) (hcell : ∀ i, i < n → w.cell? ⟨g, i, none⟩ = some (.int .u8 (l[i]?.getD 0).toNat)) :
    Calls Tryz.prog 157 #[.slice (some ⟨g, 0, none⟩) n c, .int .i64 0, .func (.func 158) #[] #[]] w fun e w' => e = .returned (.int .i64 (dgv l : Nat)) ∧ w' = w := by
  have HC := Lib.hid hcell; have HL := Lib.hid hl; have HA := Lib.hid hall
  clear hcell hl hall
  go_enter Tryz.func157, Tryz.ntmps157
  go_wp2
  go_loop [7, 13] (fun vv iv => ∃ k : Nat, k ≤ n ∧ iv = .int .i64 k ∧ vv = .int .i64 (dgv (l.take k) : Nat)) (fun _ iv => n - (intOf iv).toNat)
  case atStart => exact ⟨0, Nat.zero_le _, rfl, rfl⟩
  case round =>
    obtain ⟨k, hk, rfl, rfl⟩ := hrel
    by_cases hkn : k < n
    · have hcc := HC.out k hkn
      have hlt : k < l.length := by rw [HL.out]; exact hkn
      have hdc := Lib.hid (digit_any (dgv (l.take k)) (l[k]?.getD 0) (dgv_take_le l HA.out (by rw [HL.out]; exact hn) k) (by rw [List.getElem?_eq_getElem hlt]; exact List.all_eq_true.1 HA.out _ (List.getElem_mem hlt)))
      have hst := Lib.hid (show dgv (l.take (k + 1)) = 10 * dgv (l.take k) + ((l[k]?.getD 0).toNat - 48) by
        rw [List.take_succ_eq_append_getElem hlt, dgv_snoc, List.getElem?_eq_getElem hlt]; rfl)
      obtain ⟨q, hq⟩ : ∃ q, 10 * dgv (l.take k) + ((l[k]?.getD 0).toNat - 48) = q := ⟨_, rfl⟩
      rw [hq] at hdc hst
      generalize l[k]?.getD 0 = ch at *
      generalize dgv (l.take k) = v at *
      clear hq hlt
      go_wp2_with (go_at_call 158; refine (hdc.out _).mono ?_; rintro e w2 ⟨rfl, rfl⟩)
      go_round
      case rel => exact ⟨k + 1, by omega, by go_num, by rw [hst.out]⟩
      case measure => simp [intOf]; omega
    · have hkk : k = n := by omega
      subst hkk
      have hst := Lib.hid (show dgv (l.take k) = dgv l by rw [List.take_of_length_le (by rw [HL.out]; exact Nat.le_refl _)])
      go_wp2
      go_ret
      exact ⟨by rw [← hst.out]; rfl, rfl⟩
end Go.Proofs.YtcjcafekacceiaaGreatDoor

/-! naturalOf's loop over the groups, walked. -/
namespace Go.Proofs.YtcjcafekacceiaaGreatDoor
open Go.RowKit

theorem ext_list (s : ByteArray) (a e : Nat) : (s.extract a e).data.toList = (s.data.toList.take e).drop a := by
  rw [ByteArray.data_extract, Array.toList_extract, List.extract_eq_take_drop, List.drop_take]
/-- Between two groups: what stands above is still to come. -/
def NtoR (B : Nat) (w : World) (d : List UInt8) (E : Int) (v : Value) (wr : World) : Prop :=
  ∃ (k : Nat) (gs : List Int), gs.length = k ∧ k + E.toNat ≤ d.length ∧ (∀ g ∈ gs, 0 ≤ g ∧ g < 10000) ∧ vt 10000 gs (vz 10 (digN (d.take E.toNat))) = vz 10 (digN d) ∧ wr.ownsRow B 3 1 v k (gs.map (Value.int .i64)) ∧ Below B w wr
theorem nto_step (d : List UInt8) (hall : d.all isD = true) (e a : Nat) (he : 0 < e) (hed : e ≤ d.length) (ha : a = e - 4) : vz 10 (digN (d.take e)) = ((dgv ((d.take e).drop a) : Nat) : Int) + 10000 * vz 10 (digN (d.take a)) ∧ dgv ((d.take e).drop a) < 10000 := by
  have hall2 : ((d.take e).drop a).all isD = true := by
    rw [List.all_eq_true] at hall ⊢
    exact fun c hc => hall c (List.mem_of_mem_take (List.mem_of_mem_drop hc))
  have hl : ((d.take e).drop a).length = e - a := by rw [List.length_drop, List.length_take]; omega
  have h4 : ((d.take e).drop a).length ≤ 4 := by omega
  refine ⟨?_, dgv_lt _ hall2 h4⟩
  have e1 : d.take e = d.take a ++ (d.take e).drop a := by
    conv => lhs; rw [← List.take_append_drop a (d.take e)]
    rw [List.take_take, Nat.min_eq_left (by omega)]
  have e2 : digN (d.take e) = digN ((d.take e).drop a) ++ digN (d.take a) := by conv => lhs; rw [e1, digN_append]
  rw [e2, vz_append, vt_eq, ← dgv_eq _ hall2, digN_length, hl]
  by_cases h : 4 ≤ e
  · rw [show e - a = 4 by omega]; rfl
  · have : a = 0 := by omega
    subst this
    simp [digN, vz]

set_option maxRecDepth 100000 in
set_option maxHeartbeats 2000000 in
theorem naturalOf_nt (s : ByteArray) (hall : s.data.toList.all isD = true) (hl : s.size ≤ 5000) (w : World) :
    Calls Tryz.prog 130 #[.string s] w (NtOut w (vz 10 (digN s.data.toList)).toNat) := by
  obtain ⟨i0, hi, hz0, hz1, hz2⟩ := info_parts infoInt
  have hcv : ∀ (t : ByteArray) (W : World), (convert 9 48 (.string t)).run Tryz.prog W = .ok (.slice (some ⟨W.heap.size, 0, none⟩) t.size (grownCap W t.size 0 5)) (Lib.bytesWorld W 5 t) := fun t W => Lib.run_convert_string_bytes (P := Tryz.prog) W 9 48 5 t Tryz.underlying9 Tryz.underlying48 Tryz.underlying5
  obtain ⟨d, hd⟩ : ∃ d, s.data.toList = d := ⟨_, rfl⟩
  have hsd : s.size = d.length := by rw [← hd]; rfl
  have HD := Lib.hid hd; have HSD := Lib.hid hsd
  rw [hd] at hall ⊢
  have HA := Lib.hid hall
  clear hd hall
  obtain ⟨n, hn⟩ : ∃ n, d.length = n := ⟨_, rfl⟩
  have HN := Lib.hid hn
  rw [hn] at hsd
  go_enter Tryz.func130, Tryz.ntmps130
  go_wp2
  go_loopw [3, 4] (fun v ev wr => ∃ E : Int, ev = .int .i64 E ∧ -4 ≤ E ∧ E ≤ n ∧ NtoR w.heap.size w d E v wr) (fun _ ev _ => (intOf ev).toNat)
  case atStart => exact ⟨(n : Int), by rw [← hsd], by omega, by omega, 0, [], rfl, by simp [hn], by simp, by simp [vt, ← hn], World.ownsRow_nil _ _ _ _, Below.refl _ _⟩
  case round =>
    obtain ⟨E, rfl, hE0, hE1, k, gs, hgl, hke, hgd, hv, hrow, hB⟩ := hrel
    have HGL := Lib.hid hgl; have HGD := Lib.hid hgd; have HV := Lib.hid hv; have HB := Lib.hid hB; have HKE := Lib.hid hke
    have hkb : k ≤ 5000 := by omega
    have hBs := hB.size
    clear hgl hgd hv hB hke hn
    by_cases hEp : 0 < E
    · obtain ⟨e, rfl⟩ := Int.eq_ofNat_of_zero_le (Int.le_of_lt hEp)
      rw [Int.toNat_natCast] at HKE HV
      obtain ⟨a, ha⟩ : ∃ a, e - 4 = a := ⟨_, rfl⟩
      have hst := Lib.hid (nto_step d HA.out e a (by omega) (by have := HN.out; omega) ha.symm)
      have hmx : ∀ (ts : Array TypeId) (t : TypeId) (W : World), (Builtin.max_ ts t #[.int .i64 0, .int .i64 ((e : Int) - 4)]).run Tryz.prog W = .ok (.int .i64 (a : Int)) W := fun ts t W => by
        rw [run_max_int2]
        congr 2
        split <;> omega
      have hae : (a : Int) ≤ (e : Int) := by omega
      have hes : (e : Int) ≤ (s.size : Int) := by omega
      have HAE := Lib.hid ha
      clear ha
      obtain ⟨l, hle⟩ : ∃ l, (d.take e).drop a = l := ⟨_, rfl⟩
      have hll : l.length = min e n - a := by rw [← hle, List.length_drop, List.length_take, HN.out]
      have hl4 : min e n - a ≤ 4 := by have := HAE.out; omega
      have hlall : l.all isD = true := by
        have := HA.out
        rw [List.all_eq_true] at this ⊢
        exact fun c hc => this c (by rw [← hle] at hc; exact List.mem_of_mem_take (List.mem_of_mem_drop hc))
      have hex : (s.extract a e).data.toList = l := by rw [ext_list, HD.out, hle]
      rw [hle] at hst
      have CF := Lib.hid (foldDigits wr.heap.size (min e n - a) (grownCap wr (min e n - a) 0 5) l hll hl4 hlall (Lib.bytesWorld wr 5 (s.extract a e)) (fun i hi => by
        rw [Lib.bytesWorld_cell _ _ _ _ (by show i < (s.extract a e).data.size; rw [← Array.length_toList, hex, hll]; exact hi), hex, List.getD_eq_getElem?_getD]))
      obtain ⟨g, hg⟩ : ∃ g, dgv l = g := ⟨_, rfl⟩
      rw [hg] at CF hst
      obtain ⟨hst1, hst2⟩ := hst.out
      have HS1 := Lib.hid hst1
      have hb1 := Lib.hid (Lib.bytesWorld_below wr 5 (s.extract a e))
      have hrow1 := hrow.kept (w' := Lib.bytesWorld wr 5 (s.extract a e)) (row := none) ⟨hb1.out.os, hb1.out.tape, hb1.out.output, hb1.out.size, fun k hk _ => hb1.out.block k hk⟩ (by cases u3.ownBlock <;> simp)
      clear hst hst1 hle hll hlall hex hg
      have HBX := Lib.hid (HB.out.trans (hb1.out.mono HB.out.size))
      obtain ⟨WX, hWX⟩ : ∃ WX, Lib.bytesWorld wr 5 (s.extract a e) = WX := ⟨_, rfl⟩
      rw [hWX] at CF hrow1 HBX
      have hxs := HBX.out.size
      go_wp2_with (first
        | (go_at_call 157; refine CF.out.mono ?_; rintro e w2 ⟨rfl, rfl⟩)
        | (at_builtin; refine wpList_append_own _ rfl _ _ 40 rfl w.heap.size 3 i0 (.int .i64 0) 1 8 Tryz.underlying40 hi hz0 hz1 hz2 rfl (by decide) _ _ _ rfl (hrow1.alloc _) ⟨_, 0, none⟩ 1 1 [.int .i64 (g : Int)] rfl rfl (cell_one_new _ _ _) (by simp [Value.oneCell']) (by unfold maxLen; omega) (by omega) (by simp; omega) ?_; intro v' w1 hown' hgrow _; have hb2 := Lib.hid ((HBX.out.alloc hxs _).grown hgrow (by simp; omega) (ownNone hrow1))))
      refine ⟨⟨(e : Int) - 4, rfl, by omega, by omega, k + 1, gs ++ [(g : Int)], by simp [HGL.out], ?_, ?_, ?_, by simpa using hown', hb2.out⟩, by simp [intOf]; omega⟩
      · have := HKE.out; omega
      · intro z hz
        rw [List.mem_append, List.mem_singleton] at hz
        rcases hz with hz | rfl
        · exact HGD.out z hz
        · omega
      · rw [vt_snoc, ← HV.out, show ((e : Int) - 4).toNat = a from by have := HAE.out; omega, HS1.out]
    · have hE : E.toNat = 0 := by omega
      have hls := Lib.hid (Ls.own hrow gs rfl)
      have hvz := Lib.hid (show vz 10000 gs = vz 10 (digN d) by have := HV.out; rw [hE] at this; rw [← this, show digN (d.take 0) = [] from rfl, vz, vt_zero])
      clear hE
      go_wp2_with (go_at_call 131; refine (trimmed_nt _ _ gs hls.out (by rw [HGL.out]; omega) HGD.out).mono ?_; rintro e w2 ⟨v2, rfl, hnt, rfl⟩; have HNT := Lib.hid hnt; clear hnt)
      go_ret
      exact ⟨_, rfl, by rw [← hvz.out]; exact HNT.out, HB.out⟩
end Go.Proofs.YtcjcafekacceiaaGreatDoor

/-! Valid, walked. -/
namespace Go.Proofs.YtcjcafekacceiaaGreatDoor
open Go.RowKit

theorem trim_body (l : List UInt8) : Lib.trimPrefix l [45] = body l := by
  unfold Lib.trimPrefix Lib.hasPrefix body
  cases l with
  | nil => rfl
  | cons c l =>
    by_cases h : c = 45
    · subst h; simp [List.isPrefixOf]
    · have h2 : ¬ ((45 : UInt8) == c) = true := by simpa using fun e => h e.symm
      simp [List.isPrefixOf, h, h2]
theorem has_body (l : List UInt8) : Lib.hasPrefix l [45] = decide (l.head? = some 45) := by
  unfold Lib.hasPrefix
  cases l with
  | nil => rfl
  | cons c l =>
    by_cases h : c = 45
    · subst h; simp [List.isPrefixOf]
    · have h2 : ¬ ((45 : UInt8) == c) = true := by simpa using fun e => h e.symm
      simp [List.isPrefixOf, h]
      simpa using h2
theorem get_data (D : ByteArray) (d : List UInt8) (h : D.data.toList = d) (k : Nat) (h1 : k < D.size) (h2 : k < d.length) : D[k] = d[k] := by
  subst h; rfl
theorem toNat_ne48 (x : UInt8) (h : x ≠ 48) : ((x.toNat : Int) != 48) = true := by
  have : x.toNat ≠ 48 := fun e => h (UInt8.toNat_inj.1 e)
  simp; omega
def BoolOut (w : World) (b : Bool) (e : Ending) (w' : World) : Prop := e = .returned (.bool b) ∧ w' = w

set_option maxRecDepth 100000 in
set_option maxHeartbeats 2000000 in
theorem valid_any (s : ByteArray) (w : World) (hs : s.size ≤ 9223372036854775807) : Calls Tryz.prog 128 #[.string s] w (BoolOut w (vld s.data.toList)) := by
  have CT := Lib.hid (Tryz.strings_TrimPrefix s ⟨#[45]⟩)
  rw [show (⟨#[45]⟩ : ByteArray).data.toList = [45] from rfl, trim_body] at CT
  have hvl : Hid (vld s.data.toList = (!(body s.data.toList).isEmpty && decide ((body s.data.toList).length ≤ 200) && (body s.data.toList).all isD && ((body s.data.toList).head? != some 48 || s.data.toList == [48]))) := rfl
  have hbl : (body s.data.toList).length ≤ 9223372036854775807 := by
    have h1 : s.data.toList.length ≤ 9223372036854775807 := hs
    unfold body
    split
    · rw [List.length_tail]; omega
    · exact h1
  obtain ⟨d, hd⟩ : ∃ d, body s.data.toList = d := ⟨_, rfl⟩
  rw [hd] at CT hvl hbl
  obtain ⟨D, hD⟩ : ∃ D : ByteArray, ⟨d.toArray⟩ = D := ⟨_, rfl⟩
  have hDd : D.data.toList = d := by rw [← hD]
  have hDs : D.size = d.length := by rw [← hDd]; rfl
  rw [hD] at CT
  generalize vld s.data.toList = b at *
  have hemp : D.toList.isEmpty = d.isEmpty := by rw [ByteArray.toList_eq, hDd]
  by_cases h0 : d = []
  · have hb : b = false := by rw [hvl.out, h0]; rfl
    have he : D.toList.isEmpty = true := by rw [hemp, h0]; rfl
    subst hb
    clear hemp hDd hDs hvl hd hD
    go_enter Tryz.func128, Tryz.ntmps128
    go_wp2_with (go_at_call 155; refine (CT.out _).mono ?_; rintro e w2 ⟨rfl, rfl⟩)
    go_ret
    exact ⟨rfl, rfl⟩
  · have he : D.toList.isEmpty = false := by rw [hemp]; simpa using h0
    have hN0 : 0 < d.length := List.length_pos_iff.2 h0
    have hde : d.isEmpty = false := by simpa using h0
    by_cases h2 : d.length ≤ 200
    · have hget : ∀ k (h : k < D.size) (h2 : k < d.length), D[k] = d[k] := fun k h h2 => get_data D d hDd k h h2
      have HGET := Lib.hid hget
      have hs200 : (D.size : Int) ≤ 200 := by omega
      have HVL := Lib.hid hvl; have HDS := Lib.hid hDs
      have hlast : Hid (d.all isD = true → ((d.head? != some 48 || s.data.toList == [48]) = (d[0] != 48 || s.toList == [48]))) := fun _ => by
        rw [List.head?_eq_getElem?, List.getElem?_eq_getElem hN0, ByteArray.toList_eq]
        rfl
      have hd0 : (0 : Nat) < D.size := by omega
      have hd0I : (0 : Int) < (D.size : Int) := by omega
      clear hemp hDd hvl hd hD hget hDs
      go_enter Tryz.func128, Tryz.ntmps128
      go_wp2_with (go_at_call 155; refine (CT.out _).mono ?_; rintro e w2 ⟨rfl, rfl⟩)
      go_loopw [16] (fun iv wr => ∃ k : Nat, k ≤ D.size ∧ iv = .int .i64 k ∧ ((d.take k).all isD = true ∧ wr = w2)) (fun iv _ => D.size - (intOf iv).toNat)
      case atStart => exact ⟨0, Nat.zero_le _, rfl, rfl, rfl⟩
      case round =>
        obtain ⟨k, hk, rfl, hall, rfl⟩ := hrel
        have HALL := Lib.hid hall
        clear hall
        have hDs := HDS.out
        by_cases hkN : k < D.size
        · have hkd : k < d.length := by omega
          have hstep := Lib.hid (show ∀ b, isD d[k] = b → (d.take (k + 1)).all isD = b from fun b hb => by
            rw [List.take_succ_eq_append_getElem hkd, List.all_append, HALL.out]; simpa using hb)
          have hc := HGET.out k hkN hkd
          obtain ⟨x, hx⟩ : ∃ x, d[k] = x := ⟨_, rfl⟩
          rw [hx] at hc hstep
          have HX := Lib.hid hx
          have hkI : (k : Int) < (D.size : Int) := by omega
          by_cases hxd : isD x = true
          · have hxx := hxd
            simp [isD] at hxx
            have hx1 : ¬ ((x.toNat : Int) < 48) := by omega
            have hx2 : ¬ ((57 : Int) < (x.toNat : Int)) := by omega
            have hxD := Lib.hid hxd
            clear hxd hxx hx hDs
            go_wp2
            go_roundw
            case rel => exact ⟨k + 1, by omega, by go_num, hstep.out _ hxD.out, by first | rfl | trivial⟩
            case measure => simp [intOf]; omega
          · have hb : Hid (b = false) := by
              rw [HVL.out]
              have : d.all isD = false := by
                rw [List.all_eq_false]
                exact ⟨d[k], List.getElem_mem hkd, by rw [HX.out]; exact hxd⟩
              rw [this]; simp
              exact Lib.hid trivial
            have hxx := hxd
            simp [isD] at hxx
            by_cases h48 : x.toNat < 48
            · have hx1 : (x.toNat : Int) < 48 := by omega
              clear hxx hxd hx hDs
              go_wp2
              go_ret
              exact ⟨by rw [hb.out]; rfl, rfl⟩
            · have hx1 : ¬ ((x.toNat : Int) < 48) := by omega
              have hx2 : (57 : Int) < (x.toNat : Int) := by have := hxx (by omega); omega
              clear hxx hxd hx hDs
              go_wp2
              go_ret
              exact ⟨by rw [hb.out]; rfl, rfl⟩
        · have hkk : k = D.size := by omega
          have hall : d.all isD = true := by
            have := HALL.out
            rwa [List.take_of_length_le (by omega)] at this
          have hb : Hid (b = (d[0] != 48 || s.toList == [48])) := by
            rw [HVL.out, ← hlast.out hall, hde, hall]
            simp [h2]
            exact Lib.hid trivial
          have hc0 := HGET.out 0 hd0 hN0
          obtain ⟨x, hx⟩ : ∃ x, d[0] = x := ⟨_, rfl⟩
          rw [hx] at hb hc0
          clear hlast hx hDs
          subst hkk
          by_cases hx48 : x = 48
          · subst hx48
            obtain ⟨q, hq⟩ : ∃ q, (s.toList == [48]) = q := ⟨_, rfl⟩
            rw [hq] at hb
            go_wp2
            go_ret
            exact ⟨by rw [hb.out]; simp, rfl⟩
          · have hxb : (x != 48) = true := by simpa using hx48
            have hxi : ((x.toNat : Int) != 48) = true := toNat_ne48 x hx48
            go_wp2
            go_ret
            exact ⟨by rw [hb.out, hxb]; simp, rfl⟩
    · have hb : b = false := by rw [hvl.out]; simp [h2]
      have hg : (200 : Int) < (D.size : Int) := by omega
      subst hb
      clear hemp hDd hDs hvl hd hD
      go_enter Tryz.func128, Tryz.ntmps128
      go_wp2_with (go_at_call 155; refine (CT.out _).mono ?_; rintro e w2 ⟨rfl, rfl⟩)
      go_ret
      exact ⟨rfl, rfl⟩
end Go.Proofs.YtcjcafekacceiaaGreatDoor

/-! Numbers with a sign: signed, isZero, negated, walked. -/
namespace Go.Proofs.YtcjcafekacceiaaGreatDoor
open Go.RowKit

/-- The struct v reads as the number z. -/
def Nm (w : World) (v : Value) (z : Int) : Prop := ∃ s, v = .agg #[.bool (decide (z < 0)), s] ∧ Nt w s z.natAbs
def NmOut (w : World) (z : Int) (e : Ending) (w' : World) : Prop := ∃ v', e = .returned v' ∧ Nm w' v' z ∧ Below w.heap.size w w'
theorem Nm.below {B : Nat} {w w' : World} {v : Value} {z : Int} (h : Nm w v z) (hB : w.heap.size ≤ B) (hb : Below B w w') : Nm w' v z := by
  obtain ⟨s, rfl, hs⟩ := h
  exact ⟨s, rfl, hs.below hB hb⟩
theorem Nm.shape {w : World} {v : Value} {z : Int} (h : Nm w v z) : ∃ al c, v = .agg #[.bool (decide (z < 0)), .slice al (dz 10000 z.natAbs).length c] ∧ Nt w (.slice al (dz 10000 z.natAbs).length c) z.natAbs := by
  obtain ⟨s, rfl, hs⟩ := h
  obtain ⟨al, c, rfl⟩ := hs.shape
  exact ⟨al, c, rfl, hs⟩
theorem nm_mk {w : World} {s : Value} {b : Bool} {z : Int} (hb : b = decide (z < 0)) (h : Nt w s z.natAbs) : Nm w (.agg #[.bool b, s]) z := by
  subst hb
  exact ⟨s, rfl, h⟩
/-- A block of two cells. -/
theorem box2 {w : World} {B : Nat} {x y : Value} {T : TypeId} (h : w.heap[B]? = some (.cells #[x, y] T)) :
    w.cell? ⟨B, 0, none⟩ = some x ∧ w.cell? ⟨B, 1, none⟩ = some y ∧ w.frozen? ⟨B, 0, none⟩ = false ∧ w.frozen? ⟨B, 1, none⟩ = false := by
  refine ⟨?_, ?_, ?_, ?_⟩ <;> simp [World.cell?, World.frozen?, h]
/-- A block of two cells, both stored. -/
abbrev put2 (W : World) (B : Nat) (x y : Value) : World := (W.setCell ⟨B, 0, none⟩ x).setCell ⟨B, 1, none⟩ y
theorem put2_heap {W : World} {B : Nat} {x0 y0 : Value} {T : TypeId} (h : W.heap[B]? = some (.cells #[x0, y0] T)) (x y : Value) : (put2 W B x y).heap[B]? = some (.cells #[x, y] T) := by
  have hlt : B < W.heap.size := (Array.getElem?_eq_some_iff.1 h).1
  simp [put2, World.setCell, Array.getElem?_modify, h]
theorem put2_other {W : World} {B k : Nat} (x y : Value) (hk : k ≠ B) : (put2 W B x y).heap[k]? = W.heap[k]? :=
  (Below.heap_setCell _ _ _ _ (by simpa using hk)).trans (Below.heap_setCell _ _ _ _ (by simpa using hk))
theorem put2_ls {W : World} {B : Nat} {q : Bool} {al : Option Addr} {n c : Nat} {T : TypeId} {v : Value} {zs : List Int} (h : W.heap[B]? = some (.cells #[.bool q, .slice al n c] T)) (hl : Ls W v zs) (x y : Value) : Ls (put2 W B x y) v zs := by
  rcases hl with hl | ⟨b, o, c', rfl, hc, hlt, hcell⟩
  · exact .inl hl
  · rcases Nat.eq_zero_or_pos zs.length with h0 | h0
    · rw [h0] at hc ⊢
      exact .inr ⟨b, o, c', by rw [h0], by omega, by simpa using hlt, fun i hi => by omega⟩
    · refine .inr ⟨b, o, c', rfl, hc, by simpa using hlt, fun i hi => ?_⟩
      have hne : b ≠ B := by
        rintro rfl
        have h1 := hcell i hi
        obtain ⟨q1, q2, _⟩ := box2 h
        rcases Nat.lt_or_ge (o + i) 2 with h2 | h2
        · obtain h3 | h3 : o + i = 0 ∨ o + i = 1 := by omega
          · rw [h3, q1] at h1; cases h1
          · rw [h3, q2] at h1; cases h1
        · have h4 : (#[Value.bool q, Value.slice al n c] : Array Value)[o + i]? = none := Array.getElem?_eq_none h2
          simp [World.cell?, h, h4] at h1
      exact (World.cell?_of_block (put2_other x y hne)).trans (hcell i hi)
theorem put2_nt {W : World} {B : Nat} {q : Bool} {al : Option Addr} {m c : Nat} {T : TypeId} {v : Value} {n : Nat} (h : W.heap[B]? = some (.cells #[.bool q, .slice al m c] T)) (hl : Nt W v n) (x y : Value) : Nt (put2 W B x y) v n := put2_ls h hl x y
theorem put2_below {w W : World} {B : Nat} (hb : Below w.heap.size w W) (hB : w.heap.size ≤ B) (x y : Value) : Below w.heap.size w (put2 W B x y) := (hb.setCell (p := ⟨B, 0, none⟩) hB x).setCell (p := ⟨B, 1, none⟩) hB y
theorem Nm.open {w : World} {v : Value} {z : Int} (h : Nm w v z) : ∃ b al L c, v = .agg #[.bool b, .slice al L c] ∧ Hid (b = decide (z < 0)) ∧ Hid ((dz 10000 z.natAbs).length = L) ∧ Hid (Nt w (.slice al L c) z.natAbs) := by
  obtain ⟨al, c, rfl, hs⟩ := h.shape
  exact ⟨_, al, _, c, rfl, rfl, rfl, hs⟩
/-- A result of two cells, stored last. -/
theorem nm_end {w w1 : World} {B : Nat} {T : TypeId} {b1 : Bool} {al : Option Addr} {L c : Nat} {z : Int} (HK : w1.heap[B]? = some (.cells #[.bool false, .slice none 0 0] T)) (hb : b1 = decide (z < 0)) (hs : Nt w1 (.slice al L c) z.natAbs)
    (hB : Below w.heap.size w w1) (hle : w.heap.size ≤ B) : NmOut w z (.returned (.agg #[.bool b1, .slice al L c])) ((w1.setCell ⟨B, 0, none⟩ (.bool b1)).setCell ⟨B, 1, none⟩ (.slice al L c)) :=
  ⟨_, rfl, nm_mk hb (put2_nt HK hs _ _), put2_below hB hle _ _⟩
/-- The sign as signed gives it. -/
def sgn (b : Bool) (n : Nat) : Int := if b then -(n : Int) else n
theorem sgn_abs (b : Bool) (n : Nat) : (sgn b n).natAbs = n := by cases b <;> simp [sgn]
theorem sgn_neg (b : Bool) (n : Nat) : decide (sgn b n < 0) = (b && decide (n ≠ 0)) := by
  cases b
  · simp [sgn]
  · simp only [sgn, Bool.true_and, decide_eq_decide, if_true]; omega

set_option maxRecDepth 100000 in
set_option maxHeartbeats 1000000 in
theorem signed_nm (w : World) (b : Bool) (v : Value) (n : Nat) (h : Nt w v n) : Calls Tryz.prog 108 #[.bool b, v] w (NmOut w (sgn b n)) := by
  have hsn := sgn_neg b n
  obtain ⟨al, c, rfl⟩ := h.shape
  have hpos := dz_length_pos 10000 (by decide) n
  have hg : Hid (decide (sgn b n < 0) = (b && decide (0 < ((dz 10000 n).length : Int)))) := by
    rw [hsn]
    congr 1
    rw [decide_eq_decide]
    omega
  have H := Lib.hid h
  clear h hsn hpos
  obtain ⟨L, hL⟩ : ∃ L, (dz 10000 n).length = L := ⟨_, rfl⟩
  rw [hL] at H hg ⊢
  have HL := Lib.hid hL
  clear hL
  cases b
  · go_enter Tryz.func108, Tryz.ntmps108
    go_wp2
    exact bodyPost_ret (v := .agg #[.bool false, .slice al L c]) (by simp [results, Tryz.results108, go_sem]) rfl
      (show NmOut _ _ _ _ from ⟨_, rfl, nm_mk (by rw [hg.out]; rfl) (by rw [sgn_abs]; exact H.out.below (Nat.le_refl _) ((Below.refl _ _).alloc (Nat.le_refl _) _)), (Below.refl _ _).alloc (Nat.le_refl _) _⟩)
  · go_enter Tryz.func108, Tryz.ntmps108
    go_wp2
    exact bodyPost_ret (v := .agg #[.bool (decide (0 < L)), .slice al L c]) (by simp [results, Tryz.results108, go_sem]) rfl
      (show NmOut _ _ _ _ from ⟨_, rfl, nm_mk (by rw [hg.out, Bool.true_and, decide_eq_decide]; omega) (by rw [sgn_abs]; exact H.out.below (Nat.le_refl _) ((Below.refl _ _).alloc (Nat.le_refl _) _)), (Below.refl _ _).alloc (Nat.le_refl _) _⟩)
set_option maxRecDepth 100000 in
set_option maxHeartbeats 1000000 in
theorem isZero_any (w : World) (v : Value) (z : Int) (h : Nm w v z) : Calls Tryz.prog 78 #[v] w fun e w' => e = .returned (.bool (decide (z = 0))) ∧ Below w.heap.size w w' := by
  obtain ⟨al, c, rfl, _⟩ := h.shape
  have hpos := dz_length_pos 10000 (by decide) z.natAbs
  have hg : Hid (decide (z = 0) = decide (((dz 10000 z.natAbs).length : Int) = 0)) := by
    show decide _ = decide _
    rw [decide_eq_decide]; omega
  obtain ⟨L, hL⟩ : ∃ L, (dz 10000 z.natAbs).length = L := ⟨_, rfl⟩
  rw [hL] at hg ⊢
  generalize decide (z < 0) = b
  clear hpos hL h
  go_enter Tryz.func78, Tryz.ntmps78
  go_wp2
  go_ret
  exact ⟨by rw [hg.out]; rfl, (Below.refl _ _).alloc (Nat.le_refl _) _⟩
set_option maxRecDepth 100000 in
set_option maxHeartbeats 1000000 in
theorem negated_nm (w : World) (v : Value) (z : Int) (h : Nm w v z) : Calls Tryz.prog 127 #[v] w (NmOut w (-z)) := by
  obtain ⟨b, al, L, c, rfl, hb, hL, hs⟩ := h.open
  clear h
  have hsg : sgn (!b) z.natAbs = -z := by
    rw [hb.out]
    unfold sgn
    by_cases h : z < 0 <;> simp [h] <;> omega
  have CS := Lib.hid (fun W (hW : Below w.heap.size w W) => signed_nm W (!b) _ _ (hs.out.below (Nat.le_refl _) hW))
  rw [hsg] at CS
  clear hsg
  have HB0 := Lib.hid (((Below.refl w.heap.size w).alloc (Nat.le_refl _) (.cells #[.bool b, .slice al L c] 94)).alloc (by simp) (.cells #[.bool false, .slice none 0 0] 94))
  go_enter Tryz.func127, Tryz.ntmps127
  go_wp2_with fail
  refine (CS.out _ HB0.out).mono ?_
  rintro e w1 ⟨v1, rfl, hn1, hb1⟩
  obtain ⟨b1, al1, L1, c1, rfl, hbb1, hL1, hs1⟩ := hn1.open
  have HK := Lib.hid ((hb1.block (w.heap.size + 1) (by simp)).trans (heap_new' (w.alloc (.cells #[.bool b, .slice al L c] 94)) (.cells #[.bool false, .slice none 0 0] 94) (w.heap.size + 1) (by simp)))
  obtain ⟨q1, q2, q3, q4⟩ := box2 HK.out
  have HB := Lib.hid (HB0.out.trans (hb1.mono HB0.out.size))
  clear hb1 hn1
  go_wp2
  obtain ⟨r1, r2, _⟩ := box2 (put2_heap HK.out (.bool b1) (.slice al1 L1 c1))
  exact bodyPost_ret (v := .agg #[.bool b1, .slice al1 L1 c1]) (by simp [results, Tryz.results127, go_sem, r1, r2]) rfl
    (nm_end HK.out hbb1.out hs1.out HB.out (by omega))
end Go.Proofs.YtcjcafekacceiaaGreatDoor
