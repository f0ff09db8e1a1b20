/- Integer layer, merged: Lit, Rft, Rfx, Mis, Opd. -/
import Derived.WalkKit
import Derived.Below
import Derived.OwnWalk
import Derived.Deep.AppendLies
import Derived.Laws.Rows
import Derived.Laws.IdiomStrings
import Derived.Test.YtcjcafekacceiaaGreatDoorE
/-! Elements written out and put behind a list of the call's own: one law for a list of operations, one for a region that draws its order. -/
namespace Go.Proofs.YtcjcafekacceiaaGreatDoor
open Go.RowKit
theorem lit_lt {w : World} {base : Nat} {e : TypeId} {size : Nat} {v : Value} {n : Nat} {xs : List Value} (h : w.ownsRow base e size v n xs) : ∀ k, v.ownBlock = some k → base ≤ k := fun k hk => (h.lt k hk).1
section
variable {P : Program} {w1 w0 : World} {ops : Array Oper} {rest : List Oper} {o : Oper} {a : Act} {Q : Exit → Act → World → Prop}
theorem wpList_append_lit (hgd : o.guard = none) (s x : Operand) (t e : TypeId)
    (ho : o.op = .call { callee := .builtin .append, args := #[s, x], argTypes := #[t, t] })
    {i0 : TypeInfo} {z : Value} {bytes : Nat} (hu : P.underlying t = some (.slice e)) (hi : P.info? e = some i0) (hz0 : i0.zero = some z) (hz1 : i0.size = 1) (hz2 : i0.bytes = bytes) (hzc : z.cells.size = 1)
    (B : Nat) (v : Value) (n : Nat) (xs : List Value) (hs : a.eval s = v) (hown : w1.ownsRow B e 1 v n xs)
    (cs : Array Value) (c : Nat) (hx : a.eval x = .slice (some ⟨w1.heap.size, 0, none⟩) cs.size c) (h1 : ∀ u ∈ cs.toList, u.oneCell' = true)
    (hnm : n + cs.size ≤ 10000000) (hby : bytes ≤ 16) (hB : B ≤ w1.heap.size) (hb : Below B w0 w1)
    (h : ∀ v' w', w'.ownsRow B e 1 v' (n + cs.size) (xs ++ cs.toList) → Below B w0 w' → wpList P ops Q rest (a.put o.dst v') w') :
    wpList P ops Q (o :: rest) a (w1.alloc (.cells cs e)) := by
  have h16 : (n + cs.size) * bytes ≤ 10000000 * 16 := Nat.mul_le_mul hnm hby
  have hB2 : B ≤ (w1.alloc (.cells cs e)).heap.size := by simp; omega
  refine wpList_append_own (w1.alloc (.cells cs e)) hgd s x t ho B e i0 z 1 bytes hu hi hz0 hz1 hz2 hzc (by decide) v n xs hs (hown.alloc _) ⟨w1.heap.size, 0, none⟩ cs.size c cs.toList hx (by simp) (World.news_of_block (heap_alloc_new w1 _)) h1 (by unfold maxLen; omega) (by omega) hB2 ?_
  intro v' w' ho' hg _
  exact h v' w' ho' ((hb.alloc hB _).grown hg hB2 (lit_lt hown))
theorem step_append_lit {K : Act → World → Prop} {E : Prop} (hgd : o.guard = none) (s x : Operand) (t e : TypeId)
    (ho : o.op = .call { callee := .builtin .append, args := #[s, x], argTypes := #[t, t] })
    {i0 : TypeInfo} {z : Value} {bytes : Nat} (hu : P.underlying t = some (.slice e)) (hi : P.info? e = some i0) (hz0 : i0.zero = some z) (hz1 : i0.size = 1) (hz2 : i0.bytes = bytes) (hzc : z.cells.size = 1)
    (B : Nat) (v : Value) (n : Nat) (xs : List Value) (hs : a.eval s = v) (hown : w1.ownsRow B e 1 v n xs)
    (cs : Array Value) (c : Nat) (hx : a.eval x = .slice (some ⟨w1.heap.size, 0, none⟩) cs.size c) (h1 : ∀ u ∈ cs.toList, u.oneCell' = true) (h0 : 0 < cs.size)
    (hnm : n + cs.size ≤ 10000000) (hby : bytes ≤ 16) (hB : B ≤ w1.heap.size) (hb : Below B w0 w1)
    (h : ∀ g cap w', w'.ownsRow B e 1 (.slice (some ⟨g, 0, none⟩) (n + cs.size) cap) (n + cs.size) (xs ++ cs.toList) → Below B w0 w' → (v.ownBlock = some g ∨ g = w1.heap.size + 1) → g < w'.heap.size → K (a.put o.dst (.slice (some ⟨g, 0, none⟩) (n + cs.size) cap)) w') :
    if Region.wanted o (yielded ops a.tmps) = true then Oper.wp P o a ((w1.alloc (.cells cs e)).drew) K Q else E := by
  have h16 : (n + cs.size) * bytes ≤ 10000000 * 16 := Nat.mul_le_mul hnm hby
  have hB2 : B ≤ ((w1.alloc (.cells cs e)).drew).heap.size := by simp; omega
  refine step_append_lies _ hgd s x t ho B e i0 z 1 bytes hu hi hz0 hz1 hz2 hzc (by decide) v n xs hs ((hown.alloc _).drew) ⟨w1.heap.size, 0, none⟩ cs.size c cs.toList hx (by simp) (World.news_of_block (heap_alloc_new w1 _)) h1 h0 (by unfold maxLen; omega) (by omega) hB2 (w1.heap.size + 1) (by simp) ?_
  intro g cap w' ho' hg hat hlt
  exact h g cap w' ho' (((hb.alloc hB _).drew).grown hg hB2 (lit_lt hown)) hat hlt
end
end Go.Proofs.YtcjcafekacceiaaGreatDoor

/-! The reference's trim and text, walked. -/
namespace Go.Proofs.YtcjcafekacceiaaGreatDoor
open Go.RowKit

/-- The slice v reads as the number n, digit by digit. -/
def Dt (w : World) (v : Value) (n : Nat) : Prop := Ls w v (dz 10 n)
theorem Dt.zero (w : World) : Dt w (.slice none 0 0) 0 := by unfold Dt; rw [dz_zero]; exact Ls.nil w
theorem Dt.below {B : Nat} {w w' : World} {v : Value} {n : Nat} (h : Dt w v n) (hB : w.heap.size ≤ B) (hb : Below B w w') : Dt w' v n := Ls.below h hB hb
theorem Dt.shape {w : World} {v : Value} {n : Nat} (h : Dt w v n) : ∃ al c, v = .slice al (dz 10 n).length c := by
  obtain ⟨al, c, h, _⟩ := Ls.shape h
  exact ⟨al, c, h⟩
def DtOut (w : World) (n : Nat) (e : Ending) (w' : World) : Prop := ∃ v', e = .returned v' ∧ Dt w' v' n ∧ Below w.heap.size w w'

def RtrOut (w : World) (v : Value) (zs : List Int) (e : Ending) (w' : World) : Prop :=
  ∃ v' m, e = .returned v' ∧ (∀ B, AtLeast B v → AtLeast B v') ∧ m ≤ zs.length ∧ (∀ i, m ≤ i → zs[i]?.getD 0 = 0) ∧ (m = 0 ∨ zs[m - 1]?.getD 0 ≠ 0) ∧ Ls w v' (zs.take m) ∧ w' = w
set_option maxHeartbeats 1000000 in
theorem rtrim_cut (w : World) (v : Value) (zs : List Int) (h : Ls w v zs) (hN : zs.length ≤ 1000000) :
    Calls Tryz.prog 103 #[v] w (RtrOut w v zs) := by
  rcases h with ⟨rfl, rfl⟩ | ⟨b, o, c, rfl, hc, hlt, hcell⟩
  · go_enter Tryz.func103, Tryz.ntmps103
    go_wp2
    go_loop [0] (fun v => v = .slice none 0 0) (fun _ => 0)
    case atStart => rfl
    case round =>
      obtain rfl := hrel
      go_wp2
      go_ret
      exact ⟨_, 0, rfl, fun _ h => h, by simp, by simp, .inl rfl, Ls.nil w, rfl⟩
  · obtain ⟨N, hNe⟩ : ∃ N, zs.length = N := ⟨_, rfl⟩
    have HC := Lib.hid hcell
    have HN := Lib.hid hNe
    rw [hNe] at hc hN
    rw [hNe]
    clear hcell hNe
    have hcut := fun m h hh => run_cut_to (P := Tryz.prog) 40 3 1 Tryz.underlying40 sizeInt (some ⟨b, o, none⟩) m c h hh
    have HCUT := Lib.hid hcut
    clear hcut
    go_enter Tryz.func103, Tryz.ntmps103
    go_wp2
    go_loop [0] (fun v => ∃ m : Nat, m ≤ N ∧ v = .slice (some ⟨b, o, none⟩) m c ∧ (∀ i, m ≤ i → zs[i]?.getD 0 = 0)) (fun v => match v with | .slice _ n _ => n | _ => 0)
    case atStart => exact ⟨N, Nat.le_refl _, rfl, fun i hi => by rw [List.getElem?_eq_none (by rw [HN.out]; exact hi)]; rfl⟩
    case round =>
      obtain ⟨m, hm, rfl, hz⟩ := hrel
      have HZ := Lib.hid hz
      clear hz
      have hce : Hid _ := Lib.hid (fun k => by rw [List.length_take, HN.out]; exact Nat.min_eq_left hm : ∀ _ : Unit, (zs.take m).length = m)
      have hls : Hid _ := Lib.hid (show Ls w (.slice (some ⟨b, o, none⟩) m c) (zs.take m) from .inr ⟨b, o, c, by rw [hce.out ()], by rw [hce.out ()]; omega, hlt, fun i hi => by
        rw [hce.out ()] at hi
        rw [HC.out i (by rw [HN.out]; omega), List.getElem?_take, if_pos hi]⟩)
      clear hce
      by_cases h0 : m = 0
      · subst h0
        go_wp2
        go_ret
        exact ⟨_, 0, rfl, fun _ h => h, by rw [HN.out]; omega, HZ.out, .inl rfl, hls.out, rfl⟩
      · obtain ⟨k, rfl⟩ : ∃ k, m = k + 1 := ⟨m - 1, by omega⟩
        have hck := HC.out k (by rw [HN.out]; omega)
        obtain ⟨z, hz⟩ : ∃ z, zs[k]?.getD 0 = z := ⟨_, rfl⟩
        have HK := Lib.hid hz
        rw [hz] at hck
        have hcm := HCUT.out (k + 1) k (by omega)
        clear hz h0
        by_cases hz0 : z = 0
        · subst hz0
          go_wp2
          go_round
          case rel => exact ⟨k, by omega, rfl, fun i hi => by rcases Nat.lt_or_ge k i with h | h; exact HZ.out i h; rw [show i = k by omega]; exact HK.out⟩
          case measure => simp
        · go_wp2
          go_ret
          exact ⟨_, k + 1, rfl, fun _ h => h, by rw [HN.out]; omega, HZ.out, .inr (by rw [show k + 1 - 1 = k from rfl, HK.out]; exact hz0), hls.out, rfl⟩
theorem rtrim_nil (w : World) : Calls Tryz.prog 103 #[.slice none 0 0] w fun e w' => e = .returned (.slice none 0 0) ∧ w' = w := by
  go_enter Tryz.func103, Tryz.ntmps103
  go_wp2
  go_loop [0] (fun v => v = .slice none 0 0) (fun _ => 0)
  case atStart => rfl
  case round =>
    obtain rfl := hrel
    go_wp2
    go_ret
    exact ⟨rfl, rfl⟩
theorem rtrim_far (w : World) (v : Value) (zs : List Int) (h : Ls w v zs) (hN : zs.length ≤ 1000000) (hd : ∀ d ∈ zs, 0 ≤ d ∧ d < 10) :
    Calls Tryz.prog 103 #[v] w fun e w' => ∃ v', e = .returned v' ∧ Dt w v' (vz 10 zs).toNat ∧ (∀ B, AtLeast B v → AtLeast B v') ∧ w' = w := by
  refine (rtrim_cut w v zs h hN).mono ?_
  rintro e w' ⟨v', m, rfl, hat, hm, hz, hl, hls, rfl⟩
  refine ⟨v', rfl, ?_, hat, rfl⟩
  unfold Dt
  rw [show (10 : Int) = ((10 : Nat) : Int) from rfl, ← canon 10 (by decide) zs m hd hm hz hl]
  exact hls
theorem rtrim_dt (w : World) (v : Value) (zs : List Int) (h : Ls w v zs) (hN : zs.length ≤ 1000000) (hd : ∀ d ∈ zs, 0 ≤ d ∧ d < 10) :
    Calls Tryz.prog 103 #[v] w fun e w' => ∃ v', e = .returned v' ∧ Dt w v' (vz 10 zs).toNat ∧ w' = w :=
  (rtrim_far w v zs h hN hd).mono fun _ _ ⟨v', h1, h2, _, h3⟩ => ⟨v', h1, h2, h3⟩
end Go.Proofs.YtcjcafekacceiaaGreatDoor

/-! The reference's text and Made, walked. -/
namespace Go.Proofs.YtcjcafekacceiaaGreatDoor
open Go.RowKit

theorem shw_sgn (b : Bool) (n : Nat) : shw (sgn b n) = if b && decide (n ≠ 0) then 45 :: txt n else txt n := by
  unfold shw
  rw [sgn_abs, ← sgn_neg]
  by_cases h : sgn b n < 0 <;> simp [h]
def RtxOut (w : World) (z : Int) (e : Ending) (w' : World) : Prop := e = .returned (.tuple #[.string (str z), .bool (bigB z)]) ∧ Below w.heap.size w w'
def u8c (c : UInt8) : Value := .int .u8 c.toNat
/-- The bytes that have been written when k digits are left. -/
def outT (b : Bool) (zs : List Int) (k : Nat) : List UInt8 := (if b then [45] else []) ++ ((zs.drop k).map chr).reverse
theorem outT_step (b : Bool) (zs : List Int) (k : Nat) (h : k < zs.length) : outT b zs k = outT b zs (k + 1) ++ [chr (zs[k]?.getD 0)] := by
  unfold outT
  rw [List.drop_eq_getElem_cons h, List.map_cons, List.reverse_cons, List.getElem?_eq_getElem h, ← List.append_assoc]; rfl
theorem outT_end (b : Bool) (n : Nat) (h : n ≠ 0) : outT b (dz 10 n) 0 = shw (sgn b n) := by
  rw [shw_sgn]
  unfold outT txt txtD
  cases b <;> simp [h]
theorem outT_start (b : Bool) (zs : List Int) : outT b zs zs.length = if b then [45] else [] := by unfold outT; simp
theorem outT_length (b : Bool) (zs : List Int) (k : Nat) : (outT b zs k).length ≤ zs.length - k + 1 := by
  unfold outT
  cases b <;> simp <;> omega
theorem rtx_big (b : Bool) (n : Nat) (h : n ≠ 0) : bigB (sgn b n) = decide (((dz 10 n).length : Int) ≤ 200) := by
  unfold bigB
  rw [sgn_abs, decide_eq_decide, ← txt_big]
  unfold txt
  rw [if_neg h, txtD_length]
  omega
theorem row_back {w : World} {B g cap : Nat} {n : Nat} {l : List UInt8} (h : w.ownsRow B 5 1 (.slice (some ⟨g, 0, none⟩) n cap) n (l.map u8c)) :
    (convert 48 9 (.slice (some ⟨g, 0, none⟩) n cap)).run Tryz.prog w = .ok (.string ⟨l.toArray⟩) w := by
  have hl : l.length = n := by have := h.1; simp at this; exact this
  have := run_convert_bytes_back (P := Tryz.prog) w 48 9 5 ⟨g, 0, none⟩ cap l Tryz.underlying48 Tryz.underlying5 Tryz.underlying9 (fun j hj => by
    have h1 := h.cellAt j (by omega)
    rw [List.getElem?_map, List.getElem?_eq_getElem hj] at h1
    rw [Go.WideShapes.add_plain, Nat.zero_add]
    simpa [u8c] using h1)
  rwa [hl] at this
theorem chr_conv (d : Int) (h0 : 0 ≤ d) (h1 : d < 10) : u8c (chr d) = .int .u8 (48 + d) := by
  unfold u8c; rw [chr_toNat d h0 h1]

theorem shw_pos (z : Int) : 0 < (shw z).length := by
  unfold shw
  split
  · simp
  · exact List.length_pos_iff.2 (txt_ne _)
theorem rtext_zero (w : World) (b : Bool) (v : Value) (h : Dt w v 0) :
    Calls Tryz.prog 72 #[.bool b, v] w fun e w' => e = .returned (.tuple #[.string (str 0), .bool true]) ∧ w' = w := by
  unfold Dt at h
  rw [dz_zero] at h
  obtain ⟨al, c, rfl, _⟩ := h.shape
  clear h
  go_enter Tryz.func72, Tryz.ntmps72
  go_wp2
  go_ret2
  exact ⟨rfl, rfl⟩
set_option maxRecDepth 100000 in
set_option maxHeartbeats 2000000 in
theorem rtext_any (w : World) (b : Bool) (v : Value) (n : Nat) (h : Dt w v n) (hN : (dz 10 n).length ≤ 100000) :
    Calls Tryz.prog 72 #[.bool b, v] w (RtxOut w (sgn b n)) := by
  obtain ⟨i0, hi, hz0, hz1, hz2⟩ := info_parts infoByte
  by_cases hn : n = 0
  · subst hn
    have e : sgn b 0 = 0 := by cases b <;> rfl
    rw [e]
    unfold Dt at h
    rw [dz_zero] at h
    obtain ⟨al, c, rfl, _⟩ := h.shape
    clear h hN e
    go_enter Tryz.func72, Tryz.ntmps72
    go_wp2
    go_ret2
    exact ⟨rfl, Below.refl _ _⟩
  · have HBG := Lib.hid (rtx_big b n hn)
    have HOE := Lib.hid (outT_end b n hn)
    have hpos := (dz_length_pos 10 (by decide) n).2 hn
    have HDG := Lib.hid (dig10_at n)
    unfold Dt at h
    generalize dz 10 n = zs at *
    rcases h with ⟨rfl, rfl⟩ | ⟨bk, o, c, rfl, hc, hlt, hcell⟩
    · simp at hpos
    · have HOT := Lib.hid (outT_start b zs)
      have HOL := Lib.hid (outT_length b zs)
      have HOP := Lib.hid (outT_step b zs)
      obtain ⟨N, hNe⟩ : ∃ N, zs.length = N := ⟨_, rfl⟩
      have HC := Lib.hid hcell
      have HN := Lib.hid hNe
      rw [hNe] at hc hN hpos HBG HOT HOL HOP
      rw [hNe]
      clear hcell hNe hn
      obtain ⟨O, hO⟩ : ∃ O : Nat → List UInt8, outT b zs = O := ⟨_, rfl⟩
      rw [hO] at HOT HOL HOP HOE
      have hN0 : ((N : Int) == 0) = false := by simp; omega
      obtain ⟨bg, hbg⟩ : ∃ bg, decide ((N : Int) ≤ 200) = bg := ⟨_, rfl⟩
      have HG := Lib.hid hbg
      clear hO
      cases b
      · have HS := Lib.hid (show w.ownsRow w.heap.size 5 1 (.slice none 0 0) (O N).length ((O N).map u8c) from by rw [HOT.out]; exact World.ownsRow_nil _ _ _ _)
        have HBS := Lib.hid (Below.refl w.heap.size w)
        go_enter Tryz.func72, Tryz.ntmps72
        go_wp2
        go_loopw [6, 7] (fun v iv wr => ∃ k : Nat, k ≤ N ∧ iv = .int .i64 ((k : Int) - 1) ∧ wr.ownsRow w.heap.size 5 1 v (O k).length ((O k).map u8c) ∧ Below w.heap.size w wr) (fun _ iv _ => (intOf iv + 1).toNat)
        case atStart => exact ⟨N, Nat.le_refl _, rfl, HS.out, HBS.out⟩
        case round => 
          obtain ⟨k, hk, rfl, hrow, hB⟩ := hrel
          have HB := Lib.hid hB
          have hBs := hB.size
          have hlen := HOL.out k
          clear hB
          by_cases hk0 : k = 0
          · subst hk0
            obtain ⟨m, hm⟩ : ∃ m, (O 0).length = m + 1 := ⟨(O 0).length - 1, by rw [HOE.out]; have := shw_pos; exact (Nat.succ_pred_eq_of_pos (this _)).symm⟩
            rw [hm] at hrow
            obtain ⟨g, cap, rfl⟩ := ownsRow_succ hrow
            have hcv := row_back hrow
            rw [HOE.out] at hcv
            clear hm hrow hlen
            go_wp2
            go_ret2
            exact ⟨by rw [HBG.out, HG.out]; rfl, HB.out⟩
          · obtain ⟨j, rfl⟩ : ∃ j, k = j + 1 := ⟨k - 1, by omega⟩
            have hcj := (HB.out.cell (p := ⟨bk, o + j, none⟩) hlt).trans (HC.out j (by rw [HN.out]; omega))
            have hdj := HDG.out j
            have HST := Lib.hid (HOP.out j (by omega))
            obtain ⟨d, hd⟩ : ∃ d, zs[j]?.getD 0 = d := ⟨_, rfl⟩
            rw [hd] at hcj hdj HST
            have hch := Lib.hid (chr_conv d hdj.1 hdj.2)
            obtain ⟨x, hx⟩ : ∃ x, (48 : Int) + d = x := ⟨_, rfl⟩
            rw [hx] at hch
            have hxb : 48 ≤ x ∧ x ≤ 57 := by omega
            clear hd hk0
            go_wp2_with (at_builtin; refine wpList_append_lit rfl _ _ 48 5 rfl Tryz.underlying48 hi hz0 hz1 hz2 rfl w.heap.size _ _ _ rfl hrow #[.int .u8 x] 1 rfl (by simp [Value.oneCell']) (by simp; omega) (by decide) hBs HB.out ?_; intro v' w1 hown' hb1)
            go_roundw
            case rel => exact ⟨j, by omega, rfl, by rw [HST.out, List.length_append, List.map_append]; simpa [hch.out] using hown', hb1⟩
            case measure => simp [intOf]
      · have HBS := Lib.hid (Below.refl w.heap.size w)
        go_enter Tryz.func72, Tryz.ntmps72
        go_wp2_with (at_builtin; refine wpList_append_lit rfl _ _ 48 5 rfl Tryz.underlying48 hi hz0 hz1 hz2 rfl w.heap.size _ 0 [] rfl (World.ownsRow_nil _ _ _ _) #[.int .u8 45] 1 rfl (by simp [Value.oneCell']) (by simp) (by decide) (Nat.le_refl _) HBS.out ?_; intro v' w1 hown' hb1; have HS := Lib.hid (show w1.ownsRow w.heap.size 5 1 v' (O N).length ((O N).map u8c) from by rw [HOT.out]; exact hown'); have HB1 := Lib.hid hb1; obtain ⟨gs, cs, rfl⟩ := ownsRow_succ hown'; clear hown' hb1)
        go_loopw [6, 7] (fun v iv wr => ∃ k : Nat, k ≤ N ∧ iv = .int .i64 ((k : Int) - 1) ∧ wr.ownsRow w.heap.size 5 1 v (O k).length ((O k).map u8c) ∧ Below w.heap.size w wr) (fun _ iv _ => (intOf iv + 1).toNat)
        case atStart => exact ⟨N, Nat.le_refl _, rfl, HS.out, HB1.out⟩
        case round => 
          obtain ⟨k, hk, rfl, hrow, hB⟩ := hrel
          have HB := Lib.hid hB
          have hBs := hB.size
          have hlen := HOL.out k
          clear hB
          by_cases hk0 : k = 0
          · subst hk0
            obtain ⟨m, hm⟩ : ∃ m, (O 0).length = m + 1 := ⟨(O 0).length - 1, by rw [HOE.out]; have := shw_pos; exact (Nat.succ_pred_eq_of_pos (this _)).symm⟩
            rw [hm] at hrow
            obtain ⟨g, cap, rfl⟩ := ownsRow_succ hrow
            have hcv := row_back hrow
            rw [HOE.out] at hcv
            clear hm hrow hlen
            go_wp2
            go_ret2
            exact ⟨by rw [HBG.out, HG.out]; rfl, HB.out⟩
          · obtain ⟨j, rfl⟩ : ∃ j, k = j + 1 := ⟨k - 1, by omega⟩
            have hcj := (HB.out.cell (p := ⟨bk, o + j, none⟩) hlt).trans (HC.out j (by rw [HN.out]; omega))
            have hdj := HDG.out j
            have HST := Lib.hid (HOP.out j (by omega))
            obtain ⟨d, hd⟩ : ∃ d, zs[j]?.getD 0 = d := ⟨_, rfl⟩
            rw [hd] at hcj hdj HST
            have hch := Lib.hid (chr_conv d hdj.1 hdj.2)
            obtain ⟨x, hx⟩ : ∃ x, (48 : Int) + d = x := ⟨_, rfl⟩
            rw [hx] at hch
            have hxb : 48 ≤ x ∧ x ≤ 57 := by omega
            clear hd hk0
            go_wp2_with (at_builtin; refine wpList_append_lit rfl _ _ 48 5 rfl Tryz.underlying48 hi hz0 hz1 hz2 rfl w.heap.size _ _ _ rfl hrow #[.int .u8 x] 1 rfl (by simp [Value.oneCell']) (by simp; omega) (by decide) hBs HB.out ?_; intro v' w1 hown' hb1)
            go_roundw
            case rel => exact ⟨j, by omega, rfl, by rw [HST.out, List.length_append, List.map_append]; simpa [hch.out] using hown', hb1⟩
            case measure => simp [intOf]
end Go.Proofs.YtcjcafekacceiaaGreatDoor

/-! Sizes of texts. -/
namespace Go.Proofs.YtcjcafekacceiaaGreatDoor
open Go.RowKit

theorem str_size {z : Int} (h : Big z) : (str z).size ≤ 9223372036854775807 := by
  have h1 := shw_length z h
  have h2 : (str z).size = (shw z).length := by rw [← str_data]; rfl
  omega
theorem sgn_self (x : Int) : sgn (decide (x < 0)) x.natAbs = x := by
  unfold sgn
  by_cases h : x < 0 <;> simp [h] <;> omega
/-- The digits read on from a number. -/
def dgF (acc : Nat) (l : List UInt8) : Nat := l.foldl (fun v c => 10 * v + (c.toNat - 48)) acc
theorem dgF_zero (l : List UInt8) : dgF 0 l = dgv l := rfl
theorem dgF_ge : ∀ (l : List UInt8) (acc : Nat), acc ≤ dgF acc l
  | [], _ => Nat.le_refl _
  | c :: l, acc => by
    have h := dgF_ge l (10 * acc + (c.toNat - 48))
    show acc ≤ dgF (10 * acc + (c.toNat - 48)) l
    omega
theorem dgv_txt (n : Nat) : dgv (txt n) = n := by
  have := dgv_eq (txt n) (txt_all n)
  rw [digN_txt] at this
  omega
/-- Does an int hold z? -/
def inR (z : Int) : Bool := decide (-9223372036854775808 ≤ z) && decide (z ≤ 9223372036854775807)
theorem inR_iff (z : Int) : inR z = true ↔ -9223372036854775808 ≤ z ∧ z ≤ 9223372036854775807 := by unfold inR; simp
def tiV (s : ByteArray) : Int := if vS s && inR (nS s) then nS s else 0
def tiE (s : ByteArray) : Int := if vS s && inR (nS s) then 0 else 30
def TiOut (w : World) (v n : Int) (e : Ending) (w' : World) : Prop := e = .returned (.tuple #[.int .i64 v, .int .i64 n]) ∧ Below w.heap.size w w'
end Go.Proofs.YtcjcafekacceiaaGreatDoor

/-! What Compare and Div answer. -/
namespace Go.Proofs.YtcjcafekacceiaaGreatDoor
open Go.RowKit

def cmpS (a b : ByteArray) : Int := if vS a && vS b then cmpZ (nS a) (nS b) else 0
theorem cmpS_ok {x y : Int} (hx : Big x) (hy : Big y) : cmpS (str x) (str y) = cmpZ x y := by
  unfold cmpS
  rw [(vS_str x).2 hx, (vS_str y).2 hy, nS_str hx, nS_str hy]; rfl

/-- Can a be divided by b? -/
def divV (a b : ByteArray) : Bool := vS a && vS b && decide (nS b ≠ 0)
def divQ (a b : ByteArray) : ByteArray := if divV a b then str (nS a / nS b) else ⟨#[]⟩
def divR (a b : ByteArray) : ByteArray := if divV a b then str (nS a % nS b) else ⟨#[]⟩
def divE (a b : ByteArray) : Int := if divV a b then 0 else 30
def DivsOut (w : World) (q r : ByteArray) (n : Int) (e : Ending) (w' : World) : Prop := e = .returned (.tuple #[.string q, .string r, .int .i64 n]) ∧ Below w.heap.size w w'
theorem big_div (x y : Int) (hx : Big x) : Big (x / y) := by
  have := Int.natAbs_ediv_le_natAbs x y
  unfold Big at *
  exact Nat.lt_of_le_of_lt this hx
theorem rem_nat (x y : Int) (hy : y ≠ 0) : x % y = ((x % y).natAbs : Int) := by
  have := Int.emod_nonneg x hy
  omega
theorem str_nat (n : Nat) : str (n : Int) = ⟨(txt n).toArray⟩ := by
  unfold str shw
  rw [if_neg (by omega)]
  rfl

end Go.Proofs.YtcjcafekacceiaaGreatDoor
