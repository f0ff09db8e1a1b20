/- The reference's text and Made, walked. -/
import Derived.Test.YtebjjgbdiabapaaGreatDoorRft
import Derived.Test.YtebjjgbdiabapaaGreatDoorLit
namespace Go.Proofs.YtebjjgbdiabapaaGreatDoor
open Go.RowKit

theorem shw_sgn (b : Bool) (n : Nat) : shw (sgn b n) = if b && decide (n ≠ 0) then 45 :: txt n else txt n := by
  unfold shw
  rw [sgn_abs, ← sgn_neg]
  by_cases h : sgn b n < 0 <;> simp [h]
def RtxOut (w : World) (z : Int) (e : Ending) (w' : World) : Prop := e = .returned (.tuple #[.string (str z), .bool (bigB z)]) ∧ Below w.heap.size w w'
def u8c (c : UInt8) : Value := .int .u8 c.toNat
/-- The bytes that have been written when k digits are left. -/
def outT (b : Bool) (zs : List Int) (k : Nat) : List UInt8 := (if b then [45] else []) ++ ((zs.drop k).map chr).reverse
theorem outT_step (b : Bool) (zs : List Int) (k : Nat) (h : k < zs.length) : outT b zs k = outT b zs (k + 1) ++ [chr (zs[k]?.getD 0)] := by
  unfold outT
  rw [List.drop_eq_getElem_cons h, List.map_cons, List.reverse_cons, List.getElem?_eq_getElem h, ← List.append_assoc]; rfl
theorem outT_end (b : Bool) (n : Nat) (h : n ≠ 0) : outT b (dz 10 n) 0 = shw (sgn b n) := by
  rw [shw_sgn]
  unfold outT txt txtD
  cases b <;> simp [h]
theorem outT_start (b : Bool) (zs : List Int) : outT b zs zs.length = if b then [45] else [] := by unfold outT; simp
theorem outT_length (b : Bool) (zs : List Int) (k : Nat) : (outT b zs k).length ≤ zs.length - k + 1 := by
  unfold outT
  cases b <;> simp <;> omega
theorem rtx_big (b : Bool) (n : Nat) (h : n ≠ 0) : bigB (sgn b n) = decide (((dz 10 n).length : Int) ≤ 200) := by
  unfold bigB
  rw [sgn_abs, decide_eq_decide, ← txt_big]
  unfold txt
  rw [if_neg h, txtD_length]
  omega
theorem row_back {w : World} {B g cap : Nat} {n : Nat} {l : List UInt8} (h : w.ownsRow B 5 1 (.slice (some ⟨g, 0, none⟩) n cap) n (l.map u8c)) :
    (convert 73 9 (.slice (some ⟨g, 0, none⟩) n cap)).run Tryz.prog w = .ok (.string ⟨l.toArray⟩) w := by
  have hl : l.length = n := by have := h.1; simp at this; exact this
  have := run_convert_bytes_back (P := Tryz.prog) w 73 9 5 ⟨g, 0, none⟩ cap l Tryz.underlying73 Tryz.underlying5 Tryz.underlying9 (fun j hj => by
    have h1 := h.cellAt j (by omega)
    rw [List.getElem?_map, List.getElem?_eq_getElem hj] at h1
    rw [Go.WideShapes.add_plain, Nat.zero_add]
    simpa [u8c] using h1)
  rwa [hl] at this
theorem chr_conv (d : Int) (h0 : 0 ≤ d) (h1 : d < 10) : u8c (chr d) = .int .u8 (48 + d) := by
  unfold u8c; rw [chr_toNat d h0 h1]

theorem shw_pos (z : Int) : 0 < (shw z).length := by
  unfold shw
  split
  · simp
  · exact List.length_pos_iff.2 (txt_ne _)
theorem rtext_zero (w : World) (b : Bool) (v : Value) (h : Dt w v 0) :
    Calls Tryz.prog 28 #[.bool b, v] w fun e w' => e = .returned (.tuple #[.string (str 0), .bool true]) ∧ w' = w := by
  unfold Dt at h
  rw [dz_zero] at h
  obtain ⟨al, c, rfl, _⟩ := h.shape
  clear h
  go_enter Tryz.func28, Tryz.ntmps28
  go_wp2
  go_ret2
  exact ⟨rfl, rfl⟩
set_option maxRecDepth 100000 in
set_option maxHeartbeats 2000000 in
theorem rtext_any (w : World) (b : Bool) (v : Value) (n : Nat) (h : Dt w v n) (hN : (dz 10 n).length ≤ 100000) :
    Calls Tryz.prog 28 #[.bool b, v] w (RtxOut w (sgn b n)) := by
  obtain ⟨i0, hi, hz0, hz1, hz2⟩ := info_parts infoByte
  by_cases hn : n = 0
  · subst hn
    have e : sgn b 0 = 0 := by cases b <;> rfl
    rw [e]
    unfold Dt at h
    rw [dz_zero] at h
    obtain ⟨al, c, rfl, _⟩ := h.shape
    clear h hN e
    go_enter Tryz.func28, Tryz.ntmps28
    go_wp2
    go_ret2
    exact ⟨rfl, Below.refl _ _⟩
  · have HBG := Lib.hid (rtx_big b n hn)
    have HOE := Lib.hid (outT_end b n hn)
    have hpos := (dz_length_pos 10 (by decide) n).2 hn
    have HDG := Lib.hid (dig10_at n)
    unfold Dt at h
    generalize dz 10 n = zs at *
    rcases h with ⟨rfl, rfl⟩ | ⟨bk, o, c, rfl, hc, hlt, hcell⟩
    · simp at hpos
    · have HOT := Lib.hid (outT_start b zs)
      have HOL := Lib.hid (outT_length b zs)
      have HOP := Lib.hid (outT_step b zs)
      obtain ⟨N, hNe⟩ : ∃ N, zs.length = N := ⟨_, rfl⟩
      have HC := Lib.hid hcell
      have HN := Lib.hid hNe
      rw [hNe] at hc hN hpos HBG HOT HOL HOP
      rw [hNe]
      clear hcell hNe hn
      obtain ⟨O, hO⟩ : ∃ O : Nat → List UInt8, outT b zs = O := ⟨_, rfl⟩
      rw [hO] at HOT HOL HOP HOE
      have hN0 : ((N : Int) == 0) = false := by simp; omega
      obtain ⟨bg, hbg⟩ : ∃ bg, decide ((N : Int) ≤ 200) = bg := ⟨_, rfl⟩
      have HG := Lib.hid hbg
      clear hO
      cases b
      · have HS := Lib.hid (show w.ownsRow w.heap.size 5 1 (.slice none 0 0) (O N).length ((O N).map u8c) from by rw [HOT.out]; exact World.ownsRow_nil _ _ _ _)
        have HBS := Lib.hid (Below.refl w.heap.size w)
        go_enter Tryz.func28, Tryz.ntmps28
        go_wp2
        go_loopw [6, 7] (fun v iv wr => ∃ k : Nat, k ≤ N ∧ iv = .int .i64 ((k : Int) - 1) ∧ wr.ownsRow w.heap.size 5 1 v (O k).length ((O k).map u8c) ∧ Below w.heap.size w wr) (fun _ iv _ => (intOf iv + 1).toNat)
        case atStart => exact ⟨N, Nat.le_refl _, rfl, HS.out, HBS.out⟩
        case round => 
          obtain ⟨k, hk, rfl, hrow, hB⟩ := hrel
          have HB := Lib.hid hB
          have hBs := hB.size
          have hlen := HOL.out k
          clear hB
          by_cases hk0 : k = 0
          · subst hk0
            obtain ⟨m, hm⟩ : ∃ m, (O 0).length = m + 1 := ⟨(O 0).length - 1, by rw [HOE.out]; have := shw_pos; exact (Nat.succ_pred_eq_of_pos (this _)).symm⟩
            rw [hm] at hrow
            obtain ⟨g, cap, rfl⟩ := ownsRow_succ hrow
            have hcv := row_back hrow
            rw [HOE.out] at hcv
            clear hm hrow hlen
            go_wp2
            go_ret2
            exact ⟨by rw [HBG.out, HG.out]; rfl, HB.out⟩
          · obtain ⟨j, rfl⟩ : ∃ j, k = j + 1 := ⟨k - 1, by omega⟩
            have hcj := (HB.out.cell (p := ⟨bk, o + j, none⟩) hlt).trans (HC.out j (by rw [HN.out]; omega))
            have hdj := HDG.out j
            have HST := Lib.hid (HOP.out j (by omega))
            obtain ⟨d, hd⟩ : ∃ d, zs[j]?.getD 0 = d := ⟨_, rfl⟩
            rw [hd] at hcj hdj HST
            have hch := Lib.hid (chr_conv d hdj.1 hdj.2)
            obtain ⟨x, hx⟩ : ∃ x, (48 : Int) + d = x := ⟨_, rfl⟩
            rw [hx] at hch
            have hxb : 48 ≤ x ∧ x ≤ 57 := by omega
            clear hd hk0
            go_wp2_with (at_builtin; refine wpList_append_lit rfl _ _ 73 5 rfl Tryz.underlying73 hi hz0 hz1 hz2 rfl w.heap.size _ _ _ rfl hrow #[.int .u8 x] 1 rfl (by simp [Value.oneCell']) (by simp; omega) (by decide) hBs HB.out ?_; intro v' w1 hown' hb1)
            go_roundw
            case rel => exact ⟨j, by omega, rfl, by rw [HST.out, List.length_append, List.map_append]; simpa [hch.out] using hown', hb1⟩
            case measure => simp [intOf]
      · have HBS := Lib.hid (Below.refl w.heap.size w)
        go_enter Tryz.func28, Tryz.ntmps28
        go_wp2_with (at_builtin; refine wpList_append_lit rfl _ _ 73 5 rfl Tryz.underlying73 hi hz0 hz1 hz2 rfl w.heap.size _ 0 [] rfl (World.ownsRow_nil _ _ _ _) #[.int .u8 45] 1 rfl (by simp [Value.oneCell']) (by simp) (by decide) (Nat.le_refl _) HBS.out ?_; intro v' w1 hown' hb1; have HS := Lib.hid (show w1.ownsRow w.heap.size 5 1 v' (O N).length ((O N).map u8c) from by rw [HOT.out]; exact hown'); have HB1 := Lib.hid hb1; obtain ⟨gs, cs, rfl⟩ := ownsRow_succ hown'; clear hown' hb1)
        go_loopw [6, 7] (fun v iv wr => ∃ k : Nat, k ≤ N ∧ iv = .int .i64 ((k : Int) - 1) ∧ wr.ownsRow w.heap.size 5 1 v (O k).length ((O k).map u8c) ∧ Below w.heap.size w wr) (fun _ iv _ => (intOf iv + 1).toNat)
        case atStart => exact ⟨N, Nat.le_refl _, rfl, HS.out, HB1.out⟩
        case round => 
          obtain ⟨k, hk, rfl, hrow, hB⟩ := hrel
          have HB := Lib.hid hB
          have hBs := hB.size
          have hlen := HOL.out k
          clear hB
          by_cases hk0 : k = 0
          · subst hk0
            obtain ⟨m, hm⟩ : ∃ m, (O 0).length = m + 1 := ⟨(O 0).length - 1, by rw [HOE.out]; have := shw_pos; exact (Nat.succ_pred_eq_of_pos (this _)).symm⟩
            rw [hm] at hrow
            obtain ⟨g, cap, rfl⟩ := ownsRow_succ hrow
            have hcv := row_back hrow
            rw [HOE.out] at hcv
            clear hm hrow hlen
            go_wp2
            go_ret2
            exact ⟨by rw [HBG.out, HG.out]; rfl, HB.out⟩
          · obtain ⟨j, rfl⟩ : ∃ j, k = j + 1 := ⟨k - 1, by omega⟩
            have hcj := (HB.out.cell (p := ⟨bk, o + j, none⟩) hlt).trans (HC.out j (by rw [HN.out]; omega))
            have hdj := HDG.out j
            have HST := Lib.hid (HOP.out j (by omega))
            obtain ⟨d, hd⟩ : ∃ d, zs[j]?.getD 0 = d := ⟨_, rfl⟩
            rw [hd] at hcj hdj HST
            have hch := Lib.hid (chr_conv d hdj.1 hdj.2)
            obtain ⟨x, hx⟩ : ∃ x, (48 : Int) + d = x := ⟨_, rfl⟩
            rw [hx] at hch
            have hxb : 48 ≤ x ∧ x ≤ 57 := by omega
            clear hd hk0
            go_wp2_with (at_builtin; refine wpList_append_lit rfl _ _ 73 5 rfl Tryz.underlying73 hi hz0 hz1 hz2 rfl w.heap.size _ _ _ rfl hrow #[.int .u8 x] 1 rfl (by simp [Value.oneCell']) (by simp; omega) (by decide) hBs HB.out ?_; intro v' w1 hown' hb1)
            go_roundw
            case rel => exact ⟨j, by omega, rfl, by rw [HST.out, List.length_append, List.map_append]; simpa [hch.out] using hown', hb1⟩
            case measure => simp [intOf]
end Go.Proofs.YtebjjgbdiabapaaGreatDoor
