/- trimmed and carried, walked. -/
import Derived.WalkKit
import Derived.WalkLawsBesides
import Derived.WalkSpells
import Derived.Lib.Hide
import Derived.IntWalk
import Derived.Test.YtebjjgbdiabapaaGreatDoorSlic
import Derived.Test.YtebjjgbdiabapaaGreatDoorAri
import Derived.Test.YtebjjgbdiabapaaGreatDoorChecked
namespace Go.Proofs.YtebjjgbdiabapaaGreatDoor
open Go.RowKit

theorem infoInt : (Tryz.prog.info? 3).map (fun i => (i.zero, i.size, i.bytes)) = some (some (.int .i64 0), 1, 8) := by kernel_rfl
theorem sizeInt : (Tryz.prog.info? 3).map (·.size) = some 1 := by kernel_rfl

/-- A slice's elements lie from block B on. -/
def AtLeast (B : Nat) : Value → Prop
  | .slice (some a) _ _ => B ≤ a.block
  | _ => True
def TrmOut (w : World) (v : Value) (zs : List Int) (e : Ending) (w' : World) : Prop :=
  ∃ v' m, e = .returned v' ∧ (∀ B, AtLeast B v → AtLeast B v') ∧ m ≤ zs.length ∧ (∀ i, m ≤ i → zs[i]?.getD 0 = 0) ∧ (m = 0 ∨ zs[m - 1]?.getD 0 ≠ 0) ∧ Ls w v' (zs.take m) ∧ w' = w
/-- A call that returns the number n and turns nothing that lay. -/
def NtOut (w : World) (n : Nat) (e : Ending) (w' : World) : Prop := ∃ v', e = .returned v' ∧ Nt w' v' n ∧ Below w.heap.size w w'

set_option maxHeartbeats 1000000 in
theorem trimmed_cut (w : World) (v : Value) (zs : List Int) (h : Ls w v zs) (hN : zs.length ≤ 1000000) :
    Calls Tryz.prog 80 #[v] w (TrmOut w v zs) := by
  rcases h with ⟨rfl, rfl⟩ | ⟨b, o, c, rfl, hc, hlt, hcell⟩
  · go_enter Tryz.func80, Tryz.ntmps80
    go_wp2
    go_loop [3] (fun nv => nv = .int .i64 0) (fun _ => 0)
    case atStart => rfl
    case round =>
      obtain rfl := hrel
      go_wp2
      go_ret
      exact ⟨_, 0, rfl, fun _ h => h, by simp, by simp, .inl rfl, Ls.nil w, rfl⟩
  · obtain ⟨N, hNe⟩ : ∃ N, zs.length = N := ⟨_, rfl⟩
    have HC := Lib.hid hcell
    have HN := Lib.hid hNe
    rw [hNe] at hc hN
    rw [hNe]
    clear hcell hNe
    have hcut := fun h hh => run_cut_to (P := Tryz.prog) 40 3 1 Tryz.underlying40 sizeInt (some ⟨b, o, none⟩) N c h hh
    go_enter Tryz.func80, Tryz.ntmps80
    go_wp2
    go_loop [3] (fun nv => ∃ m : Nat, m ≤ N ∧ nv = .int .i64 m ∧ (∀ i, m ≤ i → zs[i]?.getD 0 = 0)) (fun nv => (intOf nv).toNat)
    case atStart => exact ⟨N, Nat.le_refl _, rfl, fun i hi => by rw [List.getElem?_eq_none (by rw [HN.out]; exact hi)]; rfl⟩
    case round =>
      obtain ⟨m, hm, rfl, hz⟩ := hrel
      have HZ := Lib.hid hz
      clear hz
      have hcm := hcut m (by omega)
      clear hcut
      have hce : Hid _ := Lib.hid (fun k => by rw [List.length_take, HN.out]; exact Nat.min_eq_left hm : ∀ _ : Unit, (zs.take m).length = m)
      have hls : Hid _ := Lib.hid (show Ls w (.slice (some ⟨b, o, none⟩) m c) (zs.take m) from .inr ⟨b, o, c, by rw [hce.out ()], by rw [hce.out ()]; omega, hlt, fun i hi => by
        rw [hce.out ()] at hi
        rw [HC.out i (by rw [HN.out]; omega), List.getElem?_take, if_pos hi]⟩)
      clear hce
      by_cases h0 : m = 0
      · subst h0
        go_wp2
        go_ret
        exact ⟨_, 0, rfl, fun _ h => h, by rw [HN.out]; omega, HZ.out, .inl rfl, hls.out, rfl⟩
      · obtain ⟨k, rfl⟩ : ∃ k, m = k + 1 := ⟨m - 1, by omega⟩
        have hck := HC.out k (by rw [HN.out]; omega)
        obtain ⟨z, hz⟩ : ∃ z, zs[k]?.getD 0 = z := ⟨_, rfl⟩
        have HK := Lib.hid hz
        rw [hz] at hck
        clear hz
        by_cases hz0 : z = 0
        · subst hz0
          go_wp2
          go_round
          case rel => exact ⟨k, by omega, by go_num, fun i hi => by rcases Nat.lt_or_ge k i with h | h; exact HZ.out i h; rw [show i = k by omega]; exact HK.out⟩
          case measure => simp [intOf]
        · go_wp2
          go_ret
          exact ⟨_, k + 1, rfl, fun _ h => h, by rw [HN.out]; omega, HZ.out, .inr (by rw [show k + 1 - 1 = k from rfl, HK.out]; exact hz0), hls.out, rfl⟩

theorem trimmed_far (w : World) (v : Value) (zs : List Int) (h : Ls w v zs) (hN : zs.length ≤ 1000000) (hd : ∀ d ∈ zs, 0 ≤ d ∧ d < 10000) :
    Calls Tryz.prog 80 #[v] w fun e w' => ∃ v', e = .returned v' ∧ Nt w v' (vz 10000 zs).toNat ∧ (∀ B, AtLeast B v → AtLeast B v') ∧ w' = w := by
  refine (trimmed_cut w v zs h hN).mono ?_
  rintro e w' ⟨v', m, rfl, ha, hm, hz, hl, hls, rfl⟩
  refine ⟨v', rfl, ?_, ha, rfl⟩
  unfold Nt
  rw [show (10000 : Int) = ((10000 : Nat) : Int) from rfl, ← canon 10000 (by decide) zs m hd hm hz hl]
  exact hls
theorem trimmed_nt (w : World) (v : Value) (zs : List Int) (h : Ls w v zs) (hN : zs.length ≤ 1000000) (hd : ∀ d ∈ zs, 0 ≤ d ∧ d < 10000) :
    Calls Tryz.prog 80 #[v] w fun e w' => ∃ v', e = .returned v' ∧ Nt w v' (vz 10000 zs).toNat ∧ w' = w :=
  (trimmed_far w v zs h hN hd).mono fun _ _ ⟨v', h1, h2, _, h3⟩ => ⟨v', h1, h2, h3⟩
theorem own_atLeast {w : World} {base : Nat} {e : TypeId} {size : Nat} {v : Value} {n : Nat} {xs : List Value} (h : w.ownsRow base e size v n xs) : AtLeast base v := by
  rcases h.2 with ⟨rfl, _⟩ | ⟨g, cap, cur, rfl, hb, _⟩
  · trivial
  · exact hb
theorem ls_setFar {W : World} {v : Value} {zs : List Int} {B : Nat} (h : Ls W v zs) (ha : AtLeast (B + 1) v) (o : Nat) (u : Value) : Ls (W.setCell ⟨B, o, none⟩ u) v zs := by
  rcases h with h | ⟨b, o', c', rfl, hc, hlt, hcell⟩
  · exact .inl h
  · have hb : B + 1 ≤ b := ha
    exact .inr ⟨b, o', c', rfl, hc, by simpa using hlt, fun i hi => (World.cell?_of_block (Below.heap_setCell _ _ _ _ (show b ≠ B by omega))).trans (hcell i hi)⟩
end Go.Proofs.YtebjjgbdiabapaaGreatDoor
