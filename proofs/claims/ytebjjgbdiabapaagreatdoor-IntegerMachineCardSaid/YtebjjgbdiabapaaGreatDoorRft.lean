/- The reference's trim and text, walked. -/
import Derived.Laws.IdiomStrings
import Derived.Test.YtebjjgbdiabapaaGreatDoorOpb
import Derived.Test.YtebjjgbdiabapaaGreatDoorRfn
namespace Go.Proofs.YtebjjgbdiabapaaGreatDoor
open Go.RowKit

/-- The slice v reads as the number n, digit by digit. -/
def Dt (w : World) (v : Value) (n : Nat) : Prop := Ls w v (dz 10 n)
theorem Dt.zero (w : World) : Dt w (.slice none 0 0) 0 := by unfold Dt; rw [dz_zero]; exact Ls.nil w
theorem Dt.below {B : Nat} {w w' : World} {v : Value} {n : Nat} (h : Dt w v n) (hB : w.heap.size ≤ B) (hb : Below B w w') : Dt w' v n := Ls.below h hB hb
theorem Dt.shape {w : World} {v : Value} {n : Nat} (h : Dt w v n) : ∃ al c, v = .slice al (dz 10 n).length c := by
  obtain ⟨al, c, h, _⟩ := Ls.shape h
  exact ⟨al, c, h⟩
def DtOut (w : World) (n : Nat) (e : Ending) (w' : World) : Prop := ∃ v', e = .returned v' ∧ Dt w' v' n ∧ Below w.heap.size w w'

def RtrOut (w : World) (v : Value) (zs : List Int) (e : Ending) (w' : World) : Prop :=
  ∃ v' m, e = .returned v' ∧ (∀ B, AtLeast B v → AtLeast B v') ∧ m ≤ zs.length ∧ (∀ i, m ≤ i → zs[i]?.getD 0 = 0) ∧ (m = 0 ∨ zs[m - 1]?.getD 0 ≠ 0) ∧ Ls w v' (zs.take m) ∧ w' = w
set_option maxHeartbeats 1000000 in
theorem rtrim_cut (w : World) (v : Value) (zs : List Int) (h : Ls w v zs) (hN : zs.length ≤ 1000000) :
    Calls Tryz.prog 29 #[v] w (RtrOut w v zs) := by
  rcases h with ⟨rfl, rfl⟩ | ⟨b, o, c, rfl, hc, hlt, hcell⟩
  · go_enter Tryz.func29, Tryz.ntmps29
    go_wp2
    go_loop [0] (fun v => v = .slice none 0 0) (fun _ => 0)
    case atStart => rfl
    case round =>
      obtain rfl := hrel
      go_wp2
      go_ret
      exact ⟨_, 0, rfl, fun _ h => h, by simp, by simp, .inl rfl, Ls.nil w, rfl⟩
  · obtain ⟨N, hNe⟩ : ∃ N, zs.length = N := ⟨_, rfl⟩
    have HC := Lib.hid hcell
    have HN := Lib.hid hNe
    rw [hNe] at hc hN
    rw [hNe]
    clear hcell hNe
    have hcut := fun m h hh => run_cut_to (P := Tryz.prog) 40 3 1 Tryz.underlying40 sizeInt (some ⟨b, o, none⟩) m c h hh
    have HCUT := Lib.hid hcut
    clear hcut
    go_enter Tryz.func29, Tryz.ntmps29
    go_wp2
    go_loop [0] (fun v => ∃ m : Nat, m ≤ N ∧ v = .slice (some ⟨b, o, none⟩) m c ∧ (∀ i, m ≤ i → zs[i]?.getD 0 = 0)) (fun v => match v with | .slice _ n _ => n | _ => 0)
    case atStart => exact ⟨N, Nat.le_refl _, rfl, fun i hi => by rw [List.getElem?_eq_none (by rw [HN.out]; exact hi)]; rfl⟩
    case round =>
      obtain ⟨m, hm, rfl, hz⟩ := hrel
      have HZ := Lib.hid hz
      clear hz
      have hce : Hid _ := Lib.hid (fun k => by rw [List.length_take, HN.out]; exact Nat.min_eq_left hm : ∀ _ : Unit, (zs.take m).length = m)
      have hls : Hid _ := Lib.hid (show Ls w (.slice (some ⟨b, o, none⟩) m c) (zs.take m) from .inr ⟨b, o, c, by rw [hce.out ()], by rw [hce.out ()]; omega, hlt, fun i hi => by
        rw [hce.out ()] at hi
        rw [HC.out i (by rw [HN.out]; omega), List.getElem?_take, if_pos hi]⟩)
      clear hce
      by_cases h0 : m = 0
      · subst h0
        go_wp2
        go_ret
        exact ⟨_, 0, rfl, fun _ h => h, by rw [HN.out]; omega, HZ.out, .inl rfl, hls.out, rfl⟩
      · obtain ⟨k, rfl⟩ : ∃ k, m = k + 1 := ⟨m - 1, by omega⟩
        have hck := HC.out k (by rw [HN.out]; omega)
        obtain ⟨z, hz⟩ : ∃ z, zs[k]?.getD 0 = z := ⟨_, rfl⟩
        have HK := Lib.hid hz
        rw [hz] at hck
        have hcm := HCUT.out (k + 1) k (by omega)
        clear hz h0
        by_cases hz0 : z = 0
        · subst hz0
          go_wp2
          go_round
          case rel => exact ⟨k, by omega, rfl, fun i hi => by rcases Nat.lt_or_ge k i with h | h; exact HZ.out i h; rw [show i = k by omega]; exact HK.out⟩
          case measure => simp
        · go_wp2
          go_ret
          exact ⟨_, k + 1, rfl, fun _ h => h, by rw [HN.out]; omega, HZ.out, .inr (by rw [show k + 1 - 1 = k from rfl, HK.out]; exact hz0), hls.out, rfl⟩
theorem rtrim_nil (w : World) : Calls Tryz.prog 29 #[.slice none 0 0] w fun e w' => e = .returned (.slice none 0 0) ∧ w' = w := by
  go_enter Tryz.func29, Tryz.ntmps29
  go_wp2
  go_loop [0] (fun v => v = .slice none 0 0) (fun _ => 0)
  case atStart => rfl
  case round =>
    obtain rfl := hrel
    go_wp2
    go_ret
    exact ⟨rfl, rfl⟩
theorem rtrim_far (w : World) (v : Value) (zs : List Int) (h : Ls w v zs) (hN : zs.length ≤ 1000000) (hd : ∀ d ∈ zs, 0 ≤ d ∧ d < 10) :
    Calls Tryz.prog 29 #[v] w fun e w' => ∃ v', e = .returned v' ∧ Dt w v' (vz 10 zs).toNat ∧ (∀ B, AtLeast B v → AtLeast B v') ∧ w' = w := by
  refine (rtrim_cut w v zs h hN).mono ?_
  rintro e w' ⟨v', m, rfl, hat, hm, hz, hl, hls, rfl⟩
  refine ⟨v', rfl, ?_, hat, rfl⟩
  unfold Dt
  rw [show (10 : Int) = ((10 : Nat) : Int) from rfl, ← canon 10 (by decide) zs m hd hm hz hl]
  exact hls
theorem rtrim_dt (w : World) (v : Value) (zs : List Int) (h : Ls w v zs) (hN : zs.length ≤ 1000000) (hd : ∀ d ∈ zs, 0 ≤ d ∧ d < 10) :
    Calls Tryz.prog 29 #[v] w fun e w' => ∃ v', e = .returned v' ∧ Dt w v' (vz 10 zs).toNat ∧ w' = w :=
  (rtrim_far w v zs h hN hd).mono fun _ _ ⟨v', h1, h2, _, h3⟩ => ⟨v', h1, h2, h3⟩
end Go.Proofs.YtebjjgbdiabapaaGreatDoor
