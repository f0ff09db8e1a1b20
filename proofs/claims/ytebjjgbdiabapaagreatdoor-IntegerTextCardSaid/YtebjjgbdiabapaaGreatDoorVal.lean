/- Valid, walked. -/
import Derived.Test.YtebjjgbdiabapaaGreatDoorNto
namespace Go.Proofs.YtebjjgbdiabapaaGreatDoor
open Go.RowKit

theorem trim_body (l : List UInt8) : Lib.trimPrefix l [45] = body l := by
  unfold Lib.trimPrefix Lib.hasPrefix body
  cases l with
  | nil => rfl
  | cons c l =>
    by_cases h : c = 45
    · subst h; simp [List.isPrefixOf]
    · have h2 : ¬ ((45 : UInt8) == c) = true := by simpa using fun e => h e.symm
      simp [List.isPrefixOf, h, h2]
theorem has_body (l : List UInt8) : Lib.hasPrefix l [45] = decide (l.head? = some 45) := by
  unfold Lib.hasPrefix
  cases l with
  | nil => rfl
  | cons c l =>
    by_cases h : c = 45
    · subst h; simp [List.isPrefixOf]
    · have h2 : ¬ ((45 : UInt8) == c) = true := by simpa using fun e => h e.symm
      simp [List.isPrefixOf, h]
      simpa using h2
theorem get_data (D : ByteArray) (d : List UInt8) (h : D.data.toList = d) (k : Nat) (h1 : k < D.size) (h2 : k < d.length) : D[k] = d[k] := by
  subst h; rfl
theorem toNat_ne48 (x : UInt8) (h : x ≠ 48) : ((x.toNat : Int) != 48) = true := by
  have : x.toNat ≠ 48 := fun e => h (UInt8.toNat_inj.1 e)
  simp; omega
def BoolOut (w : World) (b : Bool) (e : Ending) (w' : World) : Prop := e = .returned (.bool b) ∧ w' = w

set_option maxRecDepth 100000 in
set_option maxHeartbeats 2000000 in
theorem valid_any (s : ByteArray) (w : World) (hs : s.size ≤ 9223372036854775807) : Calls Tryz.prog 23 #[.string s] w (BoolOut w (vld s.data.toList)) := by
  have CT := Lib.hid (Tryz.strings_TrimPrefix s ⟨#[45]⟩)
  rw [show (⟨#[45]⟩ : ByteArray).data.toList = [45] from rfl, trim_body] at CT
  have hvl : Hid (vld s.data.toList = (!(body s.data.toList).isEmpty && decide ((body s.data.toList).length ≤ 200) && (body s.data.toList).all isD && ((body s.data.toList).head? != some 48 || s.data.toList == [48]))) := rfl
  have hbl : (body s.data.toList).length ≤ 9223372036854775807 := by
    have h1 : s.data.toList.length ≤ 9223372036854775807 := hs
    unfold body
    split
    · rw [List.length_tail]; omega
    · exact h1
  obtain ⟨d, hd⟩ : ∃ d, body s.data.toList = d := ⟨_, rfl⟩
  rw [hd] at CT hvl hbl
  obtain ⟨D, hD⟩ : ∃ D : ByteArray, ⟨d.toArray⟩ = D := ⟨_, rfl⟩
  have hDd : D.data.toList = d := by rw [← hD]
  have hDs : D.size = d.length := by rw [← hDd]; rfl
  rw [hD] at CT
  generalize vld s.data.toList = b at *
  have hemp : D.toList.isEmpty = d.isEmpty := by rw [ByteArray.toList_eq, hDd]
  by_cases h0 : d = []
  · have hb : b = false := by rw [hvl.out, h0]; rfl
    have he : D.toList.isEmpty = true := by rw [hemp, h0]; rfl
    subst hb
    clear hemp hDd hDs hvl hd hD
    go_enter Tryz.func23, Tryz.ntmps23
    go_wp2_with (go_at_call 52; refine (CT.out _).mono ?_; rintro e w2 ⟨rfl, rfl⟩)
    go_ret
    exact ⟨rfl, rfl⟩
  · have he : D.toList.isEmpty = false := by rw [hemp]; simpa using h0
    have hN0 : 0 < d.length := List.length_pos_iff.2 h0
    have hde : d.isEmpty = false := by simpa using h0
    by_cases h2 : d.length ≤ 200
    · have hget : ∀ k (h : k < D.size) (h2 : k < d.length), D[k] = d[k] := fun k h h2 => get_data D d hDd k h h2
      have HGET := Lib.hid hget
      have hs200 : (D.size : Int) ≤ 200 := by omega
      have HVL := Lib.hid hvl; have HDS := Lib.hid hDs
      have hlast : Hid (d.all isD = true → ((d.head? != some 48 || s.data.toList == [48]) = (d[0] != 48 || s.toList == [48]))) := fun _ => by
        rw [List.head?_eq_getElem?, List.getElem?_eq_getElem hN0, ByteArray.toList_eq]
        rfl
      have hd0 : (0 : Nat) < D.size := by omega
      have hd0I : (0 : Int) < (D.size : Int) := by omega
      clear hemp hDd hvl hd hD hget hDs
      go_enter Tryz.func23, Tryz.ntmps23
      go_wp2_with (go_at_call 52; refine (CT.out _).mono ?_; rintro e w2 ⟨rfl, rfl⟩)
      go_loopw [16] (fun iv wr => ∃ k : Nat, k ≤ D.size ∧ iv = .int .i64 k ∧ ((d.take k).all isD = true ∧ wr = w2)) (fun iv _ => D.size - (intOf iv).toNat)
      case atStart => exact ⟨0, Nat.zero_le _, rfl, rfl, rfl⟩
      case round =>
        obtain ⟨k, hk, rfl, hall, rfl⟩ := hrel
        have HALL := Lib.hid hall
        clear hall
        have hDs := HDS.out
        by_cases hkN : k < D.size
        · have hkd : k < d.length := by omega
          have hstep := Lib.hid (show ∀ b, isD d[k] = b → (d.take (k + 1)).all isD = b from fun b hb => by
            rw [List.take_succ_eq_append_getElem hkd, List.all_append, HALL.out]; simpa using hb)
          have hc := HGET.out k hkN hkd
          obtain ⟨x, hx⟩ : ∃ x, d[k] = x := ⟨_, rfl⟩
          rw [hx] at hc hstep
          have HX := Lib.hid hx
          have hkI : (k : Int) < (D.size : Int) := by omega
          by_cases hxd : isD x = true
          · have hxx := hxd
            simp [isD] at hxx
            have hx1 : ¬ ((x.toNat : Int) < 48) := by omega
            have hx2 : ¬ ((57 : Int) < (x.toNat : Int)) := by omega
            have hxD := Lib.hid hxd
            clear hxd hxx hx hDs
            go_wp2
            go_roundw
            case rel => exact ⟨k + 1, by omega, by go_num, hstep.out _ hxD.out, by first | rfl | trivial⟩
            case measure => simp [intOf]; omega
          · have hb : Hid (b = false) := by
              rw [HVL.out]
              have : d.all isD = false := by
                rw [List.all_eq_false]
                exact ⟨d[k], List.getElem_mem hkd, by rw [HX.out]; exact hxd⟩
              rw [this]; simp
              exact Lib.hid trivial
            have hxx := hxd
            simp [isD] at hxx
            by_cases h48 : x.toNat < 48
            · have hx1 : (x.toNat : Int) < 48 := by omega
              clear hxx hxd hx hDs
              go_wp2
              go_ret
              exact ⟨by rw [hb.out]; rfl, rfl⟩
            · have hx1 : ¬ ((x.toNat : Int) < 48) := by omega
              have hx2 : (57 : Int) < (x.toNat : Int) := by have := hxx (by omega); omega
              clear hxx hxd hx hDs
              go_wp2
              go_ret
              exact ⟨by rw [hb.out]; rfl, rfl⟩
        · have hkk : k = D.size := by omega
          have hall : d.all isD = true := by
            have := HALL.out
            rwa [List.take_of_length_le (by omega)] at this
          have hb : Hid (b = (d[0] != 48 || s.toList == [48])) := by
            rw [HVL.out, ← hlast.out hall, hde, hall]
            simp [h2]
            exact Lib.hid trivial
          have hc0 := HGET.out 0 hd0 hN0
          obtain ⟨x, hx⟩ : ∃ x, d[0] = x := ⟨_, rfl⟩
          rw [hx] at hb hc0
          clear hlast hx hDs
          subst hkk
          by_cases hx48 : x = 48
          · subst hx48
            obtain ⟨q, hq⟩ : ∃ q, (s.toList == [48]) = q := ⟨_, rfl⟩
            rw [hq] at hb
            go_wp2
            go_ret
            exact ⟨by rw [hb.out]; simp, rfl⟩
          · have hxb : (x != 48) = true := by simpa using hx48
            have hxi : ((x.toNat : Int) != 48) = true := toNat_ne48 x hx48
            go_wp2
            go_ret
            exact ⟨by rw [hb.out, hxb]; simp, rfl⟩
    · have hb : b = false := by rw [hvl.out]; simp [h2]
      have hg : (200 : Int) < (D.size : Int) := by omega
      subst hb
      clear hemp hDd hDs hvl hd hD
      go_enter Tryz.func23, Tryz.ntmps23
      go_wp2_with (go_at_call 52; refine (CT.out _).mono ?_; rintro e w2 ⟨rfl, rfl⟩)
      go_ret
      exact ⟨rfl, rfl⟩
end Go.Proofs.YtebjjgbdiabapaaGreatDoor
