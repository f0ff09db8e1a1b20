/- naturalOf's loop over the groups, walked. -/
import Derived.Test.YtebjjgbdiabapaaGreatDoorNat
namespace Go.Proofs.YtebjjgbdiabapaaGreatDoor
open Go.RowKit

theorem ext_list (s : ByteArray) (a e : Nat) : (s.extract a e).data.toList = (s.data.toList.take e).drop a := by
  rw [ByteArray.data_extract, Array.toList_extract, List.extract_eq_take_drop, List.drop_take]
/-- Between two groups: what stands above is still to come. -/
def NtoR (B : Nat) (w : World) (d : List UInt8) (E : Int) (v : Value) (wr : World) : Prop :=
  ∃ (k : Nat) (gs : List Int), gs.length = k ∧ k + E.toNat ≤ d.length ∧ (∀ g ∈ gs, 0 ≤ g ∧ g < 10000) ∧ vt 10000 gs (vz 10 (digN (d.take E.toNat))) = vz 10 (digN d) ∧ wr.ownsRow B 3 1 v k (gs.map (Value.int .i64)) ∧ Below B w wr
theorem nto_step (d : List UInt8) (hall : d.all isD = true) (e a : Nat) (he : 0 < e) (hed : e ≤ d.length) (ha : a = e - 4) : vz 10 (digN (d.take e)) = ((dgv ((d.take e).drop a) : Nat) : Int) + 10000 * vz 10 (digN (d.take a)) ∧ dgv ((d.take e).drop a) < 10000 := by
  have hall2 : ((d.take e).drop a).all isD = true := by
    rw [List.all_eq_true] at hall ⊢
    exact fun c hc => hall c (List.mem_of_mem_take (List.mem_of_mem_drop hc))
  have hl : ((d.take e).drop a).length = e - a := by rw [List.length_drop, List.length_take]; omega
  have h4 : ((d.take e).drop a).length ≤ 4 := by omega
  refine ⟨?_, dgv_lt _ hall2 h4⟩
  have e1 : d.take e = d.take a ++ (d.take e).drop a := by
    conv => lhs; rw [← List.take_append_drop a (d.take e)]
    rw [List.take_take, Nat.min_eq_left (by omega)]
  have e2 : digN (d.take e) = digN ((d.take e).drop a) ++ digN (d.take a) := by conv => lhs; rw [e1, digN_append]
  rw [e2, vz_append, vt_eq, ← dgv_eq _ hall2, digN_length, hl]
  by_cases h : 4 ≤ e
  · rw [show e - a = 4 by omega]; rfl
  · have : a = 0 := by omega
    subst this
    simp [digN, vz]

set_option maxRecDepth 100000 in
set_option maxHeartbeats 2000000 in
theorem naturalOf_nt (s : ByteArray) (hall : s.data.toList.all isD = true) (hl : s.size ≤ 5000) (w : World) :
    Calls Tryz.prog 69 #[.string s] w (NtOut w (vz 10 (digN s.data.toList)).toNat) := by
  obtain ⟨i0, hi, hz0, hz1, hz2⟩ := info_parts infoInt
  have hcv : ∀ (t : ByteArray) (W : World), (convert 9 73 (.string t)).run Tryz.prog W = .ok (.slice (some ⟨W.heap.size, 0, none⟩) t.size (grownCap W t.size 0 5)) (Lib.bytesWorld W 5 t) := fun t W => Lib.run_convert_string_bytes (P := Tryz.prog) W 9 73 5 t Tryz.underlying9 Tryz.underlying73 Tryz.underlying5
  obtain ⟨d, hd⟩ : ∃ d, s.data.toList = d := ⟨_, rfl⟩
  have hsd : s.size = d.length := by rw [← hd]; rfl
  have HD := Lib.hid hd; have HSD := Lib.hid hsd
  rw [hd] at hall ⊢
  have HA := Lib.hid hall
  clear hd hall
  obtain ⟨n, hn⟩ : ∃ n, d.length = n := ⟨_, rfl⟩
  have HN := Lib.hid hn
  rw [hn] at hsd
  go_enter Tryz.func69, Tryz.ntmps69
  go_wp2
  go_loopw [3, 4] (fun v ev wr => ∃ E : Int, ev = .int .i64 E ∧ -4 ≤ E ∧ E ≤ n ∧ NtoR w.heap.size w d E v wr) (fun _ ev _ => (intOf ev).toNat)
  case atStart => exact ⟨(n : Int), by rw [← hsd], by omega, by omega, 0, [], rfl, by simp [hn], by simp, by simp [vt, ← hn], World.ownsRow_nil _ _ _ _, Below.refl _ _⟩
  case round =>
    obtain ⟨E, rfl, hE0, hE1, k, gs, hgl, hke, hgd, hv, hrow, hB⟩ := hrel
    have HGL := Lib.hid hgl; have HGD := Lib.hid hgd; have HV := Lib.hid hv; have HB := Lib.hid hB; have HKE := Lib.hid hke
    have hkb : k ≤ 5000 := by omega
    have hBs := hB.size
    clear hgl hgd hv hB hke hn
    by_cases hEp : 0 < E
    · obtain ⟨e, rfl⟩ := Int.eq_ofNat_of_zero_le (Int.le_of_lt hEp)
      rw [Int.toNat_natCast] at HKE HV
      obtain ⟨a, ha⟩ : ∃ a, e - 4 = a := ⟨_, rfl⟩
      have hst := Lib.hid (nto_step d HA.out e a (by omega) (by have := HN.out; omega) ha.symm)
      have hmx : ∀ (ts : Array TypeId) (t : TypeId) (W : World), (Builtin.max_ ts t #[.int .i64 0, .int .i64 ((e : Int) - 4)]).run Tryz.prog W = .ok (.int .i64 (a : Int)) W := fun ts t W => by
        rw [run_max_int2]
        congr 2
        split <;> omega
      have hae : (a : Int) ≤ (e : Int) := by omega
      have hes : (e : Int) ≤ (s.size : Int) := by omega
      have HAE := Lib.hid ha
      clear ha
      obtain ⟨l, hle⟩ : ∃ l, (d.take e).drop a = l := ⟨_, rfl⟩
      have hll : l.length = min e n - a := by rw [← hle, List.length_drop, List.length_take, HN.out]
      have hl4 : min e n - a ≤ 4 := by have := HAE.out; omega
      have hlall : l.all isD = true := by
        have := HA.out
        rw [List.all_eq_true] at this ⊢
        exact fun c hc => this c (by rw [← hle] at hc; exact List.mem_of_mem_take (List.mem_of_mem_drop hc))
      have hex : (s.extract a e).data.toList = l := by rw [ext_list, HD.out, hle]
      rw [hle] at hst
      have CF := Lib.hid (foldDigits wr.heap.size (min e n - a) (grownCap wr (min e n - a) 0 5) l hll hl4 hlall (Lib.bytesWorld wr 5 (s.extract a e)) (fun i hi => by
        rw [Lib.bytesWorld_cell _ _ _ _ (by show i < (s.extract a e).data.size; rw [← Array.length_toList, hex, hll]; exact hi), hex, List.getD_eq_getElem?_getD]))
      obtain ⟨g, hg⟩ : ∃ g, dgv l = g := ⟨_, rfl⟩
      rw [hg] at CF hst
      obtain ⟨hst1, hst2⟩ := hst.out
      have HS1 := Lib.hid hst1
      have hb1 := Lib.hid (Lib.bytesWorld_below wr 5 (s.extract a e))
      have hrow1 := hrow.kept (w' := Lib.bytesWorld wr 5 (s.extract a e)) (row := none) ⟨hb1.out.os, hb1.out.tape, hb1.out.output, hb1.out.size, fun k hk _ => hb1.out.block k hk⟩ (by cases u3.ownBlock <;> simp)
      clear hst hst1 hle hll hlall hex hg
      have HBX := Lib.hid (HB.out.trans (hb1.out.mono HB.out.size))
      obtain ⟨WX, hWX⟩ : ∃ WX, Lib.bytesWorld wr 5 (s.extract a e) = WX := ⟨_, rfl⟩
      rw [hWX] at CF hrow1 HBX
      have hxs := HBX.out.size
      go_wp2_with (first
        | (go_at_call 90; refine CF.out.mono ?_; rintro e w2 ⟨rfl, rfl⟩)
        | (at_builtin; refine wpList_append_own _ rfl _ _ 40 rfl w.heap.size 3 i0 (.int .i64 0) 1 8 Tryz.underlying40 hi hz0 hz1 hz2 rfl (by decide) _ _ _ rfl (hrow1.alloc _) ⟨_, 0, none⟩ 1 1 [.int .i64 (g : Int)] rfl rfl (cell_one_new _ _ _) (by simp [Value.oneCell']) (by unfold maxLen; omega) (by omega) (by simp; omega) ?_; intro v' w1 hown' hgrow _; have hb2 := Lib.hid ((HBX.out.alloc hxs _).grown hgrow (by simp; omega) (ownNone hrow1))))
      refine ⟨⟨(e : Int) - 4, rfl, by omega, by omega, k + 1, gs ++ [(g : Int)], by simp [HGL.out], ?_, ?_, ?_, by simpa using hown', hb2.out⟩, by simp [intOf]; omega⟩
      · have := HKE.out; omega
      · intro z hz
        rw [List.mem_append, List.mem_singleton] at hz
        rcases hz with hz | rfl
        · exact HGD.out z hz
        · omega
      · rw [vt_snoc, ← HV.out, show ((e : Int) - 4).toNat = a from by have := HAE.out; omega, HS1.out]
    · have hE : E.toNat = 0 := by omega
      have hls := Lib.hid (Ls.own hrow gs rfl)
      have hvz := Lib.hid (show vz 10000 gs = vz 10 (digN d) by have := HV.out; rw [hE] at this; rw [← this, show digN (d.take 0) = [] from rfl, vz, vt_zero])
      clear hE
      go_wp2_with (go_at_call 80; refine (trimmed_nt _ _ gs hls.out (by rw [HGL.out]; omega) HGD.out).mono ?_; rintro e w2 ⟨v2, rfl, hnt, rfl⟩; have HNT := Lib.hid hnt; clear hnt)
      go_ret
      exact ⟨_, rfl, by rw [← hvz.out]; exact HNT.out, HB.out⟩
end Go.Proofs.YtebjjgbdiabapaaGreatDoor
