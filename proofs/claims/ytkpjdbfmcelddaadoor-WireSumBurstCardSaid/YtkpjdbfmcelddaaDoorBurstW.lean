/- The walk of WireSumBurst. -/
import Derived.Test.YtkpjdbfmcelddaaDoorAffW
import Derived.Test.YtkpjdbfmcelddaaDoorBurstM
import Derived.Laws.IdiomStrings
namespace Go.Proofs.YtkpjdbfmcelddaaDoor
open Go.RowKit

/-- A block of bytes that may be written. -/
def Row8 (w : World) (b n : Nat) (f : Nat → Nat) : Prop := (∀ j, j < n → w.cell? ⟨b, j, none⟩ = some (.int .u8 (f j : Nat))) ∧ ∀ j, j < n → w.frozen? ⟨b, j, none⟩ = false

theorem bytes_of {P : Program} (s : ByteArray) (w : World) (src dst e : TypeId) (hs : P.underlying src = some .string) (hd : P.underlying dst = some (.slice e)) (he : P.underlying e = some (.int .u8)) :
    ∃ w' cap, (convert src dst (.string s)).run P w = .ok (.slice (some ⟨w.heap.size, 0, none⟩) s.size cap) w' ∧ Below w.heap.size w w' ∧ w.heap.size < w'.heap.size ∧ Row8 w' w.heap.size s.size (fun j => (s.data.toList.getD j 0).toNat) := by
  refine ⟨_, _, run_bytes_of_string w src dst e s hs hd he, ((Below.refl _ _).drew).alloc (Nat.le_refl _) _, by simp, fun j hj => ?_, fun j hj => ?_⟩
  · have h := World.cell?_alloc_mark w.drew (bytesRow s (grownCap w s.size 0 e)) e ((bytesRow s (grownCap w s.size 0 e)).size, (bytesRow s (grownCap w s.size 0 e)).size + 1) j
    rw [show w.drew.heap.size = w.heap.size from rfl] at h
    rw [h, bytesRow_at s _ j hj]
    dsimp only
    rw [List.getD_eq_getElem?_getD, List.getElem?_eq_getElem (show j < s.data.toList.length from hj)]
    rfl
  · have h := World.frozen?_alloc_mark w.drew (bytesRow s (grownCap w s.size 0 e)) e (bytesRow s (grownCap w s.size 0 e)).size ((bytesRow s (grownCap w s.size 0 e)).size + 1) j
    rw [show w.drew.heap.size = w.heap.size from rfl] at h
    rw [h]
    have hsz : s.size ≤ (bytesRow s (grownCap w s.size 0 e)).size := by unfold bytesRow; rw [Array.size_append, Array.size_map]; exact Nat.le_add_right _ _
    simp; omega

theorem cell_other (w : World) (b i j : Nat) (v : Value) (h : j ≠ i) : (w.setCell ⟨b, i, none⟩ v).cell? ⟨b, j, none⟩ = w.cell? ⟨b, j, none⟩ := by
  have hne : (⟨b, i, none⟩ : Addr) ≠ ⟨b, j, none⟩ := by intro e; injection e with _ e2; exact h e2.symm
  exact World.cell?_setCell_other w _ _ v hne
theorem xor_bit (x m : Nat) (hx : x < 256) (hm : m < 8) : bits BinOp.xor IntKind.u8 (x : Int) (2 ^ m % 256) = ((x ^^^ 2 ^ m : Nat) : Int) := by
  have h : 2 ^ m < 256 := show 2 ^ m < 2 ^ 8 from Nat.pow_lt_pow_right (by decide) hm
  have e : ((2 : Int) ^ m % 256) = ((2 ^ m : Nat) : Int) := by
    rw [show ((2 : Int) ^ m) = ((2 ^ m : Nat) : Int) by rw [Int.natCast_pow]; rfl]
    exact Int.emod_eq_of_lt (Int.natCast_nonneg _) (by omega)
  rw [e]; exact u8_xor_nat x _ hx h
theorem row8_next (l : List UInt8) (p y k n : Nat) (hl : l.length = n) (hq : (p + k) / 8 < n) (hy : y < 2 ^ k) (wr : World) (b x : Nat) (V : Int)
    (hx : ((turned l p y).getD ((p + k) / 8) 0).toNat = x) (hV : V = ((x ^^^ 2 ^ ((p + k) % 8) : Nat) : Int)) (hr : Row8 wr b n fun j => ((turned l p y).getD j 0).toNat) :
    Row8 (wr.setCell ⟨b, (p + k) / 8, none⟩ (.int .u8 V)).drew b n fun j => ((turned l p (y + 2 ^ k)).getD j 0).toNat := by
  refine ⟨fun j hj => ?_, fun j hj => ?_⟩
  · dsimp only
    rw [turned_bit l p y k j hy (by omega)]
    show (wr.setCell ⟨b, (p + k) / 8, none⟩ (.int .u8 V)).cell? _ = _
    by_cases e : j = (p + k) / 8
    · subst e
      rw [if_pos rfl, World.cell?_setCell_same' _ _ _ (by rw [hr.1 _ hq]; rfl), hx, hV]
    · rw [if_neg e, cell_other wr b _ j _ e]
      exact hr.1 j hj
  · show (wr.setCell ⟨b, (p + k) / 8, none⟩ (.int .u8 V)).frozen? _ = _
    rw [World.frozen?_setCell]; exact hr.2 j hj
theorem bit_int (u k : Nat) : ((u : Int) / 2 ^ k).tmod 2 = (u / 2 ^ k % 2 : Nat) := by
  rw [show ((u : Int) / 2 ^ k) = ((u / 2 ^ k : Nat) : Int) by rw [Int.natCast_ediv, Int.natCast_pow]; rfl, Int.tmod_eq_emod_of_nonneg (Int.natCast_nonneg _)]; rfl
theorem mod_next0 (u k : Nat) (h : u / 2 ^ k % 2 = 0) : u % 2 ^ (k + 1) = u % 2 ^ k := by rw [Nat.pow_succ, Nat.mod_mul, h]; simp
theorem mod_next1 (u k : Nat) (h : u / 2 ^ k % 2 = 1) : u % 2 ^ (k + 1) = u % 2 ^ k + 2 ^ k := by rw [Nat.pow_succ, Nat.mod_mul, h]; simp

set_option maxRecDepth 100000 in
set_option maxHeartbeats 2000000 in
theorem burst_walk (s : ByteArray) (a u : Int) (h1 : -9223372036854775808 ≤ a) (h2 : a ≤ 9223372036854775807) (hu : 0 ≤ u) (hu2 : u ≤ 4294967295) (w : World) (hT : Tab w) :
    Calls Tryd.prog 8 #[.string s, .int .i64 a, .int .u32 u] w fun e w' => e = .returned (.bool true) ∧ Below w.heap.size w w' := by
  obtain ⟨u, rfl⟩ := Int.eq_ofNat_of_zero_le hu
  obtain ⟨n, hn1, hn2, hn3⟩ := min_len s.size 300 (by decide)
  have sn : (s.extract 0 n).size = n := by rw [ByteArray.size_extract]; omega
  by_cases h0 : n = 0 ∨ u = 0
  · go_enter Tryd.func8, Tryd.ntmps8
    go_wp2_with fail
    refine (sane_any _ hT).mono ?_
    rintro e w1 ⟨rfl, hb1⟩
    obtain ⟨w2, cap, hcv, hb2, _, _⟩ := bytes_of (P := Tryd.prog) (s.extract 0 n) w1 9 38 5 Tryd.underlying9 Tryd.underlying38 Tryd.underlying5
    rw [sn] at hcv
    have hb2 := bstep hb1 hb2
    have hbool : ((n : Int) == 0) = true ∨ ((n : Int) == 0) = false ∧ ((u : Int) == 0) = true := by
      by_cases hz : n = 0
      · left; subst hz; rfl
      · right; exact ⟨beq_eq_false_iff_ne.2 (by omega), beq_iff_eq.2 (by omega)⟩
    clear h0 sn
    rcases hbool with hz | ⟨hz, hz2⟩
    all_goals
      go_wp2
      go_ret
      exact ⟨rfl, hb2⟩
  · have hn0 : ((n : Int) == 0) = false := beq_eq_false_iff_ne.2 (by omega)
    have hu0 : ((u : Int) == 0) = false := beq_eq_false_iff_ne.2 (by omega)
    have hn : 0 < n := by omega
    have hup : 0 < u := by omega
    clear h0
    have hp := pickN_range a (8 * n : Nat) (by omega)
    obtain ⟨p, hpe⟩ : ∃ p : Nat, pickN a (8 * n : Nat) = p := ⟨(pickN a (8 * n : Nat)).toNat, by omega⟩
    go_enter Tryd.func8, Tryd.ntmps8
    go_wp2_with fail
    refine (sane_any _ hT).mono ?_
    rintro e w1 ⟨rfl, hb1⟩
    obtain ⟨w2, cap, hcv, hb2, hlt2, hrow2⟩ := bytes_of (P := Tryd.prog) (s.extract 0 n) w1 9 38 5 Tryd.underlying9 Tryd.underlying38 Tryd.underlying5
    rw [sn] at hcv hrow2
    have hb2 := bstep hb1 hb2
    have HR2 := Lib.hid hrow2; clear hrow2
    have HP := Lib.hid hpe; clear hpe
    go_wp2_with fail
    refine (pick_any a _ (by omega) (by omega) h1 h2 _).mono ?_
    rintro e w3 ⟨rfl, rfl⟩
    rw [show (8 * (n : Int)) = (8 * n : Nat) by omega, HP.out]
    rw [HP.out] at hp
    go_wp2_with fail
    have hl0 : (s.extract 0 n).data.toList.length = n := sn
    go_loopw [10, 11] (fun cv iv wr => ∃ k : Nat, k ≤ 32 ∧ p + k ≤ 8 * n ∧ iv = .int .i64 k ∧ cv = .bool (decide (u % 2 ^ k ≠ 0)) ∧ Below w.heap.size w wr ∧ w1.heap.size < wr.heap.size ∧ Row8 wr w1.heap.size n (fun j => ((turned (s.extract 0 n).data.toList p (u % 2 ^ k)).getD j 0).toNat)) (fun _ i _ => 32 - (intOf i).toNat)
    case atStart => exact ⟨0, by omega, by omega, rfl, by simp [Nat.mod_one], hb2, hlt2, by simpa [Nat.mod_one, turned_zero] using HR2.out⟩
    case round =>
      obtain ⟨k, hk, hpk, rfl, rfl, hbr, hsz, hrow⟩ := hrel
      have HR := Lib.hid hrow; clear hrow
      by_cases hlt : k < 32 ∧ p + k < 8 * n
      · obtain ⟨hlt1, hlt2⟩ := hlt
        have hq : (p + k) / 8 < n := by omega
        have hbe := bit_int u k
        by_cases hbit : u / 2 ^ k % 2 = 1
        · have hbt : (((u : Int) / 2 ^ k).tmod 2 == 1) = true := by rw [hbe, hbit]; rfl
          obtain ⟨x, hx⟩ : ∃ x, ((turned (s.extract 0 n).data.toList p (u % 2 ^ k)).getD ((p + k) / 8) 0).toNat = x := ⟨_, rfl⟩
          have hxl : x < 256 := by rw [← hx]; exact UInt8.toNat_lt _
          have hc : wr.cell? ⟨w1.heap.size, (p + k) / 8, none⟩ = some (.int .u8 x) := (HR.out.1 _ hq).trans (by dsimp only; rw [hx])
          have hf := HR.out.2 _ hq
          have HX := Lib.hid hx; have HU := Lib.hid hbit; clear hx hbe hbit
          go_wp2_with fail
          go_region
          have hV := xor_bit x ((p + k) % 8) hxl (by omega)
          generalize bits BinOp.xor IntKind.u8 (x : Int) (2 ^ ((p + k) % 8) % 256) = V at hV ⊢
          have HN := Lib.hid (row8_next (s.extract 0 n).data.toList p (u % 2 ^ k) k n hl0 hq (Nat.mod_lt _ (Nat.two_pow_pos k)) wr w1.heap.size x V HX.out hV HR.out)
          have HM := Lib.hid (mod_next1 u k HU.out)
          have hbs := hbr.setCell (p := ⟨w1.heap.size, (p + k) / 8, none⟩) hb1.size (.int .u8 V)
          clear hV
          go_wp2
          go_roundw
          case rel => exact ⟨k + 1, by omega, by omega, by go_num, by rw [HM.out]; simp, hbs.drew, by simpa [World.setCell] using hsz, by rw [HM.out]; exact HN.out⟩
          case measure => simp [intOf]; omega
        · have hbt : (((u : Int) / 2 ^ k).tmod 2 == 1) = false := by rw [hbe]; exact beq_eq_false_iff_ne.2 (by omega)
          have HE := Lib.hid (mod_next0 u k (by omega))
          clear hbe hbit
          go_wp2_with fail
          refine ⟨⟨k + 1, by omega, by omega, by go_num, by rw [HE.out]; simp, hbr, hsz, by rw [HE.out]; exact HR.out⟩, by simp [intOf]; omega⟩
      · have hend : k = 32 ∨ p + k = 8 * n := by omega
        have hxl : (turned (s.extract 0 n).data.toList p (u % 2 ^ k)).length = n := by rw [turned_length, hl0]
        have hx32 : u % 2 ^ k < 2 ^ 32 := Nat.lt_of_lt_of_le (Nat.mod_lt _ (Nat.two_pow_pos k)) (Nat.pow_le_pow_right (by decide) hk)
        have hsum := sum_turned (s.extract 0 n).data.toList p (u % 2 ^ k) hx32 (by omega) (by
          rw [hl0]
          refine Nat.lt_of_lt_of_le (Nat.mul_lt_mul_of_pos_right (Nat.mod_lt u (Nat.two_pow_pos k)) (Nat.two_pow_pos p)) ?_
          rw [← Nat.pow_add]; exact Nat.pow_le_pow_right (by decide) (by omega))
        have hcv2 : ∀ nq, (convert 38 9 (.slice (some ⟨w1.heap.size, 0, none⟩) n cap)).run Tryd.prog (wr.drewN nq) = .ok (.string ⟨(turned (s.extract 0 n).data.toList p (u % 2 ^ k)).toArray⟩) (wr.drewN nq) := fun nq => by
          have h := run_convert_bytes_back (P := Tryd.prog) (wr.drewN nq) 38 9 5 ⟨w1.heap.size, 0, none⟩ cap (turned (s.extract 0 n).data.toList p (u % 2 ^ k)) Tryd.underlying38 Tryd.underlying5 Tryd.underlying9 (fun j hj => by
            have hj' := hj
            rw [hxl] at hj'
            rw [show (⟨w1.heap.size, 0, none⟩ : Addr).add j = ⟨w1.heap.size, j, none⟩ by unfold Addr.add; split <;> simp_all]
            show wr.cell? _ = _
            rw [HR.out.1 j hj']
            dsimp only
            rw [List.getD_eq_getElem?_getD, List.getElem?_eq_getElem hj]; rfl)
          rw [hxl] at h
          exact h
        have hTd : ∀ nq, Tab (wr.drewN nq) := fun nq => ⟨(hT.below hbr hT.1).1, fun i hi => (hT.below hbr hT.1).2 i hi⟩
        generalize turned (s.extract 0 n).data.toList p (u % 2 ^ k) = xl at *
        have sx : (ByteArray.mk xl.toArray).size ≤ maxLen := by unfold maxLen; rw [show (ByteArray.mk xl.toArray).size = xl.length from rfl, hxl]; omega
        have sa : (s.extract 0 n).size ≤ maxLen := by unfold maxLen; rw [sn]; omega
        have hz : ((!decide (u % 2 ^ k = 0)) == ((sumN xl : Int) != (sumN (s.data.toList.take n) : Int))) = true := by
          rw [Lib.extract_data, List.drop_zero, Nat.sub_zero] at hsum
          by_cases e : u % 2 ^ k = 0
          · rw [hsum.2 e, e]; simp
          · have ne : sumN xl ≠ sumN (s.data.toList.take n) := fun h => e (hsum.1 h)
            rw [show ((sumN xl : Int) != (sumN (s.data.toList.take n) : Int)) = true from bne_iff_ne.2 (by omega)]
            simp [e]
        generalize u % 2 ^ k = y at *
        have HZ := Lib.hid hz
        clear hsum hcv hz hx32
        rcases hend with rfl | hend
        all_goals
          go_wp2_with fail
          all_goals
            go_quiet ((go_at_call 21; exact Calls.quiet_of_same (sum_any _ (by assumption) _ (hTd _))))
            go_wp2
            go_ret
            exact ⟨congrArg (fun b => Ending.returned (.bool b)) HZ.out, below_drewN hbr _⟩
end Go.Proofs.YtkpjdbfmcelddaaDoor
