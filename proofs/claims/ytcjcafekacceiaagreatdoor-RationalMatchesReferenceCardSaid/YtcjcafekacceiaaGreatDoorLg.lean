/- The reference's Long, walked. -/
import Derived.Test.YtcjcafekacceiaaGreatDoorSm
namespace Go.Proofs.YtcjcafekacceiaaGreatDoor
open Go.RowKit
set_option linter.unusedVariables false

theorem dig_text {l : List UInt8} (hall : l.all isD = true) (h1 : 1 ≤ l.length) (h100 : l.length ≤ 100) (hh : l.length = 1 ∨ l.head? ≠ some 48) : ∃ m : Nat, m < 10 ^ 100 ∧ (⟨l.toArray⟩ : ByteArray) = str (m : Int) := by
  have hb : body l = l := by
    unfold body
    cases l with
    | nil => rfl
    | cons c r =>
      rw [if_neg]
      intro e
      cases e
      exact absurd (List.all_eq_true.1 hall 45 (List.mem_cons_self ..)) (by decide)
  have hv : vS (⟨l.toArray⟩ : ByteArray) = true := by
    show vld l = true
    unfold vld
    rw [hb, hall]
    have e1 : l.isEmpty = false := by cases l with | nil => simp at h1 | cons => rfl
    rw [e1, decide_eq_true (show l.length ≤ 200 by omega)]
    rcases hh with h | h
    · match l, h with
      | [c], _ =>
        by_cases hc : c = 48
        · subst hc; rfl
        · simp [hc]
    · simp [h]
  have hs := str_nS hv
  obtain ⟨z, hz⟩ : ∃ z, nS (⟨l.toArray⟩ : ByteArray) = z := ⟨_, rfl⟩
  rw [hz] at hs
  have hl : l = shw z := by
    have := congrArg (fun b : ByteArray => b.data.toList) hs
    simp only at this
    rw [str_data] at this
    exact this
  have hz0 : ¬ z < 0 := by
    intro h
    rw [hl] at hall
    unfold shw at hall
    rw [if_pos h] at hall
    exact absurd (List.all_eq_true.1 hall 45 (List.mem_cons_self ..)) (by decide)
  have hl2 : l = txt z.natAbs := by rw [hl]; unfold shw; rw [if_neg hz0]
  refine ⟨z.natAbs, (txt_length _ 100 (by decide)).1 (by rw [← hl2]; exact h100), ?_⟩
  rw [hs]; congr 1; omega
theorem minus_app' (l : List UInt8) : (⟨#[45]⟩ : ByteArray) ++ (⟨l.toArray⟩ : ByteArray) = ⟨(45 :: l).toArray⟩ := by
  apply ba_ext
  rw [ByteArray.data_append]; simp
theorem minus_nat {m : Nat} (h : m ≠ 0) : (⟨#[45]⟩ : ByteArray) ++ str (m : Int) = str (-(m : Int)) := by
  unfold str
  rw [minus_app']
  have e1 : shw (m : Int) = txt m := by unfold shw; rw [if_neg (by omega), Int.natAbs_natCast]
  have e2 : shw (-(m : Int)) = 45 :: txt m := by unfold shw; rw [if_pos (by omega), Int.natAbs_neg, Int.natAbs_natCast]
  rw [e1, e2]
theorem byte_row (w : World) (d : Nat) (hd : d < 10) : (w.alloc (.cells #[.int .u8 (48 + (d : Int))] 5)).ownsRow w.heap.size 5 1 (.slice (some ⟨w.heap.size, 0, none⟩) 1 1) 1 ([chr d].map u8c) := by
  rw [List.map_cons, List.map_nil, chr_conv d (by omega) (by omega)]
  exact ⟨rfl, .inr ⟨w.heap.size, 1, #[.int .u8 (48 + (d : Int))], rfl, Nat.le_refl _, heap_new' _ _ _ rfl, Nat.le_refl _, by unfold maxLen; omega, rfl, rfl⟩⟩
theorem chr_isD2 (d : Nat) (hd : d < 10) : isD (chr d) = true := by
  unfold isD
  have := chr_toNat (d : Int) (by omega) (by omega)
  simp only [Bool.and_eq_true, decide_eq_true_eq]
  omega
theorem snoc_ba (l : List UInt8) (c : UInt8) : (⟨l.toArray⟩ : ByteArray) ++ (⟨[c].toArray⟩ : ByteArray) = ⟨(l ++ [c]).toArray⟩ := by
  apply ba_ext
  rw [ByteArray.data_append]; simp
/-- The digits that are drawn. -/
def LgS (w : World) (n : Nat) (sv cv : Value) (wr : World) : Prop :=
  ∃ (l : List UInt8) (x : Nat), sv = .string ⟨l.toArray⟩ ∧ cv = .int .i64 x ∧ l.all isD = true ∧ l.length ≤ n ∧ x < 2147483647 ∧ Below w.heap.size w wr
def LgT (n : Nat) (sv : Value) : Prop := ∃ l : List UInt8, sv = .string ⟨l.toArray⟩ ∧ l.all isD = true ∧ 1 ≤ l.length ∧ l.length ≤ n
def szOf : Value → Nat | .string b => b.size | _ => 0
/-- At the head of the outer loop: what the two texts hold. -/
def LgO (w V : World) (kv : Value) (wr : World) : Prop :=
  ∃ (k : Nat) (s0 s1 : ByteArray), k ≤ 2 ∧ kv = .int .i64 k ∧ (1 ≤ k → ∃ m : Nat, m < 10 ^ 100 ∧ s0 = str (m : Int)) ∧ (2 ≤ k → ∃ m : Nat, m < 10 ^ 100 ∧ s1 = str (m : Int)) ∧
    wr.heap[w.heap.size + 2]? = some (.cells #[.string s0, .string s1] 64) ∧ KD (fun b => b = w.heap.size + 2) V wr ∧ Below w.heap.size w wr
theorem box4 {w : World} {B : Nat} {x y z v : Value} {T : TypeId} (h : w.heap[B]? = some (.cells #[x, y, z, v] T)) :
    w.cell? ⟨B, 0, none⟩ = some x ∧ w.cell? ⟨B, 1, none⟩ = some y ∧ w.cell? ⟨B, 2, none⟩ = some z ∧ w.cell? ⟨B, 3, none⟩ = some v := by
  refine ⟨?_, ?_, ?_, ?_⟩ <;> simp [World.cell?, h]
theorem str_zero_iff {m : Nat} : ((str (m : Int)).toList == [48]) = decide (m = 0) := by
  rw [str0_eq, decide_eq_decide]; omega
set_option maxRecDepth 100000 in
set_option maxHeartbeats 8000000 in
theorem long_any (c0 c1 c2 c3 : Int) (b0 : -9223372036854775808 ≤ c0 ∧ c0 ≤ 9223372036854775807) (b1 : -9223372036854775808 ≤ c1 ∧ c1 ≤ 9223372036854775807) (b2 : -9223372036854775808 ≤ c2 ∧ c2 ≤ 9223372036854775807) (b3 : -9223372036854775808 ≤ c3 ∧ c3 ≤ 9223372036854775807) (w : World) :
    Calls Tryz.prog 13 #[.agg #[.int .i64 c0, .int .i64 c1, .int .i64 c2, .int .i64 c3]] w (FrOut w 101) := by
  obtain ⟨V, hV⟩ : ∃ V, ((w.alloc (.cells #[.int .i64 c0, .int .i64 c1, .int .i64 c2, .int .i64 c3] 24)).alloc (.cells #[.string ⟨#[]⟩, .string ⟨#[]⟩] 23)).alloc (.cells #[.string ⟨#[]⟩, .string ⟨#[]⟩] 64) = V := ⟨_, rfl⟩
  have hbV : Below w.heap.size w V := by rw [← hV]; exact (((Below.refl w.heap.size w).alloc (Nat.le_refl _) _).alloc (by simp) _).alloc (by simp <;> omega) _
  have h0 : V.heap[w.heap.size]? = some (.cells #[.int .i64 c0, .int .i64 c1, .int .i64 c2, .int .i64 c3] 24) := by rw [← hV]; exact (Below.heap_alloc _ _ _ (by simp <;> omega)).trans ((Below.heap_alloc _ _ _ (by simp)).trans (heap_new' _ _ _ rfl))
  have h1 : V.heap[w.heap.size + 1]? = some (.cells #[.string ⟨#[]⟩, .string ⟨#[]⟩] 23) := by rw [← hV]; exact (Below.heap_alloc _ _ _ (by simp <;> omega)).trans (heap_new' _ _ _ (by simp))
  have h2 : V.heap[w.heap.size + 2]? = some (.cells #[.string ⟨#[]⟩, .string ⟨#[]⟩] 64) := by rw [← hV]; exact heap_new' _ _ _ (by simp)
  have HX := Lib.hid (fun W' (h : KD (fun b => b = w.heap.size + 2) V W') => box4 (h.block (b := w.heap.size) (by omega) h0))
  have HRS := Lib.hid (fun W' (h : KD (fun b => b = w.heap.size + 2) V W') => h.block (b := w.heap.size + 1) (by omega) h1)
  have HST := Lib.hid (show LgO w V (.int .i64 0) V from ⟨0, _, _, by omega, rfl, fun h => absurd h (by decide), fun h => absurd h (by decide), h2, KD.refl _ _, hbV⟩)
  obtain ⟨P0, hP0⟩ : ∃ p, pickZ c0 1000000007 = p := ⟨_, rfl⟩
  obtain ⟨P1, hP1⟩ : ∃ p, pickZ c1 100 = p := ⟨_, rfl⟩
  obtain ⟨P2, hP2⟩ : ∃ p, pickZ c2 1000000007 = p := ⟨_, rfl⟩
  obtain ⟨P3, hP3⟩ : ∃ p, pickZ c3 100 = p := ⟨_, rfl⟩
  obtain ⟨P4, hP4⟩ : ∃ p, pickZ c0 2 = p := ⟨_, rfl⟩
  have l0 : P0 < 1000000007 := by rw [← hP0]; exact pickZ_lt c0 (by decide)
  have l1 : P1 < 100 := by rw [← hP1]; exact pickZ_lt c1 (by decide)
  have l2 : P2 < 1000000007 := by rw [← hP2]; exact pickZ_lt c2 (by decide)
  have l3 : P3 < 100 := by rw [← hP3]; exact pickZ_lt c3 (by decide)
  have Q0 := Lib.hid (fun W => rpickz_any c0 b0.1 b0.2 1000000007 (by decide) (by decide) 1000000007 rfl W)
  have Q1 := Lib.hid (fun W => rpickz_any c1 b1.1 b1.2 100 (by decide) (by decide) 100 rfl W)
  have Q2 := Lib.hid (fun W => rpickz_any c2 b2.1 b2.2 1000000007 (by decide) (by decide) 1000000007 rfl W)
  have Q3 := Lib.hid (fun W => rpickz_any c3 b3.1 b3.2 100 (by decide) (by decide) 100 rfl W)
  have Q4 := Lib.hid (fun W => rpickz_any c0 b0.1 b0.2 2 (by decide) (by decide) 2 rfl W)
  rw [hP0] at Q0
  rw [hP1] at Q1
  rw [hP2] at Q2
  rw [hP3] at Q3
  rw [hP4] at Q4
  clear h0 h1 h2 hbV hP0 hP1 hP2 hP3 hP4 b0 b1 b2 b3
  go_enter Tryz.func13, Tryz.ntmps13
  go_wp2
  go_loopw [4] (fun kv wr => LgO w V kv wr) (fun kv _ => 2 - (intOf kv).toNat)
  case atStart => exact HST.out
  case round =>
    obtain ⟨k, s0, s1, hk2, rfl, hm0, hm1, hout, hkd, hbr⟩ := hrel
    have HOUT := Lib.hid hout; have HKD := Lib.hid hkd; have HBR := Lib.hid hbr; have HM0 := Lib.hid hm0; have HM1 := Lib.hid hm1
    obtain ⟨x0, x1, x2, x3⟩ := HX.out _ hkd
    clear hm0 hm1 hout hkd hbr
    have hk3 : k = 0 ∨ k = 1 ∨ k = 2 := by omega
    clear hk2
    rcases hk3 with rfl | rfl | rfl
    · have hwn : IntKind.i64.wrap (1 + (P1 : Int)) = 1 + (P1 : Int) := wrap_in _ ⟨by omega, by omega⟩
      go_wp2_with fail
      (with_reducible refine (Q1.out _).mono ?_)
      rintro e w1 ⟨rfl, rfl⟩
      go_wp2_with fail
      (with_reducible refine (Q0.out _).mono ?_)
      rintro e wz ⟨rfl, rfl⟩
      clear x0 x1 x2 x3
      obtain ⟨n, hn⟩ : ∃ n : Nat, 1 + P1 = n := ⟨_, rfl⟩
      have hnI : 1 + (P1 : Int) = (n : Int) := by omega
      have hn1 : 1 ≤ n := by omega
      have hn100 : n ≤ 100 := by omega
      rw [hnI] at hwn
      clear hn
      go_wp2_with fail
      go_loopw [6, 7] (fun sv cv wx => LgS wz n sv cv wx) (fun sv _ _ => n - szOf sv)
      case atStart => exact ⟨[], P0, rfl, rfl, rfl, Nat.zero_le _, by omega, Below.refl _ _⟩
      case round =>
        rename_i wx
        obtain ⟨l, x, rfl, rfl, hall, hln, hx, hbx⟩ := hrel
        have HBX := Lib.hid hbx; have HALL := Lib.hid hall
        have hsz : (⟨l.toArray⟩ : ByteArray).size = l.length := by show l.toArray.size = _; simp
        clear hbx
        by_cases hlt : l.length < n
        · obtain ⟨y, hy⟩ : ∃ y : Nat, (x * 48271 + 11) % 2147483647 = y := ⟨_, rfl⟩
          have hyl : y < 2147483647 := by rw [← hy]; exact Nat.mod_lt _ (by decide)
          have hyI : ((x : Int) * 48271 + 11) % 2147483647 = (y : Int) := by omega
          obtain ⟨d, hd⟩ : ∃ d : Nat, y / 65536 % 10 = d := ⟨_, rfl⟩
          have hdl : d < 10 := by rw [← hd]; exact Nat.mod_lt _ (by decide)
          have hdI : (y : Int) / 65536 % 10 = (d : Int) := by omega
          have hdb : (48 + (d : Int)) % 256 = 48 + (d : Int) := by omega
          have hcv : ∀ W : World, (convert 48 9 (.slice (some ⟨W.heap.size, 0, none⟩) 1 1)).run Tryz.prog (W.alloc (.cells #[.int .u8 (48 + (d : Int))] 5)) = .ok (.string ⟨[chr d].toArray⟩) (W.alloc (.cells #[.int .u8 (48 + (d : Int))] 5)) := fun W => row_back (byte_row W d hdl)
          have hx0 : (0 : Int) ≤ (x : Int) := by omega
          have hxI : (x : Int) < 2147483647 := by omega
          have hy0 : (0 : Int) ≤ (y : Int) := by omega
          have hyI2 : (y : Int) < 2147483647 := by omega
          have HD := Lib.hid (chr_isD2 d hdl)
          have HSN := Lib.hid (snoc_ba l (chr d))
          have hszc : (⟨[chr d].toArray⟩ : ByteArray).size = 1 := rfl
          obtain ⟨u, hu⟩ : ∃ u : ByteArray, ⟨l.toArray⟩ = u := ⟨_, rfl⟩
          obtain ⟨t, ht⟩ : ∃ t : ByteArray, ⟨[chr d].toArray⟩ = t := ⟨_, rfl⟩
          rw [hu] at hsz HSN ⊢
          rw [ht] at hszc HSN hcv
          have hsz2 : u.size < n := by rw [hsz]; exact hlt
          have hsz3 : u.size ≤ 100 := by omega
          have HSZ := Lib.hid hsz; have HHU := Lib.hid hu
          clear hy hd hall hx hsz hu ht hlt
          go_wp2
          go_roundw
          case rel => exact ⟨l ++ [chr d], y, by rw [HSN.out], by rw [hyI], by rw [List.all_append, HALL.out]; simp [HD.out], by rw [List.length_append]; have := HSZ.out; simp; omega, hyl, HBX.out.alloc HBX.out.size _⟩
          case measure =>
            show n - (u ++ t).size < n - u.size
            rw [ByteArray.size_append, hszc]; omega
        · have hne : l.length = n := by omega
          have HST := Lib.hid (show LgT n (.string ⟨l.toArray⟩) from ⟨l, rfl, hall, by omega, by omega⟩)
          have HKX := Lib.hid (HKD.out.trans (KD.of_below HBX.out))
          have HBW := Lib.hid (below1 HBR.out HBX.out)
          have HOX := Lib.hid (bl_up HOUT.out HBX.out)
          obtain ⟨u, hu⟩ : ∃ u : ByteArray, ⟨l.toArray⟩ = u := ⟨_, rfl⟩
          rw [hu] at HST hsz ⊢
          have hsz2 : ¬ u.size < n := by rw [hsz]; exact hlt
          clear hu hall hsz hlt hne hx hln
          go_wp2
          go_loop [6] (fun sv => LgT n sv) (fun sv => szOf sv)
          case atStart => exact HST.out
          case round =>
            obtain ⟨l, rfl, hall, h1, hln⟩ := hrel
            have fin : (l.length = 1 ∨ l.head? ≠ some 48) → ∃ m : Nat, m < 10 ^ 100 ∧ (⟨l.toArray⟩ : ByteArray) = str (m : Int) := fun h => dig_text hall h1 (by omega) h
            have FIN := Lib.hid fin
            clear fin
            rcases l with _ | ⟨c, r⟩
            · exact absurd h1 (by decide)
            · have hu1 : (⟨(c :: r).toArray⟩ : ByteArray).size = r.length + 1 := by show (c :: r).toArray.size = _; simp
              have hu2 : ∀ h, (⟨(c :: r).toArray⟩ : ByteArray)[0]'h = c := fun h => by show (c :: r).toArray[0] = c; simp
              have hu3 : r ≠ [] → (⟨(c :: r).toArray⟩ : ByteArray).extract 1 (r.length + 1) = ⟨r.toArray⟩ := fun _ => by
                apply ba_ext
                rw [ByteArray.data_extract, Array.toList_extract]
                simp [List.extract_eq_take_drop]
              have HALL := Lib.hid hall
              have hr : r = [] ∨ 1 ≤ r.length := by cases r with | nil => exact .inl rfl | cons => right; simp
              by_cases hgo : 1 ≤ r.length ∧ c = 48
              · obtain ⟨hr1, rfl⟩ := hgo
                have hne : r ≠ [] := fun h => by rw [h] at hr1; exact absurd hr1 (by decide)
                have hu3' := hu3 hne
                obtain ⟨u, hu⟩ : ∃ u : ByteArray, ⟨(48 :: r).toArray⟩ = u := ⟨_, rfl⟩
                obtain ⟨L, hL⟩ : ∃ L, r.length = L := ⟨_, rfl⟩
                rw [hu] at hu1 hu2 hu3' ⊢
                rw [hL] at hu1 hu3' hr1
                have hg1 : 1 < u.size := by omega
                have hs100 : u.size ≤ 100 := by rw [hu1]; simp only [List.length_cons] at hln; omega
                have HU1 := Lib.hid hu1
                have hex : u.extract 1 u.size = ⟨r.toArray⟩ := by rw [hu1]; exact hu3'
                have hcc : ∀ h, ((u[0]'h).toNat : Int) = 48 := fun h => by rw [hu2 h]; rfl
                have HRL := Lib.hid (And.intro hln hL)
                clear hu hall hu3 hu3' hr h1 hln hL hne hu1
                go_wp2
                go_round
                case rel => exact ⟨r, rfl, by have := HALL.out; simp only [List.all_cons, Bool.and_eq_true] at this; exact this.2, by have := HRL.out; omega, by have := HRL.out; simp only [List.length_cons] at this; omega⟩
                case measure =>
                  show (⟨r.toArray⟩ : ByteArray).size < u.size
                  rw [HU1.out]
                  have := HRL.out.2
                  show r.toArray.size < _
                  simp; omega
              · have hfin := FIN.out (by
                  rcases hr with h | h
                  · left; rw [h]; rfl
                  · right; intro e; cases e; exact hgo ⟨h, rfl⟩)
                obtain ⟨m, hm, hmu⟩ := hfin
                have HM := Lib.hid (And.intro hm hmu)
                have hor : (⟨(c :: r).toArray⟩ : ByteArray).size = 1 ∨ (1 < (⟨(c :: r).toArray⟩ : ByteArray).size ∧ ∀ h, (((((⟨(c :: r).toArray⟩ : ByteArray)[0]'h).toNat : Int)) == 48) = false) := by
                  rcases hr with h | h
                  · left; rw [hu1, h]; rfl
                  · right
                    refine ⟨by rw [hu1]; omega, fun hh => ?_⟩
                    rw [hu2 hh, beq_eq_false_iff_ne]
                    intro e
                    exact hgo ⟨h, by apply UInt8.toNat_inj.1; have : ((48 : UInt8).toNat : Int) = 48 := rfl; omega⟩
                have KO := Lib.hid (fun W' x => set2_0 (W := W') (B := w.heap.size + 2) (T := 64) (x := .string s0) (y := .string s1) x)
                obtain ⟨z1, z2, z3, z4⟩ := box2 HOX.out
                obtain ⟨u, hu⟩ : ∃ u : ByteArray, ⟨(c :: r).toArray⟩ = u := ⟨_, rfl⟩
                rw [hu] at hor HM ⊢
                clear hu hall hu1 hu2 hu3 hr hgo hm hmu h1 hln
                rcases hor with hor | ⟨hor, hor2⟩
                all_goals
                  go_wp2
                  go_roundw
                  case rel => exact ⟨1, u, s1, by decide, rfl, fun _ => ⟨m, HM.out⟩, fun h => absurd h (by decide), KO.out _ HOX.out _, HKX.out.trans (KD.set _ ⟨w.heap.size + 2, 0, none⟩ _ rfl), HBW.out.setCell (p := ⟨w.heap.size + 2, 0, none⟩) (by simp) _⟩
                  case measure => decide
    · have hwn : IntKind.i64.wrap (1 + (P3 : Int)) = 1 + (P3 : Int) := wrap_in _ ⟨by omega, by omega⟩
      go_wp2_with fail
      (with_reducible refine (Q3.out _).mono ?_)
      rintro e w1 ⟨rfl, rfl⟩
      go_wp2_with fail
      (with_reducible refine (Q2.out _).mono ?_)
      rintro e wz ⟨rfl, rfl⟩
      clear x0 x1 x2 x3
      obtain ⟨n, hn⟩ : ∃ n : Nat, 1 + P3 = n := ⟨_, rfl⟩
      have hnI : 1 + (P3 : Int) = (n : Int) := by omega
      have hn1 : 1 ≤ n := by omega
      have hn100 : n ≤ 100 := by omega
      rw [hnI] at hwn
      clear hn
      go_wp2_with fail
      go_loopw [6, 7] (fun sv cv wx => LgS wz n sv cv wx) (fun sv _ _ => n - szOf sv)
      case atStart => exact ⟨[], P2, rfl, rfl, rfl, Nat.zero_le _, by omega, Below.refl _ _⟩
      case round =>
        rename_i wx
        obtain ⟨l, x, rfl, rfl, hall, hln, hx, hbx⟩ := hrel
        have HBX := Lib.hid hbx; have HALL := Lib.hid hall
        have hsz : (⟨l.toArray⟩ : ByteArray).size = l.length := by show l.toArray.size = _; simp
        clear hbx
        by_cases hlt : l.length < n
        · obtain ⟨y, hy⟩ : ∃ y : Nat, (x * 48271 + 11) % 2147483647 = y := ⟨_, rfl⟩
          have hyl : y < 2147483647 := by rw [← hy]; exact Nat.mod_lt _ (by decide)
          have hyI : ((x : Int) * 48271 + 11) % 2147483647 = (y : Int) := by omega
          obtain ⟨d, hd⟩ : ∃ d : Nat, y / 65536 % 10 = d := ⟨_, rfl⟩
          have hdl : d < 10 := by rw [← hd]; exact Nat.mod_lt _ (by decide)
          have hdI : (y : Int) / 65536 % 10 = (d : Int) := by omega
          have hdb : (48 + (d : Int)) % 256 = 48 + (d : Int) := by omega
          have hcv : ∀ W : World, (convert 48 9 (.slice (some ⟨W.heap.size, 0, none⟩) 1 1)).run Tryz.prog (W.alloc (.cells #[.int .u8 (48 + (d : Int))] 5)) = .ok (.string ⟨[chr d].toArray⟩) (W.alloc (.cells #[.int .u8 (48 + (d : Int))] 5)) := fun W => row_back (byte_row W d hdl)
          have hx0 : (0 : Int) ≤ (x : Int) := by omega
          have hxI : (x : Int) < 2147483647 := by omega
          have hy0 : (0 : Int) ≤ (y : Int) := by omega
          have hyI2 : (y : Int) < 2147483647 := by omega
          have HD := Lib.hid (chr_isD2 d hdl)
          have HSN := Lib.hid (snoc_ba l (chr d))
          have hszc : (⟨[chr d].toArray⟩ : ByteArray).size = 1 := rfl
          obtain ⟨u, hu⟩ : ∃ u : ByteArray, ⟨l.toArray⟩ = u := ⟨_, rfl⟩
          obtain ⟨t, ht⟩ : ∃ t : ByteArray, ⟨[chr d].toArray⟩ = t := ⟨_, rfl⟩
          rw [hu] at hsz HSN ⊢
          rw [ht] at hszc HSN hcv
          have hsz2 : u.size < n := by rw [hsz]; exact hlt
          have hsz3 : u.size ≤ 100 := by omega
          have HSZ := Lib.hid hsz; have HHU := Lib.hid hu
          clear hy hd hall hx hsz hu ht hlt
          go_wp2
          go_roundw
          case rel => exact ⟨l ++ [chr d], y, by rw [HSN.out], by rw [hyI], by rw [List.all_append, HALL.out]; simp [HD.out], by rw [List.length_append]; have := HSZ.out; simp; omega, hyl, HBX.out.alloc HBX.out.size _⟩
          case measure =>
            show n - (u ++ t).size < n - u.size
            rw [ByteArray.size_append, hszc]; omega
        · have hne : l.length = n := by omega
          have HST := Lib.hid (show LgT n (.string ⟨l.toArray⟩) from ⟨l, rfl, hall, by omega, by omega⟩)
          have HKX := Lib.hid (HKD.out.trans (KD.of_below HBX.out))
          have HBW := Lib.hid (below1 HBR.out HBX.out)
          have HOX := Lib.hid (bl_up HOUT.out HBX.out)
          obtain ⟨u, hu⟩ : ∃ u : ByteArray, ⟨l.toArray⟩ = u := ⟨_, rfl⟩
          rw [hu] at HST hsz ⊢
          have hsz2 : ¬ u.size < n := by rw [hsz]; exact hlt
          clear hu hall hsz hlt hne hx hln
          go_wp2
          go_loop [6] (fun sv => LgT n sv) (fun sv => szOf sv)
          case atStart => exact HST.out
          case round =>
            obtain ⟨l, rfl, hall, h1, hln⟩ := hrel
            have fin : (l.length = 1 ∨ l.head? ≠ some 48) → ∃ m : Nat, m < 10 ^ 100 ∧ (⟨l.toArray⟩ : ByteArray) = str (m : Int) := fun h => dig_text hall h1 (by omega) h
            have FIN := Lib.hid fin
            clear fin
            rcases l with _ | ⟨c, r⟩
            · exact absurd h1 (by decide)
            · have hu1 : (⟨(c :: r).toArray⟩ : ByteArray).size = r.length + 1 := by show (c :: r).toArray.size = _; simp
              have hu2 : ∀ h, (⟨(c :: r).toArray⟩ : ByteArray)[0]'h = c := fun h => by show (c :: r).toArray[0] = c; simp
              have hu3 : r ≠ [] → (⟨(c :: r).toArray⟩ : ByteArray).extract 1 (r.length + 1) = ⟨r.toArray⟩ := fun _ => by
                apply ba_ext
                rw [ByteArray.data_extract, Array.toList_extract]
                simp [List.extract_eq_take_drop]
              have HALL := Lib.hid hall
              have hr : r = [] ∨ 1 ≤ r.length := by cases r with | nil => exact .inl rfl | cons => right; simp
              by_cases hgo : 1 ≤ r.length ∧ c = 48
              · obtain ⟨hr1, rfl⟩ := hgo
                have hne : r ≠ [] := fun h => by rw [h] at hr1; exact absurd hr1 (by decide)
                have hu3' := hu3 hne
                obtain ⟨u, hu⟩ : ∃ u : ByteArray, ⟨(48 :: r).toArray⟩ = u := ⟨_, rfl⟩
                obtain ⟨L, hL⟩ : ∃ L, r.length = L := ⟨_, rfl⟩
                rw [hu] at hu1 hu2 hu3' ⊢
                rw [hL] at hu1 hu3' hr1
                have hg1 : 1 < u.size := by omega
                have hs100 : u.size ≤ 100 := by rw [hu1]; simp only [List.length_cons] at hln; omega
                have HU1 := Lib.hid hu1
                have hex : u.extract 1 u.size = ⟨r.toArray⟩ := by rw [hu1]; exact hu3'
                have hcc : ∀ h, ((u[0]'h).toNat : Int) = 48 := fun h => by rw [hu2 h]; rfl
                have HRL := Lib.hid (And.intro hln hL)
                clear hu hall hu3 hu3' hr h1 hln hL hne hu1
                go_wp2
                go_round
                case rel => exact ⟨r, rfl, by have := HALL.out; simp only [List.all_cons, Bool.and_eq_true] at this; exact this.2, by have := HRL.out; omega, by have := HRL.out; simp only [List.length_cons] at this; omega⟩
                case measure =>
                  show (⟨r.toArray⟩ : ByteArray).size < u.size
                  rw [HU1.out]
                  have := HRL.out.2
                  show r.toArray.size < _
                  simp; omega
              · have hfin := FIN.out (by
                  rcases hr with h | h
                  · left; rw [h]; rfl
                  · right; intro e; cases e; exact hgo ⟨h, rfl⟩)
                obtain ⟨m, hm, hmu⟩ := hfin
                have HM := Lib.hid (And.intro hm hmu)
                have hor : (⟨(c :: r).toArray⟩ : ByteArray).size = 1 ∨ (1 < (⟨(c :: r).toArray⟩ : ByteArray).size ∧ ∀ h, (((((⟨(c :: r).toArray⟩ : ByteArray)[0]'h).toNat : Int)) == 48) = false) := by
                  rcases hr with h | h
                  · left; rw [hu1, h]; rfl
                  · right
                    refine ⟨by rw [hu1]; omega, fun hh => ?_⟩
                    rw [hu2 hh, beq_eq_false_iff_ne]
                    intro e
                    exact hgo ⟨h, by apply UInt8.toNat_inj.1; have : ((48 : UInt8).toNat : Int) = 48 := rfl; omega⟩
                have KO := Lib.hid (fun W' x => set2_1 (W := W') (B := w.heap.size + 2) (T := 64) (x := .string s0) (y := .string s1) x)
                obtain ⟨z1, z2, z3, z4⟩ := box2 HOX.out
                obtain ⟨u, hu⟩ : ∃ u : ByteArray, ⟨(c :: r).toArray⟩ = u := ⟨_, rfl⟩
                rw [hu] at hor HM ⊢
                clear hu hall hu1 hu2 hu3 hr hgo hm hmu h1 hln
                rcases hor with hor | ⟨hor, hor2⟩
                all_goals
                  go_wp2
                  go_roundw
                  case rel => exact ⟨2, s0, u, by decide, rfl, fun _ => HM0.out (by decide), fun _ => ⟨m, HM.out⟩, KO.out _ HOX.out _, HKX.out.trans (KD.set _ ⟨w.heap.size + 2, 1, none⟩ _ rfl), HBW.out.setCell (p := ⟨w.heap.size + 2, 1, none⟩) (by simp) _⟩
                  case measure => decide
    · obtain ⟨m0, hm0, he0⟩ := HM0.out (by decide)
      obtain ⟨m1, hm1, he1⟩ := HM1.out (by decide)
      clear HM0 HM1
      have h100 : (10 : Nat) ^ 100 < 10 ^ 101 := Nat.pow_lt_pow_right (by decide) (by decide)
      have h7 : (7 : Nat) < 10 ^ 101 := by decide +kernel
      have z0 := str_zero_iff (m := m0)
      have z1 := str_zero_iff (m := m1)
      rw [← he0] at z0
      rw [← he1] at z1
      have MK := Lib.hid (fun n d hn hd hd0 => small_q n d hd0 101 hn hd (by decide))
      have MN := Lib.hid (fun (h : m0 ≠ 0) => minus_nat h)
      rw [← he0] at MN
      have HE0 := Lib.hid he0; have HE1 := Lib.hid he1
      have S7 := Lib.hid (show (⟨#[55]⟩ : ByteArray) = str 7 from by decide +kernel)
      have SZ0 : s0.size ≤ 300 := by rw [he0]; exact str_small (by unfold Big; rw [Int.natAbs_natCast]; exact Nat.lt_trans hm0 (Nat.pow_lt_pow_right (by decide) (by decide)))
      have SZ1 : s1.size ≤ 300 := by rw [he1]; exact str_small (by unfold Big; rw [Int.natAbs_natCast]; exact Nat.lt_trans hm1 (Nat.pow_lt_pow_right (by decide) (by decide)))
      have HH := Lib.hid (And.intro hm0 (And.intro hm1 (And.intro h100 h7)))
      clear he0 he1 hm0 hm1 h100 h7
      obtain ⟨q1, hq1⟩ : ∃ q, decide (m1 = 0) = q := ⟨_, rfl⟩
      obtain ⟨q0, hq0⟩ : ∃ q, decide (m0 = 0) = q := ⟨_, rfl⟩
      rw [hq1] at z1
      rw [hq0] at z0
      have HQ1 := Lib.hid hq1; have HQ0 := Lib.hid hq0
      clear hq1 hq0
      obtain ⟨o1, o2, o3, o4⟩ := box2 HOUT.out
      have hp4 : ((P4 : Int) == 0) = true ∨ ((P4 : Int) == 0) = false := by cases ((P4 : Int) == 0) with | true => exact .inl rfl | false => exact .inr rfl
      clear l0 l1 l2 l3
      cases q1 with
      | false =>
        have HO2 := Lib.hid (show wr.heap[w.heap.size + 2]? = some (.cells #[.string s0, .string s1] 64) from HOUT.out)
        have HK2 := Lib.hid (show KD (fun b => b = w.heap.size + 2) V wr from HKD.out)
        have HB2 := Lib.hid (show Below w.heap.size w wr from HBR.out)
        obtain ⟨dn, hdn, hdp, hds⟩ : ∃ dn : Int, dn.natAbs < 10 ^ 101 ∧ 0 < dn ∧ s1 = str dn := ⟨(m1 : Int), by rw [Int.natAbs_natCast]; exact Nat.lt_trans HH.out.2.1 HH.out.2.2.1, by have := of_decide_eq_false HQ1.out; omega, HE1.out⟩
        have HDS := Lib.hid (And.intro hdn (And.intro hdp hds))
        clear hdn hdp hds
        obtain ⟨p1, p2, p3, p4⟩ := box2 HO2.out
        obtain ⟨y0, _, _, _⟩ := HX.out _ HK2.out
        go_wp2_with fail
        (with_reducible refine (Q4.out _).mono ?_)
        rintro e wu ⟨rfl, rfl⟩
        clear z1 o1 o2 o3 o4
        rcases hp4 with hp4 | hp4
        · skip
          cases q0 with
          | true =>
            have hn101 : ((m0 : Int)).natAbs < 10 ^ 101 := by rw [Int.natAbs_natCast]; exact Nat.lt_trans HH.out.1 HH.out.2.2.1
            obtain ⟨q, hqn, hqd, hq⟩ := MK.out (m0 : Int) dn hn101 HDS.out.1 HDS.out.2.1
            have hns := HE0.out
            have HK3 := Lib.hid HK2.out
            have HB3 := Lib.hid HB2.out
            have CM := Lib.hid (fun W => rmake_any s0 s1 W (by rw [hns]; exact str_size (by unfold Big; exact Nat.lt_of_lt_of_le hn101 (Nat.pow_le_pow_right (by decide) (by decide)))) (by rw [HDS.out.2.2]; exact str_size (by unfold Big; exact Nat.lt_of_lt_of_le HDS.out.1 (Nat.pow_le_pow_right (by decide) (by decide)))))
            rw [show mkS s0 s1 = some q from by rw [hns, HDS.out.2.2]; exact hq] at CM
            obtain ⟨u, hu⟩ : ∃ u, str q.num = u := ⟨_, rfl⟩
            obtain ⟨v, hv⟩ : ∃ v, str (q.den : Int) = v := ⟨_, rfl⟩
            have CM' := Lib.hid (fun W => (CM.out W).mono (fun e W' h => show QRes W u v 0 e W' from h.at ⟨hu, hv, rfl⟩))
            have HU := Lib.hid (And.intro (And.intro hu hv) (And.intro hqn hqd))
            clear CM hu hv hqn hqd hq hns hn101
            go_wp2_with fail
            (with_reducible refine (CM'.out _).mono ?_)
            rintro e wm ⟨rfl, hbm⟩
            have HBM := Lib.hid (below1 HB3.out hbm)
            have HRM := Lib.hid (bl_up (HRS.out _ HK3.out) hbm)
            clear hbm
            have hA := (Below.refl wm.heap.size wm).alloc (Nat.le_refl _) (.cells #[.string u, .string v] 23)
            have HF := bl_up HRM.out hA
            obtain ⟨r1, r2, r3, r4⟩ := box2 HF
            obtain ⟨e1, e2, _, _⟩ := box2 (put2_heap HF (.string u) (.string v))
            have HP := Lib.hid (show FrOut w 101 (.returned (.agg #[.string u, .string v])) (put2 (wm.alloc (.cells #[.string u, .string v] 23)) (w.heap.size + 1) (.string u) (.string v)) from ⟨q, HU.out.2.1, HU.out.2.2, by rw [HU.out.1.1, HU.out.1.2], put2_below (below1 HBM.out hA) (by omega) _ _⟩)
            clear HF hA
            go_wp2
            refine bodyPost_ret (v := .agg #[.string u, .string v]) (by simp [results, Tryz.results13, go_sem, e1, e2]) rfl ?_
            exact HP.out
          | false =>
            obtain ⟨nu, hnu, hns⟩ : ∃ nu : ByteArray, ⟨#[45]⟩ ++ s0 = nu ∧ nu = str (-(m0 : Int)) := ⟨_, rfl, MN.out (of_decide_eq_false HQ0.out)⟩
            have HNU := Lib.hid hnu
            have hn101 : (-(m0 : Int)).natAbs < 10 ^ 101 := by rw [Int.natAbs_neg, Int.natAbs_natCast]; exact Nat.lt_trans HH.out.1 HH.out.2.2.1
            obtain ⟨q, hqn, hqd, hq⟩ := MK.out (-(m0 : Int)) dn hn101 HDS.out.1 HDS.out.2.1
            have HO3 := Lib.hid (set2_0 HO2.out (.string nu))
            obtain ⟨v1, v2, _, _⟩ := box2 HO3.out
            have HK3 := Lib.hid (HK2.out.trans (KD.set wu ⟨w.heap.size + 2, 0, none⟩ (.string nu) rfl))
            have HB3 := Lib.hid (HB2.out.setCell (p := ⟨w.heap.size + 2, 0, none⟩) (by simp) (.string nu))
            have CM := Lib.hid (fun W => rmake_any nu s1 W (by rw [hns]; exact str_size (by unfold Big; exact Nat.lt_of_lt_of_le hn101 (Nat.pow_le_pow_right (by decide) (by decide)))) (by rw [HDS.out.2.2]; exact str_size (by unfold Big; exact Nat.lt_of_lt_of_le HDS.out.1 (Nat.pow_le_pow_right (by decide) (by decide)))))
            rw [show mkS nu s1 = some q from by rw [hns, HDS.out.2.2]; exact hq] at CM
            obtain ⟨u, hu⟩ : ∃ u, str q.num = u := ⟨_, rfl⟩
            obtain ⟨v, hv⟩ : ∃ v, str (q.den : Int) = v := ⟨_, rfl⟩
            have CM' := Lib.hid (fun W => (CM.out W).mono (fun e W' h => show QRes W u v 0 e W' from h.at ⟨hu, hv, rfl⟩))
            have HU := Lib.hid (And.intro (And.intro hu hv) (And.intro hqn hqd))
            clear CM hu hv hqn hqd hq hns hn101
            have hnu := HNU.out
            go_wp2_with fail
            (with_reducible refine (CM'.out _).mono ?_)
            rintro e wm ⟨rfl, hbm⟩
            have HBM := Lib.hid (below1 HB3.out hbm)
            have HRM := Lib.hid (bl_up (HRS.out _ HK3.out) hbm)
            clear hbm
            have hA := (Below.refl wm.heap.size wm).alloc (Nat.le_refl _) (.cells #[.string u, .string v] 23)
            have HF := bl_up HRM.out hA
            obtain ⟨r1, r2, r3, r4⟩ := box2 HF
            obtain ⟨e1, e2, _, _⟩ := box2 (put2_heap HF (.string u) (.string v))
            have HP := Lib.hid (show FrOut w 101 (.returned (.agg #[.string u, .string v])) (put2 (wm.alloc (.cells #[.string u, .string v] 23)) (w.heap.size + 1) (.string u) (.string v)) from ⟨q, HU.out.2.1, HU.out.2.2, by rw [HU.out.1.1, HU.out.1.2], put2_below (below1 HBM.out hA) (by omega) _ _⟩)
            clear HF hA
            go_wp2
            refine bodyPost_ret (v := .agg #[.string u, .string v]) (by simp [results, Tryz.results13, go_sem, e1, e2]) rfl ?_
            exact HP.out
        · skip
          have hn101 : ((m0 : Int)).natAbs < 10 ^ 101 := by rw [Int.natAbs_natCast]; exact Nat.lt_trans HH.out.1 HH.out.2.2.1
          obtain ⟨q, hqn, hqd, hq⟩ := MK.out (m0 : Int) dn hn101 HDS.out.1 HDS.out.2.1
          have hns := HE0.out
          have HK3 := Lib.hid HK2.out
          have HB3 := Lib.hid HB2.out
          have CM := Lib.hid (fun W => rmake_any s0 s1 W (by rw [hns]; exact str_size (by unfold Big; exact Nat.lt_of_lt_of_le hn101 (Nat.pow_le_pow_right (by decide) (by decide)))) (by rw [HDS.out.2.2]; exact str_size (by unfold Big; exact Nat.lt_of_lt_of_le HDS.out.1 (Nat.pow_le_pow_right (by decide) (by decide)))))
          rw [show mkS s0 s1 = some q from by rw [hns, HDS.out.2.2]; exact hq] at CM
          obtain ⟨u, hu⟩ : ∃ u, str q.num = u := ⟨_, rfl⟩
          obtain ⟨v, hv⟩ : ∃ v, str (q.den : Int) = v := ⟨_, rfl⟩
          have CM' := Lib.hid (fun W => (CM.out W).mono (fun e W' h => show QRes W u v 0 e W' from h.at ⟨hu, hv, rfl⟩))
          have HU := Lib.hid (And.intro (And.intro hu hv) (And.intro hqn hqd))
          clear CM hu hv hqn hqd hq hns hn101
          go_wp2_with fail
          (with_reducible refine (CM'.out _).mono ?_)
          rintro e wm ⟨rfl, hbm⟩
          have HBM := Lib.hid (below1 HB3.out hbm)
          have HRM := Lib.hid (bl_up (HRS.out _ HK3.out) hbm)
          clear hbm
          have hA := (Below.refl wm.heap.size wm).alloc (Nat.le_refl _) (.cells #[.string u, .string v] 23)
          have HF := bl_up HRM.out hA
          obtain ⟨r1, r2, r3, r4⟩ := box2 HF
          obtain ⟨e1, e2, _, _⟩ := box2 (put2_heap HF (.string u) (.string v))
          have HP := Lib.hid (show FrOut w 101 (.returned (.agg #[.string u, .string v])) (put2 (wm.alloc (.cells #[.string u, .string v] 23)) (w.heap.size + 1) (.string u) (.string v)) from ⟨q, HU.out.2.1, HU.out.2.2, by rw [HU.out.1.1, HU.out.1.2], put2_below (below1 HBM.out hA) (by omega) _ _⟩)
          clear HF hA
          go_wp2
          refine bodyPost_ret (v := .agg #[.string u, .string v]) (by simp [results, Tryz.results13, go_sem, e1, e2]) rfl ?_
          exact HP.out
      | true =>
        have HO2 := Lib.hid (show (wr.setCell ⟨w.heap.size + 2, 1, none⟩ (.string ⟨#[55]⟩)).heap[w.heap.size + 2]? = some (.cells #[.string s0, .string ⟨#[55]⟩] 64) from set2_1 HOUT.out _)
        have HK2 := Lib.hid (show KD (fun b => b = w.heap.size + 2) V (wr.setCell ⟨w.heap.size + 2, 1, none⟩ (.string ⟨#[55]⟩)) from HKD.out.trans (KD.set _ ⟨w.heap.size + 2, 1, none⟩ _ rfl))
        have HB2 := Lib.hid (show Below w.heap.size w (wr.setCell ⟨w.heap.size + 2, 1, none⟩ (.string ⟨#[55]⟩)) from HBR.out.setCell (p := ⟨w.heap.size + 2, 1, none⟩) (by simp) _)
        obtain ⟨dn, hdn, hdp, hds⟩ : ∃ dn : Int, dn.natAbs < 10 ^ 101 ∧ 0 < dn ∧ (⟨#[55]⟩ : ByteArray) = str dn := ⟨7, HH.out.2.2.2, by decide, S7.out⟩
        have HDS := Lib.hid (And.intro hdn (And.intro hdp hds))
        clear hdn hdp hds
        obtain ⟨wy, hwy⟩ : ∃ wy, (wr.setCell ⟨w.heap.size + 2, 1, none⟩ (.string ⟨#[55]⟩)) = wy := ⟨_, rfl⟩
        rw [hwy] at HO2 HK2 HB2
        obtain ⟨p1, p2, p3, p4⟩ := box2 HO2.out
        obtain ⟨y0, _, _, _⟩ := HX.out _ HK2.out
        go_wp2_with fail
        (with_reducible refine (Q4.out _).mono ?_)
        rintro e wu ⟨rfl, rfl⟩
        clear z1 o1 o2 o3 o4
        rcases hp4 with hp4 | hp4
        · skip
          cases q0 with
          | true =>
            have hn101 : ((m0 : Int)).natAbs < 10 ^ 101 := by rw [Int.natAbs_natCast]; exact Nat.lt_trans HH.out.1 HH.out.2.2.1
            obtain ⟨q, hqn, hqd, hq⟩ := MK.out (m0 : Int) dn hn101 HDS.out.1 HDS.out.2.1
            have hns := HE0.out
            have HK3 := Lib.hid HK2.out
            have HB3 := Lib.hid HB2.out
            have CM := Lib.hid (fun W => rmake_any s0 ⟨#[55]⟩ W (by rw [hns]; exact str_size (by unfold Big; exact Nat.lt_of_lt_of_le hn101 (Nat.pow_le_pow_right (by decide) (by decide)))) (by rw [HDS.out.2.2]; exact str_size (by unfold Big; exact Nat.lt_of_lt_of_le HDS.out.1 (Nat.pow_le_pow_right (by decide) (by decide)))))
            rw [show mkS s0 ⟨#[55]⟩ = some q from by rw [hns, HDS.out.2.2]; exact hq] at CM
            obtain ⟨u, hu⟩ : ∃ u, str q.num = u := ⟨_, rfl⟩
            obtain ⟨v, hv⟩ : ∃ v, str (q.den : Int) = v := ⟨_, rfl⟩
            have CM' := Lib.hid (fun W => (CM.out W).mono (fun e W' h => show QRes W u v 0 e W' from h.at ⟨hu, hv, rfl⟩))
            have HU := Lib.hid (And.intro (And.intro hu hv) (And.intro hqn hqd))
            clear CM hu hv hqn hqd hq hns hn101
            go_wp2_with fail
            (with_reducible refine (CM'.out _).mono ?_)
            rintro e wm ⟨rfl, hbm⟩
            have HBM := Lib.hid (below1 HB3.out hbm)
            have HRM := Lib.hid (bl_up (HRS.out _ HK3.out) hbm)
            clear hbm
            have hA := (Below.refl wm.heap.size wm).alloc (Nat.le_refl _) (.cells #[.string u, .string v] 23)
            have HF := bl_up HRM.out hA
            obtain ⟨r1, r2, r3, r4⟩ := box2 HF
            obtain ⟨e1, e2, _, _⟩ := box2 (put2_heap HF (.string u) (.string v))
            have HP := Lib.hid (show FrOut w 101 (.returned (.agg #[.string u, .string v])) (put2 (wm.alloc (.cells #[.string u, .string v] 23)) (w.heap.size + 1) (.string u) (.string v)) from ⟨q, HU.out.2.1, HU.out.2.2, by rw [HU.out.1.1, HU.out.1.2], put2_below (below1 HBM.out hA) (by omega) _ _⟩)
            clear HF hA
            go_wp2
            refine bodyPost_ret (v := .agg #[.string u, .string v]) (by simp [results, Tryz.results13, go_sem, e1, e2]) rfl ?_
            exact HP.out
          | false =>
            obtain ⟨nu, hnu, hns⟩ : ∃ nu : ByteArray, ⟨#[45]⟩ ++ s0 = nu ∧ nu = str (-(m0 : Int)) := ⟨_, rfl, MN.out (of_decide_eq_false HQ0.out)⟩
            have HNU := Lib.hid hnu
            have hn101 : (-(m0 : Int)).natAbs < 10 ^ 101 := by rw [Int.natAbs_neg, Int.natAbs_natCast]; exact Nat.lt_trans HH.out.1 HH.out.2.2.1
            obtain ⟨q, hqn, hqd, hq⟩ := MK.out (-(m0 : Int)) dn hn101 HDS.out.1 HDS.out.2.1
            have HO3 := Lib.hid (set2_0 HO2.out (.string nu))
            obtain ⟨v1, v2, _, _⟩ := box2 HO3.out
            have HK3 := Lib.hid (HK2.out.trans (KD.set wu ⟨w.heap.size + 2, 0, none⟩ (.string nu) rfl))
            have HB3 := Lib.hid (HB2.out.setCell (p := ⟨w.heap.size + 2, 0, none⟩) (by simp) (.string nu))
            have CM := Lib.hid (fun W => rmake_any nu ⟨#[55]⟩ W (by rw [hns]; exact str_size (by unfold Big; exact Nat.lt_of_lt_of_le hn101 (Nat.pow_le_pow_right (by decide) (by decide)))) (by rw [HDS.out.2.2]; exact str_size (by unfold Big; exact Nat.lt_of_lt_of_le HDS.out.1 (Nat.pow_le_pow_right (by decide) (by decide)))))
            rw [show mkS nu ⟨#[55]⟩ = some q from by rw [hns, HDS.out.2.2]; exact hq] at CM
            obtain ⟨u, hu⟩ : ∃ u, str q.num = u := ⟨_, rfl⟩
            obtain ⟨v, hv⟩ : ∃ v, str (q.den : Int) = v := ⟨_, rfl⟩
            have CM' := Lib.hid (fun W => (CM.out W).mono (fun e W' h => show QRes W u v 0 e W' from h.at ⟨hu, hv, rfl⟩))
            have HU := Lib.hid (And.intro (And.intro hu hv) (And.intro hqn hqd))
            clear CM hu hv hqn hqd hq hns hn101
            have hnu := HNU.out
            go_wp2_with fail
            (with_reducible refine (CM'.out _).mono ?_)
            rintro e wm ⟨rfl, hbm⟩
            have HBM := Lib.hid (below1 HB3.out hbm)
            have HRM := Lib.hid (bl_up (HRS.out _ HK3.out) hbm)
            clear hbm
            have hA := (Below.refl wm.heap.size wm).alloc (Nat.le_refl _) (.cells #[.string u, .string v] 23)
            have HF := bl_up HRM.out hA
            obtain ⟨r1, r2, r3, r4⟩ := box2 HF
            obtain ⟨e1, e2, _, _⟩ := box2 (put2_heap HF (.string u) (.string v))
            have HP := Lib.hid (show FrOut w 101 (.returned (.agg #[.string u, .string v])) (put2 (wm.alloc (.cells #[.string u, .string v] 23)) (w.heap.size + 1) (.string u) (.string v)) from ⟨q, HU.out.2.1, HU.out.2.2, by rw [HU.out.1.1, HU.out.1.2], put2_below (below1 HBM.out hA) (by omega) _ _⟩)
            clear HF hA
            go_wp2
            refine bodyPost_ret (v := .agg #[.string u, .string v]) (by simp [results, Tryz.results13, go_sem, e1, e2]) rfl ?_
            exact HP.out
        · skip
          have hn101 : ((m0 : Int)).natAbs < 10 ^ 101 := by rw [Int.natAbs_natCast]; exact Nat.lt_trans HH.out.1 HH.out.2.2.1
          obtain ⟨q, hqn, hqd, hq⟩ := MK.out (m0 : Int) dn hn101 HDS.out.1 HDS.out.2.1
          have hns := HE0.out
          have HK3 := Lib.hid HK2.out
          have HB3 := Lib.hid HB2.out
          have CM := Lib.hid (fun W => rmake_any s0 ⟨#[55]⟩ W (by rw [hns]; exact str_size (by unfold Big; exact Nat.lt_of_lt_of_le hn101 (Nat.pow_le_pow_right (by decide) (by decide)))) (by rw [HDS.out.2.2]; exact str_size (by unfold Big; exact Nat.lt_of_lt_of_le HDS.out.1 (Nat.pow_le_pow_right (by decide) (by decide)))))
          rw [show mkS s0 ⟨#[55]⟩ = some q from by rw [hns, HDS.out.2.2]; exact hq] at CM
          obtain ⟨u, hu⟩ : ∃ u, str q.num = u := ⟨_, rfl⟩
          obtain ⟨v, hv⟩ : ∃ v, str (q.den : Int) = v := ⟨_, rfl⟩
          have CM' := Lib.hid (fun W => (CM.out W).mono (fun e W' h => show QRes W u v 0 e W' from h.at ⟨hu, hv, rfl⟩))
          have HU := Lib.hid (And.intro (And.intro hu hv) (And.intro hqn hqd))
          clear CM hu hv hqn hqd hq hns hn101
          go_wp2_with fail
          (with_reducible refine (CM'.out _).mono ?_)
          rintro e wm ⟨rfl, hbm⟩
          have HBM := Lib.hid (below1 HB3.out hbm)
          have HRM := Lib.hid (bl_up (HRS.out _ HK3.out) hbm)
          clear hbm
          have hA := (Below.refl wm.heap.size wm).alloc (Nat.le_refl _) (.cells #[.string u, .string v] 23)
          have HF := bl_up HRM.out hA
          obtain ⟨r1, r2, r3, r4⟩ := box2 HF
          obtain ⟨e1, e2, _, _⟩ := box2 (put2_heap HF (.string u) (.string v))
          have HP := Lib.hid (show FrOut w 101 (.returned (.agg #[.string u, .string v])) (put2 (wm.alloc (.cells #[.string u, .string v] 23)) (w.heap.size + 1) (.string u) (.string v)) from ⟨q, HU.out.2.1, HU.out.2.2, by rw [HU.out.1.1, HU.out.1.2], put2_below (below1 HBM.out hA) (by omega) _ _⟩)
          clear HF hA
          go_wp2
          refine bodyPost_ret (v := .agg #[.string u, .string v]) (by simp [results, Tryz.results13, go_sem, e1, e2]) rfl ?_
          exact HP.out
end Go.Proofs.YtcjcafekacceiaaGreatDoor
