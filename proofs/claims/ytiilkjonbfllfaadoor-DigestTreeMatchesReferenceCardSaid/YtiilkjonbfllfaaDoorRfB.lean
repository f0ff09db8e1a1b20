/- The reference's block, walked. -/
import Derived.Test.YtiilkjonbfllfaaDoorRfS
import Derived.Test.YtiilkjonbfllfaaDoorWay
namespace Go.Proofs.YtiilkjonbfllfaaDoor
open Go.RowKit
theorem rconst_any (w : World) :
    Calls Tryd.prog 61 #[] w fun e w' => e = .returned (.slice (some ⟨w.heap.size, 0, none⟩) 64 64) ∧ w' = w.alloc (.cells (KL.map u32V).toArray 48) := by
  go_enter Tryd.func61, Tryd.ntmps61
  go_wp2
  go_ret
  exact ⟨rfl, rfl⟩
theorem row_src {w : World} {g o n : Nat} {l : List Nat} (h : ∀ i, i < n → w.cell? ⟨g, o + i, none⟩ = some (u32V (l.getD i 0))) (hl : l.length = n) :
    ∀ j u, (l.map u32V)[j]? = some u → w.cell? ((⟨g, o, none⟩ : Addr).add j) = some u := by
  intro j u hu
  rw [List.getElem?_map] at hu
  have hj : j < n := by
    rcases Nat.lt_or_ge j n with h | h
    · exact h
    · rw [List.getElem?_eq_none (by omega)] at hu; cases hu
  rw [Go.WideShapes.add_plain, h j hj, List.getD_eq_getElem?_getD]
  rw [List.getElem?_eq_getElem (by omega)] at hu ⊢
  exact hu
theorem beW_v (b0 b1 b2 b3 : Nat) (h0 : b0 < 256) (h1 : b1 < 256) (h2 : b2 < 256) (h3 : b3 < 256) :
    bits .or .u32 (bits .or .u32 (bits .or .u32 ((b0 : Int) * 16777216) ((b1 : Int) * 65536)) ((b2 : Int) * 256)) (b3 : Int) = ((b0 * 16777216 + b1 * 65536 + b2 * 256 + b3 : Nat) : Int) := by
  have a := u32_or_nat (b0 * 16777216) (b1 * 65536) (by omega) (by omega)
  have l1 : b0 * 16777216 ||| b1 * 65536 < 4294967296 := Nat.or_lt_two_pow (n := 32) (by omega) (by omega)
  have b := u32_or_nat (b0 * 16777216 ||| b1 * 65536) (b2 * 256) l1 (by omega)
  have c := u32_or_nat ((b0 * 16777216 ||| b1 * 65536) ||| b2 * 256) b3 (Nat.or_lt_two_pow (n := 32) l1 (by omega)) (by omega)
  rw [← beW_or b0 b1 b2 b3 h1 h2 h3 h0, ← c, ← b, ← a]
  simp
theorem beW_w (b0 b1 b2 b3 : Nat) (h0 : b0 < 256) (h1 : b1 < 256) (h2 : b2 < 256) (h3 : b3 < 256) :
    bits .or .u32 (bits .or .u32 (bits .or .u32 (IntKind.u32.wrap (IntKind.u32.wrap (b0 : Int) * 16777216)) (IntKind.u32.wrap (IntKind.u32.wrap (b1 : Int) * 65536))) (IntKind.u32.wrap (IntKind.u32.wrap (b2 : Int) * 256))) (IntKind.u32.wrap (b3 : Int)) = ((b0 * 16777216 + b1 * 65536 + b2 * 256 + b3 : Nat) : Int) := by
  rw [show IntKind.u32.wrap (IntKind.u32.wrap (b0 : Int) * 16777216) = (b0 : Int) * 16777216 by simp only [IntKind.wrap_u32]; omega,
    show IntKind.u32.wrap (IntKind.u32.wrap (b1 : Int) * 65536) = (b1 : Int) * 65536 by simp only [IntKind.wrap_u32]; omega,
    show IntKind.u32.wrap (IntKind.u32.wrap (b2 : Int) * 256) = (b2 : Int) * 256 by simp only [IntKind.wrap_u32]; omega,
    show IntKind.u32.wrap (b3 : Int) = (b3 : Int) by simp only [IntKind.wrap_u32]; omega]
  exact beW_v b0 b1 b2 b3 h0 h1 h2 h3
theorem add8_step (s t : St) (i : Nat) (h : i < 8) : (add8 s t).l.take (i + 1) = (add8 s t).l.take i ++ [(s.l.getD i 0 + t.l.getD i 0) % 4294967296] := by
  match i, h with
  | 0, _ => rfl
  | 1, _ => rfl
  | 2, _ => rfl
  | 3, _ => rfl
  | 4, _ => rfl
  | 5, _ => rfl
  | 6, _ => rfl
  | 7, _ => rfl
theorem st_at (t : St) (i : Nat) (h : i < 8) : t.l[i]? = some (t.l.getD i 0) := by
  rw [List.getD_eq_getElem?_getD, List.getElem?_eq_getElem (show i < t.l.length from h)]; rfl

set_option maxRecDepth 100000 in
set_option maxHeartbeats 4000000 in
theorem rblock_any (s : St) (hs : s.ok) (bl : List Nat) (hbl : bl.length = 64) (hb256 : ∀ x ∈ bl, x < 256) (gh oh cH gb ob cb : Nat) (w : World)
    (hH : ∀ i, i < 8 → w.cell? ⟨gh, oh + i, none⟩ = some (u32V (s.l.getD i 0))) (hBc : ∀ i, i < 64 → w.cell? ⟨gb, ob + i, none⟩ = some (u8V (bl.getD i 0))) :
    Calls Tryd.prog 42 #[.slice (some ⟨gh, oh, none⟩) 8 cH, .slice (some ⟨gb, ob, none⟩) 64 cb] w fun e w' => ∃ v, e = .returned v ∧ w'.ownsRow w.heap.size 48 1 v 8 ((block s bl).l.map u32V) ∧ Below w.heap.size w w' := by
  obtain ⟨i0, hi, hz0, hz1, hz2⟩ := info_parts info48
  have HH := Lib.hid hH; have HBC := Lib.hid hBc; have HBL := Lib.hid hbl; have H256 := Lib.hid hb256; have HOK := Lib.hid hs
  have hgh := block_lt_of_cell (hH 0 (by omega))
  have hgb := block_lt_of_cell (hBc 0 (by omega))
  clear hH hBc hbl hb256 hs
  go_enter Tryd.func42, Tryd.ntmps42
  go_wp2
  go_loopw [5, 6] (fun bv iv wr => ∃ i : Nat, iv = .int .i64 i ∧ i ≤ 16 ∧ wr.ownsRow w.heap.size 48 1 bv i (((List.range i).map (beW bl)).map u32V) ∧ Below w.heap.size w wr) (fun _ iv _ => 16 - (intOf iv).toNat)
  case atStart => exact ⟨0, rfl, Nat.zero_le _, World.ownsRow_nil _ _ _ _, Below.refl _ _⟩
  case round =>
    obtain ⟨i, rfl, hi16, hown, hb⟩ := hrel
    by_cases hlt : i < 16
    · have get : ∀ k, k < 64 → ∃ x : Nat, bl.getD k 0 = x ∧ x < 256 ∧ ∀ W, Below w.heap.size w W → W.cell? ⟨gb, ob + k, none⟩ = some (.int .u8 x) := fun k hk => by
        refine ⟨_, rfl, ?_, fun W hW => (hW.cell (p := ⟨gb, ob + k, none⟩) hgb).trans (HBC.out k hk)⟩
        rw [List.getD_eq_getElem?_getD, List.getElem?_eq_getElem (by rw [HBL.out]; exact hk)]
        exact H256.out _ (List.getElem_mem _)
      obtain ⟨x0, f0, l0, e0⟩ := get (4 * i) (by omega)
      obtain ⟨x1, f1, l1, e1⟩ := get (4 * i + 1) (by omega)
      obtain ⟨x2, f2, l2, e2⟩ := get (4 * i + 2) (by omega)
      obtain ⟨x3, f3, l3, e3⟩ := get (4 * i + 3) (by omega)
      have HW := Lib.hid (show beW bl i = x0 * 16777216 + x1 * 65536 + x2 * 256 + x3 by unfold beW; rw [f0, f1, f2, f3])
      have HV := Lib.hid (beW_w x0 x1 x2 x3 l0 l1 l2 l3)
      have HS := Lib.hid (words16_step bl i)
      clear get f0 f1 f2 f3
      have a0 : IntKind.i64.wrap (4 * (i : Int)) = 4 * (i : Int) := IntWalk.i64_in _ ⟨by omega, by omega⟩
      have t0 : (4 * (i : Int)).toNat = 4 * i := by omega
      have n0 : 0 ≤ 4 * (i : Int) := by omega
      have u0 : 4 * (i : Int) < 64 := by omega
      have a1 : IntKind.i64.wrap (4 * (i : Int) + 1) = 4 * (i : Int) + 1 := IntWalk.i64_in _ ⟨by omega, by omega⟩
      have t1 : (4 * (i : Int) + 1).toNat = 4 * i + 1 := by omega
      have n1 : 0 ≤ 4 * (i : Int) + 1 := by omega
      have u1 : 4 * (i : Int) + 1 < 64 := by omega
      have a2 : IntKind.i64.wrap (4 * (i : Int) + 2) = 4 * (i : Int) + 2 := IntWalk.i64_in _ ⟨by omega, by omega⟩
      have t2 : (4 * (i : Int) + 2).toNat = 4 * i + 2 := by omega
      have n2 : 0 ≤ 4 * (i : Int) + 2 := by omega
      have u2 : 4 * (i : Int) + 2 < 64 := by omega
      have a3 : IntKind.i64.wrap (4 * (i : Int) + 3) = 4 * (i : Int) + 3 := IntWalk.i64_in _ ⟨by omega, by omega⟩
      have t3 : (4 * (i : Int) + 3).toNat = 4 * i + 3 := by omega
      have n3 : 0 ≤ 4 * (i : Int) + 3 := by omega
      have u3 : 4 * (i : Int) + 3 < 64 := by omega
      have KC := Lib.hid (show ∀ W, Below w.heap.size w W → W.cell? ⟨gb, ob + 4 * i, none⟩ = some (.int .u8 x0) ∧ W.cell? ⟨gb, ob + (4 * i + 1), none⟩ = some (.int .u8 x1) ∧ W.cell? ⟨gb, ob + (4 * i + 2), none⟩ = some (.int .u8 x2) ∧ W.cell? ⟨gb, ob + (4 * i + 3), none⟩ = some (.int .u8 x3) from fun W hW =>
        ⟨e0 W hW, e1 W hW, e2 W hW, e3 W hW⟩)
      clear e0 e1 e2 e3
      go_wp2_with fail
      go_region_held3 (fun w' => w'.cell? ⟨gb, ob + 4 * i, none⟩ = some (.int .u8 x0) ∧ w'.cell? ⟨gb, ob + (4 * i + 1), none⟩ = some (.int .u8 x1) ∧ w'.cell? ⟨gb, ob + (4 * i + 2), none⟩ = some (.int .u8 x2) ∧ w'.cell? ⟨gb, ob + (4 * i + 3), none⟩ = some (.int .u8 x3))
        (first
          | exact KC.out _ hb.drew
          | exact KC.out _ (hb.alloc hb.size _).drew
          | exact KC.out _ hb5
          | go_keep)
        ((refine step_append_lit (by rfl) _ _ 49 48 (by rfl) Tryd.underlying49 hi hz0 hz1 hz2 rfl w.heap.size _ i _ (by rfl) hown _ 1 (by rfl) (by simp [Value.oneCell']) (by simp) (by simp; omega) (by decide) hb.size hb ?_; intro gg cap w5 hown5 hb5 hat hlt5))
      rw [HV.out] at hown5
      have HO5 := Lib.hid hown5; have HB5 := Lib.hid hb5
      clear hown5 hb5
      go_wp2_with fail
      go_roundw
      case rel => exact ⟨i + 1, by go_num, by omega, by rw [HS.out, ← map_u32, HW.out]; exact HO5.out, HB5.out⟩
      case measure => simp [intOf]; omega
    · obtain rfl : i = 16 := by omega
      obtain ⟨l, hl⟩ : ∃ l, words16 bl = l := ⟨_, rfl⟩
      have hl16 : l.length = 16 := by rw [← hl]; exact words16_length bl
      have hllt : ∀ x ∈ l, x < 4294967296 := by rw [← hl]; exact words16_lt bl HBL.out H256.out
      have hown16 : wr.ownsRow w.heap.size 48 1 u5 16 ((wext 0 l).map u32V) := by rw [← hl]; exact hown
      have HLW := Lib.hid hl; have H16 := Lib.hid hl16; have HLT := Lib.hid hllt
      clear hown hl hl16 hllt
      go_wp2
      go_loopw [5, 7] (fun bv iv wr => ∃ i : Nat, 16 ≤ i ∧ i ≤ 64 ∧ iv = .int .i64 i ∧ wr.ownsRow w.heap.size 48 1 bv i ((wext (i - 16) l).map u32V) ∧ Below w.heap.size w wr) (fun _ iv _ => 64 - (intOf iv).toNat)
      case atStart => exact ⟨16, by omega, by omega, rfl, hown16, hb⟩
      case round =>
        clear hown16 hb
        obtain ⟨i, hi16, hi64, rfl, hown, hb⟩ := hrel
        by_cases hlt : i < 64
        · have HL := Lib.hid (show (wext (i - 16) l).length = i by rw [wext_length, H16.out]; omega)
          have hwl := wext_lt (i - 16) l HLT.out
          obtain ⟨g, cap, rfl, hg1, hg2, hcs⟩ := own_slice hown (by omega)
          have get : ∀ k, k < i → ∃ x : Nat, (wext (i - 16) l).getD k 0 = x ∧ x < 4294967296 ∧ wr.cell? ⟨g, k, none⟩ = some (.int .u32 x) := fun k hk => by
            have e : (wext (i - 16) l)[k]? = some ((wext (i - 16) l)[k]'(by rw [HL.out]; exact hk)) := List.getElem?_eq_getElem _
            refine ⟨_, rfl, ?_, ?_⟩
            · rw [List.getD_eq_getElem?_getD, e]; exact hwl _ (List.getElem_mem _)
            · refine hcs k _ ?_
              rw [List.getElem?_map, List.getD_eq_getElem?_getD, e]; rfl
          obtain ⟨x16, e16, l16, c16⟩ := get (i - 16) (by omega)
          obtain ⟨x15, e15, l15, c15⟩ := get (i - 15) (by omega)
          obtain ⟨x7, e7, l7, c7⟩ := get (i - 7) (by omega)
          obtain ⟨x2, e2, l2, c2⟩ := get (i - 2) (by omega)
          have HN := Lib.hid (show wnext (wext (i - 16) l) i = (x16 + s0 x15 + x7 + s1 x2) % 4294967296 by unfold wnext; rw [e16, e15, e7, e2])
          have HS := Lib.hid (show wext (i + 1 - 16) l = wext (i - 16) l ++ [wnext (wext (i - 16) l) i] by
            rw [show i + 1 - 16 = (i - 16) + 1 by omega, wext_at, show 16 + (i - 16) = i by omega])
          have HVV := Lib.hid (show IntKind.u32.wrap (IntKind.u32.wrap (IntKind.u32.wrap ((x16 : Int) + bits .xor .u32 (bits .xor .u32 (rotr x15 7 : Nat) (rotr x15 18 : Nat)) ((x15 : Int) / 8)) + x7) + bits .xor .u32 (bits .xor .u32 (rotr x2 17 : Nat) (rotr x2 19 : Nat)) ((x2 : Int) / 1024)) = ((wnext (wext (i - 16) l) i : Nat) : Int) by
            rw [HN.out, s0_v _ l15, s1_v _ l2]; simp only [IntKind.wrap_u32]; omega)
          clear get e16 e15 e7 e2 hwl hcs HN
          have a15 : IntKind.i64.wrap ((i : Int) - 15) = (i : Int) - 15 := IntWalk.i64_in _ ⟨by omega, by omega⟩
          have b15 : 0 ≤ (i : Int) - 15 := by omega
          have d15 : ((i : Int) - 15).toNat = i - 15 := by omega
          have v15 : (i : Int) - 15 < i := by omega
          have a2 : IntKind.i64.wrap ((i : Int) - 2) = (i : Int) - 2 := IntWalk.i64_in _ ⟨by omega, by omega⟩
          have b2 : 0 ≤ (i : Int) - 2 := by omega
          have d2 : ((i : Int) - 2).toNat = i - 2 := by omega
          have v2 : (i : Int) - 2 < i := by omega
          have a16 : IntKind.i64.wrap ((i : Int) - 16) = (i : Int) - 16 := IntWalk.i64_in _ ⟨by omega, by omega⟩
          have b16 : 0 ≤ (i : Int) - 16 := by omega
          have d16 : ((i : Int) - 16).toNat = i - 16 := by omega
          have v16 : (i : Int) - 16 < i := by omega
          have a7 : IntKind.i64.wrap ((i : Int) - 7) = (i : Int) - 7 := IntWalk.i64_in _ ⟨by omega, by omega⟩
          have b7 : 0 ≤ (i : Int) - 7 := by omega
          have d7 : ((i : Int) - 7).toNat = i - 7 := by omega
          have v7 : (i : Int) - 7 < i := by omega
          go_wp2
          go_quiet ((go_at_call 60; exact quiet_on (rotated_k _ _ (by assumption) (by decide) (by decide) _)))
          generalize nq = n1 at *
          go_wp2
          go_quiet ((go_at_call 60; exact quiet_on2 (rotated_k _ _ (by assumption) (by decide) (by decide) _)))
          go_wp2_with fail
          obtain ⟨W2, hW2⟩ : ∃ W2, (wr.drewN n1).drewN nq = W2 := ⟨_, rfl⟩
          rw [hW2]
          have hown2 : W2.ownsRow w.heap.size 48 1 (.slice (some ⟨g, 0, none⟩) i cap) i ((wext (i - 16) l).map u32V) := by rw [← hW2]; exact hown
          have hb2 : Below w.heap.size w W2 := by rw [← hW2]; exact below_drewN (below_drewN hb _) _
          have g16 : W2.cell? ⟨g, i - 16, none⟩ = some (.int .u32 x16) := by rw [← hW2]; exact c16
          have g7 : W2.cell? ⟨g, i - 7, none⟩ = some (.int .u32 x7) := by rw [← hW2]; exact c7
          have hgW : g < W2.heap.size := by rw [← hW2]; exact hg2
          clear hW2 hown hb c16 c7 c15 c2
          have w16 : (16 : Int) ≤ i := by omega
          have w7 : (7 : Int) ≤ i := by omega
          go_region_law
            ((refine step_append_lit (by rfl) _ _ 49 48 (by rfl) Tryd.underlying49 hi hz0 hz1 hz2 rfl w.heap.size _ i _ (by rfl) hown2 _ 1 (by rfl) (by simp [Value.oneCell']) (by simp) (by simp; omega) (by decide) hb2.size hb2 ?_; intro gg cp w5 hown5 hb5 hat hlt5))
          all_goals
            rw [HVV.out] at hown5
            have HO5 := Lib.hid hown5; have HB5 := Lib.hid hb5
            clear hown5 hb5
            go_wp2_with fail
            go_roundw
            case rel => exact ⟨i + 1, by omega, by omega, by go_num, by rw [HS.out, ← map_u32]; exact HO5.out, HB5.out⟩
            case measure => simp [intOf]; omega
        · obtain rfl : i = 64 := by omega
          obtain ⟨L, hL⟩ : ∃ L, wext 48 l = L := ⟨_, rfl⟩
          have hlL : L.length = 64 := by rw [← hL, wext_length, H16.out]
          have hLlt : ∀ x ∈ L, x < 4294967296 := by rw [← hL]; exact wext_lt 48 l HLT.out
          have HEN := Lib.hid (show block s bl = add8 s (rounds s L) by rw [← hL, ← HLW.out]; rfl)
          rw [show 64 - 16 = 48 from rfl, hL] at hown
          obtain ⟨g, cap, rfl, hg1, hg2, hcs⟩ := own_slice hown (by omega)
          have HlL := Lib.hid hlL; have HLL := Lib.hid hLlt; have HCS := Lib.hid hcs
          clear hL hlL hLlt hown hcs HLW H16 HLT
          go_wp2_with fail
          refine (rconst_any _).mono ?_
          rintro e w3 ⟨rfl, hw3⟩
          have hK := heap_alloc_new wr (Obj.cells (KL.map u32V).toArray 48)
          rw [← hw3] at hK
          have hb3 : Below wr.heap.size wr w3 := by rw [hw3]; exact (Below.refl _ _).alloc (Nat.le_refl _) _
          have hs3 : w3.heap.size = wr.heap.size + 1 := by rw [hw3]; simp
          have hbw3 : Below w.heap.size w w3 := hb.trans (hb3.mono hb.size)
          have HC3 := Lib.hid (show ∀ W, Below w3.heap.size w3 W → (∀ k, k < 64 → ∃ x : Nat, KL[k]?.getD 0 = x ∧ W.cell? ⟨wr.heap.size, k, none⟩ = some (.int .u32 x)) ∧ (∀ k, k < 64 → ∃ x : Nat, L[k]? = some x ∧ W.cell? ⟨g, k, none⟩ = some (.int .u32 x)) from fun W hW => by
            refine ⟨fun k hk => ⟨_, rfl, ?_⟩, fun k hk => ?_⟩
            · refine (hW.cell (p := ⟨wr.heap.size, k, none⟩) (by show wr.heap.size < _; omega)).trans ?_
              refine cells_at hK (f := u32V) ?_
              rw [List.getElem?_eq_getElem (show k < KL.length from hk)]; rfl
            · have e : L[k]? = some (L[k]'(by rw [HlL.out]; exact hk)) := List.getElem?_eq_getElem _
              refine ⟨_, e, ?_⟩
              refine (hW.cell (p := ⟨g, k, none⟩) (by show g < _; omega)).trans ((hb3.cell (p := ⟨g, k, none⟩) hg2).trans ?_)
              refine HCS.out k _ ?_
              rw [List.getElem?_map, e]; rfl)
          have HS3 := Lib.hid (row_src (w := w3) (g := gh) (o := oh) (n := 8) (l := s.l) (fun i hi => (hbw3.cell (p := ⟨gh, oh + i, none⟩) hgh).trans (HH.out i hi)) rfl)
          have HBW := Lib.hid hbw3; have HS3z := Lib.hid hs3
          clear hw3 hK hb3 hbw3 hb
          go_wp2_with (at_builtin; refine wpList_append_own _ rfl _ _ 49 rfl w3.heap.size 48 i0 (.int .u32 0) 1 4 Tryd.underlying49 hi hz0 hz1 hz2 rfl (by decide) _ 0 [] rfl (World.ownsRow_nil _ _ _ _) ⟨gh, oh, none⟩ 8 cH (s.l.map u32V) rfl (by simp [St.l]) HS3.out (by intro u hu; obtain ⟨x, _, rfl⟩ := List.mem_map.1 hu; rfl) (by unfold maxLen; omega) (by omega) (Nat.le_refl _) ?_; intro v4 w4 hown4 hgrow _)
          have hb4 : Below w3.heap.size w3 w4 := (Below.refl _ _).grown hgrow (Nat.le_refl _) (own_lt (World.ownsRow_nil w3 w3.heap.size 48 1))
          clear hgrow
          have hown8 : w4.ownsRow w3.heap.size 48 1 v4 8 (s.l.map u32V) := by rw [Nat.zero_add, List.nil_append] at hown4; exact hown4
          clear hown4
          obtain ⟨g4, c4, rfl, _, hg4, hcs4⟩ := own_slice hown8 (by omega)
          have hv4 : ∀ j, j < 8 → w4.cell? ⟨g4, j, none⟩ = some (u32V (s.l.getD j 0)) := fun j hj => by
            refine hcs4 j _ ?_
            rw [List.getElem?_map, List.getD_eq_getElem?_getD, List.getElem?_eq_getElem (show j < s.l.length from hj)]; rfl
          have hg4s : g4 < w4.heap.size := hg4
          clear hown8 hcs4 hg4
          go_loopw [11, 12] (fun vv iv wr => ∃ (i : Nat) (t : St) (gv cv : Nat), i ≤ 64 ∧ iv = .int .i64 i ∧ t.ok ∧ t = ((KL.zip L).take i).foldl rnd s ∧ vv = .slice (some ⟨gv, 0, none⟩) 8 cv ∧ gv < wr.heap.size ∧ (∀ j, j < 8 → wr.cell? ⟨gv, j, none⟩ = some (u32V (t.l.getD j 0))) ∧ Below w3.heap.size w3 wr) (fun _ iv _ => 64 - (intOf iv).toNat)
          case atStart => exact ⟨0, s, g4, _, by omega, rfl, HOK.out, rfl, rfl, hg4s, hv4, hb4⟩
          case round =>
            clear hg4s hv4 hb4
            obtain ⟨i, t, gv, cv, hi64, rfl, ht, hft, rfl, hgv, hv, hb⟩ := hrel
            have HF := Lib.hid hft; have HBR := Lib.hid hb; have HT := Lib.hid ht
            clear hft
            obtain ⟨ta, tb, tc, td, te, tf, tg, th⟩ := t
            by_cases hlt : i < 64
            · obtain ⟨KK, LL⟩ := HC3.out _ hb
              obtain ⟨k, hk, ck⟩ := KK i hlt
              obtain ⟨x, hx, cx⟩ := LL i hlt
              have HX := Lib.hid hx; have HK := Lib.hid hk
              obtain ⟨ka, kb, kc, kd, ke, kf, kg, kh⟩ := ht
              dsimp only at ka kb kc kd ke kf kg kh
              have v0 := hv 0 (by omega)
              have v1 := hv 1 (by omega)
              have v2 := hv 2 (by omega)
              have v3 := hv 3 (by omega)
              have v4 := hv 4 (by omega)
              have v5 := hv 5 (by omega)
              have v6 := hv 6 (by omega)
              have v7 := hv 7 (by omega)
              simp only [St.l, List.getD_cons_zero, List.getD_cons_succ] at v0 v1 v2 v3 v4 v5 v6 v7
              clear hv hb KK LL hx hk
              go_wp2
              go_quiet ((go_at_call 60; exact quiet_on (rotated_k _ _ (by assumption) (by decide) (by decide) _)))
              generalize nq = n1 at *
              go_wp2
              go_quiet ((go_at_call 60; exact quiet_on2 (rotated_k _ _ (by assumption) (by decide) (by decide) _)))
              go_wp2_with fail
              have q1 := S1_v te ke
              have q2 : bits .xor .u32 (bits .and .u32 te tf) (bits .and .u32 (bits .xor .u32 IntKind.u32.max te) tg) = (ch te tf tg : Nat) := ch_v _ _ _ ke kf kg
              have q3 := S0_v ta ka
              have q4 := maj_v ta tb tc ka kb kc
              obtain ⟨T, hT⟩ : ∃ T : Nat, (th + S1 te + ch te tf tg + k + x) % 4294967296 = T := ⟨_, rfl⟩
              obtain ⟨U, hU⟩ : ∃ U : Nat, (S0 ta + maj ta tb tc) % 4294967296 = U := ⟨_, rfl⟩
              have hTi : ((th : Int) + (S1 te : Nat) + (ch te tf tg : Nat) + k + x) % 4294967296 = (T : Nat) := by omega
              have hUi : (((S0 ta : Nat) : Int) + (maj ta tb tc : Nat)) % 4294967296 = (U : Nat) := by omega
              rw [q1, q2, q3, q4, hTi, hUi]
              have HRND := Lib.hid (show rnd ⟨ta, tb, tc, td, te, tf, tg, th⟩ (k, x) = ⟨(T + U) % 4294967296, ta, tb, tc, (td + T) % 4294967296, te, tf, tg⟩ by
                unfold rnd; dsimp only; rw [hT, hU])
              clear q1 q2 q3 q4 hT hU hTi hUi ck cx
              obtain ⟨W2, hW2⟩ : ∃ W2, (wr.drewN n1).drewN nq = W2 := ⟨_, rfl⟩
              rw [hW2]
              have HB2 := Lib.hid (show Below w3.heap.size w3 W2 by rw [← hW2]; exact below_drewN (below_drewN HBR.out _) _)
              have g1 : W2.drew.cell? ⟨gv, 1, none⟩ = some (.int .u32 tb) := by rw [← hW2]; exact v1
              have g2 : W2.drew.cell? ⟨gv, 2, none⟩ = some (.int .u32 tc) := by rw [← hW2]; exact v2
              have g3 : W2.drew.cell? ⟨gv, 3, none⟩ = some (.int .u32 td) := by rw [← hW2]; exact v3
              have g5 : W2.drew.cell? ⟨gv, 5, none⟩ = some (.int .u32 tf) := by rw [← hW2]; exact v5
              have g6 : W2.drew.cell? ⟨gv, 6, none⟩ = some (.int .u32 tg) := by rw [← hW2]; exact v6
              have hgW : gv < W2.heap.size := by rw [← hW2]; exact hgv
              have KC := Lib.hid (show ∀ W, Below W2.heap.size W2 W → W.cell? ⟨gv, 1, none⟩ = some (.int .u32 tb) ∧ W.cell? ⟨gv, 2, none⟩ = some (.int .u32 tc) ∧ W.cell? ⟨gv, 3, none⟩ = some (.int .u32 td) ∧ W.cell? ⟨gv, 5, none⟩ = some (.int .u32 tf) ∧ W.cell? ⟨gv, 6, none⟩ = some (.int .u32 tg) from fun W hW =>
                ⟨(hW.cell (p := ⟨gv, 1, none⟩) hgW).trans g1, (hW.cell (p := ⟨gv, 2, none⟩) hgW).trans g2, (hW.cell (p := ⟨gv, 3, none⟩) hgW).trans g3, (hW.cell (p := ⟨gv, 5, none⟩) hgW).trans g5, (hW.cell (p := ⟨gv, 6, none⟩) hgW).trans g6⟩)
              clear v0 v1 v2 v3 v4 v5 v6 v7 hW2 HBR
              go_region_held3 (fun w' => w'.cell? ⟨gv, 1, none⟩ = some (.int .u32 tb) ∧ w'.cell? ⟨gv, 2, none⟩ = some (.int .u32 tc) ∧ w'.cell? ⟨gv, 3, none⟩ = some (.int .u32 td) ∧ w'.cell? ⟨gv, 5, none⟩ = some (.int .u32 tf) ∧ w'.cell? ⟨gv, 6, none⟩ = some (.int .u32 tg))
                (first
                  | exact KC.out _ (Below.refl _ _).drew
                  | exact KC.out _ ((Below.refl _ _).alloc (Nat.le_refl _) _).drew
                  | exact KC.out _ ((Below.refl _ _).drew.alloc (Nat.le_refl _) _)
                  | go_keep)
                ((fail))
              rw [show IntKind.u32.wrap ((T : Int) + U) = (((T + U) % 4294967296 : Nat) : Int) by rw [IntKind.wrap_u32]; omega, show IntKind.u32.wrap ((td : Int) + T) = (((td + T) % 4294967296 : Nat) : Int) by rw [IntKind.wrap_u32]; omega]
              have hrow := heap_alloc_new W2 (Obj.cells ((⟨(T + U) % 4294967296, ta, tb, tc, (td + T) % 4294967296, te, tf, tg⟩ : St).l.map u32V).toArray 48)
              have hbe : Below w3.heap.size w3 ((W2.alloc (Obj.cells ((⟨(T + U) % 4294967296, ta, tb, tc, (td + T) % 4294967296, te, tf, tg⟩ : St).l.map u32V).toArray 48)).drew) := (HB2.out.alloc HB2.out.size _).drew
              have HROW := Lib.hid hrow; have HBE := Lib.hid hbe
              clear hrow hbe g1 g2 g3 g5 g6
              go_wp2_with fail
              go_roundw
              case rel =>
                refine ⟨i + 1, ⟨(T + U) % 4294967296, ta, tb, tc, (td + T) % 4294967296, te, tf, tg⟩, W2.heap.size, 8, by omega, by go_num, ?_, ?_, rfl, by simp, fun j hj => ?_, HBE.out⟩
                · rw [← HRND.out]; exact rnd_ok _ _ _ HT.out
                · rw [zip_step L i hlt HlL.out HX.out, ← HF.out, HK.out, HRND.out]
                · exact cells_at (w := (W2.alloc (Obj.cells ((⟨(T + U) % 4294967296, ta, tb, tc, (td + T) % 4294967296, te, tf, tg⟩ : St).l.map u32V).toArray 48)).drew) HROW.out (f := u32V) (st_at _ j hj)
              case measure => simp [intOf]; omega
            · obtain rfl : i = 64 := by omega
              rename World => W6
              have HE2 := Lib.hid (show (⟨ta, tb, tc, td, te, tf, tg, th⟩ : St) = rounds s L by
                rw [HF.out, rounds, List.take_of_length_le (by rw [List.length_zip, HlL.out]; decide)])
              have HVC := Lib.hid hv
              have hgvs : gv < W6.heap.size := hgv
              clear hv hb HF ht HT hgv
              generalize (⟨ta, tb, tc, td, te, tf, tg, th⟩ : St) = t at *
              go_wp2_with fail
              have HW0 := Lib.hid (HBW.out.trans (HBR.out.mono HBW.out.size))
              go_loopw [17, 18] (fun ov iv w5 => ∃ i : Nat, i ≤ 8 ∧ iv = .int .i64 i ∧ w5.ownsRow W6.heap.size 48 1 ov i (((add8 s t).l.take i).map u32V) ∧ Below W6.heap.size W6 w5) (fun _ iv _ => 8 - (intOf iv).toNat)
              case atStart => exact ⟨0, by omega, rfl, World.ownsRow_nil _ _ _ _, Below.refl _ _⟩
              case round =>
                obtain ⟨i, hi8, rfl, hown, hb5⟩ := hrel
                by_cases hlt : i < 8
                · obtain ⟨x, hx⟩ : ∃ x, s.l.getD i 0 = x := ⟨_, rfl⟩
                  obtain ⟨y, hy⟩ : ∃ y, t.l.getD i 0 = y := ⟨_, rfl⟩
                  have cx : wr.cell? ⟨gh, oh + i, none⟩ = some (.int .u32 x) := by
                    refine ((HW0.out.trans (hb5.mono HW0.out.size)).cell (p := ⟨gh, oh + i, none⟩) hgh).trans ?_
                    rw [HH.out i hlt, hx]
                  have cy : wr.cell? ⟨gv, i, none⟩ = some (.int .u32 y) := by
                    refine (hb5.cell (p := ⟨gv, i, none⟩) hgvs).trans ?_
                    rw [HVC.out i hlt, hy]
                  have HS := Lib.hid (add8_step s t i hlt)
                  rw [hx, hy] at HS
                  have HVV := Lib.hid (show IntKind.u32.wrap ((x : Int) + y) = (((x + y) % 4294967296 : Nat) : Int) by rw [IntKind.wrap_u32]; omega)
                  have hi8' : (i : Int) < 8 := by omega
                  clear hx hy
                  go_wp2_with fail
                  go_region_law
                    ((refine step_append_lit (by rfl) _ _ 49 48 (by rfl) Tryd.underlying49 hi hz0 hz1 hz2 rfl W6.heap.size _ i _ (by rfl) hown _ 1 (by rfl) (by simp [Value.oneCell']) (by simp) (by simp; omega) (by decide) hb5.size hb5 ?_; intro gg cp w6 hown6 hb6 hat hlt6))
                  all_goals
                    rw [HVV.out] at hown6
                    have HO6 := Lib.hid hown6; have HB6 := Lib.hid hb6
                    clear hown6 hb6 hown hb5
                    go_wp2_with fail
                    go_roundw
                    case rel => exact ⟨i + 1, by omega, by go_num, by rw [← List.map_take, HS.out, ← map_u32]; first | exact HO6.out | (rw [List.map_take]; exact HO6.out), HB6.out⟩
                    case measure => simp [intOf]; omega
                · obtain rfl : i = 8 := by omega
                  have HO := Lib.hid hown; have HB := Lib.hid hb5
                  clear hown hb5
                  go_wp2_with fail
                  go_ret
                  refine ⟨_, rfl, ?_, HW0.out.trans (HB.out.mono HW0.out.size)⟩
                  rw [HEN.out, ← HE2.out]
                  exact own_mono HO.out HW0.out.size
end Go.Proofs.YtiilkjonbfllfaaDoor
