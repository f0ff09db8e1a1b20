/- One block's rounds, walked. -/
import Derived.Test.YtiilkjonbfllfaaDoorRot
import Derived.Outline
import Derived.Laws.Rows
import Derived.Below
import Derived.Deep.Draws
namespace Go.Proofs.YtiilkjonbfllfaaDoor
open Go.RowKit

abbrev u32V (n : Nat) : Value := .int .u32 (n : Int)
/-- The table lies in block 0. -/
def Tab (w : World) : Prop := 0 < w.heap.size ∧ ∀ i, i < 64 → w.cell? ⟨0, i, none⟩ = some (.int .u32 (KL.getD i 0 : Nat))
theorem Tab.below {B : Nat} {w w' : World} (h : Tab w) (hb : Below B w w') (hB : 0 < B) : Tab w' :=
  ⟨Nat.lt_of_lt_of_le h.1 hb.size, fun i hi => (hb.cell (p := ⟨0, i, none⟩) hB).trans (h.2 i hi)⟩

def St.ok (s : St) : Prop := s.a < 4294967296 ∧ s.b < 4294967296 ∧ s.c < 4294967296 ∧ s.d < 4294967296 ∧ s.e < 4294967296 ∧ s.f < 4294967296 ∧ s.g < 4294967296 ∧ s.h < 4294967296

theorem S1_v (e : Nat) (h : e < 4294967296) : bits .xor .u32 (bits .xor .u32 (rotr e 6 : Nat) (rotr e 11 : Nat)) (rotr e 25 : Nat) = (S1 e : Nat) := by
  have a1 := rotr_lt e 6 h
  have a2 := rotr_lt e 11 h
  rw [u32_xor_nat _ _ a1 a2]
  exact u32_xor_nat _ _ (Nat.xor_lt_two_pow (n := 32) a1 a2) (rotr_lt e 25 h)
theorem S0_v (a : Nat) (h : a < 4294967296) : bits .xor .u32 (bits .xor .u32 (rotr a 2 : Nat) (rotr a 13 : Nat)) (rotr a 22 : Nat) = (S0 a : Nat) := by
  have a1 := rotr_lt a 2 h
  have a2 := rotr_lt a 13 h
  rw [u32_xor_nat _ _ a1 a2]
  exact u32_xor_nat _ _ (Nat.xor_lt_two_pow (n := 32) a1 a2) (rotr_lt a 22 h)
theorem and_lt (a b : Nat) (h : a < 4294967296) : a &&& b < 4294967296 := Nat.lt_of_le_of_lt Nat.and_le_left h
theorem ch_v (e f g : Nat) (h1 : e < 4294967296) (h2 : f < 4294967296) (h3 : g < 4294967296) :
    bits .xor .u32 (bits .and .u32 e f) (bits .and .u32 (bits .xor .u32 (if IntKind.u32.signed = true then -1 else IntKind.u32.max) e) g) = (ch e f g : Nat) := by
  have hm : (if IntKind.u32.signed = true then -1 else IntKind.u32.max) = ((4294967295 : Nat) : Int) := by decide
  have hx : 4294967295 ^^^ e < 4294967296 := Nat.xor_lt_two_pow (n := 32) (by decide) h1
  rw [hm, u32_and_nat _ _ h1 h2, u32_xor_nat _ _ (by decide) h1, u32_and_nat _ _ hx h3]
  exact u32_xor_nat _ _ (and_lt _ _ h1) (and_lt _ _ hx)
theorem maj_v (a b c : Nat) (h1 : a < 4294967296) (h2 : b < 4294967296) (h3 : c < 4294967296) :
    bits .xor .u32 (bits .xor .u32 (bits .and .u32 a b) (bits .and .u32 a c)) (bits .and .u32 b c) = (maj a b c : Nat) := by
  rw [u32_and_nat _ _ h1 h2, u32_and_nat _ _ h1 h3, u32_and_nat _ _ h2 h3, u32_xor_nat _ _ (and_lt _ _ h1) (and_lt _ _ h1)]
  exact u32_xor_nat _ _ (Nat.xor_lt_two_pow (n := 32) (and_lt _ _ h1) (and_lt _ _ h1)) (and_lt _ _ h2)
theorem rnd_ok (t : St) (k w : Nat) (h : t.ok) : (rnd t (k, w)).ok :=
  ⟨Nat.mod_lt _ (by decide), h.1, h.2.1, h.2.2.1, Nat.mod_lt _ (by decide), h.2.2.2.2.1, h.2.2.2.2.2.1, h.2.2.2.2.2.2.1⟩
theorem zip_step (ws : List Nat) (i : Nat) (h : i < 64) (hl : ws.length = 64) {x : Nat} (hx : ws[i]? = some x) (s : St) :
    ((KL.zip ws).take (i + 1)).foldl rnd s = rnd (((KL.zip ws).take i).foldl rnd s) (KL[i]?.getD 0, x) := by
  have hk : KL.length = 64 := by decide
  have hz : i < (KL.zip ws).length := by rw [List.length_zip, hk, hl]; omega
  rw [List.take_succ_eq_append_getElem hz, List.foldl_append]
  have e1 : KL[i]? = some (KL[i]'(by omega)) := List.getElem?_eq_getElem _
  have e2 : ws[i]'(by omega) = x := by
    have := List.getElem?_eq_getElem (l := ws) (i := i) (by omega)
    rw [this] at hx; exact Option.some.inj hx
  rw [List.getElem_zip, e1, e2]; rfl

set_option maxRecDepth 100000 in
set_option maxHeartbeats 1000000 in
theorem after_any (s : St) (hs : s.ok) (ws : List Nat) (hl : ws.length = 64) (_hw : ∀ x ∈ ws, x < 4294967296) (w : World) (hT : Tab w) :
    Calls Tryd.prog 57 #[.agg (s.l.map u32V).toArray, .agg (ws.map u32V).toArray] w fun e w' => e = .returned (.agg ((add8 s (rounds s ws)).l.map u32V).toArray) ∧ Below w.heap.size w w' := by
  obtain ⟨a, b, c, d, e, f, g, h⟩ := s
  simp only [St.l, List.map_cons, List.map_nil]
  have H := Lib.hid hl; clear hl
  go_enter Tryd.func57, Tryd.ntmps57
  go_wp2
  go_quiet (fail)
  go_wp2
  have hT2 := hT.2
  have hT0 := hT.1
  obtain ⟨ha, hb, hc, hd, he, hf, hg, hh⟩ := hs
  dsimp only at ha hb hc hd he hf hg hh
  go_loopw [5, 6, 7, 8, 9, 10, 11, 12, 32] (fun v5 v6 v7 v8 v9 v10 v11 v12 iv wr => ∃ (i m : Nat) (t : St), i ≤ 64 ∧ iv = .int .i64 i ∧ t.ok ∧ t = ((KL.zip ws).take i).foldl rnd ⟨a, b, c, d, e, f, g, h⟩ ∧
      v5 = u32V t.a ∧ v6 = u32V t.b ∧ v7 = u32V t.c ∧ v8 = u32V t.d ∧ v9 = u32V t.e ∧ v10 = u32V t.f ∧ v11 = u32V t.g ∧ v12 = u32V t.h ∧
      wr = (((w.alloc (Obj.cells #[u32V a, u32V b, u32V c, u32V d, u32V e, u32V f, u32V g, u32V h] 69)).alloc (Obj.cells (List.map u32V ws).toArray 77)).alloc
        (Obj.cells #[Value.int .u32 0, Value.int .u32 0, Value.int .u32 0, Value.int .u32 0, Value.int .u32 0, Value.int .u32 0, Value.int .u32 0, Value.int .u32 0] 69)).drewN m)
    (fun _ _ _ _ _ _ _ _ iv _ => 64 - (intOf iv).toNat)
  case atStart => exact ⟨0, nq, ⟨a, b, c, d, e, f, g, h⟩, by omega, rfl, ⟨ha, hb, hc, hd, he, hf, hg, hh⟩, rfl, rfl, rfl, rfl, rfl, rfl, rfl, rfl, rfl, rfl⟩
  case round =>
    obtain ⟨i, m, t, hi, rfl, ht, hft, rfl, rfl, rfl, rfl, rfl, rfl, rfl, rfl, rfl⟩ := hrel
    have HF := Lib.hid hft; clear hft
    obtain ⟨ta, tb, tc, td, te, tf, tg, th⟩ := t
    obtain ⟨ka, kb, kc, kd, ke, kf, kg, kh⟩ := ht
    dsimp only at ka kb kc kd ke kf kg kh HF
    dsimp only
    by_cases hlt : i < 64
    · obtain ⟨x, hx⟩ : ∃ x, ws[i]? = some x := ⟨ws[i]'(by rw [H.out]; exact hlt), List.getElem?_eq_getElem _⟩
      have hki := hT2 i hlt
      generalize KL.getD i 0 = k at hki
      go_wp2
      go_quiet ((go_at_call 70; exact quiet_at2 (rotate_k _ _ (by assumption) (by decide) (by decide) _)))
      go_wp2_with (go_at_call 70; refine (rotate_k _ _ (by assumption) (by decide) (by decide) _).mono ?_; rintro e w' ⟨rfl, rfl⟩)
      refine ⟨⟨i + 1, m + nq, rnd ⟨ta, tb, tc, td, te, tf, tg, th⟩ (KL[i]?.getD 0, x), by omega, by go_num, rnd_ok _ _ _ ⟨ka, kb, kc, kd, ke, kf, kg, kh⟩, by rw [zip_step ws i hlt H.out hx, ← HF.out], ?_, rfl, rfl, rfl, ?_, rfl, rfl, rfl, rfl⟩, by simp [intOf]; omega⟩
      · rw [S1_v _ ke, ch_v _ _ _ ke kf kg, S0_v _ ka, maj_v _ _ _ ka kb kc]
        rfl
      · rw [S1_v _ ke, ch_v _ _ _ ke kf kg]
        rfl
    · obtain rfl : i = 64 := by omega
      have HE := Lib.hid (show (⟨ta, tb, tc, td, te, tf, tg, th⟩ : St) = rounds ⟨a, b, c, d, e, f, g, h⟩ ws by
        rw [HF.out, rounds, List.take_of_length_le (by rw [List.length_zip, H.out]; decide)])
      go_wp2
      refine bodyPost_ret (v := .agg #[.int .u32 (((a : Int) + ta) % 4294967296), .int .u32 (((b : Int) + tb) % 4294967296), .int .u32 (((c : Int) + tc) % 4294967296), .int .u32 (((d : Int) + td) % 4294967296), .int .u32 (((e : Int) + te) % 4294967296), .int .u32 (((f : Int) + tf) % 4294967296), .int .u32 (((g : Int) + tg) % 4294967296), .int .u32 (((h : Int) + th) % 4294967296)]) (by simp [results, Tryd.results57, go_sem]) rfl ⟨?_, ?_⟩
      · rw [← HE.out]; rfl
      · have hb : Below w.heap.size w (((w.alloc (Obj.cells #[u32V a, u32V b, u32V c, u32V d, u32V e, u32V f, u32V g, u32V h] 69)).alloc (Obj.cells (List.map u32V ws).toArray 77)).alloc
          (Obj.cells #[Value.int .u32 0, Value.int .u32 0, Value.int .u32 0, Value.int .u32 0, Value.int .u32 0, Value.int .u32 0, Value.int .u32 0, Value.int .u32 0] 69)) :=
          (((Below.refl _ _).alloc (Nat.le_refl _) _).alloc (by simp) _).alloc (by simp; omega) _
        exact ((((((((below_drewN hb m).setCell (by simp; omega) _).setCell (by simp; omega) _).setCell (by simp; omega) _).setCell (by simp; omega) _).setCell (by simp; omega) _).setCell (by simp; omega) _).setCell (by simp; omega) _).setCell (by simp; omega) _
end Go.Proofs.YtiilkjonbfllfaaDoor
