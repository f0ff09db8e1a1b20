/- above, walked. -/
import Derived.Test.YtebjjgbdiabapaaGreatDoorCut
namespace Go.Proofs.YtebjjgbdiabapaaGreatDoor
open Go.RowKit Go.Shelf
attribute [local go_sem] Oper.semAt_some

def accF (zs : List Int) (pre : List (Fin zs.length)) : Int := pre.foldl (fun v i => wrap64 (wrap64 (v * 10000) + zs[i.val]?.getD 0)) 0
theorem accF_snoc (zs : List Int) (pre : List (Fin zs.length)) (x : Fin zs.length) : accF zs (pre ++ [x]) = wrap64 (wrap64 (accF zs pre * 10000) + zs[x.val]?.getD 0) := by
  unfold accF; rw [List.foldl_append]; rfl
/-- What has been gathered from the top down is the number above. -/
theorem accF_dn (a : Nat) (ha : a < 10000 ^ 3) : accF (dz 10000 a) (dn (dz 10000 a).length (Nat.le_refl _)) = a := by
  have key : ∀ (i : Nat) (hi : i ≤ (dz 10000 a).length) (pre : List (Fin (dz 10000 a).length)), accF (dz 10000 a) pre = ((a / 10000 ^ i : Nat) : Int) → accF (dz 10000 a) (pre ++ dn i hi) = a := by
    intro i
    induction i with
    | zero => intro hi pre h; rw [dn, List.append_nil, h]; simp
    | succ i ih =>
      intro hi pre h
      rw [dn, show pre ++ (⟨i, hi⟩ :: dn i (Nat.le_of_succ_le hi)) = (pre ++ [⟨i, hi⟩]) ++ dn i (Nat.le_of_succ_le hi) by simp]
      apply ih
      rw [accF_snoc, h]
      simp only
      rw [dz_getD 10000 (by decide)]
      have h1 : a / 10000 ^ i ≤ a := Nat.div_le_self _ _
      have h2 := above_step 10000 (by decide) a i
      generalize a / 10000 ^ (i + 1) = x at *
      generalize a / 10000 ^ i = y at *
      rw [IntWalk.wrap64_in ((x : Int) * 10000) ⟨by omega, by omega⟩, IntWalk.wrap64_in ((x : Int) * 10000 + ((y % 10000 : Nat) : Int)) ⟨by omega, by omega⟩]
      omega
  have := key (dz 10000 a).length (Nat.le_refl _) [] (by
    rw [Nat.div_eq_of_lt (dz_lt 10000 (by decide) a)]; rfl)
  simpa using this

def AbvOut (w : World) (a : Nat) (e : Ending) (w' : World) : Prop := e = .returned (.int .i64 a) ∧ Below w.heap.size w w'

set_option maxRecDepth 100000 in
set_option maxHeartbeats 2000000 in
theorem above_in (F : Fence) (n : Nat) (h1f : F.fn 101) (h2f : F.fn 62) (h3f : F.fn 83) (hro : F.round = none) (hn : 3 ≤ n)
    (w : World) (v : Value) (a low : Nat) (h : Nt w v a) (_hlen : (dz 10000 a).length ≤ 20000) (_hlow : low ≤ 20000) (ha : a / 10000 ^ low < 10000 ^ 3) :
    CallsIn F n Tryz.prog 101 #[v, .int .i64 low] w (AbvOut w (a / 10000 ^ low)) := by
  have h1 : 1 ≤ n := by omega
  unfold Nt at h
  have hdrop := dz_drop 10000 (by decide) low a
  have hdrop2 : (dz 10000 a).drop (min low (dz 10000 a).length) = dz 10000 (a / 10000 ^ low) := by
    rw [← hdrop]
    rcases Nat.le_total low (dz 10000 a).length with h2 | h2
    · rw [Nat.min_eq_left h2]
    · rw [Nat.min_eq_right h2, List.drop_eq_nil_of_le h2, List.drop_eq_nil_of_le (Nat.le_refl _)]
  obtain ⟨v', hcut, hls⟩ := cut_from_ls w v _ (min low (dz 10000 a).length) h (Nat.min_le_right _ _)
  rw [hdrop2] at hls
  obtain ⟨al, c, rfl, hc⟩ := h.shape
  obtain ⟨N, hNe⟩ : ∃ N, (dz 10000 a).length = N := ⟨_, rfl⟩
  rw [hNe] at hcut _hlen ⊢
  have hacc := Lib.hid (accF_dn _ ha)
  have hlen2 : (dz 10000 (a / 10000 ^ low)).length ≤ 3 := (len4 _ 3).2 ha
  clear hdrop hdrop2 hNe hc h ha
  generalize a / 10000 ^ low = q at *
  generalize dz 10000 q = zs at *
  obtain ⟨al', c', rfl, hc'⟩ := hls.shape
  obtain ⟨M, hMe⟩ : ∃ M, zs.length = M := ⟨_, rfl⟩
  have hlsM := hls
  have HLS := Lib.hid hls
  have HM := Lib.hid hMe
  rw [hMe] at hlsM hcut hc' hlen2
  have HLM := Lib.hid hlsM
  clear hls hlsM hMe
  obtain ⟨s, hs⟩ : ∃ s, min low N = s := ⟨_, rfl⟩
  have hmin : ∀ (ts : Array TypeId) (t : TypeId) (W : World), (Builtin.min_ ts t #[.int .i64 (low : Int), .int .i64 (N : Int)]).run Tryz.prog W = .ok (.int .i64 (s : Int)) W := fun ts t W => by
    rw [run_min_int2]
    congr 2
    split <;> omega
  rw [hs] at hcut
  clear hs
  have hls0 := Lib.hid (show Ls ((w.alloc (.cells #[.int .i64 0] 3)).alloc (.cells #[.slice al' M c'] 47)) (.slice al' M c') zs from (HLM.out.below (Nat.le_refl _) (((Below.refl w.heap.size w).alloc (Nat.le_refl _) _).alloc (by simp) _)))
  have bC := Boxed.new w 3 (.int .i64 0)
  have bS := Boxed.new (w.alloc (.cells #[.int .i64 0] 3)) 47 (.slice al' M c')
  rw [World.size_alloc] at bS
  have hB0 : Below w.heap.size w ((w.alloc (.cells #[.int .i64 0] 3)).alloc (.cells #[.slice al' M c'] 47)) := ((Below.refl _ w).alloc (Nat.le_refl _) _).alloc (by simp) _
  have hblk : blkOf (w.heap.size + 1) (.slice al' M c') ≠ w.heap.size := by
    rcases HLM.out with ⟨h1, _⟩ | ⟨b, o, c2, h1, _, hlt2, _⟩
    · rw [h1]; simp [blkOf]
    · rw [h1]; simp [blkOf]; omega
  refine callsIn_of_wp_marks Tryz.func101 rfl h1f ?_ hro
  simp only [Tryz.ntmps101, List.size_toArray, List.length_cons, List.length_nil, Nat.reduceAdd, Nat.reduceSub, Array.replicate_succ, Array.replicate_zero, List.push_toArray, List.append_toArray, List.nil_append, List.cons_append]
  gi_wp2_with (gi_at_call 62; refine (backward_in F (n - 1) h2f hro _ _ _ _ rfl _).mono ?_; rintro e w' ⟨rfl, rfl⟩)
  clear hcut
  refine wpIn_rangeFunc_ownG hro h1 (gf := 83) (lb := #[.pointer (some ⟨w.heap.size + 1, 0, none⟩)]) rfl h3f (enters_of Tryz.func83 (by kernel_rfl) rfl)
    (backward_stops F (n - 1) h3f hro (by omega) (w.heap.size + 1) _ zs (by rw [HM.out]; omega) _ bS.cell hls0.out) kq_t (kq_b (by simp) (by have := blk_lt hls0.out (Bs := w.heap.size + 1) (by simp); exact this)) (Below.refl _ _) (fun _ => rfl)
    (fun pre W => Boxed W w.heap.size 3 (.int .i64 (accF zs pre)) ∧ Below w.heap.size w W)
    (fun _ _ _ => False)
    (OwnFrom.and (Own.from (boxed_own w.heap.size 3 (fun pre => .int .i64 (accF zs pre))) _) (ownFrom_below (Nat.le_refl _) (by simp; omega)))
    (fun _ _ _ _ _ hs _ _ => hs)
    ⟨bC.alloc _, hB0⟩
    ?a1 ?assign ?body ?done ?stop
  case assign =>
    intro l x W K hK
    gi_wp2
    exact hK
  case body =>
    rintro l pre x W ⟨hv, hB⟩ hlt'
    have hc := hv.cell
    have hf := hv.frozen
    have hbs := Lib.hid (accF_snoc zs pre x)
    obtain ⟨q', hq'⟩ : ∃ q', accF zs pre = q' := ⟨_, rfl⟩
    obtain ⟨z, hz⟩ : ∃ z, zs[x.val] = z := ⟨_, rfl⟩
    have hz0 : zs[x.val]?.getD 0 = z := by rw [List.getElem?_eq_getElem x.isLt]; exact hz
    rw [hq', hz0] at hbs
    clear hz0
    rw [hq'] at hc hv
    clear hq'
    gi_wp2
    exact ⟨(KeepsOthers.setCell _ _ _).from _, Kq.setCell _ _ _ (by simp) (by exact hblk.symm), by rw [hbs.out]; exact hv.set _, hB.setCell (Nat.le_refl _) _⟩
  case done =>
    rintro D ys W hD rfl ⟨hv, hB⟩ hK
    have hc := hv.cell
    rw [hacc.out] at hc hv
    gi_wp2
    refine ⟨by simp, .inl ⟨_, _, rfl, run_takeDeferred hK, ?_⟩⟩
    exact ⟨_, results_tmp rfl _ _ _, rfl, hB.trans (belowK_b (w := w) (Nat.le_refl _) W D _ _ (by simp at hD; omega) hK rfl rfl)⟩
  case stop =>
    rintro D c pre W _ _ h _
    exact h.elim

theorem above_nt (w : World) (v : Value) (a low : Nat) (h : Nt w v a) (hlen : (dz 10000 a).length ≤ 20000) (hlow : low ≤ 20000) (ha : a / 10000 ^ low < 10000 ^ 3) :
    Calls Tryz.prog 101 #[v, .int .i64 low] w (AbvOut w (a / 10000 ^ low)) :=
  callsIn_wide.1 (above_in Fence.wide 3 trivial trivial trivial rfl (by omega) w v a low h hlen hlow ha)
end Go.Proofs.YtebjjgbdiabapaaGreatDoor
