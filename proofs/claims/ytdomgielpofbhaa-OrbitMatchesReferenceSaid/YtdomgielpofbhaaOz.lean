/- The orbit, plainly: rows, columns, cells; sorted lists of cells. -/
namespace Go.Proofs.Ytdomgielpofbhaa
set_option linter.unusedVariables false
set_option linter.unusedSimpArgs false

/-- An orbit's numbers. -/
structure Orb where
  p : Int
  f : Int
  lo : Int
  hi : Int
  nd : Int
  tn : Int
  sl : Int
def okO (o : Orb) : Prop := o.p % 2 = 0 ∧ 20 ≤ o.p ∧ o.p ≤ 2000 ∧ 0 ≤ o.f ∧ o.f < o.p ∧ 0 ≤ o.lo ∧ o.lo < o.hi ∧ o.hi < 24000 ∧ 0 ≤ o.nd ∧ o.nd < 48000 ∧ -2000 ≤ o.tn ∧ o.tn ≤ 2000 ∧ 0 ≤ o.sl ∧ o.sl ≤ 10
instance (o : Orb) : Decidable (okO o) := by unfold okO; infer_instance
def okB (o : Orb) : Bool := decide (okO o)
theorem okB_iff {o : Orb} : okB o = true ↔ okO o := by unfold okB; simp
def uZ (o : Orb) (m : Int) : Int := (m + o.f) % o.p
def vZ (o : Orb) (m : Int) : Int := min (uZ o m) (o.p - uZ o m)
def rowZ (o : Orb) (m : Int) : Int := o.lo + (o.hi - o.lo) * 2 * vZ o m / o.p
def colZ (o : Orb) (m : Int) : Int := (o.nd + o.tn * m) % 48000
theorem u_bd {o : Orb} (h : okO o) (m : Int) : 0 ≤ uZ o m ∧ uZ o m < o.p := by
  unfold okO at h
  exact ⟨Int.emod_nonneg _ (by omega), Int.emod_lt_of_pos _ (by omega)⟩
theorem v_bd {o : Orb} (h : okO o) (m : Int) : 0 ≤ vZ o m ∧ 2 * vZ o m ≤ o.p := by
  have := u_bd h m
  unfold vZ
  omega
theorem col_bd (o : Orb) (m : Int) : 0 ≤ colZ o m ∧ colZ o m < 48000 := ⟨Int.emod_nonneg _ (by decide), Int.emod_lt_of_pos _ (by decide)⟩
/-- What is added to the southernmost row. -/
theorem up_bd {o : Orb} (h : okO o) (m : Int) : 0 ≤ (o.hi - o.lo) * 2 * vZ o m ∧ (o.hi - o.lo) * 2 * vZ o m ≤ 48000000 ∧ 0 ≤ (o.hi - o.lo) * 2 * vZ o m / o.p ∧ (o.hi - o.lo) * 2 * vZ o m / o.p ≤ o.hi - o.lo := by
  have hv := v_bd h m
  unfold okO at h
  obtain ⟨D, hD⟩ : ∃ D, o.hi - o.lo = D := ⟨_, rfl⟩
  rw [hD]
  have h0 : 0 ≤ D * 2 * vZ o m := Int.mul_nonneg (by omega) hv.1
  have h1 : D * 2 * vZ o m ≤ D * o.p := by
    rw [Int.mul_assoc]; exact Int.mul_le_mul_of_nonneg_left hv.2 (by omega)
  have h2 : D * o.p ≤ 24000 * 2000 := Int.mul_le_mul (by omega) (by omega) (by omega) (by decide)
  exact ⟨h0, by omega, Int.ediv_nonneg h0 (by omega), Int.ediv_le_of_le_mul (by omega) h1⟩
theorem row_bd {o : Orb} (h : okO o) (m : Int) : o.lo ≤ rowZ o m ∧ rowZ o m ≤ o.hi := by
  have := up_bd h m
  unfold rowZ
  omega
theorem row_24 {o : Orb} (h : okO o) (m : Int) : 0 ≤ rowZ o m ∧ rowZ o m < 24000 := by
  have := row_bd h m
  unfold okO at h
  omega
/-- The cells that there are. -/
abbrev Cel := { c : Nat × Nat // c.1 < 48 ∧ c.2 < 24 }
instance : Inhabited Cel := ⟨⟨(0, 0), by decide⟩⟩
def celO (o : Orb) (m : Int) : Cel := ⟨((colZ o m / 1000).toNat, min 23 (rowZ o m / 1000).toNat), by have := col_bd o m; constructor <;> simp only <;> omega⟩
theorem cel_x (o : Orb) (m : Int) : ((celO o m).1.1 : Int) = colZ o m / 1000 := by
  have := col_bd o m
  show ((colZ o m / 1000).toNat : Int) = _
  omega
theorem cel_y {o : Orb} (h : okO o) (m : Int) : ((celO o m).1.2 : Int) = rowZ o m / 1000 := by
  have := row_24 h m
  show ((min 23 (rowZ o m / 1000).toNat : Nat) : Int) = _
  omega
theorem cel_ext {a b : Cel} (hx : a.1.1 = b.1.1) (hy : a.1.2 = b.1.2) : a = b := Subtype.ext (Prod.ext hx hy)

/-! ### A revolution -/
theorem u_round (o : Orb) (m : Int) : uZ o (m + o.p) = uZ o m := by
  unfold uZ
  rw [show m + o.p + o.f = m + o.f + o.p * 1 by omega, Int.add_mul_emod_self_left]
theorem row_round (o : Orb) (m : Int) : rowZ o (m + o.p) = rowZ o m := by unfold rowZ vZ; rw [u_round]
theorem col_add (o : Orb) (m k : Int) : colZ o (m + k) = (colZ o m + o.tn * k) % 48000 := by
  unfold colZ
  rw [Int.emod_add_emod, Int.mul_add]
  congr 1
  omega
theorem v_back {o : Orb} (h : okO o) (m : Int) : vZ o (m + 2 * (o.p - uZ o m)) = vZ o m := by
  have hu := u_bd h m
  have hp : 20 ≤ o.p := by unfold okO at h; omega
  obtain ⟨u, hU⟩ : ∃ u, uZ o m = u := ⟨_, rfl⟩
  have e1 : m + o.f = o.p * ((m + o.f) / o.p) + u := by rw [← hU]; unfold uZ; exact (Int.mul_ediv_add_emod _ _).symm
  rw [hU] at hu
  have e2 : uZ o (m + 2 * (o.p - u)) = (o.p - u) % o.p := by
    unfold uZ
    obtain ⟨q, hq⟩ : ∃ q, (m + o.f) / o.p = q := ⟨_, rfl⟩
    rw [hq] at e1
    have e3 : m + 2 * (o.p - u) + o.f = (o.p - u) + o.p * (q + 1) := by rw [Int.mul_add, Int.mul_one]; omega
    rw [e3, Int.add_mul_emod_self_left]
  unfold vZ
  rw [hU, e2]
  by_cases hz : u = 0
  · rw [hz, Int.sub_zero, Int.emod_self, Int.sub_zero]
  · rw [Int.emod_eq_of_lt (by omega) (by omega)]
    omega
theorem row_back {o : Orb} (h : okO o) (m : Int) : rowZ o (m + 2 * (o.p - uZ o m)) = rowZ o m := by unfold rowZ; rw [v_back h]

/-! ### A minute more -/
theorem u_step {o : Orb} (h : okO o) (m : Int) : uZ o (m + 1) = if uZ o m + 1 = o.p then 0 else uZ o m + 1 := by
  have hu := u_bd h m
  have hp : 20 ≤ o.p := by unfold okO at h; omega
  have e : uZ o (m + 1) = (uZ o m + 1) % o.p := by
    unfold uZ
    rw [Int.emod_add_emod]
    congr 1
    omega
  rw [e]
  split
  · rename_i he; rw [he, Int.emod_self]
  · exact Int.emod_eq_of_lt (by omega) (by omega)
theorem v_step {o : Orb} (h : okO o) (m : Int) : vZ o (m + 1) ≤ vZ o m + 1 ∧ vZ o m ≤ vZ o (m + 1) + 1 := by
  have hu := u_bd h m
  have hp : 20 ≤ o.p := by unfold okO at h; omega
  unfold vZ
  rw [u_step h m]
  split <;> omega
theorem div_step (a b p : Int) (hp : 0 < p) : (a + b) / p ≤ a / p + (b + p - 1) / p := by
  have h1 : a < (a / p + 1) * p := Int.lt_ediv_add_one_mul_self a hp
  have h2 : b + p - 1 < ((b + p - 1) / p + 1) * p := Int.lt_ediv_add_one_mul_self _ hp
  generalize a / p = x at *
  generalize (b + p - 1) / p = y at *
  have h3 : a + b < (x + y + 1) * p := by
    rw [Int.add_mul] at h1 h2
    rw [Int.add_mul, Int.add_mul]
    omega
  have := Int.ediv_lt_of_lt_mul hp h3
  omega
theorem row_step {o : Orb} (h : okO o) (m : Int) : rowZ o (m + 1) - rowZ o m ≤ ((o.hi - o.lo) * 2 + o.p - 1) / o.p ∧ rowZ o m - rowZ o (m + 1) ≤ ((o.hi - o.lo) * 2 + o.p - 1) / o.p := by
  have hv := v_step h m
  unfold okO at h
  obtain ⟨S, hS⟩ : ∃ S, (o.hi - o.lo) * 2 = S := ⟨_, rfl⟩
  have hS0 : 0 ≤ S := by omega
  have hp : 0 < o.p := by omega
  have key : ∀ a b : Int, b ≤ a + 1 → S * b / o.p ≤ S * a / o.p + (S + o.p - 1) / o.p := fun a b hab => by
    have h1 : S * b ≤ S * a + S := by
      have := Int.mul_le_mul_of_nonneg_left hab hS0
      rw [Int.mul_add, Int.mul_one] at this
      exact this
    exact Int.le_trans (Int.ediv_le_ediv hp h1) (div_step _ _ _ hp)
  unfold rowZ
  rw [hS]
  have k1 := key _ _ hv.1
  have k2 := key _ _ hv.2
  omega

/-! ### Lists of cells -/
/-- The cells at n minutes from m on. -/
def trk (o : Orb) (m : Int) (n : Nat) : List Cel := (List.range n).map fun i : Nat => celO o (m + (i : Int))
theorem trk_len (o : Orb) (m : Int) (n : Nat) : (trk o m n).length = n := by simp [trk]
theorem trk_succ (o : Orb) (m : Int) (n : Nat) : trk o m (n + 1) = trk o m n ++ [celO o (m + (n : Int))] := by simp [trk, List.range_succ]
theorem trk_at (o : Orb) (m : Int) {n i : Nat} (h : i < n) : (trk o m n)[i]? = some (celO o (m + (i : Int))) := by simp [trk, h]
theorem trk_mem {o : Orb} {m : Int} {n : Nat} {c : Cel} : c ∈ trk o m n ↔ ∃ i : Nat, i < n ∧ c = celO o (m + (i : Int)) := by
  unfold trk
  simp only [List.mem_map, List.mem_range]
  constructor
  · rintro ⟨i, h, rfl⟩; exact ⟨i, h, rfl⟩
  · rintro ⟨i, h, rfl⟩; exact ⟨i, h, rfl⟩
theorem trk_app (o : Orb) (m : Int) (a b : Nat) : trk o m (a + b) = trk o m a ++ trk o (m + (a : Int)) b := by
  induction b with
  | zero => simp [trk]
  | succ b ih =>
    rw [← Nat.add_assoc, trk_succ, ih, trk_succ, List.append_assoc]
    congr 4
    omega
theorem trk_pre (o : Orb) (m : Int) {a n : Nat} (h : a ≤ n) : trk o m a <+: trk o m n := ⟨trk o (m + (a : Int)) (n - a), by rw [← trk_app]; congr 1; omega⟩
/-- Where a cell stands in the order: by rows, then by columns. -/
def kC (c : Cel) : Nat := 48 * c.1.2 + c.1.1
theorem kC_inj {a b : Cel} (h : kC a = kC b) : a = b := by
  have ha := a.2; have hb := b.2
  unfold kC at h
  exact cel_ext (by omega) (by omega)
theorem kC_lt {a b : Cel} : kC a < kC b ↔ a.1.2 < b.1.2 ∨ a.1.2 = b.1.2 ∧ a.1.1 < b.1.1 := by
  have ha := a.2; have hb := b.2
  unfold kC
  omega
/-- In order, each once. -/
def Srt (l : List Cel) : Prop := l.Pairwise fun a b => kC a < kC b
theorem srt_nodup {l : List Cel} (h : Srt l) : l.Nodup := List.Pairwise.imp (fun {a b} (hab : kC a < kC b) e => by rw [e] at hab; omega) h
theorem srt_one {l m : List Cel} (hl : Srt l) (hm : Srt m) (h : ∀ c, c ∈ l ↔ c ∈ m) : l = m := by
  have hp : l.Perm m := (List.perm_ext_iff_of_nodup (srt_nodup hl) (srt_nodup hm)).2 h
  exact List.Perm.eq_of_pairwise (le := fun a b => kC a < kC b) (fun a b _ _ h1 h2 => by omega) hl hm hp
/-- Where a satellite could be: the cells of all delays, in order, each once. -/
def Could (o : Orb) (t : Int) (l : List Cel) : Prop := Srt l ∧ ∀ c, c ∈ l ↔ c ∈ trk o (t - o.sl) (2 * o.sl + 1).toNat
theorem could_one {o : Orb} {t : Int} {l m : List Cel} (hl : Could o t l) (hm : Could o t m) : l = m := srt_one hl.1 hm.1 fun c => (hl.2 c).trans (hm.2 c).symm
theorem srt_le : ∀ {l : List Cel} (h : l.Nodup) {m : List Cel} (hs : ∀ c ∈ l, c ∈ m), l.length ≤ m.length
  | [], _, m, _ => Nat.zero_le _
  | a :: l, h, m, hs => by
    obtain ⟨h1, h2⟩ := List.nodup_cons.1 h
    have ha : a ∈ m := hs a (List.mem_cons_self ..)
    have ih := srt_le h2 (m := m.erase a) fun c hc => (List.mem_erase_of_ne (fun e => h1 (by rw [← e]; exact hc))).2 (hs c (List.mem_cons_of_mem _ hc))
    rw [List.length_erase_of_mem ha] at ih
    have := List.length_pos_of_mem ha
    rw [List.length_cons]
    omega
theorem could_le {o : Orb} {t : Int} {l : List Cel} (h : Could o t l) : l.length ≤ (2 * o.sl + 1).toNat := by
  have := srt_le (srt_nodup h.1) (m := trk o (t - o.sl) (2 * o.sl + 1).toNat) fun c hc => (h.2 c).1 hc
  rwa [trk_len] at this
theorem could_in {o : Orb} (h : okO o) {t : Int} {l : List Cel} (hl : Could o t l) {d : Int} (h0 : -o.sl ≤ d) (h1 : d ≤ o.sl) : celO o (t - d) ∈ l := by
  refine (hl.2 _).2 (trk_mem.2 ⟨(o.sl - d).toNat, by omega, ?_⟩)
  congr 1
  omega
theorem could_of {o : Orb} (h : okO o) {t : Int} {l : List Cel} (hl : Could o t l) {c : Cel} (hc : c ∈ l) : ∃ d : Int, -o.sl ≤ d ∧ d ≤ o.sl ∧ c = celO o (t - d) := by
  obtain ⟨i, hi, e⟩ := trk_mem.1 ((hl.2 c).1 hc)
  refine ⟨o.sl - (i : Int), by omega, by omega, ?_⟩
  rw [e]
  congr 1
  omega
theorem could_ne {o : Orb} (h : okO o) {t : Int} {l : List Cel} (hl : Could o t l) : 0 < l.length := by
  have hs : 0 ≤ o.sl := by unfold okO at h; omega
  exact List.length_pos_of_mem (could_in h hl (d := 0) (by omega) (by omega))
end Go.Proofs.Ytdomgielpofbhaa
