/- A loop in a great frame: the slots that its rounds write, as one function. -/
import Derived.WalkKit
import Derived.ProofKit
import Derived.Below
import Derived.OrdersHeld
namespace Go.Proofs.YtipfafglbkbafaaDoor
open Go.RowKit
set_option linter.unusedVariables false
set_option linter.unusedSimpArgs false
/-- The list l, with f's values where p says so. -/
def msk (p : Nat → Bool) (f : Nat → Value) : Nat → List Value → List Value
  | _, [] => []
  | i, x :: l => (bif p i then f i else x) :: msk p f (i + 1) l
theorem msk_self (p : Nat → Bool) (g : Nat → Value) : ∀ (l : List Value) (i : Nat), (∀ k, k < l.length → g (i + k) = l.getD k undef) → msk p g i l = l
  | [], _, _ => rfl
  | x :: l, i, h => by
    have h0 : g i = x := by simpa using h 0 (by simp)
    have ih := msk_self p g l (i + 1) (fun k hk => by
      have := h (k + 1) (by simp; omega)
      rw [show i + 1 + k = i + (k + 1) by omega, this]; rfl)
    unfold msk
    rw [ih, h0]
    cases p i <;> rfl
/-- The round's end. -/
def REnd (l' : (Nat → Value) → List Value) (rel : (Nat → Value) → World → Prop) (s : Nat) (nu : Value → Nat) (m : Nat) (a : Act) (w : World) : Prop := ∃ f, a = ⟨(l' f).toArray, []⟩ ∧ rel f w ∧ nu (f s) < m
theorem rend_mk {l' : (Nat → Value) → List Value} {rel : (Nat → Value) → World → Prop} {s : Nat} {nu : Value → Nat} {m : Nat} {L : List Value} {w : World} (hf : L = l' (fun n => L.getD n undef)) (hr : rel (fun n => L.getD n undef) w) (hn : nu (L.getD s undef) < m) :
    REnd l' rel s nu m ⟨L.toArray, []⟩ w := ⟨_, by rw [← hf], hr, hn⟩
theorem wp_loop_mask {P : Program} {c : Code} {Q : Exit → Act → World → Prop} {l : List Value} {w : World} (p : Nat → Bool) (s : Nat) (rel : (Nat → Value) → World → Prop) (nu : Value → Nat) (l' : (Nat → Value) → List Value)
    (hm : ∀ f, msk p f 0 l = l' f) (hs : ∀ f, (l' f).getD s undef = f s) (h0 : rel (fun n => l.getD n undef) w)
    (h : ∀ E : Nat → Act → World → Prop, (∀ m L w, L = l' (fun n => L.getD n undef) → rel (fun n => L.getD n undef) w → nu (L.getD s undef) < m → E m ⟨L.toArray, []⟩ w) → ∀ f w', rel f w' → c.wp P (Exit.then (E (nu (f s))) Q) ⟨(l' f).toArray, []⟩ w') : (Code.loop c).wp P Q ⟨l.toArray, []⟩ w := by
  have hg : ∀ f : Nat → Value, (⟨(l' f).toArray, []⟩ : Act).tmps.getD s undef = f s := fun f => by
    have := hs f
    rw [← this]
    simp [List.getD_eq_getElem?_getD]
  refine wp_loop (fun a w => ∃ f, a = ⟨(l' f).toArray, []⟩ ∧ rel f w) (fun a _ => nu (a.tmps.getD s undef)) ⟨fun n => l.getD n undef, ?_, h0⟩ ?_
  · rw [← hm, msk_self p _ l 0 (fun k _ => by rw [Nat.zero_add])]
  · rintro a w' ⟨f, rfl, hr⟩
    refine Code.wp_mono ?_ (h (REnd l' rel s nu) (fun m L w h1 h2 h3 => rend_mk h1 h2 h3) f w' hr)
    intro e a' w'' he
    cases e with
    | normal =>
      obtain ⟨f', rfl, hr', hn⟩ := he
      refine ⟨⟨f', rfl, hr'⟩, ?_⟩
      show nu _ < nu _
      rw [hg, hg]; exact hn
    | _ => exact he
/-- One operation of a drawn region that reads alone. -/
theorem tk {P : Program} {md : Region.Mode} {ops : Array Oper} {Q : Exit → Act → World → Prop} {S : World → Prop} {oi : Oper} {v : Value} {fuel : Nat} {listed : Array Bool} {a : Act} {w : World} (i : Nat) (hi : ops[i]? = some oi)
    (hc : (Region.noSelect ops && (Region.free md ops listed i && (Region.ready md ops listed).contains i)) = true) (hQ : ∀ c a w, Q (.panic c) (a.put oi.dst v) w → Q (.panic c) a w)
    (hy : YieldsIf P ops S oi v a) (hS : S w) (h : wpAnyH P md ops Q S fuel (listed.setIfInBounds i true) (a.put oi.dst v) w) : wpAnyH P md ops Q S (fuel + 1) listed a w := by
  rw [Bool.and_eq_true, Bool.and_eq_true] at hc
  exact wpAnyH_take hi hc.1 hc.2.1 hc.2.2 hQ hy hS h
theorem msk_nil (p : Nat → Bool) (f : Nat → Value) (i : Nat) : msk p f i [] = [] := rfl
theorem msk_cons (p : Nat → Bool) (f : Nat → Value) (i : Nat) (x : Value) (l : List Value) : msk p f i (x :: l) = (bif p i then f i else x) :: msk p f (i + 1) l := rfl
end Go.Proofs.YtipfafglbkbafaaDoor
