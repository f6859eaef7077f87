/-
  All of any list, of expr and of the document.
-/
import Derived.Test.YtokppkinhlcafaaGreatDoorEyD
namespace Go.Proofs.YtokppkinhlcafaaGreatDoor
open Go.RowKit Go.Joins
set_option maxRecDepth 100000

/-- a list of expressions as it is handed over -/
def lIn (w : World) (S : Nat → Prop) (n : Nat) (l : List Ex) (P : Option Addr) (C : Nat) : Prop := (P = none → C = 0 ∧ l = []) ∧ (l = [] ∨ ∃ g o, P = some ⟨g, o, none⟩ ∧ ∀ (i : Nat) (p : Ex), l[i]? = some p → ∃ Pp Cp, exIn w S n p (exC p Pp Cp) ∧ ∀ (r : Nat) (u : Value), (exC p Pp Cp)[r]? = some u → w.cell? ⟨g, o + i * 9 + r, none⟩ = some u)
theorem lIn.below {w w' : World} {S : Nat → Prop} {n : Nat} {l : List Ex} {P : Option Addr} {C : Nat} (h : lIn w S n l P C) (hb : Below w.heap.size w w') : lIn w' S n l P C := by
  refine ⟨h.1, ?_⟩
  rcases h.2 with h2 | ⟨g, o, rfl, h2⟩
  · exact Or.inl h2
  · exact Or.inr ⟨g, o, rfl, fun i p hp => by
      obtain ⟨Pp, Cp, h3, h4⟩ := h2 i p hp
      exact ⟨Pp, Cp, h3.below hb, fun r u hr => cellNext hb (h4 r u hr)⟩⟩
/-- what All answers -/
def AlQ (w : World) (m : Nat) (l : List Ex) (e : Ending) (w' : World) : Prop := ∃ P' C', e = .returned (exV (exAll l) P' C') ∧ exIn w' (fun _ => True) m (exAll l) (exC (exAll l) P' C') ∧ Below w.heap.size w w'
theorem All_any (n : Nat) (S : Nat → Prop) (l : List Ex) (P : Option Addr) (C : Nat) (w : World) (hl : l.length ≤ 100000000) (hS : ∀ q, S q → q < w.heap.size) (h : lIn w S n l P C) : Calls Tryz.prog 9 #[.slice P l.length C] w fun e w' => AlQ w (n + l.length + 1) l e w' := by
  rcases h.2 with rfl | ⟨g, o, rfl, h2⟩
  · exact (All_nil P C w).mono (fun e w' hq => ⟨none, 0, hq.1, true_in, hq.2⟩)
  · cases l with
    | nil => exact (All_nil _ C w).mono (fun e w' hq => ⟨none, 0, hq.1, true_in, hq.2⟩)
    | cons x r => exact (All_some n S (x :: r) g o C w (by simp) hl hS h2).mono (fun e w' hq => by
        obtain ⟨P', C', h3, h4, h5⟩ := hq
        exact ⟨P', C', h3, (h4.more (fun _ _ => trivial)).up, h5⟩)
theorem refAll_any (n : Nat) (S : Nat → Prop) (l : List Ex) (P : Option Addr) (C : Nat) (w : World) (hl : l.length ≤ 100000000) (hS : ∀ q, S q → q < w.heap.size) (h : lIn w S n l P C) : Calls Tryz.prog 10 #[.slice P l.length C] w fun e w' => AlQ w (n + l.length + 1) l e w' := by
  rcases h.2 with rfl | ⟨g, o, rfl, h2⟩
  · exact (refAll_nil P C w).mono (fun e w' hq => ⟨none, 0, hq.1, true_in, hq.2⟩)
  · cases l with
    | nil => exact (refAll_nil _ C w).mono (fun e w' hq => ⟨none, 0, hq.1, true_in, hq.2⟩)
    | cons x r => exact (refAll_some n S (x :: r) g o C w (by simp) hl hS h2).mono (fun e w' hq => by
        obtain ⟨P', C', h3, h4, h5⟩ := hq
        exact ⟨P', C', h3, (h4.more (fun _ _ => trivial)).up, h5⟩)
/-- copies in a row of their own, as a list that is handed over -/
theorem Cop.lin {W wr : World} {n : Nat} {l : List Ex} {P : Option Addr} {C : Nat} (h : Cop W wr n l.length l (.slice P l.length C)) : lIn wr (fun q => q < wr.heap.size) n l P C := by
  obtain ⟨xs, ho, he⟩ := h
  rcases ho.2 with ⟨e, e2⟩ | ⟨g, cap, cur, e, _⟩
  · injection e with e1 _ e3
    have hl := List.eq_nil_of_length_eq_zero e2
    exact ⟨fun _ => ⟨e3, hl⟩, Or.inl hl⟩
  · cases e
    refine ⟨(fun e => by cases e), Or.inr ⟨g, 0, rfl, fun i p hp => ?_⟩⟩
    have hil := (List.getElem?_eq_some_iff.1 hp).1
    obtain ⟨Pp, Cp, h1, h2⟩ := he i p hil hp
    refine ⟨Pp, Cp, h1.more (fun q hq => hq.2.1), fun r u hr => ?_⟩
    have hrl : r < 9 := (List.getElem?_eq_some_iff.1 hr).1
    rw [show 0 + i * 9 + r = i * 9 + r by omega, ho.cellAt _ (by omega)]
    exact h2 r u hr
end Go.Proofs.YtokppkinhlcafaaGreatDoor
