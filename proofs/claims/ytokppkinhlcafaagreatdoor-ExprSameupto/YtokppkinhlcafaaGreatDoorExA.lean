/-
  Expressions as trees, and how they lie in memory.
-/
import Derived.Test.YtokppkinhlcafaaGreatDoorProg
import Derived.ProofKit
import Derived.OpenShut
import Derived.Deep.Slices
import Derived.Deep.Strs
import Derived.Lib.SmallJoins
import Derived.OwnWalk
import Derived.Maps.AppendAt
import Derived.Below
import Derived.WalkKit
import Derived.WalkSpells
import Derived.WalkLawsBesides
import Derived.Deep.RegionHeld3
namespace Go.Proofs.YtokppkinhlcafaaGreatDoor
open Go.RowKit Go.Joins
set_option maxRecDepth 100000

/-- what is not looked at is kept from the walk -/
structure Ex where
  op : ByteArray
  vt : Int
  vn : Int
  vs : ByteArray
  nm : ByteArray
  of : ByteArray
  ty : Int
  at_ : Int
  parts : List Ex
/-- its nine cells -/
def exC (e : Ex) (P : Option Addr) (C : Nat) : List Value := [.string e.op, .slice P e.parts.length C, .int .i64 e.vt, .int .i64 e.vn, .string e.vs, .string e.nm, .string e.of, .int .i64 e.ty, .int .i64 e.at_]
/-- as it is handed over -/
abbrev exV (e : Ex) (P : Option Addr) (C : Nat) : Value := .agg #[.string e.op, .slice P e.parts.length C, .int .i64 e.vt, .int .i64 e.vn, .string e.vs, .string e.nm, .string e.of, .int .i64 e.ty, .int .i64 e.at_]
/-- its numbers are of 64 bits, its list is not too long -/
def exG (e : Ex) : Prop := e.parts.length ≤ 100000000 ∧ (-9223372036854775808 ≤ e.vt ∧ e.vt ≤ 9223372036854775807) ∧ (-9223372036854775808 ≤ e.vn ∧ e.vn ≤ 9223372036854775807) ∧ (-9223372036854775808 ≤ e.ty ∧ e.ty ≤ 9223372036854775807) ∧ (-9223372036854775808 ≤ e.at_ ∧ e.at_ ≤ 9223372036854775807)
/-- nine cells in memory that say an expression, its Parts' in blocks of S -/
def exIn (w : World) (S : Nat → Prop) : Nat → Ex → List Value → Prop
  | 0, _, _ => False
  | n + 1, e, cs => ∃ P C, cs = exC e P C ∧ exG e ∧ (P = none → C = 0 ∧ e.parts = []) ∧ (e.parts = [] ∨ ∃ g o, P = some ⟨g, o, none⟩ ∧ S g ∧ ∀ (i : Nat) (p : Ex), e.parts[i]? = some p → ∃ cs', exIn w S n p cs' ∧ ∀ (r : Nat) (u : Value), cs'[r]? = some u → w.cell? ⟨g, o + i * 9 + r, none⟩ = some u)
theorem exIn.len {w : World} {S : Nat → Prop} : ∀ {n : Nat} {e : Ex} {cs : List Value}, exIn w S n e cs → cs.length = 9
  | 0, _, _, h => h.elim
  | n + 1, e, cs, h => by
    obtain ⟨P, C, rfl, _⟩ := h
    rfl
theorem exIn.map {w w' : World} {S S' : Nat → Prop} (hc : ∀ (g o : Nat) (u : Value), S g → w.cell? ⟨g, o, none⟩ = some u → w'.cell? ⟨g, o, none⟩ = some u) (hs : ∀ g, S g → S' g) : ∀ {n : Nat} {e : Ex} {cs : List Value}, exIn w S n e cs → exIn w' S' n e cs
  | 0, _, _, h => h.elim
  | n + 1, e, cs, h => by
    obtain ⟨P, C, e1, hG, hP, h⟩ := h
    refine ⟨P, C, e1, hG, hP, ?_⟩
    rcases h with h | ⟨g, o, e2, hg, h⟩
    · exact Or.inl h
    · refine Or.inr ⟨g, o, e2, hs g hg, fun i p hp => ?_⟩
      obtain ⟨cs', h1, h2⟩ := h i p hp
      exact ⟨cs', exIn.map hc hs h1, fun r u hr => hc _ _ _ hg (h2 r u hr)⟩
theorem exIn.grow {w w' : World} {S : Nat → Prop} {n : Nat} {e : Ex} {cs : List Value} (h : exIn w S n e cs) (hg : w.grownBy w' none) : exIn w' S n e cs :=
  exIn.map (fun _ _ _ _ hc => hg.cell hc (by simp)) (fun _ h => h) h
theorem exIn.more {w : World} {S S' : Nat → Prop} {n : Nat} {e : Ex} {cs : List Value} (h : exIn w S n e cs) (hs : ∀ g, S g → S' g) : exIn w S' n e cs :=
  exIn.map (fun _ _ _ _ hc => hc) hs h
theorem exIn.kept {w w' : World} {S : Nat → Prop} {row : Option Nat} {n : Nat} {e : Ex} {cs : List Value} (h : exIn w S n e cs) (hg : w.grownBy w' row) (hs : ∀ g, S g → some g ≠ row) : exIn w' S n e cs :=
  exIn.map (fun g _ _ hS hc => hg.cell hc (hs g hS)) (fun _ h => h) h
theorem exIn.below {w w' : World} {S : Nat → Prop} {n : Nat} {e : Ex} {cs : List Value} (h : exIn w S n e cs) (hb : Below w.heap.size w w') : exIn w' S n e cs :=
  exIn.map (fun g o _ _ hc => (hb.cell (p := ⟨g, o, none⟩) (World.block_lt_of_cell? w _ hc)).trans hc) (fun _ h => h) h
theorem exIn.up {w : World} {S : Nat → Prop} : ∀ {n : Nat} {e : Ex} {cs : List Value}, exIn w S n e cs → exIn w S (n + 1) e cs
  | 0, _, _, h => h.elim
  | n + 1, e, cs, h => by
    obtain ⟨P, C, e1, hG, hP, h⟩ := h
    refine ⟨P, C, e1, hG, hP, ?_⟩
    rcases h with h | ⟨g, o, e2, hg, h⟩
    · exact Or.inl h
    · refine Or.inr ⟨g, o, e2, hg, fun i p hp => ?_⟩
      obtain ⟨cs', h1, h2⟩ := h i p hp
      exact ⟨cs', h1.up, h2⟩
theorem exIn.le {w : World} {S : Nat → Prop} {n m : Nat} {e : Ex} {cs : List Value} (h : exIn w S n e cs) (hm : n ≤ m) : exIn w S m e cs := by
  induction hm with
  | refl => exact h
  | step _ ih => exact ih.up
/-- how many expressions, and how long their lists are, all together -/
def exN (e : Ex) : Nat := 1 + (e.parts.attach.map fun ⟨p, _⟩ => exN p).sum
  termination_by SizeOf.sizeOf e
  decreasing_by cases e; simp_wf; rename_i h; have := List.sizeOf_lt_of_mem h; simp at *; omega
theorem exN_parts (e : Ex) : exN e = 1 + (e.parts.map exN).sum := by
  rw [exN]
  congr 2
  simp only [List.map_attach_eq_pmap, List.pmap_eq_map]
end Go.Proofs.YtokppkinhlcafaaGreatDoor
