/-
  One condition that says all, as plain data; how a condition of two lies in memory.
-/
import Derived.Test.YtokppkinhlcafaaGreatDoorExH
namespace Go.Proofs.YtokppkinhlcafaaGreatDoor
open Go.RowKit Go.Joins
set_option maxRecDepth 100000

/-- both are to hold -/
def andE (x y : Ex) : Ex := { op := bAnd, vt := 0, vn := 0, vs := ⟨#[]⟩, nm := ⟨#[]⟩, of := ⟨#[]⟩, ty := 0, at_ := 0, parts := [x, y] }
/-- what is always true -/
def trueE : Ex := { op := ⟨#[118, 97, 108, 117, 101]⟩, vt := 4, vn := 1, vs := ⟨#[]⟩, nm := ⟨#[]⟩, of := ⟨#[]⟩, ty := 0, at_ := 0, parts := [] }
/-- all are to hold -/
def exAll : List Ex → Ex
  | [] => trueE
  | x :: r => r.foldl andE x
/-- those up to one -/
def exUpto (l : List Ex) (k : Nat) : Ex := exAll (l.take k)
theorem exUpto_one {l : List Ex} {x : Ex} (h : l[0]? = some x) : exUpto l 1 = x := by
  cases l with
  | nil => cases h
  | cons y r => cases h; rfl
theorem exUpto_next {l : List Ex} {k : Nat} {x : Ex} (hk : 0 < k) (h : l[k]? = some x) : exUpto l (k + 1) = andE (exUpto l k) x := by
  unfold exUpto
  rw [List.take_add_one, h]
  cases l with
  | nil => cases h
  | cons y r =>
    cases k with
    | zero => omega
    | succ k =>
      simp only [List.take_succ_cons, List.cons_append, Option.toList_some, exAll, List.foldl_append, List.foldl_cons, List.foldl_nil]
theorem exUpto_all {l : List Ex} : exUpto l l.length = exAll l := by
  unfold exUpto
  rw [List.take_length]
theorem exG_and {x y : Ex} : exG (andE x y) := by
  refine ⟨?_, ?_, ?_, ?_, ?_⟩ <;> simp [andE]
theorem exG_true : exG trueE := by
  refine ⟨?_, ?_, ?_, ?_, ?_⟩ <;> simp [trueE]
/-- a condition of two, its parts in a block of their own -/
theorem and_in {w : World} {S : Nat → Prop} {n b : Nat} {x y : Ex} {Px Py : Option Addr} {Cx Cy : Nat} (hx : exIn w S n x (exC x Px Cx)) (hy : exIn w S n y (exC y Py Cy)) (hb : S b) (h1 : ∀ (r : Nat) (u : Value), (exC x Px Cx)[r]? = some u → w.cell? ⟨b, r, none⟩ = some u) (h2 : ∀ (r : Nat) (u : Value), (exC y Py Cy)[r]? = some u → w.cell? ⟨b, 9 + r, none⟩ = some u) :
    exIn w S (n + 1) (andE x y) (exC (andE x y) (some ⟨b, 0, none⟩) 2) := by
  refine ⟨some ⟨b, 0, none⟩, 2, rfl, exG_and, (fun e => by cases e), Or.inr ⟨b, 0, rfl, hb, fun i p hp => ?_⟩⟩
  match i, hp with
  | 0, hp =>
    cases hp
    exact ⟨_, hx, fun r u hu => by have := h1 r u hu; simpa using this⟩
  | 1, hp =>
    cases hp
    exact ⟨_, hy, fun r u hu => by have := h2 r u hu; simpa using this⟩
  | i + 2, hp => simp [andE] at hp
theorem true_in {w : World} {S : Nat → Prop} {n : Nat} : exIn w S (n + 1) trueE (exC trueE none 0) := ⟨none, 0, rfl, exG_true, fun _ => ⟨rfl, rfl⟩, Or.inl rfl⟩
end Go.Proofs.YtokppkinhlcafaaGreatDoor
