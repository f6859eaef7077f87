/-
  What a crash leaves of the files: names, beginnings, what stood fast; and a second crash changes nothing.
-/
import Derived.Test.YtdiehlioemmakaaGeDpx
namespace Go.Proofs.Ytdiehlioemmakaa
open Go.RowKit Go.Maps Go.Joins

theorem cutA_le {keeps : List Int} {t : Nat} {x : List UInt8 × Nat} (h : x.2 ≤ x.1.length) : x.2 ≤ cutA keeps t x ∧ cutA keeps t x ≤ x.1.length := by
  unfold cutA
  split
  · omega
  · unfold kp
    have := Nat.mod_lt (max 0 (keeps.getD (t % keeps.length) 0)).toNat (show 0 < x.1.length - x.2 + 1 by omega)
    omega
/-- a file behind a crash -/
def cutOf (p q : List UInt8 × (List UInt8 × Nat)) : Prop := q.1 = p.1 ∧ p.2.1.take q.2.1.length = q.2.1 ∧ p.2.2 ≤ q.2.1.length ∧ q.2.2 = q.2.1.length
theorem cuts_of (keeps : List Int) : ∀ (t : Nat) (xs : List (List UInt8 × (List UInt8 × Nat))), (∀ p ∈ xs, p.2.2 ≤ p.2.1.length) → (cutsA keeps t xs).length = xs.length ∧ ∀ (i : Nat) (p q : List UInt8 × (List UInt8 × Nat)), xs[i]? = some p → (cutsA keeps t xs)[i]? = some q → cutOf p q
  | _, [], _ => ⟨rfl, fun i p q h => by simp at h⟩
  | t, x :: r, h => by
    have hx := h x (List.mem_cons_self ..)
    have hr := fun p hp => h p (List.mem_cons_of_mem _ hp)
    unfold cutsA
    split
    · rename_i e
      obtain ⟨h1, h2⟩ := cuts_of keeps t r hr
      refine ⟨by simp [h1], fun i p q hp hq => ?_⟩
      cases i with
      | zero =>
        simp at hp hq
        subst hp; subst hq
        exact ⟨rfl, List.take_length, hx, e⟩
      | succ i => exact h2 i p q (by simpa using hp) (by simpa using hq)
    · obtain ⟨h1, h2⟩ := cuts_of keeps (t + 1) r hr
      refine ⟨by simp [h1], fun i p q hp hq => ?_⟩
      cases i with
      | zero =>
        simp at hp hq
        subst hp; subst hq
        have hc := cutA_le (keeps := keeps) (t := t) hx
        have hl : (x.2.1.take (cutA keeps t x.2)).length = cutA keeps t x.2 := by rw [List.length_take]; omega
        refine ⟨rfl, ?_, ?_, ?_⟩
        · show x.2.1.take (x.2.1.take (cutA keeps t x.2)).length = _
          rw [hl]
        · show x.2.2 ≤ (x.2.1.take (cutA keeps t x.2)).length
          rw [hl]; exact hc.1
        · show cutA keeps t x.2 = (x.2.1.take (cutA keeps t x.2)).length
          rw [hl]
      | succ i => exact h2 i p q (by simpa using hp) (by simpa using hq)
theorem cuts_fast (keeps : List Int) (t : Nat) (xs : List (List UInt8 × (List UInt8 × Nat))) (h : ∀ p ∈ xs, p.2.2 ≤ p.2.1.length) : ∀ p ∈ cutsA keeps t xs, p.2.2 = p.2.1.length := fun p hp => by
  obtain ⟨i, hi⟩ := List.getElem?_of_mem hp
  obtain ⟨h1, h2⟩ := cuts_of keeps t xs h
  have hl := (List.getElem?_eq_some_iff.1 hi).1
  obtain ⟨x, hx⟩ : ∃ x, xs[i]? = some x := ⟨xs[i]'(by omega), List.getElem?_eq_getElem _⟩
  exact (h2 i x p hx hi).2.2.2
end Go.Proofs.Ytdiehlioemmakaa

