/-
  The walk of locksteplaw02.lives.
-/
import Derived.Test.YtjdnbgnjgicbbaaDoorRcI
import Derived.Laws.IdiomStrings
namespace Go.Proofs.YtjdnbgnjgicbbaaDoor
open Go.RowKit Go.Shelf

theorem ownsB.form {w : World} {base : Nat} {v : Value} {l : List UInt8} (h : ownsB w base v l) (hl : l ≠ []) : ∃ g cap, v = .slice (some ⟨g, 0, none⟩) l.length cap ∧ g < w.heap.size ∧ ∀ k x, l[k]? = some x → w.cell? ⟨g, k, none⟩ = some (.int .u8 (x.toNat : Int)) := by
  rcases h.2 with ⟨_, h0⟩ | ⟨g, cap, cur, rfl, _, hcur, _⟩
  · exact absurd (List.eq_nil_of_length_eq_zero h0) hl
  · refine ⟨g, cap, rfl, ?_, fun k x hx => ?_⟩
    · rcases Nat.lt_or_ge g w.heap.size with h | h
      · exact h
      · rw [Array.getElem?_eq_none h] at hcur; cases hcur
    · have hk := (List.getElem?_eq_some_iff.1 hx).1
      have := World.ownsRow.cellAt h k (by omega)
      rw [this]; exact by8_get hx
end Go.Proofs.YtjdnbgnjgicbbaaDoor
