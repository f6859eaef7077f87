/-
  A result's block; bytes that came in (as in layer 2, for a seat that reads none).
-/
import Derived.Test.YtmhmcffejkpmjaaDoorRcH
namespace Go.Proofs.YtmhmcffejkpmjaaDoor
open Go.RowKit Go.Shelf

/-- a result's block -/
structure Res (w : World) (g : Nat) (t n : Int) (s : ByteArray) : Prop where
  lt : g < w.heap.size
  c0 : w.cell? ⟨g, 0, none⟩ = some (.int .i64 t)
  c1 : w.cell? ⟨g, 1, none⟩ = some (.int .i64 n)
  c2 : w.cell? ⟨g, 2, none⟩ = some (.string s)
  f0 : w.frozen? ⟨g, 0, none⟩ = false
  f1 : w.frozen? ⟨g, 1, none⟩ = false
  f2 : w.frozen? ⟨g, 2, none⟩ = false
theorem Res.new (w : World) (t n : Int) (s : ByteArray) : Res (w.alloc (.cells #[.int .i64 t, .int .i64 n, .string s] 23)) w.heap.size t n s := by
  constructor
  all_goals go_simp
theorem Res.below {w w' : World} {g : Nat} {t n : Int} {s : ByteArray} (h : Res w g t n s) (hb : Below w.heap.size w w') : Res w' g t n s := by
  obtain ⟨l, c0, c1, c2, f0, f1, f2⟩ := h
  exact ⟨Nat.lt_of_lt_of_le l hb.size, (hb.cell (p := ⟨g, 0, none⟩) l).trans c0, (hb.cell (p := ⟨g, 1, none⟩) l).trans c1, (hb.cell (p := ⟨g, 2, none⟩) l).trans c2, (hb.frozen (p := ⟨g, 0, none⟩) l).trans f0, (hb.frozen (p := ⟨g, 1, none⟩) l).trans f1, (hb.frozen (p := ⟨g, 2, none⟩) l).trans f2⟩

theorem Res.put {w : World} {g : Nat} {t n : Int} {s : ByteArray} (h : Res w g t n s) (t' n' : Int) (s' : ByteArray) : Res (((w.setCell ⟨g, 0, none⟩ (.int .i64 t')).setCell ⟨g, 1, none⟩ (.int .i64 n')).setCell ⟨g, 2, none⟩ (.string s')) g t' n' s' := by
  obtain ⟨l, c0, c1, c2, f0, f1, f2⟩ := h
  constructor
  all_goals first | (simp; exact l) | go_simp
theorem Res.alloc {w : World} {g : Nat} {t n : Int} {s : ByteArray} (h : Res w g t n s) (o : Obj) : Res (w.alloc o) g t n s := h.below ((Below.refl _ w).alloc (Nat.le_refl _) o)

theorem ownsB.form {w : World} {base : Nat} {v : Value} {l : List UInt8} (h : ownsB w base v l) (hl : l ≠ []) : ∃ g cap, v = .slice (some ⟨g, 0, none⟩) l.length cap ∧ g < w.heap.size ∧ ∀ k x, l[k]? = some x → w.cell? ⟨g, k, none⟩ = some (.int .u8 (x.toNat : Int)) := by
  rcases h.2 with ⟨_, h0⟩ | ⟨g, cap, cur, rfl, _, hcur, _⟩
  · exact absurd (List.eq_nil_of_length_eq_zero h0) hl
  · refine ⟨g, cap, rfl, ?_, fun k x hx => ?_⟩
    · rcases Nat.lt_or_ge g w.heap.size with h | h
      · exact h
      · rw [Array.getElem?_eq_none h] at hcur; cases hcur
    · have hk := (List.getElem?_eq_some_iff.1 hx).1
      have := World.ownsRow.cellAt h k (by omega)
      rw [this]; exact by8_get hx
/-- bytes in memory -/
def byIn (w : World) (p : Option Addr) (l : List UInt8) : Prop := l = [] ∨ ∃ g off, p = some ⟨g, off, none⟩ ∧ g < w.heap.size ∧ ∀ i x, l[i]? = some x → w.cell? ⟨g, off + i, none⟩ = some (.int .u8 (x.toNat : Int))
theorem ownsB.byIn {w : World} {base : Nat} {v : Value} {l : List UInt8} (h : ownsB w base v l) : ∃ P C, v = .slice P l.length C ∧ byIn w P l := by
  rcases h.2 with ⟨rfl, h0⟩ | ⟨g, cap, cur, rfl, hbg, hg, _⟩
  · obtain rfl : l = [] := List.eq_nil_of_length_eq_zero h0
    exact ⟨none, 0, rfl, Or.inl rfl⟩
  · refine ⟨some ⟨g, 0, none⟩, cap, rfl, Or.inr ⟨g, 0, rfl, ?_, fun i x hx => ?_⟩⟩
    · rw [Array.getElem?_eq_some_iff] at hg; exact hg.1
    · have := World.ownsRow.cellAt h i (by have := (List.getElem?_eq_some_iff.1 hx).1; omega)
      rw [Nat.zero_add, this]; exact by8_get hx
end Go.Proofs.YtmhmcffejkpmjaaDoor
