/-
  The walk of rowcode.Row: the bytes of a row.
-/
import Derived.Test.YtmhmcffejkpmjaaDoorRcF
namespace Go.Proofs.YtmhmcffejkpmjaaDoor
open Go.RowKit Go.Shelf

/-- the first error of some values -/
def errs : List Va → Int
  | [] => 0
  | v :: l => if v.chk = 0 then errs l else v.chk
theorem errs_pass {v : Va} {l : List Va} (h : v.chk = 0) : errs (v :: l) = errs l := by simp [errs, h]
theorem errs_stop {v : Va} {l : List Va} (h : ¬ v.chk = 0) : errs (v :: l) = v.chk := by simp [errs, h]
/-- the values of a row lie behind its place -/
def rowIn (w : World) (p : Option Addr) (l : List Va) : Prop := l = [] ∨ ∃ g off, p = some ⟨g, off, none⟩ ∧ g < w.heap.size ∧
  ∀ i v, l[i]? = some v → w.cell? ⟨g, off + i * 3, none⟩ = some (.int .i64 v.ty) ∧ w.cell? ⟨g, off + i * 3 + 1, none⟩ = some (.int .i64 v.n) ∧ w.cell? ⟨g, off + i * 3 + 2, none⟩ = some (.string v.s)
theorem rowIn.below {w w' : World} {p : Option Addr} {l : List Va} (h : rowIn w p l) (hb : Below w.heap.size w w') : rowIn w' p l := by
  rcases h with h | ⟨g, off, h1, h2, h3⟩
  · exact Or.inl h
  · refine Or.inr ⟨g, off, h1, Nat.lt_of_lt_of_le h2 hb.size, fun i v hv => ?_⟩
    obtain ⟨c0, c1, c2⟩ := h3 i v hv
    exact ⟨(hb.cell (p := ⟨g, off + i * 3, none⟩) h2).trans c0, (hb.cell (p := ⟨g, off + i * 3 + 1, none⟩) h2).trans c1, (hb.cell (p := ⟨g, off + i * 3 + 2, none⟩) h2).trans c2⟩
theorem ownsB.below {w w' : World} {base : Nat} {v : Value} {l : List UInt8} (h : ownsB w base v l) (hb : Below w.heap.size w w') : ownsB w' base v l :=
  World.ownsRow.kept h (row := none) ⟨hb.os, hb.tape, hb.output, hb.size, fun k hk _ => hb.block k hk⟩ (by cases hv : v.ownBlock <;> simp)
def rowsB (l : List Va) : List UInt8 := l.flatMap valB
theorem rowsB_next {l : List Va} {k : Nat} {x : Va} (h : l[k]? = some x) : rowsB (l.take (k + 1)) = rowsB (l.take k) ++ valB x := by
  rw [List.take_add_one, h]; simp [rowsB]
theorem rowsB_len : ∀ l : List Va, (∀ v ∈ l, v.chk = 0) → (rowsB l).length ≤ 8195 * l.length
  | [], _ => by simp [rowsB]
  | v :: l, h => by
    have h1 := rowsB_len l (fun x hx => h x (List.mem_cons_of_mem _ hx))
    have h2 := valB_len (h v List.mem_cons_self)
    have e : rowsB (v :: l) = valB v ++ rowsB l := rfl
    rw [e, List.length_append, List.length_cons]; omega
/-- what is wrong with a row -/
def rowE (l : List Va) : Int := if 16 < l.length then 2 else errs l
/-- the bytes of a row -/
def rowB (l : List Va) : List UInt8 := rowsB l ++ [0]

end Go.Proofs.YtmhmcffejkpmjaaDoor
