/-
  The walks of value.Check and value.checkEach: what is wrong with a value, with the first of some.
-/
import Derived.Test.YtjmlpgdgbgcmaaaGreatDoorChkRef
namespace Go.Proofs.YtjmlpgdgbgcmaaaGreatDoor
open Go.RowKit Go.Shelf

/-- a value: its type, its number, its text -/
structure Va where
  ty : Int
  n : Int
  s : ByteArray
def Va.chk (v : Va) : Int := YtjmlpgdgbgcmaaaGreatDoor.chk v.ty v.n v.s
/-- the values lie in a row -/
def valsAt (w : World) (g : Nat) (l : List Va) : Prop :=
  g < w.heap.size ∧ ∀ i v, l[i]? = some v → w.cell? ⟨g, i * 3, none⟩ = some (.int .i64 v.ty) ∧ w.cell? ⟨g, i * 3 + 1, none⟩ = some (.int .i64 v.n) ∧ w.cell? ⟨g, i * 3 + 2, none⟩ = some (.string v.s)
theorem valsAt.below {w w' : World} {g : Nat} {l : List Va} (h : valsAt w g l) (hb : Below w.heap.size w w') : valsAt w' g l :=
  ⟨Nat.lt_of_lt_of_le h.1 hb.size, fun i v hv => by
    have := h.2 i v hv
    exact ⟨(hb.cell (p := ⟨g, i * 3, none⟩) h.1).trans this.1, (hb.cell (p := ⟨g, i * 3 + 1, none⟩) h.1).trans this.2.1, (hb.cell (p := ⟨g, i * 3 + 2, none⟩) h.1).trans this.2.2⟩⟩
/-- the first error of some values -/
def errs : List Va → Int
  | [] => 0
  | v :: l => if v.chk = 0 then errs l else v.chk
theorem errs_pass {v : Va} {l : List Va} (h : v.chk = 0) : errs (v :: l) = errs l := by simp [errs, h]
theorem errs_stop {v : Va} {l : List Va} (h : ¬ v.chk = 0) : errs (v :: l) = v.chk := by simp [errs, h]
theorem drop_at {α : Type} {l : List α} {n : Nat} {x : α} (h : l[n]? = some x) : l.drop n = x :: l.drop (n + 1) := by
  obtain ⟨hn, rfl⟩ := List.getElem?_eq_some_iff.1 h
  exact List.drop_eq_getElem_cons hn

end Go.Proofs.YtjmlpgdgbgcmaaaGreatDoor
