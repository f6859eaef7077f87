/-
  The walk of lockstepref01.Truth; nine cells of a box stored anew.
-/
import Derived.Test.YtokppkinhlcafaaGreatDoorExI
namespace Go.Proofs.YtokppkinhlcafaaGreatDoor
open Go.RowKit Go.Joins
set_option maxRecDepth 100000

set_option maxHeartbeats 2000000 in
set_option maxRecDepth 1000000 in
theorem refTruth_any (w : World) : Calls Tryz.prog 17 #[.bool true] w fun e w' => e = .returned (.agg #[.int .i64 4, .int .i64 1, .string ⟨#[]⟩]) ∧ Below w.heap.size w w' := by
  go_enter Tryz.func17, Tryz.ntmps17
  go_wp2_with fail
  refine bodyPost_ret (v := .agg #[.int .i64 4, .int .i64 1, .string ⟨#[]⟩]) (by simp [results, Tryz.results17, go_sem]) rfl ?_
  exact ⟨rfl, ((Below.refl _ w).alloc (Nat.le_refl _) _).alloc (by simp) _⟩
theorem heap_set_inX {w : World} {b o : Nat} {cs : Array Value} {t : TypeId} {z : Nat × Nat} {v : Value} (h : w.heap[b]? = some (.cells cs t z)) : (w.setCell ⟨b, o, none⟩ v).heap[b]? = some (.cells (cs.setIfInBounds o v) t z) := by
  have hb : b < w.heap.size := (Array.getElem?_eq_some_iff.1 h).1
  have e : w.heap[b] = .cells cs t z := by have := Array.getElem?_eq_some_iff.1 h; exact this.2
  simp [World.setCell, Array.getElem_modify, hb, e]
end Go.Proofs.YtokppkinhlcafaaGreatDoor
