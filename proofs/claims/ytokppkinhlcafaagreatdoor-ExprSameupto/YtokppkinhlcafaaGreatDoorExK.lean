/-
  The walk of lockstepref07.All of none.
-/
import Derived.Test.YtokppkinhlcafaaGreatDoorExJ
import Derived.Lib.SmallJoins
namespace Go.Proofs.YtokppkinhlcafaaGreatDoor
open Go.RowKit Go.Joins
set_option maxRecDepth 100000

theorem Off.below {b c base : Nat} {w w' : World} (h : Off b c w w') (hb : base ≤ b) (hc : base ≤ c) : Below base w w' :=
  ⟨h.os, h.tape, h.output, by have := h.size; omega, fun k hk => h.block k (by omega) (by omega)⟩
set_option maxHeartbeats 4000000 in
set_option maxRecDepth 1000000 in
theorem refAll_nil (P : Option Addr) (C : Nat) (w : World) : Calls Tryz.prog 10 #[.slice P 0 C] w fun e w' => e = .returned (exV trueE none 0) ∧ Below w.heap.size w w' := by
  have TR := mkHid (fun w => refTruth_any w)
  obtain ⟨W, hW⟩ : ∃ W, W = w.alloc (.cells #[.string ⟨#[]⟩, .slice none 0 0, .int .i64 0, .int .i64 0, .string ⟨#[]⟩, .string ⟨#[]⟩, .string ⟨#[]⟩, .int .i64 0, .int .i64 0] 26) := ⟨_, rfl⟩
  have d0 : W.heap[w.heap.size]? = some (.cells #[.string ⟨#[]⟩, .slice none 0 0, .int .i64 0, .int .i64 0, .string ⟨#[]⟩, .string ⟨#[]⟩, .string ⟨#[]⟩, .int .i64 0, .int .i64 0] 26 (0, 0)) := by rw [hW]; exact heap_alloc_new _ _
  have bA : Below w.heap.size w W := by rw [hW]; exact (Below.refl _ w).alloc (Nat.le_refl _) _
  have D0 := mkHid d0
  have BA := mkHid bA
  have HW := mkHid hW
  clear d0 bA hW
  go_enter Tryz.func10, Tryz.ntmps10
  go_wp2_with (go_at_call 17; rw [← HW.out]; refine (TR.out _).mono ?_; rintro e w1 ⟨rfl, b1⟩;  have d1 := (b1.block _ ((Array.getElem?_eq_some_iff.1 D0.out).1)).trans D0.out; have y0 : w1.cell? ⟨w.heap.size, 0, none⟩ = some (.string ⟨#[]⟩) := (cell_of_block d1 0).trans rfl; have f0 := unfrozen_of_block d1 0; have y1 : w1.cell? ⟨w.heap.size, 1, none⟩ = some (.slice none 0 0) := (cell_of_block d1 1).trans rfl; have f1 := unfrozen_of_block d1 1; have y2 : w1.cell? ⟨w.heap.size, 2, none⟩ = some (.int .i64 0) := (cell_of_block d1 2).trans rfl; have f2 := unfrozen_of_block d1 2; have y3 : w1.cell? ⟨w.heap.size, 3, none⟩ = some (.int .i64 0) := (cell_of_block d1 3).trans rfl; have f3 := unfrozen_of_block d1 3; have y4 : w1.cell? ⟨w.heap.size, 4, none⟩ = some (.string ⟨#[]⟩) := (cell_of_block d1 4).trans rfl; have f4 := unfrozen_of_block d1 4; have y5 : w1.cell? ⟨w.heap.size, 5, none⟩ = some (.string ⟨#[]⟩) := (cell_of_block d1 5).trans rfl; have f5 := unfrozen_of_block d1 5; have y6 : w1.cell? ⟨w.heap.size, 6, none⟩ = some (.string ⟨#[]⟩) := (cell_of_block d1 6).trans rfl; have f6 := unfrozen_of_block d1 6; have y7 : w1.cell? ⟨w.heap.size, 7, none⟩ = some (.int .i64 0) := (cell_of_block d1 7).trans rfl; have f7 := unfrozen_of_block d1 7; have y8 : w1.cell? ⟨w.heap.size, 8, none⟩ = some (.int .i64 0) := (cell_of_block d1 8).trans rfl; have f8 := unfrozen_of_block d1 8; have B1 := mkHid (BA.out.trans (b1.mono BA.out.size)); clear b1 d1)
  refine bodyPost_ret (v := exV trueE none 0) (by simp [results, Tryz.results10, go_sem, trueE, y0, y1, y2, y3, y4, y5, y6, y7, y8]) rfl ?_
  exact ⟨rfl, B1.out.trans (Off.below (b := w.heap.size) (c := w.heap.size) ((((((((((Off.refl w.heap.size w.heap.size w1).set (Or.inl rfl) _).set (Or.inl rfl) _).set (Or.inl rfl) _).set (Or.inl rfl) _).set (Or.inl rfl) _).set (Or.inl rfl) _).set (Or.inl rfl) _).set (Or.inl rfl) _).set (Or.inl rfl) _) (Nat.le_refl _) (Nat.le_refl _))⟩
end Go.Proofs.YtokppkinhlcafaaGreatDoor
