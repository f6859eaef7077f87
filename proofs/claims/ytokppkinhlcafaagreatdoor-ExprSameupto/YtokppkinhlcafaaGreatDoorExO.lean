/-
  expr.truth, expr.All of none; the condition so far with one more.
-/
import Derived.Test.YtokppkinhlcafaaGreatDoorExN
import Derived.Lib.SmallJoins
namespace Go.Proofs.YtokppkinhlcafaaGreatDoor
open Go.RowKit Go.Joins
set_option maxRecDepth 100000

set_option maxHeartbeats 2000000 in
set_option maxRecDepth 1000000 in
theorem exTruth_any (w : World) : Calls Tryz.prog 16 #[.bool true] w fun e w' => e = .returned (.agg #[.int .i64 4, .int .i64 1, .string ⟨#[]⟩]) ∧ Below w.heap.size w w' := by
  go_enter Tryz.func16, Tryz.ntmps16
  go_wp2_with fail
  refine bodyPost_ret (v := .agg #[.int .i64 4, .int .i64 1, .string ⟨#[]⟩]) (by simp [results, Tryz.results16, go_sem]) rfl ?_
  exact ⟨rfl, (Below.refl _ w).alloc (Nat.le_refl _) _⟩
set_option maxHeartbeats 4000000 in
set_option maxRecDepth 1000000 in
theorem All_nil (P : Option Addr) (C : Nat) (w : World) : Calls Tryz.prog 9 #[.slice P 0 C] w fun e w' => e = .returned (exV trueE none 0) ∧ Below w.heap.size w w' := by
  have TR := mkHid (fun w => exTruth_any w)
  obtain ⟨W, hW⟩ : ∃ W, W = w.alloc (.cells #[.string ⟨#[]⟩, .slice none 0 0, .int .i64 0, .int .i64 0, .string ⟨#[]⟩, .string ⟨#[]⟩, .string ⟨#[]⟩, .int .i64 0, .int .i64 0] 26) := ⟨_, rfl⟩
  have d0 : W.heap[w.heap.size]? = some (.cells #[.string ⟨#[]⟩, .slice none 0 0, .int .i64 0, .int .i64 0, .string ⟨#[]⟩, .string ⟨#[]⟩, .string ⟨#[]⟩, .int .i64 0, .int .i64 0] 26 (0, 0)) := by rw [hW]; exact heap_alloc_new _ _
  have bA : Below w.heap.size w W := by rw [hW]; exact (Below.refl _ w).alloc (Nat.le_refl _) _
  have D0 := mkHid d0
  have BA := mkHid bA
  have HW := mkHid hW
  clear d0 bA hW
  go_enter Tryz.func9, Tryz.ntmps9
  go_wp2_with (go_at_call 16; rw [← HW.out]; refine (TR.out _).mono ?_; rintro e w1 ⟨rfl, b1⟩;  have d1 := (b1.block _ ((Array.getElem?_eq_some_iff.1 D0.out).1)).trans D0.out; have y0 : w1.cell? ⟨w.heap.size, 0, none⟩ = some (.string ⟨#[]⟩) := (cell_of_block d1 0).trans rfl; have f0 := unfrozen_of_block d1 0; have y1 : w1.cell? ⟨w.heap.size, 1, none⟩ = some (.slice none 0 0) := (cell_of_block d1 1).trans rfl; have f1 := unfrozen_of_block d1 1; have y2 : w1.cell? ⟨w.heap.size, 2, none⟩ = some (.int .i64 0) := (cell_of_block d1 2).trans rfl; have f2 := unfrozen_of_block d1 2; have y3 : w1.cell? ⟨w.heap.size, 3, none⟩ = some (.int .i64 0) := (cell_of_block d1 3).trans rfl; have f3 := unfrozen_of_block d1 3; have y4 : w1.cell? ⟨w.heap.size, 4, none⟩ = some (.string ⟨#[]⟩) := (cell_of_block d1 4).trans rfl; have f4 := unfrozen_of_block d1 4; have y5 : w1.cell? ⟨w.heap.size, 5, none⟩ = some (.string ⟨#[]⟩) := (cell_of_block d1 5).trans rfl; have f5 := unfrozen_of_block d1 5; have y6 : w1.cell? ⟨w.heap.size, 6, none⟩ = some (.string ⟨#[]⟩) := (cell_of_block d1 6).trans rfl; have f6 := unfrozen_of_block d1 6; have y7 : w1.cell? ⟨w.heap.size, 7, none⟩ = some (.int .i64 0) := (cell_of_block d1 7).trans rfl; have f7 := unfrozen_of_block d1 7; have y8 : w1.cell? ⟨w.heap.size, 8, none⟩ = some (.int .i64 0) := (cell_of_block d1 8).trans rfl; have f8 := unfrozen_of_block d1 8; have B1 := mkHid (BA.out.trans (b1.mono BA.out.size)); clear b1 d1)
  refine bodyPost_ret (v := exV trueE none 0) (by simp [results, Tryz.results9, go_sem, trueE, y0, y1, y2, y3, y4, y5, y6, y7, y8]) rfl ?_
  exact ⟨rfl, B1.out.trans (Off.below (b := w.heap.size) (c := w.heap.size) ((((((((((Off.refl w.heap.size w.heap.size w1).set (Or.inl rfl) _).set (Or.inl rfl) _).set (Or.inl rfl) _).set (Or.inl rfl) _).set (Or.inl rfl) _).set (Or.inl rfl) _).set (Or.inl rfl) _).set (Or.inl rfl) _).set (Or.inl rfl) _) (Nat.le_refl _) (Nat.le_refl _))⟩
theorem AlI.step3 {w w1 W1 : World} {n b i : Nat} {l : List Ex} {e y : Ex} {Pe Py : Option Addr} {Ce Cy : Nat} {S : Nat → Prop} (hi : 0 < i) (hb : Below w.heap.size w w1) (hZ : w1.heap[w.heap.size]? = some (.cells #[.string ⟨#[]⟩, .slice none 0 0, .int .i64 0, .int .i64 0, .string ⟨#[]⟩, .string ⟨#[]⟩, .string ⟨#[]⟩, .int .i64 0, .int .i64 0] 26 (0, 0))) (lb : b < w1.heap.size) (wb : w.heap.size < b) (hB : w1.heap[b]? = some (.cells (exC e Pe Ce).toArray 26 (0, 0))) (ie : exIn w1 (fun q => q ≠ w.heap.size ∧ q ≠ b ∧ q < w1.heap.size) (n + i) e (exC e Pe Ce)) (he : e = exUpto l i) (hy : l[i]? = some y) (hS : ∀ q, S q → q ≠ w.heap.size ∧ q ≠ b ∧ q < w1.heap.size) (iy : exIn w1 S n y (exC y Py Cy)) (hW1 : W1 = w1.alloc (.cells #[.string e.op, .slice Pe e.parts.length Ce, .int .i64 e.vt, .int .i64 e.vn, .string e.vs, .string e.nm, .string e.of, .int .i64 e.ty, .int .i64 e.at_, .string y.op, .slice Py y.parts.length Cy, .int .i64 y.vt, .int .i64 y.vn, .string y.vs, .string y.nm, .string y.of, .int .i64 y.ty, .int .i64 y.at_] 26)) :
    AlI w (((((((((W1.setCell ⟨b, 0, none⟩ (.string ⟨#[97, 110, 100]⟩)).setCell ⟨b, 1, none⟩ (.slice (some ⟨w1.heap.size, 0, none⟩) 2 2)).setCell ⟨b, 2, none⟩ (.int .i64 0)).setCell ⟨b, 3, none⟩ (.int .i64 0)).setCell ⟨b, 4, none⟩ (.string ⟨#[]⟩)).setCell ⟨b, 5, none⟩ (.string ⟨#[]⟩)).setCell ⟨b, 6, none⟩ (.string ⟨#[]⟩)).setCell ⟨b, 7, none⟩ (.int .i64 0)).setCell ⟨b, 8, none⟩ (.int .i64 0)) n b (i + 1) l := by
  have bA : Below w1.heap.size w1 W1 := by rw [hW1]; exact (Below.refl _ _).alloc (Nat.le_refl _) _
  have sA : W1.heap.size = w1.heap.size + 1 := by rw [hW1, World.size_alloc]
  have hN1 : W1.heap[w1.heap.size]? = some (.cells (exC e Pe Ce ++ exC y Py Cy).toArray 26 (0, 0)) := by rw [hW1]; exact heap_alloc_new _ _
  have hZ1 := (bA.block _ (lt_of_some hZ)).trans hZ
  have hB1 := (bA.block _ (lt_of_some hB)).trans hB
  clear hW1
  obtain ⟨V, hV⟩ : ∃ V, V = (((((((((W1.setCell ⟨b, 0, none⟩ (.string ⟨#[97, 110, 100]⟩)).setCell ⟨b, 1, none⟩ (.slice (some ⟨w1.heap.size, 0, none⟩) 2 2)).setCell ⟨b, 2, none⟩ (.int .i64 0)).setCell ⟨b, 3, none⟩ (.int .i64 0)).setCell ⟨b, 4, none⟩ (.string ⟨#[]⟩)).setCell ⟨b, 5, none⟩ (.string ⟨#[]⟩)).setCell ⟨b, 6, none⟩ (.string ⟨#[]⟩)).setCell ⟨b, 7, none⟩ (.int .i64 0)).setCell ⟨b, 8, none⟩ (.int .i64 0)) := ⟨_, rfl⟩
  have ho : Off b b W1 V := by rw [hV]; exact ((((((((((Off.refl b b W1).set (Or.inl rfl) _).set (Or.inl rfl) _).set (Or.inl rfl) _).set (Or.inl rfl) _).set (Or.inl rfl) _).set (Or.inl rfl) _).set (Or.inl rfl) _).set (Or.inl rfl) _).set (Or.inl rfl) _)
  have h9 : V.heap[b]? = some (.cells (exC (andE e y) (some ⟨w1.heap.size, 0, none⟩) 2).toArray 26 (0, 0)) := by rw [hV]; exact nine_set hB1
  rw [← hV]
  clear hV
  have sz := ho.size
  have sw := hb.size
  have hN := (ho.block _ (by omega) (by omega)).trans hN1
  have cl : ∀ q o u, q ≠ b → w1.cell? ⟨q, o, none⟩ = some u → V.cell? ⟨q, o, none⟩ = some u := fun q o u hq hc => ho.cell hq hq (cellNext bA hc)
  refine ⟨(hb.trans (bA.mono sw)).trans (ho.below (by omega) (by omega)), (ho.block _ (by omega) (by omega)).trans hZ1, by omega, wb, some ⟨w1.heap.size, 0, none⟩, 2, ?_, ?_⟩
  · rw [exUpto_next hi hy, ← he]
    exact h9
  · rw [exUpto_next hi hy, ← he]
    refine and_in (Px := Pe) (Cx := Ce) (Py := Py) (Cy := Cy) (exIn.map (fun q o u hq hc => cl q o u hq.2.1 hc) (fun q hq => ⟨hq.1, hq.2.1, by omega⟩) ie) ((exIn.map (fun q o u hq hc => cl q o u (hS q hq).2.1 hc) (fun q hq => ⟨(hS q hq).1, (hS q hq).2.1, by have := (hS q hq).2.2; omega⟩) iy).le (Nat.le_add_right _ _)) ⟨by omega, by omega, by omega⟩ (fun r u hr => ?_) (fun r u hr => ?_)
    · rw [cell_of_block hN]
      have := (List.getElem?_eq_some_iff.1 hr).1
      simp only [List.getElem?_toArray]
      rw [List.getElem?_append_left this]; exact hr
    · rw [cell_of_block hN]
      simp only [List.getElem?_toArray]
      have hl : (exC e Pe Ce).length = 9 := rfl
      rw [List.getElem?_append_right (by omega), hl, Nat.add_sub_cancel_left]; exact hr
end Go.Proofs.YtokppkinhlcafaaGreatDoor
