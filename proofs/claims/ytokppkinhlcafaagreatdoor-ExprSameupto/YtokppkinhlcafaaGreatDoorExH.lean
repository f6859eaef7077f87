/-
  The walk of slices.Clone at api.Expr.
-/
import Derived.Test.YtokppkinhlcafaaGreatDoorExG
namespace Go.Proofs.YtokppkinhlcafaaGreatDoor
open Go.RowKit Go.Joins
set_option maxRecDepth 100000

theorem wp_appX (t : TypeId) {ops : Array Oper} {rest : List Oper} {o : Oper} {a : Act} {w : World} {Q : Exit → Act → World → Prop} (hgd : o.guard = none) (s x : Operand) (ho : o.op = .call { callee := .builtin .append, args := #[s, x], argTypes := #[t, t] })
    {v y v' : Value} {w' : World} (hs : a.eval s = v) (hx : a.eval x = y) (hr : ∀ ty, (Builtin.append_ #[t, t] ty #[v, y]).run Tryz.prog w = .ok v' w') (h : wpList Tryz.prog ops Q rest (a.put o.dst v') w') : wpList Tryz.prog ops Q (o :: rest) a w := by
  refine wpList_plain hgd fun K hK => ?_
  unfold Oper.wp execOp
  simp only [ho, resolve, invoke, builtin, Sem.run_bind, Sem.run_pure, Result.andThen_ok, List.map_toArray, List.map_cons, List.map_nil, hs, hx, hr]
  exact hK _ _ h
set_option maxHeartbeats 2000000 in
set_option maxRecDepth 1000000 in
theorem CloneEx_nil (w : World) : Calls Tryz.prog 21 #[.slice none 0 0] w fun e w' => e = .returned (.slice none 0 0) ∧ w' = w := by
  have ne : ∀ w, (binOp .eql 22 (.slice none 0 0) (.slice none 0 0)).run Tryz.prog w = .ok (.bool true) w := fun w => by kernel_rfl
  go_enter Tryz.func21, Tryz.ntmps21
  go_wp2_with fail
  go_ret
  exact ⟨rfl, rfl⟩
set_option maxHeartbeats 2000000 in
set_option maxRecDepth 1000000 in
theorem CloneEx_some (g o n C : Nat) (ys : List Value) (w : World) (hn : n ≤ 100000000) (hl : ys.length = n * 9) (hc : ∀ j u, ys[j]? = some u → w.cell? ⟨g, o + j, none⟩ = some u) (h1 : ∀ u ∈ ys, u.oneCell' = true) :
    Calls Tryz.prog 21 #[.slice (some ⟨g, o, none⟩) n C] w fun e w' => ∃ v, e = .returned v ∧ w'.ownsRow w.heap.size 26 9 v n ys ∧ Below w.heap.size w w' := by
  obtain ⟨W, hW⟩ : ∃ W, W = w.alloc (.cells #[] 26) := ⟨_, rfl⟩
  have bA : Below w.heap.size w W := by rw [hW]; exact (Below.refl _ w).alloc (Nat.le_refl _) _
  have hown : W.ownsRow w.heap.size 26 9 (.slice (some ⟨w.heap.size, 0, none⟩) 0 0) 0 [] := by rw [hW]; exact World.ownsRow_made w #[] 0 (Nat.le_refl _) (by unfold maxLen; omega) rfl
  obtain ⟨v', w', r, ho, hg⟩ : ∃ v' w', (∀ ty, (Builtin.append_ #[22, 22] ty #[.slice (some ⟨w.heap.size, 0, none⟩) 0 0, .slice (some ⟨g, o, none⟩) n C]).run Tryz.prog W = .ok v' w') ∧ w'.ownsRow w.heap.size 26 9 v' n ys ∧ Below w.heap.size w w' := by
    obtain ⟨i0, hi, hz0, hz1, hz2⟩ := info_parts exInfo
    rcases Nat.eq_zero_or_pos n with rfl | h0
    · obtain rfl : ys = [] := List.eq_nil_of_length_eq_zero (by simpa using hl)
      exact ⟨_, W, fun ty => by simp [Builtin.append_, run_underlying exSlice, sizeOf, typeInfo, hi, Builtin.lenOf, Builtin.firstCells, loadCells, loadCellsFrom, storeCells], hown, bA⟩
    · have key := fun ty => run_append_own_at (P := Tryz.prog) W w.heap.size 22 ty 26 i0 _ 9 120 exSlice hi hz0 hz1 hz2 rfl (by decide) (.slice (some ⟨w.heap.size, 0, none⟩) 0 0) 0 [] hown ⟨g, o, none⟩ n C ys hl (fun j u hj => by
        rw [add_plain]
        have := hc j u hj
        exact (bA.cell (World.block_lt_of_cell? _ _ this)).trans this) h1 (by unfold maxLen; omega) (by omega) bA.size
      obtain ⟨v', w', e1, e2, e3, _⟩ := key 0
      rw [Nat.zero_add, List.nil_append] at e2
      exact ⟨v', w', fun ty => e1, e2, below_app bA hown (Nat.le_refl _) e3⟩
  have FX : Hid (w'.ownsRow w.heap.size 26 9 v' n ys ∧ Below w.heap.size w w') := ⟨ho, hg⟩
  have HW := mkHid hW
  have HR := mkHid r
  have ne : ∀ w, (binOp .eql 22 (.slice (some ⟨g, o, none⟩) n C) (.slice none 0 0)).run Tryz.prog w = .ok (.bool false) w := fun w => by kernel_rfl
  clear hown ho hg bA hW hc h1 hl r
  go_enter Tryz.func21, Tryz.ntmps21
  go_wp2_with (at_builtin; rw [← HW.out]; refine wp_appX 22 rfl (.tmp 5) (.tmp 6) rfl rfl rfl HR.out ?_)
  go_ret
  exact ⟨_, rfl, FX.out⟩
end Go.Proofs.YtokppkinhlcafaaGreatDoor
