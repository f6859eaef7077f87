/-
  The walk of value.Reckon, at no sign.
-/
import Derived.Test.YtppcoimfgafbfaaGreatDoorReE
namespace Go.Proofs.YtppcoimfgafbfaaGreatDoor
open Go.RowKit Go.Shelf

set_option maxHeartbeats 1000000 in
set_option maxRecDepth 1000000 in
theorem Reckon_other (op : ByteArray) (a b : Va) (w : World) (h0 : op.data.toList ≠ [43]) (h1 : op.data.toList ≠ [45]) (h2 : op.data.toList ≠ [42]) (h3 : op.data.toList ≠ [47]) :
    Calls Tryz.prog 4 #[.string op, .agg #[.int .i64 a.ty, .int .i64 a.n, .string a.s], .agg #[.int .i64 b.ty, .int .i64 b.n, .string b.s]] w fun e w' => e = .returned (ans (⟨0, 0, ⟨#[]⟩⟩, 1)) ∧ Below w.heap.size w w' := by
  have F0 := Fr.new w a b ⟨0, 0, ⟨#[]⟩⟩
  have B0 : Below w.heap.size w _ := (((Below.refl _ w).alloc (Nat.le_refl _) (.cells #[.int .i64 a.ty, .int .i64 a.n, .string a.s] 23)).alloc (by simp) (.cells #[.int .i64 b.ty, .int .i64 b.n, .string b.s] 23)).alloc (by simp; omega) (.cells #[.int .i64 0, .int .i64 0, .string ⟨#[]⟩] 23)
  have k0 : (op.toList == [43]) = false := by rw [Lib.toList_data, beq_eq_false_iff_ne]; exact h0
  have k1 : (op.toList == [45]) = false := by rw [Lib.toList_data, beq_eq_false_iff_ne]; exact h1
  have k2 : (op.toList == [42]) = false := by rw [Lib.toList_data, beq_eq_false_iff_ne]; exact h2
  have k3 : (op.toList == [47]) = false := by rw [Lib.toList_data, beq_eq_false_iff_ne]; exact h3
  clear h0 h1 h2 h3
  obtain ⟨l1, a0, a1, a2, b0, b1, b2, r0, r1, r2, hf⟩ := id F0
  go_enter Tryz.func4, Tryz.ntmps4
  go_wp2_with fail
  refine bodyPost_ret (v := .tuple #[.agg #[.int .i64 0, .int .i64 0, .string ⟨#[]⟩], .int .i64 1]) (by simp [results, Tryz.results4, go_sem, r0, r1, r2]) rfl ⟨rfl, ?_⟩
  exact B0
end Go.Proofs.YtppcoimfgafbfaaGreatDoor
