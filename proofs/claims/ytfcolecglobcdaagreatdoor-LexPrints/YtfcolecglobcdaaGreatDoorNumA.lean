/-
  The walk of value.number.
-/
import Derived.Test.YtfcolecglobcdaaGreatDoorChkVal
import Derived.Test.YtfcolecglobcdaaGreatDoorArInt
namespace Go.Proofs.YtfcolecglobcdaaGreatDoor
open Go.RowKit Go.Shelf

set_option maxHeartbeats 1000000 in
theorem number_ok (ty n : Int) (w : World) :
    Calls Tryz.prog 145 #[.int .i64 ty, .int .i64 n, .int .i64 0] w fun e w' => e = .returned (.tuple #[.agg #[.int .i64 ty, .int .i64 n, .string ⟨#[]⟩], .int .i64 0]) ∧ Below w.heap.size w w' := by
  go_enter Tryz.func145, Tryz.ntmps145
  go_wp2_with fail
  exact bodyPost_ret (v := .tuple #[.agg #[.int .i64 ty, .int .i64 n, .string ⟨#[]⟩], .int .i64 0]) (by simp [results, Tryz.results145, go_sem]) rfl ⟨rfl, (Below.refl _ w).alloc (Nat.le_refl _) _⟩
set_option maxHeartbeats 1000000 in
theorem number_err (ty n e : Int) (w : World) (he : e ≠ 0) :
    Calls Tryz.prog 145 #[.int .i64 ty, .int .i64 n, .int .i64 e] w fun r w' => r = .returned (.tuple #[.agg #[.int .i64 0, .int .i64 0, .string ⟨#[]⟩], .int .i64 e]) ∧ Below w.heap.size w w' := by
  have h : (e != 0) = true := by rw [bne_iff_ne]; exact he
  go_enter Tryz.func145, Tryz.ntmps145
  go_wp2_with fail
  exact bodyPost_ret (v := .tuple #[.agg #[.int .i64 0, .int .i64 0, .string ⟨#[]⟩], .int .i64 e]) (by simp [results, Tryz.results145, go_sem]) rfl ⟨rfl, (Below.refl _ w).alloc (Nat.le_refl _) _⟩

end Go.Proofs.YtfcolecglobcdaaGreatDoor
