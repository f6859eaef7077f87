/-
  The walk of lockstepref02.signed.
-/
import Derived.Test.YtedacccedbchaaaDoorVaA
import Derived.Test.YtedacccedbchaaaDoorBkG
namespace Go.Proofs.YtedacccedbchaaaDoor
open Go.RowKit Go.Shelf

/-- a number that is so far from nought -/
def sgn (kd : Int) (mn : Bool) (u : Nat) : Except Int (Va × Nat) :=
  if 9223372036854775808 < u ∨ (u = 9223372036854775808 ∧ mn = false) then .error 20 else .ok (⟨kd, if mn = true then -(u : Int) else (u : Int), ⟨#[]⟩⟩, 12)

set_option maxHeartbeats 2000000 in
set_option maxRecDepth 1000000 in
theorem signed_any (kd : Int) (mn : Bool) (u : Nat) (w : World) (hu : u < 18446744073709551616) :
    Calls Tryd.prog 70 #[.int .i64 kd, .bool mn, .int .u64 (u : Int)] w fun e w' => e = .returned (vrd (sgn kd mn u)) ∧ Below w.heap.size w w' := by
  rcases (show 9223372036854775808 < u ∨ u = 9223372036854775808 ∨ u < 9223372036854775808 by omega) with h | h | h
  · have e : sgn kd mn u = .error 20 := if_pos (Or.inl h)
    rw [e]
    have hi : (9223372036854775808 : Int) < (u : Int) := by omega
    go_enter Tryd.func70, Tryd.ntmps70
    go_wp2_with fail
    exact bodyPost_ret (v := vrd (.error 20)) (by simp [results, Tryd.results70, go_sem, vrd]) rfl ⟨rfl, (Below.refl _ w).alloc (Nat.le_refl _) _⟩
  · subst h
    cases mn
    · have e : sgn kd false 9223372036854775808 = .error 20 := if_pos (Or.inr ⟨rfl, rfl⟩)
      rw [e]
      go_enter Tryd.func70, Tryd.ntmps70
      go_wp2_with fail
      exact bodyPost_ret (v := vrd (.error 20)) (by simp [results, Tryd.results70, go_sem, vrd]) rfl ⟨rfl, (Below.refl _ w).alloc (Nat.le_refl _) _⟩
    · have e : sgn kd true 9223372036854775808 = .ok (⟨kd, -9223372036854775808, ⟨#[]⟩⟩, 12) := by unfold sgn; rw [if_neg (by simp)]; rfl
      rw [e]
      go_enter Tryd.func70, Tryd.ntmps70
      go_wp2_with fail
      exact bodyPost_ret (v := vrd (.ok (⟨kd, -9223372036854775808, ⟨#[]⟩⟩, 12))) (by simp [results, Tryd.results70, go_sem, vrd]) rfl ⟨rfl, (Below.refl _ w).alloc (Nat.le_refl _) _⟩
  · have hi : ¬ (9223372036854775808 : Int) < (u : Int) := by omega
    have hne : ((u : Int) == 9223372036854775808) = false := by rw [beq_eq_false_iff_ne]; omega
    have hm : (u : Int) % 9223372036854775808 = (u : Int) := by omega
    cases mn
    · have e : sgn kd false u = .ok (⟨kd, (u : Int), ⟨#[]⟩⟩, 12) := by unfold sgn; rw [if_neg (by omega)]; rfl
      rw [e]
      go_enter Tryd.func70, Tryd.ntmps70
      go_wp2_with fail
      exact bodyPost_ret (v := vrd (.ok (⟨kd, (u : Int), ⟨#[]⟩⟩, 12))) (by simp [results, Tryd.results70, go_sem, vrd]) rfl ⟨rfl, (Below.refl _ w).alloc (Nat.le_refl _) _⟩
    · have e : sgn kd true u = .ok (⟨kd, -(u : Int), ⟨#[]⟩⟩, 12) := by unfold sgn; rw [if_neg (by omega)]; rfl
      rw [e]
      have hn : IntKind.i64.wrap (-(u : Int)) = -(u : Int) := by rw [IntKind.wrap_i64]; omega
      go_enter Tryd.func70, Tryd.ntmps70
      go_wp2_with fail
      exact bodyPost_ret (v := vrd (.ok (⟨kd, -(u : Int), ⟨#[]⟩⟩, 12))) (by simp [results, Tryd.results70, go_sem, vrd]) rfl ⟨rfl, (Below.refl _ w).alloc (Nat.le_refl _) _⟩
end Go.Proofs.YtedacccedbchaaaDoor
