/-
  The walks of the sums, differences, products and quotients of whole numbers: the exact number, or 10 (ErrOver) where it is too great.
-/
import Derived.Test.YtokppkinhlcafaaGreatDoorShelf
import Derived.WalkKit
import Derived.WalkSpells
import Derived.WalkLawsBesides
import Derived.Shelf.Bits.Mul64
namespace Go.Proofs.YtokppkinhlcafaaGreatDoor
open Go.RowKit Go.Shelf

/-- an int64 -/
def fit (x : Int) : Prop := -9223372036854775808 ≤ x ∧ x ≤ 9223372036854775807
def ovV (x : Int) : Int := if -9223372036854775808 ≤ x ∧ x ≤ 9223372036854775807 then x else 0
def ovE (x : Int) : Int := if -9223372036854775808 ≤ x ∧ x ≤ 9223372036854775807 then 0 else 10
theorem ovV_in {x : Int} (h : fit x) : ovV x = x := if_pos h
theorem ovE_in {x : Int} (h : fit x) : ovE x = 0 := if_pos h
theorem ovV_out {x : Int} (h : ¬ fit x) : ovV x = 0 := if_neg h
theorem ovE_out {x : Int} (h : ¬ fit x) : ovE x = 10 := if_neg h

theorem ret_pair {a b : Int} {c d : Int} (h : a = b) (k : c = d) : Ending.returned (.tuple #[.int .i64 a, .int .i64 c]) = .returned (.tuple #[.int .i64 b, .int .i64 d]) := by rw [h, k]
theorem ret_u64 {a b : Int} (h : a = b) : Ending.returned (.int .u64 a) = .returned (.int .u64 b) := by rw [h]

theorem wrap_size (n : Int) (h0 : -9223372036854775808 ≤ n) (h : n < 0) : IntKind.u64.wrap (-IntKind.u64.wrap n) = (n.natAbs : Int) := by
  rw [IntKind.wrap_u64, IntKind.wrap_u64]; omega
theorem wrap_neg (m : Nat) (h : m ≤ 9223372036854775808) : wrap64 (IntKind.u64.wrap (-(m : Int))) = -(m : Int) := by
  rw [IntKind.wrap_u64]; unfold wrap64; omega
theorem wrap_over (x : Int) (h : 9223372036854775807 < x) (h2 : x ≤ 18446744073709551615) : wrap64 x < 0 := by unfold wrap64; omega
theorem wrap_under (x : Int) (h : x < -9223372036854775808) (h2 : -18446744073709551616 ≤ x) : 0 ≤ wrap64 x := by unfold wrap64; omega

set_option maxHeartbeats 400000 in
theorem size_any (n : Int) (w : World) (hn : fit n) :
    Calls Tryz.prog 119 #[.int .i64 n] w fun e w' => e = .returned (.int .u64 (n.natAbs : Int)) ∧ w' = w := by
  unfold fit at hn
  by_cases h : n < 0
  · have HW : Hid (IntKind.u64.wrap (-IntKind.u64.wrap n) = (n.natAbs : Int)) := wrap_size n hn.1 h
    go_enter Tryz.func119, Tryz.ntmps119
    go_wp2
    go_ret
    exact ⟨ret_u64 HW.out, rfl⟩
  · have HW : Hid (n = (n.natAbs : Int)) := by show _ = _; omega
    go_enter Tryz.func119, Tryz.ntmps119
    go_wp2
    go_ret
    exact ⟨ret_u64 HW.out, rfl⟩

set_option maxHeartbeats 400000 in
theorem signed_pos (m : Nat) (w : World) (hm : m < 18446744073709551616) :
    Calls Tryz.prog 124 #[.int .u64 m, .bool false] w fun e w' => e = .returned (.tuple #[.int .i64 (ovV m), .int .i64 (ovE m)]) ∧ w' = w := by
  by_cases h : m ≤ 9223372036854775807
  · have hf : fit (m : Int) := ⟨by omega, by omega⟩
    rw [ovV_in hf, ovE_in hf]
    clear hf
    go_enter Tryz.func124, Tryz.ntmps124
    go_wp2
    go_ret2
    exact ⟨rfl, rfl⟩
  · have hf : ¬ fit (m : Int) := fun h => by unfold fit at h; omega
    rw [ovV_out hf, ovE_out hf]
    clear hf
    go_enter Tryz.func124, Tryz.ntmps124
    go_wp2
    go_ret2
    exact ⟨rfl, rfl⟩
set_option maxHeartbeats 400000 in
theorem signed_neg (m : Nat) (w : World) (hm : m < 18446744073709551616) :
    Calls Tryz.prog 124 #[.int .u64 m, .bool true] w fun e w' => e = .returned (.tuple #[.int .i64 (ovV (-(m : Int))), .int .i64 (ovE (-(m : Int)))]) ∧ w' = w := by
  by_cases h : m ≤ 9223372036854775808
  · have hf : fit (-(m : Int)) := ⟨by omega, by omega⟩
    rw [ovV_in hf, ovE_in hf]
    have HW : Hid (wrap64 (IntKind.u64.wrap (-(m : Int))) = -(m : Int)) := wrap_neg m h
    clear hf
    go_enter Tryz.func124, Tryz.ntmps124
    go_wp2
    go_ret2
    exact ⟨ret_pair HW.out rfl, rfl⟩
  · have hf : ¬ fit (-(m : Int)) := fun h => by unfold fit at h; omega
    rw [ovV_out hf, ovE_out hf]
    clear hf
    go_enter Tryz.func124, Tryz.ntmps124
    go_wp2
    go_ret2
    exact ⟨rfl, rfl⟩
set_option maxHeartbeats 400000 in
theorem sum_any (a b : Int) (w : World) (ha : fit a) (hb : fit b) :
    Calls Tryz.prog 107 #[.int .i64 a, .int .i64 b] w fun e w' => e = .returned (.tuple #[.int .i64 (ovV (a + b)), .int .i64 (ovE (a + b))]) ∧ w' = w := by
  unfold fit at ha hb
  by_cases hf : fit (a + b)
  · rw [ovV_in hf, ovE_in hf]
    unfold fit at hf
    by_cases h1 : a < 0 <;> by_cases h2 : b < 0 <;> by_cases h3 : a + b < 0
    all_goals first
      | (exfalso; omega)
      | (go_enter Tryz.func107, Tryz.ntmps107
         go_wp2
         go_ret2
         exact ⟨rfl, rfl⟩)
  · rw [ovV_out hf, ovE_out hf]
    unfold fit at hf
    by_cases h1 : a < 0
    · have h2 : b < 0 := by omega
      have h3 : decide (wrap64 (a + b) < 0) = false := decide_eq_false (by have := wrap_under (a + b) (by omega) (by omega); omega)
      clear hf
      go_enter Tryz.func107, Tryz.ntmps107
      go_wp2
      go_ret2
      exact ⟨rfl, rfl⟩
    · have h2 : ¬ b < 0 := by omega
      have h3 : decide (wrap64 (a + b) < 0) = true := decide_eq_true (wrap_over (a + b) (by omega) (by omega))
      clear hf
      go_enter Tryz.func107, Tryz.ntmps107
      go_wp2
      go_ret2
      exact ⟨rfl, rfl⟩

set_option maxHeartbeats 400000 in
theorem difference_any (a b : Int) (w : World) (ha : fit a) (hb : fit b) :
    Calls Tryz.prog 92 #[.int .i64 a, .int .i64 b] w fun e w' => e = .returned (.tuple #[.int .i64 (ovV (a - b)), .int .i64 (ovE (a - b))]) ∧ w' = w := by
  unfold fit at ha hb
  by_cases hf : fit (a - b)
  · rw [ovV_in hf, ovE_in hf]
    unfold fit at hf
    by_cases h1 : a < 0 <;> by_cases h2 : b < 0 <;> by_cases h3 : a - b < 0
    all_goals first
      | (exfalso; omega)
      | (go_enter Tryz.func92, Tryz.ntmps92
         go_wp2
         go_ret2
         exact ⟨rfl, rfl⟩)
  · rw [ovV_out hf, ovE_out hf]
    unfold fit at hf
    by_cases h1 : a < 0
    · have h2 : ¬ b < 0 := by omega
      have h3 : decide (wrap64 (a - b) < 0) = false := decide_eq_false (by have := wrap_under (a - b) (by omega) (by omega); omega)
      clear hf
      go_enter Tryz.func92, Tryz.ntmps92
      go_wp2
      go_ret2
      exact ⟨rfl, rfl⟩
    · have h2 : b < 0 := by omega
      have h3 : decide (wrap64 (a - b) < 0) = true := decide_eq_true (wrap_over (a - b) (by omega) (by omega))
      clear hf
      go_enter Tryz.func92, Tryz.ntmps92
      go_wp2
      go_ret2
      exact ⟨rfl, rfl⟩
end Go.Proofs.YtokppkinhlcafaaGreatDoor
