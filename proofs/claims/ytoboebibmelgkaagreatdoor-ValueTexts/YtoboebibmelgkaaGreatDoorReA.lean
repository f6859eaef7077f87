/-
  The reference's arithmetic: lockstepref01.size, signed, near, times, plus, sum.
-/
import Derived.Test.YtoboebibmelgkaaGreatDoorLwA
import Derived.BigQuiet
import Derived.Deep.QuietTactic
namespace Go.Proofs.YtoboebibmelgkaaGreatDoor
open Go.RowKit Go.Shelf

/-- does a number fit? -/
def fitB (x : Int) : Bool := decide (-9223372036854775808 ≤ x ∧ x ≤ 9223372036854775807)
theorem fitB_in {x : Int} (h : fit x) : fitB x = true := decide_eq_true h
theorem fitB_out {x : Int} (h : ¬ fit x) : fitB x = false := decide_eq_false h

set_option maxHeartbeats 1000000 in
set_option maxRecDepth 100000 in
theorem refSize_any (n : Int) (w : World) (hn : fit n) :
    Calls Tryz.prog 50 #[.int .i64 n] w fun e w' => e = .returned (.int .u64 (n.natAbs : Int)) ∧ w' = w := by
  unfold fit at hn
  by_cases h : n < 0
  · have e1 : IntKind.i64.wrap (n + 1) = n + 1 := by rw [IntKind.wrap_i64]; omega
    have e2 : IntKind.i64.wrap (-(n + 1)) = -(n + 1) := by rw [IntKind.wrap_i64]; omega
    have e3 : IntKind.u64.wrap (-(n + 1)) = -(n + 1) := by rw [IntKind.wrap_u64]; omega
    have e4 : IntKind.u64.wrap (-(n + 1) + 1) = (n.natAbs : Int) := by rw [IntKind.wrap_u64]; omega
    go_enter Tryz.func50, Tryz.ntmps50
    go_wp2_with fail
    go_ret
    exact ⟨by first | rfl | (congr 2; omega), rfl⟩
  · have e3 : IntKind.u64.wrap n = (n.natAbs : Int) := by rw [IntKind.wrap_u64]; omega
    go_enter Tryz.func50, Tryz.ntmps50
    go_wp2_with fail
    go_ret
    exact ⟨by first | rfl | (congr 2; omega), rfl⟩

set_option maxHeartbeats 1000000 in
set_option maxRecDepth 100000 in
theorem refSigned_any (m : Nat) (neg : Bool) (w : World) (h0 : 0 < m) (hm : m < 18446744073709551616) :
    Calls Tryz.prog 92 #[.int .u64 (m : Int), .bool neg] w fun e w' => e = .returned (.tuple #[.int .i64 (ovV (if neg = true then -(m : Int) else (m : Int))), .bool (fitB (if neg = true then -(m : Int) else (m : Int)))]) ∧ w' = w := by
  rcases (show 9223372036854775808 < m ∨ m = 9223372036854775808 ∨ m < 9223372036854775808 by omega) with h | h | h
  · have ov : ¬ fit (if neg = true then -(m : Int) else (m : Int)) := by unfold fit; split <;> omega
    rw [ovV_out ov, fitB_out ov]
    have hi : (9223372036854775808 : Int) < (m : Int) := by omega
    clear ov h
    go_enter Tryz.func92, Tryz.ntmps92
    go_wp2_with fail
    go_ret2
    exact ⟨rfl, rfl⟩
  · subst h
    cases neg
    · go_enter Tryz.func92, Tryz.ntmps92
      go_wp2_with fail
      go_ret2
      exact ⟨rfl, rfl⟩
    · go_enter Tryz.func92, Tryz.ntmps92
      go_wp2_with fail
      go_ret2
      exact ⟨rfl, rfl⟩
  · have iv : fit (if neg = true then -(m : Int) else (m : Int)) := by unfold fit; split <;> omega
    rw [ovV_in iv, fitB_in iv]
    have hi : ¬ (9223372036854775808 : Int) < (m : Int) := by omega
    have hj : ((m : Int) == 9223372036854775808) = false := by rw [beq_eq_false_iff_ne]; omega
    have e1 : IntKind.u64.wrap ((m : Int) - 1) = (m : Int) - 1 := by rw [IntKind.wrap_u64]; omega
    have e2 : IntKind.i64.wrap ((m : Int) - 1) = (m : Int) - 1 := by rw [IntKind.wrap_i64]; omega
    have e3 : IntKind.i64.wrap (-((m : Int) - 1)) = -((m : Int) - 1) := by rw [IntKind.wrap_i64]; omega
    have e4 : IntKind.i64.wrap (-((m : Int) - 1) - 1) = -(m : Int) := by rw [IntKind.wrap_i64]; omega
    have e5 : IntKind.i64.wrap (m : Int) = (m : Int) := by rw [IntKind.wrap_i64]; omega
    clear iv h
    cases neg
    · go_enter Tryz.func92, Tryz.ntmps92
      go_wp2_with fail
      go_ret2
      exact ⟨rfl, rfl⟩
    · go_enter Tryz.func92, Tryz.ntmps92
      go_wp2_with fail
      go_ret2
      exact ⟨by first | rfl | (simp <;> omega), rfl⟩

set_option maxHeartbeats 1000000 in
set_option maxRecDepth 100000 in
theorem near_any (m : Nat) (neg : Bool) (w : World) (hm : m < 18446744073709551616) :
    Calls Tryz.prog 62 #[.int .u64 (m : Int), .bool neg] w fun e w' => e = .returned (.tuple #[.int .i64 (ovV (if neg = true then -(m : Int) else (m : Int))), .bool (fitB (if neg = true then -(m : Int) else (m : Int)))]) ∧ w' = w := by
  rcases Nat.eq_zero_or_pos m with rfl | h0
  · have e : (if neg = true then -((0 : Nat) : Int) else ((0 : Nat) : Int)) = 0 := by cases neg <;> rfl
    rw [e]
    go_enter Tryz.func62, Tryz.ntmps62
    go_wp2_with fail
    go_ret2
    exact ⟨rfl, rfl⟩
  · have C : Hid (∀ w, Calls Tryz.prog 92 #[.int .u64 (m : Int), .bool neg] w fun e w' => e = .returned (.tuple #[.int .i64 (ovV (if neg = true then -(m : Int) else (m : Int))), .bool (fitB (if neg = true then -(m : Int) else (m : Int)))]) ∧ w' = w) := fun w => refSigned_any m neg w h0 hm
    have hz : ((m : Int) == 0) = false := by rw [beq_eq_false_iff_ne]; omega
    generalize ovV (if neg = true then -(m : Int) else (m : Int)) = x at *
    generalize fitB (if neg = true then -(m : Int) else (m : Int)) = y at *
    go_enter Tryz.func62, Tryz.ntmps62
    go_wp2_with fail
    refine (C.out _).mono ?_
    rintro e w1 ⟨rfl, rfl⟩
    go_wp2_with fail
    go_ret2
    exact ⟨rfl, rfl⟩

set_option maxHeartbeats 1000000 in
set_option maxRecDepth 100000 in
theorem times_any (a b : Nat) (w : World) (_ : a < 18446744073709551616) (_ : b < 18446744073709551616) :
    Calls Tryz.prog 60 #[.int .u64 (a : Int), .int .u64 (b : Int)] w fun e w' => e = .returned (.tuple #[.int .u64 ((a * b % 18446744073709551616 : Nat) : Int), .bool (decide (a * b < 18446744073709551616))]) ∧ Below w.heap.size w w' := by
  obtain ⟨N, hN⟩ : ∃ N, N = a * b % 18446744073709551616 := ⟨_, rfl⟩
  have e1 : IntKind.u64.wrap ((a : Int) * (b : Int)) = (N : Int) := by rw [← Int.natCast_mul, IntKind.wrap_u64, hN]; omega
  rcases Nat.eq_zero_or_pos a with rfl | h0
  · rw [← hN]
    have e2 : decide (0 * b < 18446744073709551616) = true := decide_eq_true (by omega)
    rw [e2]
    obtain rfl : N = 0 := by rw [hN]; simp
    clear hN
    go_enter Tryz.func60, Tryz.ntmps60
    go_wp2_with fail
    go_quiet (fail)
    go_wp2_with fail
    go_ret2
    exact ⟨rfl, below_drewN (Below.refl _ _) _⟩
  · obtain ⟨q, hq⟩ : ∃ q, q = N / a := ⟨_, rfl⟩
    have hNl : N < 18446744073709551616 := by rw [hN]; exact Nat.mod_lt _ (by decide)
    have hql : q ≤ N := by rw [hq]; exact Nat.div_le_self _ _
    have e3 : (N : Int).tdiv (a : Int) = (q : Int) := by rw [hq, Int.tdiv_eq_ediv_of_nonneg (by omega)]; simp
    have e4 : IntKind.u64.wrap (q : Int) = (q : Int) := by rw [IntKind.wrap_u64]; omega
    have e5 : ((a : Int) == 0) = false := by rw [beq_eq_false_iff_ne]; omega
    have e6 : ((q : Int) == (b : Int)) = decide (a * b < 18446744073709551616) := by
      by_cases h : a * b < 18446744073709551616
      · rw [decide_eq_true h, beq_iff_eq]
        have : N = a * b := by rw [hN, Nat.mod_eq_of_lt h]
        rw [hq, this, Nat.mul_div_cancel_left _ h0]
      · rw [decide_eq_false h, beq_eq_false_iff_ne]
        intro hqb
        have hqb' : q = b := by omega
        have h3 : N < a * b := by rw [hN]; exact Nat.lt_of_lt_of_le (Nat.mod_lt _ (by decide)) (by omega)
        have h4 : N / a < b := Nat.div_lt_of_lt_mul h3
        omega
    rw [← hN, ← e6]
    clear hN hq e6
    go_enter Tryz.func60, Tryz.ntmps60
    go_wp2_with fail
    go_quiet (fail)
    go_wp2_with fail
    go_ret2
    exact ⟨rfl, below_drewN (Below.refl _ _) _⟩

set_option maxHeartbeats 1000000 in
set_option maxRecDepth 100000 in
theorem plus_any (a b : Nat) (ok : Bool) (w : World) (ha : a < 18446744073709551616) (hb : b < 18446744073709551616) :
    Calls Tryz.prog 61 #[.int .u64 (a : Int), .int .u64 (b : Int), .bool ok] w fun e w' => e = .returned (.tuple #[.int .u64 (((a + b) % 18446744073709551616 : Nat) : Int), .bool (ok && decide (a + b < 18446744073709551616))]) ∧ w' = w := by
  obtain ⟨N, hN⟩ : ∃ N, N = (a + b) % 18446744073709551616 := ⟨_, rfl⟩
  have e1 : IntKind.u64.wrap ((a : Int) + (b : Int)) = (N : Int) := by rw [IntKind.wrap_u64]; omega
  have e2 : decide (a ≤ N) = decide (a + b < 18446744073709551616) := by
    by_cases h : a + b < 18446744073709551616
    · rw [decide_eq_true h, decide_eq_true (by omega)]
    · rw [decide_eq_false h, decide_eq_false (by omega)]
  rw [← hN, ← e2]
  clear hN e2
  cases ok
  · go_enter Tryz.func61, Tryz.ntmps61
    go_wp2_with fail
    go_ret2
    exact ⟨rfl, rfl⟩
  · go_enter Tryz.func61, Tryz.ntmps61
    go_wp2_with fail
    go_ret2
    exact ⟨rfl, rfl⟩

end Go.Proofs.YtoboebibmelgkaaGreatDoor
