/-
  The walks of the product and the quotient of whole numbers.
-/
import Derived.Test.YtokppkinhlcafaaGreatDoorArInt
namespace Go.Proofs.YtokppkinhlcafaaGreatDoor
open Go.RowKit Go.Shelf

theorem mul_abs (a b : Int) : ((a.natAbs * b.natAbs : Nat) : Int) = if (a < 0) = (b < 0) then a * b else -(a * b) := by
  have h : ((a.natAbs * b.natAbs : Nat) : Int) = ((a * b).natAbs : Int) := by rw [Int.natAbs_mul]
  rw [h]
  split
  · rename_i e
    have : 0 ≤ a * b := by
      by_cases ha : a < 0
      · have hb : b < 0 := e ▸ ha
        exact Int.le_of_lt (Int.mul_pos_of_neg_of_neg ha hb)
      · have hb : ¬ b < 0 := fun hb => ha (e ▸ hb)
        exact Int.mul_nonneg (by omega) (by omega)
    omega
  · rename_i e
    have : a * b ≤ 0 := by
      by_cases ha : a < 0
      · have hb : 0 ≤ b := by
          apply Int.not_lt.1; intro hb; exact e (propext ⟨fun _ => hb, fun _ => ha⟩)
        exact Int.mul_nonpos_of_nonpos_of_nonneg (by omega) hb
      · have hb : b < 0 := by
          apply Int.not_le.1; intro hb; exact e (propext ⟨fun h => absurd h ha, fun h => by omega⟩)
        exact Int.mul_nonpos_of_nonneg_of_nonpos (by omega) (by omega)
    omega
theorem mul_same {a b : Int} (h : (a < 0) = (b < 0)) : a * b = ((a.natAbs * b.natAbs : Nat) : Int) := by rw [mul_abs, if_pos h]
theorem mul_other {a b : Int} (h : ¬ (a < 0) = (b < 0)) : a * b = -((a.natAbs * b.natAbs : Nat) : Int) := by rw [mul_abs, if_neg h]; omega
theorem abs_lt {a : Int} (h : fit a) : a.natAbs ≤ 9223372036854775808 := by unfold fit at h; omega
theorem signs (a b : Int) : ((a < 0) = (b < 0)) ↔ (decide (a < 0) == decide (b < 0)) = true := by
  by_cases ha : a < 0 <;> by_cases hb : b < 0 <;> simp [ha, hb]
theorem over_mul {a b : Int} (h : 18446744073709551616 ≤ a.natAbs * b.natAbs) : ¬ fit (a * b) := by
  intro hf
  have h2 : (a * b).natAbs = a.natAbs * b.natAbs := Int.natAbs_mul a b
  unfold fit at hf; omega

theorem Mul64_any (x y : Nat) (hx : x ≤ 9223372036854775808) (hy : y ≤ 9223372036854775808) (w : World) :
    Calls Tryz.prog 123 #[.int .u64 x, .int .u64 y] w fun e w' => e = .returned (.tuple #[.int .u64 ((x * y / 18446744073709551616 : Nat) : Int), .int .u64 ((x * y % 18446744073709551616 : Nat) : Int)]) ∧ w' = w :=
  Any.bits_Mul64 Tryz.laysMul x y (by omega) (by omega) w

set_option maxHeartbeats 1000000 in
theorem wholeProduct_any (a b : Int) (w : World) (ha : fit a) (hb : fit b) :
    Calls Tryz.prog 108 #[.int .i64 a, .int .i64 b] w fun e w' => e = .returned (.tuple #[.int .i64 (ovV (a * b)), .int .i64 (ovE (a * b))]) ∧ w' = w := by
  have h1 := abs_lt ha
  have h2 := abs_lt hb
  have S1 : Hid (∀ w, Calls Tryz.prog 119 #[.int .i64 a] w fun e w' => e = .returned (.int .u64 (a.natAbs : Int)) ∧ w' = w) := fun w => size_any a w ha
  have S2 : Hid (∀ w, Calls Tryz.prog 119 #[.int .i64 b] w fun e w' => e = .returned (.int .u64 (b.natAbs : Int)) ∧ w' = w) := fun w => size_any b w hb
  have MM := fun w => Mul64_any a.natAbs b.natAbs h1 h2 w
  by_cases hh : 18446744073709551616 ≤ a.natAbs * b.natAbs
  · rw [ovV_out (over_mul hh), ovE_out (over_mul hh)]
    have hq : 1 ≤ a.natAbs * b.natAbs / 18446744073709551616 := by omega
    generalize a.natAbs * b.natAbs / 18446744073709551616 = q at *
    generalize a.natAbs * b.natAbs % 18446744073709551616 = r at *
    have M2 : Hid (∀ w, _) := MM
    clear MM
    have hne : ((q : Int) != 0) = true := by rw [bne_iff_ne]; omega
    generalize a.natAbs = x at *
    generalize b.natAbs = y at *
    clear ha hb hh h1 h2
    go_enter Tryz.func108, Tryz.ntmps108
    go_wp2_with fail
    refine (S1.out _).mono ?_
    rintro e w1 ⟨rfl, rfl⟩
    go_wp2_with fail
    refine (S2.out _).mono ?_
    rintro e w1 ⟨rfl, rfl⟩
    go_wp2_with fail
    refine (M2.out _).mono ?_
    rintro e w1 ⟨rfl, rfl⟩
    go_wp2_with fail
    go_ret2
    exact ⟨rfl, rfl⟩
  · rw [Nat.div_eq_of_lt (by omega), Nat.mod_eq_of_lt (by omega)] at MM
    by_cases hs : (a < 0) = (b < 0)
    · rw [mul_same hs]
      have hd := (signs a b).1 hs
      have P1 : Hid (∀ w, _) := fun w => signed_pos (a.natAbs * b.natAbs) w (by omega)
      have M2 : Hid (∀ w, _) := MM
      clear MM
      generalize a.natAbs * b.natAbs = m at *
      generalize a.natAbs = x at *
      generalize b.natAbs = y at *
      clear ha hb hh h1 h2 hs
      go_enter Tryz.func108, Tryz.ntmps108
      go_wp2_with fail
      refine (S1.out _).mono ?_
      rintro e w1 ⟨rfl, rfl⟩
      go_wp2_with fail
      refine (S2.out _).mono ?_
      rintro e w1 ⟨rfl, rfl⟩
      go_wp2_with fail
      refine (M2.out _).mono ?_
      rintro e w1 ⟨rfl, rfl⟩
      go_wp2_with fail
      refine (P1.out _).mono ?_
      rintro e w1 ⟨rfl, rfl⟩
      go_wp2_with fail
      go_ret2
      exact ⟨rfl, rfl⟩
    · rw [mul_other hs]
      have hd : (decide (a < 0) == decide (b < 0)) = false := by rw [← Bool.not_eq_true]; exact fun h => hs ((signs a b).2 h)
      have P1 : Hid (∀ w, _) := fun w => signed_neg (a.natAbs * b.natAbs) w (by omega)
      have M2 : Hid (∀ w, _) := MM
      clear MM
      generalize a.natAbs * b.natAbs = m at *
      generalize a.natAbs = x at *
      generalize b.natAbs = y at *
      clear ha hb hh h1 h2 hs
      go_enter Tryz.func108, Tryz.ntmps108
      go_wp2_with fail
      refine (S1.out _).mono ?_
      rintro e w1 ⟨rfl, rfl⟩
      go_wp2_with fail
      refine (S2.out _).mono ?_
      rintro e w1 ⟨rfl, rfl⟩
      go_wp2_with fail
      refine (M2.out _).mono ?_
      rintro e w1 ⟨rfl, rfl⟩
      go_wp2_with fail
      refine (P1.out _).mono ?_
      rintro e w1 ⟨rfl, rfl⟩
      go_wp2_with fail
      go_ret2
      exact ⟨rfl, rfl⟩

theorem tdiv_abs (a b : Int) : a.tdiv b = if (a < 0) = (b < 0) then ((a.natAbs / b.natAbs : Nat) : Int) else -((a.natAbs / b.natAbs : Nat) : Int) := by
  have key : ∀ m n : Nat, (m : Int).tdiv (n : Int) = ((m / n : Nat) : Int) := fun m n => Int.ofNat_tdiv m n
  by_cases ha : a < 0
  · have ea : a = -(a.natAbs : Int) := by omega
    by_cases hb : b < 0
    · have eb : b = -(b.natAbs : Int) := by omega
      rw [if_pos (by simp [ha, hb])]
      conv => lhs; rw [ea, eb, Int.neg_tdiv, Int.tdiv_neg, Int.neg_neg, key]
    · have eb : b = (b.natAbs : Int) := by omega
      rw [if_neg (by simp [ha]; omega)]
      conv => lhs; rw [ea, eb, Int.neg_tdiv, key]
  · have ea : a = (a.natAbs : Int) := by omega
    by_cases hb : b < 0
    · have eb : b = -(b.natAbs : Int) := by omega
      rw [if_neg (by simp [hb]; omega)]
      conv => lhs; rw [ea, eb, Int.tdiv_neg, key]
    · have eb : b = (b.natAbs : Int) := by omega
      rw [if_pos (by simp [ha, hb])]
      conv => lhs; rw [ea, eb, key]
theorem tdiv_same {a b : Int} (h : (a < 0) = (b < 0)) : a.tdiv b = ((a.natAbs / b.natAbs : Nat) : Int) := by rw [tdiv_abs, if_pos h]
theorem tdiv_other {a b : Int} (h : ¬ (a < 0) = (b < 0)) : a.tdiv b = -((a.natAbs / b.natAbs : Nat) : Int) := by rw [tdiv_abs, if_neg h]

set_option maxHeartbeats 1000000 in
theorem wholeQuotient_zero (a : Int) (w : World) :
    Calls Tryz.prog 109 #[.int .i64 a, .int .i64 0] w fun e w' => e = .returned (.tuple #[.int .i64 0, .int .i64 11]) ∧ w' = w := by
  go_enter Tryz.func109, Tryz.ntmps109
  go_wp2_with fail
  go_ret2
  exact ⟨rfl, rfl⟩

set_option maxHeartbeats 1000000 in
theorem wholeQuotient_any (a b : Int) (w : World) (ha : fit a) (hb : fit b) (h0 : b ≠ 0) :
    Calls Tryz.prog 109 #[.int .i64 a, .int .i64 b] w fun e w' => e = .returned (.tuple #[.int .i64 (ovV (a.tdiv b)), .int .i64 (ovE (a.tdiv b))]) ∧ w' = w := by
  have h1 := abs_lt ha
  have h2 := abs_lt hb
  have hb0 : (b == 0) = false := by rw [beq_eq_false_iff_ne]; exact h0
  have hy : (1 : Int) ≤ (b.natAbs : Int) := by omega
  have hq : a.natAbs / b.natAbs ≤ a.natAbs := Nat.div_le_self _ _
  have hq1 : ((a.natAbs : Int) / (b.natAbs : Int)) ≤ 9223372036854775808 := by rw [← Int.natCast_ediv]; omega
  have hq2 : 0 ≤ ((a.natAbs : Int) / (b.natAbs : Int)) := by rw [← Int.natCast_ediv]; exact Int.natCast_nonneg _
  have S1 : Hid (∀ w, Calls Tryz.prog 119 #[.int .i64 a] w fun e w' => e = .returned (.int .u64 (a.natAbs : Int)) ∧ w' = w) := fun w => size_any a w ha
  have S2 : Hid (∀ w, Calls Tryz.prog 119 #[.int .i64 b] w fun e w' => e = .returned (.int .u64 (b.natAbs : Int)) ∧ w' = w) := fun w => size_any b w hb
  by_cases hs : (a < 0) = (b < 0)
  · rw [tdiv_same hs]
    have hd := (signs a b).1 hs
    have P1 := fun w => signed_pos (a.natAbs / b.natAbs) w (by omega)
    rw [Int.natCast_ediv] at P1 ⊢
    have P2 : Hid (∀ w, _) := P1
    clear P1
    generalize a.natAbs = x at *
    generalize b.natAbs = y at *
    clear ha hb hs h0
    go_enter Tryz.func109, Tryz.ntmps109
    go_wp2_with fail
    refine (S1.out _).mono ?_
    rintro e w1 ⟨rfl, rfl⟩
    go_wp2_with fail
    refine (S2.out _).mono ?_
    rintro e w1 ⟨rfl, rfl⟩
    go_wp2_with fail
    refine (P2.out _).mono ?_
    rintro e w1 ⟨rfl, rfl⟩
    go_wp2_with fail
    go_ret2
    exact ⟨rfl, rfl⟩
  · rw [tdiv_other hs]
    have hd : (decide (a < 0) == decide (b < 0)) = false := by rw [← Bool.not_eq_true]; exact fun h => hs ((signs a b).2 h)
    have P1 := fun w => signed_neg (a.natAbs / b.natAbs) w (by omega)
    rw [Int.natCast_ediv] at P1 ⊢
    have P2 : Hid (∀ w, _) := P1
    clear P1
    generalize a.natAbs = x at *
    generalize b.natAbs = y at *
    clear ha hb hs h0
    go_enter Tryz.func109, Tryz.ntmps109
    go_wp2_with fail
    refine (S1.out _).mono ?_
    rintro e w1 ⟨rfl, rfl⟩
    go_wp2_with fail
    refine (S2.out _).mono ?_
    rintro e w1 ⟨rfl, rfl⟩
    go_wp2_with fail
    refine (P2.out _).mono ?_
    rintro e w1 ⟨rfl, rfl⟩
    go_wp2_with fail
    go_ret2
    exact ⟨rfl, rfl⟩
end Go.Proofs.YtokppkinhlcafaaGreatDoor
