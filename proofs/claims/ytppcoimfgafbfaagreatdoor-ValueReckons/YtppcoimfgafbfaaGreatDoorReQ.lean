/-
  Quotients of ten-thousandths: value.partsQuotient.
-/
import Derived.Test.YtppcoimfgafbfaaGreatDoorLwA
import Derived.Test.YtppcoimfgafbfaaGreatDoorDvA
namespace Go.Proofs.YtppcoimfgafbfaaGreatDoor
open Go.RowKit Go.Shelf

theorem Div64_any (hi lo y : Nat) (w : World) (h1 : hi < y) (h2 : lo < 18446744073709551616) (hy : y < 18446744073709551616) :
    Calls Tryz.prog 47 #[.int .u64 (hi : Int), .int .u64 (lo : Int), .int .u64 (y : Int)] w fun e w' => e = .returned (.tuple #[.int .u64 (((hi * 18446744073709551616 + lo) / y : Nat) : Int), .int .u64 (((hi * 18446744073709551616 + lo) % y : Nat) : Int)]) ∧ Below w.heap.size w w' := by
  rcases Nat.eq_zero_or_pos hi with rfl | h0
  · have := Div64_zero lo y w (by omega) h2 hy
    rw [Nat.zero_mul, Nat.zero_add]; exact this
  · refine (Div64_full hi lo y w h0 h1 h2 hy).mono ?_
    rintro e w' ⟨rfl, rfl⟩
    exact ⟨rfl, Below.refl _ _⟩
/-- a size by another one, the nearest, a half upwards -/
def nearN (x y : Nat) : Nat := x / y + if y - x % y ≤ x % y then 1 else 0
/-- the quotient of ten-thousandths, the nearest, a half away from nought -/
def quo (a b : Int) : Int := if (a < 0) = (b < 0) then ((nearN (a.natAbs * 10000) b.natAbs : Nat) : Int) else -((nearN (a.natAbs * 10000) b.natAbs : Nat) : Int)
theorem quo_same {a b : Int} (h : (a < 0) = (b < 0)) : quo a b = ((nearN (a.natAbs * 10000) b.natAbs : Nat) : Int) := if_pos h
theorem quo_other {a b : Int} (h : ¬ (a < 0) = (b < 0)) : quo a b = -((nearN (a.natAbs * 10000) b.natAbs : Nat) : Int) := if_neg h
theorem near_ge (x y : Nat) : x / y ≤ nearN x y := by unfold nearN; omega
theorem quo_over {a b : Int} (h : 9223372036854775808 < a.natAbs * 10000 / b.natAbs) : ¬ fit (quo a b) := by
  have := near_ge (a.natAbs * 10000) b.natAbs
  unfold fit quo
  split <;> omega

set_option maxHeartbeats 1000000 in
set_option maxRecDepth 1000000 in
theorem partsQuotient_zero (a : Int) (w : World) :
    Calls Tryz.prog 32 #[.int .i64 a, .int .i64 0] w fun e w' => e = .returned (.tuple #[.int .i64 0, .int .i64 11]) ∧ Below w.heap.size w w' := by
  go_enter Tryz.func32, Tryz.ntmps32
  go_wp2_with fail
  go_ret2
  exact ⟨rfl, Below.refl _ _⟩

set_option maxHeartbeats 4000000 in
set_option maxRecDepth 1000000 in
theorem partsQuotient_any (a b : Int) (w : World) (ha : fit a) (hb : fit b) (hb0 : b ≠ 0) :
    Calls Tryz.prog 32 #[.int .i64 a, .int .i64 b] w fun e w' => e = .returned (.tuple #[.int .i64 (ovV (quo a b)), .int .i64 (ovE (quo a b))]) ∧ Below w.heap.size w w' := by
  have h1 := abs_lt ha
  have h2 := abs_lt hb
  have S1 : Hid (∀ w, Calls Tryz.prog 44 #[.int .i64 a] w fun e w' => e = .returned (.int .u64 (a.natAbs : Int)) ∧ w' = w) := fun w => size_any a w ha
  have S2 : Hid (∀ w, Calls Tryz.prog 44 #[.int .i64 b] w fun e w' => e = .returned (.int .u64 (b.natAbs : Int)) ∧ w' = w) := fun w => size_any b w hb
  have hbz : (b == 0) = false := by rw [beq_eq_false_iff_ne]; exact hb0
  have hy1 : 1 ≤ b.natAbs := by omega
  obtain ⟨X, hX⟩ : ∃ X, X = a.natAbs * 10000 := ⟨_, rfl⟩
  obtain ⟨H, hH⟩ : ∃ H, H = X / 18446744073709551616 := ⟨_, rfl⟩
  obtain ⟨L, hL⟩ : ∃ L, L = X % 18446744073709551616 := ⟨_, rfl⟩
  obtain ⟨y, hy⟩ : ∃ y, y = b.natAbs := ⟨_, rfl⟩
  have M2 : Hid (∀ w, Calls Tryz.prog 43 #[.int .u64 (a.natAbs : Int), .int .u64 10000] w fun e w' => e = .returned (.tuple #[.int .u64 (H : Int), .int .u64 (L : Int)]) ∧ w' = w) := fun w => by rw [hH, hL, hX]; exact Mul64_any a.natAbs 10000 h1 (by omega) w
  have hXe : H * 18446744073709551616 + L = X := by omega
  rw [← hy] at S2 hy1 h2
  by_cases hh : y ≤ H
  · have ov : ¬ fit (quo a b) := quo_over (by
      rw [← hX, ← hy]
      have : 9223372036854775809 ≤ X / y := (Nat.le_div_iff_mul_le hy1).2 (by
        have h3 : 9223372036854775809 * y ≤ 18446744073709551616 * y := Nat.mul_le_mul_right _ (by decide)
        have h4 : 18446744073709551616 * y ≤ 18446744073709551616 * H := Nat.mul_le_mul_left _ hh
        omega)
      omega)
    rw [ovV_out ov, ovE_out ov]
    have t1 : (y : Int) ≤ (H : Int) := by omega
    clear hX hH hL hXe ha hb h1 h2 hh ov hb0 hy1 hy
    generalize a.natAbs = x at *
    go_enter Tryz.func32, Tryz.ntmps32
    go_wp2_with fail
    refine (S2.out _).mono ?_
    rintro e w1 ⟨rfl, rfl⟩
    go_wp2_with fail
    refine (S1.out _).mono ?_
    rintro e w1 ⟨rfl, rfl⟩
    go_wp2_with fail
    refine (M2.out _).mono ?_
    rintro e w1 ⟨rfl, rfl⟩
    go_wp2_with fail
    go_ret2
    exact ⟨rfl, Below.refl _ _⟩
  · have t1 : ¬ (y : Int) ≤ (H : Int) := by omega
    obtain ⟨q, hq⟩ : ∃ q, q = X / y := ⟨_, rfl⟩
    obtain ⟨r, hr⟩ : ∃ r, r = X % y := ⟨_, rfl⟩
    have hry : r < y := by rw [hr]; exact Nat.mod_lt _ hy1
    have hql : q < 18446744073709551616 := by
      rw [hq, Nat.div_lt_iff_lt_mul hy1]
      have h3 : (H + 1) * 18446744073709551616 ≤ y * 18446744073709551616 := Nat.mul_le_mul_right _ (by omega)
      rw [Nat.mul_comm]; omega
    have D2 : Hid (∀ w, Calls Tryz.prog 47 #[.int .u64 (H : Int), .int .u64 (L : Int), .int .u64 (y : Int)] w fun e w' => e = .returned (.tuple #[.int .u64 (q : Int), .int .u64 (r : Int)]) ∧ Below w.heap.size w w') := fun w => by
      have := Div64_any H L y w (by omega) (by omega) (by omega)
      rw [hXe, ← hq, ← hr] at this; exact this
    by_cases hbig : 9223372036854775808 < q
    · have ov : ¬ fit (quo a b) := quo_over (by rw [← hX, ← hy, ← hq]; exact hbig)
      rw [ovV_out ov, ovE_out ov]
      have t2 : (9223372036854775808 : Int) < (q : Int) := by omega
      clear hX hH hL hXe ha hb h1 h2 hh ov hb0 hy1 hy hq hr hbig hry hql
      generalize a.natAbs = x at *
      go_enter Tryz.func32, Tryz.ntmps32
      go_wp2_with fail
      refine (S2.out _).mono ?_
      rintro e w1 ⟨rfl, rfl⟩
      go_wp2_with fail
      refine (S1.out _).mono ?_
      rintro e w1 ⟨rfl, rfl⟩
      go_wp2_with fail
      refine (M2.out _).mono ?_
      rintro e w1 ⟨rfl, rfl⟩
      go_wp2_with fail
      refine (D2.out _).mono ?_
      rintro e w2 ⟨rfl, hb2⟩
      go_wp2_with fail
      go_ret2
      exact ⟨rfl, hb2⟩
    · have t2 : ¬ (9223372036854775808 : Int) < (q : Int) := by omega
      have t3 : IntKind.u64.wrap ((y : Int) - (r : Int)) = (y : Int) - (r : Int) := by rw [IntKind.wrap_u64]; omega
      by_cases hs : (a < 0) = (b < 0)
      · rw [quo_same hs, ← hX, ← hy]
        have hd := (signs a b).1 hs
        by_cases hup : y - r ≤ r
        · have e : nearN X y = q + 1 := by unfold nearN; rw [← hq, ← hr, if_pos hup]
          rw [e]
          have t4 : (y : Int) - (r : Int) ≤ (r : Int) := by omega
          have t5 : IntKind.u64.wrap ((q : Int) + 1) = ((q + 1 : Nat) : Int) := by rw [IntKind.wrap_u64]; omega
          have P1 : Hid (∀ w, _) := fun w => signed_pos (q + 1) w (by omega)
          generalize q + 1 = q2 at *
          clear hX hH hL hXe ha hb h1 h2 hh hb0 hy1 hy hq hr hbig hry hql hs hup e
          generalize a.natAbs = x at *
          go_enter Tryz.func32, Tryz.ntmps32
          go_wp2_with fail
          refine (S2.out _).mono ?_
          rintro e w1 ⟨rfl, rfl⟩
          go_wp2_with fail
          refine (S1.out _).mono ?_
          rintro e w1 ⟨rfl, rfl⟩
          go_wp2_with fail
          refine (M2.out _).mono ?_
          rintro e w1 ⟨rfl, rfl⟩
          go_wp2_with fail
          refine (D2.out _).mono ?_
          rintro e w2 ⟨rfl, hb2⟩
          go_wp2_with fail
          refine (P1.out _).mono ?_
          rintro e w3 ⟨rfl, hw3⟩; have hw3' := hw3.symm; subst hw3'; clear hw3
          go_wp2_with fail
          go_ret2
          exact ⟨rfl, hb2⟩
        · have e : nearN X y = q := by unfold nearN; rw [← hq, ← hr, if_neg hup, Nat.add_zero]
          rw [e]
          have t4 : ¬ (y : Int) - (r : Int) ≤ (r : Int) := by omega
          have P1 : Hid (∀ w, _) := fun w => signed_pos q w hql
          clear hX hH hL hXe ha hb h1 h2 hh hb0 hy1 hy hq hr hbig hry hql hs hup e
          generalize a.natAbs = x at *
          go_enter Tryz.func32, Tryz.ntmps32
          go_wp2_with fail
          refine (S2.out _).mono ?_
          rintro e w1 ⟨rfl, rfl⟩
          go_wp2_with fail
          refine (S1.out _).mono ?_
          rintro e w1 ⟨rfl, rfl⟩
          go_wp2_with fail
          refine (M2.out _).mono ?_
          rintro e w1 ⟨rfl, rfl⟩
          go_wp2_with fail
          refine (D2.out _).mono ?_
          rintro e w2 ⟨rfl, hb2⟩
          go_wp2_with fail
          refine (P1.out _).mono ?_
          rintro e w3 ⟨rfl, hw3⟩; have hw3' := hw3.symm; subst hw3'; clear hw3
          go_wp2_with fail
          go_ret2
          exact ⟨rfl, hb2⟩
      · rw [quo_other hs, ← hX, ← hy]
        have hd : (decide (a < 0) == decide (b < 0)) = false := by rw [← Bool.not_eq_true]; exact fun h => hs ((signs a b).2 h)
        by_cases hup : y - r ≤ r
        · have e : nearN X y = q + 1 := by unfold nearN; rw [← hq, ← hr, if_pos hup]
          rw [e]
          have t4 : (y : Int) - (r : Int) ≤ (r : Int) := by omega
          have t5 : IntKind.u64.wrap ((q : Int) + 1) = ((q + 1 : Nat) : Int) := by rw [IntKind.wrap_u64]; omega
          have P1 : Hid (∀ w, _) := fun w => signed_neg (q + 1) w (by omega)
          generalize q + 1 = q2 at *
          clear hX hH hL hXe ha hb h1 h2 hh hb0 hy1 hy hq hr hbig hry hql hs hup e
          generalize a.natAbs = x at *
          go_enter Tryz.func32, Tryz.ntmps32
          go_wp2_with fail
          refine (S2.out _).mono ?_
          rintro e w1 ⟨rfl, rfl⟩
          go_wp2_with fail
          refine (S1.out _).mono ?_
          rintro e w1 ⟨rfl, rfl⟩
          go_wp2_with fail
          refine (M2.out _).mono ?_
          rintro e w1 ⟨rfl, rfl⟩
          go_wp2_with fail
          refine (D2.out _).mono ?_
          rintro e w2 ⟨rfl, hb2⟩
          go_wp2_with fail
          refine (P1.out _).mono ?_
          rintro e w3 ⟨rfl, hw3⟩; have hw3' := hw3.symm; subst hw3'; clear hw3
          go_wp2_with fail
          go_ret2
          exact ⟨rfl, hb2⟩
        · have e : nearN X y = q := by unfold nearN; rw [← hq, ← hr, if_neg hup, Nat.add_zero]
          rw [e]
          have t4 : ¬ (y : Int) - (r : Int) ≤ (r : Int) := by omega
          have P1 : Hid (∀ w, _) := fun w => signed_neg q w hql
          clear hX hH hL hXe ha hb h1 h2 hh hb0 hy1 hy hq hr hbig hry hql hs hup e
          generalize a.natAbs = x at *
          go_enter Tryz.func32, Tryz.ntmps32
          go_wp2_with fail
          refine (S2.out _).mono ?_
          rintro e w1 ⟨rfl, rfl⟩
          go_wp2_with fail
          refine (S1.out _).mono ?_
          rintro e w1 ⟨rfl, rfl⟩
          go_wp2_with fail
          refine (M2.out _).mono ?_
          rintro e w1 ⟨rfl, rfl⟩
          go_wp2_with fail
          refine (D2.out _).mono ?_
          rintro e w2 ⟨rfl, hb2⟩
          go_wp2_with fail
          refine (P1.out _).mono ?_
          rintro e w3 ⟨rfl, hw3⟩; have hw3' := hw3.symm; subst hw3'; clear hw3
          go_wp2_with fail
          go_ret2
          exact ⟨rfl, hb2⟩
end Go.Proofs.YtppcoimfgafbfaaGreatDoor
