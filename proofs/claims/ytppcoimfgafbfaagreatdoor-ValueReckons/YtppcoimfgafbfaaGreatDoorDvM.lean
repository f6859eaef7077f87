/-
  The arithmetic of dividing two words by one (math/bits.Div64).
-/
import Derived.Test.YtppcoimfgafbfaaGreatDoorProg
import Derived.Lib.BitFns
namespace Go.Proofs.YtppcoimfgafbfaaGreatDoor

theorem pow_pos2 (s : Nat) : 0 < 2 ^ s := Nat.pow_pos (by decide)
/-- a first guess at a digit is too great just if what it takes is more than there is -/
theorem guess {y1 y0 U u q r : Nat} (hU : U = q * y1 + r) : (U * 4294967296 + u < q * (y1 * 4294967296 + y0)) ↔ (r * 4294967296 + u < q * y0) := by
  have e1 : q * (y1 * 4294967296 + y0) = q * y1 * 4294967296 + q * y0 := by rw [Nat.mul_add, ← Nat.mul_assoc]
  rw [e1, hU, Nat.add_mul]
  omega
theorem digit_gt {Y T q : Nat} (hY : 0 < Y) : T / Y < q ↔ T < q * Y := Nat.div_lt_iff_lt_mul hY
theorem digit_eq {Y T q : Nat} (hY : 0 < Y) (h1 : T / Y ≤ q) (h2 : ¬ T < q * Y) : q = T / Y := by
  have h3 : ¬ T / Y < q := fun h => h2 ((digit_gt hY).1 h)
  omega
/-- the first guess -/
theorem guess0 {y1 y0 U u : Nat} (h1 : 2147483648 ≤ y1) (h0 : y0 < 4294967296) (hu : u < 4294967296) (hU : U < y1 * 4294967296 + y0) :
    (U * 4294967296 + u) / (y1 * 4294967296 + y0) ≤ U / y1 ∧ U / y1 ≤ 4294967297 ∧ (U * 4294967296 + u) / (y1 * 4294967296 + y0) < 4294967296 := by
  have hY : 0 < y1 * 4294967296 + y0 := by omega
  refine ⟨?_, ?_, ?_⟩
  · refine Nat.le_of_lt_succ ((digit_gt hY).2 ?_)
    have hr : U < (U / y1 + 1) * y1 := by
      have := Nat.div_add_mod' U y1
      have := Nat.mod_lt U (show 0 < y1 by omega)
      rw [Nat.add_mul]; omega
    have e : (U / y1 + 1) * (y1 * 4294967296 + y0) = (U / y1 + 1) * y1 * 4294967296 + (U / y1 + 1) * y0 := by rw [Nat.mul_add, ← Nat.mul_assoc]
    show _ < (U / y1 + 1) * _
    rw [e]
    generalize (U / y1 + 1) * y1 = X at *
    generalize (U / y1 + 1) * y0 = Z
    omega
  · obtain ⟨k, hk⟩ : ∃ k, k = 4294967298 := ⟨_, rfl⟩
    have hm : y1 * k = y1 * 4294967296 + y1 * 2 := by rw [hk, ← Nat.mul_add]
    have h4 : U < y1 * k := by
      rw [hm]
      generalize y1 * 4294967296 = X at *
      omega
    have h3 : U / y1 < k := Nat.div_lt_of_lt_mul h4
    omega
  · refine Nat.div_lt_of_lt_mul ?_
    have e : (y1 * 4294967296 + y0) * 4294967296 = (U + 1) * 4294967296 + ((y1 * 4294967296 + y0) - (U + 1)) * 4294967296 := by
      rw [← Nat.add_mul]; congr 1; omega
    rw [e]; omega
/-- the guess is right where the rest is great -/
theorem guess_stop {y1 y0 U u q r : Nat} (h0 : y0 < 4294967296) (hq : q ≤ 4294967296) (hr : 4294967296 ≤ r) (hU : U = q * y1 + r) : ¬ (U * 4294967296 + u < q * (y1 * 4294967296 + y0)) := by
  rw [guess hU]
  have : q * y0 ≤ 4294967296 * 4294967296 := Nat.mul_le_mul hq (by omega)
  omega
/-- one less, and the rest is more by the divisor's upper half -/
theorem guess_next {y1 U q r : Nat} (hq : 1 ≤ q) (hU : U = q * y1 + r) : U = (q - 1) * y1 + (r + y1) := by
  obtain ⟨p, rfl⟩ : ∃ p, q = p + 1 := ⟨q - 1, by omega⟩
  rw [hU, Nat.add_mul, Nat.add_sub_cancel]; omega
/-- what is left, within 64 bits -/
theorem wrap_rest {U u q Y T R : Nat} (hT : T = U * 4294967296 + u) (hR : T = q * Y + R) (hRl : R < 18446744073709551616) :
    (((U * 4294967296 % 18446744073709551616 + u) % 18446744073709551616 : Nat) : Int) - ((q * Y % 18446744073709551616 : Nat) : Int) = (R : Int) ∨ (((U * 4294967296 % 18446744073709551616 + u) % 18446744073709551616 : Nat) : Int) - ((q * Y % 18446744073709551616 : Nat) : Int) = (R : Int) - 18446744073709551616 := by
  generalize q * Y = X at *
  omega
/-- the two digits are the quotient, the last rest what is left -/
theorem two_digits_b {N y p b A u1 u0 Q1 R1 Q0 R0 : Nat} (hp : 0 < p) (hA : N * p = A * (b * b) + (u1 * b + u0)) (h1 : A * b + u1 = Q1 * (y * p) + R1) (h0 : R1 * b + u0 = Q0 * (y * p) + R0) (hR : R0 < y * p) (hy : 0 < y) :
    N / y = Q1 * b + Q0 ∧ N % y = R0 / p := by
  have e : N * p = ((Q1 * b + Q0) * y) * p + R0 := by
    have h2 : N * p = (A * b + u1) * b + u0 := by rw [hA, Nat.add_mul, Nat.mul_assoc, Nat.add_assoc]
    rw [h2, h1, Nat.add_mul, Nat.add_assoc, h0, Nat.mul_assoc (Q1 * b + Q0), Nat.add_mul (Q1 * b), Nat.mul_right_comm Q1 b, Nat.add_assoc]
  have e2 : N = (Q1 * b + Q0) * y + R0 / p := by
    have h := congrArg (· / p) e
    simp only [Nat.mul_div_cancel _ hp] at h
    rw [h, Nat.add_comm, Nat.add_mul_div_right _ _ hp, Nat.add_comm]
  have hl : R0 / p < y := (Nat.div_lt_iff_lt_mul hp).2 hR
  rw [e2]
  refine ⟨?_, ?_⟩
  · rw [Nat.add_comm, Nat.add_mul_div_right _ _ hy, Nat.div_eq_of_lt hl, Nat.zero_add]
  · rw [Nat.add_comm, Nat.add_mul_mod_self_right, Nat.mod_eq_of_lt hl]
theorem two_digits {N y s A un1 un0 Q1 R1 Q0 R0 : Nat} (hA : N * 2 ^ s = A * 18446744073709551616 + (un1 * 4294967296 + un0))
    (h1 : A * 4294967296 + un1 = Q1 * (y * 2 ^ s) + R1) (h0 : R1 * 4294967296 + un0 = Q0 * (y * 2 ^ s) + R0) (hR : R0 < y * 2 ^ s) (hy : 0 < y) :
    N / y = Q1 * 4294967296 + Q0 ∧ N % y = R0 / 2 ^ s := by
  obtain ⟨b, hb⟩ : ∃ b, b = 4294967296 := ⟨_, rfl⟩
  have hbb : b * b = 18446744073709551616 := by rw [hb]
  rw [← hbb, ← hb] at hA
  rw [← hb] at h1 h0 ⊢
  exact two_digits_b (pow_pos2 s) hA h1 h0 hR hy
/-- how far a number is to be shifted so that its first bit stands first -/
theorem norm_shift {y : Nat} (h0 : 0 < y) (h : y < 18446744073709551616) : Lib.bitLen y ≤ 64 ∧ 1 ≤ Lib.bitLen y ∧ 9223372036854775808 ≤ y * 2 ^ (64 - Lib.bitLen y) ∧ y * 2 ^ (64 - Lib.bitLen y) < 18446744073709551616 := by
  have key : ∀ n : Nat, ∀ x : Nat, 0 < x → x < 2 ^ n → n ≤ 64 → 1 ≤ Lib.bitLen x ∧ Lib.bitLen x ≤ n ∧ 2 ^ (Lib.bitLen x - 1) ≤ x ∧ x < 2 ^ Lib.bitLen x := by
    intro n
    induction n with
    | zero => intro x h1 h2 _; simp at h2; omega
    | succ n ih =>
      intro x h1 h2 hn
      have h64 : x < 2 ^ 64 := Nat.lt_of_lt_of_le h2 (Nat.pow_le_pow_right (by decide) hn)
      have e := Lib.bitLen_half x (by omega) h64
      by_cases hx : x = 1
      · subst hx
        have : Lib.bitLen 1 = 1 := by decide
        rw [this]; refine ⟨by omega, by omega, by decide, by decide⟩
      · obtain ⟨a1, a2, a3, a4⟩ := ih (x / 2) (by omega) (by rw [Nat.pow_succ] at h2; omega) (by omega)
        rw [e]
        refine ⟨by omega, by omega, ?_, ?_⟩
        · rw [show 1 + Lib.bitLen (x / 2) - 1 = (Lib.bitLen (x / 2) - 1) + 1 by omega, Nat.pow_succ]; omega
        · rw [Nat.add_comm, Nat.pow_succ]; omega
  obtain ⟨a1, a2, a3, a4⟩ := key 64 y h0 h (Nat.le_refl _)
  generalize Lib.bitLen y = b at *
  have e1 : 2 ^ (b - 1) * 2 ^ (64 - b) = 9223372036854775808 := by rw [← Nat.pow_add, show b - 1 + (64 - b) = 63 by omega]
  have e2 : 2 ^ b * 2 ^ (64 - b) = 18446744073709551616 := by rw [← Nat.pow_add, show b + (64 - b) = 64 by omega]
  refine ⟨a2, a1, ?_, ?_⟩
  · rw [← e1]; exact Nat.mul_le_mul_right _ a3
  · rw [← e2]; exact Nat.mul_lt_mul_of_pos_right a4 (pow_pos2 _)
end Go.Proofs.YtppcoimfgafbfaaGreatDoor
