/-
  Products of ten-thousandths; reckonWhole, reckonParts.
-/
import Derived.Test.YtoboebibmelgkaaGreatDoorDivA
import Derived.Shelf.Spec.BitsCarry
namespace Go.Proofs.YtoboebibmelgkaaGreatDoor
open Go.RowKit Go.Shelf

/-- the product of ten-thousandths, the nearest, a half away from nought -/
def prd (a b : Int) : Int := if (a < 0) = (b < 0) then (((a.natAbs * b.natAbs + 5000) / 10000 : Nat) : Int) else -(((a.natAbs * b.natAbs + 5000) / 10000 : Nat) : Int)
theorem prd_same {a b : Int} (h : (a < 0) = (b < 0)) : prd a b = (((a.natAbs * b.natAbs + 5000) / 10000 : Nat) : Int) := if_pos h
theorem prd_other {a b : Int} (h : ¬ (a < 0) = (b < 0)) : prd a b = -(((a.natAbs * b.natAbs + 5000) / 10000 : Nat) : Int) := if_neg h
theorem prd_comm (a b : Int) : prd a b = prd b a := by
  unfold prd
  rw [Nat.mul_comm]
  by_cases h : (a < 0) = (b < 0)
  · rw [if_pos h, if_pos h.symm]
  · rw [if_neg h, if_neg (fun e => h e.symm)]
theorem prd_over {a b : Int} (h : 18446744073709551616 ≤ (a.natAbs * b.natAbs + 5000) / 10000) : ¬ fit (prd a b) := by
  unfold fit prd
  split <;> omega

set_option maxHeartbeats 2000000 in
set_option maxRecDepth 1000000 in
theorem partsProduct_any (a b : Int) (w : World) (ha : fit a) (hb : fit b) :
    Calls Tryz.prog 69 #[.int .i64 a, .int .i64 b] w fun e w' => e = .returned (.tuple #[.int .i64 (ovV (prd a b)), .int .i64 (ovE (prd a b))]) ∧ Below w.heap.size w w' := by
  have h1 := abs_lt ha
  have h2 := abs_lt hb
  have S1 : Hid (∀ w, Calls Tryz.prog 46 #[.int .i64 a] w fun e w' => e = .returned (.int .u64 (a.natAbs : Int)) ∧ w' = w) := fun w => size_any a w ha
  have S2 : Hid (∀ w, Calls Tryz.prog 46 #[.int .i64 b] w fun e w' => e = .returned (.int .u64 (b.natAbs : Int)) ∧ w' = w) := fun w => size_any b w hb
  obtain ⟨X, hX⟩ : ∃ X, X = a.natAbs * b.natAbs := ⟨_, rfl⟩
  have hXl : X ≤ 9223372036854775808 * 9223372036854775808 := by rw [hX]; exact Nat.mul_le_mul h1 h2
  obtain ⟨hi, hhi⟩ : ∃ hi, hi = X / 18446744073709551616 := ⟨_, rfl⟩
  obtain ⟨lo, hlo⟩ : ∃ lo, lo = X % 18446744073709551616 := ⟨_, rfl⟩
  obtain ⟨H, hH⟩ : ∃ H, H = (X + 5000) / 18446744073709551616 := ⟨_, rfl⟩
  obtain ⟨L, hL⟩ : ∃ L, L = (X + 5000) % 18446744073709551616 := ⟨_, rfl⟩
  obtain ⟨c, hc⟩ : ∃ c, c = (lo + 5000) / 18446744073709551616 := ⟨_, rfl⟩
  have M2 : Hid (∀ w, Calls Tryz.prog 94 #[.int .u64 (a.natAbs : Int), .int .u64 (b.natAbs : Int)] w fun e w' => e = .returned (.tuple #[.int .u64 (hi : Int), .int .u64 (lo : Int)]) ∧ w' = w) := fun w => by rw [hhi, hlo, hX]; exact Mul64_any a.natAbs b.natAbs h1 h2 w
  have A2 : ∀ w, (callFunc 95 #[.int .u64 (lo : Int), .int .u64 5000, .int .u64 0]).run Tryz.prog w = .ok (.value (.tuple #[.int .u64 (L : Int), .int .u64 (c : Int)])) w := fun w => by
    have := Any7.bits_Add64 Tryz.laysAdd lo 5000 0 (by omega) w
    rw [Nat.add_zero, ← hc, show (lo + 5000) % 18446744073709551616 = L by omega] at this
    exact this
  have e1 : (hi : Int) + (c : Int) = (H : Int) := by omega
  have eW : IntKind.u64.wrap (H : Int) = (H : Int) := by rw [IntKind.wrap_u64]; omega
  have hL2 : L < 18446744073709551616 := by omega
  by_cases hh : 10000 ≤ H
  · have ov : ¬ fit (prd a b) := prd_over (by rw [← hX]; omega)
    rw [ovV_out ov, ovE_out ov]
    have t1 : (10000 : Int) ≤ (H : Int) := by omega
    clear hX hXl hhi hlo hH hL hc ha hb h1 h2 hL2 hh ov
    generalize a.natAbs = x at *
    generalize b.natAbs = y at *
    go_enter Tryz.func69, Tryz.ntmps69
    go_wp2_with fail
    refine (S1.out _).mono ?_
    rintro e w1 ⟨rfl, rfl⟩
    go_wp2_with fail
    refine (S2.out _).mono ?_
    rintro e w1 ⟨rfl, rfl⟩
    go_wp2_with fail
    refine (M2.out _).mono ?_
    rintro e w1 ⟨rfl, rfl⟩
    go_wp2_with fail
    go_ret2
    exact ⟨rfl, Below.refl _ _⟩
  · have t1 : ¬ (10000 : Int) ≤ (H : Int) := by omega
    obtain ⟨q, hq⟩ : ∃ q, q = (X + 5000) / 10000 := ⟨_, rfl⟩
    obtain ⟨r, hr⟩ : ∃ r, r = (H * 18446744073709551616 + L) % 10000 := ⟨_, rfl⟩
    have D2 : Hid (∀ w, Calls Tryz.prog 96 #[.int .u64 (H : Int), .int .u64 (L : Int), .int .u64 10000] w fun e w' => e = .returned (.tuple #[.int .u64 (q : Int), .int .u64 (r : Int)]) ∧ Below w.heap.size w w') := fun w => by
      have := Div64_any10k H L w (by omega) hL2
      rw [← hr, show (H * 18446744073709551616 + L) / 10000 = q by rw [hq]; congr 1; omega] at this
      exact this
    have hq64 : q < 18446744073709551616 := by rw [hq]; exact Nat.div_lt_of_lt_mul (by omega)
    by_cases hs : (a < 0) = (b < 0)
    · rw [prd_same hs, ← hX, ← hq]
      have hd := (signs a b).1 hs
      have P1 : Hid (∀ w, _) := fun w => signed_pos q w hq64
      clear hX hXl hhi hlo hH hL hc ha hb h1 h2 hL2 hh hs hq hr hq64
      generalize a.natAbs = x at *
      generalize b.natAbs = y at *
      go_enter Tryz.func69, Tryz.ntmps69
      go_wp2_with fail
      refine (S1.out _).mono ?_
      rintro e w1 ⟨rfl, rfl⟩
      go_wp2_with fail
      refine (S2.out _).mono ?_
      rintro e w1 ⟨rfl, rfl⟩
      go_wp2_with fail
      refine (M2.out _).mono ?_
      rintro e w1 ⟨rfl, rfl⟩
      go_wp2_with fail
      refine (D2.out _).mono ?_
      rintro e w2 ⟨rfl, hb2⟩
      go_wp2_with fail
      refine (P1.out _).mono ?_
      rintro e w3 ⟨rfl, hw3⟩; have hw3' := hw3.symm; subst hw3'; clear hw3
      go_wp2_with fail
      go_ret2
      exact ⟨rfl, hb2⟩
    · rw [prd_other hs, ← hX, ← hq]
      have hd : (decide (a < 0) == decide (b < 0)) = false := by rw [← Bool.not_eq_true]; exact fun h => hs ((signs a b).2 h)
      have P1 : Hid (∀ w, _) := fun w => signed_neg q w hq64
      clear hX hXl hhi hlo hH hL hc ha hb h1 h2 hL2 hh hs hq hr hq64
      generalize a.natAbs = x at *
      generalize b.natAbs = y at *
      go_enter Tryz.func69, Tryz.ntmps69
      go_wp2_with fail
      refine (S1.out _).mono ?_
      rintro e w1 ⟨rfl, rfl⟩
      go_wp2_with fail
      refine (S2.out _).mono ?_
      rintro e w1 ⟨rfl, rfl⟩
      go_wp2_with fail
      refine (M2.out _).mono ?_
      rintro e w1 ⟨rfl, rfl⟩
      go_wp2_with fail
      refine (D2.out _).mono ?_
      rintro e w2 ⟨rfl, hb2⟩
      go_wp2_with fail
      refine (P1.out _).mono ?_
      rintro e w3 ⟨rfl, hw3⟩; have hw3' := hw3.symm; subst hw3'; clear hw3
      go_wp2_with fail
      go_ret2
      exact ⟨rfl, hb2⟩

set_option maxHeartbeats 1000000 in
set_option maxRecDepth 1000000 in
theorem reckonWhole_sum (a b : Int) (w : World) (ha : fit a) (hb : fit b) :
    Calls Tryz.prog 43 #[.string ⟨#[43]⟩, .int .i64 a, .int .i64 b] w fun e w' => e = .returned (.tuple #[.int .i64 (ovV (a + b)), .int .i64 (ovE (a + b))]) ∧ Below w.heap.size w w' := by
  have C : Hid (∀ w, Calls Tryz.prog 66 #[.int .i64 a, .int .i64 b] w fun e w' => e = .returned (.tuple #[.int .i64 (ovV (a + b)), .int .i64 (ovE (a + b))]) ∧ w' = w) := fun w => sum_any a b w ha hb
  generalize ovV (a + b) = x at *
  generalize ovE (a + b) = y at *
  go_enter Tryz.func43, Tryz.ntmps43
  go_wp2_with fail
  refine (C.out _).mono ?_
  rintro e w1 ⟨rfl, rfl⟩
  go_wp2_with fail
  go_ret2
  exact ⟨rfl, Below.refl _ _⟩

set_option maxHeartbeats 1000000 in
set_option maxRecDepth 1000000 in
theorem reckonParts_sum (a b : Int) (w : World) (ha : fit a) (hb : fit b) :
    Calls Tryz.prog 44 #[.string ⟨#[43]⟩, .int .i64 a, .int .i64 b] w fun e w' => e = .returned (.tuple #[.int .i64 (ovV (a + b)), .int .i64 (ovE (a + b))]) ∧ Below w.heap.size w w' := by
  have C : Hid (∀ w, Calls Tryz.prog 66 #[.int .i64 a, .int .i64 b] w fun e w' => e = .returned (.tuple #[.int .i64 (ovV (a + b)), .int .i64 (ovE (a + b))]) ∧ w' = w) := fun w => sum_any a b w ha hb
  generalize ovV (a + b) = x at *
  generalize ovE (a + b) = y at *
  go_enter Tryz.func44, Tryz.ntmps44
  go_wp2_with fail
  refine (C.out _).mono ?_
  rintro e w1 ⟨rfl, rfl⟩
  go_wp2_with fail
  go_ret2
  exact ⟨rfl, Below.refl _ _⟩

set_option maxHeartbeats 1000000 in
set_option maxRecDepth 1000000 in
theorem reckonWhole_dif (a b : Int) (w : World) (ha : fit a) (hb : fit b) :
    Calls Tryz.prog 43 #[.string ⟨#[45]⟩, .int .i64 a, .int .i64 b] w fun e w' => e = .returned (.tuple #[.int .i64 (ovV (a - b)), .int .i64 (ovE (a - b))]) ∧ Below w.heap.size w w' := by
  have C : Hid (∀ w, Calls Tryz.prog 67 #[.int .i64 a, .int .i64 b] w fun e w' => e = .returned (.tuple #[.int .i64 (ovV (a - b)), .int .i64 (ovE (a - b))]) ∧ w' = w) := fun w => difference_any a b w ha hb
  generalize ovV (a - b) = x at *
  generalize ovE (a - b) = y at *
  go_enter Tryz.func43, Tryz.ntmps43
  go_wp2_with fail
  refine (C.out _).mono ?_
  rintro e w1 ⟨rfl, rfl⟩
  go_wp2_with fail
  go_ret2
  exact ⟨rfl, Below.refl _ _⟩

set_option maxHeartbeats 1000000 in
set_option maxRecDepth 1000000 in
theorem reckonParts_dif (a b : Int) (w : World) (ha : fit a) (hb : fit b) :
    Calls Tryz.prog 44 #[.string ⟨#[45]⟩, .int .i64 a, .int .i64 b] w fun e w' => e = .returned (.tuple #[.int .i64 (ovV (a - b)), .int .i64 (ovE (a - b))]) ∧ Below w.heap.size w w' := by
  have C : Hid (∀ w, Calls Tryz.prog 67 #[.int .i64 a, .int .i64 b] w fun e w' => e = .returned (.tuple #[.int .i64 (ovV (a - b)), .int .i64 (ovE (a - b))]) ∧ w' = w) := fun w => difference_any a b w ha hb
  generalize ovV (a - b) = x at *
  generalize ovE (a - b) = y at *
  go_enter Tryz.func44, Tryz.ntmps44
  go_wp2_with fail
  refine (C.out _).mono ?_
  rintro e w1 ⟨rfl, rfl⟩
  go_wp2_with fail
  go_ret2
  exact ⟨rfl, Below.refl _ _⟩

set_option maxHeartbeats 1000000 in
set_option maxRecDepth 1000000 in
theorem reckonWhole_mul (a b : Int) (w : World) (ha : fit a) (hb : fit b) :
    Calls Tryz.prog 43 #[.string ⟨#[42]⟩, .int .i64 a, .int .i64 b] w fun e w' => e = .returned (.tuple #[.int .i64 (ovV (a * b)), .int .i64 (ovE (a * b))]) ∧ Below w.heap.size w w' := by
  have C : Hid (∀ w, Calls Tryz.prog 64 #[.int .i64 a, .int .i64 b] w fun e w' => e = .returned (.tuple #[.int .i64 (ovV (a * b)), .int .i64 (ovE (a * b))]) ∧ w' = w) := fun w => wholeProduct_any a b w ha hb
  generalize ovV (a * b) = x at *
  generalize ovE (a * b) = y at *
  go_enter Tryz.func43, Tryz.ntmps43
  go_wp2_with fail
  refine (C.out _).mono ?_
  rintro e w1 ⟨rfl, rfl⟩
  go_wp2_with fail
  go_ret2
  exact ⟨rfl, Below.refl _ _⟩

set_option maxHeartbeats 1000000 in
set_option maxRecDepth 1000000 in
theorem reckonParts_mul (a b : Int) (w : World) (ha : fit a) (hb : fit b) :
    Calls Tryz.prog 44 #[.string ⟨#[42]⟩, .int .i64 a, .int .i64 b] w fun e w' => e = .returned (.tuple #[.int .i64 (ovV (prd a b)), .int .i64 (ovE (prd a b))]) ∧ Below w.heap.size w w' := by
  have C : Hid (∀ w, Calls Tryz.prog 69 #[.int .i64 a, .int .i64 b] w fun e w' => e = .returned (.tuple #[.int .i64 (ovV (prd a b)), .int .i64 (ovE (prd a b))]) ∧ Below w.heap.size w w') := fun w => partsProduct_any a b w ha hb
  generalize ovV (prd a b) = x at *
  generalize ovE (prd a b) = y at *
  go_enter Tryz.func44, Tryz.ntmps44
  go_wp2_with fail
  refine (C.out _).mono ?_
  rintro e w1 ⟨rfl, hb1⟩
  go_wp2_with fail
  go_ret2
  exact ⟨rfl, hb1⟩
end Go.Proofs.YtoboebibmelgkaaGreatDoor
