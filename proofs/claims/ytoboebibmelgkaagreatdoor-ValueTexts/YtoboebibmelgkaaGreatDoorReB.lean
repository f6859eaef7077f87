/-
  The reference's products.
-/
import Derived.Test.YtoboebibmelgkaaGreatDoorReA
namespace Go.Proofs.YtoboebibmelgkaaGreatDoor
open Go.RowKit Go.Shelf

/-- the sign of a product, as the walk meets it -/
theorem sign_same {a b : Int} (h : (a < 0) = (b < 0)) : (decide (a < 0) == decide (b < 0)) = true := (signs a b).1 h
theorem sign_other {a b : Int} (h : ¬ (a < 0) = (b < 0)) : (decide (a < 0) == decide (b < 0)) = false := by rw [← Bool.not_eq_true]; exact fun g => h ((signs a b).2 g)

set_option maxHeartbeats 2000000 in
set_option maxRecDepth 1000000 in
theorem product_whole (a b : Int) (w : World) (ha : fit a) (hb : fit b) :
    Calls Tryz.prog 40 #[.int .i64 a, .int .i64 b, .bool false] w fun e w' => e = .returned (.tuple #[.int .i64 (ovV (a * b)), .bool (fitB (a * b))]) ∧ Below w.heap.size w w' := by
  have h1 := abs_lt ha
  have h2 := abs_lt hb
  have S1 : Hid (∀ w, Calls Tryz.prog 50 #[.int .i64 a] w fun e w' => e = .returned (.int .u64 (a.natAbs : Int)) ∧ w' = w) := fun w => refSize_any a w ha
  have S2 : Hid (∀ w, Calls Tryz.prog 50 #[.int .i64 b] w fun e w' => e = .returned (.int .u64 (b.natAbs : Int)) ∧ w' = w) := fun w => refSize_any b w hb
  obtain ⟨X, hX⟩ : ∃ X, X = a.natAbs * b.natAbs := ⟨_, rfl⟩
  obtain ⟨N, hN⟩ : ∃ N, N = X % 18446744073709551616 := ⟨_, rfl⟩
  have TM := fun w => times_any a.natAbs b.natAbs w (by omega) (by omega)
  rw [← hX, ← hN] at TM
  by_cases hh : X < 18446744073709551616
  · rw [decide_eq_true hh] at TM
    obtain rfl : N = X := by rw [hN, Nat.mod_eq_of_lt hh]
    have TM2 : Hid (∀ w, _) := TM
    clear TM
    by_cases hs : (a < 0) = (b < 0)
    · rw [mul_same hs, ← hX]
      have hd := sign_same hs
      have NR : Hid (∀ w, _) := fun w => near_any N false w hh
      simp only [if_false, Bool.false_eq_true] at NR
      clear hX hN h1 h2 ha hb hh hs
      generalize a.natAbs = x at *
      generalize b.natAbs = y at *
      go_enter Tryz.func40, Tryz.ntmps40
      go_wp2_with fail
      refine (S1.out _).mono ?_
      rintro e w1 ⟨rfl, rfl⟩
      go_wp2_with fail
      refine (S2.out _).mono ?_
      rintro e w1 ⟨rfl, rfl⟩
      go_wp2_with fail
      refine (TM2.out _).mono ?_
      rintro e w2 ⟨rfl, hb2⟩
      go_wp2_with fail
      refine (NR.out _).mono ?_
      rintro e wx ⟨rfl, hwx⟩; have hwx2 := hwx.symm; subst hwx2; clear hwx
      go_wp2_with fail
      go_ret2
      exact ⟨rfl, hb2⟩
    · rw [mul_other hs, ← hX]
      have hd := sign_other hs
      have NR : Hid (∀ w, _) := fun w => near_any N true w hh
      simp only [if_true] at NR
      clear hX hN h1 h2 ha hb hh hs
      generalize a.natAbs = x at *
      generalize b.natAbs = y at *
      go_enter Tryz.func40, Tryz.ntmps40
      go_wp2_with fail
      refine (S1.out _).mono ?_
      rintro e w1 ⟨rfl, rfl⟩
      go_wp2_with fail
      refine (S2.out _).mono ?_
      rintro e w1 ⟨rfl, rfl⟩
      go_wp2_with fail
      refine (TM2.out _).mono ?_
      rintro e w2 ⟨rfl, hb2⟩
      go_wp2_with fail
      refine (NR.out _).mono ?_
      rintro e wx ⟨rfl, hwx⟩; have hwx2 := hwx.symm; subst hwx2; clear hwx
      go_wp2_with fail
      go_ret2
      exact ⟨rfl, hb2⟩
  · have ov : ¬ fit (a * b) := over_mul (by rw [← hX]; omega)
    rw [ovV_out ov, fitB_out ov]
    rw [decide_eq_false hh] at TM
    have TM2 : Hid (∀ w, _) := TM
    have hd : ∃ c : Bool, (decide (a < 0) == decide (b < 0)) = c := ⟨_, rfl⟩
    obtain ⟨c, hd⟩ := hd
    clear TM hX hN ov h1 h2 ha hb hh
    generalize a.natAbs = x at *
    generalize b.natAbs = y at *
    go_enter Tryz.func40, Tryz.ntmps40
    go_wp2_with fail
    refine (S1.out _).mono ?_
    rintro e w1 ⟨rfl, rfl⟩
    go_wp2_with fail
    refine (S2.out _).mono ?_
    rintro e w1 ⟨rfl, rfl⟩
    go_wp2_with fail
    refine (TM2.out _).mono ?_
    rintro e w2 ⟨rfl, hb2⟩
    go_wp2_with fail
    go_ret2
    exact ⟨rfl, hb2⟩

/-- a product of ten-thousandths, in parts -/
theorem parts_eq (x y : Nat) : x / 10000 * y + x % 10000 * (y / 10000) + (x % 10000 * (y % 10000) + 5000) / 10000 = (x * y + 5000) / 10000 := by
  have hx : x = x / 10000 * 10000 + x % 10000 := (Nat.div_add_mod' x 10000).symm
  have hy : y = y / 10000 * 10000 + y % 10000 := (Nat.div_add_mod' y 10000).symm
  obtain ⟨a, ha⟩ : ∃ a, a = x / 10000 := ⟨_, rfl⟩
  obtain ⟨p, hp⟩ : ∃ p, p = x % 10000 := ⟨_, rfl⟩
  obtain ⟨c, hc⟩ : ∃ c, c = y / 10000 := ⟨_, rfl⟩
  obtain ⟨r, hr⟩ : ∃ r, r = y % 10000 := ⟨_, rfl⟩
  rw [← ha, ← hp, ← hc, ← hr]
  rw [← ha, ← hp] at hx
  rw [← hc, ← hr] at hy
  have e : x * y = (a * y + p * c) * 10000 + p * r := by
    have e1 : x * y = a * y * 10000 + p * y := by rw [hx, Nat.add_mul, Nat.mul_right_comm]
    have e2 : p * y = p * c * 10000 + p * r := by rw [hy, Nat.mul_add, ← Nat.mul_assoc]
    rw [e1, e2, Nat.add_mul]; omega
  rw [e]
  generalize a * y + p * c = K
  generalize p * r = J
  omega
end Go.Proofs.YtoboebibmelgkaaGreatDoor
