/-
  Letters and digits, of both; how far a word goes.
-/
import Derived.Test.YtfcolecglobcdaaGreatDoorLxM
import Derived.Test.YtfcolecglobcdaaGreatDoorChecked
import Derived.WalkKit
import Derived.WalkSpells
import Derived.WalkLawsBesides
namespace Go.Proofs.YtfcolecglobcdaaGreatDoor
open Go.RowKit


set_option maxHeartbeats 1000000 in
theorem isLetter_any (x : UInt8) (w : World) : Calls Tryz.prog 45 #[.int .u8 (x.toNat : Int)] w fun e w' => e = .returned (.bool (isL x)) ∧ w' = w := by
  unfold isL
  generalize x.toNat = n
  by_cases h1 : 97 ≤ n
  · by_cases h2 : n ≤ 122
    · have k0 : (97 : Int) ≤ (n : Int) := by omega
      have k1 : (n : Int) ≤ 122 := by omega
      rw [decide_eq_true (by omega)]
      go_enter Tryz.func45, Tryz.ntmps45
      go_wp2_with fail
      go_ret
      exact ⟨rfl, rfl⟩
    · have k0 : (97 : Int) ≤ (n : Int) := by omega
      have k1 : ¬ (n : Int) ≤ 122 := by omega
      have k2 : (65 : Int) ≤ (n : Int) := by omega
      have k3 : ¬ (n : Int) ≤ 90 := by omega
      have k4 : ((n : Int) == 95) = false := by rw [beq_eq_false_iff_ne]; omega
      rw [decide_eq_false (by omega)]
      go_enter Tryz.func45, Tryz.ntmps45
      go_wp2_with fail
      go_ret
      exact ⟨rfl, rfl⟩
  by_cases h3 : 65 ≤ n
  · by_cases h4 : n ≤ 90
    · have k0 : ¬ (97 : Int) ≤ (n : Int) := by omega
      have k1 : (65 : Int) ≤ (n : Int) := by omega
      have k2 : (n : Int) ≤ 90 := by omega
      rw [decide_eq_true (by omega)]
      go_enter Tryz.func45, Tryz.ntmps45
      go_wp2_with fail
      go_ret
      exact ⟨rfl, rfl⟩
    · by_cases h5 : n = 95
      · have k0 : ¬ (97 : Int) ≤ (n : Int) := by omega
        have k1 : (65 : Int) ≤ (n : Int) := by omega
        have k2 : ¬ (n : Int) ≤ 90 := by omega
        have k3 : ((n : Int) == 95) = true := by rw [beq_iff_eq]; omega
        rw [decide_eq_true (by omega)]
        go_enter Tryz.func45, Tryz.ntmps45
        go_wp2_with fail
        go_ret
        exact ⟨rfl, rfl⟩
      · have k0 : ¬ (97 : Int) ≤ (n : Int) := by omega
        have k1 : (65 : Int) ≤ (n : Int) := by omega
        have k2 : ¬ (n : Int) ≤ 90 := by omega
        have k3 : ((n : Int) == 95) = false := by rw [beq_eq_false_iff_ne]; omega
        rw [decide_eq_false (by omega)]
        go_enter Tryz.func45, Tryz.ntmps45
        go_wp2_with fail
        go_ret
        exact ⟨rfl, rfl⟩
  have k0 : ¬ (97 : Int) ≤ (n : Int) := by omega
  have k1 : ¬ (65 : Int) ≤ (n : Int) := by omega
  have k2 : ((n : Int) == 95) = false := by rw [beq_eq_false_iff_ne]; omega
  rw [decide_eq_false (by omega)]
  go_enter Tryz.func45, Tryz.ntmps45
  go_wp2_with fail
  go_ret
  exact ⟨rfl, rfl⟩

set_option maxHeartbeats 1000000 in
theorem refLetter_any (x : UInt8) (w : World) : Calls Tryz.prog 31 #[.int .u8 (x.toNat : Int)] w fun e w' => e = .returned (.bool (isL x)) ∧ w' = w := by
  unfold isL
  generalize x.toNat = n
  by_cases h1 : 97 ≤ n
  · by_cases h2 : n ≤ 122
    · have k0 : (97 : Int) ≤ (n : Int) := by omega
      have k1 : (n : Int) ≤ 122 := by omega
      rw [decide_eq_true (by omega)]
      go_enter Tryz.func31, Tryz.ntmps31
      go_wp2_with fail
      go_ret
      exact ⟨rfl, rfl⟩
    · have k0 : (97 : Int) ≤ (n : Int) := by omega
      have k1 : ¬ (n : Int) ≤ 122 := by omega
      have k2 : (65 : Int) ≤ (n : Int) := by omega
      have k3 : ¬ (n : Int) ≤ 90 := by omega
      have k4 : ((n : Int) == 95) = false := by rw [beq_eq_false_iff_ne]; omega
      rw [decide_eq_false (by omega)]
      go_enter Tryz.func31, Tryz.ntmps31
      go_wp2_with fail
      go_ret
      exact ⟨rfl, rfl⟩
  by_cases h3 : 65 ≤ n
  · by_cases h4 : n ≤ 90
    · have k0 : ¬ (97 : Int) ≤ (n : Int) := by omega
      have k1 : (65 : Int) ≤ (n : Int) := by omega
      have k2 : (n : Int) ≤ 90 := by omega
      rw [decide_eq_true (by omega)]
      go_enter Tryz.func31, Tryz.ntmps31
      go_wp2_with fail
      go_ret
      exact ⟨rfl, rfl⟩
    · by_cases h5 : n = 95
      · have k0 : ¬ (97 : Int) ≤ (n : Int) := by omega
        have k1 : (65 : Int) ≤ (n : Int) := by omega
        have k2 : ¬ (n : Int) ≤ 90 := by omega
        have k3 : ((n : Int) == 95) = true := by rw [beq_iff_eq]; omega
        rw [decide_eq_true (by omega)]
        go_enter Tryz.func31, Tryz.ntmps31
        go_wp2_with fail
        go_ret
        exact ⟨rfl, rfl⟩
      · have k0 : ¬ (97 : Int) ≤ (n : Int) := by omega
        have k1 : (65 : Int) ≤ (n : Int) := by omega
        have k2 : ¬ (n : Int) ≤ 90 := by omega
        have k3 : ((n : Int) == 95) = false := by rw [beq_eq_false_iff_ne]; omega
        rw [decide_eq_false (by omega)]
        go_enter Tryz.func31, Tryz.ntmps31
        go_wp2_with fail
        go_ret
        exact ⟨rfl, rfl⟩
  have k0 : ¬ (97 : Int) ≤ (n : Int) := by omega
  have k1 : ¬ (65 : Int) ≤ (n : Int) := by omega
  have k2 : ((n : Int) == 95) = false := by rw [beq_eq_false_iff_ne]; omega
  rw [decide_eq_false (by omega)]
  go_enter Tryz.func31, Tryz.ntmps31
  go_wp2_with fail
  go_ret
  exact ⟨rfl, rfl⟩

set_option maxHeartbeats 1000000 in
theorem isDigit_any (x : UInt8) (w : World) : Calls Tryz.prog 46 #[.int .u8 (x.toNat : Int)] w fun e w' => e = .returned (.bool (isD x)) ∧ w' = w := by
  unfold isD
  generalize x.toNat = n
  by_cases h1 : 48 ≤ n
  · have k1 : (48 : Int) ≤ (n : Int) := by omega
    by_cases h2 : n ≤ 57
    · have k2 : (n : Int) ≤ 57 := by omega
      rw [decide_eq_true (by omega)]
      go_enter Tryz.func46, Tryz.ntmps46
      go_wp2_with fail
      go_ret
      exact ⟨rfl, rfl⟩
    · have k2 : ¬ (n : Int) ≤ 57 := by omega
      rw [decide_eq_false (by omega)]
      go_enter Tryz.func46, Tryz.ntmps46
      go_wp2_with fail
      go_ret
      exact ⟨rfl, rfl⟩
  · have k1 : ¬ (48 : Int) ≤ (n : Int) := by omega
    rw [decide_eq_false (by omega)]
    go_enter Tryz.func46, Tryz.ntmps46
    go_wp2_with fail
    go_ret
    exact ⟨rfl, rfl⟩

set_option maxHeartbeats 1000000 in
theorem refDigit_any (x : UInt8) (w : World) : Calls Tryz.prog 30 #[.int .u8 (x.toNat : Int)] w fun e w' => e = .returned (.bool (isD x)) ∧ w' = w := by
  unfold isD
  generalize x.toNat = n
  by_cases h1 : 48 ≤ n
  · have k1 : (48 : Int) ≤ (n : Int) := by omega
    by_cases h2 : n ≤ 57
    · have k2 : (n : Int) ≤ 57 := by omega
      rw [decide_eq_true (by omega)]
      go_enter Tryz.func30, Tryz.ntmps30
      go_wp2_with fail
      go_ret
      exact ⟨rfl, rfl⟩
    · have k2 : ¬ (n : Int) ≤ 57 := by omega
      rw [decide_eq_false (by omega)]
      go_enter Tryz.func30, Tryz.ntmps30
      go_wp2_with fail
      go_ret
      exact ⟨rfl, rfl⟩
  · have k1 : ¬ (48 : Int) ≤ (n : Int) := by omega
    rw [decide_eq_false (by omega)]
    go_enter Tryz.func30, Tryz.ntmps30
    go_wp2_with fail
    go_ret
    exact ⟨rfl, rfl⟩
end Go.Proofs.YtfcolecglobcdaaGreatDoor
