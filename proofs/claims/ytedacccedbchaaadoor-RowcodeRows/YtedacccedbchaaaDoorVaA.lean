/-
  The walk of lockstepref02.divided: two words by ten thousand, bit by bit.
-/
import Derived.Test.YtedacccedbchaaaDoorRcL
namespace Go.Proofs.YtedacccedbchaaaDoor
open Go.RowKit Go.Shelf

/-- the next bit of two words -/
theorem next_bit {hi lo k : Nat} (hk : k < 64) : (hi * 18446744073709551616 + lo) / 2 ^ k % 2 = lo / 2 ^ k % 2 ∧ (hi * 18446744073709551616 + lo) / 2 ^ (k + 1) = (hi * 18446744073709551616 + lo) / 2 ^ k / 2 := by
  refine ⟨?_, by rw [Nat.pow_succ, Nat.div_div_eq_div_mul]⟩
  have e : (18446744073709551616 : Nat) = 2 * 2 ^ (63 - k) * 2 ^ k := by
    have h1 : (2 : Nat) * 2 ^ (63 - k) = 2 ^ (64 - k) := by rw [Nat.mul_comm, ← Nat.pow_succ]; congr 1; omega
    rw [h1, ← Nat.pow_add, show 64 - k + k = 64 by omega]
  rw [e, ← Nat.mul_assoc, Nat.add_comm, Nat.add_mul_div_right _ _ (Nat.pow_pos (by decide))]
  rw [show hi * (2 * 2 ^ (63 - k)) = (hi * 2 ^ (63 - k)) * 2 by rw [Nat.mul_comm 2, Nat.mul_assoc]]
  exact Nat.add_mul_mod_self_right _ _ _

set_option maxHeartbeats 2000000 in
set_option maxRecDepth 1000000 in
theorem divided_any (hi lo : Nat) (w : World) (h1 : hi < 10000) (h2 : lo < 18446744073709551616) :
    Calls Tryd.prog 71 #[.int .u64 (hi : Int), .int .u64 (lo : Int)] w fun e w' => e = .returned (.tuple #[.int .u64 (((hi * 18446744073709551616 + lo) / 10000 : Nat) : Int), .int .u64 (((hi * 18446744073709551616 + lo) % 10000 : Nat) : Int)]) ∧ w' = w := by
  obtain ⟨V, hV⟩ : ∃ V, V = hi * 18446744073709551616 + lo := ⟨_, rfl⟩
  have e0 : V / 2 ^ 64 = hi := by rw [hV, show (2 : Nat) ^ 64 = 18446744073709551616 by decide, Nat.add_comm, Nat.add_mul_div_right _ _ (by decide), Nat.div_eq_of_lt h2, Nat.zero_add]
  have HV : Hid (V = hi * 18446744073709551616 + lo) := hV
  rw [← hV]
  clear hV
  go_enter Tryd.func71, Tryd.ntmps71
  go_wp2_with fail
  go_loop [6, 7, 8] (fun sq sl si => ∃ r : Nat, si = .int .i64 ((r : Int) - 1) ∧ r ≤ 64 ∧ sq = .int .u64 ((V / 2 ^ r / 10000 : Nat) : Int) ∧ sl = .int .u64 ((V / 2 ^ r % 10000 : Nat) : Int)) (fun _ _ si => (intOf si + 1).toNat)
  case atStart => exact ⟨64, rfl, by omega, by rw [e0, Nat.div_eq_of_lt h1]; rfl, by rw [e0, Nat.mod_eq_of_lt h1]⟩
  case round =>
    obtain ⟨r, rfl, hr, rfl, rfl⟩ := hrel
    rcases Nat.eq_zero_or_pos r with rfl | hp
    · have i0 : ¬ (0 : Int) ≤ ((0 : Nat) : Int) - 1 := by omega
      have z1 : V / 2 ^ 0 = V := by simp
      rw [z1]
      go_wp2_with fail
      refine bodyPost_ret (v := .tuple #[.int .u64 ((V : Int) / 10000), .int .u64 ((V : Int) % 10000)]) (by simp [results, Tryd.results71, go_sem]) rfl ⟨rfl, rfl⟩
    · obtain ⟨k, rfl⟩ : ∃ k, r = k + 1 := ⟨r - 1, by omega⟩
      have ek : ((k + 1 : Nat) : Int) - 1 = (k : Int) := by omega
      rw [ek]
      obtain ⟨b, hb⟩ : ∃ b, b = lo / 2 ^ k % 2 := ⟨_, rfl⟩
      obtain ⟨nb1, nb2⟩ := next_bit (hi := hi) (lo := lo) (k := k) (by omega)
      rw [← HV.out, ← hb] at nb1
      rw [← HV.out] at nb2
      have hb2 : b < 2 := by rw [hb]; exact Nat.mod_lt _ (by decide)
      have eb : ((lo : Int) / 2 ^ k).tmod 2 = (b : Int) := by
        rw [hb]
        have : (lo : Int) / 2 ^ k = ((lo / 2 ^ k : Nat) : Int) := by simp
        rw [this]
        generalize lo / 2 ^ k = z
        rw [Int.tmod_eq_emod_of_nonneg (by omega)]; omega
      have hVl : V < 184467440737095516160000 := by rw [HV.out]; omega
      obtain ⟨N, hN⟩ : ∃ N, N = V / 2 ^ (k + 1) := ⟨_, rfl⟩
      have hNV : N ≤ V / 2 := by rw [hN, nb2]; exact Nat.div_le_div_right (Nat.div_le_self _ _)
      have hN2 : V / 2 ^ k = 2 * N + b := by rw [hN, nb2]; omega
      have HN : Hid (V / 2 ^ k = 2 * N + b) := hN2
      rw [← hN]
      have hq : N / 10000 < 9223372036854775808 := by omega
      have hl : N % 10000 < 10000 := Nat.mod_lt _ (by decide)
      have HX : Hid (N = N / 10000 * 10000 + N % 10000) := (Nat.div_add_mod' N 10000).symm
      clear nb1 nb2 hN hN2 hNV hVl hb ek
      generalize N / 10000 = q at *
      generalize N % 10000 = l at *
      have hk : (k : Int) < 64 := by omega
      have w1 : IntKind.u64.wrap (2 * (l : Int) + (b : Int)) = 2 * (l : Int) + (b : Int) := by rw [IntKind.wrap_u64]; omega
      by_cases hg : 10000 ≤ 2 * l + b
      · have hgi : (10000 : Int) ≤ 2 * (l : Int) + (b : Int) := by omega
        have f1 : Hid (V / 2 ^ k / 10000 = 2 * q + 1) := by
          have a1 := HN.out; have a2 := HX.out
          show _ = _
          rw [a1]; omega
        have f2 : Hid (V / 2 ^ k % 10000 = 2 * l + b - 10000) := by
          have a1 := HN.out; have a2 := HX.out
          show _ = _
          rw [a1]; omega
        go_wp2_with fail
        go_round
        case rel => exact ⟨k, by go_num, by omega, by rw [f1.out]; exact congrArg _ (by omega), by rw [f2.out]; exact congrArg _ (by omega)⟩
        case measure => simp [intOf]
      · have hgi : ¬ (10000 : Int) ≤ 2 * (l : Int) + (b : Int) := by omega
        have f1 : Hid (V / 2 ^ k / 10000 = 2 * q) := by
          have a1 := HN.out; have a2 := HX.out
          show _ = _
          rw [a1]; omega
        have f2 : Hid (V / 2 ^ k % 10000 = 2 * l + b) := by
          have a1 := HN.out; have a2 := HX.out
          show _ = _
          rw [a1]; omega
        go_wp2_with fail
        go_round
        case rel => exact ⟨k, by go_num, by omega, by rw [f1.out]; exact congrArg _ (by omega), by rw [f2.out]; exact congrArg _ (by omega)⟩
        case measure => simp [intOf]
end Go.Proofs.YtedacccedbchaaaDoor
