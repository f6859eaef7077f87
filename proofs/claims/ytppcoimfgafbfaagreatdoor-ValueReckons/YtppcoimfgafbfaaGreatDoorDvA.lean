/-
  math/bits.Div64 by any divisor.
-/
import Derived.Test.YtppcoimfgafbfaaGreatDoorDvM
import Derived.Test.YtppcoimfgafbfaaGreatDoorShelf
import Derived.WalkKit
import Derived.WalkSpells
import Derived.WalkLawsBesides
import Derived.Shelf.Small.Bits
import Derived.Laws.Bits64b
import Derived.Deep.CutBlock
namespace Go.Proofs.YtppcoimfgafbfaaGreatDoor
open Go.RowKit Go.Shelf

theorem and_mask (B : Nat) (h : B < 18446744073709551616) : bits .and .u64 (B : Int) 4294967295 = ((B % 4294967296 : Nat) : Int) := by
  have g2 : (4294967295 : Int) = ((4294967295 : Nat) : Int) := rfl
  rw [g2, bits_and_u64_nat _ _ h (by omega)]
  have : B &&& 4294967295 = B % 2 ^ 32 := Nat.and_two_pow_sub_one_eq_mod B 32
  rw [this]
theorem cast_shl (x s : Nat) : (x : Int) * 2 ^ s = ((x * 2 ^ s : Nat) : Int) := by simp
theorem cast_shr (x s : Nat) : (x : Int) / 2 ^ s = ((x / 2 ^ s : Nat) : Int) := by simp
/-- the two words, shifted -/
theorem shifted {hi lo s : Nat} (hs : s ≤ 63) (hlo : lo < 18446744073709551616) : (hi * 18446744073709551616 + lo) * 2 ^ s = (hi * 2 ^ s + lo / 2 ^ (64 - s)) * 18446744073709551616 + lo * 2 ^ s % 18446744073709551616 ∧ lo / 2 ^ (64 - s) < 2 ^ s := by
  have e : (18446744073709551616 : Nat) = 2 ^ (64 - s) * 2 ^ s := by rw [← Nat.pow_add, show 64 - s + s = 64 by omega]
  have hp := pow_pos2 s
  have hp2 := pow_pos2 (64 - s)
  have e1 : lo * 2 ^ s / 18446744073709551616 = lo / 2 ^ (64 - s) := by rw [e, Nat.mul_div_mul_right _ _ hp]
  have e2 := Nat.div_add_mod (lo * 2 ^ s) 18446744073709551616
  rw [e1] at e2
  refine ⟨?_, ?_⟩
  · rw [Nat.add_mul, Nat.add_mul, Nat.mul_right_comm]
    generalize hi * 2 ^ s = X
    generalize lo / 2 ^ (64 - s) = Z at *
    generalize lo * 2 ^ s = V at *
    omega
  · rw [Nat.div_lt_iff_lt_mul hp2, Nat.mul_comm, ← e]; exact hlo

set_option maxHeartbeats 8000000 in
set_option maxRecDepth 1000000 in
theorem Div64_full (hi lo y : Nat) (w : World) (h0 : 1 ≤ hi) (h1 : hi < y) (h2 : lo < 18446744073709551616) (hy : y < 18446744073709551616) :
    Calls Tryz.prog 47 #[.int .u64 (hi : Int), .int .u64 (lo : Int), .int .u64 (y : Int)] w fun e w' => e = .returned (.tuple #[.int .u64 (((hi * 18446744073709551616 + lo) / y : Nat) : Int), .int .u64 (((hi * 18446744073709551616 + lo) % y : Nat) : Int)]) ∧ w' = w := by
  obtain ⟨n1, n2, n3, n4⟩ := norm_shift (show 0 < y by omega) hy
  obtain ⟨s, hs⟩ : ∃ s, s = 64 - Lib.bitLen y := ⟨_, rfl⟩
  rw [← hs] at n3 n4
  have hs63 : s ≤ 63 := by omega
  have L : Hid (∀ w, Calls Tryz.prog 55 #[.int .u64 (y : Int)] w fun e w' => e = .returned (.int .i64 (s : Int)) ∧ w' = w) := fun w => by
    have := Any.bits_LeadingZeros64 Tryz.laysLZ (y : Int) w (by omega) (by omega)
    rw [Int.toNat_natCast, show (64 : Int) - (Lib.bitLen y : Int) = (s : Int) by omega] at this
    exact this
  clear n1 n2 hs
  have hs64 : (s : Int) < 64 := by omega
  have ws : IntKind.u64.wrap (s : Int) = (s : Int) := by rw [IntKind.wrap_u64]; omega
  have hyz : ((y : Int) == 0) = false := by rw [beq_eq_false_iff_ne]; omega
  have hyh : ¬ (y : Int) ≤ (hi : Int) := by omega
  have hh0 : ((hi : Int) == 0) = false := by rw [beq_eq_false_iff_ne]; omega
  obtain ⟨N, hN⟩ : ∃ N, N = hi * 18446744073709551616 + lo := ⟨_, rfl⟩
  obtain ⟨sh1, sh2⟩ := shifted (hi := hi) hs63 h2
  rw [← hN] at sh1 ⊢
  obtain ⟨Y, hY⟩ : ∃ Y, Y = y * 2 ^ s := ⟨_, rfl⟩
  have fY : IntKind.u64.wrap ((y : Int) * 2 ^ s) = (Y : Int) := by rw [cast_shl, ← hY, IntKind.wrap_u64]; omega
  obtain ⟨Hs, hHs⟩ : ∃ Hs, Hs = hi * 2 ^ s := ⟨_, rfl⟩
  have hHY : Hs < Y := by rw [hHs, hY]; exact Nat.mul_lt_mul_of_pos_right h1 (pow_pos2 s)
  have fH : IntKind.u64.wrap ((hi : Int) * 2 ^ s) = (Hs : Int) := by rw [cast_shl, ← hHs, IntKind.wrap_u64]; omega
  obtain ⟨A, hA⟩ : ∃ A, A = Hs + lo / 2 ^ (64 - s) := ⟨_, rfl⟩
  have hAY : A < Y := by
    have a1 : hi + 1 ≤ y := h1
    have a2 : (hi + 1) * 2 ^ s ≤ y * 2 ^ s := Nat.mul_le_mul_right _ a1
    rw [Nat.add_mul, Nat.one_mul, ← hHs, ← hY] at a2
    omega
  have fA : bits .or .u64 (Hs : Int) ((lo : Int) / 2 ^ (64 - s)) = (A : Int) := by
    rw [cast_shr, bits_or_u64_nat _ _ (by omega) (by omega), hHs]
    have := Nat.shiftLeft_add_eq_or_of_lt sh2 hi
    rw [Nat.shiftLeft_eq] at this
    rw [← this, ← hHs, hA]
  obtain ⟨B, hB⟩ : ∃ B, B = lo * 2 ^ s % 18446744073709551616 := ⟨_, rfl⟩
  have fB : IntKind.u64.wrap ((lo : Int) * 2 ^ s) = (B : Int) := by rw [cast_shl, hB, IntKind.wrap_u64]; omega
  rw [← hB, ← hHs, ← hA] at sh1
  have hBl : B < 18446744073709551616 := by rw [hB]; exact Nat.mod_lt _ (by decide)
  rw [← hY] at n3 n4
  obtain ⟨y1, hy1⟩ : ∃ y1, y1 = Y / 4294967296 := ⟨_, rfl⟩
  obtain ⟨y0, hy0⟩ : ∃ y0, y0 = Y % 4294967296 := ⟨_, rfl⟩
  obtain ⟨u1, hu1⟩ : ∃ u1, u1 = B / 4294967296 := ⟨_, rfl⟩
  obtain ⟨u0, hu0⟩ : ∃ u0, u0 = B % 4294967296 := ⟨_, rfl⟩
  have k1 : (Y : Int) / 4294967296 = (y1 : Int) := by omega
  have k0 : bits .and .u64 (Y : Int) 4294967295 = (y0 : Int) := by rw [and_mask Y n4, hy0]
  have k3 : (B : Int) / 4294967296 = (u1 : Int) := by omega
  have k4 : bits .and .u64 (B : Int) 4294967295 = (u0 : Int) := by rw [and_mask B hBl, hu0]
  have hYe : Y = y1 * 4294967296 + y0 := by omega
  have hBe : B = u1 * 4294967296 + u0 := by omega
  have hy0l : y0 < 4294967296 := by omega
  have hy1l : 2147483648 ≤ y1 := by omega
  have hy1u : y1 < 4294967296 := by omega
  have hu1l : u1 < 4294967296 := by omega
  have hu0l : u0 < 4294967296 := by omega
  have hYp : 0 < y1 * 4294967296 + y0 := by omega
  obtain ⟨g1, g2, g3⟩ := guess0 (u := u1) hy1l hy0l hu1l (show A < y1 * 4294967296 + y0 by omega)
  obtain ⟨Q1, hQ1⟩ : ∃ Q1, Q1 = (A * 4294967296 + u1) / (y1 * 4294967296 + y0) := ⟨_, rfl⟩
  obtain ⟨q1, hq1⟩ : ∃ q1, q1 = A / y1 := ⟨_, rfl⟩
  obtain ⟨r1, hr1⟩ : ∃ r1, r1 = A % y1 := ⟨_, rfl⟩
  rw [← hQ1] at g1 g3
  rw [← hq1] at g1 g2
  have HTa : Hid (Q1 = (A * 4294967296 + u1) / (y1 * 4294967296 + y0)) := hQ1
  have gUa : Hid (A = q1 * y1 + r1) := by show A = _; rw [hq1, hr1]; exact (Nat.div_add_mod' A y1).symm
  have gQa : Q1 ≤ q1 := g1
  have gqa : q1 ≤ 4294967297 := g2
  have gra : r1 < 4294967296 := by have := Nat.mod_lt A (show 0 < y1 by omega); omega
  have hQ1l : Q1 < 4294967296 := g3
  have v1 : (A : Int).tdiv (y1 : Int) = (q1 : Int) := by rw [hq1, Int.tdiv_eq_ediv_of_nonneg (by omega)]; simp
  have v2 : IntKind.u64.wrap (q1 : Int) = (q1 : Int) := by rw [IntKind.wrap_u64]; omega
  obtain ⟨X, hX⟩ : ∃ X, X = q1 * y1 := ⟨_, rfl⟩
  have hXA : X + r1 = A := by rw [hX]; exact gUa.out.symm
  have v3 : IntKind.u64.wrap ((q1 : Int) * (y1 : Int)) = (X : Int) := by rw [← Int.natCast_mul, ← hX, IntKind.wrap_u64]; omega
  have v4 : IntKind.u64.wrap ((A : Int) - (X : Int)) = (r1 : Int) := by rw [IntKind.wrap_u64]; omega
  have v5 : ((y1 : Int) == 0) = false := by rw [beq_eq_false_iff_ne]; omega
  -- the second digit
  obtain ⟨R1, hR1⟩ : ∃ R1, R1 = (A * 4294967296 + u1) % (y1 * 4294967296 + y0) := ⟨_, rfl⟩
  have hT1 : A * 4294967296 + u1 = Q1 * Y + R1 := by rw [hQ1, hR1, hYe]; exact (Nat.div_add_mod' _ _).symm
  have hR1l : R1 < y1 * 4294967296 + y0 := by rw [hR1]; exact Nat.mod_lt _ hYp
  obtain ⟨m1, m2, m3⟩ := guess0 (u := u0) hy1l hy0l hu0l hR1l
  obtain ⟨Q0, hQ0⟩ : ∃ Q0, Q0 = (R1 * 4294967296 + u0) / (y1 * 4294967296 + y0) := ⟨_, rfl⟩
  obtain ⟨R0, hR0⟩ : ∃ R0, R0 = (R1 * 4294967296 + u0) % (y1 * 4294967296 + y0) := ⟨_, rfl⟩
  obtain ⟨q0, hq0⟩ : ∃ q0, q0 = R1 / y1 := ⟨_, rfl⟩
  obtain ⟨r0, hr0⟩ : ∃ r0, r0 = R1 % y1 := ⟨_, rfl⟩
  rw [← hQ0] at m1 m3
  rw [← hq0] at m1 m2
  have hT0 : R1 * 4294967296 + u0 = Q0 * Y + R0 := by rw [hQ0, hR0, hYe]; exact (Nat.div_add_mod' _ _).symm
  have hR0l : R0 < Y := by rw [hR0, hYe]; exact Nat.mod_lt _ hYp
  have HTb : Hid (Q0 = (R1 * 4294967296 + u0) / (y1 * 4294967296 + y0)) := hQ0
  have gUb : Hid (R1 = q0 * y1 + r0) := by show R1 = _; rw [hq0, hr0]; exact (Nat.div_add_mod' R1 y1).symm
  have gQb : Q0 ≤ q0 := m1
  have gqb : q0 ≤ 4294967297 := m2
  have grb : r0 < 4294967296 := by have := Nat.mod_lt R1 (show 0 < y1 by omega); omega
  have hQ0l : Q0 < 4294967296 := m3
  obtain ⟨fd, fr⟩ := two_digits (N := N) (y := y) (s := s) (by rw [sh1, hBe]) (by rw [← hY]; exact hT1) (by rw [← hY]; exact hT0) (by rw [← hY]; exact hR0l) (by omega)
  have RES1 : Hid ((N / y : Nat) = Q1 * 4294967296 + Q0) := fd
  have RES2 : Hid ((N % y : Nat) = R0 / 2 ^ s) := fr
  -- what stands between the loops
  obtain ⟨X1, hX1⟩ : ∃ X, X = A * 4294967296 % 18446744073709551616 := ⟨_, rfl⟩
  obtain ⟨X2, hX2⟩ : ∃ X, X = (X1 + u1) % 18446744073709551616 := ⟨_, rfl⟩
  obtain ⟨X3, hX3⟩ : ∃ X, X = Q1 * Y % 18446744073709551616 := ⟨_, rfl⟩
  have p1 : IntKind.u64.wrap ((A : Int) * 4294967296) = (X1 : Int) := by rw [IntKind.wrap_u64]; omega
  have p2 : IntKind.u64.wrap ((X1 : Int) + (u1 : Int)) = (X2 : Int) := by rw [IntKind.wrap_u64]; omega
  have p3 : IntKind.u64.wrap ((Q1 : Int) * (Y : Int)) = (X3 : Int) := by rw [← Int.natCast_mul, IntKind.wrap_u64, hX3]; omega
  have p4 : IntKind.u64.wrap ((X2 : Int) - (X3 : Int)) = (R1 : Int) := by
    have := wrap_rest (Y := Y) (q := Q1) (R := R1) rfl hT1 (by omega)
    rw [← hX1, ← hX2, ← hX3] at this
    rw [IntKind.wrap_u64]; omega
  have w1 : (R1 : Int).tdiv (y1 : Int) = (q0 : Int) := by rw [hq0, Int.tdiv_eq_ediv_of_nonneg (by omega)]; simp
  have w2 : IntKind.u64.wrap (q0 : Int) = (q0 : Int) := by rw [IntKind.wrap_u64]; omega
  obtain ⟨V, hV⟩ : ∃ V, V = q0 * y1 := ⟨_, rfl⟩
  have hVR : V + r0 = R1 := by rw [hV]; exact gUb.out.symm
  have w3 : IntKind.u64.wrap ((q0 : Int) * (y1 : Int)) = (V : Int) := by rw [← Int.natCast_mul, ← hV, IntKind.wrap_u64]; omega
  have w4 : IntKind.u64.wrap ((R1 : Int) - (V : Int)) = (r0 : Int) := by rw [IntKind.wrap_u64]; omega
  -- the end
  obtain ⟨Z1, hZ1⟩ : ∃ X, X = R1 * 4294967296 % 18446744073709551616 := ⟨_, rfl⟩
  obtain ⟨Z2, hZ2⟩ : ∃ X, X = (Z1 + u0) % 18446744073709551616 := ⟨_, rfl⟩
  obtain ⟨Z3, hZ3⟩ : ∃ X, X = Q0 * Y % 18446744073709551616 := ⟨_, rfl⟩
  have e1 : IntKind.u64.wrap ((R1 : Int) * 4294967296) = (Z1 : Int) := by rw [IntKind.wrap_u64]; omega
  have e2 : IntKind.u64.wrap ((Z1 : Int) + (u0 : Int)) = (Z2 : Int) := by rw [IntKind.wrap_u64]; omega
  have e3 : IntKind.u64.wrap ((Q0 : Int) * (Y : Int)) = (Z3 : Int) := by rw [← Int.natCast_mul, IntKind.wrap_u64, hZ3]; omega
  have e4 : IntKind.u64.wrap ((Z2 : Int) - (Z3 : Int)) = (R0 : Int) := by
    have := wrap_rest (Y := Y) (q := Q0) (R := R0) rfl hT0 (by omega)
    rw [← hZ1, ← hZ2, ← hZ3] at this
    rw [IntKind.wrap_u64]; omega
  have e5 : IntKind.u64.wrap ((Q1 : Int) * 4294967296) = (Q1 : Int) * 4294967296 := by rw [IntKind.wrap_u64]; omega
  have e6 : IntKind.u64.wrap ((Q1 : Int) * 4294967296 + (Q0 : Int)) = (Q1 : Int) * 4294967296 + (Q0 : Int) := by rw [IntKind.wrap_u64]; omega
  have hR0b : R0 < 18446744073709551616 := by omega
  clear hN sh1 sh2 hY hHs hHY hA hAY hB hBl n3 n4 hy1 hy0 hu1 hu0 hYe hBe hQ1 hq1 hr1 g1 g2 g3 hX hXA hR1 hT1 hR1l m1 m2 m3 hQ0 hR0 hq0 hr0 hT0 hR0l fd fr hX1 hX2 hX3 hV hVR hZ1 hZ2 hZ3 h0 h1 h2 hy hs63
  go_enter Tryz.func47, Tryz.ntmps47
  go_wp2_with fail
  refine (L.out _).mono ?_
  rintro e wx ⟨rfl, hwx⟩; have hwx2 := hwx.symm; subst hwx2; clear hwx
  go_upto_block 0 with fail
  go_cut [15, 16] from 67 to 85 (fun a b wx => a = .int .u64 (Q1 : Int) ∧ wx = w)
  case first =>
    go_wp2_with fail
    go_loop [15, 16] (fun a b => ∃ q r : Nat, a = .int .u64 (q : Int) ∧ b = .int .u64 (r : Int) ∧ Q1 ≤ q ∧ q ≤ 4294967297 ∧ r < 4294967296 ∧ Hid (A = q * y1 + r)) (fun a _ => (intOf a).toNat)
    case atStart => exact ⟨q1, r1, rfl, rfl, gQa, gqa, gra, gUa⟩
    case round =>
      obtain ⟨q, r, rfl, rfl, hQq, hq7, hr32, hU⟩ := hrel
      obtain ⟨Z, hZ⟩ : ∃ Z, Z = q * y0 := ⟨_, rfl⟩
      have d1 : IntKind.u64.wrap (4294967296 * (r : Int)) = 4294967296 * (r : Int) := by rw [IntKind.wrap_u64]; omega
      have d2 : IntKind.u64.wrap (4294967296 * (r : Int) + (u1 : Int)) = 4294967296 * (r : Int) + (u1 : Int) := by rw [IntKind.wrap_u64]; omega
      have tst : (Q1 < q) ↔ (r * 4294967296 + u1 < Z) := by
        rw [hZ, ← guess (y1 := y1) (y0 := y0) (U := A) (u := u1) hU.out, ← digit_gt hYp, ← HTa.out]
      by_cases hgt : Q1 < q
      · have hq1 : 1 ≤ q := by omega
        have nxt : Hid (A = (q - 1) * y1 + (r + y1)) := guess_next hq1 hU.out
        have hq2 : q - 1 ≤ 4294967296 := by omega
        have hQ2 : Q1 ≤ q - 1 := by omega
        have stp : Hid (4294967296 ≤ r + y1 → q - 1 = Q1) := fun h => by
          have h5 := guess_stop (u := u1) hy0l hq2 h nxt.out
          rw [HTa.out] at hQ2 ⊢
          exact digit_eq hYp hQ2 h5
        by_cases hbig : 4294967296 ≤ q
        · have c1 : (4294967296 : Int) ≤ (q : Int) := by omega
          by_cases hbr : 4294967296 ≤ r + y1
          · have c5 : (4294967296 : Int) ≤ (r : Int) + (y1 : Int) := by omega
            have fin : ((q : Int) - 1) = (Q1 : Int) := by have := stp.out hbr; omega
            clear tst hgt hbig hbr hU hZ stp nxt
            go_wp2_with fail
            go_meet
            case rel => exact ⟨by first | rfl | (rw [fin]), rfl⟩
          · have c5 : ¬ (4294967296 : Int) ≤ (r : Int) + (y1 : Int) := by omega
            clear tst hgt hbig hU hZ stp
            go_wp2_with fail
            go_round
            case rel => exact ⟨q - 1, r + y1, by rw [show ((q - 1 : Nat) : Int) = (q : Int) - 1 by omega], by rw [show ((r + y1 : Nat) : Int) = (r : Int) + (y1 : Int) by omega], hQ2, by omega, by omega, nxt⟩
            case measure => simp [intOf]; omega
        · have c1 : ¬ (4294967296 : Int) ≤ (q : Int) := by omega
          have hZl : Z < 18446744073709551616 := by
            rw [hZ]
            calc q * y0 ≤ 4294967295 * 4294967295 := Nat.mul_le_mul (by omega) (by omega)
              _ < 18446744073709551616 := by decide
          have d5 : IntKind.u64.wrap ((q : Int) * (y0 : Int)) = (Z : Int) := by rw [← Int.natCast_mul, ← hZ, IntKind.wrap_u64]; omega
          have c3 : 4294967296 * (r : Int) + (u1 : Int) < (Z : Int) := by have := tst.1 hgt; omega
          by_cases hbr : 4294967296 ≤ r + y1
          · have c5 : (4294967296 : Int) ≤ (r : Int) + (y1 : Int) := by omega
            have fin : ((q : Int) - 1) = (Q1 : Int) := by have := stp.out hbr; omega
            clear tst hgt hbig hbr hU hZ stp nxt
            go_wp2_with fail
            go_meet
            case rel => exact ⟨by first | rfl | (rw [fin]), rfl⟩
          · have c5 : ¬ (4294967296 : Int) ≤ (r : Int) + (y1 : Int) := by omega
            clear tst hgt hbig hU hZ stp
            go_wp2_with fail
            go_round
            case rel => exact ⟨q - 1, r + y1, by rw [show ((q - 1 : Nat) : Int) = (q : Int) - 1 by omega], by rw [show ((r + y1 : Nat) : Int) = (r : Int) + (y1 : Int) by omega], hQ2, by omega, by omega, nxt⟩
            case measure => simp [intOf]; omega
      · obtain rfl : Q1 = q := by omega
        have c1 : ¬ (4294967296 : Int) ≤ (Q1 : Int) := by omega
        have hZl : Z < 18446744073709551616 := by
          rw [hZ]
          calc Q1 * y0 ≤ 4294967295 * 4294967295 := Nat.mul_le_mul (by omega) (by omega)
            _ < 18446744073709551616 := by decide
        have d5 : IntKind.u64.wrap ((Q1 : Int) * (y0 : Int)) = (Z : Int) := by rw [← Int.natCast_mul, ← hZ, IntKind.wrap_u64]; omega
        have c3 : ¬ (4294967296 * (r : Int) + (u1 : Int) < (Z : Int)) := by have := fun h => hgt (tst.2 h); omega
        clear tst hgt hU hZ
        go_wp2_with fail
        go_meet
        case rel => exact ⟨rfl, rfl⟩
  case rest =>
    obtain ⟨rfl, hwc⟩ := hcut
    have hwc2 := hwc.symm
    subst hwc2
    clear hwc
    clear v1 v2 v3 v4 fY fH fA fB k1 k0 k3 k4 ws gUa gQa gqa gra
    go_upto_block 2 with fail
    go_cut [18, 16] from 102 to 120 (fun a b wx => a = .int .u64 (Q0 : Int) ∧ wx = w)
    case first =>
      go_wp2_with fail
      go_loop [18, 16] (fun a b => ∃ q r : Nat, a = .int .u64 (q : Int) ∧ b = .int .u64 (r : Int) ∧ Q0 ≤ q ∧ q ≤ 4294967297 ∧ r < 4294967296 ∧ Hid (R1 = q * y1 + r)) (fun a _ => (intOf a).toNat)
      case atStart => exact ⟨q0, r0, rfl, rfl, gQb, gqb, grb, gUb⟩
      case round =>
        obtain ⟨q, r, rfl, rfl, hQq, hq7, hr32, hU⟩ := hrel
        obtain ⟨Z, hZ⟩ : ∃ Z, Z = q * y0 := ⟨_, rfl⟩
        have d1 : IntKind.u64.wrap (4294967296 * (r : Int)) = 4294967296 * (r : Int) := by rw [IntKind.wrap_u64]; omega
        have d2 : IntKind.u64.wrap (4294967296 * (r : Int) + (u0 : Int)) = 4294967296 * (r : Int) + (u0 : Int) := by rw [IntKind.wrap_u64]; omega
        have tst : (Q0 < q) ↔ (r * 4294967296 + u0 < Z) := by
          rw [hZ, ← guess (y1 := y1) (y0 := y0) (U := R1) (u := u0) hU.out, ← digit_gt hYp, ← HTb.out]
        by_cases hgt : Q0 < q
        · have hq1 : 1 ≤ q := by omega
          have nxt : Hid (R1 = (q - 1) * y1 + (r + y1)) := guess_next hq1 hU.out
          have hq2 : q - 1 ≤ 4294967296 := by omega
          have hQ2 : Q0 ≤ q - 1 := by omega
          have stp : Hid (4294967296 ≤ r + y1 → q - 1 = Q0) := fun h => by
            have h5 := guess_stop (u := u0) hy0l hq2 h nxt.out
            rw [HTb.out] at hQ2 ⊢
            exact digit_eq hYp hQ2 h5
          by_cases hbig : 4294967296 ≤ q
          · have c1 : (4294967296 : Int) ≤ (q : Int) := by omega
            by_cases hbr : 4294967296 ≤ r + y1
            · have c5 : (4294967296 : Int) ≤ (r : Int) + (y1 : Int) := by omega
              have fin : ((q : Int) - 1) = (Q0 : Int) := by have := stp.out hbr; omega
              clear tst hgt hbig hbr hU hZ stp nxt
              go_wp2_with fail
              go_meet
              case rel => exact ⟨by first | rfl | (rw [fin]), rfl⟩
            · have c5 : ¬ (4294967296 : Int) ≤ (r : Int) + (y1 : Int) := by omega
              clear tst hgt hbig hU hZ stp
              go_wp2_with fail
              go_round
              case rel => exact ⟨q - 1, r + y1, by rw [show ((q - 1 : Nat) : Int) = (q : Int) - 1 by omega], by rw [show ((r + y1 : Nat) : Int) = (r : Int) + (y1 : Int) by omega], hQ2, by omega, by omega, nxt⟩
              case measure => simp [intOf]; omega
          · have c1 : ¬ (4294967296 : Int) ≤ (q : Int) := by omega
            have hZl : Z < 18446744073709551616 := by
              rw [hZ]
              calc q * y0 ≤ 4294967295 * 4294967295 := Nat.mul_le_mul (by omega) (by omega)
                _ < 18446744073709551616 := by decide
            have d5 : IntKind.u64.wrap ((q : Int) * (y0 : Int)) = (Z : Int) := by rw [← Int.natCast_mul, ← hZ, IntKind.wrap_u64]; omega
            have c3 : 4294967296 * (r : Int) + (u0 : Int) < (Z : Int) := by have := tst.1 hgt; omega
            by_cases hbr : 4294967296 ≤ r + y1
            · have c5 : (4294967296 : Int) ≤ (r : Int) + (y1 : Int) := by omega
              have fin : ((q : Int) - 1) = (Q0 : Int) := by have := stp.out hbr; omega
              clear tst hgt hbig hbr hU hZ stp nxt
              go_wp2_with fail
              go_meet
              case rel => exact ⟨by first | rfl | (rw [fin]), rfl⟩
            · have c5 : ¬ (4294967296 : Int) ≤ (r : Int) + (y1 : Int) := by omega
              clear tst hgt hbig hU hZ stp
              go_wp2_with fail
              go_round
              case rel => exact ⟨q - 1, r + y1, by rw [show ((q - 1 : Nat) : Int) = (q : Int) - 1 by omega], by rw [show ((r + y1 : Nat) : Int) = (r : Int) + (y1 : Int) by omega], hQ2, by omega, by omega, nxt⟩
              case measure => simp [intOf]; omega
        · obtain rfl : Q0 = q := by omega
          have c1 : ¬ (4294967296 : Int) ≤ (Q0 : Int) := by omega
          have hZl : Z < 18446744073709551616 := by
            rw [hZ]
            calc Q0 * y0 ≤ 4294967295 * 4294967295 := Nat.mul_le_mul (by omega) (by omega)
              _ < 18446744073709551616 := by decide
          have d5 : IntKind.u64.wrap ((Q0 : Int) * (y0 : Int)) = (Z : Int) := by rw [← Int.natCast_mul, ← hZ, IntKind.wrap_u64]; omega
          have c3 : ¬ (4294967296 * (r : Int) + (u0 : Int) < (Z : Int)) := by have := fun h => hgt (tst.2 h); omega
          clear tst hgt hU hZ
          go_wp2_with fail
          go_meet
          case rel => exact ⟨rfl, rfl⟩
    case rest =>
      obtain ⟨rfl, hwc⟩ := hcut
      have hwc2 := hwc.symm
      subst hwc2
      clear hwc
      clear p1 p2 p3 p4 w1 w2 w3 w4
      go_wp2_with fail
      refine bodyPost_ret (v := .tuple #[.int .u64 ((Q1 : Int) * 4294967296 + (Q0 : Int)), .int .u64 ((R0 : Int) / 2 ^ s)]) (by simp [results, Tryz.results47, go_sem]) rfl ⟨?_, rfl⟩
      rw [RES1.out, RES2.out, cast_shr]
      simp
end Go.Proofs.YtppcoimfgafbfaaGreatDoor
