/-
  math/bits.Div64 by ten thousand.
-/
import Derived.Test.YtjdnbgnjgicbbaaDoorRcL
import Derived.Laws.Bits64b
import Derived.Deep.CutBlock
namespace Go.Proofs.YtjdnbgnjgicbbaaDoor
open Go.RowKit Go.Shelf

set_option maxHeartbeats 1000000 in
theorem Div64_zero (lo y : Nat) (w : World) (hy : 1 ≤ y) (hlo : lo < 18446744073709551616) (hy2 : y < 18446744073709551616) :
    Calls Tryd.prog 48 #[.int .u64 0, .int .u64 lo, .int .u64 y] w fun e w' => e = .returned (.tuple #[.int .u64 ((lo / y : Nat) : Int), .int .u64 ((lo % y : Nat) : Int)]) ∧ Below w.heap.size w w' := by
  have h1 : (1 : Int) ≤ (y : Int) := by omega
  have hq : ((lo : Int) / (y : Int)) ≤ 18446744073709551615 := by rw [← Int.natCast_ediv]; have := Nat.div_le_self lo y; omega
  have hq0 : 0 ≤ ((lo : Int) / (y : Int)) := by rw [← Int.natCast_ediv]; exact Int.natCast_nonneg _
  have hr : ((lo : Int) % (y : Int)) ≤ 18446744073709551615 := by rw [← Int.natCast_emod]; have := Nat.mod_le lo y; omega
  have hr0 : 0 ≤ ((lo : Int) % (y : Int)) := by rw [← Int.natCast_emod]; exact Int.natCast_nonneg _
  have hy0 : ((y : Int) == 0) = false := by rw [beq_eq_false_iff_ne]; omega
  rw [Int.natCast_ediv, Int.natCast_emod]
  go_enter Tryd.func48, Tryd.ntmps48
  go_wp2_with fail
  go_quiet (fail)
  go_wp2_with fail
  go_ret2
  exact ⟨rfl, below_drewN (Below.refl _ _) _⟩

set_option maxHeartbeats 2000000 in
set_option maxRecDepth 1000000 in
theorem Len64_10k (w : World) : Calls Tryd.prog 50 #[.int .u64 10000] w fun e w' => e = .returned (.int .i64 14) ∧ w' = w := by
  go_enter Tryd.func50, Tryd.ntmps50
  go_wp2
  go_ret
  exact ⟨by kernel_rfl, rfl⟩
set_option maxHeartbeats 2000000 in
theorem LZ64_10k (w : World) : Calls Tryd.prog 49 #[.int .u64 10000] w fun e w' => e = .returned (.int .i64 50) ∧ w' = w := by
  have L : Hid (∀ w, Calls Tryd.prog 50 #[.int .u64 10000] w fun e w' => e = .returned (.int .i64 14) ∧ w' = w) := Len64_10k
  go_enter Tryd.func49, Tryd.ntmps49
  go_wp2_with fail
  refine (L.out _).mono ?_
  rintro e wx ⟨rfl, hwx⟩; have hwx2 := hwx.symm; subst hwx2; clear hwx
  go_wp2_with fail
  go_ret
  exact ⟨rfl, rfl⟩

theorem castQ (hi lo : Nat) : (((hi * 18446744073709551616 + lo) / 10000 : Nat) : Int) = ((hi : Int) * 18446744073709551616 + (lo : Int)) / 10000 := by omega
theorem castR (hi lo : Nat) : (((hi * 18446744073709551616 + lo) % 10000 : Nat) : Int) = ((hi : Int) * 18446744073709551616 + (lo : Int)) % 10000 := by omega
theorem auxB (x : Nat) : x * 1125899906842624 = x * 1125899906842624 / 4294967296 * 4294967296 := by omega
set_option maxRecDepth 100000 in
/-- the two halves of the quotient, and what is left -/
theorem aux10k {hi lo A B Q1 R1 U1 V Q0 R0 : Nat} (hA : A = hi * 1125899906842624 + lo / 16384) (hB : B = lo % 16384 * 1125899906842624) (hQ : A = Q1 * 2621440000 + R1) (hU : B = U1 * 4294967296)
    (hV : V = R1 * 4294967296 + U1) (hQ0 : V = Q0 * 2621440000 + R0) (hR0 : R0 < 2621440000) : (hi * 18446744073709551616 + lo) / 10000 = Q1 * 4294967296 + Q0 ∧ (hi * 18446744073709551616 + lo) % 10000 = R0 / 262144 := by
  have hU' : U1 = lo % 16384 * 262144 := by omega
  clear hB hU
  obtain ⟨l0, hl0⟩ : ∃ l0, l0 = lo % 16384 := ⟨_, rfl⟩
  obtain ⟨l1, hl1⟩ : ∃ l1, l1 = lo / 16384 := ⟨_, rfl⟩
  have hlo : lo = l1 * 16384 + l0 := by omega
  rw [← hl0] at hU'
  rw [← hl1] at hA
  clear hl0 hl1
  have e2 : R0 / 262144 < 10000 := by omega
  have e3 : R1 * 16384 + l0 = Q0 * 10000 + R0 / 262144 := by omega
  generalize R0 / 262144 = r at *
  clear hV hQ0 hR0 hU'
  have e4 : hi * 18446744073709551616 + lo = (Q1 * 4294967296 + Q0) * 10000 + r := by omega
  rw [e4]
  clear e4 hA hQ hlo e3
  generalize Q1 * 4294967296 + Q0 = P
  omega

set_option maxHeartbeats 4000000 in
set_option maxRecDepth 1000000 in
theorem Div64_10k (hi lo : Nat) (w : World) (h0 : 1 ≤ hi) (h1 : hi < 10000) (h2 : lo < 18446744073709551616) :
    Calls Tryd.prog 48 #[.int .u64 (hi : Int), .int .u64 (lo : Int), .int .u64 10000] w fun e w' => e = .returned (.tuple #[.int .u64 (((hi * 18446744073709551616 + lo) / 10000 : Nat) : Int), .int .u64 (((hi * 18446744073709551616 + lo) % 10000 : Nat) : Int)]) ∧ w' = w := by
  have L : Hid (∀ w, Calls Tryd.prog 49 #[.int .u64 10000] w fun e w' => e = .returned (.int .i64 50) ∧ w' = w) := LZ64_10k
  go_enter Tryd.func48, Tryd.ntmps48
  go_wp2_with fail
  refine (L.out _).mono ?_
  rintro e wx ⟨rfl, hwx⟩; have hwx2 := hwx.symm; subst hwx2; clear hwx
  obtain ⟨A, hA⟩ : ∃ A : Nat, A = hi * 1125899906842624 + lo / 16384 := ⟨_, rfl⟩
  obtain ⟨B, hB⟩ : ∃ B : Nat, B = lo % 16384 * 1125899906842624 := ⟨_, rfl⟩
  have f0 : bits .and .u64 11258999068426240000 4294967295 = 0 := by kernel_rfl
  have fA : bits .or .u64 ((hi : Int) * 1125899906842624) ((lo : Int) / 16384) = (A : Int) := by
    have g1 : (hi : Int) * 1125899906842624 = ((hi * 1125899906842624 : Nat) : Int) := by omega
    have g2 : (lo : Int) / 16384 = ((lo / 16384 : Nat) : Int) := by omega
    rw [g1, g2, bits_or_u64_nat _ _ (by omega) (by omega)]
    have := Nat.shiftLeft_add_eq_or_of_lt (b := lo / 16384) (i := 50) (by omega) hi
    rw [Nat.shiftLeft_eq] at this
    rw [hA, ← this]
  have fB : IntKind.u64.wrap ((lo : Int) * 1125899906842624) = (B : Int) := by rw [IntKind.wrap_u64]; omega
  have fC : bits .and .u64 (B : Int) 4294967295 = 0 := by
    have g2 : (4294967295 : Int) = ((4294967295 : Nat) : Int) := rfl
    rw [g2, bits_and_u64_nat _ _ (by omega) (by omega)]
    have : B &&& 4294967295 = B % 2 ^ 32 := Nat.and_two_pow_sub_one_eq_mod B 32
    rw [this]; omega
  have hAl : A < 11258999068426240000 := by omega
  have hBl : B < 18446744073709551616 := by omega
  have HA : Hid (A = hi * 1125899906842624 + lo / 16384) := hA
  have HB : Hid (B = lo % 16384 * 1125899906842624) := hB
  obtain ⟨Q1, hQ1⟩ : ∃ Q1 : Nat, Q1 = A / 2621440000 := ⟨_, rfl⟩
  obtain ⟨R1, hR1⟩ : ∃ R1 : Nat, R1 = A % 2621440000 := ⟨_, rfl⟩
  obtain ⟨U1, hU1⟩ : ∃ U1 : Nat, U1 = B / 4294967296 := ⟨_, rfl⟩
  have k1 : (A : Int) / 2621440000 = (Q1 : Int) := by omega
  have k2 : (A : Int) - (Q1 : Int) * 2621440000 = (R1 : Int) := by omega
  have k3 : (B : Int) / 4294967296 = (U1 : Int) := by omega
  have hQl : Q1 < 4294967296 := by omega
  have hRl : R1 < 2621440000 := by omega
  have hUl : U1 < 4294967296 := by omega
  have hQ2 : A = Q1 * 2621440000 + R1 := by rw [hQ1, hR1]; exact (Nat.div_add_mod' A 2621440000).symm
  have hU2 : B = U1 * 4294967296 := by rw [hU1, hB]; exact auxB _
  have HQ : Hid (A = Q1 * 2621440000 + R1) := hQ2
  have HU : Hid (B = U1 * 4294967296) := hU2
  clear hA hB hQ1 hR1 hU1 hQ2 hU2
  go_wp2_with fail
  go_loop [15, 16] (fun a b => a = .int .u64 (Q1 : Int) ∧ b = .int .u64 (R1 : Int)) (fun _ _ => 0)
  case atStart => exact ⟨rfl, rfl⟩
  case round =>
    obtain ⟨rfl, rfl⟩ := hrel
    clear k1 k2 k3 f0 fA fB fC h0 h1 h2
    have c1 : ¬ (4294967296 : Int) ≤ (Q1 : Int) := by omega
    have c2 : IntKind.u64.wrap (4294967296 * (R1 : Int)) = 4294967296 * (R1 : Int) := by rw [IntKind.wrap_u64]; omega
    have c3 : IntKind.u64.wrap (4294967296 * (R1 : Int) + (U1 : Int)) = 4294967296 * (R1 : Int) + (U1 : Int) := by rw [IntKind.wrap_u64]; omega
    have c4 : ¬ (4294967296 * (R1 : Int) + (U1 : Int)) < 0 := by omega
    obtain ⟨V, hV⟩ : ∃ V : Nat, V = R1 * 4294967296 + U1 := ⟨_, rfl⟩
    obtain ⟨X1, hX1⟩ : ∃ X : Nat, X = A * 4294967296 % 18446744073709551616 := ⟨_, rfl⟩
    obtain ⟨X2, hX2⟩ : ∃ X : Nat, X = (X1 + U1) % 18446744073709551616 := ⟨_, rfl⟩
    obtain ⟨X3, hX3⟩ : ∃ X : Nat, X = Q1 * 11258999068426240000 % 18446744073709551616 := ⟨_, rfl⟩
    obtain ⟨Q0, hQ0⟩ : ∃ X : Nat, X = V / 2621440000 := ⟨_, rfl⟩
    obtain ⟨R0, hR0⟩ : ∃ X : Nat, X = V % 2621440000 := ⟨_, rfl⟩
    have HV : Hid (V = R1 * 4294967296 + U1) := hV
    have hQ02 : V = Q0 * 2621440000 + R0 := by rw [hQ0, hR0]; exact (Nat.div_add_mod' V 2621440000).symm
    have HQ0 : Hid (V = Q0 * 2621440000 + R0) := hQ02
    have m1 : IntKind.u64.wrap ((A : Int) * 4294967296) = (X1 : Int) := by rw [IntKind.wrap_u64]; omega
    have m2 : IntKind.u64.wrap ((X1 : Int) + (U1 : Int)) = (X2 : Int) := by rw [IntKind.wrap_u64]; omega
    have m3 : IntKind.u64.wrap ((Q1 : Int) * 11258999068426240000) = (X3 : Int) := by rw [IntKind.wrap_u64]; omega
    have m4 : IntKind.u64.wrap ((X2 : Int) - (X3 : Int)) = (V : Int) := by
      rw [IntKind.wrap_u64]
      have := HQ.out
      omega
    have hVl : V < 11258999068426240000 := by omega
    have n1 : (V : Int) / 2621440000 = (Q0 : Int) := by omega
    have n2 : (V : Int) - (Q0 : Int) * 2621440000 = (R0 : Int) := by omega
    have hQ0l : Q0 < 4294967296 := by omega
    have hR0l : R0 < 2621440000 := by omega
    clear hV hX1 hX2 hX3 hQ0 hR0 hQ02
    go_upto_block 0 with fail
    go_loop [18, 16] (fun a b => a = .int .u64 (Q0 : Int) ∧ b = .int .u64 (R0 : Int)) (fun _ _ => 0)
    case atStart => exact ⟨rfl, rfl⟩
    case round =>
      obtain ⟨rfl, rfl⟩ := hrel
      clear m1 m2 m3 m4 n1 n2 c1 c2 c3 c4
      have c1 : ¬ (4294967296 : Int) ≤ (Q0 : Int) := by omega
      have c2 : IntKind.u64.wrap (4294967296 * (R0 : Int)) = 4294967296 * (R0 : Int) := by rw [IntKind.wrap_u64]; omega
      have c4 : ¬ (4294967296 * (R0 : Int)) < 0 := by omega
      obtain ⟨Y1, hY1⟩ : ∃ X : Nat, X = V * 4294967296 % 18446744073709551616 := ⟨_, rfl⟩
      obtain ⟨Y3, hY3⟩ : ∃ X : Nat, X = Q0 * 11258999068426240000 % 18446744073709551616 := ⟨_, rfl⟩
      have m1 : IntKind.u64.wrap ((V : Int) * 4294967296) = (Y1 : Int) := by rw [IntKind.wrap_u64]; omega
      have m2 : IntKind.u64.wrap (Y1 : Int) = (Y1 : Int) := by rw [IntKind.wrap_u64]; omega
      have m3 : IntKind.u64.wrap ((Q0 : Int) * 11258999068426240000) = (Y3 : Int) := by rw [IntKind.wrap_u64]; omega
      have m4 : IntKind.u64.wrap ((Y1 : Int) - (Y3 : Int)) = ((R0 * 4294967296 : Nat) : Int) := by
        rw [IntKind.wrap_u64]
        have := HQ0.out
        omega
      obtain ⟨Z, hZ⟩ : ∃ Z : Nat, Z = R0 * 4294967296 := ⟨_, rfl⟩
      rw [← hZ] at m4
      have hZl : Z < 18446744073709551616 := by omega
      have fin := aux10k HA.out HB.out HQ.out HU.out HV.out HQ0.out hR0l
      have f1 : Hid ((Q1 : Int) * 4294967296 + (Q0 : Int) = (((hi * 18446744073709551616 + lo) / 10000 : Nat) : Int)) := by
        show (Q1 : Int) * 4294967296 + (Q0 : Int) = _
        rw [fin.1]; omega
      have f2 : Hid ((Z : Int) / 1125899906842624 = (((hi * 18446744073709551616 + lo) % 10000 : Nat) : Int)) := by
        show (Z : Int) / 1125899906842624 = _
        rw [fin.2]; omega
      clear hY1 hY3 fin hZ
      go_upto_block 0 with fail
      refine bodyPost_ret (v := .tuple #[.int .u64 ((Q1 : Int) * 4294967296 + (Q0 : Int)), .int .u64 ((Z : Int) / 1125899906842624)]) (by simp [results, Tryd.results48, go_sem]) rfl ⟨?_, rfl⟩
      rw [f1.out, f2.out, castQ, castR]
end Go.Proofs.YtjdnbgnjgicbbaaDoor
