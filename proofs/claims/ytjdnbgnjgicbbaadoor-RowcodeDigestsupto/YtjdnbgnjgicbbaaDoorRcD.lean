/-
  The walk of rowcode.partsOf: how many ten-thousandths a number is, and 2^79, in two words.
-/
import Derived.Test.YtjdnbgnjgicbbaaDoorRcC
import Derived.Laws.Bits64
namespace Go.Proofs.YtjdnbgnjgicbbaaDoor
open Go.RowKit Go.Shelf

/-- the bounds of an int64 -/
def fit (x : Int) : Prop := -9223372036854775808 ≤ x ∧ x ≤ 9223372036854775807
/-- a number's ten-thousandths -/
def sc (v : Va) : Int := if v.ty = 1 then v.n * 10000 else v.n
/-- those, and 2^79 -/
def numN (v : Va) : Nat := (sc v + 604462909807314587353088).toNat

theorem xor_top (b : Nat) (h : b < 2 ^ 63) : 2 ^ 63 ^^^ b = 2 ^ 63 + b := by
  apply Nat.eq_of_testBit_eq
  intro i
  rw [Nat.testBit_xor]
  by_cases h1 : i < 63
  · rw [Nat.testBit_two_pow_add_gt h1, Nat.testBit_two_pow_of_ne (by omega), Bool.false_xor]
  · by_cases h2 : i = 63
    · subst h2
      rw [Nat.testBit_two_pow_add_eq, Nat.testBit_two_pow_self, Bool.true_xor]
    · have h3 : 2 ^ 64 ≤ 2 ^ i := Nat.pow_le_pow_right (by omega) (by omega)
      rw [Nat.testBit_two_pow_of_ne (by omega), Nat.testBit_lt_two_pow (by omega), Nat.testBit_lt_two_pow (x := 2 ^ 63 + b) (by omega)]
      rfl
theorem xor_sign {n : Int} (hn : fit n) : bits .xor .u64 (IntKind.u64.wrap n) 9223372036854775808 = (((n + 9223372036854775808).toNat : Nat) : Int) := by
  unfold fit at hn
  have e : IntKind.u64.wrap n = (((n % 18446744073709551616).toNat : Nat) : Int) := by rw [IntKind.wrap_u64]; omega
  have hx := bits_xor_u64_nat (n % 18446744073709551616).toNat 9223372036854775808 (by omega) (by omega)
  rw [e]
  have e2 : ((9223372036854775808 : Nat) : Int) = 9223372036854775808 := rfl
  rw [e2] at hx
  rw [hx]
  congr 1
  have t63 : (2 : Nat) ^ 63 = 9223372036854775808 := by decide
  by_cases h : 0 ≤ n
  · have hm : (n % 18446744073709551616).toNat = n.toNat := by omega
    have := xor_top n.toNat (by omega)
    rw [hm, Nat.xor_comm]; rw [t63] at this; rw [this]; omega
  · have hm : (n % 18446744073709551616).toNat = 9223372036854775808 + (n + 9223372036854775808).toNat := by omega
    have := xor_top (n + 9223372036854775808).toNat (by omega)
    rw [t63] at this
    rw [hm, ← this, Nat.xor_comm, ← Nat.xor_assoc, Nat.xor_self, Nat.zero_xor]

set_option maxHeartbeats 2000000 in
set_option maxRecDepth 1000000 in
theorem parts_dec (n : Int) (s : ByteArray) (w : World) (hn : fit n) :
    Calls Tryd.prog 43 #[.agg #[.int .i64 2, .int .i64 n, .string s]] w fun e w' => e = .returned (.tuple #[.int .u64 (((n + 604462909807314587353088).toNat / 18446744073709551616 : Nat) : Int), .int .u64 (((n + 604462909807314587353088).toNat % 18446744073709551616 : Nat) : Int), .int .u8 2]) ∧ Below w.heap.size w w' := by
  unfold fit at hn
  go_enter Tryd.func43, Tryd.ntmps43
  go_wp2_with fail
  go_quiet (fail)
  go_wp2_with fail
  refine bodyPost_ret (v := .tuple #[.int .u64 (32768 + n / 9223372036854775808), .int .u64 (IntKind.u64.wrap n), .int .u8 2]) (by simp [results, Tryd.results43, go_sem]) rfl ⟨?_, below_drewN ((Below.refl _ _).alloc (Nat.le_refl _) _) _⟩
  have e1 : 32768 + n / 9223372036854775808 = (((n + 604462909807314587353088).toNat / 18446744073709551616 : Nat) : Int) := by omega
  have e2 : IntKind.u64.wrap n = (((n + 604462909807314587353088).toNat % 18446744073709551616 : Nat) : Int) := by rw [IntKind.wrap_u64]; omega
  rw [e1, e2]
set_option maxHeartbeats 2000000 in
set_option maxRecDepth 1000000 in
theorem parts_big (n : Int) (s : ByteArray) (w : World) (hn : fit n) :
    Calls Tryd.prog 43 #[.agg #[.int .i64 1, .int .i64 n, .string s]] w fun e w' => e = .returned (.tuple #[.int .u64 (((n * 10000 + 604462909807314587353088).toNat / 18446744073709551616 : Nat) : Int), .int .u64 (((n * 10000 + 604462909807314587353088).toNat % 18446744073709551616 : Nat) : Int), .int .u8 1]) ∧ Below w.heap.size w w' := by
  have hx := xor_sign hn
  unfold fit at hn
  obtain ⟨x, hxn⟩ : ∃ x : Nat, x = (n + 9223372036854775808).toNat := ⟨_, rfl⟩
  rw [← hxn] at hx
  obtain ⟨H, hH⟩ : ∃ H : Nat, H = x * 10000 / 18446744073709551616 := ⟨_, rfl⟩
  obtain ⟨L, hL⟩ : ∃ L : Nat, L = x * 10000 % 18446744073709551616 := ⟨_, rfl⟩
  have C : Hid (∀ w, Calls Tryd.prog 47 #[.int .u64 (bits .xor .u64 (IntKind.u64.wrap n) 9223372036854775808), .int .u64 10000] w fun e w' => e = .returned (.tuple #[.int .u64 (H : Int), .int .u64 (L : Int)]) ∧ w' = w) := fun w => by
    have := Any.bits_Mul64 Tryd.laysMul x 10000 (by omega) (by omega) w
    rw [← hH, ← hL] at this
    rw [hx]; exact this
  have hHb : (H : Int) < 10000 := by omega
  have e1 : (H : Int) + 32768 - 5000 = (((n * 10000 + 604462909807314587353088).toNat / 18446744073709551616 : Nat) : Int) := by omega
  have e2 : (L : Int) = (((n * 10000 + 604462909807314587353088).toNat % 18446744073709551616 : Nat) : Int) := by omega
  rw [← e1, ← e2]
  have BZ : Hid (∀ o, Below w.heap.size w (w.alloc o)) := fun o => (Below.refl _ w).alloc (Nat.le_refl _) o
  clear hx hxn hH hL hn e1 e2
  go_enter Tryd.func43, Tryd.ntmps43
  go_wp2_with fail
  refine (C.out _).mono ?_
  rintro e wx ⟨rfl, rfl⟩
  go_wp2_with fail
  refine bodyPost_ret (v := .tuple #[.int .u64 ((H : Int) + 32768 - 5000), .int .u64 (L : Int), .int .u8 1]) (by simp [results, Tryd.results43, go_sem]) rfl ⟨rfl, BZ.out _⟩
end Go.Proofs.YtjdnbgnjgicbbaaDoor
