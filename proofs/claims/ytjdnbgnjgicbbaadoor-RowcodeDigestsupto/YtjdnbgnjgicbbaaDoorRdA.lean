/-
  The document's answer for layer 2: lockstepref01.Check, lockstepref02.times and number.
-/
import Derived.Test.YtjdnbgnjgicbbaaDoorRcL
import Derived.Test.YtjdnbgnjgicbbaaDoorChkValid
import Derived.Laws.Bits64b
namespace Go.Proofs.YtjdnbgnjgicbbaaDoor
open Go.RowKit Go.Shelf

set_option maxHeartbeats 1000000 in
theorem refCheck_any (ty n : Int) (s : ByteArray) (w : World) :
    Calls Tryd.prog 23 #[.agg #[.int .i64 ty, .int .i64 n, .string s]] w fun e w' => e = .returned (.int .i64 (chk ty n s)) ∧ Below w.heap.size w w' := by
  have hb1 : ∀ o, Below w.heap.size w (w.alloc o) := fun o => (Below.refl _ w).alloc (Nat.le_refl _) o
  by_cases h0 : ty < 0
  · rw [chk, if_pos (by omega)]
    go_enter Tryd.func23, Tryd.ntmps23
    go_wp2
    go_ret
    exact ⟨rfl, hb1 _⟩
  by_cases h4 : 4 < ty
  · rw [chk, if_pos (by omega)]
    go_enter Tryd.func23, Tryd.ntmps23
    go_wp2
    go_ret
    exact ⟨rfl, hb1 _⟩
  by_cases h3 : ty = 3
  · subst h3
    rw [chk_text]
    by_cases h : 4096 < s.size
    · rw [chkT_long h]
      go_enter Tryd.func23, Tryd.ntmps23
      go_wp2
      go_ret
      exact ⟨rfl, hb1 _⟩
    · cases hv : Lib.validD s.data.toList
      · rw [chkT_bad h hv]
        go_enter Tryd.func23, Tryd.ntmps23
        go_wp2_with (go_at_call 36; refine (valid_any s _ (by omega)).mono ?_; rintro e w' ⟨rfl, hb⟩)
        go_ret
        exact ⟨rfl, (hb1 _).trans (hb.mono (by simp))⟩
      · rw [chkT_ok h hv]
        go_enter Tryd.func23, Tryd.ntmps23
        go_wp2_with (go_at_call 36; refine (valid_any s _ (by omega)).mono ?_; rintro e w' ⟨rfl, hb⟩)
        go_ret
        exact ⟨rfl, (hb1 _).trans (hb.mono (by simp))⟩
  have b3 : (ty == 3) = false := by rw [beq_eq_false_iff_ne]; exact h3
  by_cases h5 : ty = 4
  · subst h5
    by_cases hn0 : n = 0
    · subst hn0
      rw [chk, if_neg (by omega), if_neg (by omega)]
      go_enter Tryd.func23, Tryd.ntmps23
      go_wp2
      go_ret
      exact ⟨rfl, hb1 _⟩
    by_cases hn1 : n = 1
    · subst hn1
      rw [chk, if_neg (by omega), if_neg (by omega)]
      go_enter Tryd.func23, Tryd.ntmps23
      go_wp2
      go_ret
      exact ⟨rfl, hb1 _⟩
    rw [chk, if_pos (by omega)]
    have e0 : (n != 0) = true := by rw [bne_iff_ne]; exact hn0
    have e1 : (n != 1) = true := by rw [bne_iff_ne]; exact hn1
    go_enter Tryd.func23, Tryd.ntmps23
    go_wp2
    go_ret
    exact ⟨rfl, hb1 _⟩
  rw [chk, if_neg (by omega), if_neg h3]
  have b4 : (ty == 4) = false := by rw [beq_eq_false_iff_ne]; exact h5
  go_enter Tryd.func23, Tryd.ntmps23
  go_wp2
  go_ret
  exact ⟨rfl, hb1 _⟩

theorem or_low (x y : Nat) (hy : y < 4294967296) (hd : x % 4294967296 = 0) : x ||| y = x + y := by
  have e : x = x / 2 ^ 32 * 2 ^ 32 := by omega
  have := Nat.shiftLeft_add_eq_or_of_lt (b := y) (i := 32) (by omega) (x / 2 ^ 32)
  rw [Nat.shiftLeft_eq, ← e] at this
  exact this.symm

set_option maxHeartbeats 2000000 in
set_option maxRecDepth 1000000 in
theorem times_any (U : Nat) (w : World) (hU : U ≤ 9223372036854775808) :
    Calls Tryd.prog 44 #[.int .u64 (U : Int)] w fun e w' => e = .returned (.tuple #[.int .u64 ((U * 10000 / 18446744073709551616 : Nat) : Int), .int .u64 ((U * 10000 % 18446744073709551616 : Nat) : Int)]) ∧ Below w.heap.size w w' := by
  go_enter Tryd.func44, Tryd.ntmps44
  go_wp2_with fail
  have e1 : ((U : Int) / 4294967296 * 10000 + (U : Int) % 4294967296 * 10000 / 4294967296) / 4294967296 = ((U * 10000 / 18446744073709551616 : Nat) : Int) := by omega
  have e2 : bits .or .u64 (IntKind.u64.wrap (((U : Int) / 4294967296 * 10000 + (U : Int) % 4294967296 * 10000 / 4294967296) * 4294967296)) ((U : Int) % 4294967296 * 10000 % 4294967296) = ((U * 10000 % 18446744073709551616 : Nat) : Int) := by
    have f1 : IntKind.u64.wrap (((U : Int) / 4294967296 * 10000 + (U : Int) % 4294967296 * 10000 / 4294967296) * 4294967296) = (((U / 4294967296 * 10000 + U % 4294967296 * 10000 / 4294967296) * 4294967296 % 18446744073709551616 : Nat) : Int) := by
      have a1 : (U : Int) / 4294967296 = ((U / 4294967296 : Nat) : Int) := by omega
      have a2 : (U : Int) % 4294967296 * 10000 / 4294967296 = ((U % 4294967296 * 10000 / 4294967296 : Nat) : Int) := by omega
      rw [IntKind.wrap_u64, a1, a2]
      generalize U / 4294967296 = A
      generalize U % 4294967296 * 10000 / 4294967296 = D
      omega
    have f2 : (U : Int) % 4294967296 * 10000 % 4294967296 = ((U % 4294967296 * 10000 % 4294967296 : Nat) : Int) := by omega
    rw [f1, f2, bits_or_u64_nat _ _ (by omega) (by omega), or_low _ _ (by omega) (by omega)]
    omega
  refine bodyPost_ret (v := .tuple #[.int .u64 (((U : Int) / 4294967296 * 10000 + (U : Int) % 4294967296 * 10000 / 4294967296) / 4294967296), .int .u64 (bits .or .u64 (IntKind.u64.wrap (((U : Int) / 4294967296 * 10000 + (U : Int) % 4294967296 * 10000 / 4294967296) * 4294967296)) ((U : Int) % 4294967296 * 10000 % 4294967296))]) (by simp [results, Tryd.results44, go_sem]) rfl ⟨?_, Below.refl _ _⟩
  rw [e1, e2]
end Go.Proofs.YtjdnbgnjgicbbaaDoor
