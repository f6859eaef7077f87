/-
  The walk of lockstepref02.number: ten bytes of a number.
-/
import Derived.Test.YtjdnbgnjgicbbaaDoorRdA
namespace Go.Proofs.YtjdnbgnjgicbbaaDoor
open Go.RowKit Go.Shelf

/-- the words of a number that is not below nought, or below it -/
theorem words_plus {m : Int} (h : 0 ≤ m) (h2 : m < 604462909807314587353088) : ((m.toNat / 18446744073709551616 : Nat) : Int) + 32768 = (((m + 604462909807314587353088).toNat / 18446744073709551616 : Nat) : Int) ∧ m.toNat % 18446744073709551616 = (m + 604462909807314587353088).toNat % 18446744073709551616 := by
  constructor <;> omega
def num10 (hi lo : Nat) : List UInt8 := [UInt8.ofNat (hi / 256), UInt8.ofNat hi] ++ be8 lo 8

theorem lit2 (W : World) (base : Nat) (x y : Value) (hb : base ≤ W.heap.size) : (W.alloc (.cells #[x, y] 5)).ownsRow base 5 1 (.slice (some ⟨W.heap.size, 0, none⟩) 2 2) 2 [x, y] :=
  ⟨rfl, Or.inr ⟨W.heap.size, 2, #[x, y], rfl, hb, by rw [heap_alloc_new], Nat.le_refl _, by unfold maxLen; omega, rfl, rfl⟩⟩

set_option maxHeartbeats 4000000 in
set_option maxRecDepth 1000000 in
theorem number_any (x : Va) (w : World) (hf : fit x.n) (ht : x.ty = 1 ∨ x.ty = 2) :
    Calls Tryd.prog 37 #[.agg #[.int .i64 x.ty, .int .i64 x.n, .string x.s]] w fun e w' => ∃ v', e = .returned v' ∧ ownsB w' w.heap.size v' (num10 (numN x / 18446744073709551616) (numN x % 18446744073709551616)) ∧ Below w.heap.size w w' := by
  obtain ⟨ty, n, s⟩ := x
  unfold fit at hf
  simp only at hf ht
  have TM : Hid (∀ (U : Nat) w, U ≤ 9223372036854775808 → Calls Tryd.prog 44 #[.int .u64 (U : Int)] w fun e w' => e = .returned (.tuple #[.int .u64 ((U * 10000 / 18446744073709551616 : Nat) : Int), .int .u64 ((U * 10000 % 18446744073709551616 : Nat) : Int)]) ∧ Below w.heap.size w w') := times_any
  rcases ht with rfl | rfl
  · by_cases hm : n < 0
    · obtain ⟨U, hU⟩ : ∃ U : Nat, (U : Int) = -n := ⟨(-n).toNat, by omega⟩
      obtain ⟨X, hX⟩ : ∃ X, X = IntKind.u64.wrap n := ⟨_, rfl⟩
      have e0 : IntKind.u64.wrap n = X := hX.symm
      have e1 : IntKind.u64.wrap (-X) = (U : Int) := by rw [hX, IntKind.wrap_u64, IntKind.wrap_u64]; omega
      have HU : Hid ((U : Int) = -n) := hU
      have hU2 : U ≤ 9223372036854775808 := by omega
      clear hX hU
      go_enter Tryd.func37, Tryd.ntmps37
      go_wp2_with fail
      refine (TM.out U _ hU2).mono ?_
      rintro e w1 ⟨rfl, hb1⟩
      replace hb1 : Below w.heap.size w w1 := ((Below.refl _ w).alloc (Nat.le_refl _) _).trans (hb1.mono (by simp))
      obtain ⟨H0, hH0⟩ : ∃ H0 : Nat, H0 = U * 10000 / 18446744073709551616 := ⟨_, rfl⟩
      obtain ⟨L0, hL0⟩ : ∃ L0 : Nat, L0 = U * 10000 % 18446744073709551616 := ⟨_, rfl⟩
      rw [← hH0, ← hL0]
      have hU := HU.out
      by_cases hz : L0 = 0
      · obtain ⟨lo, hlo⟩ : ∃ lo : Nat, lo = 0 := ⟨_, rfl⟩
        obtain ⟨hi, hhi⟩ : ∃ hi : Nat, hi = 32768 - H0 := ⟨_, rfl⟩
        have hH1 : 1 ≤ H0 ∧ H0 ≤ 5000 := by omega
        have ehi : ((n * 10000 + 604462909807314587353088).toNat / 18446744073709551616) = hi := by omega
        have elo : ((n * 10000 + 604462909807314587353088).toNat % 18446744073709551616) = lo := by omega
        have hl6 : lo < 18446744073709551616 := by omega
        have e2 : IntKind.u64.wrap (-(L0 : Int)) = (lo : Int) := by rw [IntKind.wrap_u64]; omega
        have hz2 : ((lo : Int) == 0) = true := by rw [hlo]; rfl
        obtain ⟨M, hM⟩ : ∃ M, M = [UInt8.ofNat (hi / 256), UInt8.ofNat hi] := ⟨_, rfl⟩
        have hMl : M.length = 2 := by rw [hM]; rfl
        have HR : Hid (M ++ be8 lo 8 = num10 (numN ⟨1, n, s⟩ / 18446744073709551616) (numN ⟨1, n, s⟩ % 18446744073709551616)) := by
          show _ = _
          rw [hM, numN_big rfl, ehi, elo]
          rfl
        clear ehi elo hH0 hL0 hU e0 e1 hm hf hz hlo
        go_wp2_with fail
        have ho2 : ownsB (w1.alloc (.cells #[.int .u8 ((65535 - (H0 : Int) + 1 + 32768) % 65536 / 256), .int .u8 ((65535 - (H0 : Int) + 1 + 32768) % 256)] 5)) w.heap.size (.slice (some ⟨w1.heap.size, 0, none⟩) 2 2) M := by
          have hc : [Value.int .u8 ((65535 - (H0 : Int) + 1 + 32768) % 65536 / 256), Value.int .u8 ((65535 - (H0 : Int) + 1 + 32768) % 256)] = by8 M := by
            rw [hM]; show _ = [Value.int .u8 _, Value.int .u8 _]
            rw [ofNat_int, ofNat_int]
            have k1 : ((hi / 256 : Nat) : Int) % 256 = (65535 - (H0 : Int) + 1 + 32768) % 65536 / 256 := by omega
            have k2 : ((hi : Nat) : Int) % 256 = (65535 - (H0 : Int) + 1 + 32768) % 256 := by omega
            rw [k1, k2]
          show World.ownsRow _ _ _ _ _ _ _
          rw [← hc, hMl]
          exact lit2 _ _ _ _ (hb1.size)
        have hb2 : Below w.heap.size w (w1.alloc (.cells #[.int .u8 ((65535 - (H0 : Int) + 1 + 32768) % 65536 / 256), .int .u8 ((65535 - (H0 : Int) + 1 + 32768) % 256)] 5)) := hb1.alloc hb1.size _
        clear hM
        generalize (w1.alloc (.cells #[.int .u8 ((65535 - (H0 : Int) + 1 + 32768) % 65536 / 256), .int .u8 ((65535 - (H0 : Int) + 1 + 32768) % 256)] 5)) = w2 at *
        go_loopw [7, 8] (fun sv ss wr => ∃ k : Nat, ss = .int .i64 (7 - (k : Int)) ∧ k ≤ 8 ∧ ownsB wr w.heap.size sv (M ++ be8 lo k) ∧ Below w.heap.size w wr) (fun _ ss _ => (intOf ss + 1).toNat)
        case atStart => exact ⟨0, rfl, by omega, by simpa [be8] using ho2, hb2⟩
        case round =>
          obtain ⟨k, rfl, hk, ho, hbr⟩ := hrel
          have hll : (M ++ be8 lo k).length ≤ 10 := by rw [List.length_append, be8_len, hMl]; omega
          have hsr := hbr.size
          by_cases hlt : k < 8
          · have hn : Hid (be8 lo (k + 1) = be8 lo k ++ [UInt8.ofNat (lo / 2 ^ (56 - 8 * k))]) := be8_next lo k
            rcases (show k = 0 ∨ k = 1 ∨ k = 2 ∨ k = 3 ∨ k = 4 ∨ k = 5 ∨ k = 6 ∨ k = 7 by omega) with rfl | rfl | rfl | rfl | rfl | rfl | rfl | rfl
            · have cb : Hid ((#[Value.int .u8 ((lo : Int) / 72057594037927936)] : Array Value).toList = by8 [UInt8.ofNat (lo / 2 ^ (56 - 8 * 0))]) := by
                have e : ((lo / 2 ^ (56 - 8 * 0) : Nat) : Int) % 256 = (lo : Int) / 72057594037927936 := by simp only [Nat.reduceMul, Nat.reduceSub, Nat.reducePow]; omega
                show [_] = [Value.int .u8 _]
                rw [ofNat_int, e]
              go_wp2_with (at_builtin; refine app_b rfl (.tmp 51) (.tmp 58) rfl w.heap.size _ (M ++ be8 lo 0) [UInt8.ofNat (lo / 2 ^ (56 - 8 * 0))] _ rfl ho cb.out rfl (by simp only [List.length_cons, List.length_nil]; omega) hsr ?_; intro v3 w3 ho3 hb3 hs3)
              go_roundw
              case rel => exact ⟨1, by go_num, by omega, by rw [hn.out, ← List.append_assoc]; exact ho3, hbr.trans hb3⟩
              case measure => (simp [intOf] <;> omega)
            · have cb : Hid ((#[Value.int .u8 ((lo : Int) / 281474976710656 % 256)] : Array Value).toList = by8 [UInt8.ofNat (lo / 2 ^ (56 - 8 * 1))]) := by
                have e : ((lo / 2 ^ (56 - 8 * 1) : Nat) : Int) % 256 = (lo : Int) / 281474976710656 % 256 := by simp only [Nat.reduceMul, Nat.reduceSub, Nat.reducePow]; omega
                show [_] = [Value.int .u8 _]
                rw [ofNat_int, e]
              go_wp2_with (at_builtin; refine app_b rfl (.tmp 51) (.tmp 58) rfl w.heap.size _ (M ++ be8 lo 1) [UInt8.ofNat (lo / 2 ^ (56 - 8 * 1))] _ rfl ho cb.out rfl (by simp only [List.length_cons, List.length_nil]; omega) hsr ?_; intro v3 w3 ho3 hb3 hs3)
              go_roundw
              case rel => exact ⟨2, by go_num, by omega, by rw [hn.out, ← List.append_assoc]; exact ho3, hbr.trans hb3⟩
              case measure => (simp [intOf] <;> omega)
            · have cb : Hid ((#[Value.int .u8 ((lo : Int) / 1099511627776 % 256)] : Array Value).toList = by8 [UInt8.ofNat (lo / 2 ^ (56 - 8 * 2))]) := by
                have e : ((lo / 2 ^ (56 - 8 * 2) : Nat) : Int) % 256 = (lo : Int) / 1099511627776 % 256 := by simp only [Nat.reduceMul, Nat.reduceSub, Nat.reducePow]; omega
                show [_] = [Value.int .u8 _]
                rw [ofNat_int, e]
              go_wp2_with (at_builtin; refine app_b rfl (.tmp 51) (.tmp 58) rfl w.heap.size _ (M ++ be8 lo 2) [UInt8.ofNat (lo / 2 ^ (56 - 8 * 2))] _ rfl ho cb.out rfl (by simp only [List.length_cons, List.length_nil]; omega) hsr ?_; intro v3 w3 ho3 hb3 hs3)
              go_roundw
              case rel => exact ⟨3, by go_num, by omega, by rw [hn.out, ← List.append_assoc]; exact ho3, hbr.trans hb3⟩
              case measure => (simp [intOf] <;> omega)
            · have cb : Hid ((#[Value.int .u8 ((lo : Int) / 4294967296 % 256)] : Array Value).toList = by8 [UInt8.ofNat (lo / 2 ^ (56 - 8 * 3))]) := by
                have e : ((lo / 2 ^ (56 - 8 * 3) : Nat) : Int) % 256 = (lo : Int) / 4294967296 % 256 := by simp only [Nat.reduceMul, Nat.reduceSub, Nat.reducePow]; omega
                show [_] = [Value.int .u8 _]
                rw [ofNat_int, e]
              go_wp2_with (at_builtin; refine app_b rfl (.tmp 51) (.tmp 58) rfl w.heap.size _ (M ++ be8 lo 3) [UInt8.ofNat (lo / 2 ^ (56 - 8 * 3))] _ rfl ho cb.out rfl (by simp only [List.length_cons, List.length_nil]; omega) hsr ?_; intro v3 w3 ho3 hb3 hs3)
              go_roundw
              case rel => exact ⟨4, by go_num, by omega, by rw [hn.out, ← List.append_assoc]; exact ho3, hbr.trans hb3⟩
              case measure => (simp [intOf] <;> omega)
            · have cb : Hid ((#[Value.int .u8 ((lo : Int) / 16777216 % 256)] : Array Value).toList = by8 [UInt8.ofNat (lo / 2 ^ (56 - 8 * 4))]) := by
                have e : ((lo / 2 ^ (56 - 8 * 4) : Nat) : Int) % 256 = (lo : Int) / 16777216 % 256 := by simp only [Nat.reduceMul, Nat.reduceSub, Nat.reducePow]; omega
                show [_] = [Value.int .u8 _]
                rw [ofNat_int, e]
              go_wp2_with (at_builtin; refine app_b rfl (.tmp 51) (.tmp 58) rfl w.heap.size _ (M ++ be8 lo 4) [UInt8.ofNat (lo / 2 ^ (56 - 8 * 4))] _ rfl ho cb.out rfl (by simp only [List.length_cons, List.length_nil]; omega) hsr ?_; intro v3 w3 ho3 hb3 hs3)
              go_roundw
              case rel => exact ⟨5, by go_num, by omega, by rw [hn.out, ← List.append_assoc]; exact ho3, hbr.trans hb3⟩
              case measure => (simp [intOf] <;> omega)
            · have cb : Hid ((#[Value.int .u8 ((lo : Int) / 65536 % 256)] : Array Value).toList = by8 [UInt8.ofNat (lo / 2 ^ (56 - 8 * 5))]) := by
                have e : ((lo / 2 ^ (56 - 8 * 5) : Nat) : Int) % 256 = (lo : Int) / 65536 % 256 := by simp only [Nat.reduceMul, Nat.reduceSub, Nat.reducePow]; omega
                show [_] = [Value.int .u8 _]
                rw [ofNat_int, e]
              go_wp2_with (at_builtin; refine app_b rfl (.tmp 51) (.tmp 58) rfl w.heap.size _ (M ++ be8 lo 5) [UInt8.ofNat (lo / 2 ^ (56 - 8 * 5))] _ rfl ho cb.out rfl (by simp only [List.length_cons, List.length_nil]; omega) hsr ?_; intro v3 w3 ho3 hb3 hs3)
              go_roundw
              case rel => exact ⟨6, by go_num, by omega, by rw [hn.out, ← List.append_assoc]; exact ho3, hbr.trans hb3⟩
              case measure => (simp [intOf] <;> omega)
            · have cb : Hid ((#[Value.int .u8 ((lo : Int) / 256 % 256)] : Array Value).toList = by8 [UInt8.ofNat (lo / 2 ^ (56 - 8 * 6))]) := by
                have e : ((lo / 2 ^ (56 - 8 * 6) : Nat) : Int) % 256 = (lo : Int) / 256 % 256 := by simp only [Nat.reduceMul, Nat.reduceSub, Nat.reducePow]; omega
                show [_] = [Value.int .u8 _]
                rw [ofNat_int, e]
              go_wp2_with (at_builtin; refine app_b rfl (.tmp 51) (.tmp 58) rfl w.heap.size _ (M ++ be8 lo 6) [UInt8.ofNat (lo / 2 ^ (56 - 8 * 6))] _ rfl ho cb.out rfl (by simp only [List.length_cons, List.length_nil]; omega) hsr ?_; intro v3 w3 ho3 hb3 hs3)
              go_roundw
              case rel => exact ⟨7, by go_num, by omega, by rw [hn.out, ← List.append_assoc]; exact ho3, hbr.trans hb3⟩
              case measure => (simp [intOf] <;> omega)
            · have cb : Hid ((#[Value.int .u8 ((lo : Int) % 256)] : Array Value).toList = by8 [UInt8.ofNat (lo / 2 ^ (56 - 8 * 7))]) := by
                have e : ((lo / 2 ^ (56 - 8 * 7) : Nat) : Int) % 256 = (lo : Int) % 256 := by simp only [Nat.reduceMul, Nat.reduceSub, Nat.reducePow]; omega
                show [_] = [Value.int .u8 _]
                rw [ofNat_int, e]
              go_wp2_with (at_builtin; refine app_b rfl (.tmp 51) (.tmp 58) rfl w.heap.size _ (M ++ be8 lo 7) [UInt8.ofNat (lo / 2 ^ (56 - 8 * 7))] _ rfl ho cb.out rfl (by simp only [List.length_cons, List.length_nil]; omega) hsr ?_; intro v3 w3 ho3 hb3 hs3)
              go_roundw
              case rel => exact ⟨8, by go_num, by omega, by rw [hn.out, ← List.append_assoc]; exact ho3, hbr.trans hb3⟩
              case measure => (simp [intOf] <;> omega)
          · obtain rfl : k = 8 := by omega
            go_wp2_with fail
            go_ret
            exact ⟨_, rfl, by rw [← HR.out]; exact ho, hbr⟩
      · obtain ⟨lo, hlo⟩ : ∃ lo : Nat, lo = 18446744073709551616 - L0 := ⟨_, rfl⟩
        obtain ⟨hi, hhi⟩ : ∃ hi : Nat, hi = 32767 - H0 := ⟨_, rfl⟩
        have hH1 : H0 ≤ 5000 := by omega
        have ehi : ((n * 10000 + 604462909807314587353088).toNat / 18446744073709551616) = hi := by omega
        have elo : ((n * 10000 + 604462909807314587353088).toNat % 18446744073709551616) = lo := by omega
        have hl6 : lo < 18446744073709551616 := by omega
        have hl0 : 0 < lo := by omega
        have e2 : IntKind.u64.wrap (-(L0 : Int)) = (lo : Int) := by rw [IntKind.wrap_u64]; omega
        obtain ⟨M, hM⟩ : ∃ M, M = [UInt8.ofNat (hi / 256), UInt8.ofNat hi] := ⟨_, rfl⟩
        have hMl : M.length = 2 := by rw [hM]; rfl
        have HR : Hid (M ++ be8 lo 8 = num10 (numN ⟨1, n, s⟩ / 18446744073709551616) (numN ⟨1, n, s⟩ % 18446744073709551616)) := by
          show _ = _
          rw [hM, numN_big rfl, ehi, elo]
          rfl
        clear ehi elo hH0 hL0 hU e0 e1 hm hf hz hlo
        go_wp2_with fail
        have ho2 : ownsB (w1.alloc (.cells #[.int .u8 ((65535 - (H0 : Int) + 32768) % 65536 / 256), .int .u8 ((65535 - (H0 : Int) + 32768) % 256)] 5)) w.heap.size (.slice (some ⟨w1.heap.size, 0, none⟩) 2 2) M := by
          have hc : [Value.int .u8 ((65535 - (H0 : Int) + 32768) % 65536 / 256), Value.int .u8 ((65535 - (H0 : Int) + 32768) % 256)] = by8 M := by
            rw [hM]; show _ = [Value.int .u8 _, Value.int .u8 _]
            rw [ofNat_int, ofNat_int]
            have k1 : ((hi / 256 : Nat) : Int) % 256 = (65535 - (H0 : Int) + 32768) % 65536 / 256 := by omega
            have k2 : ((hi : Nat) : Int) % 256 = (65535 - (H0 : Int) + 32768) % 256 := by omega
            rw [k1, k2]
          show World.ownsRow _ _ _ _ _ _ _
          rw [← hc, hMl]
          exact lit2 _ _ _ _ (hb1.size)
        have hb2 : Below w.heap.size w (w1.alloc (.cells #[.int .u8 ((65535 - (H0 : Int) + 32768) % 65536 / 256), .int .u8 ((65535 - (H0 : Int) + 32768) % 256)] 5)) := hb1.alloc hb1.size _
        clear hM
        generalize (w1.alloc (.cells #[.int .u8 ((65535 - (H0 : Int) + 32768) % 65536 / 256), .int .u8 ((65535 - (H0 : Int) + 32768) % 256)] 5)) = w2 at *
        go_loopw [7, 8] (fun sv ss wr => ∃ k : Nat, ss = .int .i64 (7 - (k : Int)) ∧ k ≤ 8 ∧ ownsB wr w.heap.size sv (M ++ be8 lo k) ∧ Below w.heap.size w wr) (fun _ ss _ => (intOf ss + 1).toNat)
        case atStart => exact ⟨0, rfl, by omega, by simpa [be8] using ho2, hb2⟩
        case round =>
          obtain ⟨k, rfl, hk, ho, hbr⟩ := hrel
          have hll : (M ++ be8 lo k).length ≤ 10 := by rw [List.length_append, be8_len, hMl]; omega
          have hsr := hbr.size
          by_cases hlt : k < 8
          · have hn : Hid (be8 lo (k + 1) = be8 lo k ++ [UInt8.ofNat (lo / 2 ^ (56 - 8 * k))]) := be8_next lo k
            rcases (show k = 0 ∨ k = 1 ∨ k = 2 ∨ k = 3 ∨ k = 4 ∨ k = 5 ∨ k = 6 ∨ k = 7 by omega) with rfl | rfl | rfl | rfl | rfl | rfl | rfl | rfl
            · have cb : Hid ((#[Value.int .u8 ((lo : Int) / 72057594037927936)] : Array Value).toList = by8 [UInt8.ofNat (lo / 2 ^ (56 - 8 * 0))]) := by
                have e : ((lo / 2 ^ (56 - 8 * 0) : Nat) : Int) % 256 = (lo : Int) / 72057594037927936 := by simp only [Nat.reduceMul, Nat.reduceSub, Nat.reducePow]; omega
                show [_] = [Value.int .u8 _]
                rw [ofNat_int, e]
              go_wp2_with (at_builtin; refine app_b rfl (.tmp 51) (.tmp 58) rfl w.heap.size _ (M ++ be8 lo 0) [UInt8.ofNat (lo / 2 ^ (56 - 8 * 0))] _ rfl ho cb.out rfl (by simp only [List.length_cons, List.length_nil]; omega) hsr ?_; intro v3 w3 ho3 hb3 hs3)
              go_roundw
              case rel => exact ⟨1, by go_num, by omega, by rw [hn.out, ← List.append_assoc]; exact ho3, hbr.trans hb3⟩
              case measure => (simp [intOf] <;> omega)
            · have cb : Hid ((#[Value.int .u8 ((lo : Int) / 281474976710656 % 256)] : Array Value).toList = by8 [UInt8.ofNat (lo / 2 ^ (56 - 8 * 1))]) := by
                have e : ((lo / 2 ^ (56 - 8 * 1) : Nat) : Int) % 256 = (lo : Int) / 281474976710656 % 256 := by simp only [Nat.reduceMul, Nat.reduceSub, Nat.reducePow]; omega
                show [_] = [Value.int .u8 _]
                rw [ofNat_int, e]
              go_wp2_with (at_builtin; refine app_b rfl (.tmp 51) (.tmp 58) rfl w.heap.size _ (M ++ be8 lo 1) [UInt8.ofNat (lo / 2 ^ (56 - 8 * 1))] _ rfl ho cb.out rfl (by simp only [List.length_cons, List.length_nil]; omega) hsr ?_; intro v3 w3 ho3 hb3 hs3)
              go_roundw
              case rel => exact ⟨2, by go_num, by omega, by rw [hn.out, ← List.append_assoc]; exact ho3, hbr.trans hb3⟩
              case measure => (simp [intOf] <;> omega)
            · have cb : Hid ((#[Value.int .u8 ((lo : Int) / 1099511627776 % 256)] : Array Value).toList = by8 [UInt8.ofNat (lo / 2 ^ (56 - 8 * 2))]) := by
                have e : ((lo / 2 ^ (56 - 8 * 2) : Nat) : Int) % 256 = (lo : Int) / 1099511627776 % 256 := by simp only [Nat.reduceMul, Nat.reduceSub, Nat.reducePow]; omega
                show [_] = [Value.int .u8 _]
                rw [ofNat_int, e]
              go_wp2_with (at_builtin; refine app_b rfl (.tmp 51) (.tmp 58) rfl w.heap.size _ (M ++ be8 lo 2) [UInt8.ofNat (lo / 2 ^ (56 - 8 * 2))] _ rfl ho cb.out rfl (by simp only [List.length_cons, List.length_nil]; omega) hsr ?_; intro v3 w3 ho3 hb3 hs3)
              go_roundw
              case rel => exact ⟨3, by go_num, by omega, by rw [hn.out, ← List.append_assoc]; exact ho3, hbr.trans hb3⟩
              case measure => (simp [intOf] <;> omega)
            · have cb : Hid ((#[Value.int .u8 ((lo : Int) / 4294967296 % 256)] : Array Value).toList = by8 [UInt8.ofNat (lo / 2 ^ (56 - 8 * 3))]) := by
                have e : ((lo / 2 ^ (56 - 8 * 3) : Nat) : Int) % 256 = (lo : Int) / 4294967296 % 256 := by simp only [Nat.reduceMul, Nat.reduceSub, Nat.reducePow]; omega
                show [_] = [Value.int .u8 _]
                rw [ofNat_int, e]
              go_wp2_with (at_builtin; refine app_b rfl (.tmp 51) (.tmp 58) rfl w.heap.size _ (M ++ be8 lo 3) [UInt8.ofNat (lo / 2 ^ (56 - 8 * 3))] _ rfl ho cb.out rfl (by simp only [List.length_cons, List.length_nil]; omega) hsr ?_; intro v3 w3 ho3 hb3 hs3)
              go_roundw
              case rel => exact ⟨4, by go_num, by omega, by rw [hn.out, ← List.append_assoc]; exact ho3, hbr.trans hb3⟩
              case measure => (simp [intOf] <;> omega)
            · have cb : Hid ((#[Value.int .u8 ((lo : Int) / 16777216 % 256)] : Array Value).toList = by8 [UInt8.ofNat (lo / 2 ^ (56 - 8 * 4))]) := by
                have e : ((lo / 2 ^ (56 - 8 * 4) : Nat) : Int) % 256 = (lo : Int) / 16777216 % 256 := by simp only [Nat.reduceMul, Nat.reduceSub, Nat.reducePow]; omega
                show [_] = [Value.int .u8 _]
                rw [ofNat_int, e]
              go_wp2_with (at_builtin; refine app_b rfl (.tmp 51) (.tmp 58) rfl w.heap.size _ (M ++ be8 lo 4) [UInt8.ofNat (lo / 2 ^ (56 - 8 * 4))] _ rfl ho cb.out rfl (by simp only [List.length_cons, List.length_nil]; omega) hsr ?_; intro v3 w3 ho3 hb3 hs3)
              go_roundw
              case rel => exact ⟨5, by go_num, by omega, by rw [hn.out, ← List.append_assoc]; exact ho3, hbr.trans hb3⟩
              case measure => (simp [intOf] <;> omega)
            · have cb : Hid ((#[Value.int .u8 ((lo : Int) / 65536 % 256)] : Array Value).toList = by8 [UInt8.ofNat (lo / 2 ^ (56 - 8 * 5))]) := by
                have e : ((lo / 2 ^ (56 - 8 * 5) : Nat) : Int) % 256 = (lo : Int) / 65536 % 256 := by simp only [Nat.reduceMul, Nat.reduceSub, Nat.reducePow]; omega
                show [_] = [Value.int .u8 _]
                rw [ofNat_int, e]
              go_wp2_with (at_builtin; refine app_b rfl (.tmp 51) (.tmp 58) rfl w.heap.size _ (M ++ be8 lo 5) [UInt8.ofNat (lo / 2 ^ (56 - 8 * 5))] _ rfl ho cb.out rfl (by simp only [List.length_cons, List.length_nil]; omega) hsr ?_; intro v3 w3 ho3 hb3 hs3)
              go_roundw
              case rel => exact ⟨6, by go_num, by omega, by rw [hn.out, ← List.append_assoc]; exact ho3, hbr.trans hb3⟩
              case measure => (simp [intOf] <;> omega)
            · have cb : Hid ((#[Value.int .u8 ((lo : Int) / 256 % 256)] : Array Value).toList = by8 [UInt8.ofNat (lo / 2 ^ (56 - 8 * 6))]) := by
                have e : ((lo / 2 ^ (56 - 8 * 6) : Nat) : Int) % 256 = (lo : Int) / 256 % 256 := by simp only [Nat.reduceMul, Nat.reduceSub, Nat.reducePow]; omega
                show [_] = [Value.int .u8 _]
                rw [ofNat_int, e]
              go_wp2_with (at_builtin; refine app_b rfl (.tmp 51) (.tmp 58) rfl w.heap.size _ (M ++ be8 lo 6) [UInt8.ofNat (lo / 2 ^ (56 - 8 * 6))] _ rfl ho cb.out rfl (by simp only [List.length_cons, List.length_nil]; omega) hsr ?_; intro v3 w3 ho3 hb3 hs3)
              go_roundw
              case rel => exact ⟨7, by go_num, by omega, by rw [hn.out, ← List.append_assoc]; exact ho3, hbr.trans hb3⟩
              case measure => (simp [intOf] <;> omega)
            · have cb : Hid ((#[Value.int .u8 ((lo : Int) % 256)] : Array Value).toList = by8 [UInt8.ofNat (lo / 2 ^ (56 - 8 * 7))]) := by
                have e : ((lo / 2 ^ (56 - 8 * 7) : Nat) : Int) % 256 = (lo : Int) % 256 := by simp only [Nat.reduceMul, Nat.reduceSub, Nat.reducePow]; omega
                show [_] = [Value.int .u8 _]
                rw [ofNat_int, e]
              go_wp2_with (at_builtin; refine app_b rfl (.tmp 51) (.tmp 58) rfl w.heap.size _ (M ++ be8 lo 7) [UInt8.ofNat (lo / 2 ^ (56 - 8 * 7))] _ rfl ho cb.out rfl (by simp only [List.length_cons, List.length_nil]; omega) hsr ?_; intro v3 w3 ho3 hb3 hs3)
              go_roundw
              case rel => exact ⟨8, by go_num, by omega, by rw [hn.out, ← List.append_assoc]; exact ho3, hbr.trans hb3⟩
              case measure => (simp [intOf] <;> omega)
          · obtain rfl : k = 8 := by omega
            go_wp2_with fail
            go_ret
            exact ⟨_, rfl, by rw [← HR.out]; exact ho, hbr⟩
    · obtain ⟨U, rfl⟩ : ∃ U : Nat, n = (U : Int) := ⟨n.toNat, by omega⟩
      go_enter Tryd.func37, Tryd.ntmps37
      go_wp2_with fail
      refine (TM.out U _ (by omega)).mono ?_
      rintro e w1 ⟨rfl, hb1⟩
      replace hb1 : Below w.heap.size w w1 := ((Below.refl _ w).alloc (Nat.le_refl _) _).trans (hb1.mono (by simp))
      obtain ⟨H0, hH0⟩ : ∃ H0 : Nat, H0 = U * 10000 / 18446744073709551616 := ⟨_, rfl⟩
      obtain ⟨lo, hlo⟩ : ∃ lo : Nat, lo = U * 10000 % 18446744073709551616 := ⟨_, rfl⟩
      rw [← hH0, ← hlo]
      obtain ⟨hi, hhi⟩ : ∃ hi : Nat, hi = H0 + 32768 := ⟨_, rfl⟩
      have ehi : (((U : Int) * 10000 + 604462909807314587353088).toNat / 18446744073709551616) = hi := by omega
      have elo : (((U : Int) * 10000 + 604462909807314587353088).toNat % 18446744073709551616) = lo := by omega
      have hH1 : H0 < 5000 := by omega
      have hl6 : lo < 18446744073709551616 := by omega
      obtain ⟨M, hM⟩ : ∃ M, M = [UInt8.ofNat (hi / 256), UInt8.ofNat hi] := ⟨_, rfl⟩
      have hMl : M.length = 2 := by rw [hM]; rfl
      have HR : Hid (M ++ be8 lo 8 = num10 (numN ⟨1, U, s⟩ / 18446744073709551616) (numN ⟨1, U, s⟩ % 18446744073709551616)) := by
        show _ = _
        rw [hM, numN_big rfl, ehi, elo]
        rfl
      clear hH0 hlo hf hm ehi elo
      go_wp2_with fail
      have ho2 : ownsB (w1.alloc (.cells #[.int .u8 (((H0 : Int) + 32768) % 65536 / 256), .int .u8 (((H0 : Int) + 32768) % 256)] 5)) w.heap.size (.slice (some ⟨w1.heap.size, 0, none⟩) 2 2) M := by
        have hc : [Value.int .u8 (((H0 : Int) + 32768) % 65536 / 256), Value.int .u8 (((H0 : Int) + 32768) % 256)] = by8 M := by
          rw [hM]; show _ = [Value.int .u8 _, Value.int .u8 _]
          rw [ofNat_int, ofNat_int]
          have k1 : ((hi / 256 : Nat) : Int) % 256 = ((H0 : Int) + 32768) % 65536 / 256 := by omega
          have k2 : ((hi : Nat) : Int) % 256 = ((H0 : Int) + 32768) % 256 := by omega
          rw [k1, k2]
        show World.ownsRow _ _ _ _ _ _ _
        rw [← hc, hMl]
        exact lit2 _ _ _ _ (hb1.size)
      have hb2 : Below w.heap.size w (w1.alloc (.cells #[.int .u8 (((H0 : Int) + 32768) % 65536 / 256), .int .u8 (((H0 : Int) + 32768) % 256)] 5)) := hb1.alloc hb1.size _
      clear hM
      generalize (w1.alloc (.cells #[.int .u8 (((H0 : Int) + 32768) % 65536 / 256), .int .u8 (((H0 : Int) + 32768) % 256)] 5)) = w2 at *
      go_loopw [7, 8] (fun sv ss wr => ∃ k : Nat, ss = .int .i64 (7 - (k : Int)) ∧ k ≤ 8 ∧ ownsB wr w.heap.size sv (M ++ be8 lo k) ∧ Below w.heap.size w wr) (fun _ ss _ => (intOf ss + 1).toNat)
      case atStart => exact ⟨0, rfl, by omega, by simpa [be8] using ho2, hb2⟩
      case round =>
        obtain ⟨k, rfl, hk, ho, hbr⟩ := hrel
        have hll : (M ++ be8 lo k).length ≤ 10 := by rw [List.length_append, be8_len, hMl]; omega
        have hsr := hbr.size
        by_cases hlt : k < 8
        · have hn : Hid (be8 lo (k + 1) = be8 lo k ++ [UInt8.ofNat (lo / 2 ^ (56 - 8 * k))]) := be8_next lo k
          rcases (show k = 0 ∨ k = 1 ∨ k = 2 ∨ k = 3 ∨ k = 4 ∨ k = 5 ∨ k = 6 ∨ k = 7 by omega) with rfl | rfl | rfl | rfl | rfl | rfl | rfl | rfl
          · have cb : Hid ((#[Value.int .u8 ((lo : Int) / 72057594037927936)] : Array Value).toList = by8 [UInt8.ofNat (lo / 2 ^ (56 - 8 * 0))]) := by
              have e : ((lo / 2 ^ (56 - 8 * 0) : Nat) : Int) % 256 = (lo : Int) / 72057594037927936 := by simp only [Nat.reduceMul, Nat.reduceSub, Nat.reducePow]; omega
              show [_] = [Value.int .u8 _]
              rw [ofNat_int, e]
            go_wp2_with (at_builtin; refine app_b rfl (.tmp 51) (.tmp 58) rfl w.heap.size _ (M ++ be8 lo 0) [UInt8.ofNat (lo / 2 ^ (56 - 8 * 0))] _ rfl ho cb.out rfl (by simp only [List.length_cons, List.length_nil]; omega) hsr ?_; intro v3 w3 ho3 hb3 hs3)
            go_roundw
            case rel => exact ⟨1, by go_num, by omega, by rw [hn.out, ← List.append_assoc]; exact ho3, hbr.trans hb3⟩
            case measure => (simp [intOf] <;> omega)
          · have cb : Hid ((#[Value.int .u8 ((lo : Int) / 281474976710656 % 256)] : Array Value).toList = by8 [UInt8.ofNat (lo / 2 ^ (56 - 8 * 1))]) := by
              have e : ((lo / 2 ^ (56 - 8 * 1) : Nat) : Int) % 256 = (lo : Int) / 281474976710656 % 256 := by simp only [Nat.reduceMul, Nat.reduceSub, Nat.reducePow]; omega
              show [_] = [Value.int .u8 _]
              rw [ofNat_int, e]
            go_wp2_with (at_builtin; refine app_b rfl (.tmp 51) (.tmp 58) rfl w.heap.size _ (M ++ be8 lo 1) [UInt8.ofNat (lo / 2 ^ (56 - 8 * 1))] _ rfl ho cb.out rfl (by simp only [List.length_cons, List.length_nil]; omega) hsr ?_; intro v3 w3 ho3 hb3 hs3)
            go_roundw
            case rel => exact ⟨2, by go_num, by omega, by rw [hn.out, ← List.append_assoc]; exact ho3, hbr.trans hb3⟩
            case measure => (simp [intOf] <;> omega)
          · have cb : Hid ((#[Value.int .u8 ((lo : Int) / 1099511627776 % 256)] : Array Value).toList = by8 [UInt8.ofNat (lo / 2 ^ (56 - 8 * 2))]) := by
              have e : ((lo / 2 ^ (56 - 8 * 2) : Nat) : Int) % 256 = (lo : Int) / 1099511627776 % 256 := by simp only [Nat.reduceMul, Nat.reduceSub, Nat.reducePow]; omega
              show [_] = [Value.int .u8 _]
              rw [ofNat_int, e]
            go_wp2_with (at_builtin; refine app_b rfl (.tmp 51) (.tmp 58) rfl w.heap.size _ (M ++ be8 lo 2) [UInt8.ofNat (lo / 2 ^ (56 - 8 * 2))] _ rfl ho cb.out rfl (by simp only [List.length_cons, List.length_nil]; omega) hsr ?_; intro v3 w3 ho3 hb3 hs3)
            go_roundw
            case rel => exact ⟨3, by go_num, by omega, by rw [hn.out, ← List.append_assoc]; exact ho3, hbr.trans hb3⟩
            case measure => (simp [intOf] <;> omega)
          · have cb : Hid ((#[Value.int .u8 ((lo : Int) / 4294967296 % 256)] : Array Value).toList = by8 [UInt8.ofNat (lo / 2 ^ (56 - 8 * 3))]) := by
              have e : ((lo / 2 ^ (56 - 8 * 3) : Nat) : Int) % 256 = (lo : Int) / 4294967296 % 256 := by simp only [Nat.reduceMul, Nat.reduceSub, Nat.reducePow]; omega
              show [_] = [Value.int .u8 _]
              rw [ofNat_int, e]
            go_wp2_with (at_builtin; refine app_b rfl (.tmp 51) (.tmp 58) rfl w.heap.size _ (M ++ be8 lo 3) [UInt8.ofNat (lo / 2 ^ (56 - 8 * 3))] _ rfl ho cb.out rfl (by simp only [List.length_cons, List.length_nil]; omega) hsr ?_; intro v3 w3 ho3 hb3 hs3)
            go_roundw
            case rel => exact ⟨4, by go_num, by omega, by rw [hn.out, ← List.append_assoc]; exact ho3, hbr.trans hb3⟩
            case measure => (simp [intOf] <;> omega)
          · have cb : Hid ((#[Value.int .u8 ((lo : Int) / 16777216 % 256)] : Array Value).toList = by8 [UInt8.ofNat (lo / 2 ^ (56 - 8 * 4))]) := by
              have e : ((lo / 2 ^ (56 - 8 * 4) : Nat) : Int) % 256 = (lo : Int) / 16777216 % 256 := by simp only [Nat.reduceMul, Nat.reduceSub, Nat.reducePow]; omega
              show [_] = [Value.int .u8 _]
              rw [ofNat_int, e]
            go_wp2_with (at_builtin; refine app_b rfl (.tmp 51) (.tmp 58) rfl w.heap.size _ (M ++ be8 lo 4) [UInt8.ofNat (lo / 2 ^ (56 - 8 * 4))] _ rfl ho cb.out rfl (by simp only [List.length_cons, List.length_nil]; omega) hsr ?_; intro v3 w3 ho3 hb3 hs3)
            go_roundw
            case rel => exact ⟨5, by go_num, by omega, by rw [hn.out, ← List.append_assoc]; exact ho3, hbr.trans hb3⟩
            case measure => (simp [intOf] <;> omega)
          · have cb : Hid ((#[Value.int .u8 ((lo : Int) / 65536 % 256)] : Array Value).toList = by8 [UInt8.ofNat (lo / 2 ^ (56 - 8 * 5))]) := by
              have e : ((lo / 2 ^ (56 - 8 * 5) : Nat) : Int) % 256 = (lo : Int) / 65536 % 256 := by simp only [Nat.reduceMul, Nat.reduceSub, Nat.reducePow]; omega
              show [_] = [Value.int .u8 _]
              rw [ofNat_int, e]
            go_wp2_with (at_builtin; refine app_b rfl (.tmp 51) (.tmp 58) rfl w.heap.size _ (M ++ be8 lo 5) [UInt8.ofNat (lo / 2 ^ (56 - 8 * 5))] _ rfl ho cb.out rfl (by simp only [List.length_cons, List.length_nil]; omega) hsr ?_; intro v3 w3 ho3 hb3 hs3)
            go_roundw
            case rel => exact ⟨6, by go_num, by omega, by rw [hn.out, ← List.append_assoc]; exact ho3, hbr.trans hb3⟩
            case measure => (simp [intOf] <;> omega)
          · have cb : Hid ((#[Value.int .u8 ((lo : Int) / 256 % 256)] : Array Value).toList = by8 [UInt8.ofNat (lo / 2 ^ (56 - 8 * 6))]) := by
              have e : ((lo / 2 ^ (56 - 8 * 6) : Nat) : Int) % 256 = (lo : Int) / 256 % 256 := by simp only [Nat.reduceMul, Nat.reduceSub, Nat.reducePow]; omega
              show [_] = [Value.int .u8 _]
              rw [ofNat_int, e]
            go_wp2_with (at_builtin; refine app_b rfl (.tmp 51) (.tmp 58) rfl w.heap.size _ (M ++ be8 lo 6) [UInt8.ofNat (lo / 2 ^ (56 - 8 * 6))] _ rfl ho cb.out rfl (by simp only [List.length_cons, List.length_nil]; omega) hsr ?_; intro v3 w3 ho3 hb3 hs3)
            go_roundw
            case rel => exact ⟨7, by go_num, by omega, by rw [hn.out, ← List.append_assoc]; exact ho3, hbr.trans hb3⟩
            case measure => (simp [intOf] <;> omega)
          · have cb : Hid ((#[Value.int .u8 ((lo : Int) % 256)] : Array Value).toList = by8 [UInt8.ofNat (lo / 2 ^ (56 - 8 * 7))]) := by
              have e : ((lo / 2 ^ (56 - 8 * 7) : Nat) : Int) % 256 = (lo : Int) % 256 := by simp only [Nat.reduceMul, Nat.reduceSub, Nat.reducePow]; omega
              show [_] = [Value.int .u8 _]
              rw [ofNat_int, e]
            go_wp2_with (at_builtin; refine app_b rfl (.tmp 51) (.tmp 58) rfl w.heap.size _ (M ++ be8 lo 7) [UInt8.ofNat (lo / 2 ^ (56 - 8 * 7))] _ rfl ho cb.out rfl (by simp only [List.length_cons, List.length_nil]; omega) hsr ?_; intro v3 w3 ho3 hb3 hs3)
            go_roundw
            case rel => exact ⟨8, by go_num, by omega, by rw [hn.out, ← List.append_assoc]; exact ho3, hbr.trans hb3⟩
            case measure => (simp [intOf] <;> omega)
        · obtain rfl : k = 8 := by omega
          go_wp2_with fail
          go_ret
          exact ⟨_, rfl, by rw [← HR.out]; exact ho, hbr⟩
  · by_cases hm : n < 0
    · obtain ⟨U, hU⟩ : ∃ U : Nat, (U : Int) = -n := ⟨(-n).toNat, by omega⟩
      obtain ⟨X, hX⟩ : ∃ X, X = IntKind.u64.wrap n := ⟨_, rfl⟩
      have e0 : IntKind.u64.wrap n = X := hX.symm
      have e1 : IntKind.u64.wrap (-X) = (U : Int) := by rw [hX, IntKind.wrap_u64, IntKind.wrap_u64]; omega
      obtain ⟨lo, hlo⟩ : ∃ lo : Nat, lo = 18446744073709551616 - U := ⟨_, rfl⟩
      have e2 : IntKind.u64.wrap (-(U : Int)) = (lo : Int) := by rw [IntKind.wrap_u64]; omega
      obtain ⟨hi, hhi⟩ : ∃ hi : Nat, hi = 32767 := ⟨_, rfl⟩
      have ehi : ((n + 604462909807314587353088).toNat / 18446744073709551616) = hi := by omega
      have elo : ((n + 604462909807314587353088).toNat % 18446744073709551616) = lo := by omega
      have hl6 : lo < 18446744073709551616 := by omega
      have hl0 : 0 < lo := by omega
      obtain ⟨M, hM⟩ : ∃ M, M = [UInt8.ofNat (hi / 256), UInt8.ofNat hi] := ⟨_, rfl⟩
      have hMl : M.length = 2 := by rw [hM]; rfl
      have HR : Hid (M ++ be8 lo 8 = num10 (numN ⟨2, n, s⟩ / 18446744073709551616) (numN ⟨2, n, s⟩ % 18446744073709551616)) := by
        show _ = _
        rw [hM, numN_dec (by show ¬ (2 : Int) = 1; omega), ehi, elo]
        rfl
      go_enter Tryd.func37, Tryd.ntmps37
      clear ehi elo hlo hU hX
      go_wp2_with fail
      have ho2 : ownsB ((w.alloc (.cells #[.int .i64 2, .int .i64 n, .string s] 23)).alloc (.cells #[.int .u8 (127), .int .u8 (255)] 5)) w.heap.size (.slice (some ⟨(w.alloc (.cells #[.int .i64 2, .int .i64 n, .string s] 23)).heap.size, 0, none⟩) 2 2) M := by
        have hc : [Value.int .u8 (127), Value.int .u8 (255)] = by8 M := by
          rw [hM]; show _ = [Value.int .u8 _, Value.int .u8 _]
          rw [ofNat_int, ofNat_int]
          have k1 : ((hi / 256 : Nat) : Int) % 256 = 127 := by omega
          have k2 : ((hi : Nat) : Int) % 256 = 255 := by omega
          rw [k1, k2]
        show World.ownsRow _ _ _ _ _ _ _
        rw [← hc, hMl]
        exact lit2 _ _ _ _ (by simp)
      have hb2 : Below w.heap.size w ((w.alloc (.cells #[.int .i64 2, .int .i64 n, .string s] 23)).alloc (.cells #[.int .u8 (127), .int .u8 (255)] 5)) := ((Below.refl _ w).alloc (Nat.le_refl _) _).alloc (by simp) _
      clear hM
      generalize ((w.alloc (.cells #[.int .i64 2, .int .i64 n, .string s] 23)).alloc (.cells #[.int .u8 (127), .int .u8 (255)] 5)) = w2 at *
      go_loopw [7, 8] (fun sv ss wr => ∃ k : Nat, ss = .int .i64 (7 - (k : Int)) ∧ k ≤ 8 ∧ ownsB wr w.heap.size sv (M ++ be8 lo k) ∧ Below w.heap.size w wr) (fun _ ss _ => (intOf ss + 1).toNat)
      case atStart => exact ⟨0, rfl, by omega, by simpa [be8] using ho2, hb2⟩
      case round =>
        obtain ⟨k, rfl, hk, ho, hbr⟩ := hrel
        have hll : (M ++ be8 lo k).length ≤ 10 := by rw [List.length_append, be8_len, hMl]; omega
        have hsr := hbr.size
        by_cases hlt : k < 8
        · have hn : Hid (be8 lo (k + 1) = be8 lo k ++ [UInt8.ofNat (lo / 2 ^ (56 - 8 * k))]) := be8_next lo k
          rcases (show k = 0 ∨ k = 1 ∨ k = 2 ∨ k = 3 ∨ k = 4 ∨ k = 5 ∨ k = 6 ∨ k = 7 by omega) with rfl | rfl | rfl | rfl | rfl | rfl | rfl | rfl
          · have cb : Hid ((#[Value.int .u8 ((lo : Int) / 72057594037927936)] : Array Value).toList = by8 [UInt8.ofNat (lo / 2 ^ (56 - 8 * 0))]) := by
              have e : ((lo / 2 ^ (56 - 8 * 0) : Nat) : Int) % 256 = (lo : Int) / 72057594037927936 := by simp only [Nat.reduceMul, Nat.reduceSub, Nat.reducePow]; omega
              show [_] = [Value.int .u8 _]
              rw [ofNat_int, e]
            go_wp2_with (at_builtin; refine app_b rfl (.tmp 51) (.tmp 58) rfl w.heap.size _ (M ++ be8 lo 0) [UInt8.ofNat (lo / 2 ^ (56 - 8 * 0))] _ rfl ho cb.out rfl (by simp only [List.length_cons, List.length_nil]; omega) hsr ?_; intro v3 w3 ho3 hb3 hs3)
            go_roundw
            case rel => exact ⟨1, by go_num, by omega, by rw [hn.out, ← List.append_assoc]; exact ho3, hbr.trans hb3⟩
            case measure => (simp [intOf] <;> omega)
          · have cb : Hid ((#[Value.int .u8 ((lo : Int) / 281474976710656 % 256)] : Array Value).toList = by8 [UInt8.ofNat (lo / 2 ^ (56 - 8 * 1))]) := by
              have e : ((lo / 2 ^ (56 - 8 * 1) : Nat) : Int) % 256 = (lo : Int) / 281474976710656 % 256 := by simp only [Nat.reduceMul, Nat.reduceSub, Nat.reducePow]; omega
              show [_] = [Value.int .u8 _]
              rw [ofNat_int, e]
            go_wp2_with (at_builtin; refine app_b rfl (.tmp 51) (.tmp 58) rfl w.heap.size _ (M ++ be8 lo 1) [UInt8.ofNat (lo / 2 ^ (56 - 8 * 1))] _ rfl ho cb.out rfl (by simp only [List.length_cons, List.length_nil]; omega) hsr ?_; intro v3 w3 ho3 hb3 hs3)
            go_roundw
            case rel => exact ⟨2, by go_num, by omega, by rw [hn.out, ← List.append_assoc]; exact ho3, hbr.trans hb3⟩
            case measure => (simp [intOf] <;> omega)
          · have cb : Hid ((#[Value.int .u8 ((lo : Int) / 1099511627776 % 256)] : Array Value).toList = by8 [UInt8.ofNat (lo / 2 ^ (56 - 8 * 2))]) := by
              have e : ((lo / 2 ^ (56 - 8 * 2) : Nat) : Int) % 256 = (lo : Int) / 1099511627776 % 256 := by simp only [Nat.reduceMul, Nat.reduceSub, Nat.reducePow]; omega
              show [_] = [Value.int .u8 _]
              rw [ofNat_int, e]
            go_wp2_with (at_builtin; refine app_b rfl (.tmp 51) (.tmp 58) rfl w.heap.size _ (M ++ be8 lo 2) [UInt8.ofNat (lo / 2 ^ (56 - 8 * 2))] _ rfl ho cb.out rfl (by simp only [List.length_cons, List.length_nil]; omega) hsr ?_; intro v3 w3 ho3 hb3 hs3)
            go_roundw
            case rel => exact ⟨3, by go_num, by omega, by rw [hn.out, ← List.append_assoc]; exact ho3, hbr.trans hb3⟩
            case measure => (simp [intOf] <;> omega)
          · have cb : Hid ((#[Value.int .u8 ((lo : Int) / 4294967296 % 256)] : Array Value).toList = by8 [UInt8.ofNat (lo / 2 ^ (56 - 8 * 3))]) := by
              have e : ((lo / 2 ^ (56 - 8 * 3) : Nat) : Int) % 256 = (lo : Int) / 4294967296 % 256 := by simp only [Nat.reduceMul, Nat.reduceSub, Nat.reducePow]; omega
              show [_] = [Value.int .u8 _]
              rw [ofNat_int, e]
            go_wp2_with (at_builtin; refine app_b rfl (.tmp 51) (.tmp 58) rfl w.heap.size _ (M ++ be8 lo 3) [UInt8.ofNat (lo / 2 ^ (56 - 8 * 3))] _ rfl ho cb.out rfl (by simp only [List.length_cons, List.length_nil]; omega) hsr ?_; intro v3 w3 ho3 hb3 hs3)
            go_roundw
            case rel => exact ⟨4, by go_num, by omega, by rw [hn.out, ← List.append_assoc]; exact ho3, hbr.trans hb3⟩
            case measure => (simp [intOf] <;> omega)
          · have cb : Hid ((#[Value.int .u8 ((lo : Int) / 16777216 % 256)] : Array Value).toList = by8 [UInt8.ofNat (lo / 2 ^ (56 - 8 * 4))]) := by
              have e : ((lo / 2 ^ (56 - 8 * 4) : Nat) : Int) % 256 = (lo : Int) / 16777216 % 256 := by simp only [Nat.reduceMul, Nat.reduceSub, Nat.reducePow]; omega
              show [_] = [Value.int .u8 _]
              rw [ofNat_int, e]
            go_wp2_with (at_builtin; refine app_b rfl (.tmp 51) (.tmp 58) rfl w.heap.size _ (M ++ be8 lo 4) [UInt8.ofNat (lo / 2 ^ (56 - 8 * 4))] _ rfl ho cb.out rfl (by simp only [List.length_cons, List.length_nil]; omega) hsr ?_; intro v3 w3 ho3 hb3 hs3)
            go_roundw
            case rel => exact ⟨5, by go_num, by omega, by rw [hn.out, ← List.append_assoc]; exact ho3, hbr.trans hb3⟩
            case measure => (simp [intOf] <;> omega)
          · have cb : Hid ((#[Value.int .u8 ((lo : Int) / 65536 % 256)] : Array Value).toList = by8 [UInt8.ofNat (lo / 2 ^ (56 - 8 * 5))]) := by
              have e : ((lo / 2 ^ (56 - 8 * 5) : Nat) : Int) % 256 = (lo : Int) / 65536 % 256 := by simp only [Nat.reduceMul, Nat.reduceSub, Nat.reducePow]; omega
              show [_] = [Value.int .u8 _]
              rw [ofNat_int, e]
            go_wp2_with (at_builtin; refine app_b rfl (.tmp 51) (.tmp 58) rfl w.heap.size _ (M ++ be8 lo 5) [UInt8.ofNat (lo / 2 ^ (56 - 8 * 5))] _ rfl ho cb.out rfl (by simp only [List.length_cons, List.length_nil]; omega) hsr ?_; intro v3 w3 ho3 hb3 hs3)
            go_roundw
            case rel => exact ⟨6, by go_num, by omega, by rw [hn.out, ← List.append_assoc]; exact ho3, hbr.trans hb3⟩
            case measure => (simp [intOf] <;> omega)
          · have cb : Hid ((#[Value.int .u8 ((lo : Int) / 256 % 256)] : Array Value).toList = by8 [UInt8.ofNat (lo / 2 ^ (56 - 8 * 6))]) := by
              have e : ((lo / 2 ^ (56 - 8 * 6) : Nat) : Int) % 256 = (lo : Int) / 256 % 256 := by simp only [Nat.reduceMul, Nat.reduceSub, Nat.reducePow]; omega
              show [_] = [Value.int .u8 _]
              rw [ofNat_int, e]
            go_wp2_with (at_builtin; refine app_b rfl (.tmp 51) (.tmp 58) rfl w.heap.size _ (M ++ be8 lo 6) [UInt8.ofNat (lo / 2 ^ (56 - 8 * 6))] _ rfl ho cb.out rfl (by simp only [List.length_cons, List.length_nil]; omega) hsr ?_; intro v3 w3 ho3 hb3 hs3)
            go_roundw
            case rel => exact ⟨7, by go_num, by omega, by rw [hn.out, ← List.append_assoc]; exact ho3, hbr.trans hb3⟩
            case measure => (simp [intOf] <;> omega)
          · have cb : Hid ((#[Value.int .u8 ((lo : Int) % 256)] : Array Value).toList = by8 [UInt8.ofNat (lo / 2 ^ (56 - 8 * 7))]) := by
              have e : ((lo / 2 ^ (56 - 8 * 7) : Nat) : Int) % 256 = (lo : Int) % 256 := by simp only [Nat.reduceMul, Nat.reduceSub, Nat.reducePow]; omega
              show [_] = [Value.int .u8 _]
              rw [ofNat_int, e]
            go_wp2_with (at_builtin; refine app_b rfl (.tmp 51) (.tmp 58) rfl w.heap.size _ (M ++ be8 lo 7) [UInt8.ofNat (lo / 2 ^ (56 - 8 * 7))] _ rfl ho cb.out rfl (by simp only [List.length_cons, List.length_nil]; omega) hsr ?_; intro v3 w3 ho3 hb3 hs3)
            go_roundw
            case rel => exact ⟨8, by go_num, by omega, by rw [hn.out, ← List.append_assoc]; exact ho3, hbr.trans hb3⟩
            case measure => (simp [intOf] <;> omega)
        · obtain rfl : k = 8 := by omega
          go_wp2_with fail
          go_ret
          exact ⟨_, rfl, by rw [← HR.out]; exact ho, hbr⟩
    · obtain ⟨lo, rfl⟩ : ∃ U : Nat, n = (U : Int) := ⟨n.toNat, by omega⟩
      obtain ⟨hi, hhi⟩ : ∃ hi : Nat, hi = 32768 := ⟨_, rfl⟩
      have ehi : (((lo : Int) + 604462909807314587353088).toNat / 18446744073709551616) = hi := by omega
      have elo : (((lo : Int) + 604462909807314587353088).toNat % 18446744073709551616) = lo := by omega
      have hl6 : lo < 18446744073709551616 := by omega
      obtain ⟨M, hM⟩ : ∃ M, M = [UInt8.ofNat (hi / 256), UInt8.ofNat hi] := ⟨_, rfl⟩
      have hMl : M.length = 2 := by rw [hM]; rfl
      have HR : Hid (M ++ be8 lo 8 = num10 (numN ⟨2, lo, s⟩ / 18446744073709551616) (numN ⟨2, lo, s⟩ % 18446744073709551616)) := by
        show _ = _
        rw [hM, numN_dec (by show ¬ (2 : Int) = 1; omega), ehi, elo]
        rfl
      go_enter Tryd.func37, Tryd.ntmps37
      clear ehi elo hm
      go_wp2_with fail
      have ho2 : ownsB ((w.alloc (.cells #[.int .i64 2, .int .i64 (lo : Int), .string s] 23)).alloc (.cells #[.int .u8 (128), .int .u8 (0)] 5)) w.heap.size (.slice (some ⟨(w.alloc (.cells #[.int .i64 2, .int .i64 (lo : Int), .string s] 23)).heap.size, 0, none⟩) 2 2) M := by
        have hc : [Value.int .u8 (128), Value.int .u8 (0)] = by8 M := by
          rw [hM]; show _ = [Value.int .u8 _, Value.int .u8 _]
          rw [ofNat_int, ofNat_int]
          have k1 : ((hi / 256 : Nat) : Int) % 256 = 128 := by omega
          have k2 : ((hi : Nat) : Int) % 256 = 0 := by omega
          rw [k1, k2]
        show World.ownsRow _ _ _ _ _ _ _
        rw [← hc, hMl]
        exact lit2 _ _ _ _ (by simp)
      have hb2 : Below w.heap.size w ((w.alloc (.cells #[.int .i64 2, .int .i64 (lo : Int), .string s] 23)).alloc (.cells #[.int .u8 (128), .int .u8 (0)] 5)) := ((Below.refl _ w).alloc (Nat.le_refl _) _).alloc (by simp) _
      clear hM
      generalize ((w.alloc (.cells #[.int .i64 2, .int .i64 (lo : Int), .string s] 23)).alloc (.cells #[.int .u8 (128), .int .u8 (0)] 5)) = w2 at *
      go_loopw [7, 8] (fun sv ss wr => ∃ k : Nat, ss = .int .i64 (7 - (k : Int)) ∧ k ≤ 8 ∧ ownsB wr w.heap.size sv (M ++ be8 lo k) ∧ Below w.heap.size w wr) (fun _ ss _ => (intOf ss + 1).toNat)
      case atStart => exact ⟨0, rfl, by omega, by simpa [be8] using ho2, hb2⟩
      case round =>
        obtain ⟨k, rfl, hk, ho, hbr⟩ := hrel
        have hll : (M ++ be8 lo k).length ≤ 10 := by rw [List.length_append, be8_len, hMl]; omega
        have hsr := hbr.size
        by_cases hlt : k < 8
        · have hn : Hid (be8 lo (k + 1) = be8 lo k ++ [UInt8.ofNat (lo / 2 ^ (56 - 8 * k))]) := be8_next lo k
          rcases (show k = 0 ∨ k = 1 ∨ k = 2 ∨ k = 3 ∨ k = 4 ∨ k = 5 ∨ k = 6 ∨ k = 7 by omega) with rfl | rfl | rfl | rfl | rfl | rfl | rfl | rfl
          · have cb : Hid ((#[Value.int .u8 ((lo : Int) / 72057594037927936)] : Array Value).toList = by8 [UInt8.ofNat (lo / 2 ^ (56 - 8 * 0))]) := by
              have e : ((lo / 2 ^ (56 - 8 * 0) : Nat) : Int) % 256 = (lo : Int) / 72057594037927936 := by simp only [Nat.reduceMul, Nat.reduceSub, Nat.reducePow]; omega
              show [_] = [Value.int .u8 _]
              rw [ofNat_int, e]
            go_wp2_with (at_builtin; refine app_b rfl (.tmp 51) (.tmp 58) rfl w.heap.size _ (M ++ be8 lo 0) [UInt8.ofNat (lo / 2 ^ (56 - 8 * 0))] _ rfl ho cb.out rfl (by simp only [List.length_cons, List.length_nil]; omega) hsr ?_; intro v3 w3 ho3 hb3 hs3)
            go_roundw
            case rel => exact ⟨1, by go_num, by omega, by rw [hn.out, ← List.append_assoc]; exact ho3, hbr.trans hb3⟩
            case measure => (simp [intOf] <;> omega)
          · have cb : Hid ((#[Value.int .u8 ((lo : Int) / 281474976710656 % 256)] : Array Value).toList = by8 [UInt8.ofNat (lo / 2 ^ (56 - 8 * 1))]) := by
              have e : ((lo / 2 ^ (56 - 8 * 1) : Nat) : Int) % 256 = (lo : Int) / 281474976710656 % 256 := by simp only [Nat.reduceMul, Nat.reduceSub, Nat.reducePow]; omega
              show [_] = [Value.int .u8 _]
              rw [ofNat_int, e]
            go_wp2_with (at_builtin; refine app_b rfl (.tmp 51) (.tmp 58) rfl w.heap.size _ (M ++ be8 lo 1) [UInt8.ofNat (lo / 2 ^ (56 - 8 * 1))] _ rfl ho cb.out rfl (by simp only [List.length_cons, List.length_nil]; omega) hsr ?_; intro v3 w3 ho3 hb3 hs3)
            go_roundw
            case rel => exact ⟨2, by go_num, by omega, by rw [hn.out, ← List.append_assoc]; exact ho3, hbr.trans hb3⟩
            case measure => (simp [intOf] <;> omega)
          · have cb : Hid ((#[Value.int .u8 ((lo : Int) / 1099511627776 % 256)] : Array Value).toList = by8 [UInt8.ofNat (lo / 2 ^ (56 - 8 * 2))]) := by
              have e : ((lo / 2 ^ (56 - 8 * 2) : Nat) : Int) % 256 = (lo : Int) / 1099511627776 % 256 := by simp only [Nat.reduceMul, Nat.reduceSub, Nat.reducePow]; omega
              show [_] = [Value.int .u8 _]
              rw [ofNat_int, e]
            go_wp2_with (at_builtin; refine app_b rfl (.tmp 51) (.tmp 58) rfl w.heap.size _ (M ++ be8 lo 2) [UInt8.ofNat (lo / 2 ^ (56 - 8 * 2))] _ rfl ho cb.out rfl (by simp only [List.length_cons, List.length_nil]; omega) hsr ?_; intro v3 w3 ho3 hb3 hs3)
            go_roundw
            case rel => exact ⟨3, by go_num, by omega, by rw [hn.out, ← List.append_assoc]; exact ho3, hbr.trans hb3⟩
            case measure => (simp [intOf] <;> omega)
          · have cb : Hid ((#[Value.int .u8 ((lo : Int) / 4294967296 % 256)] : Array Value).toList = by8 [UInt8.ofNat (lo / 2 ^ (56 - 8 * 3))]) := by
              have e : ((lo / 2 ^ (56 - 8 * 3) : Nat) : Int) % 256 = (lo : Int) / 4294967296 % 256 := by simp only [Nat.reduceMul, Nat.reduceSub, Nat.reducePow]; omega
              show [_] = [Value.int .u8 _]
              rw [ofNat_int, e]
            go_wp2_with (at_builtin; refine app_b rfl (.tmp 51) (.tmp 58) rfl w.heap.size _ (M ++ be8 lo 3) [UInt8.ofNat (lo / 2 ^ (56 - 8 * 3))] _ rfl ho cb.out rfl (by simp only [List.length_cons, List.length_nil]; omega) hsr ?_; intro v3 w3 ho3 hb3 hs3)
            go_roundw
            case rel => exact ⟨4, by go_num, by omega, by rw [hn.out, ← List.append_assoc]; exact ho3, hbr.trans hb3⟩
            case measure => (simp [intOf] <;> omega)
          · have cb : Hid ((#[Value.int .u8 ((lo : Int) / 16777216 % 256)] : Array Value).toList = by8 [UInt8.ofNat (lo / 2 ^ (56 - 8 * 4))]) := by
              have e : ((lo / 2 ^ (56 - 8 * 4) : Nat) : Int) % 256 = (lo : Int) / 16777216 % 256 := by simp only [Nat.reduceMul, Nat.reduceSub, Nat.reducePow]; omega
              show [_] = [Value.int .u8 _]
              rw [ofNat_int, e]
            go_wp2_with (at_builtin; refine app_b rfl (.tmp 51) (.tmp 58) rfl w.heap.size _ (M ++ be8 lo 4) [UInt8.ofNat (lo / 2 ^ (56 - 8 * 4))] _ rfl ho cb.out rfl (by simp only [List.length_cons, List.length_nil]; omega) hsr ?_; intro v3 w3 ho3 hb3 hs3)
            go_roundw
            case rel => exact ⟨5, by go_num, by omega, by rw [hn.out, ← List.append_assoc]; exact ho3, hbr.trans hb3⟩
            case measure => (simp [intOf] <;> omega)
          · have cb : Hid ((#[Value.int .u8 ((lo : Int) / 65536 % 256)] : Array Value).toList = by8 [UInt8.ofNat (lo / 2 ^ (56 - 8 * 5))]) := by
              have e : ((lo / 2 ^ (56 - 8 * 5) : Nat) : Int) % 256 = (lo : Int) / 65536 % 256 := by simp only [Nat.reduceMul, Nat.reduceSub, Nat.reducePow]; omega
              show [_] = [Value.int .u8 _]
              rw [ofNat_int, e]
            go_wp2_with (at_builtin; refine app_b rfl (.tmp 51) (.tmp 58) rfl w.heap.size _ (M ++ be8 lo 5) [UInt8.ofNat (lo / 2 ^ (56 - 8 * 5))] _ rfl ho cb.out rfl (by simp only [List.length_cons, List.length_nil]; omega) hsr ?_; intro v3 w3 ho3 hb3 hs3)
            go_roundw
            case rel => exact ⟨6, by go_num, by omega, by rw [hn.out, ← List.append_assoc]; exact ho3, hbr.trans hb3⟩
            case measure => (simp [intOf] <;> omega)
          · have cb : Hid ((#[Value.int .u8 ((lo : Int) / 256 % 256)] : Array Value).toList = by8 [UInt8.ofNat (lo / 2 ^ (56 - 8 * 6))]) := by
              have e : ((lo / 2 ^ (56 - 8 * 6) : Nat) : Int) % 256 = (lo : Int) / 256 % 256 := by simp only [Nat.reduceMul, Nat.reduceSub, Nat.reducePow]; omega
              show [_] = [Value.int .u8 _]
              rw [ofNat_int, e]
            go_wp2_with (at_builtin; refine app_b rfl (.tmp 51) (.tmp 58) rfl w.heap.size _ (M ++ be8 lo 6) [UInt8.ofNat (lo / 2 ^ (56 - 8 * 6))] _ rfl ho cb.out rfl (by simp only [List.length_cons, List.length_nil]; omega) hsr ?_; intro v3 w3 ho3 hb3 hs3)
            go_roundw
            case rel => exact ⟨7, by go_num, by omega, by rw [hn.out, ← List.append_assoc]; exact ho3, hbr.trans hb3⟩
            case measure => (simp [intOf] <;> omega)
          · have cb : Hid ((#[Value.int .u8 ((lo : Int) % 256)] : Array Value).toList = by8 [UInt8.ofNat (lo / 2 ^ (56 - 8 * 7))]) := by
              have e : ((lo / 2 ^ (56 - 8 * 7) : Nat) : Int) % 256 = (lo : Int) % 256 := by simp only [Nat.reduceMul, Nat.reduceSub, Nat.reducePow]; omega
              show [_] = [Value.int .u8 _]
              rw [ofNat_int, e]
            go_wp2_with (at_builtin; refine app_b rfl (.tmp 51) (.tmp 58) rfl w.heap.size _ (M ++ be8 lo 7) [UInt8.ofNat (lo / 2 ^ (56 - 8 * 7))] _ rfl ho cb.out rfl (by simp only [List.length_cons, List.length_nil]; omega) hsr ?_; intro v3 w3 ho3 hb3 hs3)
            go_roundw
            case rel => exact ⟨8, by go_num, by omega, by rw [hn.out, ← List.append_assoc]; exact ho3, hbr.trans hb3⟩
            case measure => (simp [intOf] <;> omega)
        · obtain rfl : k = 8 := by omega
          go_wp2_with fail
          go_ret
          exact ⟨_, rfl, by rw [← HR.out]; exact ho, hbr⟩
end Go.Proofs.YtjdnbgnjgicbbaaDoor
