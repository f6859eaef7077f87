/-
  The walk of rowcode.appendNumber.
-/
import Derived.Test.YtjdnbgnjgicbbaaDoorRcD
namespace Go.Proofs.YtjdnbgnjgicbbaaDoor
open Go.RowKit Go.Shelf

/-- the first k of a word's eight bytes, the greatest first -/
def be8 (lo k : Nat) : List UInt8 := (List.range k).map fun i => UInt8.ofNat (lo / 2 ^ (56 - 8 * i))
theorem be8_len (lo k : Nat) : (be8 lo k).length = k := by simp [be8]
theorem be8_next (lo k : Nat) : be8 lo (k + 1) = be8 lo k ++ [UInt8.ofNat (lo / 2 ^ (56 - 8 * k))] := by
  simp [be8, List.range_succ]
/-- a number's bytes -/
def wordsB (hi lo kd : Nat) : List UInt8 := [2, UInt8.ofNat (hi / 256), UInt8.ofNat hi] ++ be8 lo 8 ++ [UInt8.ofNat kd]
theorem wordsB_len (hi lo kd : Nat) : (wordsB hi lo kd).length = 12 := by simp [wordsB, be8_len]
theorem ofNat_int (x : Nat) : (((UInt8.ofNat x).toNat : Nat) : Int) = (x : Int) % 256 := by
  rw [UInt8.toNat_ofNat']; simp

set_option maxHeartbeats 4000000 in
set_option maxRecDepth 1000000 in
theorem appendNumber_any (base : Nat) (v : Value) (l : List UInt8) (x : Va) (hi lo kd : Nat) (w : World) (hown : ownsB w base v l) (hb : base ≤ w.heap.size) (hl : l.length ≤ 1000000) (hhi : hi < 65536) (hlo : lo < 18446744073709551616) (hkd : kd < 256)
    (PO : Hid (∀ w, Calls Tryd.prog 43 #[.agg #[.int .i64 x.ty, .int .i64 x.n, .string x.s]] w fun e w' => e = .returned (.tuple #[.int .u64 (hi : Int), .int .u64 (lo : Int), .int .u8 (kd : Int)]) ∧ Below w.heap.size w w')) :
    Calls Tryd.prog 34 #[v, .agg #[.int .i64 x.ty, .int .i64 x.n, .string x.s]] w fun e w' => ∃ v', e = .returned v' ∧ ownsB w' base v' (l ++ wordsB hi lo kd) ∧ Below base w w' := by
  have N0 : Hid (ownsB (w.alloc (.cells #[.int .i64 x.ty, .int .i64 x.n, .string x.s] 23)) base v l) := hown.alloc _
  have B0 : Hid (Below base w (w.alloc (.cells #[.int .i64 x.ty, .int .i64 x.n, .string x.s] 23))) := (Below.refl _ w).alloc hb _
  go_enter Tryd.func34, Tryd.ntmps34
  go_wp2_with fail
  generalize w.alloc (.cells #[.int .i64 x.ty, .int .i64 x.n, .string x.s] 23) = w0 at *
  refine (PO.out _).mono ?_
  rintro e w1 ⟨rfl, hbp⟩
  have hs0 : base ≤ w0.heap.size := Nat.le_trans hb B0.out.size
  have ho1 : ownsB w1 base v l := by
    exact World.ownsRow.kept N0.out (row := none) ⟨hbp.os, hbp.tape, hbp.output, hbp.size, fun k hk _ => hbp.block k hk⟩ (by cases hv : v.ownBlock <;> simp)
  have hb1 : Below base w w1 := B0.out.trans (hbp.mono hs0)
  have hs1 : base ≤ w1.heap.size := Nat.le_trans hs0 hbp.size
  clear N0 B0 hbp hs0 PO hown hb
  have c3 : Hid ((#[Value.int .u8 2, Value.int .u8 ((hi : Int) / 256), Value.int .u8 ((hi : Int) % 256)] : Array Value).toList = by8 [2, UInt8.ofNat (hi / 256), UInt8.ofNat hi]) := by
    show _ = _
    have e : ((hi / 256 : Nat) : Int) % 256 = (hi : Int) / 256 := by omega
    simp only [by8, List.map_cons, List.map_nil, ofNat_int, e]
    rfl
  have ck : Hid ((#[Value.int .u8 (kd : Int)] : Array Value).toList = by8 [UInt8.ofNat kd]) := by
    show _ = _
    have e : (kd : Int) % 256 = (kd : Int) := by omega
    simp only [by8, List.map_cons, List.map_nil, ofNat_int, e]
  obtain ⟨M, hM⟩ : ∃ M, M = l ++ [2, UInt8.ofNat (hi / 256), UInt8.ofNat hi] := ⟨_, rfl⟩
  have hMl : M.length ≤ 1000003 := by rw [hM]; simp; omega
  have HM : Hid (M = l ++ [2, UInt8.ofNat (hi / 256), UInt8.ofNat hi]) := hM
  clear hM
  go_wp2_with (at_builtin; refine app_b rfl (.tmp 15) (.tmp 21) rfl base v l [2, UInt8.ofNat (hi / 256), UInt8.ofNat hi] _ rfl ho1 c3.out rfl (by simp only [List.length_cons, List.length_nil]; omega) hs1 ?_; intro v2 w2 ho2 hb2 hs2; rw [← HM.out] at ho2)
  replace hb2 := hb1.trans hb2
  clear hb1 ho1 hs1 c3
  go_loopw [0, 8] (fun sv ss wr => ∃ k : Nat, ss = .int .i64 (56 - 8 * (k : Int)) ∧ k ≤ 8 ∧ ownsB wr base sv (M ++ be8 lo k) ∧ Below base w wr ∧ base ≤ wr.heap.size) (fun _ ss _ => (intOf ss + 8).toNat)
  case atStart => exact ⟨0, rfl, by omega, by simpa [be8] using ho2, hb2, hs2⟩
  case round =>
    obtain ⟨k, rfl, hk, ho, hbr, hsr⟩ := hrel
    have hll : (M ++ be8 lo k).length ≤ 1000011 := by rw [List.length_append, be8_len]; omega
    by_cases hlt : k < 8
    · have hn : Hid (be8 lo (k + 1) = be8 lo k ++ [UInt8.ofNat (lo / 2 ^ (56 - 8 * k))]) := be8_next lo k
      rcases (show k = 0 ∨ k = 1 ∨ k = 2 ∨ k = 3 ∨ k = 4 ∨ k = 5 ∨ k = 6 ∨ k = 7 by omega) with rfl | rfl | rfl | rfl | rfl | rfl | rfl | rfl
      · have cb : Hid ((#[Value.int .u8 ((lo : Int) / 72057594037927936)] : Array Value).toList = by8 [UInt8.ofNat (lo / 2 ^ (56 - 8 * 0))]) := by
          have e : ((lo / 2 ^ (56 - 8 * 0) : Nat) : Int) % 256 = (lo : Int) / 72057594037927936 := by simp only [Nat.reduceMul, Nat.reduceSub, Nat.reducePow]; omega
          show [_] = [Value.int .u8 _]
          rw [ofNat_int, e]
        go_wp2_with (at_builtin; refine app_b rfl (.tmp 27) (.tmp 32) rfl base _ (M ++ be8 lo 0) [UInt8.ofNat (lo / 2 ^ (56 - 8 * 0))] _ rfl ho cb.out rfl (by simp only [List.length_cons, List.length_nil]; omega) hsr ?_; intro v3 w3 ho3 hb3 hs3)
        go_roundw
        case rel => exact ⟨1, by go_num, by omega, by rw [hn.out, ← List.append_assoc]; exact ho3, hbr.trans hb3, hs3⟩
        case measure => simp [intOf]
      · have cb : Hid ((#[Value.int .u8 ((lo : Int) / 281474976710656 % 256)] : Array Value).toList = by8 [UInt8.ofNat (lo / 2 ^ (56 - 8 * 1))]) := by
          have e : ((lo / 2 ^ (56 - 8 * 1) : Nat) : Int) % 256 = (lo : Int) / 281474976710656 % 256 := by simp only [Nat.reduceMul, Nat.reduceSub, Nat.reducePow]; omega
          show [_] = [Value.int .u8 _]
          rw [ofNat_int, e]
        go_wp2_with (at_builtin; refine app_b rfl (.tmp 27) (.tmp 32) rfl base _ (M ++ be8 lo 1) [UInt8.ofNat (lo / 2 ^ (56 - 8 * 1))] _ rfl ho cb.out rfl (by simp only [List.length_cons, List.length_nil]; omega) hsr ?_; intro v3 w3 ho3 hb3 hs3)
        go_roundw
        case rel => exact ⟨2, by go_num, by omega, by rw [hn.out, ← List.append_assoc]; exact ho3, hbr.trans hb3, hs3⟩
        case measure => simp [intOf]
      · have cb : Hid ((#[Value.int .u8 ((lo : Int) / 1099511627776 % 256)] : Array Value).toList = by8 [UInt8.ofNat (lo / 2 ^ (56 - 8 * 2))]) := by
          have e : ((lo / 2 ^ (56 - 8 * 2) : Nat) : Int) % 256 = (lo : Int) / 1099511627776 % 256 := by simp only [Nat.reduceMul, Nat.reduceSub, Nat.reducePow]; omega
          show [_] = [Value.int .u8 _]
          rw [ofNat_int, e]
        go_wp2_with (at_builtin; refine app_b rfl (.tmp 27) (.tmp 32) rfl base _ (M ++ be8 lo 2) [UInt8.ofNat (lo / 2 ^ (56 - 8 * 2))] _ rfl ho cb.out rfl (by simp only [List.length_cons, List.length_nil]; omega) hsr ?_; intro v3 w3 ho3 hb3 hs3)
        go_roundw
        case rel => exact ⟨3, by go_num, by omega, by rw [hn.out, ← List.append_assoc]; exact ho3, hbr.trans hb3, hs3⟩
        case measure => simp [intOf]
      · have cb : Hid ((#[Value.int .u8 ((lo : Int) / 4294967296 % 256)] : Array Value).toList = by8 [UInt8.ofNat (lo / 2 ^ (56 - 8 * 3))]) := by
          have e : ((lo / 2 ^ (56 - 8 * 3) : Nat) : Int) % 256 = (lo : Int) / 4294967296 % 256 := by simp only [Nat.reduceMul, Nat.reduceSub, Nat.reducePow]; omega
          show [_] = [Value.int .u8 _]
          rw [ofNat_int, e]
        go_wp2_with (at_builtin; refine app_b rfl (.tmp 27) (.tmp 32) rfl base _ (M ++ be8 lo 3) [UInt8.ofNat (lo / 2 ^ (56 - 8 * 3))] _ rfl ho cb.out rfl (by simp only [List.length_cons, List.length_nil]; omega) hsr ?_; intro v3 w3 ho3 hb3 hs3)
        go_roundw
        case rel => exact ⟨4, by go_num, by omega, by rw [hn.out, ← List.append_assoc]; exact ho3, hbr.trans hb3, hs3⟩
        case measure => simp [intOf]
      · have cb : Hid ((#[Value.int .u8 ((lo : Int) / 16777216 % 256)] : Array Value).toList = by8 [UInt8.ofNat (lo / 2 ^ (56 - 8 * 4))]) := by
          have e : ((lo / 2 ^ (56 - 8 * 4) : Nat) : Int) % 256 = (lo : Int) / 16777216 % 256 := by simp only [Nat.reduceMul, Nat.reduceSub, Nat.reducePow]; omega
          show [_] = [Value.int .u8 _]
          rw [ofNat_int, e]
        go_wp2_with (at_builtin; refine app_b rfl (.tmp 27) (.tmp 32) rfl base _ (M ++ be8 lo 4) [UInt8.ofNat (lo / 2 ^ (56 - 8 * 4))] _ rfl ho cb.out rfl (by simp only [List.length_cons, List.length_nil]; omega) hsr ?_; intro v3 w3 ho3 hb3 hs3)
        go_roundw
        case rel => exact ⟨5, by go_num, by omega, by rw [hn.out, ← List.append_assoc]; exact ho3, hbr.trans hb3, hs3⟩
        case measure => simp [intOf]
      · have cb : Hid ((#[Value.int .u8 ((lo : Int) / 65536 % 256)] : Array Value).toList = by8 [UInt8.ofNat (lo / 2 ^ (56 - 8 * 5))]) := by
          have e : ((lo / 2 ^ (56 - 8 * 5) : Nat) : Int) % 256 = (lo : Int) / 65536 % 256 := by simp only [Nat.reduceMul, Nat.reduceSub, Nat.reducePow]; omega
          show [_] = [Value.int .u8 _]
          rw [ofNat_int, e]
        go_wp2_with (at_builtin; refine app_b rfl (.tmp 27) (.tmp 32) rfl base _ (M ++ be8 lo 5) [UInt8.ofNat (lo / 2 ^ (56 - 8 * 5))] _ rfl ho cb.out rfl (by simp only [List.length_cons, List.length_nil]; omega) hsr ?_; intro v3 w3 ho3 hb3 hs3)
        go_roundw
        case rel => exact ⟨6, by go_num, by omega, by rw [hn.out, ← List.append_assoc]; exact ho3, hbr.trans hb3, hs3⟩
        case measure => simp [intOf]
      · have cb : Hid ((#[Value.int .u8 ((lo : Int) / 256 % 256)] : Array Value).toList = by8 [UInt8.ofNat (lo / 2 ^ (56 - 8 * 6))]) := by
          have e : ((lo / 2 ^ (56 - 8 * 6) : Nat) : Int) % 256 = (lo : Int) / 256 % 256 := by simp only [Nat.reduceMul, Nat.reduceSub, Nat.reducePow]; omega
          show [_] = [Value.int .u8 _]
          rw [ofNat_int, e]
        go_wp2_with (at_builtin; refine app_b rfl (.tmp 27) (.tmp 32) rfl base _ (M ++ be8 lo 6) [UInt8.ofNat (lo / 2 ^ (56 - 8 * 6))] _ rfl ho cb.out rfl (by simp only [List.length_cons, List.length_nil]; omega) hsr ?_; intro v3 w3 ho3 hb3 hs3)
        go_roundw
        case rel => exact ⟨7, by go_num, by omega, by rw [hn.out, ← List.append_assoc]; exact ho3, hbr.trans hb3, hs3⟩
        case measure => simp [intOf]
      · have cb : Hid ((#[Value.int .u8 ((lo : Int) % 256)] : Array Value).toList = by8 [UInt8.ofNat (lo / 2 ^ (56 - 8 * 7))]) := by
          have e : ((lo / 2 ^ (56 - 8 * 7) : Nat) : Int) % 256 = (lo : Int) % 256 := by simp only [Nat.reduceMul, Nat.reduceSub, Nat.reducePow]; omega
          show [_] = [Value.int .u8 _]
          rw [ofNat_int, e]
        go_wp2_with (at_builtin; refine app_b rfl (.tmp 27) (.tmp 32) rfl base _ (M ++ be8 lo 7) [UInt8.ofNat (lo / 2 ^ (56 - 8 * 7))] _ rfl ho cb.out rfl (by simp only [List.length_cons, List.length_nil]; omega) hsr ?_; intro v3 w3 ho3 hb3 hs3)
        go_roundw
        case rel => exact ⟨8, by go_num, by omega, by rw [hn.out, ← List.append_assoc]; exact ho3, hbr.trans hb3, hs3⟩
        case measure => simp [intOf]
    · obtain rfl : k = 8 := by omega
      go_wp2_with (at_builtin; refine app_b rfl (.tmp 34) (.tmp 36) rfl base _ (M ++ be8 lo 8) [UInt8.ofNat kd] _ rfl ho ck.out rfl (by simp only [List.length_cons, List.length_nil]; omega) hsr ?_; intro v3 w3 ho3 hb3 hs3)
      go_ret
      refine ⟨v3, rfl, ?_, hbr.trans hb3⟩
      have e : l ++ wordsB hi lo kd = M ++ be8 lo 8 ++ [UInt8.ofNat kd] := by rw [HM.out]; simp [wordsB]
      rw [e]; exact ho3
end Go.Proofs.YtjdnbgnjgicbbaaDoor
