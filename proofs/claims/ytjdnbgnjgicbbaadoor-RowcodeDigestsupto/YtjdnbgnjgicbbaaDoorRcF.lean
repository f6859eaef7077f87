/-
  The walk of rowcode.appendValue: the bytes of a value behind others.
-/
import Derived.Test.YtjdnbgnjgicbbaaDoorRcE
namespace Go.Proofs.YtjdnbgnjgicbbaaDoor
open Go.RowKit Go.Shelf

/-- the bytes of a value -/
def valB (x : Va) : List UInt8 :=
  if x.ty = 1 ∨ x.ty = 2 then wordsB (numN x / 18446744073709551616) (numN x % 18446744073709551616) x.ty.toNat
  else if x.ty = 3 then textB x.s else if x.ty = 4 then [4, UInt8.ofNat x.n.toNat] else [1]
theorem numN_big {x : Va} (h : x.ty = 1) : numN x = (x.n * 10000 + 604462909807314587353088).toNat := by unfold numN sc; rw [if_pos h]
theorem numN_dec {x : Va} (h : ¬ x.ty = 1) : numN x = (x.n + 604462909807314587353088).toNat := by unfold numN sc; rw [if_neg h]
theorem numN_lt {x : Va} (h : fit x.n) : numN x < 1208925819614629174706176 := by
  unfold fit at h; unfold numN sc; split <;> omega
theorem chk_bool {n : Int} {s : ByteArray} (h : chk 4 n s = 0) : n = 0 ∨ n = 1 := by
  unfold chk at h
  by_cases g : (4 : Int) < 0 ∨ (4 : Int) < 4 ∨ ((4 : Int) = 4 ∧ n ≠ 0 ∧ n ≠ 1)
  · rw [if_pos g] at h; omega
  · omega
theorem chk_ty {ty n : Int} {s : ByteArray} (h : chk ty n s = 0) : 0 ≤ ty ∧ ty ≤ 4 := by
  unfold chk at h
  by_cases g : ty < 0 ∨ 4 < ty ∨ (ty = 4 ∧ n ≠ 0 ∧ n ≠ 1)
  · rw [if_pos g] at h; omega
  · omega
theorem valB_len {x : Va} (h : x.chk = 0) : (valB x).length ≤ 8195 := by
  unfold valB
  split
  · rw [wordsB_len]; omega
  · split
    · rename_i h3
      have h' : chk x.ty x.n x.s = 0 := h
      rw [h3, chk_text] at h'
      have := chkT_zero h'
      have := textB_len x.s
      omega
    · split <;> simp

set_option maxHeartbeats 4000000 in
set_option maxRecDepth 1000000 in
theorem appendValue_any (base : Nat) (v : Value) (l : List UInt8) (x : Va) (w : World) (hown : ownsB w base v l) (hb : base ≤ w.heap.size) (hl : l.length ≤ 900000) (hf : fit x.n) (hc : x.chk = 0) :
    Calls Tryd.prog 22 #[v, .agg #[.int .i64 x.ty, .int .i64 x.n, .string x.s]] w fun e w' => ∃ v', e = .returned v' ∧ ownsB w' base v' (l ++ valB x) ∧ Below base w w' := by
  obtain ⟨ty, n, s⟩ := x
  have hc' : chk ty n s = 0 := hc
  have ht := chk_ty hc'
  have N0 : Hid (∀ o, ownsB (w.alloc o) base v l) := fun o => hown.alloc o
  have B0 : Hid (∀ o, Below base w (w.alloc o)) := fun o => (Below.refl _ w).alloc hb o
  have S0 : Hid (∀ o, base ≤ (w.alloc o).heap.size) := fun o => by simp; omega
  have hnl := numN_lt (x := ⟨ty, n, s⟩) hf
  rcases (show ty = 0 ∨ ty = 1 ∨ ty = 2 ∨ ty = 3 ∨ ty = 4 by omega) with rfl | rfl | rfl | rfl | rfl
  · have e : valB ⟨0, n, s⟩ = [1] := by simp [valB]
    rw [e]
    clear hc hc' ht hnl e hown hf
    go_enter Tryd.func22, Tryd.ntmps22
    go_wp2_with (at_builtin; refine app_b rfl (.tmp 27) (.tmp 28) rfl base v l [1] _ rfl (N0.out _) rfl (by simp [Act.eval]) (by simp only [List.length_cons, List.length_nil]; omega) (S0.out _) ?_; intro v3 w3 ho3 hb3 hs3)
    go_ret
    exact ⟨v3, rfl, ho3, (B0.out _).trans hb3⟩
  · have e : valB ⟨1, n, s⟩ = wordsB (numN ⟨1, n, s⟩ / 18446744073709551616) (numN ⟨1, n, s⟩ % 18446744073709551616) 1 := by simp [valB]
    rw [e]
    have PO : Hid (∀ w, Calls Tryd.prog 43 #[.agg #[.int .i64 1, .int .i64 n, .string s]] w fun e w' => e = .returned (.tuple #[.int .u64 ((numN ⟨1, n, s⟩ / 18446744073709551616 : Nat) : Int), .int .u64 ((numN ⟨1, n, s⟩ % 18446744073709551616 : Nat) : Int), .int .u8 ((1 : Nat) : Int)]) ∧ Below w.heap.size w w') := fun w => by
      have := parts_big n s w hf
      rw [← numN_big (x := ⟨1, n, s⟩) rfl] at this; exact this
    have AN : Hid (∀ w, ownsB w base v l → base ≤ w.heap.size → _) := fun w h1 h2 => appendNumber_any base v l ⟨1, n, s⟩ _ _ 1 w h1 h2 (by omega) (by omega) (by omega) (by omega) PO
    clear hc hc' ht hnl e hown hf PO
    go_enter Tryd.func22, Tryd.ntmps22
    go_wp2_with fail
    refine (AN.out _ (N0.out _) (S0.out _)).mono ?_
    rintro e w3 ⟨v3, rfl, ho3, hb3⟩
    go_wp2_with fail
    go_ret
    exact ⟨v3, rfl, ho3, (B0.out _).trans hb3⟩
  · have e : valB ⟨2, n, s⟩ = wordsB (numN ⟨2, n, s⟩ / 18446744073709551616) (numN ⟨2, n, s⟩ % 18446744073709551616) 2 := by simp [valB]
    rw [e]
    have PO : Hid (∀ w, Calls Tryd.prog 43 #[.agg #[.int .i64 2, .int .i64 n, .string s]] w fun e w' => e = .returned (.tuple #[.int .u64 ((numN ⟨2, n, s⟩ / 18446744073709551616 : Nat) : Int), .int .u64 ((numN ⟨2, n, s⟩ % 18446744073709551616 : Nat) : Int), .int .u8 ((2 : Nat) : Int)]) ∧ Below w.heap.size w w') := fun w => by
      have := parts_dec n s w hf
      rw [← numN_dec (x := ⟨2, n, s⟩) (show ¬ (2 : Int) = 1 by decide)] at this; exact this
    have AN : Hid (∀ w, ownsB w base v l → base ≤ w.heap.size → _) := fun w h1 h2 => appendNumber_any base v l ⟨2, n, s⟩ _ _ 2 w h1 h2 (by omega) (by omega) (by omega) (by omega) PO
    clear hc hc' ht hnl e hown hf PO
    go_enter Tryd.func22, Tryd.ntmps22
    go_wp2_with fail
    refine (AN.out _ (N0.out _) (S0.out _)).mono ?_
    rintro e w3 ⟨v3, rfl, ho3, hb3⟩
    go_wp2_with fail
    go_ret
    exact ⟨v3, rfl, ho3, (B0.out _).trans hb3⟩
  · have e : valB ⟨3, n, s⟩ = textB s := by simp [valB]
    rw [e]
    have hs4 : s.size ≤ 4096 := by rw [chk_text] at hc'; exact (chkT_zero hc').1
    have AT : Hid (∀ w, ownsB w base v l → base ≤ w.heap.size → _) := fun w h1 h2 => appendText_any base v l s w h1 h2 hs4 (by omega)
    clear hc hc' ht hnl e hown hf
    go_enter Tryd.func22, Tryd.ntmps22
    go_wp2_with fail
    refine (AT.out _ (N0.out _) (S0.out _)).mono ?_
    rintro e w3 ⟨v3, rfl, ho3, hb3⟩
    go_wp2_with fail
    go_ret
    exact ⟨v3, rfl, ho3, (B0.out _).trans hb3⟩
  · rcases chk_bool hc' with rfl | rfl
    · have e : valB ⟨4, 0, s⟩ = [4, 0] := by simp [valB]
      rw [e]
      clear hc hc' ht hnl e hown hf
      go_enter Tryd.func22, Tryd.ntmps22
      go_wp2_with (at_builtin; refine app_b rfl (.tmp 21) (.tmp 25) rfl base v l [4, 0] _ rfl (N0.out _) rfl (by simp [Act.eval]) (by simp only [List.length_cons, List.length_nil]; omega) (S0.out _) ?_; intro v3 w3 ho3 hb3 hs3)
      go_ret
      exact ⟨v3, rfl, ho3, (B0.out _).trans hb3⟩
    · have e : valB ⟨4, 1, s⟩ = [4, 1] := by simp [valB]
      rw [e]
      clear hc hc' ht hnl e hown hf
      go_enter Tryd.func22, Tryd.ntmps22
      go_wp2_with (at_builtin; refine app_b rfl (.tmp 21) (.tmp 25) rfl base v l [4, 1] _ rfl (N0.out _) rfl (by simp [Act.eval]) (by simp only [List.length_cons, List.length_nil]; omega) (S0.out _) ?_; intro v3 w3 ho3 hb3 hs3)
      go_ret
      exact ⟨v3, rfl, ho3, (B0.out _).trans hb3⟩
end Go.Proofs.YtjdnbgnjgicbbaaDoor
