/-
  The walk of rowcode.appendText.
-/
import Derived.Test.YtjdnbgnjgicbbaaDoorRcB
namespace Go.Proofs.YtjdnbgnjgicbbaaDoor
open Go.RowKit Go.Shelf

/-- a text's bytes, a byte 255 behind each 0 -/
def esc : List UInt8 → List UInt8
  | [] => []
  | x :: t => if x = 0 then 0 :: 255 :: esc t else x :: esc t
theorem esc_cons (x : UInt8) (t : List UInt8) : esc (x :: t) = if x = 0 then 0 :: 255 :: esc t else x :: esc t := rfl
theorem esc_app : ∀ a b : List UInt8, esc (a ++ b) = esc a ++ esc b
  | [], b => rfl
  | x :: a, b => by
    show esc (x :: (a ++ b)) = _
    rw [esc_cons, esc_cons]
    by_cases h : x = 0
    · rw [if_pos h, if_pos h, esc_app a b]; rfl
    · rw [if_neg h, if_neg h, esc_app a b]; rfl
theorem esc_len : ∀ l : List UInt8, (esc l).length ≤ 2 * l.length
  | [] => by simp [esc]
  | x :: t => by
    have := esc_len t
    unfold esc
    split <;> simp <;> omega
theorem esc_next {l : List UInt8} {k : Nat} {x : UInt8} (h : l[k]? = some x) : esc (l.take (k + 1)) = esc (l.take k) ++ (if x = 0 then [0, 255] else [x]) := by
  rw [List.take_add_one, h, esc_app]
  congr 1
def textB (s : ByteArray) : List UInt8 := 3 :: esc s.data.toList ++ [0, 0]
theorem textB_len (s : ByteArray) : (textB s).length ≤ 2 * s.size + 3 := by
  have h := esc_len s.data.toList
  have e : s.data.toList.length = s.size := Array.length_toList
  unfold textB; simp; omega

set_option maxHeartbeats 2000000 in
set_option maxRecDepth 1000000 in
theorem appendText_any (base : Nat) (v : Value) (l : List UInt8) (s : ByteArray) (w : World) (hown : ownsB w base v l) (hb : base ≤ w.heap.size) (hs : s.size ≤ 4096) (hl : l.length ≤ 1000000) :
    Calls Tryd.prog 35 #[v, .string s] w fun e w' => ∃ v', e = .returned v' ∧ ownsB w' base v' (l ++ textB s) ∧ Below base w w' := by
  go_enter Tryd.func35, Tryd.ntmps35
  go_wp2_with (at_builtin; refine app_b rfl (.tmp 6) (.tmp 7) rfl base v l [3] #[.int .u8 3] rfl hown rfl rfl (by simp; omega) hb ?_; intro v1 w1 ho1 hb1 hs1)
  go_loopw [0, 11] (fun sv si wr => ∃ k : Nat, si = .int .i64 k ∧ k ≤ s.size ∧ ownsB wr base sv (l ++ 3 :: esc (s.data.toList.take k)) ∧ Below base w wr ∧ base ≤ wr.heap.size) (fun _ si _ => s.size - (intOf si).toNat)
  case atStart => exact ⟨0, rfl, Nat.zero_le _, ho1, hb1, hs1⟩
  case round =>
    obtain ⟨k, rfl, hk, ho, hbr, hsr⟩ := hrel
    have hll : (l ++ 3 :: esc (s.data.toList.take k)).length ≤ 2000000 := by
      have h := esc_len (s.data.toList.take k)
      have e : (s.data.toList.take k).length ≤ k := by rw [List.length_take]; omega
      simp only [List.length_append, List.length_cons]; omega
    by_cases hlt : k < s.size
    · have hx : s.data.toList[k]? = some (s[k]'hlt) := by rw [Array.getElem?_toList]; exact Array.getElem?_eq_getElem hlt
      by_cases h0 : s[k]'hlt = 0
      · have hz : (((s[k]'hlt).toNat : Int) == 0) = true := by rw [h0]; rfl
        have hn := esc_next hx
        rw [if_pos h0] at hn
        go_wp2_with (first | (at_builtin; refine app_b rfl (.tmp 14) (.tmp 18) rfl base _ (l ++ 3 :: esc (s.data.toList.take k)) [0] #[.int .u8 0] rfl ho rfl rfl (by simp only [List.length_cons, List.length_nil]; omega) hsr ?_; intro v2 w2 ho2 hb2 hs2) | (at_builtin; refine app_b rfl (.tmp 24) (.tmp 25) rfl base _ (l ++ 3 :: esc (s.data.toList.take k) ++ [0]) [255] #[.int .u8 255] rfl ho2 rfl rfl (by simp only [List.length_append, List.length_cons, List.length_nil] at hll ⊢; omega) hs2 ?_; intro v3 w3 ho3 hb3 hs3))
        go_roundw
        case rel => exact ⟨k + 1, by go_num, hlt, by rw [hn]; simpa using ho3, hbr.trans (hb2.trans hb3), hs3⟩
        case measure => simp [intOf]; omega
      · have hz : (((s[k]'hlt).toNat : Int) == 0) = false := by
          rw [beq_eq_false_iff_ne]; intro h; apply h0; apply UInt8.toNat_inj.1; simpa using h
        have hn := esc_next hx
        rw [if_neg h0] at hn
        go_wp2_with (at_builtin; refine app_b rfl (.tmp 14) (.tmp 18) rfl base _ (l ++ 3 :: esc (s.data.toList.take k)) [s[k]'hlt] #[.int .u8 ((s[k]'hlt).toNat : Int)] rfl ho rfl rfl (by simp only [List.length_cons, List.length_nil]; omega) hsr ?_; intro v2 w2 ho2 hb2 hs2)
        go_roundw
        case rel => exact ⟨k + 1, by go_num, hlt, by rw [hn]; simpa using ho2, hbr.trans hb2, hs2⟩
        case measure => simp [intOf]; omega
    · have hks : k = s.size := by omega
      go_wp2_with (at_builtin; refine app_b rfl (.tmp 28) (.tmp 29) rfl base _ (l ++ 3 :: esc (s.data.toList.take k)) [0, 0] #[.int .u8 0, .int .u8 0] rfl ho rfl rfl (by simp only [List.length_cons, List.length_nil]; omega) hsr ?_; intro v2 w2 ho2 hb2 hs2)
      go_ret
      refine ⟨v2, rfl, ?_, hbr.trans hb2⟩
      rw [hks, List.take_of_length_le (by rw [Array.length_toList]; exact Nat.le_refl _)] at ho2
      have e : l ++ textB s = l ++ 3 :: esc s.data.toList ++ [0, 0] := by simp [textB]
      rw [e]; exact ho2
end Go.Proofs.YtjdnbgnjgicbbaaDoor
