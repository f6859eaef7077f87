/-
  The walks of value.checkText and of lockstepref01.Check: what is wrong with a text, with a value.
-/
import Derived.Test.YtokppkinhlcafaaGreatDoorChkValid
import Derived.Test.YtokppkinhlcafaaGreatDoorShelf
namespace Go.Proofs.YtokppkinhlcafaaGreatDoor
open Go.RowKit Go.Shelf

def Tabs (w : World) : Prop := Lib.Utf8Tabs (Tryz.laysValid_ren.g 3) (Tryz.laysValid_ren.g 4) w
theorem Tabs.below {w w' : World} (h : Tabs w) (hb : Below w.heap.size w w') : Tabs w' := Utf8Tabs_below h hb

/-- what is wrong with a text: 2 too long, 3 no UTF-8, else 0 -/
def chkT (s : ByteArray) : Int := if 4096 < s.size then 2 else if Lib.validD s.data.toList = true then 0 else 3
theorem chkT_long {s : ByteArray} (h : 4096 < s.size) : chkT s = 2 := by rw [chkT, if_pos h]
theorem chkT_ok {s : ByteArray} (h : ¬ 4096 < s.size) (hv : Lib.validD s.data.toList = true) : chkT s = 0 := by rw [chkT, if_neg h, if_pos hv]
theorem chkT_bad {s : ByteArray} (h : ¬ 4096 < s.size) (hv : Lib.validD s.data.toList = false) : chkT s = 3 := by rw [chkT, if_neg h, if_neg (by simp [hv])]
theorem chkT_zero {s : ByteArray} (h : chkT s = 0) : s.size ≤ 4096 ∧ Lib.validD s.data.toList = true := by
  by_cases h1 : 4096 < s.size
  · rw [chkT_long h1] at h; omega
  · cases hv : Lib.validD s.data.toList
    · rw [chkT_bad h1 hv] at h; omega
    · exact ⟨by omega, rfl⟩
theorem chkT_cases (s : ByteArray) : chkT s = 0 ∨ chkT s = 2 ∨ chkT s = 3 := by
  unfold chkT; split
  · simp
  · split <;> simp

/-- what is wrong with a value: 1 none such, else its text's -/
def chk (ty n : Int) (s : ByteArray) : Int := if ty < 0 ∨ 4 < ty ∨ (ty = 4 ∧ n ≠ 0 ∧ n ≠ 1) then 1 else if ty = 3 then chkT s else 0
theorem chk_text (n : Int) (s : ByteArray) : chk 3 n s = chkT s := by
  rw [chk, if_neg (by omega), if_pos rfl]

theorem ret_int {k : IntKind} {a b : Int} (h : a = b) : Ending.returned (.int k a) = .returned (.int k b) := by rw [h]

set_option maxHeartbeats 1000000 in
theorem checkText_any (s : ByteArray) (w : World) (hs : s.size ≤ 9223372036854775807) (hT : Tabs w) :
    Calls Tryz.prog 61 #[.string s] w fun e w' => e = .returned (.int .i64 (chkT s)) ∧ Below w.heap.size w w' := by
  have cV : Calls Tryz.prog 83 #[.string s] w _ := Any.utf8_ValidString Tryz.laysValid s w hs hT
  by_cases h : 4096 < s.size
  · rw [chkT_long h]
    clear cV
    go_enter Tryz.func61, Tryz.ntmps61
    go_wp2
    go_ret
    exact ⟨rfl, Below.refl _ _⟩
  · cases hv : Lib.validD s.data.toList
    · rw [chkT_bad h hv]
      rw [hv] at cV
      clear hv
      go_enter Tryz.func61, Tryz.ntmps61
      go_wp2_with (go_at_call 83; refine cV.mono ?_; rintro e w' ⟨rfl, hb⟩)
      go_ret
      exact ⟨rfl, hb⟩
    · rw [chkT_ok h hv]
      rw [hv] at cV
      clear hv
      go_enter Tryz.func61, Tryz.ntmps61
      go_wp2_with (go_at_call 83; refine cV.mono ?_; rintro e w' ⟨rfl, hb⟩)
      go_ret
      exact ⟨rfl, hb⟩


theorem bcell {W w1 : World} (hb : Below W.heap.size W w1) : (∀ b o, b < W.heap.size → w1.cell? ⟨b, o, none⟩ = W.cell? ⟨b, o, none⟩) ∧ (∀ b o, b < W.heap.size → w1.frozen? ⟨b, o, none⟩ = W.frozen? ⟨b, o, none⟩) :=
  ⟨fun b o h => hb.cell (p := ⟨b, o, none⟩) h, fun b o h => hb.frozen (p := ⟨b, o, none⟩) h⟩

/-- the first error of two values -/
def chk2 (a b : Int) : Int := if a = 0 then b else a
end Go.Proofs.YtokppkinhlcafaaGreatDoor
