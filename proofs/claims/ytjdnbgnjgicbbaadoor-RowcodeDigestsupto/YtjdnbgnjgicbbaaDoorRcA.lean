/-
  What is wrong with a value: the walks of value.checkText and value.Check, for the seats of layer 2.
-/
import Derived.Test.YtjdnbgnjgicbbaaDoorProg
import Derived.Test.YtjdnbgnjgicbbaaDoorShelf
import Derived.WalkKit
import Derived.WalkSpells
import Derived.WalkLawsBesides
import Derived.Lib.OthersKept
import Derived.Lib.ValidLaws
namespace Go.Proofs.YtjdnbgnjgicbbaaDoor
open Go.RowKit Go.Shelf

def Tabs (w : World) : Prop := Lib.Utf8Tabs (Tryd.laysValid_ren.g 3) (Tryd.laysValid_ren.g 4) w
theorem Tabs.below {w w' : World} (h : Tabs w) (hb : Below w.heap.size w w') : Tabs w' := Utf8Tabs_below h hb

/-- what is wrong with a text: 2 too long, 3 no UTF-8, else 0 -/
def chkT (s : ByteArray) : Int := if 4096 < s.size then 2 else if Lib.validD s.data.toList = true then 0 else 3
theorem chkT_long {s : ByteArray} (h : 4096 < s.size) : chkT s = 2 := by rw [chkT, if_pos h]
theorem chkT_ok {s : ByteArray} (h : ¬ 4096 < s.size) (hv : Lib.validD s.data.toList = true) : chkT s = 0 := by rw [chkT, if_neg h, if_pos hv]
theorem chkT_bad {s : ByteArray} (h : ¬ 4096 < s.size) (hv : Lib.validD s.data.toList = false) : chkT s = 3 := by rw [chkT, if_neg h, if_neg (by simp [hv])]
theorem chkT_zero {s : ByteArray} (h : chkT s = 0) : s.size ≤ 4096 ∧ Lib.validD s.data.toList = true := by
  by_cases h1 : 4096 < s.size
  · rw [chkT_long h1] at h; omega
  · cases hv : Lib.validD s.data.toList
    · rw [chkT_bad h1 hv] at h; omega
    · exact ⟨by omega, rfl⟩
theorem chkT_cases (s : ByteArray) : chkT s = 0 ∨ chkT s = 2 ∨ chkT s = 3 := by
  unfold chkT; split
  · simp
  · split <;> simp

/-- what is wrong with a value: 1 none such, else its text's -/
def chk (ty n : Int) (s : ByteArray) : Int := if ty < 0 ∨ 4 < ty ∨ (ty = 4 ∧ n ≠ 0 ∧ n ≠ 1) then 1 else if ty = 3 then chkT s else 0
theorem chk_text (n : Int) (s : ByteArray) : chk 3 n s = chkT s := by
  rw [chk, if_neg (by omega), if_pos rfl]

theorem ret_int {k : IntKind} {a b : Int} (h : a = b) : Ending.returned (.int k a) = .returned (.int k b) := by rw [h]

set_option maxHeartbeats 1000000 in
theorem checkText_any (s : ByteArray) (w : World) (hs : s.size ≤ 9223372036854775807) (hT : Tabs w) :
    Calls Tryd.prog 33 #[.string s] w fun e w' => e = .returned (.int .i64 (chkT s)) ∧ Below w.heap.size w w' := by
  have cV : Calls Tryd.prog 42 #[.string s] w _ := Any.utf8_ValidString Tryd.laysValid s w hs hT
  by_cases h : 4096 < s.size
  · rw [chkT_long h]
    clear cV
    go_enter Tryd.func33, Tryd.ntmps33
    go_wp2
    go_ret
    exact ⟨rfl, Below.refl _ _⟩
  · cases hv : Lib.validD s.data.toList
    · rw [chkT_bad h hv]
      rw [hv] at cV
      clear hv
      go_enter Tryd.func33, Tryd.ntmps33
      go_wp2_with (go_at_call 42; refine cV.mono ?_; rintro e w' ⟨rfl, hb⟩)
      go_ret
      exact ⟨rfl, hb⟩
    · rw [chkT_ok h hv]
      rw [hv] at cV
      clear hv
      go_enter Tryd.func33, Tryd.ntmps33
      go_wp2_with (go_at_call 42; refine cV.mono ?_; rintro e w' ⟨rfl, hb⟩)
      go_ret
      exact ⟨rfl, hb⟩

set_option maxHeartbeats 1000000 in
theorem Check_any (ty n : Int) (s : ByteArray) (w : World) (hs : s.size ≤ 9223372036854775807) (hT : Tabs w) :
    Calls Tryd.prog 21 #[.agg #[.int .i64 ty, .int .i64 n, .string s]] w fun e w' => e = .returned (.int .i64 (chk ty n s)) ∧ Below w.heap.size w w' := by
  have hb1 : ∀ o, Below w.heap.size w (w.alloc o) := fun o => (Below.refl _ w).alloc (Nat.le_refl _) o
  by_cases h3 : ty = 3
  · subst h3
    rw [chk_text]
    go_enter Tryd.func21, Tryd.ntmps21
    go_wp2_with fail
    refine (checkText_any s _ hs (hT.below (hb1 _))).mono ?_
    rintro e w1 ⟨rfl, hb⟩
    go_wp2_with fail
    go_ret
    exact ⟨rfl, (hb1 _).trans (hb.mono (by simp))⟩
  have b3 : (ty == 3) = false := by rw [beq_eq_false_iff_ne]; exact h3
  by_cases h4 : ty = 4
  · subst h4
    by_cases hn0 : n = 0
    · subst hn0
      rw [chk, if_neg (by omega), if_neg (by omega)]
      go_enter Tryd.func21, Tryd.ntmps21
      go_wp2
      go_ret
      exact ⟨rfl, hb1 _⟩
    by_cases hn1 : n = 1
    · subst hn1
      rw [chk, if_neg (by omega), if_neg (by omega)]
      go_enter Tryd.func21, Tryd.ntmps21
      go_wp2
      go_ret
      exact ⟨rfl, hb1 _⟩
    rw [chk, if_pos (by omega)]
    have e0 : (n == 0) = false := by rw [beq_eq_false_iff_ne]; exact hn0
    have e1 : (n == 1) = false := by rw [beq_eq_false_iff_ne]; exact hn1
    go_enter Tryd.func21, Tryd.ntmps21
    go_wp2
    go_ret
    exact ⟨rfl, hb1 _⟩
  have b4 : (ty == 4) = false := by rw [beq_eq_false_iff_ne]; exact h4
  by_cases h0 : ty = 0
  · subst h0
    rw [chk, if_neg (by omega), if_neg (by omega)]
    go_enter Tryd.func21, Tryd.ntmps21
    go_wp2
    go_ret
    exact ⟨rfl, hb1 _⟩
  have b0 : (ty == 0) = false := by rw [beq_eq_false_iff_ne]; exact h0
  by_cases h1 : ty = 1
  · subst h1
    rw [chk, if_neg (by omega), if_neg (by omega)]
    go_enter Tryd.func21, Tryd.ntmps21
    go_wp2
    go_ret
    exact ⟨rfl, hb1 _⟩
  have b1 : (ty == 1) = false := by rw [beq_eq_false_iff_ne]; exact h1
  by_cases h2 : ty = 2
  · subst h2
    rw [chk, if_neg (by omega), if_neg (by omega)]
    go_enter Tryd.func21, Tryd.ntmps21
    go_wp2
    go_ret
    exact ⟨rfl, hb1 _⟩
  have b2 : (ty == 2) = false := by rw [beq_eq_false_iff_ne]; exact h2
  rw [chk, if_pos (by omega)]
  go_enter Tryd.func21, Tryd.ntmps21
  go_wp2
  go_ret
  exact ⟨rfl, hb1 _⟩

/-- a value: its type, its number, its text -/
structure Va where
  ty : Int
  n : Int
  s : ByteArray
def Va.chk (v : Va) : Int := YtjdnbgnjgicbbaaDoor.chk v.ty v.n v.s
/-- the values lie in a row -/
def valsAt (w : World) (g : Nat) (l : List Va) : Prop :=
  g < w.heap.size ∧ ∀ i v, l[i]? = some v → w.cell? ⟨g, i * 3, none⟩ = some (.int .i64 v.ty) ∧ w.cell? ⟨g, i * 3 + 1, none⟩ = some (.int .i64 v.n) ∧ w.cell? ⟨g, i * 3 + 2, none⟩ = some (.string v.s)
theorem valsAt.below {w w' : World} {g : Nat} {l : List Va} (h : valsAt w g l) (hb : Below w.heap.size w w') : valsAt w' g l :=
  ⟨Nat.lt_of_lt_of_le h.1 hb.size, fun i v hv => by
    have := h.2 i v hv
    exact ⟨(hb.cell (p := ⟨g, i * 3, none⟩) h.1).trans this.1, (hb.cell (p := ⟨g, i * 3 + 1, none⟩) h.1).trans this.2.1, (hb.cell (p := ⟨g, i * 3 + 2, none⟩) h.1).trans this.2.2⟩⟩
theorem drop_at {α : Type} {l : List α} {n : Nat} {x : α} (h : l[n]? = some x) : l.drop n = x :: l.drop (n + 1) := by
  obtain ⟨hn, rfl⟩ := List.getElem?_eq_some_iff.1 h
  exact List.drop_eq_getElem_cons hn

end Go.Proofs.YtjdnbgnjgicbbaaDoor
