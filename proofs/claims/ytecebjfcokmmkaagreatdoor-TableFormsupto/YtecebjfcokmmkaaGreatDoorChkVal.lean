/-
  The walks of value.Check and value.checkEach: what is wrong with a value, with the first of some.
-/
import Derived.Test.YtecebjfcokmmkaaGreatDoorChkRef
namespace Go.Proofs.YtecebjfcokmmkaaGreatDoor
open Go.RowKit Go.Shelf

set_option maxHeartbeats 1000000 in
theorem Check_any (ty n : Int) (s : ByteArray) (w : World) (hs : s.size ≤ 9223372036854775807) (hT : Tabs w) :
    Calls Tryz.prog 60 #[.agg #[.int .i64 ty, .int .i64 n, .string s]] w fun e w' => e = .returned (.int .i64 (chk ty n s)) ∧ Below w.heap.size w w' := by
  have hb1 : ∀ o, Below w.heap.size w (w.alloc o) := fun o => (Below.refl _ w).alloc (Nat.le_refl _) o
  by_cases h3 : ty = 3
  · subst h3
    rw [chk_text]
    go_enter Tryz.func60, Tryz.ntmps60
    go_wp2_with fail
    refine (checkText_any s _ hs (hT.below (hb1 _))).mono ?_
    rintro e w1 ⟨rfl, hb⟩
    go_wp2_with fail
    go_ret
    exact ⟨rfl, (hb1 _).trans (hb.mono (by simp))⟩
  have b3 : (ty == 3) = false := by rw [beq_eq_false_iff_ne]; exact h3
  by_cases h4 : ty = 4
  · subst h4
    by_cases hn0 : n = 0
    · subst hn0
      rw [chk, if_neg (by omega), if_neg (by omega)]
      go_enter Tryz.func60, Tryz.ntmps60
      go_wp2
      go_ret
      exact ⟨rfl, hb1 _⟩
    by_cases hn1 : n = 1
    · subst hn1
      rw [chk, if_neg (by omega), if_neg (by omega)]
      go_enter Tryz.func60, Tryz.ntmps60
      go_wp2
      go_ret
      exact ⟨rfl, hb1 _⟩
    rw [chk, if_pos (by omega)]
    have e0 : (n == 0) = false := by rw [beq_eq_false_iff_ne]; exact hn0
    have e1 : (n == 1) = false := by rw [beq_eq_false_iff_ne]; exact hn1
    go_enter Tryz.func60, Tryz.ntmps60
    go_wp2
    go_ret
    exact ⟨rfl, hb1 _⟩
  have b4 : (ty == 4) = false := by rw [beq_eq_false_iff_ne]; exact h4
  by_cases h0 : ty = 0
  · subst h0
    rw [chk, if_neg (by omega), if_neg (by omega)]
    go_enter Tryz.func60, Tryz.ntmps60
    go_wp2
    go_ret
    exact ⟨rfl, hb1 _⟩
  have b0 : (ty == 0) = false := by rw [beq_eq_false_iff_ne]; exact h0
  by_cases h1 : ty = 1
  · subst h1
    rw [chk, if_neg (by omega), if_neg (by omega)]
    go_enter Tryz.func60, Tryz.ntmps60
    go_wp2
    go_ret
    exact ⟨rfl, hb1 _⟩
  have b1 : (ty == 1) = false := by rw [beq_eq_false_iff_ne]; exact h1
  by_cases h2 : ty = 2
  · subst h2
    rw [chk, if_neg (by omega), if_neg (by omega)]
    go_enter Tryz.func60, Tryz.ntmps60
    go_wp2
    go_ret
    exact ⟨rfl, hb1 _⟩
  have b2 : (ty == 2) = false := by rw [beq_eq_false_iff_ne]; exact h2
  rw [chk, if_pos (by omega)]
  go_enter Tryz.func60, Tryz.ntmps60
  go_wp2
  go_ret
  exact ⟨rfl, hb1 _⟩

/-- a value: its type, its number, its text -/
structure Va where
  ty : Int
  n : Int
  s : ByteArray
def Va.chk (v : Va) : Int := YtecebjfcokmmkaaGreatDoor.chk v.ty v.n v.s
/-- the values lie in a row -/
def valsAt (w : World) (g : Nat) (l : List Va) : Prop :=
  g < w.heap.size ∧ ∀ i v, l[i]? = some v → w.cell? ⟨g, i * 3, none⟩ = some (.int .i64 v.ty) ∧ w.cell? ⟨g, i * 3 + 1, none⟩ = some (.int .i64 v.n) ∧ w.cell? ⟨g, i * 3 + 2, none⟩ = some (.string v.s)
theorem valsAt.below {w w' : World} {g : Nat} {l : List Va} (h : valsAt w g l) (hb : Below w.heap.size w w') : valsAt w' g l :=
  ⟨Nat.lt_of_lt_of_le h.1 hb.size, fun i v hv => by
    have := h.2 i v hv
    exact ⟨(hb.cell (p := ⟨g, i * 3, none⟩) h.1).trans this.1, (hb.cell (p := ⟨g, i * 3 + 1, none⟩) h.1).trans this.2.1, (hb.cell (p := ⟨g, i * 3 + 2, none⟩) h.1).trans this.2.2⟩⟩
/-- the first error of some values -/
def errs : List Va → Int
  | [] => 0
  | v :: l => if v.chk = 0 then errs l else v.chk
theorem errs_pass {v : Va} {l : List Va} (h : v.chk = 0) : errs (v :: l) = errs l := by simp [errs, h]
theorem errs_stop {v : Va} {l : List Va} (h : ¬ v.chk = 0) : errs (v :: l) = v.chk := by simp [errs, h]
theorem drop_at {α : Type} {l : List α} {n : Nat} {x : α} (h : l[n]? = some x) : l.drop n = x :: l.drop (n + 1) := by
  obtain ⟨hn, rfl⟩ := List.getElem?_eq_some_iff.1 h
  exact List.drop_eq_getElem_cons hn

end Go.Proofs.YtecebjfcokmmkaaGreatDoor
