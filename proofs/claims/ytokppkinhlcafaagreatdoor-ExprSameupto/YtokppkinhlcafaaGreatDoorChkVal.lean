/-
  The walks of value.Check and value.checkEach: what is wrong with a value, with the first of some.
-/
import Derived.Test.YtokppkinhlcafaaGreatDoorChkRef
namespace Go.Proofs.YtokppkinhlcafaaGreatDoor
open Go.RowKit Go.Shelf

set_option maxHeartbeats 1000000 in
theorem Check_any (ty n : Int) (s : ByteArray) (w : World) (hs : s.size ≤ 9223372036854775807) (hT : Tabs w) :
    Calls Tryz.prog 42 #[.agg #[.int .i64 ty, .int .i64 n, .string s]] w fun e w' => e = .returned (.int .i64 (chk ty n s)) ∧ Below w.heap.size w w' := by
  have hb1 : ∀ o, Below w.heap.size w (w.alloc o) := fun o => (Below.refl _ w).alloc (Nat.le_refl _) o
  by_cases h3 : ty = 3
  · subst h3
    rw [chk_text]
    go_enter Tryz.func42, Tryz.ntmps42
    go_wp2_with fail
    refine (checkText_any s _ hs (hT.below (hb1 _))).mono ?_
    rintro e w1 ⟨rfl, hb⟩
    go_wp2_with fail
    go_ret
    exact ⟨rfl, (hb1 _).trans (hb.mono (by simp))⟩
  have b3 : (ty == 3) = false := by rw [beq_eq_false_iff_ne]; exact h3
  by_cases h4 : ty = 4
  · subst h4
    by_cases hn0 : n = 0
    · subst hn0
      rw [chk, if_neg (by omega), if_neg (by omega)]
      go_enter Tryz.func42, Tryz.ntmps42
      go_wp2
      go_ret
      exact ⟨rfl, hb1 _⟩
    by_cases hn1 : n = 1
    · subst hn1
      rw [chk, if_neg (by omega), if_neg (by omega)]
      go_enter Tryz.func42, Tryz.ntmps42
      go_wp2
      go_ret
      exact ⟨rfl, hb1 _⟩
    rw [chk, if_pos (by omega)]
    have e0 : (n == 0) = false := by rw [beq_eq_false_iff_ne]; exact hn0
    have e1 : (n == 1) = false := by rw [beq_eq_false_iff_ne]; exact hn1
    go_enter Tryz.func42, Tryz.ntmps42
    go_wp2
    go_ret
    exact ⟨rfl, hb1 _⟩
  have b4 : (ty == 4) = false := by rw [beq_eq_false_iff_ne]; exact h4
  by_cases h0 : ty = 0
  · subst h0
    rw [chk, if_neg (by omega), if_neg (by omega)]
    go_enter Tryz.func42, Tryz.ntmps42
    go_wp2
    go_ret
    exact ⟨rfl, hb1 _⟩
  have b0 : (ty == 0) = false := by rw [beq_eq_false_iff_ne]; exact h0
  by_cases h1 : ty = 1
  · subst h1
    rw [chk, if_neg (by omega), if_neg (by omega)]
    go_enter Tryz.func42, Tryz.ntmps42
    go_wp2
    go_ret
    exact ⟨rfl, hb1 _⟩
  have b1 : (ty == 1) = false := by rw [beq_eq_false_iff_ne]; exact h1
  by_cases h2 : ty = 2
  · subst h2
    rw [chk, if_neg (by omega), if_neg (by omega)]
    go_enter Tryz.func42, Tryz.ntmps42
    go_wp2
    go_ret
    exact ⟨rfl, hb1 _⟩
  have b2 : (ty == 2) = false := by rw [beq_eq_false_iff_ne]; exact h2
  rw [chk, if_pos (by omega)]
  go_enter Tryz.func42, Tryz.ntmps42
  go_wp2
  go_ret
  exact ⟨rfl, hb1 _⟩

/-- a value: its type, its number, its text -/
structure Va where
  ty : Int
  n : Int
  s : ByteArray
def Va.chk (v : Va) : Int := YtokppkinhlcafaaGreatDoor.chk v.ty v.n v.s
/-- the values lie in a row -/
def valsAt (w : World) (g : Nat) (l : List Va) : Prop :=
  g < w.heap.size ∧ ∀ i v, l[i]? = some v → w.cell? ⟨g, i * 3, none⟩ = some (.int .i64 v.ty) ∧ w.cell? ⟨g, i * 3 + 1, none⟩ = some (.int .i64 v.n) ∧ w.cell? ⟨g, i * 3 + 2, none⟩ = some (.string v.s)
theorem valsAt.below {w w' : World} {g : Nat} {l : List Va} (h : valsAt w g l) (hb : Below w.heap.size w w') : valsAt w' g l :=
  ⟨Nat.lt_of_lt_of_le h.1 hb.size, fun i v hv => by
    have := h.2 i v hv
    exact ⟨(hb.cell (p := ⟨g, i * 3, none⟩) h.1).trans this.1, (hb.cell (p := ⟨g, i * 3 + 1, none⟩) h.1).trans this.2.1, (hb.cell (p := ⟨g, i * 3 + 2, none⟩) h.1).trans this.2.2⟩⟩
/-- the first error of some values -/
def errs : List Va → Int
  | [] => 0
  | v :: l => if v.chk = 0 then errs l else v.chk
theorem errs_pass {v : Va} {l : List Va} (h : v.chk = 0) : errs (v :: l) = errs l := by simp [errs, h]
theorem errs_stop {v : Va} {l : List Va} (h : ¬ v.chk = 0) : errs (v :: l) = v.chk := by simp [errs, h]
theorem drop_at {α : Type} {l : List α} {n : Nat} {x : α} (h : l[n]? = some x) : l.drop n = x :: l.drop (n + 1) := by
  obtain ⟨hn, rfl⟩ := List.getElem?_eq_some_iff.1 h
  exact List.drop_eq_getElem_cons hn

set_option maxHeartbeats 1000000 in
set_option maxRecDepth 1000000 in
theorem checkEach_any (g c : Nat) (l : List Va) (w : World) (hl : l.length ≤ 1000) (hv : valsAt w g l) (hs : ∀ v ∈ l, v.s.size ≤ 9223372036854775807) (hT : Tabs w) :
    Calls Tryz.prog 84 #[.slice (some ⟨g, 0, none⟩) l.length c] w fun e w' => e = .returned (.int .i64 (errs l)) ∧ Below w.heap.size w w' := by
  obtain ⟨E, hE⟩ : ∃ E, E = errs l := ⟨_, rfl⟩
  rw [← hE]
  have HE : Hid (E = errs l) := hE
  clear hE
  go_enter Tryz.func84, Tryz.ntmps84
  go_wp2_with fail
  go_loopw [8] (fun sk wr => ∃ k : Nat, sk = .int .i64 k ∧ k ≤ l.length ∧ Hid (E = errs (l.drop k)) ∧ Below w.heap.size w wr) (fun sk _ => l.length - (intOf sk).toNat)
  case atStart => exact ⟨0, rfl, Nat.zero_le _, HE, Below.refl _ _⟩
  case round =>
    obtain ⟨k, rfl, hk, hd, hb⟩ := hrel
    clear HE
    by_cases hlt : k < l.length
    · obtain ⟨v, hvk⟩ : ∃ v, l[k]? = some v := ⟨l[k], List.getElem?_eq_getElem hlt⟩
      obtain ⟨c1, c2, c3⟩ := hv.2 k v hvk
      have d1 := (hb.cell (p := ⟨g, k * 3, none⟩) hv.1).trans c1
      have d2 := (hb.cell (p := ⟨g, k * 3 + 1, none⟩) hv.1).trans c2
      have d3 := (hb.cell (p := ⟨g, k * 3 + 2, none⟩) hv.1).trans c3
      have hsv := hs v (List.mem_of_getElem? hvk)
      rw [drop_at hvk] at hd
      have CK : Hid (∀ w, Tabs w → Calls Tryz.prog 42 #[.agg #[.int .i64 v.ty, .int .i64 v.n, .string v.s]] w fun e w' => e = .returned (.int .i64 v.chk) ∧ Below w.heap.size w w') := fun w h => Check_any v.ty v.n v.s w hsv h
      have hT1 : ∀ o, Tabs (wr.alloc o) := fun o => (hT.below hb).below ((Below.refl _ _).alloc (Nat.le_refl _) o)
      have hb1 : ∀ o, Below w.heap.size w (wr.alloc o) := fun o => hb.alloc hb.size o
      have HT1 : Hid (∀ o, Tabs (wr.alloc o)) := hT1
      have HB1 : Hid (∀ o, Below w.heap.size w (wr.alloc o)) := hb1
      clear c1 c2 c3 hT1 hb1
      by_cases h0 : v.chk = 0
      · have hd2 : Hid (E = errs (l.drop (k + 1))) := hd.out.trans (errs_pass h0)
        rw [h0] at CK
        clear hd
        go_wp2_with fail
        refine (CK.out _ (HT1.out _)).mono ?_
        rintro e w1 ⟨rfl, hb2⟩
        have hb3 := (HB1.out _).trans (hb2.mono (HB1.out _).size)
        go_wp2_with fail
        go_roundw
        case rel => exact ⟨k + 1, by go_num, hlt, hd2, hb3⟩
        case measure => simp [intOf]; omega
      · have hd2 : Hid (E = v.chk) := hd.out.trans (errs_stop h0)
        have hne : (v.chk != 0) = true := by rw [bne_iff_ne]; exact h0
        clear hd
        obtain rfl := hd2.out
        go_wp2_with fail
        refine (CK.out _ (HT1.out _)).mono ?_
        rintro e w1 ⟨rfl, hb2⟩
        have hb3 := (HB1.out _).trans (hb2.mono (HB1.out _).size)
        go_wp2_with fail
        go_ret
        exact ⟨rfl, hb3⟩
    · have hE : E = 0 := by have := hd.out; rw [List.drop_eq_nil_of_le (by omega)] at this; exact this
      subst hE
      go_wp2_with fail
      go_ret
      exact ⟨rfl, hb⟩
end Go.Proofs.YtokppkinhlcafaaGreatDoor
