/-
  The walks of value.isTest, value.holds and the reference's in, signs, Fits and number.
-/
import Derived.Test.YtmgmpkdnepomgaaGreatDoorOrdB
import Derived.Test.YtmgmpkdnepomgaaGreatDoorTruthsA
import Derived.Test.YtmgmpkdnepomgaaGreatDoorChkBoth
namespace Go.Proofs.YtmgmpkdnepomgaaGreatDoor
open Go.RowKit Go.Shelf

/-- one of the six signs -/
def opOK (op : ByteArray) : Bool := [[61], [60, 62], [60], [60, 61], [62], [62, 61]].contains op.data.toList
theorem op_cases (op : ByteArray) : op.data.toList = [61] ∨ op.data.toList = [60, 62] ∨ op.data.toList = [60] ∨ op.data.toList = [60, 61] ∨ op.data.toList = [62] ∨ op.data.toList = [62, 61] ∨ (op.data.toList ≠ [61] ∧ op.data.toList ≠ [60, 62] ∧ op.data.toList ≠ [60] ∧ op.data.toList ≠ [60, 61] ∧ op.data.toList ≠ [62] ∧ op.data.toList ≠ [62, 61]) := by
  by_cases h0 : op.data.toList = [61]
  · exact Or.inl h0
  by_cases h1 : op.data.toList = [60, 62]
  · exact Or.inr (Or.inl h1)
  by_cases h2 : op.data.toList = [60]
  · exact Or.inr (Or.inr (Or.inl h2))
  by_cases h3 : op.data.toList = [60, 61]
  · exact Or.inr (Or.inr (Or.inr (Or.inl h3)))
  by_cases h4 : op.data.toList = [62]
  · exact Or.inr (Or.inr (Or.inr (Or.inr (Or.inl h4))))
  by_cases h5 : op.data.toList = [62, 61]
  · exact Or.inr (Or.inr (Or.inr (Or.inr (Or.inr (Or.inl h5)))))
  · exact Or.inr (Or.inr (Or.inr (Or.inr (Or.inr (Or.inr ⟨h0, h1, h2, h3, h4, h5⟩)))))
theorem eq_of_list {s : ByteArray} {l : List UInt8} (h : s.data.toList = l) : s = ⟨l.toArray⟩ := by
  subst h; cases s; simp

/-- what a sign says of an order -/
def holdsB (op : ByteArray) (c : Int) : Bool :=
  if op.data.toList = [61] then c == 0 else if op.data.toList = [60, 62] then c != 0 else if op.data.toList = [60] then decide (c < 0) else if op.data.toList = [60, 61] then decide (c ≤ 0) else if op.data.toList = [62] then decide (0 < c) else decide (0 ≤ c)

set_option maxHeartbeats 1000000 in
theorem isTest_any (op : ByteArray) (w : World) : Calls Tryz.prog 31 #[.string op] w fun e w' => e = .returned (.bool (opOK op)) ∧ w' = w := by
  rcases op_cases op with h | h | h | h | h | h | h
  · obtain rfl := eq_of_list h
    go_enter Tryz.func31, Tryz.ntmps31
    go_wp2
    go_ret
    exact ⟨rfl, rfl⟩
  · obtain rfl := eq_of_list h
    go_enter Tryz.func31, Tryz.ntmps31
    go_wp2
    go_ret
    exact ⟨rfl, rfl⟩
  · obtain rfl := eq_of_list h
    go_enter Tryz.func31, Tryz.ntmps31
    go_wp2
    go_ret
    exact ⟨rfl, rfl⟩
  · obtain rfl := eq_of_list h
    go_enter Tryz.func31, Tryz.ntmps31
    go_wp2
    go_ret
    exact ⟨rfl, rfl⟩
  · obtain rfl := eq_of_list h
    go_enter Tryz.func31, Tryz.ntmps31
    go_wp2
    go_ret
    exact ⟨rfl, rfl⟩
  · obtain rfl := eq_of_list h
    go_enter Tryz.func31, Tryz.ntmps31
    go_wp2
    go_ret
    exact ⟨rfl, rfl⟩
  · obtain ⟨h0, h1, h2, h3, h4, h5⟩ := h
    have e : opOK op = false := by
      unfold opOK; simp only [List.contains_cons, List.contains_nil, Bool.or_false]
      simp only [beq_eq_false_iff_ne.2 h0, beq_eq_false_iff_ne.2 h1, beq_eq_false_iff_ne.2 h2, beq_eq_false_iff_ne.2 h3, beq_eq_false_iff_ne.2 h4, beq_eq_false_iff_ne.2 h5]; rfl
    rw [e]
    have k0 : (op.toList == [61]) = false := by rw [Lib.toList_data, beq_eq_false_iff_ne]; exact h0
    have k1 : (op.toList == [60, 62]) = false := by rw [Lib.toList_data, beq_eq_false_iff_ne]; exact h1
    have k2 : (op.toList == [60]) = false := by rw [Lib.toList_data, beq_eq_false_iff_ne]; exact h2
    have k3 : (op.toList == [60, 61]) = false := by rw [Lib.toList_data, beq_eq_false_iff_ne]; exact h3
    have k4 : (op.toList == [62]) = false := by rw [Lib.toList_data, beq_eq_false_iff_ne]; exact h4
    have k5 : (op.toList == [62, 61]) = false := by rw [Lib.toList_data, beq_eq_false_iff_ne]; exact h5
    clear h0 h1 h2 h3 h4 h5 e
    go_enter Tryz.func31, Tryz.ntmps31
    go_wp2
    go_ret
    exact ⟨rfl, rfl⟩

set_option maxHeartbeats 1000000 in
theorem holds_any (op : ByteArray) (c : Int) (w : World) (ho : opOK op = true) : Calls Tryz.prog 35 #[.string op, .int .i64 c] w fun e w' => e = .returned (.bool (holdsB op c)) ∧ w' = w := by
  rcases op_cases op with h | h | h | h | h | h | h
  · obtain rfl := eq_of_list h
    go_enter Tryz.func35, Tryz.ntmps35
    go_wp2
    go_ret
    exact ⟨rfl, rfl⟩
  · obtain rfl := eq_of_list h
    go_enter Tryz.func35, Tryz.ntmps35
    go_wp2
    go_ret
    exact ⟨rfl, rfl⟩
  · obtain rfl := eq_of_list h
    go_enter Tryz.func35, Tryz.ntmps35
    go_wp2
    go_ret
    exact ⟨rfl, rfl⟩
  · obtain rfl := eq_of_list h
    go_enter Tryz.func35, Tryz.ntmps35
    go_wp2
    go_ret
    exact ⟨rfl, rfl⟩
  · obtain rfl := eq_of_list h
    go_enter Tryz.func35, Tryz.ntmps35
    go_wp2
    go_ret
    exact ⟨rfl, rfl⟩
  · obtain rfl := eq_of_list h
    go_enter Tryz.func35, Tryz.ntmps35
    go_wp2
    go_ret
    exact ⟨rfl, rfl⟩
  · obtain ⟨h0, h1, h2, h3, h4, h5⟩ := h
    exfalso
    have e : opOK op = false := by
      unfold opOK; simp only [List.contains_cons, List.contains_nil, Bool.or_false]
      simp only [beq_eq_false_iff_ne.2 h0, beq_eq_false_iff_ne.2 h1, beq_eq_false_iff_ne.2 h2, beq_eq_false_iff_ne.2 h3, beq_eq_false_iff_ne.2 h4, beq_eq_false_iff_ne.2 h5]; rfl
    rw [e] at ho; cases ho

def strsAt (w : World) (g : Nat) (l : List ByteArray) : Prop := g < w.heap.size ∧ ∀ i x, l[i]? = some x → w.cell? ⟨g, i, none⟩ = some (.string x)
def inL (l : List ByteArray) (s : ByteArray) : Bool := l.any fun x => x.toList == s.toList
set_option maxHeartbeats 1000000 in
set_option maxRecDepth 1000000 in
theorem in_any (g c : Nat) (l : List ByteArray) (s : ByteArray) (w : World) (hl : l.length ≤ 1000) (hv : strsAt w g l) :
    Calls Tryz.prog 36 #[.slice (some ⟨g, 0, none⟩) l.length c, .string s] w fun e w' => e = .returned (.bool (inL l s)) ∧ w' = w := by
  obtain ⟨E, hE⟩ : ∃ E, E = inL l s := ⟨_, rfl⟩
  rw [← hE]
  have HE : Hid (E = inL l s) := hE
  clear hE
  go_enter Tryz.func36, Tryz.ntmps36
  go_wp2_with fail
  go_loop [5] (fun sk => ∃ k : Nat, sk = .int .i64 k ∧ k ≤ l.length ∧ Hid (E = inL (l.drop k) s)) (fun sk => l.length - (intOf sk).toNat)
  case atStart => exact ⟨0, rfl, Nat.zero_le _, HE⟩
  case round =>
    obtain ⟨k, rfl, hk, hd⟩ := hrel
    clear HE
    by_cases hlt : k < l.length
    · obtain ⟨v, hvk⟩ : ∃ v, l[k]? = some v := ⟨l[k], List.getElem?_eq_getElem hlt⟩
      have d1 := hv.2 k v hvk
      rw [drop_at hvk] at hd
      cases h0 : (v.toList == s.toList)
      · have hd2 : Hid (E = inL (l.drop (k + 1)) s) := by show _ = _; rw [hd.out, inL, List.any_cons, h0]; rfl
        clear hd
        go_wp2_with fail
        go_round
        case rel => exact ⟨k + 1, by go_num, hlt, hd2⟩
        case measure => simp [intOf]; omega
      · have hd2 : E = true := by rw [hd.out, inL, List.any_cons, h0]; rfl
        subst hd2
        clear hd
        go_wp2_with fail
        go_ret
        exact ⟨rfl, rfl⟩
    · have hE : E = false := by have := hd.out; rw [List.drop_eq_nil_of_le (by omega)] at this; exact this
      subst hE
      go_wp2_with fail
      go_ret
      exact ⟨rfl, rfl⟩
def signsL : List ByteArray := [⟨#[61]⟩, ⟨#[60, 62]⟩, ⟨#[60]⟩, ⟨#[60, 61]⟩, ⟨#[62]⟩, ⟨#[62, 61]⟩]
theorem strsAt_six (w : World) (a b c d e f : ByteArray) (t : TypeId) : strsAt (w.alloc (.cells #[.string a, .string b, .string c, .string d, .string e, .string f] t)) w.heap.size [a, b, c, d, e, f] := by
  refine ⟨by simp, ?_⟩
  intro i v hv
  have hi := (List.getElem?_eq_some_iff.1 hv).1
  simp only [List.length_cons, List.length_nil] at hi
  have : i = 0 ∨ i = 1 ∨ i = 2 ∨ i = 3 ∨ i = 4 ∨ i = 5 := by omega
  rcases this with rfl | rfl | rfl | rfl | rfl | rfl <;> (simp at hv; subst hv; simp only [World.cell?, heap_alloc_new]; simp)
set_option maxHeartbeats 1000000 in
theorem signs_any (w : World) : Calls Tryz.prog 37 #[] w fun e w' => e = .returned (.slice (some ⟨w.heap.size, 0, none⟩) 6 6) ∧ Below w.heap.size w w' ∧ strsAt w' w.heap.size signsL := by
  go_enter Tryz.func37, Tryz.ntmps37
  go_wp2_with fail
  go_ret
  exact ⟨rfl, (Below.refl _ _).alloc (Nat.le_refl _) _, strsAt_six _ _ _ _ _ _ _ _⟩
theorem in_signs (op : ByteArray) : inL signsL op = opOK op := by
  unfold inL signsL opOK
  simp only [List.any_cons, List.any_nil, List.contains_cons, List.contains_nil, Lib.toList_data]
  generalize op.data.toList = l
  simp only [BEq.comm (a := l)]

def fitsB (a b : Int) : Bool := (decide (a = 1 ∨ a = 2) && decide (b = 1 ∨ b = 2)) || decide (a = b) || decide (a = 0) || decide (b = 0)
end Go.Proofs.YtmgmpkdnepomgaaGreatDoor
