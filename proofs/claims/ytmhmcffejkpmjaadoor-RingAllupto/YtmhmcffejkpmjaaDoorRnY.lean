/-
  The program's answer and the document's, side by side: Of, Weight, Spread, Moves.
-/
import Derived.Test.YtmhmcffejkpmjaaDoorRnW
namespace Go.Proofs.YtmhmcffejkpmjaaDoor
open Go.RowKit Go.Shelf Go.Joins
set_option maxRecDepth 1000000

theorem nat_of {n : Int} (h : ¬ (n < 1 ∨ 64 < n)) : ∃ k : Nat, n = (k : Int) ∧ 0 < k ∧ k ≤ 64 := ⟨n.toNat, by omega, by omega, by omega⟩
theorem both_Of (x : Va) (n : Int) (hw : IntKind.i64.wrap n = n) (hf : fit x.n) (hs : x.s.size ≤ 9223372036854775807) : ∃ A E : Int,
    (∀ w, Tabs w → Calls Tryd.prog 6 #[.agg #[.int .i64 x.ty, .int .i64 x.n, .string x.s], .int .i64 n] w fun e w' => e = .returned (.tuple #[.int .i64 A, .int .i64 E]) ∧ Below w.heap.size w w') ∧
    (∀ w, Calls Tryd.prog 7 #[.agg #[.int .i64 x.ty, .int .i64 x.n, .string x.s], .int .i64 n] w fun e w' => e = .returned (.tuple #[.int .i64 A, .int .i64 E]) ∧ Below w.heap.size w w') := by
  by_cases hn : n < 1 ∨ 64 < n
  · exact ⟨0, 1, fun w _ => Of_bad x n hw hn w, fun w => refOf_bad x n hn w⟩
  · obtain ⟨k, rfl, k0, k1⟩ := nat_of hn
    by_cases h0 : x.chk = 0
    · refine ⟨(amV k x : Int), 0, fun w hT => ?_, fun w => refOf_any x k ⟨k0, k1⟩ w hf h0⟩
      have := Of_any x k ⟨k0, k1⟩ w hf hs hT
      rw [if_pos h0, h0] at this
      exact this
    · refine ⟨0, x.chk, fun w hT => ?_, fun w => refOf_chk x k ⟨k0, k1⟩ w h0⟩
      have := Of_any x k ⟨k0, k1⟩ w hf hs hT
      rw [if_neg h0] at this
      exact this
theorem both_Weight (x : Va) (p : Int) (hf : fit x.n) (hs : x.s.size ≤ 9223372036854775807) : ∃ A E : Int,
    (∀ w, Tabs w → Calls Tryd.prog 8 #[.agg #[.int .i64 x.ty, .int .i64 x.n, .string x.s], .int .i64 p] w fun e w' => e = .returned (.tuple #[.int .u64 A, .int .i64 E]) ∧ Below w.heap.size w w') ∧
    (∀ w, Calls Tryd.prog 9 #[.agg #[.int .i64 x.ty, .int .i64 x.n, .string x.s], .int .i64 p] w fun e w' => e = .returned (.tuple #[.int .u64 A, .int .i64 E]) ∧ Below w.heap.size w w') := by
  by_cases hp : p < 0 ∨ 64 ≤ p
  · exact ⟨0, 1, fun w _ => Weight_bad x p hp w, fun w => refWeight_bad x p hp w⟩
  · obtain ⟨k, rfl, k1⟩ : ∃ k : Nat, p = (k : Int) ∧ k < 64 := ⟨p.toNat, by omega, by omega⟩
    by_cases h0 : x.chk = 0
    · refine ⟨(byN (sdV x) k : Int), 0, fun w hT => ?_, fun w => refWeight_any x k k1 w hf h0⟩
      have := Weight_any x k k1 w hf hs hT
      rw [if_pos h0, h0] at this
      exact this
    · refine ⟨0, x.chk, fun w hT => ?_, fun w => refWeight_chk x k k1 w h0⟩
      have := Weight_any x k k1 w hf hs hT
      rw [if_neg h0] at this
      exact this
/-- numbers in memory -/
def intsIn (w : World) (v : Value) (m : Nat) (F : Nat → Nat) : Prop := (v = .slice none 0 0 ∧ m = 0) ∨ ∃ g, v = .slice (some ⟨g, 0, none⟩) m m ∧ g < w.heap.size ∧ ∀ p, p < m → w.cell? ⟨g, p, none⟩ = some (.int .i64 (F p : Int))
theorem intsIn.below {w w' : World} {v : Value} {m : Nat} {F : Nat → Nat} (h : intsIn w v m F) (hb : Below w.heap.size w w') : intsIn w' v m F := by
  rcases h with h | ⟨g, h1, h2, h3⟩
  · exact Or.inl h
  · exact Or.inr ⟨g, h1, Nat.lt_of_lt_of_le h2 hb.size, fun p hp => (hb.cell (p := ⟨g, p, none⟩) h2).trans (h3 p hp)⟩
/-- how both answer Spread -/
def SpS (w : World) (E : Int) (m : Nat) (F : Nat → Nat) (e : Ending) (w' : World) : Prop := Below w.heap.size w w' ∧ ∃ v, e = .returned (.tuple #[v, .int .i64 E]) ∧ intsIn w' v m F
theorem SpQ.both {w w' : World} {la : List Va} {n : Nat} {e : Ending} (h : SpQ w la n e w') : SpS w (wE la) (if wE la = 0 then n else 0) (cnt n la) e w' := by
  obtain ⟨hb, ⟨h1, rfl⟩ | ⟨h1, g, rfl, _, hr⟩⟩ := h
  · exact ⟨hb, _, rfl, by rw [if_neg h1]; exact Or.inl ⟨rfl, rfl⟩⟩
  · refine ⟨hb, _, by rw [h1], by rw [if_pos h1]; exact Or.inr ⟨g, rfl, hr.lt, fun p hp => (hr.cell hp).1⟩⟩

set_option maxHeartbeats 2000000 in
theorem Spread_bad (p : Option Addr) (c l : Nat) (n : Int) (hw : IntKind.i64.wrap n = n) (hn : n < 1 ∨ 64 < n) (w : World) : Calls Tryd.prog 10 #[.slice p l c, .int .i64 n] w fun e w' => e = .returned (.tuple #[.slice none 0 0, .int .i64 1]) ∧ w' = w := by
  have CB : Hid (∀ w1, Calls Tryd.prog 16 #[.int .i64 n] w1 fun e w' => e = .returned (.bool false) ∧ w' = w1) := fun w1 => canBe_no n hw hn w1
  clear hw hn
  go_enter Tryd.func10, Tryd.ntmps10
  go_wp2_with fail
  refine (CB.out _).mono ?_
  rintro e w' ⟨rfl, rfl⟩
  go_wp2_with fail
  refine bodyPost_ret (v := .tuple #[.slice none 0 0, .int .i64 1]) (by simp [results, Tryd.results10, go_sem]) rfl ⟨rfl, rfl⟩
set_option maxHeartbeats 2000000 in
theorem refSpread_bad (p : Option Addr) (c l : Nat) (n : Int) (hn : n < 1 ∨ 64 < n) (w : World) : Calls Tryd.prog 11 #[.slice p l c, .int .i64 n] w fun e w' => e = .returned (.tuple #[.slice none 0 0, .int .i64 1]) ∧ w' = w := by
  have CB : Hid (∀ w1, Calls Tryd.prog 19 #[.int .i64 n] w1 fun e w' => e = .returned (.bool false) ∧ w' = w1) := fun w1 => parts_no n hn w1
  clear hn
  go_enter Tryd.func11, Tryd.ntmps11
  go_wp2_with fail
  refine (CB.out _).mono ?_
  rintro e w' ⟨rfl, rfl⟩
  go_wp2_with fail
  refine bodyPost_ret (v := .tuple #[.slice none 0 0, .int .i64 1]) (by simp [results, Tryd.results11, go_sem]) rfl ⟨rfl, rfl⟩
theorem both_Spread (la : List Va) (n : Int) (hw : IntKind.i64.wrap n = n) (hl : la.length ≤ 9223372036854775807) (fa : ∀ v ∈ la, fit v.n) (sa : ∀ v ∈ la, v.s.size ≤ 9223372036854775807) : ∃ (E : Int) (m : Nat) (F : Nat → Nat), m ≤ 64 ∧
    (∀ p c w, rowIn w p la → Tabs w → Calls Tryd.prog 10 #[.slice p la.length c, .int .i64 n] w fun e w' => SpS w E m F e w') ∧
    (∀ p c w, rowIn w p la → Calls Tryd.prog 11 #[.slice p la.length c, .int .i64 n] w fun e w' => SpS w E m F e w') := by
  by_cases hn : n < 1 ∨ 64 < n
  · refine ⟨1, 0, fun _ => 0, by decide, fun p c w _ _ => (Spread_bad p c la.length n hw hn w).mono ?_, fun p c w _ => (refSpread_bad p c la.length n hn w).mono ?_⟩
    · rintro e w' ⟨rfl, rfl⟩; exact ⟨Below.refl _ _, _, rfl, Or.inl ⟨rfl, rfl⟩⟩
    · rintro e w' ⟨rfl, rfl⟩; exact ⟨Below.refl _ _, _, rfl, Or.inl ⟨rfl, rfl⟩⟩
  · obtain ⟨k, rfl, k0, k1⟩ := nat_of hn
    refine ⟨wE la, if wE la = 0 then k else 0, cnt k la, by split <;> omega, fun p c w hp hT => (Spread_any p c la k ⟨k0, k1⟩ w hp hl fa sa hT).mono fun e w' h => h.both, fun p c w hp => (refSpread_any p c la k ⟨k0, k1⟩ w hp hl fa).mono fun e w' h => h.both⟩
/-- how both answer Moves -/
def MvS (w : World) (E : Int) (L : List (Nat × Nat × Nat)) (e : Ending) (w' : World) : Prop := Below w.heap.size w w' ∧ ∃ v, e = .returned (.tuple #[v, .int .i64 E]) ∧ shr w' 38 3 v L.length (fl mvC L)
theorem MvQ.both {w w' : World} {la : List Va} {a b : Nat} {e : Ending} (h : MvQ w la a b e w') : MvS w (wE la) (if wE la = 0 then mvF a b 0 la else []) e w' := by
  obtain ⟨hb, ⟨h1, rfl⟩ | ⟨h1, v, rfl, _, hr⟩⟩ := h
  · exact ⟨hb, _, rfl, by rw [if_neg h1]; exact shr_nil _ _ _⟩
  · exact ⟨hb, v, by rw [h1], by rw [if_pos h1]; exact hr⟩
theorem mvs_bad {w : World} : MvS w 1 [] (.returned (.tuple #[.slice none 0 0, .int .i64 1])) w := ⟨Below.refl _ _, _, rfl, shr_nil _ _ _⟩

set_option maxHeartbeats 2000000 in
theorem Moves_bad (p : Option Addr) (c l : Nat) (a b : Int) (ha : IntKind.i64.wrap a = a) (hb : IntKind.i64.wrap b = b) (hn : (a < 1 ∨ 64 < a) ∨ (b < 1 ∨ 64 < b)) (w : World) : Calls Tryd.prog 12 #[.slice p l c, .int .i64 a, .int .i64 b] w fun e w' => e = .returned (.tuple #[.slice none 0 0, .int .i64 1]) ∧ w' = w := by
  by_cases h1 : a < 1 ∨ 64 < a
  · have CB : Hid (∀ w1, Calls Tryd.prog 16 #[.int .i64 a] w1 fun e w' => e = .returned (.bool false) ∧ w' = w1) := fun w1 => canBe_no a ha h1 w1
    clear ha hb hn h1
    go_enter Tryd.func12, Tryd.ntmps12
    go_wp2_with fail
    refine (CB.out _).mono ?_
    rintro e w' ⟨rfl, rfl⟩
    go_wp2_with fail
    refine bodyPost_ret (v := .tuple #[.slice none 0 0, .int .i64 1]) (by simp [results, Tryd.results12, go_sem]) rfl ⟨rfl, rfl⟩
  · obtain ⟨k, rfl, k0, k1⟩ := nat_of h1
    have CB : Hid (∀ w1, Calls Tryd.prog 16 #[.int .i64 (k : Int)] w1 fun e w' => e = .returned (.bool true) ∧ w' = w1) := fun w1 => canBe_yes k ⟨k0, k1⟩ w1
    have CC : Hid (∀ w1, Calls Tryd.prog 16 #[.int .i64 b] w1 fun e w' => e = .returned (.bool false) ∧ w' = w1) := fun w1 => canBe_no b hb (by rcases hn with h | h; exact absurd h h1; exact h) w1
    clear ha hb hn h1 k0 k1
    go_enter Tryd.func12, Tryd.ntmps12
    go_wp2_with fail
    refine (CB.out _).mono ?_
    rintro e w' ⟨rfl, rfl⟩
    go_wp2_with fail
    refine (CC.out _).mono ?_
    rintro e w2 ⟨rfl, hw2⟩
    subst hw2
    go_wp2_with fail
    refine bodyPost_ret (v := .tuple #[.slice none 0 0, .int .i64 1]) (by simp [results, Tryd.results12, go_sem]) rfl ⟨rfl, rfl⟩
set_option maxHeartbeats 2000000 in
theorem refMoves_bad (p : Option Addr) (c l : Nat) (a b : Int) (hn : (a < 1 ∨ 64 < a) ∨ (b < 1 ∨ 64 < b)) (w : World) : Calls Tryd.prog 13 #[.slice p l c, .int .i64 a, .int .i64 b] w fun e w' => e = .returned (.tuple #[.slice none 0 0, .int .i64 1]) ∧ w' = w := by
  by_cases h1 : a < 1 ∨ 64 < a
  · have CB : Hid (∀ w1, Calls Tryd.prog 19 #[.int .i64 a] w1 fun e w' => e = .returned (.bool false) ∧ w' = w1) := fun w1 => parts_no a h1 w1
    clear hn h1
    go_enter Tryd.func13, Tryd.ntmps13
    go_wp2_with fail
    refine (CB.out _).mono ?_
    rintro e w' ⟨rfl, rfl⟩
    go_wp2_with fail
    refine bodyPost_ret (v := .tuple #[.slice none 0 0, .int .i64 1]) (by simp [results, Tryd.results13, go_sem]) rfl ⟨rfl, rfl⟩
  · obtain ⟨k, rfl, k0, k1⟩ := nat_of h1
    have CB : Hid (∀ w1, Calls Tryd.prog 19 #[.int .i64 (k : Int)] w1 fun e w' => e = .returned (.bool true) ∧ w' = w1) := fun w1 => parts_yes k ⟨k0, k1⟩ w1
    have CC : Hid (∀ w1, Calls Tryd.prog 19 #[.int .i64 b] w1 fun e w' => e = .returned (.bool false) ∧ w' = w1) := fun w1 => parts_no b (by rcases hn with h | h; exact absurd h h1; exact h) w1
    clear hn h1 k0 k1
    go_enter Tryd.func13, Tryd.ntmps13
    go_wp2_with fail
    refine (CB.out _).mono ?_
    rintro e w' ⟨rfl, rfl⟩
    go_wp2_with fail
    refine (CC.out _).mono ?_
    rintro e w2 ⟨rfl, hw2⟩
    subst hw2
    go_wp2_with fail
    refine bodyPost_ret (v := .tuple #[.slice none 0 0, .int .i64 1]) (by simp [results, Tryd.results13, go_sem]) rfl ⟨rfl, rfl⟩
theorem both_Moves (la : List Va) (a b : Int) (ha : IntKind.i64.wrap a = a) (hb : IntKind.i64.wrap b = b) (hl : la.length ≤ 9223372036854775807) (fa : ∀ v ∈ la, fit v.n) (sa : ∀ v ∈ la, v.s.size ≤ 9223372036854775807) : ∃ (E : Int) (L : List (Nat × Nat × Nat)), L.length ≤ 65536 ∧
    (∀ p c w, rowIn w p la → Tabs w → Calls Tryd.prog 12 #[.slice p la.length c, .int .i64 a, .int .i64 b] w fun e w' => MvS w E L e w') ∧
    (∀ p c w, rowIn w p la → Calls Tryd.prog 13 #[.slice p la.length c, .int .i64 a, .int .i64 b] w fun e w' => MvS w E L e w') := by
  by_cases hn : (a < 1 ∨ 64 < a) ∨ (b < 1 ∨ 64 < b)
  · refine ⟨1, [], by decide, fun p c w _ _ => (Moves_bad p c la.length a b ha hb hn w).mono ?_, fun p c w _ => (refMoves_bad p c la.length a b hn w).mono ?_⟩
    · rintro e w' ⟨rfl, rfl⟩; exact mvs_bad
    · rintro e w' ⟨rfl, rfl⟩; exact mvs_bad
  · obtain ⟨k, rfl, k0, k1⟩ := nat_of (n := a) (fun h => hn (Or.inl h))
    obtain ⟨q, rfl, q0, q1⟩ := nat_of (n := b) (fun h => hn (Or.inr h))
    refine ⟨wE la, if wE la = 0 then mvF k q 0 la else [], ?_, fun p c w hp hT => (Moves_any p c la k q ⟨k0, k1⟩ ⟨q0, q1⟩ w hp hl fa sa hT).mono fun e w' h => h.both, fun p c w hp => (refMoves_any p c la k q ⟨k0, k1⟩ ⟨q0, q1⟩ w hp hl fa).mono fun e w' h => h.both⟩
    split
    · rename_i h; exact Nat.le_trans (mvF_len k q la 0) (wE_len h)
    · decide
end Go.Proofs.YtmhmcffejkpmjaaDoor
