/-
  The walk of locksteplaw01.ValueOrders.
-/
import Derived.Test.YtmgmpkdnepomgaaGreatDoorRowStep
import Derived.Test.YtmgmpkdnepomgaaGreatDoorLivesB
import Derived.Deep.CutBlock
import Derived.Deep.DeepCutAuto
namespace Go.Proofs.YtmgmpkdnepomgaaGreatDoor
open Go.RowKit Go.Shelf

/-- three boxes, and what lay below them -/
@[reducible] def three (w0 : World) (A B C : Nat) (a b c : Va) (w' : World) : Prop := Below w0.heap.size w0 w' ∧ w'.cell? ⟨A, 0, none⟩ = some (.int .i64 a.ty) ∧ w'.cell? ⟨A, 1, none⟩ = some (.int .i64 a.n) ∧ w'.cell? ⟨A, 2, none⟩ = some (.string a.s) ∧ w'.cell? ⟨B, 0, none⟩ = some (.int .i64 b.ty) ∧ w'.cell? ⟨B, 1, none⟩ = some (.int .i64 b.n) ∧ w'.cell? ⟨B, 2, none⟩ = some (.string b.s) ∧ w'.cell? ⟨C, 0, none⟩ = some (.int .i64 c.ty) ∧ w'.cell? ⟨C, 1, none⟩ = some (.int .i64 c.n) ∧ w'.cell? ⟨C, 2, none⟩ = some (.string c.s)
theorem three.next {w0 w w' : World} {A B C : Nat} {a b c : Va} (h : three w0 A B C a b c w) (hA : A < w0.heap.size) (hB : B < w0.heap.size) (hC : C < w0.heap.size) (hb : Below w.heap.size w w') : three w0 A B C a b c w' := by
  obtain ⟨h0, a0, a1, a2, b0, b1, b2, c0, c1, c2⟩ := h
  have s := h0.size
  have lA : A < w.heap.size := by omega
  have lB : B < w.heap.size := by omega
  have lC : C < w.heap.size := by omega
  exact ⟨h0.trans (hb.mono s), (hb.cell (p := ⟨A, 0, none⟩) lA).trans a0, (hb.cell (p := ⟨A, 1, none⟩) lA).trans a1, (hb.cell (p := ⟨A, 2, none⟩) lA).trans a2, (hb.cell (p := ⟨B, 0, none⟩) lB).trans b0, (hb.cell (p := ⟨B, 1, none⟩) lB).trans b1, (hb.cell (p := ⟨B, 2, none⟩) lB).trans b2, (hb.cell (p := ⟨C, 0, none⟩) lC).trans c0, (hb.cell (p := ⟨C, 1, none⟩) lC).trans c1, (hb.cell (p := ⟨C, 2, none⟩) lC).trans c2⟩
theorem three.new (w : World) (a b c : Va) : three (((w.alloc (.cells #[.int .i64 a.ty, .int .i64 a.n, .string a.s] 23)).alloc (.cells #[.int .i64 b.ty, .int .i64 b.n, .string b.s] 23)).alloc (.cells #[.int .i64 c.ty, .int .i64 c.n, .string c.s] 23)) w.heap.size (w.heap.size + 1) (w.heap.size + 1 + 1) a b c (((w.alloc (.cells #[.int .i64 a.ty, .int .i64 a.n, .string a.s] 23)).alloc (.cells #[.int .i64 b.ty, .int .i64 b.n, .string b.s] 23)).alloc (.cells #[.int .i64 c.ty, .int .i64 c.n, .string c.s] 23)) := by
  refine ⟨Below.refl _ _, ?_⟩
  go_simp
theorem three.refl {w : World} {A B C : Nat} {a b c : Va} (a0 : w.cell? ⟨A, 0, none⟩ = some (.int .i64 a.ty)) (a1 : w.cell? ⟨A, 1, none⟩ = some (.int .i64 a.n)) (a2 : w.cell? ⟨A, 2, none⟩ = some (.string a.s)) (b0 : w.cell? ⟨B, 0, none⟩ = some (.int .i64 b.ty)) (b1 : w.cell? ⟨B, 1, none⟩ = some (.int .i64 b.n)) (b2 : w.cell? ⟨B, 2, none⟩ = some (.string b.s)) (c0 : w.cell? ⟨C, 0, none⟩ = some (.int .i64 c.ty)) (c1 : w.cell? ⟨C, 1, none⟩ = some (.int .i64 c.n)) (c2 : w.cell? ⟨C, 2, none⟩ = some (.string c.s)) : three w A B C a b c w := ⟨Below.refl _ _, a0, a1, a2, b0, b1, b2, c0, c1, c2⟩
theorem three.drew {w0 w : World} {A B C : Nat} {a b c : Va} (h : three w0 A B C a b c w) (hA : A < w0.heap.size) (hB : B < w0.heap.size) (hC : C < w0.heap.size) : three w0 A B C a b c w.drew := h.next hA hB hC (below_drewN (Below.refl _ w) 1)

/-- rows lie in a list -/
def rowsAt (w : World) (G : Nat) (ls : List (List Va)) : Prop := G < w.heap.size ∧ ∀ i l, ls[i]? = some l → ∃ g, w.cell? ⟨G, i, none⟩ = some (.slice (some ⟨g, 0, none⟩) l.length l.length) ∧ valsAt w g l
def five (a b c : Va) : List (List Va) := [[], [a], [a, b], [b, a], [c]]
theorem rows5 (w1 : World) (a b c : Va) : rowsAt ((((((w1.alloc (.cells #[] 23)).alloc (.cells #[.int .i64 a.ty, .int .i64 a.n, .string a.s] 23)).alloc (.cells #[.int .i64 a.ty, .int .i64 a.n, .string a.s, .int .i64 b.ty, .int .i64 b.n, .string b.s] 23)).alloc (.cells #[.int .i64 b.ty, .int .i64 b.n, .string b.s, .int .i64 a.ty, .int .i64 a.n, .string a.s] 23)).alloc (.cells #[.int .i64 c.ty, .int .i64 c.n, .string c.s] 23)).alloc (.cells #[.slice (some ⟨w1.heap.size, 0, none⟩) 0 0, .slice (some ⟨w1.heap.size + 1, 0, none⟩) 1 1, .slice (some ⟨w1.heap.size + 1 + 1, 0, none⟩) 2 2, .slice (some ⟨w1.heap.size + 1 + 1 + 1, 0, none⟩) 2 2, .slice (some ⟨w1.heap.size + 1 + 1 + 1 + 1, 0, none⟩) 1 1] 29)) (w1.heap.size + 1 + 1 + 1 + 1 + 1) (five a b c) := by
  refine ⟨by simp, ?_⟩
  intro i l hl
  have hi : i < 5 := (List.getElem?_eq_some_iff.1 hl).1
  rcases (show i = 0 ∨ i = 1 ∨ i = 2 ∨ i = 3 ∨ i = 4 by omega) with rfl | rfl | rfl | rfl | rfl
  · simp [five] at hl; subst hl
    refine ⟨w1.heap.size, by go_simp, by first | (simp; done) | (simp; omega), ?_⟩
    intro j v hj; simp at hj
  · simp [five] at hl; subst hl
    refine ⟨w1.heap.size + 1, by go_simp, by first | (simp; done) | (simp; omega), ?_⟩
    intro j v hj
    have hj0 : j = 0 := by have := (List.getElem?_eq_some_iff.1 hj).1; simp at this; exact this
    subst hj0; simp at hj; subst hj
    go_simp
  · simp [five] at hl; subst hl
    refine ⟨w1.heap.size + 1 + 1, by go_simp, by first | (simp; done) | (simp; omega), ?_⟩
    intro j v hj
    have hj0 : j = 0 ∨ j = 1 := by have := (List.getElem?_eq_some_iff.1 hj).1; simp at this; omega
    rcases hj0 with rfl | rfl <;> (simp at hj; subst hj; go_simp)
  · simp [five] at hl; subst hl
    refine ⟨w1.heap.size + 1 + 1 + 1, by go_simp, by first | (simp; done) | (simp; omega), ?_⟩
    intro j v hj
    have hj0 : j = 0 ∨ j = 1 := by have := (List.getElem?_eq_some_iff.1 hj).1; simp at this; omega
    rcases hj0 with rfl | rfl <;> (simp at hj; subst hj; go_simp)
  · simp [five] at hl; subst hl
    refine ⟨w1.heap.size + 1 + 1 + 1 + 1, by go_simp, by simp, ?_⟩
    intro j v hj
    have hj0 : j = 0 := by have := (List.getElem?_eq_some_iff.1 hj).1; simp at this; exact this
    subst hj0; simp at hj; subst hj
    go_simp
theorem ordV_range (a b : Va) : -1 ≤ ordV a b ∧ ordV a b ≤ 1 := by
  rw [ord_lex]
  have r1 := cmpI_range (grp a.ty) (grp b.ty)
  have r2 := cmpI_range (key1 a) (key1 b)
  have r3 := cmpI_range (key2 a) (key2 b)
  have r4 : -1 ≤ cmpB (key3 a) (key3 b) ∧ cmpB (key3 a) (key3 b) ≤ 1 := by
    have := cmp_vals (key3 a).data.toList (key3 b).data.toList
    unfold cmpB; omega
  unfold lexV
  split
  · split
    · split
      · exact r4
      · exact r3
    · exact r2
  · exact r1
theorem five_ok {a b c : Va} (ha : fit a.n) (hb : fit b.n) (hc : fit c.n) {i : Nat} {l : List Va} (h : (five a b c)[i]? = some l) : l.length ≤ 1000 ∧ ∀ v ∈ l, fit v.n := by
  have hm := List.mem_of_getElem? h
  simp only [five, List.mem_cons, List.not_mem_nil, or_false] at hm
  rcases hm with rfl | rfl | rfl | rfl | rfl
  · exact ⟨by simp, by simp⟩
  · exact ⟨by simp, by simp; exact ha⟩
  · exact ⟨by simp, by simp; exact ⟨ha, hb⟩⟩
  · exact ⟨by simp, by simp; exact ⟨hb, ha⟩⟩
  · exact ⟨by simp, by simp; exact hc⟩
theorem take_at {P : Program} {ops : Array Oper} {Q : Exit → Act → World → Prop} {md : Region.Mode} {S : World → Prop} {i d : Nat} {oi : Oper} {v : Value} {fuel : Nat} {listed : Array Bool} {ts : Array Value} {df : List Deferred} {w : World} (hi : ops[i]? = some oi) (hd : oi.dst = some d)
    (hs : Region.noSelect ops = true) (hf : Region.free md ops listed i = true) (hr : (Region.ready md ops listed).contains i = true)
    (hQ : ∀ c a w, Q (.panic c) (a.put oi.dst v) w → Q (.panic c) a w) (hy : YieldsIf P ops S oi v ⟨ts, df⟩) (hS : S w)
    (h : wpAnyH P md ops Q S fuel (listed.setIfInBounds i true) ⟨ts.setIfInBounds d v, df⟩ w) : wpAnyH P md ops Q S (fuel + 1) listed ⟨ts, df⟩ w :=
  wpAnyH_take hi hs hf hr hQ hy hS (by rw [hd]; exact h)
/-- two rows of the list, and what lay below -/
@[reducible] def two (w2 : World) (G i k gi gk ni nk : Nat) (w' : World) : Prop := Below w2.heap.size w2 w' ∧ w'.cell? ⟨G, i, none⟩ = some (.slice (some ⟨gi, 0, none⟩) ni ni) ∧ w'.cell? ⟨G, k, none⟩ = some (.slice (some ⟨gk, 0, none⟩) nk nk)
theorem two.next {w2 w w' : World} {G i k gi gk ni nk : Nat} (h : two w2 G i k gi gk ni nk w) (hG : G < w2.heap.size) (hb : Below w.heap.size w w') : two w2 G i k gi gk ni nk w' := by
  obtain ⟨h0, h1, h2⟩ := h
  have s := h0.size
  exact ⟨h0.trans (hb.mono s), (hb.cell (p := ⟨G, i, none⟩) (show G < _ by omega)).trans h1, (hb.cell (p := ⟨G, k, none⟩) (show G < _ by omega)).trans h2⟩

set_option maxHeartbeats 8000000 in
set_option maxRecDepth 1000000 in
theorem ordersLaw (a b c : Va) (w : World) (sa : a.s.size ≤ 9223372036854775807) (ha : fit a.n) (hb : fit b.n) (hc : fit c.n) (hT : Tabs w) (hP : Pow w) :
    Calls Tryz.prog 3 #[.agg #[.int .i64 a.ty, .int .i64 a.n, .string a.s], .agg #[.int .i64 b.ty, .int .i64 b.n, .string b.s], .agg #[.int .i64 c.ty, .int .i64 c.n, .string c.s]] w fun e w' => e = .returned (.bool true) ∧ Below w.heap.size w w' := by
  have N0 : Hid _ := three.new w a b c
  have L0 : Hid _ := (((Below.refl _ w).alloc (Nat.le_refl _) (.cells #[.int .i64 a.ty, .int .i64 a.n, .string a.s] 23)).alloc (by simp) (.cells #[.int .i64 b.ty, .int .i64 b.n, .string b.s] 23)).alloc (by simp; omega) (.cells #[.int .i64 c.ty, .int .i64 c.n, .string c.s] 23)
  have G0 : Hid (w.heap.size + 1 + 1 < (((w.alloc (.cells #[.int .i64 a.ty, .int .i64 a.n, .string a.s] 23)).alloc (.cells #[.int .i64 b.ty, .int .i64 b.n, .string b.s] 23)).alloc (.cells #[.int .i64 c.ty, .int .i64 c.n, .string c.s] 23)).heap.size) := by show _ < _; simp
  go_enter Tryz.func3, Tryz.ntmps3
  go_wp2_with fail
  generalize ((w.alloc (.cells #[.int .i64 a.ty, .int .i64 a.n, .string a.s] 23)).alloc (.cells #[.int .i64 b.ty, .int .i64 b.n, .string b.s] 23)).alloc (.cells #[.int .i64 c.ty, .int .i64 c.n, .string c.s] 23) = w0 at *
  have hC := G0.out
  have hB : w.heap.size + 1 < w0.heap.size := by omega
  have hA : w.heap.size < w0.heap.size := by omega
  have CV : Hid (∀ w', three w0 w.heap.size (w.heap.size + 1) (w.heap.size + 1 + 1) a b c w' → Calls Tryz.prog 5 #[.agg #[.int .i64 a.ty, .int .i64 a.n, .string a.s]] w' fun e w'' => e = .returned (.int .i64 a.chk) ∧ Below w'.heap.size w' w'') := fun w' h => Check_any a.ty a.n a.s w' sa (hT.below (L0.out.trans (h.1.mono L0.out.size)))
  have CR : Hid (∀ w', Calls Tryz.prog 6 #[.agg #[.int .i64 a.ty, .int .i64 a.n, .string a.s]] w' fun e w'' => e = .returned (.int .i64 a.chk) ∧ Below w'.heap.size w' w'') := fun w' => refCheck_any a.ty a.n a.s w'
  have O1 : Hid (∀ w', Calls Tryz.prog 7 #[.agg #[.int .i64 a.ty, .int .i64 a.n, .string a.s], .agg #[.int .i64 b.ty, .int .i64 b.n, .string b.s]] w' fun e w'' => e = .returned (.int .i64 (ordV a b)) ∧ Below w'.heap.size w' w'') := fun w' => Order_any a b w' ha hb
  have O2 : Hid (∀ w', Calls Tryz.prog 8 #[.agg #[.int .i64 a.ty, .int .i64 a.n, .string a.s], .agg #[.int .i64 b.ty, .int .i64 b.n, .string b.s]] w' fun e w'' => e = .returned (.int .i64 (ordV a b)) ∧ Below w'.heap.size w' w'') := fun w' => refOrder_any a b w' ha hb
  have S1 : Hid (∀ w', Calls Tryz.prog 9 #[.agg #[.int .i64 a.ty, .int .i64 a.n, .string a.s], .agg #[.int .i64 b.ty, .int .i64 b.n, .string b.s]] w' fun e w'' => e = .returned (.bool (ordV a b == 0)) ∧ Below w'.heap.size w' w'') := fun w' => Same_any a b w' ha hb
  have S2 : Hid (∀ w', Calls Tryz.prog 10 #[.agg #[.int .i64 a.ty, .int .i64 a.n, .string a.s], .agg #[.int .i64 b.ty, .int .i64 b.n, .string b.s]] w' fun e w'' => e = .returned (.bool (ordV a b == 0)) ∧ Below w'.heap.size w' w'') := fun w' => refSame_any a b w' ha hb
  have S3 : Hid (∀ w', Calls Tryz.prog 9 #[.agg #[.int .i64 c.ty, .int .i64 c.n, .string c.s], .agg #[.int .i64 c.ty, .int .i64 c.n, .string c.s]] w' fun e w'' => e = .returned (.bool true) ∧ Below w'.heap.size w' w'') := fun w' => by
    have := Same_any c c w' hc hc
    rw [ordV_same] at this; exact this
  have T0 := N0.out
  go_region_held3 (fun w' => Below w0.heap.size w0 w' ∧ w'.cell? ⟨w.heap.size, 0, none⟩ = some (.int .i64 a.ty) ∧ w'.cell? ⟨w.heap.size, 1, none⟩ = some (.int .i64 a.n) ∧ w'.cell? ⟨w.heap.size, 2, none⟩ = some (.string a.s) ∧ w'.cell? ⟨w.heap.size + 1, 0, none⟩ = some (.int .i64 b.ty) ∧ w'.cell? ⟨w.heap.size + 1, 1, none⟩ = some (.int .i64 b.n) ∧ w'.cell? ⟨w.heap.size + 1, 2, none⟩ = some (.string b.s) ∧ w'.cell? ⟨w.heap.size + 1 + 1, 0, none⟩ = some (.int .i64 c.ty) ∧ w'.cell? ⟨w.heap.size + 1 + 1, 1, none⟩ = some (.int .i64 c.n) ∧ w'.cell? ⟨w.heap.size + 1 + 1, 2, none⟩ = some (.string c.s)) (first | exact three.drew T0 hA hB hC | exact three.next (by assumption) hA hB hC hb2) ((first | (go_at_call 5; refine (CV.out _ (by assumption)).mono ?_; rintro e w1 ⟨rfl, hb2⟩) | (go_at_call 6; refine (CR.out _).mono ?_; rintro e w1 ⟨rfl, hb2⟩) | (go_at_call 7; refine (O1.out _).mono ?_; rintro e w1 ⟨rfl, hb2⟩) | (go_at_call 8; refine (O2.out _).mono ?_; rintro e w1 ⟨rfl, hb2⟩) | (go_at_call 9; refine (S1.out _).mono ?_; rintro e w1 ⟨rfl, hb2⟩) | (go_at_call 9; refine (S3.out _).mono ?_; rintro e w1 ⟨rfl, hb2⟩) | (go_at_call 10; refine (S2.out _).mono ?_; rintro e w1 ⟨rfl, hb2⟩)))
  have T1 : three w0 w.heap.size (w.heap.size + 1) (w.heap.size + 1 + 1) a b c w1 := by assumption
  have L1 : Hid (Below w.heap.size w w1) := L0.out.trans (T1.1.mono L0.out.size)
  have hC1 : w.heap.size + 1 + 1 < w1.heap.size := Nat.lt_of_lt_of_le hC T1.1.size
  have hB1 : w.heap.size + 1 < w1.heap.size := by omega
  have hA1 : w.heap.size < w1.heap.size := by omega
  have gA1 : w.heap.size < w1.heap.size + 1 := by omega
  have gA2 : w.heap.size < w1.heap.size + 1 + 1 := by omega
  have gA3 : w.heap.size < w1.heap.size + 1 + 1 + 1 := by omega
  have gA4 : w.heap.size < w1.heap.size + 1 + 1 + 1 + 1 := by omega
  have gA5 : w.heap.size < w1.heap.size + 1 + 1 + 1 + 1 + 1 := by omega
  have gB1 : w.heap.size + 1 < w1.heap.size + 1 := by omega
  have gB2 : w.heap.size + 1 < w1.heap.size + 1 + 1 := by omega
  have gB3 : w.heap.size + 1 < w1.heap.size + 1 + 1 + 1 := by omega
  have gB4 : w.heap.size + 1 < w1.heap.size + 1 + 1 + 1 + 1 := by omega
  have gB5 : w.heap.size + 1 < w1.heap.size + 1 + 1 + 1 + 1 + 1 := by omega
  have gC1 : w.heap.size + 1 + 1 < w1.heap.size + 1 := by omega
  have gC2 : w.heap.size + 1 + 1 < w1.heap.size + 1 + 1 := by omega
  have gC3 : w.heap.size + 1 + 1 < w1.heap.size + 1 + 1 + 1 := by omega
  have gC4 : w.heap.size + 1 + 1 < w1.heap.size + 1 + 1 + 1 + 1 := by omega
  have gC5 : w.heap.size + 1 + 1 < w1.heap.size + 1 + 1 + 1 + 1 + 1 := by omega
  clear N0 T0 L0 G0 CV CR O2 S1 S2 S3 hA hB hC hb2
  obtain ⟨_, a0, a1, a2, b0, b1, b2, c0, c1, c2⟩ := T1
  have R5 : Hid _ := rows5 w1 a b c
  have L2 : Hid (Below w.heap.size w ((((((w1.alloc (.cells #[] 23)).alloc (.cells #[.int .i64 a.ty, .int .i64 a.n, .string a.s] 23)).alloc (.cells #[.int .i64 a.ty, .int .i64 a.n, .string a.s, .int .i64 b.ty, .int .i64 b.n, .string b.s] 23)).alloc (.cells #[.int .i64 b.ty, .int .i64 b.n, .string b.s, .int .i64 a.ty, .int .i64 a.n, .string a.s] 23)).alloc (.cells #[.int .i64 c.ty, .int .i64 c.n, .string c.s] 23)).alloc (.cells #[.slice (some ⟨w1.heap.size, 0, none⟩) 0 0, .slice (some ⟨w1.heap.size + 1, 0, none⟩) 1 1, .slice (some ⟨w1.heap.size + 1 + 1, 0, none⟩) 2 2, .slice (some ⟨w1.heap.size + 1 + 1 + 1, 0, none⟩) 2 2, .slice (some ⟨w1.heap.size + 1 + 1 + 1 + 1, 0, none⟩) 1 1] 29))) := (((((L1.out.alloc L1.out.size _).alloc (L1.out.alloc L1.out.size _).size _).alloc ((L1.out.alloc L1.out.size _).alloc (L1.out.alloc L1.out.size _).size _).size _).alloc (((L1.out.alloc L1.out.size _).alloc (L1.out.alloc L1.out.size _).size _).alloc ((L1.out.alloc L1.out.size _).alloc (L1.out.alloc L1.out.size _).size _).size _).size _).alloc (by have := L1.out.size; simp; omega) _).alloc (by have := L1.out.size; simp; omega) _
  have T2 : Hid _ := (((((((three.refl a0 a1 a2 b0 b1 b2 c0 c1 c2).next hA1 hB1 hC1 ((Below.refl _ _).alloc (Nat.le_refl _) (.cells #[] 23))).next hA1 hB1 hC1 ((Below.refl _ _).alloc (Nat.le_refl _) (.cells #[.int .i64 a.ty, .int .i64 a.n, .string a.s] 23))).next hA1 hB1 hC1 ((Below.refl _ _).alloc (Nat.le_refl _) (.cells #[.int .i64 a.ty, .int .i64 a.n, .string a.s, .int .i64 b.ty, .int .i64 b.n, .string b.s] 23))).next hA1 hB1 hC1 ((Below.refl _ _).alloc (Nat.le_refl _) (.cells #[.int .i64 b.ty, .int .i64 b.n, .string b.s, .int .i64 a.ty, .int .i64 a.n, .string a.s] 23))).next hA1 hB1 hC1 ((Below.refl _ _).alloc (Nat.le_refl _) (.cells #[.int .i64 c.ty, .int .i64 c.n, .string c.s] 23))).next hA1 hB1 hC1 ((Below.refl _ _).alloc (Nat.le_refl _) (.cells #[.slice (some ⟨w1.heap.size, 0, none⟩) 0 0, .slice (some ⟨w1.heap.size + 1, 0, none⟩) 1 1, .slice (some ⟨w1.heap.size + 1 + 1, 0, none⟩) 2 2, .slice (some ⟨w1.heap.size + 1 + 1 + 1, 0, none⟩) 2 2, .slice (some ⟨w1.heap.size + 1 + 1 + 1 + 1, 0, none⟩) 1 1] 29)))
  go_upto_block 0 with fail
  generalize hG5 : w1.heap.size + 1 + 1 + 1 + 1 + 1 = G at *
  generalize ((((((w1.alloc (.cells #[] 23)).alloc (.cells #[.int .i64 a.ty, .int .i64 a.n, .string a.s] 23)).alloc (.cells #[.int .i64 a.ty, .int .i64 a.n, .string a.s, .int .i64 b.ty, .int .i64 b.n, .string b.s] 23)).alloc (.cells #[.int .i64 b.ty, .int .i64 b.n, .string b.s, .int .i64 a.ty, .int .i64 a.n, .string a.s] 23)).alloc (.cells #[.int .i64 c.ty, .int .i64 c.n, .string c.s] 23)).alloc (.cells #[.slice (some ⟨w1.heap.size, 0, none⟩) 0 0, .slice (some ⟨w1.heap.size + 1, 0, none⟩) 1 1, .slice (some ⟨w1.heap.size + 1 + 1, 0, none⟩) 2 2, .slice (some ⟨w1.heap.size + 1 + 1 + 1, 0, none⟩) 2 2, .slice (some ⟨w1.heap.size + 1 + 1 + 1 + 1, 0, none⟩) 1 1] 29)) = w2 at *
  have hG := R5.out.1
  go_cut [] from 7 to 85 (fun wx => three w1 w.heap.size (w.heap.size + 1) (w.heap.size + 1 + 1) a b c wx)
  case first =>
    go_wp2_with fail
    go_loopw [8] (fun si wr => ∃ i : Nat, si = .int .i64 i ∧ i ≤ 5 ∧ Below w2.heap.size w2 wr) (fun si _ => 5 - (intOf si).toNat)
    case atStart => exact ⟨0, rfl, Nat.zero_le _, Below.refl _ _⟩
    case round =>
      obtain ⟨i, rfl, hi5, hbi⟩ := hrel
      by_cases hi : i < 5
      · have hiI : (i : Int) < 5 := by omega
        go_wp2_with fail
        go_loopw [9] (fun sk wr => ∃ k : Nat, sk = .int .i64 k ∧ k ≤ 5 ∧ Below w2.heap.size w2 wr) (fun sk _ => 5 - (intOf sk).toNat)
        case atStart => exact ⟨0, rfl, Nat.zero_le _, hbi⟩
        case round =>
          obtain ⟨k, rfl, hk5, hbk⟩ := hrel
          by_cases hk : k < 5
          · obtain ⟨li, hli'⟩ : ∃ l, (five a b c)[i]? = some l := ⟨(five a b c)[i]'hi, List.getElem?_eq_getElem (l := five a b c) hi⟩
            obtain ⟨lk, hlk'⟩ : ∃ l, (five a b c)[k]? = some l := ⟨(five a b c)[k]'hk, List.getElem?_eq_getElem (l := five a b c) hk⟩
            obtain ⟨gi, ci, vi⟩ := R5.out.2 i li hli'
            obtain ⟨gk, ck, vk⟩ := R5.out.2 k lk hlk'
            obtain ⟨hli, fi⟩ := five_ok ha hb hc hli'
            obtain ⟨hlk, fk⟩ := five_ok ha hb hc hlk'
            have T3 : two w2 G i k gi gk li.length lk.length wr := ⟨hbk, (hbk.cell (p := ⟨G, i, none⟩) hG).trans ci, (hbk.cell (p := ⟨G, k, none⟩) hG).trans ck⟩
            have VI : Hid (∀ w', two w2 G i k gi gk li.length lk.length w' → valsAt w' gi li) := fun w' h => vi.below h.1
            have VK : Hid (∀ w', two w2 G i k gi gk li.length lk.length w' → valsAt w' gk lk) := fun w' h => vk.below h.1
            have hkI : (k : Int) < 5 := by omega
            clear hli' hlk' ci ck vi vk R5 T2 hbi a0 a1 a2 b0 b1 b2 c0 c1 c2
            go_wp2_with fail
            go_region_held3 (fun w' => Below w2.heap.size w2 w' ∧ w'.cell? ⟨G, i, none⟩ = some (.slice (some ⟨gi, 0, none⟩) li.length li.length) ∧ w'.cell? ⟨G, k, none⟩ = some (.slice (some ⟨gk, 0, none⟩) lk.length lk.length)) (first | exact two.next T3 hG (below_drewN (Below.refl _ wr) 1) | exact two.next (by assumption) hG ((Below.refl _ _).alloc (Nat.le_refl _) _) | exact two.next (by assumption) hG hb8 | exact two.next (by assumption) hG hb7 | exact two.next (by assumption) hG hb1 | exact two.next (by assumption) hG hb2) ((first | (refine step_append_row rfl (.tmp 63) (.tmp 67) rfl _ gi li.length li rfl (by first | (simp; done) | (simp; omega) | (have := hb1.size; simp at this ⊢; omega) | (have := hb2.size; simp at this ⊢; omega)) rfl hli (VI.out _ (by assumption)) ?_; intro g1 c1 w5 hv1 hb1) | (refine step_append_row rfl (.tmp 69) (.tmp 73) rfl _ gk lk.length lk rfl (by first | (simp; done) | (simp; omega) | (have := hb1.size; simp at this ⊢; omega) | (have := hb2.size; simp at this ⊢; omega)) rfl hlk (VK.out _ (by assumption)) ?_; intro g2 c2 w6 hv2 hb2) | (go_at_call 11; refine (Rows_any (some ⟨g1, 0, none⟩) (some ⟨g2, 0, none⟩) c1 c2 li lk _ hli (Or.inr ⟨g1, rfl, (by first | exact hv1 | exact hv1.below hb2 | exact (hv1.below ((Below.refl _ _).alloc (Nat.le_refl _) _)).below hb2)⟩) (Or.inr ⟨g2, rfl, (by first | exact hv2 | exact hv2.below hb1 | exact (hv2.below ((Below.refl _ _).alloc (Nat.le_refl _) _)).below hb1)⟩) fi fk).mono ?_; rintro e w7 ⟨rfl, hb7⟩) | (go_at_call 12; refine (refRows_any (some ⟨gi, 0, none⟩) (some ⟨gk, 0, none⟩) li.length lk.length li lk _ hli (Or.inr ⟨gi, rfl, VI.out _ (by assumption)⟩) (Or.inr ⟨gk, rfl, VK.out _ (by assumption)⟩) fi fk).mono ?_; rintro e w8 ⟨rfl, hb8⟩)))
            all_goals
              have TE : two w2 G i k gi gk li.length lk.length w8 := by assumption
              go_wp2_with fail
              go_roundw
              case rel => exact ⟨k + 1, by go_num, hk, TE.1⟩
              case measure => simp [intOf]; omega
          · go_wp2_with fail
            go_roundw
            case rel => exact ⟨i + 1, by go_num, hi, hbk⟩
            case measure => simp [intOf]; omega
      · go_wp2_with fail
        go_meet
        case rel => exact three.next T2.out hA1 hB1 hC1 hbi
  case rest =>
    have T4 : three w1 w.heap.size (w.heap.size + 1) (w.heap.size + 1 + 1) a b c wc := hcut
    clear hcut
    have OG : Hid (∀ p q n w', Hid (fit p.n) → Hid (fit q.n) → Hid (ordV p q = n) → Calls Tryz.prog 7 #[.agg #[.int .i64 p.ty, .int .i64 p.n, .string p.s], .agg #[.int .i64 q.ty, .int .i64 q.n, .string q.s]] w' fun e w'' => e = .returned (.int .i64 n) ∧ Below w'.heap.size w' w'') := fun p q n w' hp hq hn => hn.out ▸ Order_any p q w' hp.out hq.out
    have LV : Hid (∀ w', three w1 w.heap.size (w.heap.size + 1) (w.heap.size + 1 + 1) a b c w' → Calls Tryz.prog 13 #[] w' fun e w'' => e = .returned (.bool true) ∧ Below w'.heap.size w' w'') := fun w' h => lives_any w' (hT.below (L1.out.trans (h.1.mono L1.out.size))) (hP.below (L1.out.trans (h.1.mono L1.out.size)))
    obtain ⟨x, hx⟩ : ∃ x, ordV a b = x := ⟨_, rfl⟩
    obtain ⟨y, hy⟩ : ∃ y, ordV b c = y := ⟨_, rfl⟩
    obtain ⟨z, hz⟩ : ∃ z, ordV a c = z := ⟨_, rfl⟩
    have hxr := ordV_range a b
    rw [hx] at hxr
    have hxyz : 0 < x ∨ (x ≤ 0 ∧ 0 < y) ∨ (x ≤ 0 ∧ y ≤ 0 ∧ z ≤ 0) := by
      have := od_ordV.trans a b c
      rw [hx, hy, hz] at this
      omega
    have e1 : Hid (ordV a b = x) := hx
    have e2 : Hid (ordV b a = -x) := by show _ = _; rw [od_ordV.turn a b, hx]
    have e3 : Hid (ordV b c = y) := hy
    have e4 : Hid (ordV a c = z) := hz
    have Ha : Hid (fit a.n) := ha
    have Hb : Hid (fit b.n) := hb
    have Hc : Hid (fit c.n) := hc
    have hwx : IntKind.i64.wrap (-x) = -x := by
      rcases (show x = -1 ∨ x = 0 ∨ x = 1 by omega) with rfl | rfl | rfl <;> decide
    clear hxr hx hy hz ha hb hc sa hT hP O1 L2 T2 R5 hG a0 a1 a2 b0 b1 b2 c0 c1 c2 gA1 gA2 gA3 gA4 gA5 gB1 gB2 gB3 gB4 gB5 gC1 gC2 gC3 gC4 gC5 hG5
    rcases hxyz with h1 | ⟨h1, h2⟩ | ⟨h1, h2, h3⟩
    · go_wp2_with fail
      refine wp_region_noPanic ?_
      refine wp_region_held_drew (S := fun w' => Below w1.heap.size w1 w' ∧ w'.cell? ⟨w.heap.size, 0, none⟩ = some (.int .i64 a.ty) ∧ w'.cell? ⟨w.heap.size, 1, none⟩ = some (.int .i64 a.n) ∧ w'.cell? ⟨w.heap.size, 2, none⟩ = some (.string a.s) ∧ w'.cell? ⟨w.heap.size + 1, 0, none⟩ = some (.int .i64 b.ty) ∧ w'.cell? ⟨w.heap.size + 1, 1, none⟩ = some (.int .i64 b.n) ∧ w'.cell? ⟨w.heap.size + 1, 2, none⟩ = some (.string b.s) ∧ w'.cell? ⟨w.heap.size + 1 + 1, 0, none⟩ = some (.int .i64 c.ty) ∧ w'.cell? ⟨w.heap.size + 1 + 1, 1, none⟩ = some (.int .i64 c.n) ∧ w'.cell? ⟨w.heap.size + 1 + 1, 2, none⟩ = some (.string c.s)) (by kernel_rfl) (three.drew T4 hA1 hB1 hC1) (fun hH0 => ?_)
      clear T4
      refine take_at (i := 0) (v := .agg #[.int .i64 b.ty, .int .i64 b.n, .string b.s]) rfl rfl (by kernel_rfl) (by kernel_rfl) (by kernel_rfl) (fun _ _ _ h => h) (Or.inl ⟨by rfl, ?_⟩) hH0 ?_
      · intro w hSw; (try dsimp only at hSw); go_simp
      simp only [List.setIfInBounds_toArray, List.set_cons_zero, List.set_cons_succ]
      refine take_at (i := 1) (v := .agg #[.int .i64 a.ty, .int .i64 a.n, .string a.s]) rfl rfl (by kernel_rfl) (by kernel_rfl) (by kernel_rfl) (fun _ _ _ h => h) (Or.inl ⟨by rfl, ?_⟩) hH0 ?_
      · intro w hSw; (try dsimp only at hSw); go_simp
      simp only [List.setIfInBounds_toArray, List.set_cons_zero, List.set_cons_succ]
      refine take_at (i := 3) (v := .agg #[.int .i64 a.ty, .int .i64 a.n, .string a.s]) rfl rfl (by kernel_rfl) (by kernel_rfl) (by kernel_rfl) (fun _ _ _ h => h) (Or.inl ⟨by rfl, ?_⟩) hH0 ?_
      · intro w hSw; (try dsimp only at hSw); go_simp
      simp only [List.setIfInBounds_toArray, List.set_cons_zero, List.set_cons_succ]
      refine take_at (i := 4) (v := .agg #[.int .i64 b.ty, .int .i64 b.n, .string b.s]) rfl rfl (by kernel_rfl) (by kernel_rfl) (by kernel_rfl) (fun _ _ _ h => h) (Or.inl ⟨by rfl, ?_⟩) hH0 ?_
      · intro w hSw; (try dsimp only at hSw); go_simp
      simp only [List.setIfInBounds_toArray, List.set_cons_zero, List.set_cons_succ]
      refine wpAnyH_ready (rs := [2]) (by kernel_rfl) (by simp) ?_
      refine AllReadyH.cons rfl (fun K hK => ?_) AllReadyH.nil
      go_simp
      go_at_call 7
      refine (OG.out b a _ _ Hb Ha e2).mono ?_
      rintro e w3 ⟨rfl, hb3⟩
      go_wp2_with fail
      refine hK.out _ _ (three.next hH0 hA1 hB1 hC1 hb3) (fun hH1 => ?_)
      clear hK K hH0 hb3
      refine wpAnyH_ready (rs := [5]) (by kernel_rfl) (by simp) ?_
      refine AllReadyH.cons rfl (fun K hK => ?_) AllReadyH.nil
      go_simp
      go_at_call 7
      refine (OG.out a b _ _ Ha Hb e1).mono ?_
      rintro e w3 ⟨rfl, hb3⟩
      go_wp2_with fail
      refine hK.out _ _ (three.next hH1 hA1 hB1 hC1 hb3) (fun hH2 => ?_)
      clear hK K hH1 hb3
      refine take_at (i := 6) (v := .int .i64 (-x)) rfl rfl (by kernel_rfl) (by kernel_rfl) (by kernel_rfl) (fun _ _ _ h => h) (Or.inl ⟨by rfl, ?_⟩) hH2 ?_
      · intro w hSw; (try dsimp only at hSw); go_simp
      simp only [List.setIfInBounds_toArray, List.set_cons_zero, List.set_cons_succ]
      refine take_at (i := 7) (v := .bool true) rfl rfl (by kernel_rfl) (by kernel_rfl) (by kernel_rfl) (fun _ _ _ h => h) (Or.inl ⟨by rfl, ?_⟩) hH2 ?_
      · intro w hSw; (try dsimp only at hSw); go_simp
      simp only [List.setIfInBounds_toArray, List.set_cons_zero, List.set_cons_succ]
      refine take_at (i := 8) (v := .bool true) rfl rfl (by kernel_rfl) (by kernel_rfl) (by kernel_rfl) (fun _ _ _ h => h) (Or.inl ⟨by rfl, ?_⟩) hH2 ?_
      · intro w hSw; (try dsimp only at hSw); go_simp
      simp only [List.setIfInBounds_toArray, List.set_cons_zero, List.set_cons_succ]
      refine take_at (i := 9) (v := .agg #[.int .i64 a.ty, .int .i64 a.n, .string a.s]) rfl rfl (by kernel_rfl) (by kernel_rfl) (by kernel_rfl) (fun _ _ _ h => h) (Or.inl ⟨by rfl, ?_⟩) hH2 ?_
      · intro w hSw; (try dsimp only at hSw); go_simp
      simp only [List.setIfInBounds_toArray, List.set_cons_zero, List.set_cons_succ]
      refine take_at (i := 10) (v := .agg #[.int .i64 b.ty, .int .i64 b.n, .string b.s]) rfl rfl (by kernel_rfl) (by kernel_rfl) (by kernel_rfl) (fun _ _ _ h => h) (Or.inl ⟨by rfl, ?_⟩) hH2 ?_
      · intro w hSw; (try dsimp only at hSw); go_simp
      simp only [List.setIfInBounds_toArray, List.set_cons_zero, List.set_cons_succ]
      refine wpAnyH_ready (rs := [11]) (by kernel_rfl) (by simp) ?_
      refine AllReadyH.cons rfl (fun K hK => ?_) AllReadyH.nil
      go_simp
      go_at_call 7
      refine (OG.out a b _ _ Ha Hb e1).mono ?_
      rintro e w3 ⟨rfl, hb3⟩
      go_wp2_with fail
      refine hK.out _ _ (three.next hH2 hA1 hB1 hC1 hb3) (fun hH3 => ?_)
      clear hK K hH2 hb3
      refine take_at (i := 12) (v := .bool true) rfl rfl (by kernel_rfl) (by kernel_rfl) (by kernel_rfl) (fun _ _ _ h => h) (Or.inl ⟨by rfl, ?_⟩) hH3 ?_
      · intro w hSw; (try dsimp only at hSw); go_simp
      simp only [List.setIfInBounds_toArray, List.set_cons_zero, List.set_cons_succ]
      refine take_at (i := 13) (v := .bool true) rfl rfl (by kernel_rfl) (by kernel_rfl) (by kernel_rfl) (fun _ _ _ h => h) (Or.inl ⟨by rfl, ?_⟩) hH3 ?_
      · intro w hSw; (try dsimp only at hSw); go_simp
      simp only [List.setIfInBounds_toArray, List.set_cons_zero, List.set_cons_succ]
      refine take_at (i := 14) (v := undef) rfl rfl (by kernel_rfl) (by kernel_rfl) (by kernel_rfl) (fun _ _ _ h => h) (Or.inr ⟨by rfl, rfl⟩) hH3 ?_
      simp only [List.setIfInBounds_toArray, List.set_cons_zero, List.set_cons_succ]
      refine take_at (i := 15) (v := undef) rfl rfl (by kernel_rfl) (by kernel_rfl) (by kernel_rfl) (fun _ _ _ h => h) (Or.inr ⟨by rfl, rfl⟩) hH3 ?_
      simp only [List.setIfInBounds_toArray, List.set_cons_zero, List.set_cons_succ]
      refine take_at (i := 16) (v := undef) rfl rfl (by kernel_rfl) (by kernel_rfl) (by kernel_rfl) (fun _ _ _ h => h) (Or.inr ⟨by rfl, rfl⟩) hH3 ?_
      simp only [List.setIfInBounds_toArray, List.set_cons_zero, List.set_cons_succ]
      refine take_at (i := 17) (v := undef) rfl rfl (by kernel_rfl) (by kernel_rfl) (by kernel_rfl) (fun _ _ _ h => h) (Or.inr ⟨by rfl, rfl⟩) hH3 ?_
      simp only [List.setIfInBounds_toArray, List.set_cons_zero, List.set_cons_succ]
      refine take_at (i := 18) (v := .bool true) rfl rfl (by kernel_rfl) (by kernel_rfl) (by kernel_rfl) (fun _ _ _ h => h) (Or.inl ⟨by rfl, ?_⟩) hH3 ?_
      · intro w hSw; (try dsimp only at hSw); go_simp
      simp only [List.setIfInBounds_toArray, List.set_cons_zero, List.set_cons_succ]
      refine take_at (i := 19) (v := .bool true) rfl rfl (by kernel_rfl) (by kernel_rfl) (by kernel_rfl) (fun _ _ _ h => h) (Or.inl ⟨by rfl, ?_⟩) hH3 ?_
      · intro w hSw; (try dsimp only at hSw); go_simp
      simp only [List.setIfInBounds_toArray, List.set_cons_zero, List.set_cons_succ]
      refine take_at (i := 20) (v := undef) rfl rfl (by kernel_rfl) (by kernel_rfl) (by kernel_rfl) (fun _ _ _ h => h) (Or.inr ⟨by rfl, rfl⟩) hH3 ?_
      simp only [List.setIfInBounds_toArray, List.set_cons_zero, List.set_cons_succ]
      refine take_at (i := 21) (v := undef) rfl rfl (by kernel_rfl) (by kernel_rfl) (by kernel_rfl) (fun _ _ _ h => h) (Or.inr ⟨by rfl, rfl⟩) hH3 ?_
      simp only [List.setIfInBounds_toArray, List.set_cons_zero, List.set_cons_succ]
      refine take_at (i := 22) (v := undef) rfl rfl (by kernel_rfl) (by kernel_rfl) (by kernel_rfl) (fun _ _ _ h => h) (Or.inr ⟨by rfl, rfl⟩) hH3 ?_
      simp only [List.setIfInBounds_toArray, List.set_cons_zero, List.set_cons_succ]
      refine take_at (i := 23) (v := undef) rfl rfl (by kernel_rfl) (by kernel_rfl) (by kernel_rfl) (fun _ _ _ h => h) (Or.inr ⟨by rfl, rfl⟩) hH3 ?_
      simp only [List.setIfInBounds_toArray, List.set_cons_zero, List.set_cons_succ]
      refine take_at (i := 24) (v := .bool true) rfl rfl (by kernel_rfl) (by kernel_rfl) (by kernel_rfl) (fun _ _ _ h => h) (Or.inl ⟨by rfl, ?_⟩) hH3 ?_
      · intro w hSw; (try dsimp only at hSw); go_simp
      simp only [List.setIfInBounds_toArray, List.set_cons_zero, List.set_cons_succ]
      refine take_at (i := 25) (v := .bool true) rfl rfl (by kernel_rfl) (by kernel_rfl) (by kernel_rfl) (fun _ _ _ h => h) (Or.inl ⟨by rfl, ?_⟩) hH3 ?_
      · intro w hSw; (try dsimp only at hSw); go_simp
      simp only [List.setIfInBounds_toArray, List.set_cons_zero, List.set_cons_succ]
      refine take_at (i := 26) (v := .bool true) rfl rfl (by kernel_rfl) (by kernel_rfl) (by kernel_rfl) (fun _ _ _ h => h) (Or.inl ⟨by rfl, ?_⟩) hH3 ?_
      · intro w hSw; (try dsimp only at hSw); go_simp
      simp only [List.setIfInBounds_toArray, List.set_cons_zero, List.set_cons_succ]
      refine wpAnyH_ready (rs := [27]) (by kernel_rfl) (by simp) ?_
      refine AllReadyH.cons rfl (fun K hK => ?_) AllReadyH.nil
      go_simp
      go_at_call 13
      refine (LV.out _ hH3).mono ?_
      rintro e w3 ⟨rfl, hb3⟩
      go_wp2_with fail
      refine hK.out _ _ (three.next hH3 hA1 hB1 hC1 hb3) (fun hH4 => ?_)
      clear hK K hH3 hb3
      refine take_at (i := 28) (v := .bool true) rfl rfl (by kernel_rfl) (by kernel_rfl) (by kernel_rfl) (fun _ _ _ h => h) (Or.inl ⟨by rfl, ?_⟩) hH4 ?_
      · intro w hSw; (try dsimp only at hSw); go_simp
      simp only [List.setIfInBounds_toArray, List.set_cons_zero, List.set_cons_succ]
      refine take_at (i := 29) (v := .bool true) rfl rfl (by kernel_rfl) (by kernel_rfl) (by kernel_rfl) (fun _ _ _ h => h) (Or.inl ⟨by rfl, ?_⟩) hH4 ?_
      · intro w hSw; (try dsimp only at hSw); go_simp
      simp only [List.setIfInBounds_toArray, List.set_cons_zero, List.set_cons_succ]
      refine wpAnyH_done (by kernel_rfl) ?_ _
      refine NoPanic.normal ?_
      go_wp2_with fail
      go_ret
      exact ⟨rfl, L1.out.trans (hH4.1.mono L1.out.size)⟩
    · go_wp2_with fail
      refine wp_region_noPanic ?_
      refine wp_region_held_drew (S := fun w' => Below w1.heap.size w1 w' ∧ w'.cell? ⟨w.heap.size, 0, none⟩ = some (.int .i64 a.ty) ∧ w'.cell? ⟨w.heap.size, 1, none⟩ = some (.int .i64 a.n) ∧ w'.cell? ⟨w.heap.size, 2, none⟩ = some (.string a.s) ∧ w'.cell? ⟨w.heap.size + 1, 0, none⟩ = some (.int .i64 b.ty) ∧ w'.cell? ⟨w.heap.size + 1, 1, none⟩ = some (.int .i64 b.n) ∧ w'.cell? ⟨w.heap.size + 1, 2, none⟩ = some (.string b.s) ∧ w'.cell? ⟨w.heap.size + 1 + 1, 0, none⟩ = some (.int .i64 c.ty) ∧ w'.cell? ⟨w.heap.size + 1 + 1, 1, none⟩ = some (.int .i64 c.n) ∧ w'.cell? ⟨w.heap.size + 1 + 1, 2, none⟩ = some (.string c.s)) (by kernel_rfl) (three.drew T4 hA1 hB1 hC1) (fun hH0 => ?_)
      clear T4
      refine take_at (i := 0) (v := .agg #[.int .i64 b.ty, .int .i64 b.n, .string b.s]) rfl rfl (by kernel_rfl) (by kernel_rfl) (by kernel_rfl) (fun _ _ _ h => h) (Or.inl ⟨by rfl, ?_⟩) hH0 ?_
      · intro w hSw; (try dsimp only at hSw); go_simp
      simp only [List.setIfInBounds_toArray, List.set_cons_zero, List.set_cons_succ]
      refine take_at (i := 1) (v := .agg #[.int .i64 a.ty, .int .i64 a.n, .string a.s]) rfl rfl (by kernel_rfl) (by kernel_rfl) (by kernel_rfl) (fun _ _ _ h => h) (Or.inl ⟨by rfl, ?_⟩) hH0 ?_
      · intro w hSw; (try dsimp only at hSw); go_simp
      simp only [List.setIfInBounds_toArray, List.set_cons_zero, List.set_cons_succ]
      refine take_at (i := 3) (v := .agg #[.int .i64 a.ty, .int .i64 a.n, .string a.s]) rfl rfl (by kernel_rfl) (by kernel_rfl) (by kernel_rfl) (fun _ _ _ h => h) (Or.inl ⟨by rfl, ?_⟩) hH0 ?_
      · intro w hSw; (try dsimp only at hSw); go_simp
      simp only [List.setIfInBounds_toArray, List.set_cons_zero, List.set_cons_succ]
      refine take_at (i := 4) (v := .agg #[.int .i64 b.ty, .int .i64 b.n, .string b.s]) rfl rfl (by kernel_rfl) (by kernel_rfl) (by kernel_rfl) (fun _ _ _ h => h) (Or.inl ⟨by rfl, ?_⟩) hH0 ?_
      · intro w hSw; (try dsimp only at hSw); go_simp
      simp only [List.setIfInBounds_toArray, List.set_cons_zero, List.set_cons_succ]
      refine wpAnyH_ready (rs := [2]) (by kernel_rfl) (by simp) ?_
      refine AllReadyH.cons rfl (fun K hK => ?_) AllReadyH.nil
      go_simp
      go_at_call 7
      refine (OG.out b a _ _ Hb Ha e2).mono ?_
      rintro e w3 ⟨rfl, hb3⟩
      go_wp2_with fail
      refine hK.out _ _ (three.next hH0 hA1 hB1 hC1 hb3) (fun hH1 => ?_)
      clear hK K hH0 hb3
      refine wpAnyH_ready (rs := [5]) (by kernel_rfl) (by simp) ?_
      refine AllReadyH.cons rfl (fun K hK => ?_) AllReadyH.nil
      go_simp
      go_at_call 7
      refine (OG.out a b _ _ Ha Hb e1).mono ?_
      rintro e w3 ⟨rfl, hb3⟩
      go_wp2_with fail
      refine hK.out _ _ (three.next hH1 hA1 hB1 hC1 hb3) (fun hH2 => ?_)
      clear hK K hH1 hb3
      refine take_at (i := 6) (v := .int .i64 (-x)) rfl rfl (by kernel_rfl) (by kernel_rfl) (by kernel_rfl) (fun _ _ _ h => h) (Or.inl ⟨by rfl, ?_⟩) hH2 ?_
      · intro w hSw; (try dsimp only at hSw); go_simp
      simp only [List.setIfInBounds_toArray, List.set_cons_zero, List.set_cons_succ]
      refine take_at (i := 7) (v := .bool true) rfl rfl (by kernel_rfl) (by kernel_rfl) (by kernel_rfl) (fun _ _ _ h => h) (Or.inl ⟨by rfl, ?_⟩) hH2 ?_
      · intro w hSw; (try dsimp only at hSw); go_simp
      simp only [List.setIfInBounds_toArray, List.set_cons_zero, List.set_cons_succ]
      refine take_at (i := 8) (v := .bool true) rfl rfl (by kernel_rfl) (by kernel_rfl) (by kernel_rfl) (fun _ _ _ h => h) (Or.inl ⟨by rfl, ?_⟩) hH2 ?_
      · intro w hSw; (try dsimp only at hSw); go_simp
      simp only [List.setIfInBounds_toArray, List.set_cons_zero, List.set_cons_succ]
      refine take_at (i := 9) (v := .agg #[.int .i64 a.ty, .int .i64 a.n, .string a.s]) rfl rfl (by kernel_rfl) (by kernel_rfl) (by kernel_rfl) (fun _ _ _ h => h) (Or.inl ⟨by rfl, ?_⟩) hH2 ?_
      · intro w hSw; (try dsimp only at hSw); go_simp
      simp only [List.setIfInBounds_toArray, List.set_cons_zero, List.set_cons_succ]
      refine take_at (i := 10) (v := .agg #[.int .i64 b.ty, .int .i64 b.n, .string b.s]) rfl rfl (by kernel_rfl) (by kernel_rfl) (by kernel_rfl) (fun _ _ _ h => h) (Or.inl ⟨by rfl, ?_⟩) hH2 ?_
      · intro w hSw; (try dsimp only at hSw); go_simp
      simp only [List.setIfInBounds_toArray, List.set_cons_zero, List.set_cons_succ]
      refine wpAnyH_ready (rs := [11]) (by kernel_rfl) (by simp) ?_
      refine AllReadyH.cons rfl (fun K hK => ?_) AllReadyH.nil
      go_simp
      go_at_call 7
      refine (OG.out a b _ _ Ha Hb e1).mono ?_
      rintro e w3 ⟨rfl, hb3⟩
      go_wp2_with fail
      refine hK.out _ _ (three.next hH2 hA1 hB1 hC1 hb3) (fun hH3 => ?_)
      clear hK K hH2 hb3
      refine take_at (i := 12) (v := .bool false) rfl rfl (by kernel_rfl) (by kernel_rfl) (by kernel_rfl) (fun _ _ _ h => h) (Or.inl ⟨by rfl, ?_⟩) hH3 ?_
      · intro w hSw; (try dsimp only at hSw); go_simp
      simp only [List.setIfInBounds_toArray, List.set_cons_zero, List.set_cons_succ]
      refine take_at (i := 13) (v := .bool false) rfl rfl (by kernel_rfl) (by kernel_rfl) (by kernel_rfl) (fun _ _ _ h => h) (Or.inl ⟨by rfl, ?_⟩) hH3 ?_
      · intro w hSw; (try dsimp only at hSw); go_simp
      simp only [List.setIfInBounds_toArray, List.set_cons_zero, List.set_cons_succ]
      refine take_at (i := 14) (v := .agg #[.int .i64 b.ty, .int .i64 b.n, .string b.s]) rfl rfl (by kernel_rfl) (by kernel_rfl) (by kernel_rfl) (fun _ _ _ h => h) (Or.inl ⟨by rfl, ?_⟩) hH3 ?_
      · intro w hSw; (try dsimp only at hSw); go_simp
      simp only [List.setIfInBounds_toArray, List.set_cons_zero, List.set_cons_succ]
      refine take_at (i := 15) (v := .agg #[.int .i64 c.ty, .int .i64 c.n, .string c.s]) rfl rfl (by kernel_rfl) (by kernel_rfl) (by kernel_rfl) (fun _ _ _ h => h) (Or.inl ⟨by rfl, ?_⟩) hH3 ?_
      · intro w hSw; (try dsimp only at hSw); go_simp
      simp only [List.setIfInBounds_toArray, List.set_cons_zero, List.set_cons_succ]
      refine wpAnyH_ready (rs := [16]) (by kernel_rfl) (by simp) ?_
      refine AllReadyH.cons rfl (fun K hK => ?_) AllReadyH.nil
      go_simp
      go_at_call 7
      refine (OG.out b c _ _ Hb Hc e3).mono ?_
      rintro e w3 ⟨rfl, hb3⟩
      go_wp2_with fail
      refine hK.out _ _ (three.next hH3 hA1 hB1 hC1 hb3) (fun hH4 => ?_)
      clear hK K hH3 hb3
      refine take_at (i := 17) (v := .bool true) rfl rfl (by kernel_rfl) (by kernel_rfl) (by kernel_rfl) (fun _ _ _ h => h) (Or.inl ⟨by rfl, ?_⟩) hH4 ?_
      · intro w hSw; (try dsimp only at hSw); go_simp
      simp only [List.setIfInBounds_toArray, List.set_cons_zero, List.set_cons_succ]
      refine take_at (i := 18) (v := .bool true) rfl rfl (by kernel_rfl) (by kernel_rfl) (by kernel_rfl) (fun _ _ _ h => h) (Or.inl ⟨by rfl, ?_⟩) hH4 ?_
      · intro w hSw; (try dsimp only at hSw); go_simp
      simp only [List.setIfInBounds_toArray, List.set_cons_zero, List.set_cons_succ]
      refine take_at (i := 19) (v := .bool true) rfl rfl (by kernel_rfl) (by kernel_rfl) (by kernel_rfl) (fun _ _ _ h => h) (Or.inl ⟨by rfl, ?_⟩) hH4 ?_
      · intro w hSw; (try dsimp only at hSw); go_simp
      simp only [List.setIfInBounds_toArray, List.set_cons_zero, List.set_cons_succ]
      refine take_at (i := 20) (v := undef) rfl rfl (by kernel_rfl) (by kernel_rfl) (by kernel_rfl) (fun _ _ _ h => h) (Or.inr ⟨by rfl, rfl⟩) hH4 ?_
      simp only [List.setIfInBounds_toArray, List.set_cons_zero, List.set_cons_succ]
      refine take_at (i := 21) (v := undef) rfl rfl (by kernel_rfl) (by kernel_rfl) (by kernel_rfl) (fun _ _ _ h => h) (Or.inr ⟨by rfl, rfl⟩) hH4 ?_
      simp only [List.setIfInBounds_toArray, List.set_cons_zero, List.set_cons_succ]
      refine take_at (i := 22) (v := undef) rfl rfl (by kernel_rfl) (by kernel_rfl) (by kernel_rfl) (fun _ _ _ h => h) (Or.inr ⟨by rfl, rfl⟩) hH4 ?_
      simp only [List.setIfInBounds_toArray, List.set_cons_zero, List.set_cons_succ]
      refine take_at (i := 23) (v := undef) rfl rfl (by kernel_rfl) (by kernel_rfl) (by kernel_rfl) (fun _ _ _ h => h) (Or.inr ⟨by rfl, rfl⟩) hH4 ?_
      simp only [List.setIfInBounds_toArray, List.set_cons_zero, List.set_cons_succ]
      refine take_at (i := 24) (v := .bool true) rfl rfl (by kernel_rfl) (by kernel_rfl) (by kernel_rfl) (fun _ _ _ h => h) (Or.inl ⟨by rfl, ?_⟩) hH4 ?_
      · intro w hSw; (try dsimp only at hSw); go_simp
      simp only [List.setIfInBounds_toArray, List.set_cons_zero, List.set_cons_succ]
      refine take_at (i := 25) (v := .bool true) rfl rfl (by kernel_rfl) (by kernel_rfl) (by kernel_rfl) (fun _ _ _ h => h) (Or.inl ⟨by rfl, ?_⟩) hH4 ?_
      · intro w hSw; (try dsimp only at hSw); go_simp
      simp only [List.setIfInBounds_toArray, List.set_cons_zero, List.set_cons_succ]
      refine take_at (i := 26) (v := .bool true) rfl rfl (by kernel_rfl) (by kernel_rfl) (by kernel_rfl) (fun _ _ _ h => h) (Or.inl ⟨by rfl, ?_⟩) hH4 ?_
      · intro w hSw; (try dsimp only at hSw); go_simp
      simp only [List.setIfInBounds_toArray, List.set_cons_zero, List.set_cons_succ]
      refine wpAnyH_ready (rs := [27]) (by kernel_rfl) (by simp) ?_
      refine AllReadyH.cons rfl (fun K hK => ?_) AllReadyH.nil
      go_simp
      go_at_call 13
      refine (LV.out _ hH4).mono ?_
      rintro e w3 ⟨rfl, hb3⟩
      go_wp2_with fail
      refine hK.out _ _ (three.next hH4 hA1 hB1 hC1 hb3) (fun hH5 => ?_)
      clear hK K hH4 hb3
      refine take_at (i := 28) (v := .bool true) rfl rfl (by kernel_rfl) (by kernel_rfl) (by kernel_rfl) (fun _ _ _ h => h) (Or.inl ⟨by rfl, ?_⟩) hH5 ?_
      · intro w hSw; (try dsimp only at hSw); go_simp
      simp only [List.setIfInBounds_toArray, List.set_cons_zero, List.set_cons_succ]
      refine take_at (i := 29) (v := .bool true) rfl rfl (by kernel_rfl) (by kernel_rfl) (by kernel_rfl) (fun _ _ _ h => h) (Or.inl ⟨by rfl, ?_⟩) hH5 ?_
      · intro w hSw; (try dsimp only at hSw); go_simp
      simp only [List.setIfInBounds_toArray, List.set_cons_zero, List.set_cons_succ]
      refine wpAnyH_done (by kernel_rfl) ?_ _
      refine NoPanic.normal ?_
      go_wp2_with fail
      go_ret
      exact ⟨rfl, L1.out.trans (hH5.1.mono L1.out.size)⟩
    · go_wp2_with fail
      refine wp_region_noPanic ?_
      refine wp_region_held_drew (S := fun w' => Below w1.heap.size w1 w' ∧ w'.cell? ⟨w.heap.size, 0, none⟩ = some (.int .i64 a.ty) ∧ w'.cell? ⟨w.heap.size, 1, none⟩ = some (.int .i64 a.n) ∧ w'.cell? ⟨w.heap.size, 2, none⟩ = some (.string a.s) ∧ w'.cell? ⟨w.heap.size + 1, 0, none⟩ = some (.int .i64 b.ty) ∧ w'.cell? ⟨w.heap.size + 1, 1, none⟩ = some (.int .i64 b.n) ∧ w'.cell? ⟨w.heap.size + 1, 2, none⟩ = some (.string b.s) ∧ w'.cell? ⟨w.heap.size + 1 + 1, 0, none⟩ = some (.int .i64 c.ty) ∧ w'.cell? ⟨w.heap.size + 1 + 1, 1, none⟩ = some (.int .i64 c.n) ∧ w'.cell? ⟨w.heap.size + 1 + 1, 2, none⟩ = some (.string c.s)) (by kernel_rfl) (three.drew T4 hA1 hB1 hC1) (fun hH0 => ?_)
      clear T4
      refine take_at (i := 0) (v := .agg #[.int .i64 b.ty, .int .i64 b.n, .string b.s]) rfl rfl (by kernel_rfl) (by kernel_rfl) (by kernel_rfl) (fun _ _ _ h => h) (Or.inl ⟨by rfl, ?_⟩) hH0 ?_
      · intro w hSw; (try dsimp only at hSw); go_simp
      simp only [List.setIfInBounds_toArray, List.set_cons_zero, List.set_cons_succ]
      refine take_at (i := 1) (v := .agg #[.int .i64 a.ty, .int .i64 a.n, .string a.s]) rfl rfl (by kernel_rfl) (by kernel_rfl) (by kernel_rfl) (fun _ _ _ h => h) (Or.inl ⟨by rfl, ?_⟩) hH0 ?_
      · intro w hSw; (try dsimp only at hSw); go_simp
      simp only [List.setIfInBounds_toArray, List.set_cons_zero, List.set_cons_succ]
      refine take_at (i := 3) (v := .agg #[.int .i64 a.ty, .int .i64 a.n, .string a.s]) rfl rfl (by kernel_rfl) (by kernel_rfl) (by kernel_rfl) (fun _ _ _ h => h) (Or.inl ⟨by rfl, ?_⟩) hH0 ?_
      · intro w hSw; (try dsimp only at hSw); go_simp
      simp only [List.setIfInBounds_toArray, List.set_cons_zero, List.set_cons_succ]
      refine take_at (i := 4) (v := .agg #[.int .i64 b.ty, .int .i64 b.n, .string b.s]) rfl rfl (by kernel_rfl) (by kernel_rfl) (by kernel_rfl) (fun _ _ _ h => h) (Or.inl ⟨by rfl, ?_⟩) hH0 ?_
      · intro w hSw; (try dsimp only at hSw); go_simp
      simp only [List.setIfInBounds_toArray, List.set_cons_zero, List.set_cons_succ]
      refine wpAnyH_ready (rs := [2]) (by kernel_rfl) (by simp) ?_
      refine AllReadyH.cons rfl (fun K hK => ?_) AllReadyH.nil
      go_simp
      go_at_call 7
      refine (OG.out b a _ _ Hb Ha e2).mono ?_
      rintro e w3 ⟨rfl, hb3⟩
      go_wp2_with fail
      refine hK.out _ _ (three.next hH0 hA1 hB1 hC1 hb3) (fun hH1 => ?_)
      clear hK K hH0 hb3
      refine wpAnyH_ready (rs := [5]) (by kernel_rfl) (by simp) ?_
      refine AllReadyH.cons rfl (fun K hK => ?_) AllReadyH.nil
      go_simp
      go_at_call 7
      refine (OG.out a b _ _ Ha Hb e1).mono ?_
      rintro e w3 ⟨rfl, hb3⟩
      go_wp2_with fail
      refine hK.out _ _ (three.next hH1 hA1 hB1 hC1 hb3) (fun hH2 => ?_)
      clear hK K hH1 hb3
      refine take_at (i := 6) (v := .int .i64 (-x)) rfl rfl (by kernel_rfl) (by kernel_rfl) (by kernel_rfl) (fun _ _ _ h => h) (Or.inl ⟨by rfl, ?_⟩) hH2 ?_
      · intro w hSw; (try dsimp only at hSw); go_simp
      simp only [List.setIfInBounds_toArray, List.set_cons_zero, List.set_cons_succ]
      refine take_at (i := 7) (v := .bool true) rfl rfl (by kernel_rfl) (by kernel_rfl) (by kernel_rfl) (fun _ _ _ h => h) (Or.inl ⟨by rfl, ?_⟩) hH2 ?_
      · intro w hSw; (try dsimp only at hSw); go_simp
      simp only [List.setIfInBounds_toArray, List.set_cons_zero, List.set_cons_succ]
      refine take_at (i := 8) (v := .bool true) rfl rfl (by kernel_rfl) (by kernel_rfl) (by kernel_rfl) (fun _ _ _ h => h) (Or.inl ⟨by rfl, ?_⟩) hH2 ?_
      · intro w hSw; (try dsimp only at hSw); go_simp
      simp only [List.setIfInBounds_toArray, List.set_cons_zero, List.set_cons_succ]
      refine take_at (i := 9) (v := .agg #[.int .i64 a.ty, .int .i64 a.n, .string a.s]) rfl rfl (by kernel_rfl) (by kernel_rfl) (by kernel_rfl) (fun _ _ _ h => h) (Or.inl ⟨by rfl, ?_⟩) hH2 ?_
      · intro w hSw; (try dsimp only at hSw); go_simp
      simp only [List.setIfInBounds_toArray, List.set_cons_zero, List.set_cons_succ]
      refine take_at (i := 10) (v := .agg #[.int .i64 b.ty, .int .i64 b.n, .string b.s]) rfl rfl (by kernel_rfl) (by kernel_rfl) (by kernel_rfl) (fun _ _ _ h => h) (Or.inl ⟨by rfl, ?_⟩) hH2 ?_
      · intro w hSw; (try dsimp only at hSw); go_simp
      simp only [List.setIfInBounds_toArray, List.set_cons_zero, List.set_cons_succ]
      refine wpAnyH_ready (rs := [11]) (by kernel_rfl) (by simp) ?_
      refine AllReadyH.cons rfl (fun K hK => ?_) AllReadyH.nil
      go_simp
      go_at_call 7
      refine (OG.out a b _ _ Ha Hb e1).mono ?_
      rintro e w3 ⟨rfl, hb3⟩
      go_wp2_with fail
      refine hK.out _ _ (three.next hH2 hA1 hB1 hC1 hb3) (fun hH3 => ?_)
      clear hK K hH2 hb3
      refine take_at (i := 12) (v := .bool false) rfl rfl (by kernel_rfl) (by kernel_rfl) (by kernel_rfl) (fun _ _ _ h => h) (Or.inl ⟨by rfl, ?_⟩) hH3 ?_
      · intro w hSw; (try dsimp only at hSw); go_simp
      simp only [List.setIfInBounds_toArray, List.set_cons_zero, List.set_cons_succ]
      refine take_at (i := 13) (v := .bool false) rfl rfl (by kernel_rfl) (by kernel_rfl) (by kernel_rfl) (fun _ _ _ h => h) (Or.inl ⟨by rfl, ?_⟩) hH3 ?_
      · intro w hSw; (try dsimp only at hSw); go_simp
      simp only [List.setIfInBounds_toArray, List.set_cons_zero, List.set_cons_succ]
      refine take_at (i := 14) (v := .agg #[.int .i64 b.ty, .int .i64 b.n, .string b.s]) rfl rfl (by kernel_rfl) (by kernel_rfl) (by kernel_rfl) (fun _ _ _ h => h) (Or.inl ⟨by rfl, ?_⟩) hH3 ?_
      · intro w hSw; (try dsimp only at hSw); go_simp
      simp only [List.setIfInBounds_toArray, List.set_cons_zero, List.set_cons_succ]
      refine take_at (i := 15) (v := .agg #[.int .i64 c.ty, .int .i64 c.n, .string c.s]) rfl rfl (by kernel_rfl) (by kernel_rfl) (by kernel_rfl) (fun _ _ _ h => h) (Or.inl ⟨by rfl, ?_⟩) hH3 ?_
      · intro w hSw; (try dsimp only at hSw); go_simp
      simp only [List.setIfInBounds_toArray, List.set_cons_zero, List.set_cons_succ]
      refine wpAnyH_ready (rs := [16]) (by kernel_rfl) (by simp) ?_
      refine AllReadyH.cons rfl (fun K hK => ?_) AllReadyH.nil
      go_simp
      go_at_call 7
      refine (OG.out b c _ _ Hb Hc e3).mono ?_
      rintro e w3 ⟨rfl, hb3⟩
      go_wp2_with fail
      refine hK.out _ _ (three.next hH3 hA1 hB1 hC1 hb3) (fun hH4 => ?_)
      clear hK K hH3 hb3
      refine take_at (i := 17) (v := .bool false) rfl rfl (by kernel_rfl) (by kernel_rfl) (by kernel_rfl) (fun _ _ _ h => h) (Or.inl ⟨by rfl, ?_⟩) hH4 ?_
      · intro w hSw; (try dsimp only at hSw); go_simp
      simp only [List.setIfInBounds_toArray, List.set_cons_zero, List.set_cons_succ]
      refine take_at (i := 18) (v := .bool false) rfl rfl (by kernel_rfl) (by kernel_rfl) (by kernel_rfl) (fun _ _ _ h => h) (Or.inl ⟨by rfl, ?_⟩) hH4 ?_
      · intro w hSw; (try dsimp only at hSw); go_simp
      simp only [List.setIfInBounds_toArray, List.set_cons_zero, List.set_cons_succ]
      refine take_at (i := 19) (v := .bool false) rfl rfl (by kernel_rfl) (by kernel_rfl) (by kernel_rfl) (fun _ _ _ h => h) (Or.inl ⟨by rfl, ?_⟩) hH4 ?_
      · intro w hSw; (try dsimp only at hSw); go_simp
      simp only [List.setIfInBounds_toArray, List.set_cons_zero, List.set_cons_succ]
      refine take_at (i := 20) (v := .agg #[.int .i64 a.ty, .int .i64 a.n, .string a.s]) rfl rfl (by kernel_rfl) (by kernel_rfl) (by kernel_rfl) (fun _ _ _ h => h) (Or.inl ⟨by rfl, ?_⟩) hH4 ?_
      · intro w hSw; (try dsimp only at hSw); go_simp
      simp only [List.setIfInBounds_toArray, List.set_cons_zero, List.set_cons_succ]
      refine take_at (i := 21) (v := .agg #[.int .i64 c.ty, .int .i64 c.n, .string c.s]) rfl rfl (by kernel_rfl) (by kernel_rfl) (by kernel_rfl) (fun _ _ _ h => h) (Or.inl ⟨by rfl, ?_⟩) hH4 ?_
      · intro w hSw; (try dsimp only at hSw); go_simp
      simp only [List.setIfInBounds_toArray, List.set_cons_zero, List.set_cons_succ]
      refine wpAnyH_ready (rs := [22]) (by kernel_rfl) (by simp) ?_
      refine AllReadyH.cons rfl (fun K hK => ?_) AllReadyH.nil
      go_simp
      go_at_call 7
      refine (OG.out a c _ _ Ha Hc e4).mono ?_
      rintro e w3 ⟨rfl, hb3⟩
      go_wp2_with fail
      refine hK.out _ _ (three.next hH4 hA1 hB1 hC1 hb3) (fun hH5 => ?_)
      clear hK K hH4 hb3
      refine take_at (i := 23) (v := .bool true) rfl rfl (by kernel_rfl) (by kernel_rfl) (by kernel_rfl) (fun _ _ _ h => h) (Or.inl ⟨by rfl, ?_⟩) hH5 ?_
      · intro w hSw; (try dsimp only at hSw); go_simp
      simp only [List.setIfInBounds_toArray, List.set_cons_zero, List.set_cons_succ]
      refine take_at (i := 24) (v := .bool true) rfl rfl (by kernel_rfl) (by kernel_rfl) (by kernel_rfl) (fun _ _ _ h => h) (Or.inl ⟨by rfl, ?_⟩) hH5 ?_
      · intro w hSw; (try dsimp only at hSw); go_simp
      simp only [List.setIfInBounds_toArray, List.set_cons_zero, List.set_cons_succ]
      refine take_at (i := 25) (v := .bool true) rfl rfl (by kernel_rfl) (by kernel_rfl) (by kernel_rfl) (fun _ _ _ h => h) (Or.inl ⟨by rfl, ?_⟩) hH5 ?_
      · intro w hSw; (try dsimp only at hSw); go_simp
      simp only [List.setIfInBounds_toArray, List.set_cons_zero, List.set_cons_succ]
      refine take_at (i := 26) (v := .bool true) rfl rfl (by kernel_rfl) (by kernel_rfl) (by kernel_rfl) (fun _ _ _ h => h) (Or.inl ⟨by rfl, ?_⟩) hH5 ?_
      · intro w hSw; (try dsimp only at hSw); go_simp
      simp only [List.setIfInBounds_toArray, List.set_cons_zero, List.set_cons_succ]
      refine wpAnyH_ready (rs := [27]) (by kernel_rfl) (by simp) ?_
      refine AllReadyH.cons rfl (fun K hK => ?_) AllReadyH.nil
      go_simp
      go_at_call 13
      refine (LV.out _ hH5).mono ?_
      rintro e w3 ⟨rfl, hb3⟩
      go_wp2_with fail
      refine hK.out _ _ (three.next hH5 hA1 hB1 hC1 hb3) (fun hH6 => ?_)
      clear hK K hH5 hb3
      refine take_at (i := 28) (v := .bool true) rfl rfl (by kernel_rfl) (by kernel_rfl) (by kernel_rfl) (fun _ _ _ h => h) (Or.inl ⟨by rfl, ?_⟩) hH6 ?_
      · intro w hSw; (try dsimp only at hSw); go_simp
      simp only [List.setIfInBounds_toArray, List.set_cons_zero, List.set_cons_succ]
      refine take_at (i := 29) (v := .bool true) rfl rfl (by kernel_rfl) (by kernel_rfl) (by kernel_rfl) (fun _ _ _ h => h) (Or.inl ⟨by rfl, ?_⟩) hH6 ?_
      · intro w hSw; (try dsimp only at hSw); go_simp
      simp only [List.setIfInBounds_toArray, List.set_cons_zero, List.set_cons_succ]
      refine wpAnyH_done (by kernel_rfl) ?_ _
      refine NoPanic.normal ?_
      go_wp2_with fail
      go_ret
      exact ⟨rfl, L1.out.trans (hH6.1.mono L1.out.size)⟩
theorem ValueOrders_any (a b c : Va) (w : World) (sa : a.s.size ≤ 9223372036854775807) (_sb : b.s.size ≤ 9223372036854775807) (_sc : c.s.size ≤ 9223372036854775807) (ha : fit a.n) (hb : fit b.n) (hc : fit c.n) (hT : Tabs w) (hP : Pow w) :
    Calls Tryz.prog 3 #[.agg #[.int .i64 a.ty, .int .i64 a.n, .string a.s], .agg #[.int .i64 b.ty, .int .i64 b.n, .string b.s], .agg #[.int .i64 c.ty, .int .i64 c.n, .string c.s]] w fun e w' => e = .returned (.bool true) ∧ Below w.heap.size w w' := ordersLaw a b c w sa ha hb hc hT hP
end Go.Proofs.YtmgmpkdnepomgaaGreatDoor
