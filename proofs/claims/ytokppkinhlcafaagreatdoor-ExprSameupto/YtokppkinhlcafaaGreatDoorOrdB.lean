/-
  The walks of value.Order and lockstepref01.Order: one order of all values.
-/
import Derived.Test.YtokppkinhlcafaaGreatDoorOrdA
namespace Go.Proofs.YtokppkinhlcafaaGreatDoor
open Go.RowKit Go.Shelf

/-- the one order of all values -/
def ordV (a b : Va) : Int :=
  if grp a.ty = grp b.ty then
    if grp a.ty = 0 then 0
    else if grp a.ty = 1 then firstI [numC a b, cmpI a.ty b.ty]
    else if grp a.ty = 2 then cmpB a.s b.s
    else if grp a.ty = 3 then cmpI a.n b.n
    else firstI [cmpI a.ty b.ty, cmpI a.n b.n, cmpB a.s b.s]
  else cmpI (grp a.ty) (grp b.ty)
theorem grp_vals (t : Int) : grp t = 0 ∨ grp t = 1 ∨ grp t = 2 ∨ grp t = 3 ∨ grp t = 4 := by
  unfold grp
  split
  · simp
  · split
    · simp
    · split
      · simp
      · split <;> simp
theorem cmpI_ne {x y : Int} (h : x ≠ y) : (cmpI x y != 0) = true := by
  rw [bne_iff_ne]; unfold cmpI; split
  · omega
  · split <;> omega
theorem intsAt_three (w : World) (x y z : Int) (t : TypeId) : intsAt (w.alloc (.cells #[.int .i64 x, .int .i64 y, .int .i64 z] t)) w.heap.size [x, y, z] := by
  refine ⟨by simp, ?_⟩
  intro i v hv
  have hi := (List.getElem?_eq_some_iff.1 hv).1
  simp only [List.length_cons, List.length_nil] at hi
  have : i = 0 ∨ i = 1 ∨ i = 2 := by omega
  rcases this with rfl | rfl | rfl
  · simp at hv; subst hv; simp only [World.cell?, heap_alloc_new]; simp
  · simp at hv; subst hv; simp only [World.cell?, heap_alloc_new]; simp
  · simp at hv; subst hv; simp only [World.cell?, heap_alloc_new]; simp

/-- two boxes, one behind the other -/
structure Ft (w : World) (B : Nat) (a b : Va) : Prop where
  lt : B + 1 < w.heap.size
  a0 : w.cell? ⟨B, 0, none⟩ = some (.int .i64 a.ty)
  a1 : w.cell? ⟨B, 1, none⟩ = some (.int .i64 a.n)
  a2 : w.cell? ⟨B, 2, none⟩ = some (.string a.s)
  b0 : w.cell? ⟨B + 1, 0, none⟩ = some (.int .i64 b.ty)
  b1 : w.cell? ⟨B + 1, 1, none⟩ = some (.int .i64 b.n)
  b2 : w.cell? ⟨B + 1, 2, none⟩ = some (.string b.s)
theorem Ft.new (w : World) (a b : Va) : Ft ((w.alloc (.cells #[.int .i64 a.ty, .int .i64 a.n, .string a.s] 24)).alloc (.cells #[.int .i64 b.ty, .int .i64 b.n, .string b.s] 24)) w.heap.size a b := by
  constructor
  all_goals go_simp
theorem Ft.below {w w' : World} {B : Nat} {a b : Va} (h : Ft w B a b) (hb : Below w.heap.size w w') : Ft w' B a b := by
  have l := h.lt
  exact ⟨Nat.lt_of_lt_of_le l hb.size, (hb.cell (p := ⟨B, 0, none⟩) (show B < _ by omega)).trans h.a0, (hb.cell (p := ⟨B, 1, none⟩) (show B < _ by omega)).trans h.a1, (hb.cell (p := ⟨B, 2, none⟩) (show B < _ by omega)).trans h.a2,
    (hb.cell (p := ⟨B + 1, 0, none⟩) l).trans h.b0, (hb.cell (p := ⟨B + 1, 1, none⟩) l).trans h.b1, (hb.cell (p := ⟨B + 1, 2, none⟩) l).trans h.b2⟩

set_option maxHeartbeats 4000000 in
set_option maxRecDepth 1000000 in
theorem Order_any (a b : Va) (w : World) (ha : fit a.n) (hb : fit b.n) :
    Calls Tryz.prog 25 #[.agg #[.int .i64 a.ty, .int .i64 a.n, .string a.s], .agg #[.int .i64 b.ty, .int .i64 b.n, .string b.s]] w fun e w' => e = .returned (.int .i64 (ordV a b)) ∧ Below w.heap.size w w' := by
  have GO : Hid (∀ ty w, Calls Tryz.prog 34 #[.int .i64 ty] w fun e w' => e = .returned (.int .i64 (grp ty)) ∧ w' = w) := groupOf_any
  have CI : Hid (∀ x y w, Calls Tryz.prog 35 #[.int .i64 x, .int .i64 y] w fun e w' => e = .returned (.int .i64 (cmpI x y)) ∧ w' = w) := CompareInt
  have CJ : Hid (∀ x y w, Calls Tryz.prog 39 #[.int .i64 x, .int .i64 y] w fun e w' => e = .returned (.int .i64 (cmpI x y)) ∧ w' = w) := CompareInt64
  have SC : Hid (∀ x y w, Calls Tryz.prog 38 #[.string x, .string y] w fun e w' => e = .returned (.int .i64 (cmpB x y)) ∧ w' = w) := Compare_any
  have OS : Hid (∀ w, Calls Tryz.prog 37 #[.agg #[.int .i64 a.ty, .int .i64 a.n, .string a.s], .agg #[.int .i64 b.ty, .int .i64 b.n, .string b.s]] w fun e w' => e = .returned (.int .i64 (numC a b)) ∧ Below w.heap.size w w') := fun w => orderSizes_any a b w ha hb
  have O2 : Hid (∀ g x y w, intsAt w g [x, y] → Calls Tryz.prog 36 #[.slice (some ⟨g, 0, none⟩) 2 2] w fun e w' => e = .returned (.int .i64 (firstI [x, y])) ∧ w' = w) := fun g x y w h => OrInt g 2 [x, y] w (by simp) h
  have O3 : Hid (∀ g x y z w, intsAt w g [x, y, z] → Calls Tryz.prog 36 #[.slice (some ⟨g, 0, none⟩) 3 3] w fun e w' => e = .returned (.int .i64 (firstI [x, y, z])) ∧ w' = w) := fun g x y z w h => OrInt g 3 [x, y, z] w (by simp) h
  have B0 : Hid (∀ o o', Below w.heap.size w ((w.alloc o).alloc o')) := fun o o' => ((Below.refl _ w).alloc (Nat.le_refl _) o).alloc (by simp) o'
  have F0 : Hid _ := Ft.new w a b
  by_cases hg : grp a.ty = grp b.ty
  · have hc : cmpI (grp a.ty) (grp b.ty) = 0 := cmpI_eq hg
    have C0 : Hid (∀ w, Calls Tryz.prog 35 #[.int .i64 (grp a.ty), .int .i64 (grp b.ty)] w fun e w' => e = .returned (.int .i64 0) ∧ w' = w) := fun w => hc ▸ CompareInt _ _ w
    unfold ordV
    rw [if_pos hg]
    clear hg hc
    have hv := grp_vals a.ty
    generalize hga : grp a.ty = G at *
    have GA : Hid (∀ w, Calls Tryz.prog 34 #[.int .i64 a.ty] w fun e w' => e = .returned (.int .i64 G) ∧ w' = w) := fun w => hga ▸ groupOf_any a.ty w
    clear hga
    rcases hv with rfl | rfl | rfl | rfl | rfl
    · rw [if_pos rfl]
      go_enter Tryz.func25, Tryz.ntmps25
      go_wp2_with fail
      refine (GA.out _).mono ?_
      rintro e w1 ⟨rfl, rfl⟩
      go_wp2_with fail
      refine (GO.out _ _).mono ?_
      rintro e w1 ⟨rfl, rfl⟩
      go_wp2_with fail
      refine (C0.out _).mono ?_
      rintro e w1 ⟨rfl, rfl⟩
      go_wp2_with fail
      go_ret
      exact ⟨rfl, B0.out _ _⟩
    · rw [if_neg (by omega), if_pos rfl]
      go_enter Tryz.func25, Tryz.ntmps25
      go_wp2_with fail
      refine (GA.out _).mono ?_
      rintro e w1 ⟨rfl, rfl⟩
      go_wp2_with fail
      refine (GO.out _ _).mono ?_
      rintro e w1 ⟨rfl, rfl⟩
      go_wp2_with fail
      refine (C0.out _).mono ?_
      rintro e w1 ⟨rfl, rfl⟩
      go_wp2_with fail
      have F1 := F0.out
      have B1 := B0.out (.cells #[.int .i64 a.ty, .int .i64 a.n, .string a.s] 24) (.cells #[.int .i64 b.ty, .int .i64 b.n, .string b.s] 24)
      clear F0 B0
      generalize (w.alloc (.cells #[.int .i64 a.ty, .int .i64 a.n, .string a.s] 24)).alloc (.cells #[.int .i64 b.ty, .int .i64 b.n, .string b.s] 24) = W at *
      obtain ⟨l1, a0, a1, a2, b0, b1, b2⟩ := F1
      go_region_held3 (fun w' => w'.cell? ⟨w.heap.size, 0, none⟩ = some (.int .i64 a.ty) ∧ w'.cell? ⟨w.heap.size, 1, none⟩ = some (.int .i64 a.n) ∧ w'.cell? ⟨w.heap.size, 2, none⟩ = some (.string a.s) ∧ w'.cell? ⟨w.heap.size + 1, 0, none⟩ = some (.int .i64 b.ty) ∧ w'.cell? ⟨w.heap.size + 1, 1, none⟩ = some (.int .i64 b.n) ∧ w'.cell? ⟨w.heap.size + 1, 2, none⟩ = some (.string b.s)) (first | go_keep | exact ⟨(hb2.cell (p := ⟨w.heap.size, 0, none⟩) (by simp; omega)).trans a0, (hb2.cell (p := ⟨w.heap.size, 1, none⟩) (by simp; omega)).trans a1, (hb2.cell (p := ⟨w.heap.size, 2, none⟩) (by simp; omega)).trans a2, (hb2.cell (p := ⟨w.heap.size + 1, 0, none⟩) (by simp; omega)).trans b0, (hb2.cell (p := ⟨w.heap.size + 1, 1, none⟩) (by simp; omega)).trans b1, (hb2.cell (p := ⟨w.heap.size + 1, 2, none⟩) (by simp; omega)).trans b2⟩) ((first | (go_at_call 37; refine (OS.out _).mono ?_; rintro e w' ⟨rfl, hb2⟩) | (go_at_call 35; refine (CI.out _ _ _).mono ?_; rintro e w' ⟨rfl, rfl⟩) | (go_at_call 36; refine (O2.out _ _ _ _ (by exact intsAt_two _ _ _ _)).mono ?_; rintro e w' ⟨rfl, rfl⟩)))
      all_goals go_wp2_with fail
      all_goals go_ret
      all_goals refine ⟨rfl, ?_⟩
      have B2 := B1.drew.trans (hb2.mono B1.drew.size)
      exact B2.alloc B2.size _
    · rw [if_neg (by omega), if_neg (by omega), if_pos rfl]
      go_enter Tryz.func25, Tryz.ntmps25
      go_wp2_with fail
      refine (GA.out _).mono ?_
      rintro e w1 ⟨rfl, rfl⟩
      go_wp2_with fail
      refine (GO.out _ _).mono ?_
      rintro e w1 ⟨rfl, rfl⟩
      go_wp2_with fail
      refine (C0.out _).mono ?_
      rintro e w1 ⟨rfl, rfl⟩
      go_wp2_with fail
      refine (SC.out _ _ _).mono ?_
      rintro e w1 ⟨rfl, rfl⟩
      go_wp2_with fail
      go_ret
      exact ⟨rfl, B0.out _ _⟩
    · rw [if_neg (by omega), if_neg (by omega), if_neg (by omega), if_pos rfl]
      go_enter Tryz.func25, Tryz.ntmps25
      go_wp2_with fail
      refine (GA.out _).mono ?_
      rintro e w1 ⟨rfl, rfl⟩
      go_wp2_with fail
      refine (GO.out _ _).mono ?_
      rintro e w1 ⟨rfl, rfl⟩
      go_wp2_with fail
      refine (C0.out _).mono ?_
      rintro e w1 ⟨rfl, rfl⟩
      go_wp2_with fail
      refine (CJ.out _ _ _).mono ?_
      rintro e w1 ⟨rfl, rfl⟩
      go_wp2_with fail
      go_ret
      exact ⟨rfl, B0.out _ _⟩
    · rw [if_neg (by omega), if_neg (by omega), if_neg (by omega), if_neg (by omega)]
      go_enter Tryz.func25, Tryz.ntmps25
      go_wp2_with fail
      refine (GA.out _).mono ?_
      rintro e w1 ⟨rfl, rfl⟩
      go_wp2_with fail
      refine (GO.out _ _).mono ?_
      rintro e w1 ⟨rfl, rfl⟩
      go_wp2_with fail
      refine (C0.out _).mono ?_
      rintro e w1 ⟨rfl, rfl⟩
      go_wp2_with fail
      have F1 := F0.out
      have B1 := B0.out (.cells #[.int .i64 a.ty, .int .i64 a.n, .string a.s] 24) (.cells #[.int .i64 b.ty, .int .i64 b.n, .string b.s] 24)
      clear F0 B0
      generalize (w.alloc (.cells #[.int .i64 a.ty, .int .i64 a.n, .string a.s] 24)).alloc (.cells #[.int .i64 b.ty, .int .i64 b.n, .string b.s] 24) = W at *
      obtain ⟨l1, a0, a1, a2, b0, b1, b2⟩ := F1
      go_region_held3 (fun w' => w'.cell? ⟨w.heap.size, 0, none⟩ = some (.int .i64 a.ty) ∧ w'.cell? ⟨w.heap.size, 1, none⟩ = some (.int .i64 a.n) ∧ w'.cell? ⟨w.heap.size, 2, none⟩ = some (.string a.s) ∧ w'.cell? ⟨w.heap.size + 1, 0, none⟩ = some (.int .i64 b.ty) ∧ w'.cell? ⟨w.heap.size + 1, 1, none⟩ = some (.int .i64 b.n) ∧ w'.cell? ⟨w.heap.size + 1, 2, none⟩ = some (.string b.s)) (go_keep) ((first | (go_at_call 35; refine (CI.out _ _ _).mono ?_; rintro e w' ⟨rfl, rfl⟩) | (go_at_call 39; refine (CJ.out _ _ _).mono ?_; rintro e w' ⟨rfl, rfl⟩) | (go_at_call 38; refine (SC.out _ _ _).mono ?_; rintro e w' ⟨rfl, rfl⟩) | (go_at_call 36; refine (O3.out _ _ _ _ _ (by exact intsAt_three _ _ _ _ _)).mono ?_; rintro e w' ⟨rfl, rfl⟩)))
      all_goals go_wp2_with fail
      all_goals go_ret
      all_goals refine ⟨rfl, ?_⟩
      exact (B1.alloc B1.size _).drew
  · have hne := cmpI_ne hg
    have e : ordV a b = cmpI (grp a.ty) (grp b.ty) := by unfold ordV; rw [if_neg hg]
    rw [e]
    clear hg e
    go_enter Tryz.func25, Tryz.ntmps25
    go_wp2_with fail
    refine (GO.out _ _).mono ?_
    rintro e w1 ⟨rfl, rfl⟩
    go_wp2_with fail
    refine (GO.out _ _).mono ?_
    rintro e w1 ⟨rfl, rfl⟩
    go_wp2_with fail
    refine (CI.out _ _ _).mono ?_
    rintro e w1 ⟨rfl, rfl⟩
    go_wp2_with fail
    go_ret
    exact ⟨rfl, B0.out _ _⟩

set_option maxHeartbeats 1000000 in
theorem class_any (v : Va) (w : World) :
    Calls Tryz.prog 26 #[.agg #[.int .i64 v.ty, .int .i64 v.n, .string v.s]] w fun e w' => e = .returned (.int .i64 (grp v.ty)) ∧ Below w.heap.size w w' := by
  have B0 : Hid (∀ o, Below w.heap.size w (w.alloc o)) := fun o => (Below.refl _ w).alloc (Nat.le_refl _) o
  obtain ⟨ty, n, s⟩ := v
  simp only
  rcases ty_cases ty with rfl | rfl | rfl | rfl | rfl | ⟨h0, h1, h2, h3, h4⟩
  · go_enter Tryz.func26, Tryz.ntmps26
    go_wp2
    go_ret
    exact ⟨rfl, B0.out _⟩
  · go_enter Tryz.func26, Tryz.ntmps26
    go_wp2
    go_ret
    exact ⟨rfl, B0.out _⟩
  · go_enter Tryz.func26, Tryz.ntmps26
    go_wp2
    go_ret
    exact ⟨rfl, B0.out _⟩
  · go_enter Tryz.func26, Tryz.ntmps26
    go_wp2
    go_ret
    exact ⟨rfl, B0.out _⟩
  · go_enter Tryz.func26, Tryz.ntmps26
    go_wp2
    go_ret
    exact ⟨rfl, B0.out _⟩
  · have hg : grp ty = 4 := by unfold grp; rw [if_neg h0, if_neg (by omega), if_neg h3, if_neg h4]
    rw [hg]
    have b0 : (ty == 0) = false := by rw [beq_eq_false_iff_ne]; exact h0
    have b1 : (ty == 1) = false := by rw [beq_eq_false_iff_ne]; exact h1
    have b2 : (ty == 2) = false := by rw [beq_eq_false_iff_ne]; exact h2
    have b3 : (ty == 3) = false := by rw [beq_eq_false_iff_ne]; exact h3
    have b4 : (ty == 4) = false := by rw [beq_eq_false_iff_ne]; exact h4
    clear h0 h1 h2 h3 h4
    go_enter Tryz.func26, Tryz.ntmps26
    go_wp2
    go_ret
    exact ⟨rfl, B0.out _⟩

set_option maxHeartbeats 2000000 in
set_option maxRecDepth 1000000 in
/-- a whole number held against ten-thousandths -/
theorem Numbers_mixed (a b : Va) (w : World) (h : ¬ a.ty = b.ty) (h2 : ¬ a.ty = 2) (hb : fit b.n) :
    Calls Tryz.prog 28 #[.agg #[.int .i64 a.ty, .int .i64 a.n, .string a.s], .agg #[.int .i64 b.ty, .int .i64 b.n, .string b.s]] w fun e w' => e = .returned (.int .i64 (mixI a.n b.n)) ∧ Below w.heap.size w w' := by
  have B0 : Hid (∀ o o', Below w.heap.size w ((w.alloc o).alloc o')) := fun o o' => ((Below.refl _ w).alloc (Nat.le_refl _) o).alloc (by simp) o'
  have I : Hid (∀ x y w, Calls Tryz.prog 27 #[.int .i64 x, .int .i64 y] w fun e w' => e = .returned (.int .i64 (cmpI x y)) ∧ w' = w) := ints_any
  have q1 : -9223372036854775808 ≤ b.n.tdiv 10000 ∧ b.n.tdiv 10000 ≤ 9223372036854775807 := tdiv_fit hb
  have q2 : -9223372036854775808 ≤ b.n.tmod 10000 ∧ b.n.tmod 10000 ≤ 9223372036854775807 := tmod_fit b.n
  have k1 : (a.ty == b.ty) = false := by rw [beq_eq_false_iff_ne]; exact h
  have k2 : (a.ty == 2) = false := by rw [beq_eq_false_iff_ne]; exact h2
  unfold fit at hb
  clear h h2
  by_cases hq : a.n = b.n.tdiv 10000
  · have e : mixI a.n b.n = cmpI 0 (b.n.tmod 10000) := by
      unfold mixI firstI
      rw [if_pos (cmpI_eq hq)]
      unfold firstI
      by_cases hz : cmpI 0 (b.n.tmod 10000) = 0
      · rw [if_pos hz, hz]; rfl
      · rw [if_neg hz]
    rw [e]
    have kq : (a.n != b.n.tdiv 10000) = false := by simp [hq]
    clear e hq
    go_enter Tryz.func28, Tryz.ntmps28
    go_wp2_with fail
    go_quiet (fail)
    go_wp2_with fail
    refine (I.out _ _ _).mono ?_
    rintro e w1 ⟨rfl, rfl⟩
    go_wp2_with fail
    go_ret
    exact ⟨rfl, below_drewN (B0.out _ _) _⟩
  · have e : mixI a.n b.n = cmpI a.n (b.n.tdiv 10000) := by
      unfold mixI firstI
      rw [if_neg]
      have := cmpI_ne hq
      rw [bne_iff_ne] at this; exact this
    rw [e]
    have kq : (a.n != b.n.tdiv 10000) = true := by rw [bne_iff_ne]; exact hq
    clear e hq
    go_enter Tryz.func28, Tryz.ntmps28
    go_wp2_with fail
    go_quiet (fail)
    go_wp2_with fail
    refine (I.out _ _ _).mono ?_
    rintro e w1 ⟨rfl, rfl⟩
    go_wp2_with fail
    go_ret
    exact ⟨rfl, below_drewN (B0.out _ _) _⟩

set_option maxHeartbeats 2000000 in
set_option maxRecDepth 1000000 in
theorem Numbers_any (a b : Va) (w : World) (ha : fit a.n) (hb : fit b.n) (ga : grp a.ty = 1) (gb : grp b.ty = 1) :
    Calls Tryz.prog 28 #[.agg #[.int .i64 a.ty, .int .i64 a.n, .string a.s], .agg #[.int .i64 b.ty, .int .i64 b.n, .string b.s]] w fun e w' => e = .returned (.int .i64 (numC a b)) ∧ Below w.heap.size w w' := by
  have ta : a.ty = 1 ∨ a.ty = 2 := by
    unfold grp at ga; split at ga
    · omega
    · split at ga
      · assumption
      · split at ga
        · omega
        · split at ga <;> omega
  have tb : b.ty = 1 ∨ b.ty = 2 := by
    unfold grp at gb; split at gb
    · omega
    · split at gb
      · assumption
      · split at gb
        · omega
        · split at gb <;> omega
  have B0 : Hid (∀ o o', Below w.heap.size w ((w.alloc o).alloc o')) := fun o o' => ((Below.refl _ w).alloc (Nat.le_refl _) o).alloc (by simp) o'
  have I : Hid (∀ x y w, Calls Tryz.prog 27 #[.int .i64 x, .int .i64 y] w fun e w' => e = .returned (.int .i64 (cmpI x y)) ∧ w' = w) := ints_any
  by_cases h : a.ty = b.ty
  · have e : numC a b = cmpI a.n b.n := if_pos h
    rw [e]
    have k1 : (a.ty == b.ty) = true := by rw [beq_iff_eq]; exact h
    clear e h ta tb ga gb
    go_enter Tryz.func28, Tryz.ntmps28
    go_wp2_with fail
    refine (I.out _ _ _).mono ?_
    rintro e w1 ⟨rfl, rfl⟩
    go_wp2_with fail
    go_ret
    exact ⟨rfl, B0.out _ _⟩
  · by_cases h1 : a.ty = 1
    · have e : numC a b = mixI a.n b.n := by unfold numC; rw [if_neg h, if_pos h1]
      rw [e]
      exact Numbers_mixed a b w h (by omega) hb
    · have e : numC a b = -(mixI b.n a.n) := by unfold numC; rw [if_neg h, if_neg h1]
      rw [e]
      have M : Hid (∀ w, Calls Tryz.prog 28 #[.agg #[.int .i64 b.ty, .int .i64 b.n, .string b.s], .agg #[.int .i64 a.ty, .int .i64 a.n, .string a.s]] w fun e w' => e = .returned (.int .i64 (mixI b.n a.n)) ∧ Below w.heap.size w w') := fun w => Numbers_mixed b a w (fun e => h e.symm) (by omega) ha
      have k1 : (a.ty == b.ty) = false := by rw [beq_eq_false_iff_ne]; exact h
      have k2 : (a.ty == 2) = true := by rw [beq_iff_eq]; omega
      have hr := mix_range b.n a.n
      clear e h h1 ta tb ga gb
      generalize mixI b.n a.n = m at *
      go_enter Tryz.func28, Tryz.ntmps28
      go_wp2_with fail
      refine (M.out _).mono ?_
      rintro e w1 ⟨rfl, hb1⟩
      go_wp2_with fail
      go_ret
      exact ⟨rfl, (B0.out _ _).trans (hb1.mono (B0.out _ _).size)⟩

set_option maxHeartbeats 4000000 in
set_option maxRecDepth 1000000 in
theorem refOrder_any (a b : Va) (w : World) (ha : fit a.n) (hb : fit b.n) :
    Calls Tryz.prog 20 #[.agg #[.int .i64 a.ty, .int .i64 a.n, .string a.s], .agg #[.int .i64 b.ty, .int .i64 b.n, .string b.s]] w fun e w' => e = .returned (.int .i64 (ordV a b)) ∧ Below w.heap.size w w' := by
  have CA : Hid (∀ w, Calls Tryz.prog 26 #[.agg #[.int .i64 a.ty, .int .i64 a.n, .string a.s]] w fun e w' => e = .returned (.int .i64 (grp a.ty)) ∧ Below w.heap.size w w') := fun w => class_any a w
  have CB : Hid (∀ w, Calls Tryz.prog 26 #[.agg #[.int .i64 b.ty, .int .i64 b.n, .string b.s]] w fun e w' => e = .returned (.int .i64 (grp b.ty)) ∧ Below w.heap.size w w') := fun w => class_any b w
  have I : Hid (∀ x y w, Calls Tryz.prog 27 #[.int .i64 x, .int .i64 y] w fun e w' => e = .returned (.int .i64 (cmpI x y)) ∧ w' = w) := ints_any
  have T : Hid (∀ x y w, Calls Tryz.prog 29 #[.string x, .string y] w fun e w' => e = .returned (.int .i64 (cmpB x y)) ∧ w' = w) := texts_any
  have B0 : Hid (∀ o o', Below w.heap.size w ((w.alloc o).alloc o')) := fun o o' => ((Below.refl _ w).alloc (Nat.le_refl _) o).alloc (by simp) o'
  have F0 : Hid _ := Ft.new w a b
  by_cases hg : grp a.ty = grp b.ty
  · unfold ordV
    rw [if_pos hg]
    have NU : Hid (grp a.ty = 1 → ∀ w, Calls Tryz.prog 28 #[.agg #[.int .i64 a.ty, .int .i64 a.n, .string a.s], .agg #[.int .i64 b.ty, .int .i64 b.n, .string b.s]] w fun e w' => e = .returned (.int .i64 (numC a b)) ∧ Below w.heap.size w w') := fun h w => Numbers_any a b w ha hb h (hg ▸ h)
    rw [← hg] at CB
    have hv := grp_vals a.ty
    clear hg ha hb
    generalize grp a.ty = G at *
    rcases hv with rfl | rfl | rfl | rfl | rfl
    · rw [if_pos rfl]
      go_enter Tryz.func20, Tryz.ntmps20
      go_wp2_with fail
      refine (CA.out _).mono ?_
      rintro e w1 ⟨rfl, hb1⟩
      have F1 := F0.out.below hb1
      have B1 := (B0.out _ _).trans (hb1.mono (B0.out _ _).size)
      clear hb1 F0 B0
      obtain ⟨l1, a0, a1, a2, b0, b1, b2⟩ := id F1
      go_wp2_with fail
      refine (CB.out _).mono ?_
      rintro e w2 ⟨rfl, hb2⟩
      have F2 := F1.below hb2
      have B2 := B1.trans (hb2.mono B1.size)
      clear hb2 F1 B1 l1 a0 a1 a2 b0 b1 b2
      obtain ⟨l1, a0, a1, a2, b0, b1, b2⟩ := id F2
      go_wp2_with fail
      go_ret
      exact ⟨rfl, B2⟩
    · rw [if_neg (by omega), if_pos rfl]
      have N2 : Hid (∀ w, Calls Tryz.prog 28 #[.agg #[.int .i64 a.ty, .int .i64 a.n, .string a.s], .agg #[.int .i64 b.ty, .int .i64 b.n, .string b.s]] w fun e w' => e = .returned (.int .i64 (numC a b)) ∧ Below w.heap.size w w') := NU.out rfl
      clear NU
      by_cases hn : numC a b = 0
      · have e : firstI [numC a b, cmpI a.ty b.ty] = cmpI a.ty b.ty := by
          rw [firstI, if_pos hn, firstI]
          split
          · rename_i h; rw [h]; rfl
          · rfl
        rw [e]
        rw [hn] at N2
        clear hn e
        go_enter Tryz.func20, Tryz.ntmps20
        go_wp2_with fail
        refine (CA.out _).mono ?_
        rintro e w1 ⟨rfl, hb1⟩
        have F1 := F0.out.below hb1
        have B1 := (B0.out _ _).trans (hb1.mono (B0.out _ _).size)
        clear hb1 F0 B0
        obtain ⟨l1, a0, a1, a2, b0, b1, b2⟩ := id F1
        go_wp2_with fail
        refine (CB.out _).mono ?_
        rintro e w2 ⟨rfl, hb2⟩
        have F2 := F1.below hb2
        have B2 := B1.trans (hb2.mono B1.size)
        clear hb2 F1 B1 l1 a0 a1 a2 b0 b1 b2
        obtain ⟨l1, a0, a1, a2, b0, b1, b2⟩ := id F2
        go_wp2_with fail
        refine (N2.out _).mono ?_
        rintro e w3 ⟨rfl, hb3⟩
        have F3 := F2.below hb3
        have B3 := B2.trans (hb3.mono B2.size)
        clear hb3 F2 B2 l1 a0 a1 a2 b0 b1 b2
        obtain ⟨l1, a0, a1, a2, b0, b1, b2⟩ := id F3
        go_wp2_with fail
        refine (I.out _ _ _).mono ?_
        rintro e w4 ⟨rfl, rfl⟩
        go_wp2_with fail
        go_ret
        exact ⟨rfl, B3⟩
      · have e : firstI [numC a b, cmpI a.ty b.ty] = numC a b := by rw [firstI, if_neg hn]
        rw [e]
        have hne : (numC a b != 0) = true := by rw [bne_iff_ne]; exact hn
        clear hn e
        go_enter Tryz.func20, Tryz.ntmps20
        go_wp2_with fail
        refine (CA.out _).mono ?_
        rintro e w1 ⟨rfl, hb1⟩
        have F1 := F0.out.below hb1
        have B1 := (B0.out _ _).trans (hb1.mono (B0.out _ _).size)
        clear hb1 F0 B0
        obtain ⟨l1, a0, a1, a2, b0, b1, b2⟩ := id F1
        go_wp2_with fail
        refine (CB.out _).mono ?_
        rintro e w2 ⟨rfl, hb2⟩
        have F2 := F1.below hb2
        have B2 := B1.trans (hb2.mono B1.size)
        clear hb2 F1 B1 l1 a0 a1 a2 b0 b1 b2
        obtain ⟨l1, a0, a1, a2, b0, b1, b2⟩ := id F2
        go_wp2_with fail
        refine (N2.out _).mono ?_
        rintro e w3 ⟨rfl, hb3⟩
        have B3 := B2.trans (hb3.mono B2.size)
        clear hb3 F2 B2 l1 a0 a1 a2 b0 b1 b2
        go_wp2_with fail
        go_ret
        exact ⟨rfl, B3⟩
    · rw [if_neg (by omega), if_neg (by omega), if_pos rfl]
      go_enter Tryz.func20, Tryz.ntmps20
      go_wp2_with fail
      refine (CA.out _).mono ?_
      rintro e w1 ⟨rfl, hb1⟩
      have F1 := F0.out.below hb1
      have B1 := (B0.out _ _).trans (hb1.mono (B0.out _ _).size)
      clear hb1 F0 B0
      obtain ⟨l1, a0, a1, a2, b0, b1, b2⟩ := id F1
      go_wp2_with fail
      refine (CB.out _).mono ?_
      rintro e w2 ⟨rfl, hb2⟩
      have F2 := F1.below hb2
      have B2 := B1.trans (hb2.mono B1.size)
      clear hb2 F1 B1 l1 a0 a1 a2 b0 b1 b2
      obtain ⟨l1, a0, a1, a2, b0, b1, b2⟩ := id F2
      go_wp2_with fail
      refine (T.out _ _ _).mono ?_
      rintro e w3 ⟨rfl, rfl⟩
      go_wp2_with fail
      go_ret
      exact ⟨rfl, B2⟩
    · rw [if_neg (by omega), if_neg (by omega), if_neg (by omega), if_pos rfl]
      go_enter Tryz.func20, Tryz.ntmps20
      go_wp2_with fail
      refine (CA.out _).mono ?_
      rintro e w1 ⟨rfl, hb1⟩
      have F1 := F0.out.below hb1
      have B1 := (B0.out _ _).trans (hb1.mono (B0.out _ _).size)
      clear hb1 F0 B0
      obtain ⟨l1, a0, a1, a2, b0, b1, b2⟩ := id F1
      go_wp2_with fail
      refine (CB.out _).mono ?_
      rintro e w2 ⟨rfl, hb2⟩
      have F2 := F1.below hb2
      have B2 := B1.trans (hb2.mono B1.size)
      clear hb2 F1 B1 l1 a0 a1 a2 b0 b1 b2
      obtain ⟨l1, a0, a1, a2, b0, b1, b2⟩ := id F2
      go_wp2_with fail
      refine (I.out _ _ _).mono ?_
      rintro e w3 ⟨rfl, rfl⟩
      go_wp2_with fail
      go_ret
      exact ⟨rfl, B2⟩
    · rw [if_neg (by omega), if_neg (by omega), if_neg (by omega), if_neg (by omega)]
      by_cases h1 : a.ty = b.ty
      · by_cases h2 : a.n = b.n
        · have e : firstI [cmpI a.ty b.ty, cmpI a.n b.n, cmpB a.s b.s] = cmpB a.s b.s := by
            rw [firstI, if_pos (cmpI_eq h1), firstI, if_pos (cmpI_eq h2), firstI]
            split
            · rename_i h; rw [h]; rfl
            · rfl
          rw [e]
          have k1 : (a.ty != b.ty) = false := by simp [h1]
          have k2 : (a.n != b.n) = false := by simp [h2]
          clear h1 h2 e
          go_enter Tryz.func20, Tryz.ntmps20
          go_wp2_with fail
          refine (CA.out _).mono ?_
          rintro e w1 ⟨rfl, hb1⟩
          have F1 := F0.out.below hb1
          have B1 := (B0.out _ _).trans (hb1.mono (B0.out _ _).size)
          clear hb1 F0 B0
          obtain ⟨l1, a0, a1, a2, b0, b1, b2⟩ := id F1
          go_wp2_with fail
          refine (CB.out _).mono ?_
          rintro e w2 ⟨rfl, hb2⟩
          have F2 := F1.below hb2
          have B2 := B1.trans (hb2.mono B1.size)
          clear hb2 F1 B1 l1 a0 a1 a2 b0 b1 b2
          obtain ⟨l1, a0, a1, a2, b0, b1, b2⟩ := id F2
          go_wp2_with fail
          refine (T.out _ _ _).mono ?_
          rintro e w3 ⟨rfl, rfl⟩
          go_wp2_with fail
          go_ret
          exact ⟨rfl, B2⟩
        · have k3 := cmpI_ne h2
          rw [bne_iff_ne] at k3
          have e : firstI [cmpI a.ty b.ty, cmpI a.n b.n, cmpB a.s b.s] = cmpI a.n b.n := by
            rw [firstI, if_pos (cmpI_eq h1), firstI, if_neg k3]
          rw [e]
          have k1 : (a.ty != b.ty) = false := by simp [h1]
          have k2 : (a.n != b.n) = true := by rw [bne_iff_ne]; exact h2
          clear h1 h2 e k3
          go_enter Tryz.func20, Tryz.ntmps20
          go_wp2_with fail
          refine (CA.out _).mono ?_
          rintro e w1 ⟨rfl, hb1⟩
          have F1 := F0.out.below hb1
          have B1 := (B0.out _ _).trans (hb1.mono (B0.out _ _).size)
          clear hb1 F0 B0
          obtain ⟨l1, a0, a1, a2, b0, b1, b2⟩ := id F1
          go_wp2_with fail
          refine (CB.out _).mono ?_
          rintro e w2 ⟨rfl, hb2⟩
          have F2 := F1.below hb2
          have B2 := B1.trans (hb2.mono B1.size)
          clear hb2 F1 B1 l1 a0 a1 a2 b0 b1 b2
          obtain ⟨l1, a0, a1, a2, b0, b1, b2⟩ := id F2
          go_wp2_with fail
          refine (I.out _ _ _).mono ?_
          rintro e w3 ⟨rfl, rfl⟩
          go_wp2_with fail
          go_ret
          exact ⟨rfl, B2⟩
      · have k3 := cmpI_ne h1
        rw [bne_iff_ne] at k3
        have e : firstI [cmpI a.ty b.ty, cmpI a.n b.n, cmpB a.s b.s] = cmpI a.ty b.ty := by rw [firstI, if_neg k3]
        rw [e]
        have k1 : (a.ty != b.ty) = true := by rw [bne_iff_ne]; exact h1
        clear h1 e k3
        go_enter Tryz.func20, Tryz.ntmps20
        go_wp2_with fail
        refine (CA.out _).mono ?_
        rintro e w1 ⟨rfl, hb1⟩
        have F1 := F0.out.below hb1
        have B1 := (B0.out _ _).trans (hb1.mono (B0.out _ _).size)
        clear hb1 F0 B0
        obtain ⟨l1, a0, a1, a2, b0, b1, b2⟩ := id F1
        go_wp2_with fail
        refine (CB.out _).mono ?_
        rintro e w2 ⟨rfl, hb2⟩
        have F2 := F1.below hb2
        have B2 := B1.trans (hb2.mono B1.size)
        clear hb2 F1 B1 l1 a0 a1 a2 b0 b1 b2
        obtain ⟨l1, a0, a1, a2, b0, b1, b2⟩ := id F2
        go_wp2_with fail
        refine (I.out _ _ _).mono ?_
        rintro e w3 ⟨rfl, rfl⟩
        go_wp2_with fail
        go_ret
        exact ⟨rfl, B2⟩
  · have e : ordV a b = cmpI (grp a.ty) (grp b.ty) := by unfold ordV; rw [if_neg hg]
    rw [e]
    have hne : (grp a.ty != grp b.ty) = true := by rw [bne_iff_ne]; exact hg
    clear hg e
    go_enter Tryz.func20, Tryz.ntmps20
    go_wp2_with fail
    refine (CA.out _).mono ?_
    rintro e w1 ⟨rfl, hb1⟩
    have F1 := F0.out.below hb1
    have B1 := (B0.out _ _).trans (hb1.mono (B0.out _ _).size)
    clear hb1 F0 B0
    obtain ⟨l1, a0, a1, a2, b0, b1, b2⟩ := id F1
    go_wp2_with fail
    refine (CB.out _).mono ?_
    rintro e w2 ⟨rfl, hb2⟩
    have F2 := F1.below hb2
    have B2 := B1.trans (hb2.mono B1.size)
    clear hb2 F1 B1 l1 a0 a1 a2 b0 b1 b2
    obtain ⟨l1, a0, a1, a2, b0, b1, b2⟩ := id F2
    go_wp2_with fail
    refine (CB.out _).mono ?_
    rintro e w3 ⟨rfl, hb3⟩
    have B3 := B2.trans (hb3.mono B2.size)
    clear hb3 F2 B2 l1 a0 a1 a2 b0 b1 b2
    go_wp2_with fail
    refine (I.out _ _ _).mono ?_
    rintro e w4 ⟨rfl, rfl⟩
    go_wp2_with fail
    go_ret
    exact ⟨rfl, B3⟩
end Go.Proofs.YtokppkinhlcafaaGreatDoor
