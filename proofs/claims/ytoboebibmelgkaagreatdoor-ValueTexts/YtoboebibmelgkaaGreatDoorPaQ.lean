/-
  The walk of the law ValueCasts.
-/
import Derived.Test.YtoboebibmelgkaaGreatDoorPaO
import Derived.Deep.RegionHeld3
namespace Go.Proofs.YtoboebibmelgkaaGreatDoor
open Go.RowKit Go.Shelf

structure Bx (w : World) (g : Nat) (v : Va) : Prop where
  lt : g < w.heap.size
  c0 : w.cell? ⟨g, 0, none⟩ = some (.int .i64 v.ty)
  c1 : w.cell? ⟨g, 1, none⟩ = some (.int .i64 v.n)
  c2 : w.cell? ⟨g, 2, none⟩ = some (.string v.s)
theorem Bx.below {w w' : World} {g : Nat} {v : Va} (h : Bx w g v) (hb : Below w.heap.size w w') : Bx w' g v :=
  ⟨Nat.lt_of_lt_of_le h.lt hb.size, (hb.cell (p := ⟨g, 0, none⟩) h.lt).trans h.c0, (hb.cell (p := ⟨g, 1, none⟩) h.lt).trans h.c1, (hb.cell (p := ⟨g, 2, none⟩) h.lt).trans h.c2⟩
theorem Bx.new (w : World) (v : Va) : Bx (w.alloc (.cells #[.int .i64 v.ty, .int .i64 v.n, .string v.s] 23)) w.heap.size v := by
  constructor
  all_goals go_simp
theorem Bx.alloc {w : World} {g : Nat} {v : Va} (h : Bx w g v) (o : Obj) : Bx (w.alloc o) g v := h.below ((Below.refl _ w).alloc (Nat.le_refl _) o)
/-- two values that lie there still -/
def tw (w : World) (A B : Nat) (a b : Va) (w' : World) : Prop := Below w.heap.size w w' ∧ w'.cell? ⟨A, 0, none⟩ = some (.int .i64 a.ty) ∧ w'.cell? ⟨A, 1, none⟩ = some (.int .i64 a.n) ∧ w'.cell? ⟨A, 2, none⟩ = some (.string a.s) ∧ w'.cell? ⟨B, 0, none⟩ = some (.int .i64 b.ty) ∧ w'.cell? ⟨B, 1, none⟩ = some (.int .i64 b.n) ∧ w'.cell? ⟨B, 2, none⟩ = some (.string b.s)
theorem tw.next {w w1 w2 : World} {A B : Nat} {a b : Va} (h : tw w A B a b w1) (hb : Below w1.heap.size w1 w2) : tw w A B a b w2 := by
  obtain ⟨h0, a0, a1, a2, b0, b1, b2⟩ := h
  have lA := World.block_lt_of_cell? w1 _ a0
  have lB := World.block_lt_of_cell? w1 _ b0
  exact ⟨h0.trans (hb.mono h0.size), (hb.cell (p := ⟨A, 0, none⟩) lA).trans a0, (hb.cell (p := ⟨A, 1, none⟩) lA).trans a1, (hb.cell (p := ⟨A, 2, none⟩) lA).trans a2, (hb.cell (p := ⟨B, 0, none⟩) lB).trans b0, (hb.cell (p := ⟨B, 1, none⟩) lB).trans b1, (hb.cell (p := ⟨B, 2, none⟩) lB).trans b2⟩
theorem tw.drew {w w1 : World} {A B : Nat} {a b : Va} (h : tw w A B a b w1) : tw w A B a b w1.drew := h.next (below_drewN (Below.refl _ w1) 1)
theorem cst_up {n : Int} (h : fit (n * 10000)) (s : ByteArray) : cst 1 n s 2 = (⟨2, n * 10000, ⟨#[]⟩⟩, 0) := by
  have hc : chk 1 n s = 0 := by unfold chk; rw [if_neg (by omega), if_neg (by omega)]
  unfold cst
  rw [if_neg (by decide), if_pos hc, if_neg (by decide), if_neg (by decide), if_neg (by decide), if_neg (by decide)]
  unfold cN
  rw [if_neg (by decide), if_pos (by decide), ovV_in h]
  have : ovE (n * 10000) = 0 := if_pos h
  rw [this, if_pos rfl]
theorem cst_over {n : Int} (h : ¬ fit (n * 10000)) (s : ByteArray) : cst 1 n s 2 = (⟨0, 0, ⟨#[]⟩⟩, 10) := by
  have hc : chk 1 n s = 0 := by unfold chk; rw [if_neg (by omega), if_neg (by omega)]
  unfold cst
  rw [if_neg (by decide), if_pos hc, if_neg (by decide), if_neg (by decide), if_neg (by decide), if_neg (by decide)]
  unfold cN
  rw [if_neg (by decide), if_pos (by decide)]
  have : ovE (n * 10000) = 10 := if_neg h
  rw [this, if_neg (by decide)]
theorem cst_down (n : Int) (s : ByteArray) : cst 2 (n * 10000) s 1 = (⟨1, n, ⟨#[]⟩⟩, 0) := by
  have hc : chk 2 (n * 10000) s = 0 := by unfold chk; rw [if_neg (by omega), if_neg (by omega)]
  unfold cst
  rw [if_neg (by decide), if_pos hc, if_neg (by decide), if_neg (by decide), if_neg (by decide), if_neg (by decide)]
  unfold cN
  rw [if_pos (by decide), Int.mul_tdiv_cancel _ (by decide)]

set_option maxHeartbeats 8000000 in
set_option maxRecDepth 1000000 in
theorem ValueCasts_any (a : Va) (tu : Int) (w : World) (fa : fit a.n) (sa : a.s.size ≤ 9223372036854775807) (hT : Tabs w) (hP : Pow w) (hM : Mx w) (hR : Rg w) :
    Calls Tryz.prog 3 #[.agg #[.int .i64 a.ty, .int .i64 a.n, .string a.s], .int .i64 tu] w fun e w' => e = .returned (.bool true) ∧ Below w.heap.size w w' := by
  have LV : Hid (∀ w', Below w.heap.size w w' → Calls Tryz.prog 8 #[] w' fun e w'' => e = .returned (.bool true) ∧ Below w'.heap.size w' w'') := fun w' h => lives_any w' (hT.below h) (hP.below h)
  have ON : Hid (∀ w', Below w.heap.size w w' → Calls Tryz.prog 7 #[.int .i64 a.n] w' fun e w'' => e = .returned (.agg #[.int .i64 1, .int .i64 a.n, .string ⟨#[]⟩]) ∧ Below w'.heap.size w' w'') := fun w' _ => one_any a.n w'
  obtain ⟨c1, hc1⟩ : ∃ c1, c1 = cst a.ty a.n a.s tu := ⟨_, rfl⟩
  obtain ⟨c3, hc3⟩ : ∃ c3, c3 = cst 1 a.n ⟨#[]⟩ 2 := ⟨_, rfl⟩
  have C1 : Hid (∀ w', Below w.heap.size w w' → Calls Tryz.prog 5 #[.agg #[.int .i64 a.ty, .int .i64 a.n, .string a.s], .int .i64 tu] w' fun e w'' => e = .returned (av c1) ∧ Below w'.heap.size w' w'') := fun w' h => hc1 ▸ Cast_any a.ty a.n a.s tu w' fa sa (hM.below h) (hR.below h) (hT.below h) (hP.below h)
  have C2 : Hid (∀ w', Below w.heap.size w w' → Calls Tryz.prog 6 #[.agg #[.int .i64 a.ty, .int .i64 a.n, .string a.s], .int .i64 tu] w' fun e w'' => e = .returned (av c1) ∧ Below w'.heap.size w' w'') := fun w' h => hc1 ▸ refCast_any a.ty a.n a.s tu w' fa sa (hM.below h) (hT.below h) (hP.below h)
  have C3 : Hid (∀ w', Below w.heap.size w w' → Calls Tryz.prog 5 #[.agg #[.int .i64 1, .int .i64 a.n, .string ⟨#[]⟩], .int .i64 2] w' fun e w'' => e = .returned (av c3) ∧ Below w'.heap.size w' w'') := fun w' h => hc3 ▸ Cast_any 1 a.n ⟨#[]⟩ 2 w' fa (by decide) (hM.below h) (hR.below h) (hT.below h) (hP.below h)
  have C4 : Hid (fit (a.n * 10000) → ∀ w', Below w.heap.size w w' → Calls Tryz.prog 5 #[.agg #[.int .i64 2, .int .i64 (a.n * 10000), .string ⟨#[]⟩], .int .i64 1] w' fun e w'' => e = .returned (av (⟨1, a.n, ⟨#[]⟩⟩, 0)) ∧ Below w'.heap.size w' w'') := fun hf w' h => cst_down a.n ⟨#[]⟩ ▸ Cast_any 2 (a.n * 10000) ⟨#[]⟩ 1 w' hf (by decide) (hM.below h) (hR.below h) (hT.below h) (hP.below h)
  clear hc1 fa sa hT hP hM hR
  obtain ⟨⟨ct, cn, cs⟩, ce⟩ := c1
  unfold av at C1 C2 C3 C4
  simp only at C1 C2
  have A0 : Bx (w.alloc (.cells #[.int .i64 a.ty, .int .i64 a.n, .string a.s] 23)) w.heap.size a := Bx.new w a
  have B0 : Below w.heap.size w (w.alloc (.cells #[.int .i64 a.ty, .int .i64 a.n, .string a.s] 23)) := (Below.refl _ w).alloc (Nat.le_refl _) _
  by_cases hf : fit (a.n * 10000)
  · rw [cst_up hf] at hc3
    subst hc3
    have C4 : Hid (∀ w', _) := C4.out hf
    simp only at C3 C4
    clear hf
    go_enter Tryz.func3, Tryz.ntmps3
    go_wp2_with fail
    generalize w.alloc (.cells #[.int .i64 a.ty, .int .i64 a.n, .string a.s] 23) = w0 at *
    refine (C1.out _ B0).mono ?_
    rintro e x1 ⟨rfl, hb1⟩
    have A1 := (A0.below hb1).alloc (.cells #[.int .i64 ct, .int .i64 cn, .string cs] 23)
    have S1 := Bx.new x1 ⟨ct, cn, cs⟩
    have B1 := (B0.trans (hb1.mono B0.size)).alloc (B0.trans (hb1.mono B0.size)).size (.cells #[.int .i64 ct, .int .i64 cn, .string cs] 23)
    clear hb1 B0 A0
    obtain ⟨_, A_0, A_1, A_2⟩ := id A1
    obtain ⟨_, S_0, S_1, S_2⟩ := id S1
    go_wp2_with fail
    generalize x1.alloc (.cells #[.int .i64 ct, .int .i64 cn, .string cs] 23) = w1 at *
    clear A_0 A_1 A_2 S_0 S_1 S_2
    refine (C2.out _ B1).mono ?_
    rintro e x2 ⟨rfl, hb2⟩
    have A2 := (A1.below hb2).alloc (.cells #[.int .i64 ct, .int .i64 cn, .string cs] 23)
    have S2 := (S1.below hb2).alloc (.cells #[.int .i64 ct, .int .i64 cn, .string cs] 23)
    have T2 := Bx.new x2 ⟨ct, cn, cs⟩
    have B2 := (B1.trans (hb2.mono B1.size)).alloc (B1.trans (hb2.mono B1.size)).size (.cells #[.int .i64 ct, .int .i64 cn, .string cs] 23)
    clear hb2 B1 A1 S1
    obtain ⟨_, A_0, A_1, A_2⟩ := id A2
    obtain ⟨_, S_0, S_1, S_2⟩ := id S2
    obtain ⟨_, T_0, T_1, T_2⟩ := id T2
    go_wp2_with fail
    generalize x2.alloc (.cells #[.int .i64 ct, .int .i64 cn, .string cs] 23) = w2 at *
    clear A_0 A_1 A_2 S_0 S_1 S_2 T_0 T_1 T_2
    refine (ON.out _ B2).mono ?_
    rintro e x3 ⟨rfl, hb3⟩
    have A3 := (A2.below hb3)
    have S3 := (S2.below hb3)
    have T3 := (T2.below hb3)
    have B3 := B2.trans (hb3.mono B2.size)
    clear hb3 B2 A2 S2 T2
    obtain ⟨_, A_0, A_1, A_2⟩ := id A3
    obtain ⟨_, S_0, S_1, S_2⟩ := id S3
    obtain ⟨_, T_0, T_1, T_2⟩ := id T3
    go_wp2_with fail
    clear A_0 A_1 A_2 S_0 S_1 S_2 T_0 T_1 T_2
    refine (C3.out _ B3).mono ?_
    rintro e x4 ⟨rfl, hb4⟩
    have A4 := (A3.below hb4).alloc (.cells #[.int .i64 2, .int .i64 (a.n * 10000), .string ⟨#[]⟩] 23)
    have S4 := (S3.below hb4).alloc (.cells #[.int .i64 2, .int .i64 (a.n * 10000), .string ⟨#[]⟩] 23)
    have T4 := (T3.below hb4).alloc (.cells #[.int .i64 2, .int .i64 (a.n * 10000), .string ⟨#[]⟩] 23)
    have D4 := Bx.new x4 ⟨2, (a.n * 10000), ⟨#[]⟩⟩
    have B4 := (B3.trans (hb4.mono B3.size)).alloc (B3.trans (hb4.mono B3.size)).size (.cells #[.int .i64 2, .int .i64 (a.n * 10000), .string ⟨#[]⟩] 23)
    clear hb4 B3 A3 S3 T3
    obtain ⟨_, A_0, A_1, A_2⟩ := id A4
    obtain ⟨_, S_0, S_1, S_2⟩ := id S4
    obtain ⟨_, T_0, T_1, T_2⟩ := id T4
    obtain ⟨_, D_0, D_1, D_2⟩ := id D4
    go_wp2_with fail
    generalize x4.alloc (.cells #[.int .i64 2, .int .i64 (a.n * 10000), .string ⟨#[]⟩] 23) = w4 at *
    clear A_0 A_1 A_2 S_0 S_1 S_2 T_0 T_1 T_2 D_0 D_1 D_2
    refine (C4.out _ B4).mono ?_
    rintro e x5 ⟨rfl, hb5⟩
    have A5 := (A4.below hb5).alloc (.cells #[.int .i64 1, .int .i64 a.n, .string ⟨#[]⟩] 23)
    have S5 := (S4.below hb5).alloc (.cells #[.int .i64 1, .int .i64 a.n, .string ⟨#[]⟩] 23)
    have T5 := (T4.below hb5).alloc (.cells #[.int .i64 1, .int .i64 a.n, .string ⟨#[]⟩] 23)
    have D5 := (D4.below hb5).alloc (.cells #[.int .i64 1, .int .i64 a.n, .string ⟨#[]⟩] 23)
    have E5 := Bx.new x5 ⟨1, a.n, ⟨#[]⟩⟩
    have B5 := (B4.trans (hb5.mono B4.size)).alloc (B4.trans (hb5.mono B4.size)).size (.cells #[.int .i64 1, .int .i64 a.n, .string ⟨#[]⟩] 23)
    clear hb5 B4 A4 S4 T4 D4
    obtain ⟨_, A_0, A_1, A_2⟩ := id A5
    obtain ⟨_, S_0, S_1, S_2⟩ := id S5
    obtain ⟨_, T_0, T_1, T_2⟩ := id T5
    obtain ⟨_, D_0, D_1, D_2⟩ := id D5
    obtain ⟨_, E_0, E_1, E_2⟩ := id E5
    go_wp2_with fail
    generalize x5.alloc (.cells #[.int .i64 1, .int .i64 a.n, .string ⟨#[]⟩] 23) = w5 at *
    clear A_0 A_1 A_2 S_0 S_1 S_2 T_0 T_1 T_2 D_0 D_1 D_2 E_0 E_1 E_2
    have T0 : tw w w.heap.size x5.heap.size a ⟨1, a.n, ⟨#[]⟩⟩ w5 := ⟨B5, A5.c0, A5.c1, A5.c2, E5.c0, E5.c1, E5.c2⟩
    clear A5 S5 T5 D5 E5 B5 C1 C2 C3 C4
    go_region_held3 (fun w' => Below w.heap.size w w' ∧ w'.cell? ⟨w.heap.size, 0, none⟩ = some (.int .i64 a.ty) ∧ w'.cell? ⟨w.heap.size, 1, none⟩ = some (.int .i64 a.n) ∧ w'.cell? ⟨w.heap.size, 2, none⟩ = some (.string a.s) ∧ w'.cell? ⟨x5.heap.size, 0, none⟩ = some (.int .i64 1) ∧ w'.cell? ⟨x5.heap.size, 1, none⟩ = some (.int .i64 a.n) ∧ w'.cell? ⟨x5.heap.size, 2, none⟩ = some (.string ⟨#[]⟩)) (first | exact tw.drew T0 | exact tw.next (w := w) (A := w.heap.size) (B := x5.heap.size) (a := a) (b := ⟨1, a.n, ⟨#[]⟩⟩) (by assumption) hb9) ((first | (go_at_call 7; refine (ON.out _ (And.left (by assumption))).mono ?_; rintro e w9 ⟨rfl, hb9⟩) | (go_at_call 8; refine (LV.out _ (And.left (by assumption))).mono ?_; rintro e w9 ⟨rfl, hb9⟩) | fail))
    have T1 : tw w w.heap.size x5.heap.size a ⟨1, a.n, ⟨#[]⟩⟩ w9 := by assumption
    go_wp2_with fail
    go_ret
    exact ⟨rfl, T1.1⟩
  · rw [cst_over hf] at hc3
    subst hc3
    clear C4 hf
    simp only at C3
    go_enter Tryz.func3, Tryz.ntmps3
    go_wp2_with fail
    generalize w.alloc (.cells #[.int .i64 a.ty, .int .i64 a.n, .string a.s] 23) = w0 at *
    refine (C1.out _ B0).mono ?_
    rintro e x1 ⟨rfl, hb1⟩
    have A1 := (A0.below hb1).alloc (.cells #[.int .i64 ct, .int .i64 cn, .string cs] 23)
    have S1 := Bx.new x1 ⟨ct, cn, cs⟩
    have B1 := (B0.trans (hb1.mono B0.size)).alloc (B0.trans (hb1.mono B0.size)).size (.cells #[.int .i64 ct, .int .i64 cn, .string cs] 23)
    clear hb1 B0 A0
    obtain ⟨_, A_0, A_1, A_2⟩ := id A1
    obtain ⟨_, S_0, S_1, S_2⟩ := id S1
    go_wp2_with fail
    generalize x1.alloc (.cells #[.int .i64 ct, .int .i64 cn, .string cs] 23) = w1 at *
    clear A_0 A_1 A_2 S_0 S_1 S_2
    refine (C2.out _ B1).mono ?_
    rintro e x2 ⟨rfl, hb2⟩
    have A2 := (A1.below hb2).alloc (.cells #[.int .i64 ct, .int .i64 cn, .string cs] 23)
    have S2 := (S1.below hb2).alloc (.cells #[.int .i64 ct, .int .i64 cn, .string cs] 23)
    have T2 := Bx.new x2 ⟨ct, cn, cs⟩
    have B2 := (B1.trans (hb2.mono B1.size)).alloc (B1.trans (hb2.mono B1.size)).size (.cells #[.int .i64 ct, .int .i64 cn, .string cs] 23)
    clear hb2 B1 A1 S1
    obtain ⟨_, A_0, A_1, A_2⟩ := id A2
    obtain ⟨_, S_0, S_1, S_2⟩ := id S2
    obtain ⟨_, T_0, T_1, T_2⟩ := id T2
    go_wp2_with fail
    generalize x2.alloc (.cells #[.int .i64 ct, .int .i64 cn, .string cs] 23) = w2 at *
    clear A_0 A_1 A_2 S_0 S_1 S_2 T_0 T_1 T_2
    refine (ON.out _ B2).mono ?_
    rintro e x3 ⟨rfl, hb3⟩
    have A3 := (A2.below hb3)
    have S3 := (S2.below hb3)
    have T3 := (T2.below hb3)
    have B3 := B2.trans (hb3.mono B2.size)
    clear hb3 B2 A2 S2 T2
    obtain ⟨_, A_0, A_1, A_2⟩ := id A3
    obtain ⟨_, S_0, S_1, S_2⟩ := id S3
    obtain ⟨_, T_0, T_1, T_2⟩ := id T3
    go_wp2_with fail
    clear A_0 A_1 A_2 S_0 S_1 S_2 T_0 T_1 T_2
    refine (C3.out _ B3).mono ?_
    rintro e x4 ⟨rfl, hb4⟩
    have A4 := (A3.below hb4).alloc (.cells #[.int .i64 0, .int .i64 0, .string ⟨#[]⟩] 23)
    have S4 := (S3.below hb4).alloc (.cells #[.int .i64 0, .int .i64 0, .string ⟨#[]⟩] 23)
    have T4 := (T3.below hb4).alloc (.cells #[.int .i64 0, .int .i64 0, .string ⟨#[]⟩] 23)
    have D4 := Bx.new x4 ⟨0, 0, ⟨#[]⟩⟩
    have B4 := (B3.trans (hb4.mono B3.size)).alloc (B3.trans (hb4.mono B3.size)).size (.cells #[.int .i64 0, .int .i64 0, .string ⟨#[]⟩] 23)
    clear hb4 B3 A3 S3 T3
    obtain ⟨_, A_0, A_1, A_2⟩ := id A4
    obtain ⟨_, S_0, S_1, S_2⟩ := id S4
    obtain ⟨_, T_0, T_1, T_2⟩ := id T4
    obtain ⟨_, D_0, D_1, D_2⟩ := id D4
    go_wp2_with fail
    generalize x4.alloc (.cells #[.int .i64 0, .int .i64 0, .string ⟨#[]⟩] 23) = w4 at *
    clear A_0 A_1 A_2 S_0 S_1 S_2 T_0 T_1 T_2 D_0 D_1 D_2
    refine (LV.out _ B4).mono ?_
    rintro e z1 ⟨rfl, hz1⟩
    go_wp2_with fail
    go_ret
    exact ⟨rfl, B4.trans (hz1.mono B4.size)⟩
end Go.Proofs.YtoboebibmelgkaaGreatDoor
