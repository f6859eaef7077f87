/-
  The walk of the law ValueReckons.
-/
import Derived.Test.YtppcoimfgafbfaaGreatDoorReM
import Derived.Test.YtppcoimfgafbfaaGreatDoorReN
import Derived.Test.YtppcoimfgafbfaaGreatDoorLivesB
namespace Go.Proofs.YtppcoimfgafbfaaGreatDoor
open Go.RowKit Go.Shelf

set_option maxHeartbeats 8000000 in
set_option maxRecDepth 1000000 in
theorem ValueReckons_any (op : ByteArray) (a b : Va) (w : World) (_ : op.size ≤ 9223372036854775807) (sa : a.s.size ≤ 9223372036854775807) (sb : b.s.size ≤ 9223372036854775807) (fa : fit a.n) (fb : fit b.n) (hT : Tabs w) (hP : Pow w) :
    Calls Tryz.prog 3 #[.string op, .agg #[.int .i64 a.ty, .int .i64 a.n, .string a.s], .agg #[.int .i64 b.ty, .int .i64 b.n, .string b.s]] w fun e w' => e = .returned (.bool true) ∧ Below w.heap.size w w' := by
  have LV : Hid (∀ w', Below w.heap.size w w' → Calls Tryz.prog 8 #[] w' fun e w'' => e = .returned (.bool true) ∧ Below w'.heap.size w' w'') := fun w' h => lives_any w' (hT.below h) (hP.below h)
  obtain ⟨c1, hc1⟩ : ∃ c1, c1 = rkO op a b := ⟨_, rfl⟩
  obtain ⟨c2, hc2⟩ : ∃ c2, c2 = ng a := ⟨_, rfl⟩
  have C1 : Hid (∀ w', Below w.heap.size w w' → Calls Tryz.prog 4 #[.string op, .agg #[.int .i64 a.ty, .int .i64 a.n, .string a.s], .agg #[.int .i64 b.ty, .int .i64 b.n, .string b.s]] w' fun e w'' => e = .returned (ans c1) ∧ Below w'.heap.size w' w'') := fun w' h => hc1 ▸ Reckon_all op a b w' fa fb sa sb (hT.below h)
  have C2 : Hid (∀ w', Below w.heap.size w w' → Calls Tryz.prog 5 #[.string op, .agg #[.int .i64 a.ty, .int .i64 a.n, .string a.s], .agg #[.int .i64 b.ty, .int .i64 b.n, .string b.s]] w' fun e w'' => e = .returned (ans c1) ∧ Below w'.heap.size w' w'') := fun w' h => hc1 ▸ refReckon_all op a b w' fa fb
  have C3 : Hid (∀ w', Below w.heap.size w w' → Calls Tryz.prog 6 #[.agg #[.int .i64 a.ty, .int .i64 a.n, .string a.s]] w' fun e w'' => e = .returned (ans c2) ∧ Below w'.heap.size w' w'') := fun w' h => hc2 ▸ Neg_any a w' fa sa (hT.below h)
  have C4 : Hid (∀ w', Below w.heap.size w w' → Calls Tryz.prog 7 #[.agg #[.int .i64 a.ty, .int .i64 a.n, .string a.s]] w' fun e w'' => e = .returned (ans c2) ∧ Below w'.heap.size w' w'') := fun w' h => hc2 ▸ refNeg_any a w' fa
  clear hc1 hc2 sa sb fa fb hT hP
  obtain ⟨⟨ct, cn, cs⟩, ce⟩ := c1
  obtain ⟨⟨nt, nn, ns⟩, ne⟩ := c2
  unfold ans at C1 C2 C3 C4
  simp only at C1 C2 C3 C4
  have A0 : Bx ((w.alloc (.cells #[.int .i64 a.ty, .int .i64 a.n, .string a.s] 23)).alloc (.cells #[.int .i64 b.ty, .int .i64 b.n, .string b.s] 23)) w.heap.size a := (Bx.new w a).alloc _
  have D0 : Bx ((w.alloc (.cells #[.int .i64 a.ty, .int .i64 a.n, .string a.s] 23)).alloc (.cells #[.int .i64 b.ty, .int .i64 b.n, .string b.s] 23)) (w.heap.size + 1) b := by
    have := Bx.new (w.alloc (.cells #[.int .i64 a.ty, .int .i64 a.n, .string a.s] 23)) b
    rw [show (w.alloc (.cells #[.int .i64 a.ty, .int .i64 a.n, .string a.s] 23)).heap.size = w.heap.size + 1 by simp] at this
    exact this
  have B0 : Below w.heap.size w ((w.alloc (.cells #[.int .i64 a.ty, .int .i64 a.n, .string a.s] 23)).alloc (.cells #[.int .i64 b.ty, .int .i64 b.n, .string b.s] 23)) := ((Below.refl _ w).alloc (Nat.le_refl _) _).alloc (by simp) _
  go_enter Tryz.func3, Tryz.ntmps3
  go_wp2_with fail
  generalize (w.alloc (.cells #[.int .i64 a.ty, .int .i64 a.n, .string a.s] 23)).alloc (.cells #[.int .i64 b.ty, .int .i64 b.n, .string b.s] 23) = w0 at *
  refine (C1.out _ B0).mono ?_
  rintro e x1 ⟨rfl, hb1⟩
  have A1 := (A0.below hb1).alloc (.cells #[.int .i64 ct, .int .i64 cn, .string cs] 23)
  have D1 := (D0.below hb1).alloc (.cells #[.int .i64 ct, .int .i64 cn, .string cs] 23)
  have S1 := Bx.new x1 ⟨ct, cn, cs⟩
  have B1 := (B0.trans (hb1.mono B0.size)).alloc (B0.trans (hb1.mono B0.size)).size (.cells #[.int .i64 ct, .int .i64 cn, .string cs] 23)
  clear hb1 B0 A0 D0
  obtain ⟨_, A_0, A_1, A_2⟩ := id A1
  obtain ⟨_, D_0, D_1, D_2⟩ := id D1
  obtain ⟨_, S_0, S_1, S_2⟩ := id S1
  go_wp2_with fail
  generalize x1.alloc (.cells #[.int .i64 ct, .int .i64 cn, .string cs] 23) = w1 at *
  clear A_0 A_1 A_2 D_0 D_1 D_2 S_0 S_1 S_2
  refine (C2.out _ B1).mono ?_
  rintro e x2 ⟨rfl, hb2⟩
  have A2 := (A1.below hb2).alloc (.cells #[.int .i64 ct, .int .i64 cn, .string cs] 23)
  have D2 := (D1.below hb2).alloc (.cells #[.int .i64 ct, .int .i64 cn, .string cs] 23)
  have S2 := (S1.below hb2).alloc (.cells #[.int .i64 ct, .int .i64 cn, .string cs] 23)
  have T2 := Bx.new x2 ⟨ct, cn, cs⟩
  have B2 := (B1.trans (hb2.mono B1.size)).alloc (B1.trans (hb2.mono B1.size)).size (.cells #[.int .i64 ct, .int .i64 cn, .string cs] 23)
  clear hb2 B1 A1 D1 S1
  obtain ⟨_, A_0, A_1, A_2⟩ := id A2
  obtain ⟨_, D_0, D_1, D_2⟩ := id D2
  obtain ⟨_, S_0, S_1, S_2⟩ := id S2
  obtain ⟨_, T_0, T_1, T_2⟩ := id T2
  go_wp2_with fail
  generalize x2.alloc (.cells #[.int .i64 ct, .int .i64 cn, .string cs] 23) = w2 at *
  clear A_0 A_1 A_2 D_0 D_1 D_2 S_0 S_1 S_2 T_0 T_1 T_2
  refine (C3.out _ B2).mono ?_
  rintro e x3 ⟨rfl, hb3⟩
  have A3 := (A2.below hb3).alloc (.cells #[.int .i64 nt, .int .i64 nn, .string ns] 23)
  have D3 := (D2.below hb3).alloc (.cells #[.int .i64 nt, .int .i64 nn, .string ns] 23)
  have S3 := (S2.below hb3).alloc (.cells #[.int .i64 nt, .int .i64 nn, .string ns] 23)
  have T3 := (T2.below hb3).alloc (.cells #[.int .i64 nt, .int .i64 nn, .string ns] 23)
  have U3 := Bx.new x3 ⟨nt, nn, ns⟩
  have B3 := (B2.trans (hb3.mono B2.size)).alloc (B2.trans (hb3.mono B2.size)).size (.cells #[.int .i64 nt, .int .i64 nn, .string ns] 23)
  clear hb3 B2 A2 D2 S2 T2
  obtain ⟨_, A_0, A_1, A_2⟩ := id A3
  obtain ⟨_, D_0, D_1, D_2⟩ := id D3
  obtain ⟨_, S_0, S_1, S_2⟩ := id S3
  obtain ⟨_, T_0, T_1, T_2⟩ := id T3
  obtain ⟨_, U_0, U_1, U_2⟩ := id U3
  go_wp2_with fail
  generalize x3.alloc (.cells #[.int .i64 nt, .int .i64 nn, .string ns] 23) = w3 at *
  clear A_0 A_1 A_2 D_0 D_1 D_2 S_0 S_1 S_2 T_0 T_1 T_2 U_0 U_1 U_2
  refine (C4.out _ B3).mono ?_
  rintro e x4 ⟨rfl, hb4⟩
  have A4 := (A3.below hb4).alloc (.cells #[.int .i64 nt, .int .i64 nn, .string ns] 23)
  have D4 := (D3.below hb4).alloc (.cells #[.int .i64 nt, .int .i64 nn, .string ns] 23)
  have S4 := (S3.below hb4).alloc (.cells #[.int .i64 nt, .int .i64 nn, .string ns] 23)
  have T4 := (T3.below hb4).alloc (.cells #[.int .i64 nt, .int .i64 nn, .string ns] 23)
  have U4 := (U3.below hb4).alloc (.cells #[.int .i64 nt, .int .i64 nn, .string ns] 23)
  have V4 := Bx.new x4 ⟨nt, nn, ns⟩
  have B4 := (B3.trans (hb4.mono B3.size)).alloc (B3.trans (hb4.mono B3.size)).size (.cells #[.int .i64 nt, .int .i64 nn, .string ns] 23)
  clear hb4 B3 A3 D3 S3 T3 U3
  obtain ⟨_, A_0, A_1, A_2⟩ := id A4
  obtain ⟨_, D_0, D_1, D_2⟩ := id D4
  obtain ⟨_, S_0, S_1, S_2⟩ := id S4
  obtain ⟨_, T_0, T_1, T_2⟩ := id T4
  obtain ⟨_, U_0, U_1, U_2⟩ := id U4
  obtain ⟨_, V_0, V_1, V_2⟩ := id V4
  go_wp2_with fail
  generalize x4.alloc (.cells #[.int .i64 nt, .int .i64 nn, .string ns] 23) = w4 at *
  clear A_0 A_1 A_2 D_0 D_1 D_2 S_0 S_1 S_2 T_0 T_1 T_2 U_0 U_1 U_2 V_0 V_1 V_2
  refine (LV.out _ B4).mono ?_
  rintro e z1 ⟨rfl, hz1⟩
  go_wp2_with fail
  go_ret
  exact ⟨rfl, B4.trans (hz1.mono B4.size)⟩
end Go.Proofs.YtppcoimfgafbfaaGreatDoor
