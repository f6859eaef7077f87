/-
  The walk of the law ValueLaws.
-/
import Derived.Test.YtjkaokbabplebaaDoorLwM
import Derived.Test.YtjkaokbabplebaaDoorLwRsum
import Derived.Test.YtjkaokbabplebaaDoorLwRdif
import Derived.Test.YtjkaokbabplebaaDoorLwRmul
import Derived.Deep.RegionHeld3
namespace Go.Proofs.YtjkaokbabplebaaDoor
open Go.RowKit Go.Shelf

theorem take_at {P : Program} {ops : Array Oper} {Q : Exit → Act → World → Prop} {md : Region.Mode} {S : World → Prop} {i d : Nat} {oi : Oper} {v : Value} {fuel : Nat} {listed : Array Bool} {ts : Array Value} {df : List Deferred} {w : World} (hi : ops[i]? = some oi) (hd : oi.dst = some d)
    (hs : Region.noSelect ops = true) (hf : Region.free md ops listed i = true) (hr : (Region.ready md ops listed).contains i = true)
    (hQ : ∀ c a w, Q (.panic c) (a.put oi.dst v) w → Q (.panic c) a w) (hy : YieldsIf P ops S oi v ⟨ts, df⟩) (hS : S w)
    (h : wpAnyH P md ops Q S fuel (listed.setIfInBounds i true) ⟨ts.setIfInBounds d v, df⟩ w) : wpAnyH P md ops Q S (fuel + 1) listed ⟨ts, df⟩ w :=
  wpAnyH_take hi hs hf hr hQ hy hS (by rw [hd]; exact h)
theorem zero_size : (⟨#[]⟩ : ByteArray).size ≤ 9223372036854775807 := by decide

set_option maxHeartbeats 16000000 in
set_option maxRecDepth 1000000 in
theorem ValueLaws_any (a b : Va) (w : World) (sa : a.s.size ≤ 9223372036854775807) (sb : b.s.size ≤ 9223372036854775807) (fa : fit a.n) (fb : fit b.n) (hT : Tabs w) (hP : Pow w) :
    Calls Tryd.prog 3 #[.agg #[.int .i64 a.ty, .int .i64 a.n, .string a.s], .agg #[.int .i64 b.ty, .int .i64 b.n, .string b.s]] w fun e w' => e = .returned (.bool true) ∧ Below w.heap.size w w' := by
  have LV : Hid (∀ w', Below w.heap.size w w' → Calls Tryd.prog 7 #[] w' fun e w'' => e = .returned (.bool true) ∧ Below w'.heap.size w' w'') := fun w' h => lives_any w' (hT.below h) (hP.below h)
  obtain ⟨c1, hc1⟩ : ∃ c, c = rk (fun x y => x + y) (fun x y => x + y) a b := ⟨_, rfl⟩
  obtain ⟨c2, hc2⟩ : ∃ c, c = rk (fun x y => x + y) (fun x y => x + y) b a := ⟨_, rfl⟩
  obtain ⟨c3, hc3⟩ : ∃ c, c = rk (fun x y => x * y) prd a b := ⟨_, rfl⟩
  obtain ⟨c4, hc4⟩ : ∃ c, c = rk (fun x y => x * y) prd b a := ⟨_, rfl⟩
  obtain ⟨c5, hc5⟩ : ∃ c, c = ng b := ⟨_, rfl⟩
  obtain ⟨c6, hc6⟩ : ∃ c, c = rk (fun x y => x - y) (fun x y => x - y) a b := ⟨_, rfl⟩
  obtain ⟨c8, hc8⟩ : ∃ c, c = rk (fun x y => x - y) (fun x y => x - y) c1.1 b := ⟨_, rfl⟩
  have q12 := rk_comm (fun x y => x + y) (fun x y => x + y) (fun x y => Int.add_comm x y) (fun x y => Int.add_comm x y) a b
  have q34 := rk_comm (fun x y => x * y) prd (fun x y => Int.mul_comm x y) prd_comm a b
  rw [← hc1, ← hc2] at q12
  rw [← hc3, ← hc4] at q34
  have C1 : Hid (∀ w', Below w.heap.size w w' → Calls Tryd.prog 4 #[.string ⟨#[43]⟩, .agg #[.int .i64 a.ty, .int .i64 a.n, .string a.s], .agg #[.int .i64 b.ty, .int .i64 b.n, .string b.s]] w' fun e w'' => e = .returned (ans c1) ∧ Below w'.heap.size w' w'') := fun w' h => hc1 ▸ Reckon_sum a b w' fa fb sa sb (hT.below h)
  have C2 : Hid (∀ w', Below w.heap.size w w' → Calls Tryd.prog 4 #[.string ⟨#[43]⟩, .agg #[.int .i64 b.ty, .int .i64 b.n, .string b.s], .agg #[.int .i64 a.ty, .int .i64 a.n, .string a.s]] w' fun e w'' => e = .returned (ans c2) ∧ Below w'.heap.size w' w'') := fun w' h => hc2 ▸ Reckon_sum b a w' fb fa sb sa (hT.below h)
  have C3 : Hid (∀ w', Below w.heap.size w w' → Calls Tryd.prog 4 #[.string ⟨#[42]⟩, .agg #[.int .i64 a.ty, .int .i64 a.n, .string a.s], .agg #[.int .i64 b.ty, .int .i64 b.n, .string b.s]] w' fun e w'' => e = .returned (ans c3) ∧ Below w'.heap.size w' w'') := fun w' h => hc3 ▸ Reckon_mul a b w' fa fb sa sb (hT.below h)
  have C4 : Hid (∀ w', Below w.heap.size w w' → Calls Tryd.prog 4 #[.string ⟨#[42]⟩, .agg #[.int .i64 b.ty, .int .i64 b.n, .string b.s], .agg #[.int .i64 a.ty, .int .i64 a.n, .string a.s]] w' fun e w'' => e = .returned (ans c4) ∧ Below w'.heap.size w' w'') := fun w' h => hc4 ▸ Reckon_mul b a w' fb fa sb sa (hT.below h)
  have C5 : Hid (∀ w', Below w.heap.size w w' → Calls Tryd.prog 5 #[.agg #[.int .i64 b.ty, .int .i64 b.n, .string b.s]] w' fun e w'' => e = .returned (ans c5) ∧ Below w'.heap.size w' w'') := fun w' h => hc5 ▸ Neg_any b w' fb sb (hT.below h)
  have C6 : Hid (∀ w', Below w.heap.size w w' → Calls Tryd.prog 4 #[.string ⟨#[45]⟩, .agg #[.int .i64 a.ty, .int .i64 a.n, .string a.s], .agg #[.int .i64 b.ty, .int .i64 b.n, .string b.s]] w' fun e w'' => e = .returned (ans c6) ∧ Below w'.heap.size w' w'') := fun w' h => hc6 ▸ Reckon_dif a b w' fa fb sa sb (hT.below h)
  have C7 : Hid (c5.2 = 0 → c6.2 = 0 → ∀ w', Below w.heap.size w w' → Calls Tryd.prog 4 #[.string ⟨#[43]⟩, .agg #[.int .i64 a.ty, .int .i64 a.n, .string a.s], .agg #[.int .i64 c5.1.ty, .int .i64 c5.1.n, .string c5.1.s]] w' fun e w'' => e = .returned (ans (c6.1, 0)) ∧ Below w'.heap.size w' w'') := fun g1 g2 w' h => by
    have e := law_neg a b (by rw [← hc5]; exact g1) (by rw [← hc6]; exact g2)
    rw [← hc5, ← hc6] at e
    have k := ng_ok b
    rw [← hc5] at k
    have := Reckon_sum a c5.1 w' fa k.1 sa (by rw [k.2]; exact zero_size) (hT.below h)
    rw [e] at this; exact this
  have C8 : Hid (∀ w', Below w.heap.size w w' → Calls Tryd.prog 4 #[.string ⟨#[45]⟩, .agg #[.int .i64 c1.1.ty, .int .i64 c1.1.n, .string c1.1.s], .agg #[.int .i64 b.ty, .int .i64 b.n, .string b.s]] w' fun e w'' => e = .returned (ans c8) ∧ Below w'.heap.size w' w'') := fun w' h => by
    have k := rk_ok (fun x y => x + y) (fun x y => x + y) a b
    rw [← hc1] at k
    rw [hc8]; exact Reckon_dif c1.1 b w' k.1 fb (by rw [k.2]; exact zero_size) sb (hT.below h)
  have LB : Hid (c1.2 = 0 → c8.2 = 0 ∧ (a.ty = 0 ∨ a.ty = 1 ∨ a.ty = 2) ∧ (a.ty = c1.1.ty → c8.1 = pln a)) := fun g => by
    have := law_back a b fa (by rw [← hc1]; exact g)
    rw [← hc1, ← hc8] at this; exact this
  have PLC : Hid (c1.2 = 0 → ∀ w', Calls Tryd.prog 6 #[.agg #[.int .i64 a.ty, .int .i64 a.n, .string a.s]] w' fun e w'' => e = .returned (.agg #[.int .i64 (pln a).ty, .int .i64 (pln a).n, .string (pln a).s]) ∧ Below w'.heap.size w' w'') := fun g w' => Plain_num a w' (LB.out g).2.1
  clear hc1 hc2 hc3 hc4 hc5 hc6 hc8 sa sb fa fb hT hP
  obtain ⟨⟨st, sn, ss⟩, se⟩ := c1
  obtain ⟨⟨tt, tn, ts⟩, te⟩ := c2
  obtain ⟨⟨ptt, pn, ps⟩, pe⟩ := c3
  obtain ⟨⟨qt, qn, qs⟩, qe⟩ := c4
  obtain ⟨⟨nt, nn, ns⟩, ie⟩ := c5
  obtain ⟨⟨dt, dn, ds⟩, je⟩ := c6
  obtain ⟨⟨kt, kn, ks⟩, ke⟩ := c8
  obtain ⟨e12, i12⟩ := q12
  obtain ⟨e34, i34⟩ := q34
  simp only [Va.mk.injEq] at e12 e34
  obtain ⟨rfl, rfl, rfl⟩ := e12
  obtain ⟨rfl, rfl, rfl⟩ := e34
  simp only at i12 i34 C7 C8 LB PLC
  unfold ans at C1 C2 C3 C4 C5 C6 C7 C8
  simp only at C1 C2 C3 C4 C5 C6 C7 C8
  have b12 : (te == 0) = (se == 0) := by rw [Bool.eq_iff_iff]; simp [i12]
  have b34 : (qe == 0) = (pe == 0) := by rw [Bool.eq_iff_iff]; simp [i34]
  obtain ⟨be, u1⟩ : ∃ be : Bool, (se == 0) = be := ⟨_, rfl⟩
  obtain ⟨bg, u3⟩ : ∃ bg : Bool, (pe == 0) = bg := ⟨_, rfl⟩
  have u2 : (te == 0) = be := b12.trans u1
  have u4 : (qe == 0) = bg := b34.trans u3
  clear b12 b34 i12 i34
  have A0 : Bx ((w.alloc (.cells #[.int .i64 a.ty, .int .i64 a.n, .string a.s] 23)).alloc (.cells #[.int .i64 b.ty, .int .i64 b.n, .string b.s] 23)) w.heap.size a := (Bx.new w a).alloc _
  have D0 : Bx ((w.alloc (.cells #[.int .i64 a.ty, .int .i64 a.n, .string a.s] 23)).alloc (.cells #[.int .i64 b.ty, .int .i64 b.n, .string b.s] 23)) (w.heap.size + 1) b := by
    have := Bx.new (w.alloc (.cells #[.int .i64 a.ty, .int .i64 a.n, .string a.s] 23)) b
    rw [show (w.alloc (.cells #[.int .i64 a.ty, .int .i64 a.n, .string a.s] 23)).heap.size = w.heap.size + 1 by simp] at this
    exact this
  have B0 : Below w.heap.size w ((w.alloc (.cells #[.int .i64 a.ty, .int .i64 a.n, .string a.s] 23)).alloc (.cells #[.int .i64 b.ty, .int .i64 b.n, .string b.s] 23)) := ((Below.refl _ w).alloc (Nat.le_refl _) _).alloc (by simp) _
  go_enter Tryd.func3, Tryd.ntmps3
  go_wp2_with fail
  generalize (w.alloc (.cells #[.int .i64 a.ty, .int .i64 a.n, .string a.s] 23)).alloc (.cells #[.int .i64 b.ty, .int .i64 b.n, .string b.s] 23) = w0 at *
  refine (C1.out _ B0).mono ?_
  rintro e x1 ⟨rfl, hb1⟩
  have A1 := (A0.below hb1).alloc (.cells #[.int .i64 st, .int .i64 sn, .string ss] 23)
  have D1 := (D0.below hb1).alloc (.cells #[.int .i64 st, .int .i64 sn, .string ss] 23)
  have S1 := Bx.new x1 ⟨st, sn, ss⟩
  have B1 := (B0.trans (hb1.mono B0.size)).alloc (B0.trans (hb1.mono B0.size)).size (.cells #[.int .i64 st, .int .i64 sn, .string ss] 23)
  clear hb1 B0 A0 D0
  obtain ⟨_, A_0, A_1, A_2⟩ := id A1
  obtain ⟨_, D_0, D_1, D_2⟩ := id D1
  obtain ⟨_, S_0, S_1, S_2⟩ := id S1
  go_wp2_with fail
  generalize x1.alloc (.cells #[.int .i64 st, .int .i64 sn, .string ss] 23) = w1 at *
  clear A_0 A_1 A_2 D_0 D_1 D_2 S_0 S_1 S_2
  refine (C2.out _ B1).mono ?_
  rintro e x2 ⟨rfl, hb2⟩
  have A2 := (A1.below hb2).alloc (.cells #[.int .i64 st, .int .i64 sn, .string ss] 23)
  have D2 := (D1.below hb2).alloc (.cells #[.int .i64 st, .int .i64 sn, .string ss] 23)
  have S2 := (S1.below hb2).alloc (.cells #[.int .i64 st, .int .i64 sn, .string ss] 23)
  have T2 := Bx.new x2 ⟨st, sn, ss⟩
  have B2 := (B1.trans (hb2.mono B1.size)).alloc (B1.trans (hb2.mono B1.size)).size (.cells #[.int .i64 st, .int .i64 sn, .string ss] 23)
  clear hb2 B1 A1 D1 S1
  obtain ⟨_, A_0, A_1, A_2⟩ := id A2
  obtain ⟨_, D_0, D_1, D_2⟩ := id D2
  obtain ⟨_, S_0, S_1, S_2⟩ := id S2
  obtain ⟨_, T_0, T_1, T_2⟩ := id T2
  go_wp2_with fail
  generalize x2.alloc (.cells #[.int .i64 st, .int .i64 sn, .string ss] 23) = w2 at *
  clear A_0 A_1 A_2 D_0 D_1 D_2 S_0 S_1 S_2 T_0 T_1 T_2
  refine (C3.out _ B2).mono ?_
  rintro e x3 ⟨rfl, hb3⟩
  have A3 := (A2.below hb3).alloc (.cells #[.int .i64 ptt, .int .i64 pn, .string ps] 23)
  have D3 := (D2.below hb3).alloc (.cells #[.int .i64 ptt, .int .i64 pn, .string ps] 23)
  have S3 := (S2.below hb3).alloc (.cells #[.int .i64 ptt, .int .i64 pn, .string ps] 23)
  have T3 := (T2.below hb3).alloc (.cells #[.int .i64 ptt, .int .i64 pn, .string ps] 23)
  have U3 := Bx.new x3 ⟨ptt, pn, ps⟩
  have B3 := (B2.trans (hb3.mono B2.size)).alloc (B2.trans (hb3.mono B2.size)).size (.cells #[.int .i64 ptt, .int .i64 pn, .string ps] 23)
  clear hb3 B2 A2 D2 S2 T2
  obtain ⟨_, A_0, A_1, A_2⟩ := id A3
  obtain ⟨_, D_0, D_1, D_2⟩ := id D3
  obtain ⟨_, S_0, S_1, S_2⟩ := id S3
  obtain ⟨_, T_0, T_1, T_2⟩ := id T3
  obtain ⟨_, U_0, U_1, U_2⟩ := id U3
  go_wp2_with fail
  generalize x3.alloc (.cells #[.int .i64 ptt, .int .i64 pn, .string ps] 23) = w3 at *
  clear A_0 A_1 A_2 D_0 D_1 D_2 S_0 S_1 S_2 T_0 T_1 T_2 U_0 U_1 U_2
  refine (C4.out _ B3).mono ?_
  rintro e x4 ⟨rfl, hb4⟩
  have A4 := (A3.below hb4).alloc (.cells #[.int .i64 ptt, .int .i64 pn, .string ps] 23)
  have D4 := (D3.below hb4).alloc (.cells #[.int .i64 ptt, .int .i64 pn, .string ps] 23)
  have S4 := (S3.below hb4).alloc (.cells #[.int .i64 ptt, .int .i64 pn, .string ps] 23)
  have T4 := (T3.below hb4).alloc (.cells #[.int .i64 ptt, .int .i64 pn, .string ps] 23)
  have U4 := (U3.below hb4).alloc (.cells #[.int .i64 ptt, .int .i64 pn, .string ps] 23)
  have V4 := Bx.new x4 ⟨ptt, pn, ps⟩
  have B4 := (B3.trans (hb4.mono B3.size)).alloc (B3.trans (hb4.mono B3.size)).size (.cells #[.int .i64 ptt, .int .i64 pn, .string ps] 23)
  clear hb4 B3 A3 D3 S3 T3 U3
  obtain ⟨_, A_0, A_1, A_2⟩ := id A4
  obtain ⟨_, D_0, D_1, D_2⟩ := id D4
  obtain ⟨_, S_0, S_1, S_2⟩ := id S4
  obtain ⟨_, T_0, T_1, T_2⟩ := id T4
  obtain ⟨_, U_0, U_1, U_2⟩ := id U4
  obtain ⟨_, V_0, V_1, V_2⟩ := id V4
  go_wp2_with fail
  generalize x4.alloc (.cells #[.int .i64 ptt, .int .i64 pn, .string ps] 23) = w4 at *
  clear A_0 A_1 A_2 D_0 D_1 D_2 S_0 S_1 S_2 T_0 T_1 T_2 U_0 U_1 U_2 V_0 V_1 V_2
  clear T4 U4 V4 C1 C2 C3 C4 u2 u3 u4
  refine (C5.out _ B4).mono ?_
  rintro e x5 ⟨rfl, hb5⟩
  have A5 := (A4.below hb5).alloc (.cells #[.int .i64 nt, .int .i64 nn, .string ns] 23)
  have D5 := (D4.below hb5).alloc (.cells #[.int .i64 nt, .int .i64 nn, .string ns] 23)
  have S5 := (S4.below hb5).alloc (.cells #[.int .i64 nt, .int .i64 nn, .string ns] 23)
  have N5 := Bx.new x5 ⟨nt, nn, ns⟩
  have B5 := (B4.trans (hb5.mono B4.size)).alloc (B4.trans (hb5.mono B4.size)).size (.cells #[.int .i64 nt, .int .i64 nn, .string ns] 23)
  clear hb5 B4 A4 D4 S4
  obtain ⟨_, A_0, A_1, A_2⟩ := id A5
  obtain ⟨_, D_0, D_1, D_2⟩ := id D5
  obtain ⟨_, S_0, S_1, S_2⟩ := id S5
  obtain ⟨_, N_0, N_1, N_2⟩ := id N5
  go_wp2_with fail
  generalize x5.alloc (.cells #[.int .i64 nt, .int .i64 nn, .string ns] 23) = w5 at *
  clear A_0 A_1 A_2 D_0 D_1 D_2 S_0 S_1 S_2 N_0 N_1 N_2
  refine (C6.out _ B5).mono ?_
  rintro e x6 ⟨rfl, hb6⟩
  have A6 := (A5.below hb6).alloc (.cells #[.int .i64 dt, .int .i64 dn, .string ds] 23)
  have D6 := (D5.below hb6).alloc (.cells #[.int .i64 dt, .int .i64 dn, .string ds] 23)
  have S6 := (S5.below hb6).alloc (.cells #[.int .i64 dt, .int .i64 dn, .string ds] 23)
  have N6 := (N5.below hb6).alloc (.cells #[.int .i64 dt, .int .i64 dn, .string ds] 23)
  have E6 := Bx.new x6 ⟨dt, dn, ds⟩
  have B6 := (B5.trans (hb6.mono B5.size)).alloc (B5.trans (hb6.mono B5.size)).size (.cells #[.int .i64 dt, .int .i64 dn, .string ds] 23)
  clear hb6 B5 A5 D5 S5 N5
  by_cases hi : ie = 0
  · by_cases hj : je = 0
    · subst hi hj
      have C7b : Hid _ := C7.out rfl rfl
      clear C7
      obtain ⟨_, A_0, A_1, A_2⟩ := id A6
      obtain ⟨_, D_0, D_1, D_2⟩ := id D6
      obtain ⟨_, S_0, S_1, S_2⟩ := id S6
      obtain ⟨_, N_0, N_1, N_2⟩ := id N6
      obtain ⟨_, E_0, E_1, E_2⟩ := id E6
      go_wp2_with fail
      generalize x6.alloc (.cells #[.int .i64 dt, .int .i64 dn, .string ds] 23) = w6 at *
      clear A_0 A_1 A_2 D_0 D_1 D_2 S_0 S_1 S_2 N_0 N_1 N_2 E_0 E_1 E_2
      refine (C7b.out _ B6).mono ?_
      rintro e x7 ⟨rfl, hb7⟩
      have A7 := (A6.below hb7).alloc (.cells #[.int .i64 dt, .int .i64 dn, .string ds] 23)
      have D7 := (D6.below hb7).alloc (.cells #[.int .i64 dt, .int .i64 dn, .string ds] 23)
      have S7 := (S6.below hb7).alloc (.cells #[.int .i64 dt, .int .i64 dn, .string ds] 23)
      have N7 := (N6.below hb7).alloc (.cells #[.int .i64 dt, .int .i64 dn, .string ds] 23)
      have E7 := (E6.below hb7).alloc (.cells #[.int .i64 dt, .int .i64 dn, .string ds] 23)
      have X7 := Bx.new x7 ⟨dt, dn, ds⟩
      have B7 := (B6.trans (hb7.mono B6.size)).alloc (B6.trans (hb7.mono B6.size)).size (.cells #[.int .i64 dt, .int .i64 dn, .string ds] 23)
      clear hb7 B6 A6 D6 S6 N6 E6
      cases be
      · obtain ⟨_, A_0, A_1, A_2⟩ := id A7
        obtain ⟨_, D_0, D_1, D_2⟩ := id D7
        obtain ⟨_, S_0, S_1, S_2⟩ := id S7
        obtain ⟨_, N_0, N_1, N_2⟩ := id N7
        obtain ⟨_, E_0, E_1, E_2⟩ := id E7
        obtain ⟨_, X_0, X_1, X_2⟩ := id X7
        go_wp2_with fail
        generalize x7.alloc (.cells #[.int .i64 dt, .int .i64 dn, .string ds] 23) = w7 at *
        refine (LV.out _ B7).mono ?_
        rintro e z1 ⟨rfl, hz1⟩
        go_wp2_with fail
        go_ret
        exact ⟨rfl, B7.trans (hz1.mono B7.size)⟩
      · have se0 : se = 0 := by simpa using u1
        obtain ⟨ke0, tya, kpl⟩ := LB.out se0
        have PL1 : Hid _ := PLC.out se0
        subst ke0
        clear LB PLC
        obtain ⟨_, A_0, A_1, A_2⟩ := id A7
        obtain ⟨_, D_0, D_1, D_2⟩ := id D7
        obtain ⟨_, S_0, S_1, S_2⟩ := id S7
        obtain ⟨_, N_0, N_1, N_2⟩ := id N7
        obtain ⟨_, E_0, E_1, E_2⟩ := id E7
        obtain ⟨_, X_0, X_1, X_2⟩ := id X7
        go_wp2_with fail
        generalize x7.alloc (.cells #[.int .i64 dt, .int .i64 dn, .string ds] 23) = w7 at *
        clear A_0 A_1 A_2 D_0 D_1 D_2 S_0 S_1 S_2 N_0 N_1 N_2 E_0 E_1 E_2 X_0 X_1 X_2
        clear C7b N7 E7 X7 C5 C6
        refine (C8.out _ B7).mono ?_
        rintro e x8 ⟨rfl, hb8⟩
        have A8 := (A7.below hb8).alloc (.cells #[.int .i64 kt, .int .i64 kn, .string ks] 23)
        have D8 := (D7.below hb8).alloc (.cells #[.int .i64 kt, .int .i64 kn, .string ks] 23)
        have S8 := (S7.below hb8).alloc (.cells #[.int .i64 kt, .int .i64 kn, .string ks] 23)
        have K8 := Bx.new x8 ⟨kt, kn, ks⟩
        have B8 := (B7.trans (hb8.mono B7.size)).alloc (B7.trans (hb8.mono B7.size)).size (.cells #[.int .i64 kt, .int .i64 kn, .string ks] 23)
        clear hb8 B7 A7 D7 S7
        obtain ⟨_, A_0, A_1, A_2⟩ := id A8
        obtain ⟨_, D_0, D_1, D_2⟩ := id D8
        obtain ⟨_, S_0, S_1, S_2⟩ := id S8
        obtain ⟨_, K_0, K_1, K_2⟩ := id K8
        go_wp2_with fail
        generalize x8.alloc (.cells #[.int .i64 kt, .int .i64 kn, .string ks] 23) = w8 at *
        clear A_0 A_1 A_2 D_0 D_1 D_2 S_0 S_1 S_2 K_0 K_1 K_2
        by_cases hty : a.ty = st
        · have te1 : (a.ty == st) = true := by rw [hty]; exact beq_self_eq_true _
          have kp := kpl hty
          have PL2 : Hid (∀ w', Calls Tryd.prog 6 #[.agg #[.int .i64 a.ty, .int .i64 a.n, .string a.s]] w' fun e w'' => e = .returned (.agg #[.int .i64 kt, .int .i64 kn, .string ks]) ∧ Below w'.heap.size w' w'') := fun w' => by
            have := PL1.out w'
            rw [← kp] at this; exact this
          clear PL1 kp kpl tya hty
          have SB : ∀ w', Below w8.heap.size w8 w' → (fun w' => Below w8.heap.size w8 w' ∧ w'.cell? ⟨w.heap.size, 0, none⟩ = some (.int .i64 a.ty) ∧ w'.cell? ⟨w.heap.size, 1, none⟩ = some (.int .i64 a.n) ∧ w'.cell? ⟨w.heap.size, 2, none⟩ = some (.string a.s) ∧ w'.cell? ⟨x1.heap.size, 0, none⟩ = some (.int .i64 st) ∧ w'.cell? ⟨x8.heap.size, 0, none⟩ = some (.int .i64 kt) ∧ w'.cell? ⟨x8.heap.size, 1, none⟩ = some (.int .i64 kn) ∧ w'.cell? ⟨x8.heap.size, 2, none⟩ = some (.string ks)) w' := fun w' h => ⟨h, (A8.below h).c0, (A8.below h).c1, (A8.below h).c2, (S8.below h).c0, (K8.below h).c0, (K8.below h).c1, (K8.below h).c2⟩
          refine wp_region_noPanic ?_
          refine wp_region_held_drew (S := fun w' => Below w8.heap.size w8 w' ∧ w'.cell? ⟨w.heap.size, 0, none⟩ = some (.int .i64 a.ty) ∧ w'.cell? ⟨w.heap.size, 1, none⟩ = some (.int .i64 a.n) ∧ w'.cell? ⟨w.heap.size, 2, none⟩ = some (.string a.s) ∧ w'.cell? ⟨x1.heap.size, 0, none⟩ = some (.int .i64 st) ∧ w'.cell? ⟨x8.heap.size, 0, none⟩ = some (.int .i64 kt) ∧ w'.cell? ⟨x8.heap.size, 1, none⟩ = some (.int .i64 kn) ∧ w'.cell? ⟨x8.heap.size, 2, none⟩ = some (.string ks)) (by kernel_rfl) (SB _ (below_drewN (Below.refl _ w8) 1)) (fun hH => ?_)
          refine take_at (i := 0) (v := .int .i64 0) rfl rfl (by kernel_rfl) (by kernel_rfl) (by kernel_rfl) (fun _ _ _ h => h) (Or.inl ⟨by rfl, ?_⟩) hH ?_
          · intro v hv; obtain ⟨_, hv0, hv1, hv2, hv3, hv4, hv5, hv6⟩ := hv; go_simp
          simp only [List.setIfInBounds_toArray, List.set_cons_zero, List.set_cons_succ]
          refine take_at (i := 1) (v := .bool false) rfl rfl (by kernel_rfl) (by kernel_rfl) (by kernel_rfl) (fun _ _ _ h => h) (Or.inl ⟨by rfl, ?_⟩) hH ?_
          · intro v hv; obtain ⟨_, hv0, hv1, hv2, hv3, hv4, hv5, hv6⟩ := hv; go_simp
          simp only [List.setIfInBounds_toArray, List.set_cons_zero, List.set_cons_succ]
          refine take_at (i := 2) (v := .bool false) rfl rfl (by kernel_rfl) (by kernel_rfl) (by kernel_rfl) (fun _ _ _ h => h) (Or.inl ⟨by rfl, ?_⟩) hH ?_
          · intro v hv; obtain ⟨_, hv0, hv1, hv2, hv3, hv4, hv5, hv6⟩ := hv; go_simp
          simp only [List.setIfInBounds_toArray, List.set_cons_zero, List.set_cons_succ]
          refine take_at (i := 3) (v := .pointer (some ⟨w.heap.size, 0, none⟩)) rfl rfl (by kernel_rfl) (by kernel_rfl) (by kernel_rfl) (fun _ _ _ h => h) (Or.inl ⟨by rfl, ?_⟩) hH ?_
          · intro v hv; obtain ⟨_, hv0, hv1, hv2, hv3, hv4, hv5, hv6⟩ := hv; go_simp
          simp only [List.setIfInBounds_toArray, List.set_cons_zero, List.set_cons_succ]
          refine take_at (i := 4) (v := .int .i64 a.ty) rfl rfl (by kernel_rfl) (by kernel_rfl) (by kernel_rfl) (fun _ _ _ h => h) (Or.inl ⟨by rfl, ?_⟩) hH ?_
          · intro v hv; obtain ⟨_, hv0, hv1, hv2, hv3, hv4, hv5, hv6⟩ := hv; go_simp
          simp only [List.setIfInBounds_toArray, List.set_cons_zero, List.set_cons_succ]
          refine take_at (i := 5) (v := .pointer (some ⟨x1.heap.size, 0, none⟩)) rfl rfl (by kernel_rfl) (by kernel_rfl) (by kernel_rfl) (fun _ _ _ h => h) (Or.inl ⟨by rfl, ?_⟩) hH ?_
          · intro v hv; obtain ⟨_, hv0, hv1, hv2, hv3, hv4, hv5, hv6⟩ := hv; go_simp
          simp only [List.setIfInBounds_toArray, List.set_cons_zero, List.set_cons_succ]
          refine take_at (i := 6) (v := .int .i64 st) rfl rfl (by kernel_rfl) (by kernel_rfl) (by kernel_rfl) (fun _ _ _ h => h) (Or.inl ⟨by rfl, ?_⟩) hH ?_
          · intro v hv; obtain ⟨_, hv0, hv1, hv2, hv3, hv4, hv5, hv6⟩ := hv; go_simp
          simp only [List.setIfInBounds_toArray, List.set_cons_zero, List.set_cons_succ]
          refine take_at (i := 7) (v := .bool true) rfl rfl (by kernel_rfl) (by kernel_rfl) (by kernel_rfl) (fun _ _ _ h => h) (Or.inl ⟨by rfl, ?_⟩) hH ?_
          · intro v hv; obtain ⟨_, hv0, hv1, hv2, hv3, hv4, hv5, hv6⟩ := hv; go_simp
          simp only [List.setIfInBounds_toArray, List.set_cons_zero, List.set_cons_succ]
          refine take_at (i := 8) (v := .bool true) rfl rfl (by kernel_rfl) (by kernel_rfl) (by kernel_rfl) (fun _ _ _ h => h) (Or.inl ⟨by rfl, ?_⟩) hH ?_
          · intro v hv; obtain ⟨_, hv0, hv1, hv2, hv3, hv4, hv5, hv6⟩ := hv; go_simp
          simp only [List.setIfInBounds_toArray, List.set_cons_zero, List.set_cons_succ]
          refine take_at (i := 9) (v := .agg #[.int .i64 kt, .int .i64 kn, .string ks]) rfl rfl (by kernel_rfl) (by kernel_rfl) (by kernel_rfl) (fun _ _ _ h => h) (Or.inl ⟨by rfl, ?_⟩) hH ?_
          · intro v hv; obtain ⟨_, hv0, hv1, hv2, hv3, hv4, hv5, hv6⟩ := hv; go_simp
          simp only [List.setIfInBounds_toArray, List.set_cons_zero, List.set_cons_succ]
          refine take_at (i := 10) (v := .agg #[.int .i64 a.ty, .int .i64 a.n, .string a.s]) rfl rfl (by kernel_rfl) (by kernel_rfl) (by kernel_rfl) (fun _ _ _ h => h) (Or.inl ⟨by rfl, ?_⟩) hH ?_
          · intro v hv; obtain ⟨_, hv0, hv1, hv2, hv3, hv4, hv5, hv6⟩ := hv; go_simp
          simp only [List.setIfInBounds_toArray, List.set_cons_zero, List.set_cons_succ]
          refine wpAnyH_ready (rs := [11]) (by kernel_rfl) (by simp) ?_
          refine AllReadyH.cons rfl (fun K hK => ?_) AllReadyH.nil
          go_simp
          go_at_call 6
          refine (PL2.out _).mono ?_
          rintro e y1 ⟨rfl, hy1⟩
          go_wp2_with fail
          have hH2 := SB _ (hH.1.trans (hy1.mono hH.1.size))
          refine hK.out _ _ hH2 (fun _ => ?_)
          clear hK K hH hy1
          have hH := hH2
          clear hH2
          refine take_at (i := 12) (v := .bool false) rfl rfl (by kernel_rfl) (by kernel_rfl) (by kernel_rfl) (fun _ _ _ h => h) (Or.inl ⟨by rfl, ?_⟩) hH ?_
          · intro v hv; obtain ⟨_, hv0, hv1, hv2, hv3, hv4, hv5, hv6⟩ := hv; go_simp
          simp only [List.setIfInBounds_toArray, List.set_cons_zero, List.set_cons_succ]
          refine take_at (i := 13) (v := .bool false) rfl rfl (by kernel_rfl) (by kernel_rfl) (by kernel_rfl) (fun _ _ _ h => h) (Or.inl ⟨by rfl, ?_⟩) hH ?_
          · intro v hv; obtain ⟨_, hv0, hv1, hv2, hv3, hv4, hv5, hv6⟩ := hv; go_simp
          simp only [List.setIfInBounds_toArray, List.set_cons_zero, List.set_cons_succ]
          refine take_at (i := 14) (v := .bool false) rfl rfl (by kernel_rfl) (by kernel_rfl) (by kernel_rfl) (fun _ _ _ h => h) (Or.inl ⟨by rfl, ?_⟩) hH ?_
          · intro v hv; obtain ⟨_, hv0, hv1, hv2, hv3, hv4, hv5, hv6⟩ := hv; go_simp
          simp only [List.setIfInBounds_toArray, List.set_cons_zero, List.set_cons_succ]
          refine wpAnyH_done (by kernel_rfl) ?_ _
          refine NoPanic.normal ?_
          have BZ := B8.trans (hH.1.mono B8.size)
          go_wp2_with fail
          refine (LV.out _ BZ).mono ?_
          rintro e z1 ⟨rfl, hz1⟩
          go_wp2_with fail
          go_ret
          exact ⟨rfl, BZ.trans (hz1.mono BZ.size)⟩
        · have te1 : (a.ty == st) = false := by rw [beq_eq_false_iff_ne]; exact hty
          clear PL1 kpl tya hty
          have SB : ∀ w', Below w8.heap.size w8 w' → (fun w' => Below w8.heap.size w8 w' ∧ w'.cell? ⟨w.heap.size, 0, none⟩ = some (.int .i64 a.ty) ∧ w'.cell? ⟨w.heap.size, 1, none⟩ = some (.int .i64 a.n) ∧ w'.cell? ⟨w.heap.size, 2, none⟩ = some (.string a.s) ∧ w'.cell? ⟨x1.heap.size, 0, none⟩ = some (.int .i64 st) ∧ w'.cell? ⟨x8.heap.size, 0, none⟩ = some (.int .i64 kt) ∧ w'.cell? ⟨x8.heap.size, 1, none⟩ = some (.int .i64 kn) ∧ w'.cell? ⟨x8.heap.size, 2, none⟩ = some (.string ks)) w' := fun w' h => ⟨h, (A8.below h).c0, (A8.below h).c1, (A8.below h).c2, (S8.below h).c0, (K8.below h).c0, (K8.below h).c1, (K8.below h).c2⟩
          refine wp_region_noPanic ?_
          refine wp_region_held_drew (S := fun w' => Below w8.heap.size w8 w' ∧ w'.cell? ⟨w.heap.size, 0, none⟩ = some (.int .i64 a.ty) ∧ w'.cell? ⟨w.heap.size, 1, none⟩ = some (.int .i64 a.n) ∧ w'.cell? ⟨w.heap.size, 2, none⟩ = some (.string a.s) ∧ w'.cell? ⟨x1.heap.size, 0, none⟩ = some (.int .i64 st) ∧ w'.cell? ⟨x8.heap.size, 0, none⟩ = some (.int .i64 kt) ∧ w'.cell? ⟨x8.heap.size, 1, none⟩ = some (.int .i64 kn) ∧ w'.cell? ⟨x8.heap.size, 2, none⟩ = some (.string ks)) (by kernel_rfl) (SB _ (below_drewN (Below.refl _ w8) 1)) (fun hH => ?_)
          refine take_at (i := 0) (v := .int .i64 0) rfl rfl (by kernel_rfl) (by kernel_rfl) (by kernel_rfl) (fun _ _ _ h => h) (Or.inl ⟨by rfl, ?_⟩) hH ?_
          · intro v hv; obtain ⟨_, hv0, hv1, hv2, hv3, hv4, hv5, hv6⟩ := hv; go_simp
          simp only [List.setIfInBounds_toArray, List.set_cons_zero, List.set_cons_succ]
          refine take_at (i := 1) (v := .bool false) rfl rfl (by kernel_rfl) (by kernel_rfl) (by kernel_rfl) (fun _ _ _ h => h) (Or.inl ⟨by rfl, ?_⟩) hH ?_
          · intro v hv; obtain ⟨_, hv0, hv1, hv2, hv3, hv4, hv5, hv6⟩ := hv; go_simp
          simp only [List.setIfInBounds_toArray, List.set_cons_zero, List.set_cons_succ]
          refine take_at (i := 2) (v := .bool false) rfl rfl (by kernel_rfl) (by kernel_rfl) (by kernel_rfl) (fun _ _ _ h => h) (Or.inl ⟨by rfl, ?_⟩) hH ?_
          · intro v hv; obtain ⟨_, hv0, hv1, hv2, hv3, hv4, hv5, hv6⟩ := hv; go_simp
          simp only [List.setIfInBounds_toArray, List.set_cons_zero, List.set_cons_succ]
          refine take_at (i := 3) (v := .pointer (some ⟨w.heap.size, 0, none⟩)) rfl rfl (by kernel_rfl) (by kernel_rfl) (by kernel_rfl) (fun _ _ _ h => h) (Or.inl ⟨by rfl, ?_⟩) hH ?_
          · intro v hv; obtain ⟨_, hv0, hv1, hv2, hv3, hv4, hv5, hv6⟩ := hv; go_simp
          simp only [List.setIfInBounds_toArray, List.set_cons_zero, List.set_cons_succ]
          refine take_at (i := 4) (v := .int .i64 a.ty) rfl rfl (by kernel_rfl) (by kernel_rfl) (by kernel_rfl) (fun _ _ _ h => h) (Or.inl ⟨by rfl, ?_⟩) hH ?_
          · intro v hv; obtain ⟨_, hv0, hv1, hv2, hv3, hv4, hv5, hv6⟩ := hv; go_simp
          simp only [List.setIfInBounds_toArray, List.set_cons_zero, List.set_cons_succ]
          refine take_at (i := 5) (v := .pointer (some ⟨x1.heap.size, 0, none⟩)) rfl rfl (by kernel_rfl) (by kernel_rfl) (by kernel_rfl) (fun _ _ _ h => h) (Or.inl ⟨by rfl, ?_⟩) hH ?_
          · intro v hv; obtain ⟨_, hv0, hv1, hv2, hv3, hv4, hv5, hv6⟩ := hv; go_simp
          simp only [List.setIfInBounds_toArray, List.set_cons_zero, List.set_cons_succ]
          refine take_at (i := 6) (v := .int .i64 st) rfl rfl (by kernel_rfl) (by kernel_rfl) (by kernel_rfl) (fun _ _ _ h => h) (Or.inl ⟨by rfl, ?_⟩) hH ?_
          · intro v hv; obtain ⟨_, hv0, hv1, hv2, hv3, hv4, hv5, hv6⟩ := hv; go_simp
          simp only [List.setIfInBounds_toArray, List.set_cons_zero, List.set_cons_succ]
          refine take_at (i := 7) (v := .bool false) rfl rfl (by kernel_rfl) (by kernel_rfl) (by kernel_rfl) (fun _ _ _ h => h) (Or.inl ⟨by rfl, ?_⟩) hH ?_
          · intro v hv; obtain ⟨_, hv0, hv1, hv2, hv3, hv4, hv5, hv6⟩ := hv; go_simp
          simp only [List.setIfInBounds_toArray, List.set_cons_zero, List.set_cons_succ]
          refine take_at (i := 8) (v := .bool false) rfl rfl (by kernel_rfl) (by kernel_rfl) (by kernel_rfl) (fun _ _ _ h => h) (Or.inl ⟨by rfl, ?_⟩) hH ?_
          · intro v hv; obtain ⟨_, hv0, hv1, hv2, hv3, hv4, hv5, hv6⟩ := hv; go_simp
          simp only [List.setIfInBounds_toArray, List.set_cons_zero, List.set_cons_succ]
          refine take_at (i := 9) (v := undef) rfl rfl (by kernel_rfl) (by kernel_rfl) (by kernel_rfl) (fun _ _ _ h => h) (Or.inr ⟨by rfl, rfl⟩) hH ?_
          simp only [List.setIfInBounds_toArray, List.set_cons_zero, List.set_cons_succ]
          refine take_at (i := 10) (v := undef) rfl rfl (by kernel_rfl) (by kernel_rfl) (by kernel_rfl) (fun _ _ _ h => h) (Or.inr ⟨by rfl, rfl⟩) hH ?_
          simp only [List.setIfInBounds_toArray, List.set_cons_zero, List.set_cons_succ]
          refine take_at (i := 11) (v := undef) rfl rfl (by kernel_rfl) (by kernel_rfl) (by kernel_rfl) (fun _ _ _ h => h) (Or.inr ⟨by rfl, rfl⟩) hH ?_
          simp only [List.setIfInBounds_toArray, List.set_cons_zero, List.set_cons_succ]
          refine take_at (i := 12) (v := undef) rfl rfl (by kernel_rfl) (by kernel_rfl) (by kernel_rfl) (fun _ _ _ h => h) (Or.inr ⟨by rfl, rfl⟩) hH ?_
          simp only [List.setIfInBounds_toArray, List.set_cons_zero, List.set_cons_succ]
          refine take_at (i := 13) (v := .bool false) rfl rfl (by kernel_rfl) (by kernel_rfl) (by kernel_rfl) (fun _ _ _ h => h) (Or.inl ⟨by rfl, ?_⟩) hH ?_
          · intro v hv; obtain ⟨_, hv0, hv1, hv2, hv3, hv4, hv5, hv6⟩ := hv; go_simp
          simp only [List.setIfInBounds_toArray, List.set_cons_zero, List.set_cons_succ]
          refine take_at (i := 14) (v := .bool false) rfl rfl (by kernel_rfl) (by kernel_rfl) (by kernel_rfl) (fun _ _ _ h => h) (Or.inl ⟨by rfl, ?_⟩) hH ?_
          · intro v hv; obtain ⟨_, hv0, hv1, hv2, hv3, hv4, hv5, hv6⟩ := hv; go_simp
          simp only [List.setIfInBounds_toArray, List.set_cons_zero, List.set_cons_succ]
          refine wpAnyH_done (by kernel_rfl) ?_ _
          refine NoPanic.normal ?_
          have BZ := B8.trans (hH.1.mono B8.size)
          go_wp2_with fail
          refine (LV.out _ BZ).mono ?_
          rintro e z1 ⟨rfl, hz1⟩
          go_wp2_with fail
          go_ret
          exact ⟨rfl, BZ.trans (hz1.mono BZ.size)⟩
    · have g2 : (je == 0) = false := by rw [beq_eq_false_iff_ne]; exact hj
      subst hi
      clear hj
      cases be
      · obtain ⟨_, A_0, A_1, A_2⟩ := id A6
        obtain ⟨_, D_0, D_1, D_2⟩ := id D6
        obtain ⟨_, S_0, S_1, S_2⟩ := id S6
        obtain ⟨_, N_0, N_1, N_2⟩ := id N6
        obtain ⟨_, E_0, E_1, E_2⟩ := id E6
        go_wp2_with fail
        generalize x6.alloc (.cells #[.int .i64 dt, .int .i64 dn, .string ds] 23) = w6 at *
        refine (LV.out _ B6).mono ?_
        rintro e z1 ⟨rfl, hz1⟩
        go_wp2_with fail
        go_ret
        exact ⟨rfl, B6.trans (hz1.mono B6.size)⟩
      · have se0 : se = 0 := by simpa using u1
        obtain ⟨ke0, tya, kpl⟩ := LB.out se0
        have PL1 : Hid _ := PLC.out se0
        subst ke0
        clear LB PLC
        obtain ⟨_, A_0, A_1, A_2⟩ := id A6
        obtain ⟨_, D_0, D_1, D_2⟩ := id D6
        obtain ⟨_, S_0, S_1, S_2⟩ := id S6
        obtain ⟨_, N_0, N_1, N_2⟩ := id N6
        obtain ⟨_, E_0, E_1, E_2⟩ := id E6
        go_wp2_with fail
        generalize x6.alloc (.cells #[.int .i64 dt, .int .i64 dn, .string ds] 23) = w6 at *
        clear A_0 A_1 A_2 D_0 D_1 D_2 S_0 S_1 S_2 N_0 N_1 N_2 E_0 E_1 E_2
        clear C7 N6 E6 C5 C6
        refine (C8.out _ B6).mono ?_
        rintro e x7 ⟨rfl, hb7⟩
        have A7 := (A6.below hb7).alloc (.cells #[.int .i64 kt, .int .i64 kn, .string ks] 23)
        have D7 := (D6.below hb7).alloc (.cells #[.int .i64 kt, .int .i64 kn, .string ks] 23)
        have S7 := (S6.below hb7).alloc (.cells #[.int .i64 kt, .int .i64 kn, .string ks] 23)
        have K7 := Bx.new x7 ⟨kt, kn, ks⟩
        have B7 := (B6.trans (hb7.mono B6.size)).alloc (B6.trans (hb7.mono B6.size)).size (.cells #[.int .i64 kt, .int .i64 kn, .string ks] 23)
        clear hb7 B6 A6 D6 S6
        obtain ⟨_, A_0, A_1, A_2⟩ := id A7
        obtain ⟨_, D_0, D_1, D_2⟩ := id D7
        obtain ⟨_, S_0, S_1, S_2⟩ := id S7
        obtain ⟨_, K_0, K_1, K_2⟩ := id K7
        go_wp2_with fail
        generalize x7.alloc (.cells #[.int .i64 kt, .int .i64 kn, .string ks] 23) = w7 at *
        clear A_0 A_1 A_2 D_0 D_1 D_2 S_0 S_1 S_2 K_0 K_1 K_2
        by_cases hty : a.ty = st
        · have te1 : (a.ty == st) = true := by rw [hty]; exact beq_self_eq_true _
          have kp := kpl hty
          have PL2 : Hid (∀ w', Calls Tryd.prog 6 #[.agg #[.int .i64 a.ty, .int .i64 a.n, .string a.s]] w' fun e w'' => e = .returned (.agg #[.int .i64 kt, .int .i64 kn, .string ks]) ∧ Below w'.heap.size w' w'') := fun w' => by
            have := PL1.out w'
            rw [← kp] at this; exact this
          clear PL1 kp kpl tya hty
          have SB : ∀ w', Below w7.heap.size w7 w' → (fun w' => Below w7.heap.size w7 w' ∧ w'.cell? ⟨w.heap.size, 0, none⟩ = some (.int .i64 a.ty) ∧ w'.cell? ⟨w.heap.size, 1, none⟩ = some (.int .i64 a.n) ∧ w'.cell? ⟨w.heap.size, 2, none⟩ = some (.string a.s) ∧ w'.cell? ⟨x1.heap.size, 0, none⟩ = some (.int .i64 st) ∧ w'.cell? ⟨x7.heap.size, 0, none⟩ = some (.int .i64 kt) ∧ w'.cell? ⟨x7.heap.size, 1, none⟩ = some (.int .i64 kn) ∧ w'.cell? ⟨x7.heap.size, 2, none⟩ = some (.string ks)) w' := fun w' h => ⟨h, (A7.below h).c0, (A7.below h).c1, (A7.below h).c2, (S7.below h).c0, (K7.below h).c0, (K7.below h).c1, (K7.below h).c2⟩
          refine wp_region_noPanic ?_
          refine wp_region_held_drew (S := fun w' => Below w7.heap.size w7 w' ∧ w'.cell? ⟨w.heap.size, 0, none⟩ = some (.int .i64 a.ty) ∧ w'.cell? ⟨w.heap.size, 1, none⟩ = some (.int .i64 a.n) ∧ w'.cell? ⟨w.heap.size, 2, none⟩ = some (.string a.s) ∧ w'.cell? ⟨x1.heap.size, 0, none⟩ = some (.int .i64 st) ∧ w'.cell? ⟨x7.heap.size, 0, none⟩ = some (.int .i64 kt) ∧ w'.cell? ⟨x7.heap.size, 1, none⟩ = some (.int .i64 kn) ∧ w'.cell? ⟨x7.heap.size, 2, none⟩ = some (.string ks)) (by kernel_rfl) (SB _ (below_drewN (Below.refl _ w7) 1)) (fun hH => ?_)
          refine take_at (i := 0) (v := .int .i64 0) rfl rfl (by kernel_rfl) (by kernel_rfl) (by kernel_rfl) (fun _ _ _ h => h) (Or.inl ⟨by rfl, ?_⟩) hH ?_
          · intro v hv; obtain ⟨_, hv0, hv1, hv2, hv3, hv4, hv5, hv6⟩ := hv; go_simp
          simp only [List.setIfInBounds_toArray, List.set_cons_zero, List.set_cons_succ]
          refine take_at (i := 1) (v := .bool false) rfl rfl (by kernel_rfl) (by kernel_rfl) (by kernel_rfl) (fun _ _ _ h => h) (Or.inl ⟨by rfl, ?_⟩) hH ?_
          · intro v hv; obtain ⟨_, hv0, hv1, hv2, hv3, hv4, hv5, hv6⟩ := hv; go_simp
          simp only [List.setIfInBounds_toArray, List.set_cons_zero, List.set_cons_succ]
          refine take_at (i := 2) (v := .bool false) rfl rfl (by kernel_rfl) (by kernel_rfl) (by kernel_rfl) (fun _ _ _ h => h) (Or.inl ⟨by rfl, ?_⟩) hH ?_
          · intro v hv; obtain ⟨_, hv0, hv1, hv2, hv3, hv4, hv5, hv6⟩ := hv; go_simp
          simp only [List.setIfInBounds_toArray, List.set_cons_zero, List.set_cons_succ]
          refine take_at (i := 3) (v := .pointer (some ⟨w.heap.size, 0, none⟩)) rfl rfl (by kernel_rfl) (by kernel_rfl) (by kernel_rfl) (fun _ _ _ h => h) (Or.inl ⟨by rfl, ?_⟩) hH ?_
          · intro v hv; obtain ⟨_, hv0, hv1, hv2, hv3, hv4, hv5, hv6⟩ := hv; go_simp
          simp only [List.setIfInBounds_toArray, List.set_cons_zero, List.set_cons_succ]
          refine take_at (i := 4) (v := .int .i64 a.ty) rfl rfl (by kernel_rfl) (by kernel_rfl) (by kernel_rfl) (fun _ _ _ h => h) (Or.inl ⟨by rfl, ?_⟩) hH ?_
          · intro v hv; obtain ⟨_, hv0, hv1, hv2, hv3, hv4, hv5, hv6⟩ := hv; go_simp
          simp only [List.setIfInBounds_toArray, List.set_cons_zero, List.set_cons_succ]
          refine take_at (i := 5) (v := .pointer (some ⟨x1.heap.size, 0, none⟩)) rfl rfl (by kernel_rfl) (by kernel_rfl) (by kernel_rfl) (fun _ _ _ h => h) (Or.inl ⟨by rfl, ?_⟩) hH ?_
          · intro v hv; obtain ⟨_, hv0, hv1, hv2, hv3, hv4, hv5, hv6⟩ := hv; go_simp
          simp only [List.setIfInBounds_toArray, List.set_cons_zero, List.set_cons_succ]
          refine take_at (i := 6) (v := .int .i64 st) rfl rfl (by kernel_rfl) (by kernel_rfl) (by kernel_rfl) (fun _ _ _ h => h) (Or.inl ⟨by rfl, ?_⟩) hH ?_
          · intro v hv; obtain ⟨_, hv0, hv1, hv2, hv3, hv4, hv5, hv6⟩ := hv; go_simp
          simp only [List.setIfInBounds_toArray, List.set_cons_zero, List.set_cons_succ]
          refine take_at (i := 7) (v := .bool true) rfl rfl (by kernel_rfl) (by kernel_rfl) (by kernel_rfl) (fun _ _ _ h => h) (Or.inl ⟨by rfl, ?_⟩) hH ?_
          · intro v hv; obtain ⟨_, hv0, hv1, hv2, hv3, hv4, hv5, hv6⟩ := hv; go_simp
          simp only [List.setIfInBounds_toArray, List.set_cons_zero, List.set_cons_succ]
          refine take_at (i := 8) (v := .bool true) rfl rfl (by kernel_rfl) (by kernel_rfl) (by kernel_rfl) (fun _ _ _ h => h) (Or.inl ⟨by rfl, ?_⟩) hH ?_
          · intro v hv; obtain ⟨_, hv0, hv1, hv2, hv3, hv4, hv5, hv6⟩ := hv; go_simp
          simp only [List.setIfInBounds_toArray, List.set_cons_zero, List.set_cons_succ]
          refine take_at (i := 9) (v := .agg #[.int .i64 kt, .int .i64 kn, .string ks]) rfl rfl (by kernel_rfl) (by kernel_rfl) (by kernel_rfl) (fun _ _ _ h => h) (Or.inl ⟨by rfl, ?_⟩) hH ?_
          · intro v hv; obtain ⟨_, hv0, hv1, hv2, hv3, hv4, hv5, hv6⟩ := hv; go_simp
          simp only [List.setIfInBounds_toArray, List.set_cons_zero, List.set_cons_succ]
          refine take_at (i := 10) (v := .agg #[.int .i64 a.ty, .int .i64 a.n, .string a.s]) rfl rfl (by kernel_rfl) (by kernel_rfl) (by kernel_rfl) (fun _ _ _ h => h) (Or.inl ⟨by rfl, ?_⟩) hH ?_
          · intro v hv; obtain ⟨_, hv0, hv1, hv2, hv3, hv4, hv5, hv6⟩ := hv; go_simp
          simp only [List.setIfInBounds_toArray, List.set_cons_zero, List.set_cons_succ]
          refine wpAnyH_ready (rs := [11]) (by kernel_rfl) (by simp) ?_
          refine AllReadyH.cons rfl (fun K hK => ?_) AllReadyH.nil
          go_simp
          go_at_call 6
          refine (PL2.out _).mono ?_
          rintro e y1 ⟨rfl, hy1⟩
          go_wp2_with fail
          have hH2 := SB _ (hH.1.trans (hy1.mono hH.1.size))
          refine hK.out _ _ hH2 (fun _ => ?_)
          clear hK K hH hy1
          have hH := hH2
          clear hH2
          refine take_at (i := 12) (v := .bool false) rfl rfl (by kernel_rfl) (by kernel_rfl) (by kernel_rfl) (fun _ _ _ h => h) (Or.inl ⟨by rfl, ?_⟩) hH ?_
          · intro v hv; obtain ⟨_, hv0, hv1, hv2, hv3, hv4, hv5, hv6⟩ := hv; go_simp
          simp only [List.setIfInBounds_toArray, List.set_cons_zero, List.set_cons_succ]
          refine take_at (i := 13) (v := .bool false) rfl rfl (by kernel_rfl) (by kernel_rfl) (by kernel_rfl) (fun _ _ _ h => h) (Or.inl ⟨by rfl, ?_⟩) hH ?_
          · intro v hv; obtain ⟨_, hv0, hv1, hv2, hv3, hv4, hv5, hv6⟩ := hv; go_simp
          simp only [List.setIfInBounds_toArray, List.set_cons_zero, List.set_cons_succ]
          refine take_at (i := 14) (v := .bool false) rfl rfl (by kernel_rfl) (by kernel_rfl) (by kernel_rfl) (fun _ _ _ h => h) (Or.inl ⟨by rfl, ?_⟩) hH ?_
          · intro v hv; obtain ⟨_, hv0, hv1, hv2, hv3, hv4, hv5, hv6⟩ := hv; go_simp
          simp only [List.setIfInBounds_toArray, List.set_cons_zero, List.set_cons_succ]
          refine wpAnyH_done (by kernel_rfl) ?_ _
          refine NoPanic.normal ?_
          have BZ := B7.trans (hH.1.mono B7.size)
          go_wp2_with fail
          refine (LV.out _ BZ).mono ?_
          rintro e z1 ⟨rfl, hz1⟩
          go_wp2_with fail
          go_ret
          exact ⟨rfl, BZ.trans (hz1.mono BZ.size)⟩
        · have te1 : (a.ty == st) = false := by rw [beq_eq_false_iff_ne]; exact hty
          clear PL1 kpl tya hty
          have SB : ∀ w', Below w7.heap.size w7 w' → (fun w' => Below w7.heap.size w7 w' ∧ w'.cell? ⟨w.heap.size, 0, none⟩ = some (.int .i64 a.ty) ∧ w'.cell? ⟨w.heap.size, 1, none⟩ = some (.int .i64 a.n) ∧ w'.cell? ⟨w.heap.size, 2, none⟩ = some (.string a.s) ∧ w'.cell? ⟨x1.heap.size, 0, none⟩ = some (.int .i64 st) ∧ w'.cell? ⟨x7.heap.size, 0, none⟩ = some (.int .i64 kt) ∧ w'.cell? ⟨x7.heap.size, 1, none⟩ = some (.int .i64 kn) ∧ w'.cell? ⟨x7.heap.size, 2, none⟩ = some (.string ks)) w' := fun w' h => ⟨h, (A7.below h).c0, (A7.below h).c1, (A7.below h).c2, (S7.below h).c0, (K7.below h).c0, (K7.below h).c1, (K7.below h).c2⟩
          refine wp_region_noPanic ?_
          refine wp_region_held_drew (S := fun w' => Below w7.heap.size w7 w' ∧ w'.cell? ⟨w.heap.size, 0, none⟩ = some (.int .i64 a.ty) ∧ w'.cell? ⟨w.heap.size, 1, none⟩ = some (.int .i64 a.n) ∧ w'.cell? ⟨w.heap.size, 2, none⟩ = some (.string a.s) ∧ w'.cell? ⟨x1.heap.size, 0, none⟩ = some (.int .i64 st) ∧ w'.cell? ⟨x7.heap.size, 0, none⟩ = some (.int .i64 kt) ∧ w'.cell? ⟨x7.heap.size, 1, none⟩ = some (.int .i64 kn) ∧ w'.cell? ⟨x7.heap.size, 2, none⟩ = some (.string ks)) (by kernel_rfl) (SB _ (below_drewN (Below.refl _ w7) 1)) (fun hH => ?_)
          refine take_at (i := 0) (v := .int .i64 0) rfl rfl (by kernel_rfl) (by kernel_rfl) (by kernel_rfl) (fun _ _ _ h => h) (Or.inl ⟨by rfl, ?_⟩) hH ?_
          · intro v hv; obtain ⟨_, hv0, hv1, hv2, hv3, hv4, hv5, hv6⟩ := hv; go_simp
          simp only [List.setIfInBounds_toArray, List.set_cons_zero, List.set_cons_succ]
          refine take_at (i := 1) (v := .bool false) rfl rfl (by kernel_rfl) (by kernel_rfl) (by kernel_rfl) (fun _ _ _ h => h) (Or.inl ⟨by rfl, ?_⟩) hH ?_
          · intro v hv; obtain ⟨_, hv0, hv1, hv2, hv3, hv4, hv5, hv6⟩ := hv; go_simp
          simp only [List.setIfInBounds_toArray, List.set_cons_zero, List.set_cons_succ]
          refine take_at (i := 2) (v := .bool false) rfl rfl (by kernel_rfl) (by kernel_rfl) (by kernel_rfl) (fun _ _ _ h => h) (Or.inl ⟨by rfl, ?_⟩) hH ?_
          · intro v hv; obtain ⟨_, hv0, hv1, hv2, hv3, hv4, hv5, hv6⟩ := hv; go_simp
          simp only [List.setIfInBounds_toArray, List.set_cons_zero, List.set_cons_succ]
          refine take_at (i := 3) (v := .pointer (some ⟨w.heap.size, 0, none⟩)) rfl rfl (by kernel_rfl) (by kernel_rfl) (by kernel_rfl) (fun _ _ _ h => h) (Or.inl ⟨by rfl, ?_⟩) hH ?_
          · intro v hv; obtain ⟨_, hv0, hv1, hv2, hv3, hv4, hv5, hv6⟩ := hv; go_simp
          simp only [List.setIfInBounds_toArray, List.set_cons_zero, List.set_cons_succ]
          refine take_at (i := 4) (v := .int .i64 a.ty) rfl rfl (by kernel_rfl) (by kernel_rfl) (by kernel_rfl) (fun _ _ _ h => h) (Or.inl ⟨by rfl, ?_⟩) hH ?_
          · intro v hv; obtain ⟨_, hv0, hv1, hv2, hv3, hv4, hv5, hv6⟩ := hv; go_simp
          simp only [List.setIfInBounds_toArray, List.set_cons_zero, List.set_cons_succ]
          refine take_at (i := 5) (v := .pointer (some ⟨x1.heap.size, 0, none⟩)) rfl rfl (by kernel_rfl) (by kernel_rfl) (by kernel_rfl) (fun _ _ _ h => h) (Or.inl ⟨by rfl, ?_⟩) hH ?_
          · intro v hv; obtain ⟨_, hv0, hv1, hv2, hv3, hv4, hv5, hv6⟩ := hv; go_simp
          simp only [List.setIfInBounds_toArray, List.set_cons_zero, List.set_cons_succ]
          refine take_at (i := 6) (v := .int .i64 st) rfl rfl (by kernel_rfl) (by kernel_rfl) (by kernel_rfl) (fun _ _ _ h => h) (Or.inl ⟨by rfl, ?_⟩) hH ?_
          · intro v hv; obtain ⟨_, hv0, hv1, hv2, hv3, hv4, hv5, hv6⟩ := hv; go_simp
          simp only [List.setIfInBounds_toArray, List.set_cons_zero, List.set_cons_succ]
          refine take_at (i := 7) (v := .bool false) rfl rfl (by kernel_rfl) (by kernel_rfl) (by kernel_rfl) (fun _ _ _ h => h) (Or.inl ⟨by rfl, ?_⟩) hH ?_
          · intro v hv; obtain ⟨_, hv0, hv1, hv2, hv3, hv4, hv5, hv6⟩ := hv; go_simp
          simp only [List.setIfInBounds_toArray, List.set_cons_zero, List.set_cons_succ]
          refine take_at (i := 8) (v := .bool false) rfl rfl (by kernel_rfl) (by kernel_rfl) (by kernel_rfl) (fun _ _ _ h => h) (Or.inl ⟨by rfl, ?_⟩) hH ?_
          · intro v hv; obtain ⟨_, hv0, hv1, hv2, hv3, hv4, hv5, hv6⟩ := hv; go_simp
          simp only [List.setIfInBounds_toArray, List.set_cons_zero, List.set_cons_succ]
          refine take_at (i := 9) (v := undef) rfl rfl (by kernel_rfl) (by kernel_rfl) (by kernel_rfl) (fun _ _ _ h => h) (Or.inr ⟨by rfl, rfl⟩) hH ?_
          simp only [List.setIfInBounds_toArray, List.set_cons_zero, List.set_cons_succ]
          refine take_at (i := 10) (v := undef) rfl rfl (by kernel_rfl) (by kernel_rfl) (by kernel_rfl) (fun _ _ _ h => h) (Or.inr ⟨by rfl, rfl⟩) hH ?_
          simp only [List.setIfInBounds_toArray, List.set_cons_zero, List.set_cons_succ]
          refine take_at (i := 11) (v := undef) rfl rfl (by kernel_rfl) (by kernel_rfl) (by kernel_rfl) (fun _ _ _ h => h) (Or.inr ⟨by rfl, rfl⟩) hH ?_
          simp only [List.setIfInBounds_toArray, List.set_cons_zero, List.set_cons_succ]
          refine take_at (i := 12) (v := undef) rfl rfl (by kernel_rfl) (by kernel_rfl) (by kernel_rfl) (fun _ _ _ h => h) (Or.inr ⟨by rfl, rfl⟩) hH ?_
          simp only [List.setIfInBounds_toArray, List.set_cons_zero, List.set_cons_succ]
          refine take_at (i := 13) (v := .bool false) rfl rfl (by kernel_rfl) (by kernel_rfl) (by kernel_rfl) (fun _ _ _ h => h) (Or.inl ⟨by rfl, ?_⟩) hH ?_
          · intro v hv; obtain ⟨_, hv0, hv1, hv2, hv3, hv4, hv5, hv6⟩ := hv; go_simp
          simp only [List.setIfInBounds_toArray, List.set_cons_zero, List.set_cons_succ]
          refine take_at (i := 14) (v := .bool false) rfl rfl (by kernel_rfl) (by kernel_rfl) (by kernel_rfl) (fun _ _ _ h => h) (Or.inl ⟨by rfl, ?_⟩) hH ?_
          · intro v hv; obtain ⟨_, hv0, hv1, hv2, hv3, hv4, hv5, hv6⟩ := hv; go_simp
          simp only [List.setIfInBounds_toArray, List.set_cons_zero, List.set_cons_succ]
          refine wpAnyH_done (by kernel_rfl) ?_ _
          refine NoPanic.normal ?_
          have BZ := B7.trans (hH.1.mono B7.size)
          go_wp2_with fail
          refine (LV.out _ BZ).mono ?_
          rintro e z1 ⟨rfl, hz1⟩
          go_wp2_with fail
          go_ret
          exact ⟨rfl, BZ.trans (hz1.mono BZ.size)⟩
  · have g1 : (ie == 0) = false := by rw [beq_eq_false_iff_ne]; exact hi
    clear hi
    cases be
    · obtain ⟨_, A_0, A_1, A_2⟩ := id A6
      obtain ⟨_, D_0, D_1, D_2⟩ := id D6
      obtain ⟨_, S_0, S_1, S_2⟩ := id S6
      obtain ⟨_, N_0, N_1, N_2⟩ := id N6
      obtain ⟨_, E_0, E_1, E_2⟩ := id E6
      go_wp2_with fail
      generalize x6.alloc (.cells #[.int .i64 dt, .int .i64 dn, .string ds] 23) = w6 at *
      refine (LV.out _ B6).mono ?_
      rintro e z1 ⟨rfl, hz1⟩
      go_wp2_with fail
      go_ret
      exact ⟨rfl, B6.trans (hz1.mono B6.size)⟩
    · have se0 : se = 0 := by simpa using u1
      obtain ⟨ke0, tya, kpl⟩ := LB.out se0
      have PL1 : Hid _ := PLC.out se0
      subst ke0
      clear LB PLC
      obtain ⟨_, A_0, A_1, A_2⟩ := id A6
      obtain ⟨_, D_0, D_1, D_2⟩ := id D6
      obtain ⟨_, S_0, S_1, S_2⟩ := id S6
      obtain ⟨_, N_0, N_1, N_2⟩ := id N6
      obtain ⟨_, E_0, E_1, E_2⟩ := id E6
      go_wp2_with fail
      generalize x6.alloc (.cells #[.int .i64 dt, .int .i64 dn, .string ds] 23) = w6 at *
      clear A_0 A_1 A_2 D_0 D_1 D_2 S_0 S_1 S_2 N_0 N_1 N_2 E_0 E_1 E_2
      clear C7 N6 E6 C5 C6
      refine (C8.out _ B6).mono ?_
      rintro e x7 ⟨rfl, hb7⟩
      have A7 := (A6.below hb7).alloc (.cells #[.int .i64 kt, .int .i64 kn, .string ks] 23)
      have D7 := (D6.below hb7).alloc (.cells #[.int .i64 kt, .int .i64 kn, .string ks] 23)
      have S7 := (S6.below hb7).alloc (.cells #[.int .i64 kt, .int .i64 kn, .string ks] 23)
      have K7 := Bx.new x7 ⟨kt, kn, ks⟩
      have B7 := (B6.trans (hb7.mono B6.size)).alloc (B6.trans (hb7.mono B6.size)).size (.cells #[.int .i64 kt, .int .i64 kn, .string ks] 23)
      clear hb7 B6 A6 D6 S6
      obtain ⟨_, A_0, A_1, A_2⟩ := id A7
      obtain ⟨_, D_0, D_1, D_2⟩ := id D7
      obtain ⟨_, S_0, S_1, S_2⟩ := id S7
      obtain ⟨_, K_0, K_1, K_2⟩ := id K7
      go_wp2_with fail
      generalize x7.alloc (.cells #[.int .i64 kt, .int .i64 kn, .string ks] 23) = w7 at *
      clear A_0 A_1 A_2 D_0 D_1 D_2 S_0 S_1 S_2 K_0 K_1 K_2
      by_cases hty : a.ty = st
      · have te1 : (a.ty == st) = true := by rw [hty]; exact beq_self_eq_true _
        have kp := kpl hty
        have PL2 : Hid (∀ w', Calls Tryd.prog 6 #[.agg #[.int .i64 a.ty, .int .i64 a.n, .string a.s]] w' fun e w'' => e = .returned (.agg #[.int .i64 kt, .int .i64 kn, .string ks]) ∧ Below w'.heap.size w' w'') := fun w' => by
          have := PL1.out w'
          rw [← kp] at this; exact this
        clear PL1 kp kpl tya hty
        have SB : ∀ w', Below w7.heap.size w7 w' → (fun w' => Below w7.heap.size w7 w' ∧ w'.cell? ⟨w.heap.size, 0, none⟩ = some (.int .i64 a.ty) ∧ w'.cell? ⟨w.heap.size, 1, none⟩ = some (.int .i64 a.n) ∧ w'.cell? ⟨w.heap.size, 2, none⟩ = some (.string a.s) ∧ w'.cell? ⟨x1.heap.size, 0, none⟩ = some (.int .i64 st) ∧ w'.cell? ⟨x7.heap.size, 0, none⟩ = some (.int .i64 kt) ∧ w'.cell? ⟨x7.heap.size, 1, none⟩ = some (.int .i64 kn) ∧ w'.cell? ⟨x7.heap.size, 2, none⟩ = some (.string ks)) w' := fun w' h => ⟨h, (A7.below h).c0, (A7.below h).c1, (A7.below h).c2, (S7.below h).c0, (K7.below h).c0, (K7.below h).c1, (K7.below h).c2⟩
        refine wp_region_noPanic ?_
        refine wp_region_held_drew (S := fun w' => Below w7.heap.size w7 w' ∧ w'.cell? ⟨w.heap.size, 0, none⟩ = some (.int .i64 a.ty) ∧ w'.cell? ⟨w.heap.size, 1, none⟩ = some (.int .i64 a.n) ∧ w'.cell? ⟨w.heap.size, 2, none⟩ = some (.string a.s) ∧ w'.cell? ⟨x1.heap.size, 0, none⟩ = some (.int .i64 st) ∧ w'.cell? ⟨x7.heap.size, 0, none⟩ = some (.int .i64 kt) ∧ w'.cell? ⟨x7.heap.size, 1, none⟩ = some (.int .i64 kn) ∧ w'.cell? ⟨x7.heap.size, 2, none⟩ = some (.string ks)) (by kernel_rfl) (SB _ (below_drewN (Below.refl _ w7) 1)) (fun hH => ?_)
        refine take_at (i := 0) (v := .int .i64 0) rfl rfl (by kernel_rfl) (by kernel_rfl) (by kernel_rfl) (fun _ _ _ h => h) (Or.inl ⟨by rfl, ?_⟩) hH ?_
        · intro v hv; obtain ⟨_, hv0, hv1, hv2, hv3, hv4, hv5, hv6⟩ := hv; go_simp
        simp only [List.setIfInBounds_toArray, List.set_cons_zero, List.set_cons_succ]
        refine take_at (i := 1) (v := .bool false) rfl rfl (by kernel_rfl) (by kernel_rfl) (by kernel_rfl) (fun _ _ _ h => h) (Or.inl ⟨by rfl, ?_⟩) hH ?_
        · intro v hv; obtain ⟨_, hv0, hv1, hv2, hv3, hv4, hv5, hv6⟩ := hv; go_simp
        simp only [List.setIfInBounds_toArray, List.set_cons_zero, List.set_cons_succ]
        refine take_at (i := 2) (v := .bool false) rfl rfl (by kernel_rfl) (by kernel_rfl) (by kernel_rfl) (fun _ _ _ h => h) (Or.inl ⟨by rfl, ?_⟩) hH ?_
        · intro v hv; obtain ⟨_, hv0, hv1, hv2, hv3, hv4, hv5, hv6⟩ := hv; go_simp
        simp only [List.setIfInBounds_toArray, List.set_cons_zero, List.set_cons_succ]
        refine take_at (i := 3) (v := .pointer (some ⟨w.heap.size, 0, none⟩)) rfl rfl (by kernel_rfl) (by kernel_rfl) (by kernel_rfl) (fun _ _ _ h => h) (Or.inl ⟨by rfl, ?_⟩) hH ?_
        · intro v hv; obtain ⟨_, hv0, hv1, hv2, hv3, hv4, hv5, hv6⟩ := hv; go_simp
        simp only [List.setIfInBounds_toArray, List.set_cons_zero, List.set_cons_succ]
        refine take_at (i := 4) (v := .int .i64 a.ty) rfl rfl (by kernel_rfl) (by kernel_rfl) (by kernel_rfl) (fun _ _ _ h => h) (Or.inl ⟨by rfl, ?_⟩) hH ?_
        · intro v hv; obtain ⟨_, hv0, hv1, hv2, hv3, hv4, hv5, hv6⟩ := hv; go_simp
        simp only [List.setIfInBounds_toArray, List.set_cons_zero, List.set_cons_succ]
        refine take_at (i := 5) (v := .pointer (some ⟨x1.heap.size, 0, none⟩)) rfl rfl (by kernel_rfl) (by kernel_rfl) (by kernel_rfl) (fun _ _ _ h => h) (Or.inl ⟨by rfl, ?_⟩) hH ?_
        · intro v hv; obtain ⟨_, hv0, hv1, hv2, hv3, hv4, hv5, hv6⟩ := hv; go_simp
        simp only [List.setIfInBounds_toArray, List.set_cons_zero, List.set_cons_succ]
        refine take_at (i := 6) (v := .int .i64 st) rfl rfl (by kernel_rfl) (by kernel_rfl) (by kernel_rfl) (fun _ _ _ h => h) (Or.inl ⟨by rfl, ?_⟩) hH ?_
        · intro v hv; obtain ⟨_, hv0, hv1, hv2, hv3, hv4, hv5, hv6⟩ := hv; go_simp
        simp only [List.setIfInBounds_toArray, List.set_cons_zero, List.set_cons_succ]
        refine take_at (i := 7) (v := .bool true) rfl rfl (by kernel_rfl) (by kernel_rfl) (by kernel_rfl) (fun _ _ _ h => h) (Or.inl ⟨by rfl, ?_⟩) hH ?_
        · intro v hv; obtain ⟨_, hv0, hv1, hv2, hv3, hv4, hv5, hv6⟩ := hv; go_simp
        simp only [List.setIfInBounds_toArray, List.set_cons_zero, List.set_cons_succ]
        refine take_at (i := 8) (v := .bool true) rfl rfl (by kernel_rfl) (by kernel_rfl) (by kernel_rfl) (fun _ _ _ h => h) (Or.inl ⟨by rfl, ?_⟩) hH ?_
        · intro v hv; obtain ⟨_, hv0, hv1, hv2, hv3, hv4, hv5, hv6⟩ := hv; go_simp
        simp only [List.setIfInBounds_toArray, List.set_cons_zero, List.set_cons_succ]
        refine take_at (i := 9) (v := .agg #[.int .i64 kt, .int .i64 kn, .string ks]) rfl rfl (by kernel_rfl) (by kernel_rfl) (by kernel_rfl) (fun _ _ _ h => h) (Or.inl ⟨by rfl, ?_⟩) hH ?_
        · intro v hv; obtain ⟨_, hv0, hv1, hv2, hv3, hv4, hv5, hv6⟩ := hv; go_simp
        simp only [List.setIfInBounds_toArray, List.set_cons_zero, List.set_cons_succ]
        refine take_at (i := 10) (v := .agg #[.int .i64 a.ty, .int .i64 a.n, .string a.s]) rfl rfl (by kernel_rfl) (by kernel_rfl) (by kernel_rfl) (fun _ _ _ h => h) (Or.inl ⟨by rfl, ?_⟩) hH ?_
        · intro v hv; obtain ⟨_, hv0, hv1, hv2, hv3, hv4, hv5, hv6⟩ := hv; go_simp
        simp only [List.setIfInBounds_toArray, List.set_cons_zero, List.set_cons_succ]
        refine wpAnyH_ready (rs := [11]) (by kernel_rfl) (by simp) ?_
        refine AllReadyH.cons rfl (fun K hK => ?_) AllReadyH.nil
        go_simp
        go_at_call 6
        refine (PL2.out _).mono ?_
        rintro e y1 ⟨rfl, hy1⟩
        go_wp2_with fail
        have hH2 := SB _ (hH.1.trans (hy1.mono hH.1.size))
        refine hK.out _ _ hH2 (fun _ => ?_)
        clear hK K hH hy1
        have hH := hH2
        clear hH2
        refine take_at (i := 12) (v := .bool false) rfl rfl (by kernel_rfl) (by kernel_rfl) (by kernel_rfl) (fun _ _ _ h => h) (Or.inl ⟨by rfl, ?_⟩) hH ?_
        · intro v hv; obtain ⟨_, hv0, hv1, hv2, hv3, hv4, hv5, hv6⟩ := hv; go_simp
        simp only [List.setIfInBounds_toArray, List.set_cons_zero, List.set_cons_succ]
        refine take_at (i := 13) (v := .bool false) rfl rfl (by kernel_rfl) (by kernel_rfl) (by kernel_rfl) (fun _ _ _ h => h) (Or.inl ⟨by rfl, ?_⟩) hH ?_
        · intro v hv; obtain ⟨_, hv0, hv1, hv2, hv3, hv4, hv5, hv6⟩ := hv; go_simp
        simp only [List.setIfInBounds_toArray, List.set_cons_zero, List.set_cons_succ]
        refine take_at (i := 14) (v := .bool false) rfl rfl (by kernel_rfl) (by kernel_rfl) (by kernel_rfl) (fun _ _ _ h => h) (Or.inl ⟨by rfl, ?_⟩) hH ?_
        · intro v hv; obtain ⟨_, hv0, hv1, hv2, hv3, hv4, hv5, hv6⟩ := hv; go_simp
        simp only [List.setIfInBounds_toArray, List.set_cons_zero, List.set_cons_succ]
        refine wpAnyH_done (by kernel_rfl) ?_ _
        refine NoPanic.normal ?_
        have BZ := B7.trans (hH.1.mono B7.size)
        go_wp2_with fail
        refine (LV.out _ BZ).mono ?_
        rintro e z1 ⟨rfl, hz1⟩
        go_wp2_with fail
        go_ret
        exact ⟨rfl, BZ.trans (hz1.mono BZ.size)⟩
      · have te1 : (a.ty == st) = false := by rw [beq_eq_false_iff_ne]; exact hty
        clear PL1 kpl tya hty
        have SB : ∀ w', Below w7.heap.size w7 w' → (fun w' => Below w7.heap.size w7 w' ∧ w'.cell? ⟨w.heap.size, 0, none⟩ = some (.int .i64 a.ty) ∧ w'.cell? ⟨w.heap.size, 1, none⟩ = some (.int .i64 a.n) ∧ w'.cell? ⟨w.heap.size, 2, none⟩ = some (.string a.s) ∧ w'.cell? ⟨x1.heap.size, 0, none⟩ = some (.int .i64 st) ∧ w'.cell? ⟨x7.heap.size, 0, none⟩ = some (.int .i64 kt) ∧ w'.cell? ⟨x7.heap.size, 1, none⟩ = some (.int .i64 kn) ∧ w'.cell? ⟨x7.heap.size, 2, none⟩ = some (.string ks)) w' := fun w' h => ⟨h, (A7.below h).c0, (A7.below h).c1, (A7.below h).c2, (S7.below h).c0, (K7.below h).c0, (K7.below h).c1, (K7.below h).c2⟩
        refine wp_region_noPanic ?_
        refine wp_region_held_drew (S := fun w' => Below w7.heap.size w7 w' ∧ w'.cell? ⟨w.heap.size, 0, none⟩ = some (.int .i64 a.ty) ∧ w'.cell? ⟨w.heap.size, 1, none⟩ = some (.int .i64 a.n) ∧ w'.cell? ⟨w.heap.size, 2, none⟩ = some (.string a.s) ∧ w'.cell? ⟨x1.heap.size, 0, none⟩ = some (.int .i64 st) ∧ w'.cell? ⟨x7.heap.size, 0, none⟩ = some (.int .i64 kt) ∧ w'.cell? ⟨x7.heap.size, 1, none⟩ = some (.int .i64 kn) ∧ w'.cell? ⟨x7.heap.size, 2, none⟩ = some (.string ks)) (by kernel_rfl) (SB _ (below_drewN (Below.refl _ w7) 1)) (fun hH => ?_)
        refine take_at (i := 0) (v := .int .i64 0) rfl rfl (by kernel_rfl) (by kernel_rfl) (by kernel_rfl) (fun _ _ _ h => h) (Or.inl ⟨by rfl, ?_⟩) hH ?_
        · intro v hv; obtain ⟨_, hv0, hv1, hv2, hv3, hv4, hv5, hv6⟩ := hv; go_simp
        simp only [List.setIfInBounds_toArray, List.set_cons_zero, List.set_cons_succ]
        refine take_at (i := 1) (v := .bool false) rfl rfl (by kernel_rfl) (by kernel_rfl) (by kernel_rfl) (fun _ _ _ h => h) (Or.inl ⟨by rfl, ?_⟩) hH ?_
        · intro v hv; obtain ⟨_, hv0, hv1, hv2, hv3, hv4, hv5, hv6⟩ := hv; go_simp
        simp only [List.setIfInBounds_toArray, List.set_cons_zero, List.set_cons_succ]
        refine take_at (i := 2) (v := .bool false) rfl rfl (by kernel_rfl) (by kernel_rfl) (by kernel_rfl) (fun _ _ _ h => h) (Or.inl ⟨by rfl, ?_⟩) hH ?_
        · intro v hv; obtain ⟨_, hv0, hv1, hv2, hv3, hv4, hv5, hv6⟩ := hv; go_simp
        simp only [List.setIfInBounds_toArray, List.set_cons_zero, List.set_cons_succ]
        refine take_at (i := 3) (v := .pointer (some ⟨w.heap.size, 0, none⟩)) rfl rfl (by kernel_rfl) (by kernel_rfl) (by kernel_rfl) (fun _ _ _ h => h) (Or.inl ⟨by rfl, ?_⟩) hH ?_
        · intro v hv; obtain ⟨_, hv0, hv1, hv2, hv3, hv4, hv5, hv6⟩ := hv; go_simp
        simp only [List.setIfInBounds_toArray, List.set_cons_zero, List.set_cons_succ]
        refine take_at (i := 4) (v := .int .i64 a.ty) rfl rfl (by kernel_rfl) (by kernel_rfl) (by kernel_rfl) (fun _ _ _ h => h) (Or.inl ⟨by rfl, ?_⟩) hH ?_
        · intro v hv; obtain ⟨_, hv0, hv1, hv2, hv3, hv4, hv5, hv6⟩ := hv; go_simp
        simp only [List.setIfInBounds_toArray, List.set_cons_zero, List.set_cons_succ]
        refine take_at (i := 5) (v := .pointer (some ⟨x1.heap.size, 0, none⟩)) rfl rfl (by kernel_rfl) (by kernel_rfl) (by kernel_rfl) (fun _ _ _ h => h) (Or.inl ⟨by rfl, ?_⟩) hH ?_
        · intro v hv; obtain ⟨_, hv0, hv1, hv2, hv3, hv4, hv5, hv6⟩ := hv; go_simp
        simp only [List.setIfInBounds_toArray, List.set_cons_zero, List.set_cons_succ]
        refine take_at (i := 6) (v := .int .i64 st) rfl rfl (by kernel_rfl) (by kernel_rfl) (by kernel_rfl) (fun _ _ _ h => h) (Or.inl ⟨by rfl, ?_⟩) hH ?_
        · intro v hv; obtain ⟨_, hv0, hv1, hv2, hv3, hv4, hv5, hv6⟩ := hv; go_simp
        simp only [List.setIfInBounds_toArray, List.set_cons_zero, List.set_cons_succ]
        refine take_at (i := 7) (v := .bool false) rfl rfl (by kernel_rfl) (by kernel_rfl) (by kernel_rfl) (fun _ _ _ h => h) (Or.inl ⟨by rfl, ?_⟩) hH ?_
        · intro v hv; obtain ⟨_, hv0, hv1, hv2, hv3, hv4, hv5, hv6⟩ := hv; go_simp
        simp only [List.setIfInBounds_toArray, List.set_cons_zero, List.set_cons_succ]
        refine take_at (i := 8) (v := .bool false) rfl rfl (by kernel_rfl) (by kernel_rfl) (by kernel_rfl) (fun _ _ _ h => h) (Or.inl ⟨by rfl, ?_⟩) hH ?_
        · intro v hv; obtain ⟨_, hv0, hv1, hv2, hv3, hv4, hv5, hv6⟩ := hv; go_simp
        simp only [List.setIfInBounds_toArray, List.set_cons_zero, List.set_cons_succ]
        refine take_at (i := 9) (v := undef) rfl rfl (by kernel_rfl) (by kernel_rfl) (by kernel_rfl) (fun _ _ _ h => h) (Or.inr ⟨by rfl, rfl⟩) hH ?_
        simp only [List.setIfInBounds_toArray, List.set_cons_zero, List.set_cons_succ]
        refine take_at (i := 10) (v := undef) rfl rfl (by kernel_rfl) (by kernel_rfl) (by kernel_rfl) (fun _ _ _ h => h) (Or.inr ⟨by rfl, rfl⟩) hH ?_
        simp only [List.setIfInBounds_toArray, List.set_cons_zero, List.set_cons_succ]
        refine take_at (i := 11) (v := undef) rfl rfl (by kernel_rfl) (by kernel_rfl) (by kernel_rfl) (fun _ _ _ h => h) (Or.inr ⟨by rfl, rfl⟩) hH ?_
        simp only [List.setIfInBounds_toArray, List.set_cons_zero, List.set_cons_succ]
        refine take_at (i := 12) (v := undef) rfl rfl (by kernel_rfl) (by kernel_rfl) (by kernel_rfl) (fun _ _ _ h => h) (Or.inr ⟨by rfl, rfl⟩) hH ?_
        simp only [List.setIfInBounds_toArray, List.set_cons_zero, List.set_cons_succ]
        refine take_at (i := 13) (v := .bool false) rfl rfl (by kernel_rfl) (by kernel_rfl) (by kernel_rfl) (fun _ _ _ h => h) (Or.inl ⟨by rfl, ?_⟩) hH ?_
        · intro v hv; obtain ⟨_, hv0, hv1, hv2, hv3, hv4, hv5, hv6⟩ := hv; go_simp
        simp only [List.setIfInBounds_toArray, List.set_cons_zero, List.set_cons_succ]
        refine take_at (i := 14) (v := .bool false) rfl rfl (by kernel_rfl) (by kernel_rfl) (by kernel_rfl) (fun _ _ _ h => h) (Or.inl ⟨by rfl, ?_⟩) hH ?_
        · intro v hv; obtain ⟨_, hv0, hv1, hv2, hv3, hv4, hv5, hv6⟩ := hv; go_simp
        simp only [List.setIfInBounds_toArray, List.set_cons_zero, List.set_cons_succ]
        refine wpAnyH_done (by kernel_rfl) ?_ _
        refine NoPanic.normal ?_
        have BZ := B7.trans (hH.1.mono B7.size)
        go_wp2_with fail
        refine (LV.out _ BZ).mono ?_
        rintro e z1 ⟨rfl, hz1⟩
        go_wp2_with fail
        go_ret
        exact ⟨rfl, BZ.trans (hz1.mono BZ.size)⟩
end Go.Proofs.YtjkaokbabplebaaDoor
