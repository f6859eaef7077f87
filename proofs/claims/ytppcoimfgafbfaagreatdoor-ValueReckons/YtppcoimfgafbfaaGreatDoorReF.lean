/-
  The walk of value.Reckon, at a quotient and at no sign.
-/
import Derived.Test.YtppcoimfgafbfaaGreatDoorReE
namespace Go.Proofs.YtppcoimfgafbfaaGreatDoor
open Go.RowKit Go.Shelf

set_option maxHeartbeats 4000000 in
set_option maxRecDepth 1000000 in
theorem Reckon_div (a b : Va) (w : World) (fa : fit a.n) (fb : fit b.n) (sa : a.s.size ≤ 9223372036854775807) (sb : b.s.size ≤ 9223372036854775807) (hT : Tabs w) :
    Calls Tryz.prog 4 #[.string ⟨#[47]⟩, .agg #[.int .i64 a.ty, .int .i64 a.n, .string a.s], .agg #[.int .i64 b.ty, .int .i64 b.n, .string b.s]] w fun e w' => e = .returned (ans (rk2 divW divP a b)) ∧ Below w.heap.size w w' := by
  have F0 : Hid _ := Fr.new w a b ⟨0, 0, ⟨#[]⟩⟩
  have B0 : Hid _ := (((Below.refl _ w).alloc (Nat.le_refl _) (.cells #[.int .i64 a.ty, .int .i64 a.n, .string a.s] 23)).alloc (by simp) (.cells #[.int .i64 b.ty, .int .i64 b.n, .string b.s] 23)).alloc (by simp; omega) (.cells #[.int .i64 0, .int .i64 0, .string ⟨#[]⟩] 23)
  have V0 : Hid _ := valsAt_two3 w (.cells #[.int .i64 a.ty, .int .i64 a.n, .string a.s] 23) (.cells #[.int .i64 b.ty, .int .i64 b.n, .string b.s] 23) (.cells #[.int .i64 0, .int .i64 0, .string ⟨#[]⟩] 23) a.ty a.n a.s b.ty b.n b.s
  have CN : Hid (∀ g w, valsAt w g [a, b] → Tabs w → Calls Tryz.prog 9 #[.slice (some ⟨g, 0, none⟩) 2 2] w fun e w' => e = .returned (.int .i64 (nums [a, b])) ∧ Below w.heap.size w w') := fun g w hv ht => checkNumbers_any g 2 [a, b] w (by simp) hv (by intro v hv; simp at hv; rcases hv with rfl | rfl <;> assumption) ht
  obtain ⟨C, hC⟩ : ∃ C, C = rk2 divW divP a b := ⟨_, rfl⟩
  rw [← hC]
  by_cases hn : nums [a, b] = 0
  · have ty := nums_ty hn
    rw [hn] at CN
    have ON : Hid (∀ w, Calls Tryz.prog 10 #[.agg #[.int .i64 a.ty, .int .i64 a.n, .string a.s], .agg #[.int .i64 b.ty, .int .i64 b.n, .string b.s]] w fun e w' => e = .returned (.bool (decide (a.ty = 0 ∨ b.ty = 0))) ∧ Below w.heap.size w w') := fun w => oneNull_or a b w
    by_cases h0 : a.ty = 0 ∨ b.ty = 0
    · have e : C = (⟨0, 0, ⟨#[]⟩⟩, 0) := by rw [hC]; unfold rk2; rw [if_neg (by simp [hn]), if_pos h0]
      rw [decide_eq_true h0] at ON
      subst e
      clear hC hn ty fa fb
      go_enter Tryz.func4, Tryz.ntmps4
      go_wp2_with fail
      refine (CN.out _ _ V0.out (hT.below (B0.out.alloc (by simp; omega) _))).mono ?_
      rintro e w1 ⟨rfl, hb1⟩
      have F1 := F0.out.below (((Below.refl _ _).alloc (Nat.le_refl _) _).trans (hb1.mono (by simp)))
      have B1 := (B0.out.alloc (by simp; omega) _).trans (hb1.mono (by simp; omega))
      clear hb1 F0 B0 V0
      obtain ⟨l1, a0, a1, a2, b0, b1, b2, r0, r1, r2, hf⟩ := id F1
      go_wp2_with fail
      refine (ON.out _).mono ?_
      rintro e w2 ⟨rfl, hb2⟩
      have F2 := F1.below hb2
      have B2 := B1.trans (hb2.mono B1.size)
      clear l1 a0 a1 a2 b0 b1 b2 r0 r1 r2 hf F1 B1 hb2
      obtain ⟨l1, a0, a1, a2, b0, b1, b2, r0, r1, r2, hf⟩ := id F2
      go_wp2_with fail
      refine bodyPost_ret (v := .tuple #[.agg #[.int .i64 0, .int .i64 0, .string ⟨#[]⟩], .int .i64 0]) (by simp [results, Tryz.results4, go_sem, r0, r1, r2]) rfl ⟨rfl, ?_⟩
      exact ((B2.setCell (by simp; omega) _).setCell (by simp; omega) _).setCell (by simp; omega) _
    · rw [decide_eq_false h0] at ON
      have PA : Hid (∀ w, Calls Tryz.prog 13 #[.agg #[.int .i64 a.ty, .int .i64 a.n, .string a.s]] w fun e w' => e = .returned (.tuple #[.int .i64 (ovV (pt a)), .int .i64 (ovE (pt a))]) ∧ Below w.heap.size w w') := fun w => partsOf_any a w fa
      have PB : Hid (∀ w, Calls Tryz.prog 13 #[.agg #[.int .i64 b.ty, .int .i64 b.n, .string b.s]] w fun e w' => e = .returned (.tuple #[.int .i64 (ovV (pt b)), .int .i64 (ovE (pt b))]) ∧ Below w.heap.size w w') := fun w => partsOf_any b w fb
      by_cases h11 : a.ty = 1 ∧ b.ty = 1
      · have e : C = num 1 ((divW a.n b.n).1) ((divW a.n b.n).2) := by rw [hC]; unfold rk2; rw [if_neg (by simp [hn]), if_neg h0, if_pos h11]
        have RW : Hid (∀ w, Calls Tryz.prog 11 #[.string ⟨#[47]⟩, .int .i64 a.n, .int .i64 b.n] w fun e w' => e = .returned (.tuple #[.int .i64 ((divW a.n b.n).1), .int .i64 ((divW a.n b.n).2)]) ∧ Below w.heap.size w w') := fun w => reckonWhole_div a.n b.n w fa fb
        generalize (divW a.n b.n).1 = x at *
        generalize (divW a.n b.n).2 = y at *
        have NU : Hid (∀ w, Calls Tryz.prog 12 #[.int .i64 1, .int .i64 x, .int .i64 y] w fun r w' => r = .returned (ans C) ∧ Below w.heap.size w w') := fun w => e ▸ number_any 1 x y w
        obtain ⟨⟨ct, cn, cs⟩, ce⟩ := C
        unfold ans at NU
        obtain ⟨q1, q2⟩ := h11
        have t1 : (a.ty == 1) = true := by rw [q1]; rfl
        have t2 : (b.ty == 1) = true := by rw [q2]; rfl
        clear hC hn ty fa fb e h0 PA PB q1 q2
        go_enter Tryz.func4, Tryz.ntmps4
        go_wp2_with fail
        refine (CN.out _ _ V0.out (hT.below (B0.out.alloc (by simp; omega) _))).mono ?_
        rintro e w1 ⟨rfl, hb1⟩
        have F1 := F0.out.below (((Below.refl _ _).alloc (Nat.le_refl _) _).trans (hb1.mono (by simp)))
        have B1 := (B0.out.alloc (by simp; omega) _).trans (hb1.mono (by simp; omega))
        clear hb1 F0 B0 V0
        obtain ⟨l1, a0, a1, a2, b0, b1, b2, r0, r1, r2, hf⟩ := id F1
        go_wp2_with fail
        refine (ON.out _).mono ?_
        rintro e w2 ⟨rfl, hb2⟩
        have F2 := F1.below hb2
        have B2 := B1.trans (hb2.mono B1.size)
        clear l1 a0 a1 a2 b0 b1 b2 r0 r1 r2 hf F1 B1 hb2
        obtain ⟨l1, a0, a1, a2, b0, b1, b2, r0, r1, r2, hf⟩ := id F2
        go_wp2_with fail
        refine (RW.out _).mono ?_
        rintro e w3 ⟨rfl, hb3⟩
        have F3 := F2.below hb3
        have B3 := B2.trans (hb3.mono B2.size)
        clear l1 a0 a1 a2 b0 b1 b2 r0 r1 r2 hf F2 B2 hb3
        obtain ⟨l1, a0, a1, a2, b0, b1, b2, r0, r1, r2, hf⟩ := id F3
        go_wp2_with fail
        refine (NU.out _).mono ?_
        rintro e w4 ⟨rfl, hb4⟩
        have F4 := F3.below hb4
        have B4 := B3.trans (hb4.mono B3.size)
        clear l1 a0 a1 a2 b0 b1 b2 r0 r1 r2 hf F3 B3 hb4
        obtain ⟨l1, a0, a1, a2, b0, b1, b2, r0, r1, r2, hf⟩ := id F4
        go_wp2_with fail
        refine bodyPost_ret (v := .tuple #[.agg #[.int .i64 ct, .int .i64 cn, .string cs], .int .i64 ce]) (by simp [results, Tryz.results4, go_sem, r0, r1, r2]) rfl ⟨rfl, ?_⟩
        exact ((B4.setCell (by simp; omega) _).setCell (by simp; omega) _).setCell (by simp; omega) _
      · have h2 : a.ty = 2 ∨ (a.ty = 1 ∧ b.ty = 2) := by omega
        have HC : Hid (C = if ¬ ovE (pt a) = 0 then (⟨0, 0, ⟨#[]⟩⟩, ovE (pt a)) else if ¬ ovE (pt b) = 0 then (⟨0, 0, ⟨#[]⟩⟩, ovE (pt b)) else num 2 ((divP (pt a) (pt b)).1) ((divP (pt a) (pt b)).2)) := by
          show _ = _
          rw [hC]; unfold rk2; rw [if_neg (by simp [hn]), if_neg h0, if_neg h11]
        have RP : Hid (ovE (pt a) = 0 → ovE (pt b) = 0 → ∀ w, Calls Tryz.prog 14 #[.string ⟨#[47]⟩, .int .i64 (ovV (pt a)), .int .i64 (ovV (pt b))] w fun e w' => e = .returned (.tuple #[.int .i64 ((divP (pt a) (pt b)).1), .int .i64 ((divP (pt a) (pt b)).2)]) ∧ Below w.heap.size w w') := fun g1 g2 w => by
          have k1 := ovE_zero g1
          have k2 := ovE_zero g2
          rw [ovV_in k1, ovV_in k2]
          exact reckonParts_div _ _ w k1 k2
        generalize (divP (pt a) (pt b)).1 = x at *
        generalize (divP (pt a) (pt b)).2 = y at *
        generalize ovV (pt a) = xa at *
        generalize ovE (pt a) = ea at *
        generalize ovV (pt b) = xb at *
        generalize ovE (pt b) = eb at *
        clear hC hn ty fa fb h0
        rcases h2 with h2 | ⟨h2, h3⟩
        · have t1 : (a.ty == 1) = false := by rw [h2]; rfl
          clear h2 h11
          by_cases ga : ea = 0
          · by_cases gb : eb = 0
            · have RP2 : Hid _ := RP.out ga gb
              have e : C = num 2 x y := by rw [HC.out, if_neg (by simp [ga]), if_neg (by simp [gb])]
              have NU : Hid (∀ w, Calls Tryz.prog 12 #[.int .i64 2, .int .i64 x, .int .i64 y] w fun r w' => r = .returned (ans C) ∧ Below w.heap.size w w') := fun w => e ▸ number_any 2 x y w
              obtain ⟨⟨ct, cn, cs⟩, ce⟩ := C
              unfold ans at NU
              subst ga gb
              clear HC RP e
              go_enter Tryz.func4, Tryz.ntmps4
              go_wp2_with fail
              refine (CN.out _ _ V0.out (hT.below (B0.out.alloc (by simp; omega) _))).mono ?_
              rintro e w1 ⟨rfl, hb1⟩
              have F1 := F0.out.below (((Below.refl _ _).alloc (Nat.le_refl _) _).trans (hb1.mono (by simp)))
              have B1 := (B0.out.alloc (by simp; omega) _).trans (hb1.mono (by simp; omega))
              clear hb1 F0 B0 V0
              obtain ⟨l1, a0, a1, a2, b0, b1, b2, r0, r1, r2, hf⟩ := id F1
              go_wp2_with fail
              refine (ON.out _).mono ?_
              rintro e w2 ⟨rfl, hb2⟩
              have F2 := F1.below hb2
              have B2 := B1.trans (hb2.mono B1.size)
              clear l1 a0 a1 a2 b0 b1 b2 r0 r1 r2 hf F1 B1 hb2
              obtain ⟨l1, a0, a1, a2, b0, b1, b2, r0, r1, r2, hf⟩ := id F2
              go_wp2_with fail
              refine (PA.out _).mono ?_
              rintro e w3 ⟨rfl, hb3⟩
              have F3 := F2.below hb3
              have B3 := B2.trans (hb3.mono B2.size)
              clear l1 a0 a1 a2 b0 b1 b2 r0 r1 r2 hf F2 B2 hb3
              obtain ⟨l1, a0, a1, a2, b0, b1, b2, r0, r1, r2, hf⟩ := id F3
              go_wp2_with fail
              refine (PB.out _).mono ?_
              rintro e w4 ⟨rfl, hb4⟩
              have F4 := F3.below hb4
              have B4 := B3.trans (hb4.mono B3.size)
              clear l1 a0 a1 a2 b0 b1 b2 r0 r1 r2 hf F3 B3 hb4
              obtain ⟨l1, a0, a1, a2, b0, b1, b2, r0, r1, r2, hf⟩ := id F4
              go_wp2_with fail
              refine (RP2.out _).mono ?_
              rintro e w5 ⟨rfl, hb5⟩
              have F5 := F4.below hb5
              have B5 := B4.trans (hb5.mono B4.size)
              clear l1 a0 a1 a2 b0 b1 b2 r0 r1 r2 hf F4 B4 hb5
              obtain ⟨l1, a0, a1, a2, b0, b1, b2, r0, r1, r2, hf⟩ := id F5
              go_wp2_with fail
              refine (NU.out _).mono ?_
              rintro e w6 ⟨rfl, hb6⟩
              have F6 := F5.below hb6
              have B6 := B5.trans (hb6.mono B5.size)
              clear l1 a0 a1 a2 b0 b1 b2 r0 r1 r2 hf F5 B5 hb6
              obtain ⟨l1, a0, a1, a2, b0, b1, b2, r0, r1, r2, hf⟩ := id F6
              go_wp2_with fail
              refine bodyPost_ret (v := .tuple #[.agg #[.int .i64 ct, .int .i64 cn, .string cs], .int .i64 ce]) (by simp [results, Tryz.results4, go_sem, r0, r1, r2]) rfl ⟨rfl, ?_⟩
              exact ((B6.setCell (by simp; omega) _).setCell (by simp; omega) _).setCell (by simp; omega) _
            · have e : C = (⟨0, 0, ⟨#[]⟩⟩, eb) := by rw [HC.out, if_neg (by simp [ga]), if_pos gb]
              have u1 : (eb != 0) = true := by rw [bne_iff_ne]; exact gb
              subst e ga
              clear HC RP gb
              go_enter Tryz.func4, Tryz.ntmps4
              go_wp2_with fail
              refine (CN.out _ _ V0.out (hT.below (B0.out.alloc (by simp; omega) _))).mono ?_
              rintro e w1 ⟨rfl, hb1⟩
              have F1 := F0.out.below (((Below.refl _ _).alloc (Nat.le_refl _) _).trans (hb1.mono (by simp)))
              have B1 := (B0.out.alloc (by simp; omega) _).trans (hb1.mono (by simp; omega))
              clear hb1 F0 B0 V0
              obtain ⟨l1, a0, a1, a2, b0, b1, b2, r0, r1, r2, hf⟩ := id F1
              go_wp2_with fail
              refine (ON.out _).mono ?_
              rintro e w2 ⟨rfl, hb2⟩
              have F2 := F1.below hb2
              have B2 := B1.trans (hb2.mono B1.size)
              clear l1 a0 a1 a2 b0 b1 b2 r0 r1 r2 hf F1 B1 hb2
              obtain ⟨l1, a0, a1, a2, b0, b1, b2, r0, r1, r2, hf⟩ := id F2
              go_wp2_with fail
              refine (PA.out _).mono ?_
              rintro e w3 ⟨rfl, hb3⟩
              have F3 := F2.below hb3
              have B3 := B2.trans (hb3.mono B2.size)
              clear l1 a0 a1 a2 b0 b1 b2 r0 r1 r2 hf F2 B2 hb3
              obtain ⟨l1, a0, a1, a2, b0, b1, b2, r0, r1, r2, hf⟩ := id F3
              go_wp2_with fail
              refine (PB.out _).mono ?_
              rintro e w4 ⟨rfl, hb4⟩
              have F4 := F3.below hb4
              have B4 := B3.trans (hb4.mono B3.size)
              clear l1 a0 a1 a2 b0 b1 b2 r0 r1 r2 hf F3 B3 hb4
              obtain ⟨l1, a0, a1, a2, b0, b1, b2, r0, r1, r2, hf⟩ := id F4
              go_wp2_with fail
              refine bodyPost_ret (v := .tuple #[.agg #[.int .i64 0, .int .i64 0, .string ⟨#[]⟩], .int .i64 eb]) (by simp [results, Tryz.results4, go_sem, r0, r1, r2]) rfl ⟨rfl, ?_⟩
              exact ((B4.setCell (by simp; omega) _).setCell (by simp; omega) _).setCell (by simp; omega) _
          · have e : C = (⟨0, 0, ⟨#[]⟩⟩, ea) := by rw [HC.out, if_pos ga]
            have u1 : (ea != 0) = true := by rw [bne_iff_ne]; exact ga
            subst e
            clear HC RP ga
            go_enter Tryz.func4, Tryz.ntmps4
            go_wp2_with fail
            refine (CN.out _ _ V0.out (hT.below (B0.out.alloc (by simp; omega) _))).mono ?_
            rintro e w1 ⟨rfl, hb1⟩
            have F1 := F0.out.below (((Below.refl _ _).alloc (Nat.le_refl _) _).trans (hb1.mono (by simp)))
            have B1 := (B0.out.alloc (by simp; omega) _).trans (hb1.mono (by simp; omega))
            clear hb1 F0 B0 V0
            obtain ⟨l1, a0, a1, a2, b0, b1, b2, r0, r1, r2, hf⟩ := id F1
            go_wp2_with fail
            refine (ON.out _).mono ?_
            rintro e w2 ⟨rfl, hb2⟩
            have F2 := F1.below hb2
            have B2 := B1.trans (hb2.mono B1.size)
            clear l1 a0 a1 a2 b0 b1 b2 r0 r1 r2 hf F1 B1 hb2
            obtain ⟨l1, a0, a1, a2, b0, b1, b2, r0, r1, r2, hf⟩ := id F2
            go_wp2_with fail
            refine (PA.out _).mono ?_
            rintro e w3 ⟨rfl, hb3⟩
            have F3 := F2.below hb3
            have B3 := B2.trans (hb3.mono B2.size)
            clear l1 a0 a1 a2 b0 b1 b2 r0 r1 r2 hf F2 B2 hb3
            obtain ⟨l1, a0, a1, a2, b0, b1, b2, r0, r1, r2, hf⟩ := id F3
            go_wp2_with fail
            refine bodyPost_ret (v := .tuple #[.agg #[.int .i64 0, .int .i64 0, .string ⟨#[]⟩], .int .i64 ea]) (by simp [results, Tryz.results4, go_sem, r0, r1, r2]) rfl ⟨rfl, ?_⟩
            exact ((B3.setCell (by simp; omega) _).setCell (by simp; omega) _).setCell (by simp; omega) _
        · have t1 : (a.ty == 1) = true := by rw [h2]; rfl
          have t2 : (b.ty == 1) = false := by rw [h3]; rfl
          clear h2 h3 h11
          by_cases ga : ea = 0
          · by_cases gb : eb = 0
            · have RP2 : Hid _ := RP.out ga gb
              have e : C = num 2 x y := by rw [HC.out, if_neg (by simp [ga]), if_neg (by simp [gb])]
              have NU : Hid (∀ w, Calls Tryz.prog 12 #[.int .i64 2, .int .i64 x, .int .i64 y] w fun r w' => r = .returned (ans C) ∧ Below w.heap.size w w') := fun w => e ▸ number_any 2 x y w
              obtain ⟨⟨ct, cn, cs⟩, ce⟩ := C
              unfold ans at NU
              subst ga gb
              clear HC RP e
              go_enter Tryz.func4, Tryz.ntmps4
              go_wp2_with fail
              refine (CN.out _ _ V0.out (hT.below (B0.out.alloc (by simp; omega) _))).mono ?_
              rintro e w1 ⟨rfl, hb1⟩
              have F1 := F0.out.below (((Below.refl _ _).alloc (Nat.le_refl _) _).trans (hb1.mono (by simp)))
              have B1 := (B0.out.alloc (by simp; omega) _).trans (hb1.mono (by simp; omega))
              clear hb1 F0 B0 V0
              obtain ⟨l1, a0, a1, a2, b0, b1, b2, r0, r1, r2, hf⟩ := id F1
              go_wp2_with fail
              refine (ON.out _).mono ?_
              rintro e w2 ⟨rfl, hb2⟩
              have F2 := F1.below hb2
              have B2 := B1.trans (hb2.mono B1.size)
              clear l1 a0 a1 a2 b0 b1 b2 r0 r1 r2 hf F1 B1 hb2
              obtain ⟨l1, a0, a1, a2, b0, b1, b2, r0, r1, r2, hf⟩ := id F2
              go_wp2_with fail
              refine (PA.out _).mono ?_
              rintro e w3 ⟨rfl, hb3⟩
              have F3 := F2.below hb3
              have B3 := B2.trans (hb3.mono B2.size)
              clear l1 a0 a1 a2 b0 b1 b2 r0 r1 r2 hf F2 B2 hb3
              obtain ⟨l1, a0, a1, a2, b0, b1, b2, r0, r1, r2, hf⟩ := id F3
              go_wp2_with fail
              refine (PB.out _).mono ?_
              rintro e w4 ⟨rfl, hb4⟩
              have F4 := F3.below hb4
              have B4 := B3.trans (hb4.mono B3.size)
              clear l1 a0 a1 a2 b0 b1 b2 r0 r1 r2 hf F3 B3 hb4
              obtain ⟨l1, a0, a1, a2, b0, b1, b2, r0, r1, r2, hf⟩ := id F4
              go_wp2_with fail
              refine (RP2.out _).mono ?_
              rintro e w5 ⟨rfl, hb5⟩
              have F5 := F4.below hb5
              have B5 := B4.trans (hb5.mono B4.size)
              clear l1 a0 a1 a2 b0 b1 b2 r0 r1 r2 hf F4 B4 hb5
              obtain ⟨l1, a0, a1, a2, b0, b1, b2, r0, r1, r2, hf⟩ := id F5
              go_wp2_with fail
              refine (NU.out _).mono ?_
              rintro e w6 ⟨rfl, hb6⟩
              have F6 := F5.below hb6
              have B6 := B5.trans (hb6.mono B5.size)
              clear l1 a0 a1 a2 b0 b1 b2 r0 r1 r2 hf F5 B5 hb6
              obtain ⟨l1, a0, a1, a2, b0, b1, b2, r0, r1, r2, hf⟩ := id F6
              go_wp2_with fail
              refine bodyPost_ret (v := .tuple #[.agg #[.int .i64 ct, .int .i64 cn, .string cs], .int .i64 ce]) (by simp [results, Tryz.results4, go_sem, r0, r1, r2]) rfl ⟨rfl, ?_⟩
              exact ((B6.setCell (by simp; omega) _).setCell (by simp; omega) _).setCell (by simp; omega) _
            · have e : C = (⟨0, 0, ⟨#[]⟩⟩, eb) := by rw [HC.out, if_neg (by simp [ga]), if_pos gb]
              have u1 : (eb != 0) = true := by rw [bne_iff_ne]; exact gb
              subst e ga
              clear HC RP gb
              go_enter Tryz.func4, Tryz.ntmps4
              go_wp2_with fail
              refine (CN.out _ _ V0.out (hT.below (B0.out.alloc (by simp; omega) _))).mono ?_
              rintro e w1 ⟨rfl, hb1⟩
              have F1 := F0.out.below (((Below.refl _ _).alloc (Nat.le_refl _) _).trans (hb1.mono (by simp)))
              have B1 := (B0.out.alloc (by simp; omega) _).trans (hb1.mono (by simp; omega))
              clear hb1 F0 B0 V0
              obtain ⟨l1, a0, a1, a2, b0, b1, b2, r0, r1, r2, hf⟩ := id F1
              go_wp2_with fail
              refine (ON.out _).mono ?_
              rintro e w2 ⟨rfl, hb2⟩
              have F2 := F1.below hb2
              have B2 := B1.trans (hb2.mono B1.size)
              clear l1 a0 a1 a2 b0 b1 b2 r0 r1 r2 hf F1 B1 hb2
              obtain ⟨l1, a0, a1, a2, b0, b1, b2, r0, r1, r2, hf⟩ := id F2
              go_wp2_with fail
              refine (PA.out _).mono ?_
              rintro e w3 ⟨rfl, hb3⟩
              have F3 := F2.below hb3
              have B3 := B2.trans (hb3.mono B2.size)
              clear l1 a0 a1 a2 b0 b1 b2 r0 r1 r2 hf F2 B2 hb3
              obtain ⟨l1, a0, a1, a2, b0, b1, b2, r0, r1, r2, hf⟩ := id F3
              go_wp2_with fail
              refine (PB.out _).mono ?_
              rintro e w4 ⟨rfl, hb4⟩
              have F4 := F3.below hb4
              have B4 := B3.trans (hb4.mono B3.size)
              clear l1 a0 a1 a2 b0 b1 b2 r0 r1 r2 hf F3 B3 hb4
              obtain ⟨l1, a0, a1, a2, b0, b1, b2, r0, r1, r2, hf⟩ := id F4
              go_wp2_with fail
              refine bodyPost_ret (v := .tuple #[.agg #[.int .i64 0, .int .i64 0, .string ⟨#[]⟩], .int .i64 eb]) (by simp [results, Tryz.results4, go_sem, r0, r1, r2]) rfl ⟨rfl, ?_⟩
              exact ((B4.setCell (by simp; omega) _).setCell (by simp; omega) _).setCell (by simp; omega) _
          · have e : C = (⟨0, 0, ⟨#[]⟩⟩, ea) := by rw [HC.out, if_pos ga]
            have u1 : (ea != 0) = true := by rw [bne_iff_ne]; exact ga
            subst e
            clear HC RP ga
            go_enter Tryz.func4, Tryz.ntmps4
            go_wp2_with fail
            refine (CN.out _ _ V0.out (hT.below (B0.out.alloc (by simp; omega) _))).mono ?_
            rintro e w1 ⟨rfl, hb1⟩
            have F1 := F0.out.below (((Below.refl _ _).alloc (Nat.le_refl _) _).trans (hb1.mono (by simp)))
            have B1 := (B0.out.alloc (by simp; omega) _).trans (hb1.mono (by simp; omega))
            clear hb1 F0 B0 V0
            obtain ⟨l1, a0, a1, a2, b0, b1, b2, r0, r1, r2, hf⟩ := id F1
            go_wp2_with fail
            refine (ON.out _).mono ?_
            rintro e w2 ⟨rfl, hb2⟩
            have F2 := F1.below hb2
            have B2 := B1.trans (hb2.mono B1.size)
            clear l1 a0 a1 a2 b0 b1 b2 r0 r1 r2 hf F1 B1 hb2
            obtain ⟨l1, a0, a1, a2, b0, b1, b2, r0, r1, r2, hf⟩ := id F2
            go_wp2_with fail
            refine (PA.out _).mono ?_
            rintro e w3 ⟨rfl, hb3⟩
            have F3 := F2.below hb3
            have B3 := B2.trans (hb3.mono B2.size)
            clear l1 a0 a1 a2 b0 b1 b2 r0 r1 r2 hf F2 B2 hb3
            obtain ⟨l1, a0, a1, a2, b0, b1, b2, r0, r1, r2, hf⟩ := id F3
            go_wp2_with fail
            refine bodyPost_ret (v := .tuple #[.agg #[.int .i64 0, .int .i64 0, .string ⟨#[]⟩], .int .i64 ea]) (by simp [results, Tryz.results4, go_sem, r0, r1, r2]) rfl ⟨rfl, ?_⟩
            exact ((B3.setCell (by simp; omega) _).setCell (by simp; omega) _).setCell (by simp; omega) _
  · have e : C = (⟨0, 0, ⟨#[]⟩⟩, nums [a, b]) := by rw [hC]; unfold rk2; rw [if_pos hn]
    have t1 : (nums [a, b] != 0) = true := by rw [bne_iff_ne]; exact hn
    subst e
    generalize nums [a, b] = E at *
    clear hn fa fb hC
    go_enter Tryz.func4, Tryz.ntmps4
    go_wp2_with fail
    refine (CN.out _ _ V0.out (hT.below (B0.out.alloc (by simp; omega) _))).mono ?_
    rintro e w1 ⟨rfl, hb1⟩
    have F1 := F0.out.below (((Below.refl _ _).alloc (Nat.le_refl _) _).trans (hb1.mono (by simp)))
    have B1 := (B0.out.alloc (by simp; omega) _).trans (hb1.mono (by simp; omega))
    clear hb1 F0 B0 V0
    obtain ⟨l1, a0, a1, a2, b0, b1, b2, r0, r1, r2, hf⟩ := id F1
    go_wp2_with fail
    refine bodyPost_ret (v := .tuple #[.agg #[.int .i64 0, .int .i64 0, .string ⟨#[]⟩], .int .i64 E]) (by simp [results, Tryz.results4, go_sem, r0, r1, r2]) rfl ⟨rfl, ?_⟩
    exact ((B1.setCell (by simp; omega) _).setCell (by simp; omega) _).setCell (by simp; omega) _
end Go.Proofs.YtppcoimfgafbfaaGreatDoor
