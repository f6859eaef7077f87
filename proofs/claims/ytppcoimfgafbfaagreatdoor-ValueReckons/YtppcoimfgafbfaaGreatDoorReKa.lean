/-
  The reference's Reckon of ten-thousandths.
-/
import Derived.Test.YtppcoimfgafbfaaGreatDoorReI
namespace Go.Proofs.YtppcoimfgafbfaaGreatDoor
open Go.RowKit Go.Shelf

set_option maxHeartbeats 8000000 in
set_option maxRecDepth 1000000 in
theorem refReckon_partsA (op : ByteArray) (a b : Va) (w : World) (hop : inL ops4 op = true) (fa : fit a.n) (fb : fit b.n) (f : Int → Int → Int × Int) (HF : ∀ x y w, fit x → fit y → Calls Tryz.prog 19 #[.string op, .int .i64 x, .int .i64 y, .bool true] w fun e w' => e = .returned (.tuple #[.int .i64 (f x y).1, .int .i64 (f x y).2]) ∧ Below w.heap.size w w') (he : errs [a, b] = 0) (ha : a.ty = 2) (hb : b.ty = 1 ∨ b.ty = 2) :
    Calls Tryz.prog 5 #[.string op, .agg #[.int .i64 a.ty, .int .i64 a.n, .string a.s], .agg #[.int .i64 b.ty, .int .i64 b.n, .string b.s]] w fun e w' => e = .returned (ans (if ¬ ovE (pt a) = 0 then ((⟨0, 0, ⟨#[]⟩⟩ : Va), ovE (pt a)) else if ¬ ovE (pt b) = 0 then ((⟨0, 0, ⟨#[]⟩⟩ : Va), ovE (pt b)) else num 2 (f (pt a) (pt b)).1 (f (pt a) (pt b)).2)) ∧ Below w.heap.size w w' := by
  have F0 : Hid _ := Fr.new w a b ⟨0, 0, ⟨#[]⟩⟩
  have B0 : Hid _ := (((Below.refl _ w).alloc (Nat.le_refl _) (.cells #[.int .i64 a.ty, .int .i64 a.n, .string a.s] 23)).alloc (by simp) (.cells #[.int .i64 b.ty, .int .i64 b.n, .string b.s] 23)).alloc (by simp; omega) (.cells #[.int .i64 0, .int .i64 0, .string ⟨#[]⟩] 23)
  have V0 : Hid (∀ t, _) := fun t => strsAt_four3 w (.cells #[.int .i64 a.ty, .int .i64 a.n, .string a.s] 23) (.cells #[.int .i64 b.ty, .int .i64 b.n, .string b.s] 23) (.cells #[.int .i64 0, .int .i64 0, .string ⟨#[]⟩] 23) t
  have IN : Hid (∀ g w, strsAt w g ops4 → Calls Tryz.prog 15 #[.slice (some ⟨g, 0, none⟩) 4 4, .string op] w fun e w' => e = .returned (.bool true) ∧ Below w.heap.size w w') := fun g w hv => (in_any g 4 ops4 op w (by decide) hv).mono (by rintro e w' ⟨rfl, rfl⟩; exact ⟨by rw [hop], Below.refl _ _⟩)
  have BO : Hid (∀ w, Calls Tryz.prog 16 #[.agg #[.int .i64 a.ty, .int .i64 a.n, .string a.s], .agg #[.int .i64 b.ty, .int .i64 b.n, .string b.s]] w fun e w' => e = .returned (.int .i64 (errs [a, b])) ∧ Below w.heap.size w w') := fun w => by rw [errs_two]; exact both_any a.ty a.n a.s b.ty b.n b.s w
  have NA : Hid (∀ w, Calls Tryz.prog 17 #[.agg #[.int .i64 a.ty, .int .i64 a.n, .string a.s]] w fun e w' => e = .returned (.bool (grp a.ty == 1)) ∧ Below w.heap.size w w') := fun w => refNumber_any a w
  have NB : Hid (∀ w, Calls Tryz.prog 17 #[.agg #[.int .i64 b.ty, .int .i64 b.n, .string b.s]] w fun e w' => e = .returned (.bool (grp b.ty == 1)) ∧ Below w.heap.size w w') := fun w => refNumber_any b w
  rw [he] at BO
  have g1a : grp a.ty = 1 := by rw [ha]; rfl
  rw [g1a] at NA
  simp only [beq_self_eq_true] at NA
  have g1b : grp b.ty = 1 := by rcases hb with h | h <;> (rw [h]; rfl)
  rw [g1b] at NB
  simp only [beq_self_eq_true] at NB
  have pa0 : (a.ty != 0) = true := by rw [ha]; rfl
  have pa1 : (a.ty == 0) = false := by rw [ha]; rfl
  have pa2 : (a.ty == 2) = true := by rw [ha]; rfl
  have pb0 : (b.ty != 0) = true := by rcases hb with h | h <;> (rw [h]; rfl)
  have pb1 : (b.ty == 0) = false := by rcases hb with h | h <;> (rw [h]; rfl)
  have SA : Hid (∀ w, Calls Tryz.prog 18 #[.agg #[.int .i64 a.ty, .int .i64 a.n, .string a.s]] w fun e w' => e = .returned (.tuple #[.int .i64 (ovV (pt a)), .bool (fitB (pt a))]) ∧ Below w.heap.size w w') := fun w => scaled_any a w fa
  have SB : Hid (∀ w, Calls Tryz.prog 18 #[.agg #[.int .i64 b.ty, .int .i64 b.n, .string b.s]] w fun e w' => e = .returned (.tuple #[.int .i64 (ovV (pt b)), .bool (fitB (pt b))]) ∧ Below w.heap.size w w') := fun w => scaled_any b w fb
  by_cases k1 : fit (pt a)
  · by_cases k2 : fit (pt b)
    · rw [if_neg (by rw [ovE_in k1]; simp), if_neg (by rw [ovE_in k2]; simp)]
      have RD : Hid (∀ w, Calls Tryz.prog 19 #[.string op, .int .i64 (pt a), .int .i64 (pt b), .bool true] w fun e w' => e = .returned (.tuple #[.int .i64 (f (pt a) (pt b)).1, .int .i64 (f (pt a) (pt b)).2]) ∧ Below w.heap.size w w') := fun w => HF (pt a) (pt b) w k1 k2
      rw [ovV_in k1, fitB_in k1] at SA
      rw [ovV_in k2, fitB_in k2] at SB
      generalize (f (pt a) (pt b)).1 = x at *
      generalize (f (pt a) (pt b)).2 = y at *
      generalize pt a = xa at *
      generalize pt b = xb at *
      clear he hop HF fa fb ha hb g1a g1b k1 k2
      by_cases hy : y = 0
      · subst hy
        rw [num_ok]
        go_enter Tryz.func5, Tryz.ntmps5
        go_wp2_with fail
        refine (IN.out _ _ (V0.out _)).mono ?_
        rintro e w1 ⟨rfl, hb1⟩
        have F1 := F0.out.below (((Below.refl _ _).alloc (Nat.le_refl _) _).trans (hb1.mono (by simp)))
        have B1 := (B0.out.alloc (by simp; omega) _).trans (hb1.mono (by simp; omega))
        clear hb1 F0 B0 V0
        obtain ⟨l1, a0, a1, a2, b0, b1, b2, r0, r1, r2, hf⟩ := id F1
        go_wp2_with fail
        refine (BO.out _).mono ?_
        rintro e w2 ⟨rfl, hb2⟩
        have F2 := F1.below hb2
        have B2 := B1.trans (hb2.mono B1.size)
        clear l1 a0 a1 a2 b0 b1 b2 r0 r1 r2 hf F1 B1 hb2
        obtain ⟨l1, a0, a1, a2, b0, b1, b2, r0, r1, r2, hf⟩ := id F2
        go_wp2_with fail
        refine (NA.out _).mono ?_
        rintro e w3 ⟨rfl, hb3⟩
        have F3 := F2.below hb3
        have B3 := B2.trans (hb3.mono B2.size)
        clear l1 a0 a1 a2 b0 b1 b2 r0 r1 r2 hf F2 B2 hb3
        obtain ⟨l1, a0, a1, a2, b0, b1, b2, r0, r1, r2, hf⟩ := id F3
        go_wp2_with fail
        refine (NB.out _).mono ?_
        rintro e w4 ⟨rfl, hb4⟩
        have F4 := F3.below hb4
        have B4 := B3.trans (hb4.mono B3.size)
        clear l1 a0 a1 a2 b0 b1 b2 r0 r1 r2 hf F3 B3 hb4
        obtain ⟨l1, a0, a1, a2, b0, b1, b2, r0, r1, r2, hf⟩ := id F4
        go_wp2_with fail
        go_quiet (fail)
        go_wp2_with fail
        have hb5 := below_drewN (Below.refl w4.heap.size w4) nq
        generalize w4.drewN nq = w5 at *
        have F5 := F4.below hb5
        have B5 := B4.trans (hb5.mono B4.size)
        clear l1 a0 a1 a2 b0 b1 b2 r0 r1 r2 hf F4 B4 hb5
        obtain ⟨l1, a0, a1, a2, b0, b1, b2, r0, r1, r2, hf⟩ := id F5
        refine (SA.out _).mono ?_
        rintro e w6 ⟨rfl, hb6⟩
        have F6 := F5.below hb6
        have B6 := B5.trans (hb6.mono B5.size)
        clear l1 a0 a1 a2 b0 b1 b2 r0 r1 r2 hf F5 B5 hb6
        obtain ⟨l1, a0, a1, a2, b0, b1, b2, r0, r1, r2, hf⟩ := id F6
        go_wp2_with fail
        refine (SB.out _).mono ?_
        rintro e w7 ⟨rfl, hb7⟩
        have F7 := F6.below hb7
        have B7 := B6.trans (hb7.mono B6.size)
        clear l1 a0 a1 a2 b0 b1 b2 r0 r1 r2 hf F6 B6 hb7
        obtain ⟨l1, a0, a1, a2, b0, b1, b2, r0, r1, r2, hf⟩ := id F7
        go_wp2_with fail
        refine (RD.out _).mono ?_
        rintro e w8 ⟨rfl, hb8⟩
        have F8 := F7.below hb8
        have B8 := B7.trans (hb8.mono B7.size)
        clear l1 a0 a1 a2 b0 b1 b2 r0 r1 r2 hf F7 B7 hb8
        obtain ⟨l1, a0, a1, a2, b0, b1, b2, r0, r1, r2, hf⟩ := id F8
        go_wp2_with fail
        refine bodyPost_ret (v := .tuple #[.agg #[.int .i64 2, .int .i64 x, .string ⟨#[]⟩], .int .i64 0]) (by simp [results, Tryz.results5, go_sem, r0, r1, r2]) rfl ⟨rfl, ?_⟩
        exact ((B8.setCell (by simp; omega) _).setCell (by simp; omega) _).setCell (by simp; omega) _
      · rw [num_bad hy]
        have py : (y != 0) = true := by rw [bne_iff_ne]; exact hy
        clear hy
        go_enter Tryz.func5, Tryz.ntmps5
        go_wp2_with fail
        refine (IN.out _ _ (V0.out _)).mono ?_
        rintro e w1 ⟨rfl, hb1⟩
        have F1 := F0.out.below (((Below.refl _ _).alloc (Nat.le_refl _) _).trans (hb1.mono (by simp)))
        have B1 := (B0.out.alloc (by simp; omega) _).trans (hb1.mono (by simp; omega))
        clear hb1 F0 B0 V0
        obtain ⟨l1, a0, a1, a2, b0, b1, b2, r0, r1, r2, hf⟩ := id F1
        go_wp2_with fail
        refine (BO.out _).mono ?_
        rintro e w2 ⟨rfl, hb2⟩
        have F2 := F1.below hb2
        have B2 := B1.trans (hb2.mono B1.size)
        clear l1 a0 a1 a2 b0 b1 b2 r0 r1 r2 hf F1 B1 hb2
        obtain ⟨l1, a0, a1, a2, b0, b1, b2, r0, r1, r2, hf⟩ := id F2
        go_wp2_with fail
        refine (NA.out _).mono ?_
        rintro e w3 ⟨rfl, hb3⟩
        have F3 := F2.below hb3
        have B3 := B2.trans (hb3.mono B2.size)
        clear l1 a0 a1 a2 b0 b1 b2 r0 r1 r2 hf F2 B2 hb3
        obtain ⟨l1, a0, a1, a2, b0, b1, b2, r0, r1, r2, hf⟩ := id F3
        go_wp2_with fail
        refine (NB.out _).mono ?_
        rintro e w4 ⟨rfl, hb4⟩
        have F4 := F3.below hb4
        have B4 := B3.trans (hb4.mono B3.size)
        clear l1 a0 a1 a2 b0 b1 b2 r0 r1 r2 hf F3 B3 hb4
        obtain ⟨l1, a0, a1, a2, b0, b1, b2, r0, r1, r2, hf⟩ := id F4
        go_wp2_with fail
        go_quiet (fail)
        go_wp2_with fail
        have hb5 := below_drewN (Below.refl w4.heap.size w4) nq
        generalize w4.drewN nq = w5 at *
        have F5 := F4.below hb5
        have B5 := B4.trans (hb5.mono B4.size)
        clear l1 a0 a1 a2 b0 b1 b2 r0 r1 r2 hf F4 B4 hb5
        obtain ⟨l1, a0, a1, a2, b0, b1, b2, r0, r1, r2, hf⟩ := id F5
        refine (SA.out _).mono ?_
        rintro e w6 ⟨rfl, hb6⟩
        have F6 := F5.below hb6
        have B6 := B5.trans (hb6.mono B5.size)
        clear l1 a0 a1 a2 b0 b1 b2 r0 r1 r2 hf F5 B5 hb6
        obtain ⟨l1, a0, a1, a2, b0, b1, b2, r0, r1, r2, hf⟩ := id F6
        go_wp2_with fail
        refine (SB.out _).mono ?_
        rintro e w7 ⟨rfl, hb7⟩
        have F7 := F6.below hb7
        have B7 := B6.trans (hb7.mono B6.size)
        clear l1 a0 a1 a2 b0 b1 b2 r0 r1 r2 hf F6 B6 hb7
        obtain ⟨l1, a0, a1, a2, b0, b1, b2, r0, r1, r2, hf⟩ := id F7
        go_wp2_with fail
        refine (RD.out _).mono ?_
        rintro e w8 ⟨rfl, hb8⟩
        have F8 := F7.below hb8
        have B8 := B7.trans (hb8.mono B7.size)
        clear l1 a0 a1 a2 b0 b1 b2 r0 r1 r2 hf F7 B7 hb8
        obtain ⟨l1, a0, a1, a2, b0, b1, b2, r0, r1, r2, hf⟩ := id F8
        go_wp2_with fail
        refine bodyPost_ret (v := .tuple #[.agg #[.int .i64 0, .int .i64 0, .string ⟨#[]⟩], .int .i64 y]) (by simp [results, Tryz.results5, go_sem, r0, r1, r2]) rfl ⟨rfl, ?_⟩
        exact ((B8.setCell (by simp; omega) _).setCell (by simp; omega) _).setCell (by simp; omega) _
    · rw [if_neg (by rw [ovE_in k1]; simp), ovE_out k2, if_pos (by decide)]
      rw [ovV_in k1, fitB_in k1] at SA
      rw [ovV_out k2, fitB_out k2] at SB
      generalize pt a = xa at *
      clear he hop HF fa fb ha hb g1a g1b k1 k2
      go_enter Tryz.func5, Tryz.ntmps5
      go_wp2_with fail
      refine (IN.out _ _ (V0.out _)).mono ?_
      rintro e w1 ⟨rfl, hb1⟩
      have F1 := F0.out.below (((Below.refl _ _).alloc (Nat.le_refl _) _).trans (hb1.mono (by simp)))
      have B1 := (B0.out.alloc (by simp; omega) _).trans (hb1.mono (by simp; omega))
      clear hb1 F0 B0 V0
      obtain ⟨l1, a0, a1, a2, b0, b1, b2, r0, r1, r2, hf⟩ := id F1
      go_wp2_with fail
      refine (BO.out _).mono ?_
      rintro e w2 ⟨rfl, hb2⟩
      have F2 := F1.below hb2
      have B2 := B1.trans (hb2.mono B1.size)
      clear l1 a0 a1 a2 b0 b1 b2 r0 r1 r2 hf F1 B1 hb2
      obtain ⟨l1, a0, a1, a2, b0, b1, b2, r0, r1, r2, hf⟩ := id F2
      go_wp2_with fail
      refine (NA.out _).mono ?_
      rintro e w3 ⟨rfl, hb3⟩
      have F3 := F2.below hb3
      have B3 := B2.trans (hb3.mono B2.size)
      clear l1 a0 a1 a2 b0 b1 b2 r0 r1 r2 hf F2 B2 hb3
      obtain ⟨l1, a0, a1, a2, b0, b1, b2, r0, r1, r2, hf⟩ := id F3
      go_wp2_with fail
      refine (NB.out _).mono ?_
      rintro e w4 ⟨rfl, hb4⟩
      have F4 := F3.below hb4
      have B4 := B3.trans (hb4.mono B3.size)
      clear l1 a0 a1 a2 b0 b1 b2 r0 r1 r2 hf F3 B3 hb4
      obtain ⟨l1, a0, a1, a2, b0, b1, b2, r0, r1, r2, hf⟩ := id F4
      go_wp2_with fail
      go_quiet (fail)
      go_wp2_with fail
      have hb5 := below_drewN (Below.refl w4.heap.size w4) nq
      generalize w4.drewN nq = w5 at *
      have F5 := F4.below hb5
      have B5 := B4.trans (hb5.mono B4.size)
      clear l1 a0 a1 a2 b0 b1 b2 r0 r1 r2 hf F4 B4 hb5
      obtain ⟨l1, a0, a1, a2, b0, b1, b2, r0, r1, r2, hf⟩ := id F5
      refine (SA.out _).mono ?_
      rintro e w6 ⟨rfl, hb6⟩
      have F6 := F5.below hb6
      have B6 := B5.trans (hb6.mono B5.size)
      clear l1 a0 a1 a2 b0 b1 b2 r0 r1 r2 hf F5 B5 hb6
      obtain ⟨l1, a0, a1, a2, b0, b1, b2, r0, r1, r2, hf⟩ := id F6
      go_wp2_with fail
      refine (SB.out _).mono ?_
      rintro e w7 ⟨rfl, hb7⟩
      have F7 := F6.below hb7
      have B7 := B6.trans (hb7.mono B6.size)
      clear l1 a0 a1 a2 b0 b1 b2 r0 r1 r2 hf F6 B6 hb7
      obtain ⟨l1, a0, a1, a2, b0, b1, b2, r0, r1, r2, hf⟩ := id F7
      go_wp2_with fail
      refine bodyPost_ret (v := .tuple #[.agg #[.int .i64 0, .int .i64 0, .string ⟨#[]⟩], .int .i64 10]) (by simp [results, Tryz.results5, go_sem, r0, r1, r2]) rfl ⟨rfl, ?_⟩
      exact ((B7.setCell (by simp; omega) _).setCell (by simp; omega) _).setCell (by simp; omega) _
  · rw [ovE_out k1, if_pos (by decide)]
    rw [ovV_out k1, fitB_out k1] at SA
    generalize ovV (pt b) = xb at *
    generalize fitB (pt b) = yb at *
    clear he hop HF fa fb ha hb g1a g1b k1
    go_enter Tryz.func5, Tryz.ntmps5
    go_wp2_with fail
    refine (IN.out _ _ (V0.out _)).mono ?_
    rintro e w1 ⟨rfl, hb1⟩
    have F1 := F0.out.below (((Below.refl _ _).alloc (Nat.le_refl _) _).trans (hb1.mono (by simp)))
    have B1 := (B0.out.alloc (by simp; omega) _).trans (hb1.mono (by simp; omega))
    clear hb1 F0 B0 V0
    obtain ⟨l1, a0, a1, a2, b0, b1, b2, r0, r1, r2, hf⟩ := id F1
    go_wp2_with fail
    refine (BO.out _).mono ?_
    rintro e w2 ⟨rfl, hb2⟩
    have F2 := F1.below hb2
    have B2 := B1.trans (hb2.mono B1.size)
    clear l1 a0 a1 a2 b0 b1 b2 r0 r1 r2 hf F1 B1 hb2
    obtain ⟨l1, a0, a1, a2, b0, b1, b2, r0, r1, r2, hf⟩ := id F2
    go_wp2_with fail
    refine (NA.out _).mono ?_
    rintro e w3 ⟨rfl, hb3⟩
    have F3 := F2.below hb3
    have B3 := B2.trans (hb3.mono B2.size)
    clear l1 a0 a1 a2 b0 b1 b2 r0 r1 r2 hf F2 B2 hb3
    obtain ⟨l1, a0, a1, a2, b0, b1, b2, r0, r1, r2, hf⟩ := id F3
    go_wp2_with fail
    refine (NB.out _).mono ?_
    rintro e w4 ⟨rfl, hb4⟩
    have F4 := F3.below hb4
    have B4 := B3.trans (hb4.mono B3.size)
    clear l1 a0 a1 a2 b0 b1 b2 r0 r1 r2 hf F3 B3 hb4
    obtain ⟨l1, a0, a1, a2, b0, b1, b2, r0, r1, r2, hf⟩ := id F4
    go_wp2_with fail
    go_quiet (fail)
    go_wp2_with fail
    have hb5 := below_drewN (Below.refl w4.heap.size w4) nq
    generalize w4.drewN nq = w5 at *
    have F5 := F4.below hb5
    have B5 := B4.trans (hb5.mono B4.size)
    clear l1 a0 a1 a2 b0 b1 b2 r0 r1 r2 hf F4 B4 hb5
    obtain ⟨l1, a0, a1, a2, b0, b1, b2, r0, r1, r2, hf⟩ := id F5
    refine (SA.out _).mono ?_
    rintro e w6 ⟨rfl, hb6⟩
    have F6 := F5.below hb6
    have B6 := B5.trans (hb6.mono B5.size)
    clear l1 a0 a1 a2 b0 b1 b2 r0 r1 r2 hf F5 B5 hb6
    obtain ⟨l1, a0, a1, a2, b0, b1, b2, r0, r1, r2, hf⟩ := id F6
    go_wp2_with fail
    refine (SB.out _).mono ?_
    rintro e w7 ⟨rfl, hb7⟩
    have F7 := F6.below hb7
    have B7 := B6.trans (hb7.mono B6.size)
    clear l1 a0 a1 a2 b0 b1 b2 r0 r1 r2 hf F6 B6 hb7
    obtain ⟨l1, a0, a1, a2, b0, b1, b2, r0, r1, r2, hf⟩ := id F7
    go_wp2_with fail
    refine bodyPost_ret (v := .tuple #[.agg #[.int .i64 0, .int .i64 0, .string ⟨#[]⟩], .int .i64 10]) (by simp [results, Tryz.results5, go_sem, r0, r1, r2]) rfl ⟨rfl, ?_⟩
    exact ((B7.setCell (by simp; omega) _).setCell (by simp; omega) _).setCell (by simp; omega) _
end Go.Proofs.YtppcoimfgafbfaaGreatDoor
