/-
  The reference's Reckon, where there is nothing to reckon.
-/
import Derived.Test.YtppcoimfgafbfaaGreatDoorReH
namespace Go.Proofs.YtppcoimfgafbfaaGreatDoor
open Go.RowKit Go.Shelf

set_option maxHeartbeats 8000000 in
set_option maxRecDepth 1000000 in
theorem refReckon_err (op : ByteArray) (a b : Va) (w : World) (hop : inL ops4 op = true) (he : ¬ errs [a, b] = 0) :
    Calls Tryz.prog 5 #[.string op, .agg #[.int .i64 a.ty, .int .i64 a.n, .string a.s], .agg #[.int .i64 b.ty, .int .i64 b.n, .string b.s]] w fun e w' => e = .returned (ans ((⟨0, 0, ⟨#[]⟩⟩ : Va), errs [a, b])) ∧ Below w.heap.size w w' := by
  have F0 : Hid _ := Fr.new w a b ⟨0, 0, ⟨#[]⟩⟩
  have B0 : Hid _ := (((Below.refl _ w).alloc (Nat.le_refl _) (.cells #[.int .i64 a.ty, .int .i64 a.n, .string a.s] 23)).alloc (by simp) (.cells #[.int .i64 b.ty, .int .i64 b.n, .string b.s] 23)).alloc (by simp; omega) (.cells #[.int .i64 0, .int .i64 0, .string ⟨#[]⟩] 23)
  have V0 : Hid (∀ t, _) := fun t => strsAt_four3 w (.cells #[.int .i64 a.ty, .int .i64 a.n, .string a.s] 23) (.cells #[.int .i64 b.ty, .int .i64 b.n, .string b.s] 23) (.cells #[.int .i64 0, .int .i64 0, .string ⟨#[]⟩] 23) t
  have IN : Hid (∀ g w, strsAt w g ops4 → Calls Tryz.prog 15 #[.slice (some ⟨g, 0, none⟩) 4 4, .string op] w fun e w' => e = .returned (.bool true) ∧ Below w.heap.size w w') := fun g w hv => (in_any g 4 ops4 op w (by decide) hv).mono (by rintro e w' ⟨rfl, rfl⟩; exact ⟨by rw [hop], Below.refl _ _⟩)
  have BO : Hid (∀ w, Calls Tryz.prog 16 #[.agg #[.int .i64 a.ty, .int .i64 a.n, .string a.s], .agg #[.int .i64 b.ty, .int .i64 b.n, .string b.s]] w fun e w' => e = .returned (.int .i64 (errs [a, b])) ∧ Below w.heap.size w w') := fun w => by rw [errs_two]; exact both_any a.ty a.n a.s b.ty b.n b.s w
  have NA : Hid (∀ w, Calls Tryz.prog 17 #[.agg #[.int .i64 a.ty, .int .i64 a.n, .string a.s]] w fun e w' => e = .returned (.bool (grp a.ty == 1)) ∧ Below w.heap.size w w') := fun w => refNumber_any a w
  have NB : Hid (∀ w, Calls Tryz.prog 17 #[.agg #[.int .i64 b.ty, .int .i64 b.n, .string b.s]] w fun e w' => e = .returned (.bool (grp b.ty == 1)) ∧ Below w.heap.size w w') := fun w => refNumber_any b w
  have t1 : (errs [a, b] != 0) = true := by rw [bne_iff_ne]; exact he
  generalize errs [a, b] = E at *
  clear he hop NA NB
  go_enter Tryz.func5, Tryz.ntmps5
  go_wp2_with fail
  refine (IN.out _ _ (V0.out _)).mono ?_
  rintro e w1 ⟨rfl, hb1⟩
  have F1 := F0.out.below (((Below.refl _ _).alloc (Nat.le_refl _) _).trans (hb1.mono (by simp)))
  have B1 := (B0.out.alloc (by simp; omega) _).trans (hb1.mono (by simp; omega))
  clear hb1 F0 B0 V0
  obtain ⟨l1, a0, a1, a2, b0, b1, b2, r0, r1, r2, hf⟩ := id F1
  go_wp2_with fail
  refine (BO.out _).mono ?_
  rintro e w2 ⟨rfl, hb2⟩
  have F2 := F1.below hb2
  have B2 := B1.trans (hb2.mono B1.size)
  clear l1 a0 a1 a2 b0 b1 b2 r0 r1 r2 hf F1 B1 hb2
  obtain ⟨l1, a0, a1, a2, b0, b1, b2, r0, r1, r2, hf⟩ := id F2
  go_wp2_with fail
  refine bodyPost_ret (v := .tuple #[.agg #[.int .i64 0, .int .i64 0, .string ⟨#[]⟩], .int .i64 E]) (by simp [results, Tryz.results5, go_sem, r0, r1, r2]) rfl ⟨rfl, ?_⟩
  exact ((B2.setCell (by simp; omega) _).setCell (by simp; omega) _).setCell (by simp; omega) _

set_option maxHeartbeats 8000000 in
set_option maxRecDepth 1000000 in
theorem refReckon_type (op : ByteArray) (a b : Va) (w : World) (hop : inL ops4 op = true) (he : errs [a, b] = 0) (hx : ¬ ((a.ty = 0 ∨ grp a.ty = 1) ∧ (b.ty = 0 ∨ grp b.ty = 1))) :
    Calls Tryz.prog 5 #[.string op, .agg #[.int .i64 a.ty, .int .i64 a.n, .string a.s], .agg #[.int .i64 b.ty, .int .i64 b.n, .string b.s]] w fun e w' => e = .returned (ans ((⟨0, 0, ⟨#[]⟩⟩ : Va), 7)) ∧ Below w.heap.size w w' := by
  have F0 : Hid _ := Fr.new w a b ⟨0, 0, ⟨#[]⟩⟩
  have B0 : Hid _ := (((Below.refl _ w).alloc (Nat.le_refl _) (.cells #[.int .i64 a.ty, .int .i64 a.n, .string a.s] 23)).alloc (by simp) (.cells #[.int .i64 b.ty, .int .i64 b.n, .string b.s] 23)).alloc (by simp; omega) (.cells #[.int .i64 0, .int .i64 0, .string ⟨#[]⟩] 23)
  have V0 : Hid (∀ t, _) := fun t => strsAt_four3 w (.cells #[.int .i64 a.ty, .int .i64 a.n, .string a.s] 23) (.cells #[.int .i64 b.ty, .int .i64 b.n, .string b.s] 23) (.cells #[.int .i64 0, .int .i64 0, .string ⟨#[]⟩] 23) t
  have IN : Hid (∀ g w, strsAt w g ops4 → Calls Tryz.prog 15 #[.slice (some ⟨g, 0, none⟩) 4 4, .string op] w fun e w' => e = .returned (.bool true) ∧ Below w.heap.size w w') := fun g w hv => (in_any g 4 ops4 op w (by decide) hv).mono (by rintro e w' ⟨rfl, rfl⟩; exact ⟨by rw [hop], Below.refl _ _⟩)
  have BO : Hid (∀ w, Calls Tryz.prog 16 #[.agg #[.int .i64 a.ty, .int .i64 a.n, .string a.s], .agg #[.int .i64 b.ty, .int .i64 b.n, .string b.s]] w fun e w' => e = .returned (.int .i64 (errs [a, b])) ∧ Below w.heap.size w w') := fun w => by rw [errs_two]; exact both_any a.ty a.n a.s b.ty b.n b.s w
  have NA : Hid (∀ w, Calls Tryz.prog 17 #[.agg #[.int .i64 a.ty, .int .i64 a.n, .string a.s]] w fun e w' => e = .returned (.bool (grp a.ty == 1)) ∧ Below w.heap.size w w') := fun w => refNumber_any a w
  have NB : Hid (∀ w, Calls Tryz.prog 17 #[.agg #[.int .i64 b.ty, .int .i64 b.n, .string b.s]] w fun e w' => e = .returned (.bool (grp b.ty == 1)) ∧ Below w.heap.size w w') := fun w => refNumber_any b w
  rw [he] at BO
  clear he hop
  have NA2 := fun h => (beq_eq_false_iff_ne (a := grp a.ty) (b := 1)).2 h
  have NB2 := fun h => (beq_eq_false_iff_ne (a := grp b.ty) (b := 1)).2 h
  by_cases ga : a.ty = 0 ∨ grp a.ty = 1
  · have gb : ¬ (b.ty = 0 ∨ grp b.ty = 1) := fun h => hx ⟨ga, h⟩
    rw [not_or] at gb
    obtain ⟨hb, gb⟩ := gb
    rw [NB2 gb] at NB
    have pb0 : (b.ty != 0) = true := by rw [bne_iff_ne]; exact hb
    have pb1 : (b.ty == 0) = false := by rw [beq_eq_false_iff_ne]; exact hb
    by_cases ha : a.ty = 0
    · have pa0 : (a.ty != 0) = false := by rw [ha]; rfl
      have pa1 : (a.ty == 0) = true := by rw [ha]; rfl
      clear NA2 NB2 ga gb hx ha hb
      go_enter Tryz.func5, Tryz.ntmps5
      go_wp2_with fail
      refine (IN.out _ _ (V0.out _)).mono ?_
      rintro e w1 ⟨rfl, hb1⟩
      have F1 := F0.out.below (((Below.refl _ _).alloc (Nat.le_refl _) _).trans (hb1.mono (by simp)))
      have B1 := (B0.out.alloc (by simp; omega) _).trans (hb1.mono (by simp; omega))
      clear hb1 F0 B0 V0
      obtain ⟨l1, a0, a1, a2, b0, b1, b2, r0, r1, r2, hf⟩ := id F1
      go_wp2_with fail
      refine (BO.out _).mono ?_
      rintro e w2 ⟨rfl, hb2⟩
      have F2 := F1.below hb2
      have B2 := B1.trans (hb2.mono B1.size)
      clear l1 a0 a1 a2 b0 b1 b2 r0 r1 r2 hf F1 B1 hb2
      obtain ⟨l1, a0, a1, a2, b0, b1, b2, r0, r1, r2, hf⟩ := id F2
      go_wp2_with fail
      refine (NB.out _).mono ?_
      rintro e w3 ⟨rfl, hb3⟩
      have F3 := F2.below hb3
      have B3 := B2.trans (hb3.mono B2.size)
      clear l1 a0 a1 a2 b0 b1 b2 r0 r1 r2 hf F2 B2 hb3
      obtain ⟨l1, a0, a1, a2, b0, b1, b2, r0, r1, r2, hf⟩ := id F3
      go_wp2_with fail
      refine bodyPost_ret (v := .tuple #[.agg #[.int .i64 0, .int .i64 0, .string ⟨#[]⟩], .int .i64 7]) (by simp [results, Tryz.results5, go_sem, r0, r1, r2]) rfl ⟨rfl, ?_⟩
      exact ((B3.setCell (by simp; omega) _).setCell (by simp; omega) _).setCell (by simp; omega) _
    · have g1 : grp a.ty = 1 := ga.resolve_left ha
      rw [g1] at NA
      simp only [beq_self_eq_true] at NA
      have pa0 : (a.ty != 0) = true := by rw [bne_iff_ne]; exact ha
      have pa1 : (a.ty == 0) = false := by rw [beq_eq_false_iff_ne]; exact ha
      clear NA2 NB2 ga gb hx ha hb g1
      go_enter Tryz.func5, Tryz.ntmps5
      go_wp2_with fail
      refine (IN.out _ _ (V0.out _)).mono ?_
      rintro e w1 ⟨rfl, hb1⟩
      have F1 := F0.out.below (((Below.refl _ _).alloc (Nat.le_refl _) _).trans (hb1.mono (by simp)))
      have B1 := (B0.out.alloc (by simp; omega) _).trans (hb1.mono (by simp; omega))
      clear hb1 F0 B0 V0
      obtain ⟨l1, a0, a1, a2, b0, b1, b2, r0, r1, r2, hf⟩ := id F1
      go_wp2_with fail
      refine (BO.out _).mono ?_
      rintro e w2 ⟨rfl, hb2⟩
      have F2 := F1.below hb2
      have B2 := B1.trans (hb2.mono B1.size)
      clear l1 a0 a1 a2 b0 b1 b2 r0 r1 r2 hf F1 B1 hb2
      obtain ⟨l1, a0, a1, a2, b0, b1, b2, r0, r1, r2, hf⟩ := id F2
      go_wp2_with fail
      refine (NA.out _).mono ?_
      rintro e w3 ⟨rfl, hb3⟩
      have F3 := F2.below hb3
      have B3 := B2.trans (hb3.mono B2.size)
      clear l1 a0 a1 a2 b0 b1 b2 r0 r1 r2 hf F2 B2 hb3
      obtain ⟨l1, a0, a1, a2, b0, b1, b2, r0, r1, r2, hf⟩ := id F3
      go_wp2_with fail
      refine (NB.out _).mono ?_
      rintro e w4 ⟨rfl, hb4⟩
      have F4 := F3.below hb4
      have B4 := B3.trans (hb4.mono B3.size)
      clear l1 a0 a1 a2 b0 b1 b2 r0 r1 r2 hf F3 B3 hb4
      obtain ⟨l1, a0, a1, a2, b0, b1, b2, r0, r1, r2, hf⟩ := id F4
      go_wp2_with fail
      refine bodyPost_ret (v := .tuple #[.agg #[.int .i64 0, .int .i64 0, .string ⟨#[]⟩], .int .i64 7]) (by simp [results, Tryz.results5, go_sem, r0, r1, r2]) rfl ⟨rfl, ?_⟩
      exact ((B4.setCell (by simp; omega) _).setCell (by simp; omega) _).setCell (by simp; omega) _
  · rw [not_or] at ga
    obtain ⟨ha, ga⟩ := ga
    rw [NA2 ga] at NA
    have pa0 : (a.ty != 0) = true := by rw [bne_iff_ne]; exact ha
    have pa1 : (a.ty == 0) = false := by rw [beq_eq_false_iff_ne]; exact ha
    clear NA2 NB2 ga hx ha NB
    go_enter Tryz.func5, Tryz.ntmps5
    go_wp2_with fail
    refine (IN.out _ _ (V0.out _)).mono ?_
    rintro e w1 ⟨rfl, hb1⟩
    have F1 := F0.out.below (((Below.refl _ _).alloc (Nat.le_refl _) _).trans (hb1.mono (by simp)))
    have B1 := (B0.out.alloc (by simp; omega) _).trans (hb1.mono (by simp; omega))
    clear hb1 F0 B0 V0
    obtain ⟨l1, a0, a1, a2, b0, b1, b2, r0, r1, r2, hf⟩ := id F1
    go_wp2_with fail
    refine (BO.out _).mono ?_
    rintro e w2 ⟨rfl, hb2⟩
    have F2 := F1.below hb2
    have B2 := B1.trans (hb2.mono B1.size)
    clear l1 a0 a1 a2 b0 b1 b2 r0 r1 r2 hf F1 B1 hb2
    obtain ⟨l1, a0, a1, a2, b0, b1, b2, r0, r1, r2, hf⟩ := id F2
    go_wp2_with fail
    refine (NA.out _).mono ?_
    rintro e w3 ⟨rfl, hb3⟩
    have F3 := F2.below hb3
    have B3 := B2.trans (hb3.mono B2.size)
    clear l1 a0 a1 a2 b0 b1 b2 r0 r1 r2 hf F2 B2 hb3
    obtain ⟨l1, a0, a1, a2, b0, b1, b2, r0, r1, r2, hf⟩ := id F3
    go_wp2_with fail
    refine bodyPost_ret (v := .tuple #[.agg #[.int .i64 0, .int .i64 0, .string ⟨#[]⟩], .int .i64 7]) (by simp [results, Tryz.results5, go_sem, r0, r1, r2]) rfl ⟨rfl, ?_⟩
    exact ((B3.setCell (by simp; omega) _).setCell (by simp; omega) _).setCell (by simp; omega) _

set_option maxHeartbeats 8000000 in
set_option maxRecDepth 1000000 in
theorem refReckon_null (op : ByteArray) (a b : Va) (w : World) (hop : inL ops4 op = true) (he : errs [a, b] = 0) (hx : (a.ty = 0 ∨ grp a.ty = 1) ∧ (b.ty = 0 ∨ grp b.ty = 1)) (h0 : a.ty = 0 ∨ b.ty = 0) :
    Calls Tryz.prog 5 #[.string op, .agg #[.int .i64 a.ty, .int .i64 a.n, .string a.s], .agg #[.int .i64 b.ty, .int .i64 b.n, .string b.s]] w fun e w' => e = .returned (ans ((⟨0, 0, ⟨#[]⟩⟩ : Va), 0)) ∧ Below w.heap.size w w' := by
  have F0 : Hid _ := Fr.new w a b ⟨0, 0, ⟨#[]⟩⟩
  have B0 : Hid _ := (((Below.refl _ w).alloc (Nat.le_refl _) (.cells #[.int .i64 a.ty, .int .i64 a.n, .string a.s] 23)).alloc (by simp) (.cells #[.int .i64 b.ty, .int .i64 b.n, .string b.s] 23)).alloc (by simp; omega) (.cells #[.int .i64 0, .int .i64 0, .string ⟨#[]⟩] 23)
  have V0 : Hid (∀ t, _) := fun t => strsAt_four3 w (.cells #[.int .i64 a.ty, .int .i64 a.n, .string a.s] 23) (.cells #[.int .i64 b.ty, .int .i64 b.n, .string b.s] 23) (.cells #[.int .i64 0, .int .i64 0, .string ⟨#[]⟩] 23) t
  have IN : Hid (∀ g w, strsAt w g ops4 → Calls Tryz.prog 15 #[.slice (some ⟨g, 0, none⟩) 4 4, .string op] w fun e w' => e = .returned (.bool true) ∧ Below w.heap.size w w') := fun g w hv => (in_any g 4 ops4 op w (by decide) hv).mono (by rintro e w' ⟨rfl, rfl⟩; exact ⟨by rw [hop], Below.refl _ _⟩)
  have BO : Hid (∀ w, Calls Tryz.prog 16 #[.agg #[.int .i64 a.ty, .int .i64 a.n, .string a.s], .agg #[.int .i64 b.ty, .int .i64 b.n, .string b.s]] w fun e w' => e = .returned (.int .i64 (errs [a, b])) ∧ Below w.heap.size w w') := fun w => by rw [errs_two]; exact both_any a.ty a.n a.s b.ty b.n b.s w
  have NA : Hid (∀ w, Calls Tryz.prog 17 #[.agg #[.int .i64 a.ty, .int .i64 a.n, .string a.s]] w fun e w' => e = .returned (.bool (grp a.ty == 1)) ∧ Below w.heap.size w w') := fun w => refNumber_any a w
  have NB : Hid (∀ w, Calls Tryz.prog 17 #[.agg #[.int .i64 b.ty, .int .i64 b.n, .string b.s]] w fun e w' => e = .returned (.bool (grp b.ty == 1)) ∧ Below w.heap.size w w') := fun w => refNumber_any b w
  rw [he] at BO
  clear he hop
  obtain ⟨ga, gb⟩ := hx
  by_cases ha : a.ty = 0
  · by_cases hb : b.ty = 0
    · have pa0 : (a.ty != 0) = false := by rw [ha]; rfl
      have pa1 : (a.ty == 0) = true := by rw [ha]; rfl
      have pb0 : (b.ty != 0) = false := by rw [hb]; rfl
      have pb1 : (b.ty == 0) = true := by rw [hb]; rfl
      clear ga gb h0 ha hb NA NB
      go_enter Tryz.func5, Tryz.ntmps5
      go_wp2_with fail
      refine (IN.out _ _ (V0.out _)).mono ?_
      rintro e w1 ⟨rfl, hb1⟩
      have F1 := F0.out.below (((Below.refl _ _).alloc (Nat.le_refl _) _).trans (hb1.mono (by simp)))
      have B1 := (B0.out.alloc (by simp; omega) _).trans (hb1.mono (by simp; omega))
      clear hb1 F0 B0 V0
      obtain ⟨l1, a0, a1, a2, b0, b1, b2, r0, r1, r2, hf⟩ := id F1
      go_wp2_with fail
      refine (BO.out _).mono ?_
      rintro e w2 ⟨rfl, hb2⟩
      have F2 := F1.below hb2
      have B2 := B1.trans (hb2.mono B1.size)
      clear l1 a0 a1 a2 b0 b1 b2 r0 r1 r2 hf F1 B1 hb2
      obtain ⟨l1, a0, a1, a2, b0, b1, b2, r0, r1, r2, hf⟩ := id F2
      go_wp2_with fail
      refine bodyPost_ret (v := .tuple #[.agg #[.int .i64 0, .int .i64 0, .string ⟨#[]⟩], .int .i64 0]) (by simp [results, Tryz.results5, go_sem, r0, r1, r2]) rfl ⟨rfl, ?_⟩
      exact ((B2.setCell (by simp; omega) _).setCell (by simp; omega) _).setCell (by simp; omega) _
    · have g1b : grp b.ty = 1 := (gb).resolve_left hb
      rw [g1b] at NB
      simp only [beq_self_eq_true] at NB
      have pa0 : (a.ty != 0) = false := by rw [ha]; rfl
      have pa1 : (a.ty == 0) = true := by rw [ha]; rfl
      have pb0 : (b.ty != 0) = true := by rw [bne_iff_ne]; exact hb
      have pb1 : (b.ty == 0) = false := by rw [beq_eq_false_iff_ne]; exact hb
      clear ga gb h0 ha hb NA g1b
      go_enter Tryz.func5, Tryz.ntmps5
      go_wp2_with fail
      refine (IN.out _ _ (V0.out _)).mono ?_
      rintro e w1 ⟨rfl, hb1⟩
      have F1 := F0.out.below (((Below.refl _ _).alloc (Nat.le_refl _) _).trans (hb1.mono (by simp)))
      have B1 := (B0.out.alloc (by simp; omega) _).trans (hb1.mono (by simp; omega))
      clear hb1 F0 B0 V0
      obtain ⟨l1, a0, a1, a2, b0, b1, b2, r0, r1, r2, hf⟩ := id F1
      go_wp2_with fail
      refine (BO.out _).mono ?_
      rintro e w2 ⟨rfl, hb2⟩
      have F2 := F1.below hb2
      have B2 := B1.trans (hb2.mono B1.size)
      clear l1 a0 a1 a2 b0 b1 b2 r0 r1 r2 hf F1 B1 hb2
      obtain ⟨l1, a0, a1, a2, b0, b1, b2, r0, r1, r2, hf⟩ := id F2
      go_wp2_with fail
      refine (NB.out _).mono ?_
      rintro e w3 ⟨rfl, hb3⟩
      have F3 := F2.below hb3
      have B3 := B2.trans (hb3.mono B2.size)
      clear l1 a0 a1 a2 b0 b1 b2 r0 r1 r2 hf F2 B2 hb3
      obtain ⟨l1, a0, a1, a2, b0, b1, b2, r0, r1, r2, hf⟩ := id F3
      go_wp2_with fail
      refine bodyPost_ret (v := .tuple #[.agg #[.int .i64 0, .int .i64 0, .string ⟨#[]⟩], .int .i64 0]) (by simp [results, Tryz.results5, go_sem, r0, r1, r2]) rfl ⟨rfl, ?_⟩
      exact ((B3.setCell (by simp; omega) _).setCell (by simp; omega) _).setCell (by simp; omega) _
  · have hb := h0.resolve_left ha
    have g1a : grp a.ty = 1 := (ga).resolve_left ha
    rw [g1a] at NA
    simp only [beq_self_eq_true] at NA
    have pa0 : (a.ty != 0) = true := by rw [bne_iff_ne]; exact ha
    have pa1 : (a.ty == 0) = false := by rw [beq_eq_false_iff_ne]; exact ha
    have pb0 : (b.ty != 0) = false := by rw [hb]; rfl
    have pb1 : (b.ty == 0) = true := by rw [hb]; rfl
    clear ga gb h0 ha hb NB g1a
    go_enter Tryz.func5, Tryz.ntmps5
    go_wp2_with fail
    refine (IN.out _ _ (V0.out _)).mono ?_
    rintro e w1 ⟨rfl, hb1⟩
    have F1 := F0.out.below (((Below.refl _ _).alloc (Nat.le_refl _) _).trans (hb1.mono (by simp)))
    have B1 := (B0.out.alloc (by simp; omega) _).trans (hb1.mono (by simp; omega))
    clear hb1 F0 B0 V0
    obtain ⟨l1, a0, a1, a2, b0, b1, b2, r0, r1, r2, hf⟩ := id F1
    go_wp2_with fail
    refine (BO.out _).mono ?_
    rintro e w2 ⟨rfl, hb2⟩
    have F2 := F1.below hb2
    have B2 := B1.trans (hb2.mono B1.size)
    clear l1 a0 a1 a2 b0 b1 b2 r0 r1 r2 hf F1 B1 hb2
    obtain ⟨l1, a0, a1, a2, b0, b1, b2, r0, r1, r2, hf⟩ := id F2
    go_wp2_with fail
    refine (NA.out _).mono ?_
    rintro e w3 ⟨rfl, hb3⟩
    have F3 := F2.below hb3
    have B3 := B2.trans (hb3.mono B2.size)
    clear l1 a0 a1 a2 b0 b1 b2 r0 r1 r2 hf F2 B2 hb3
    obtain ⟨l1, a0, a1, a2, b0, b1, b2, r0, r1, r2, hf⟩ := id F3
    go_wp2_with fail
    refine bodyPost_ret (v := .tuple #[.agg #[.int .i64 0, .int .i64 0, .string ⟨#[]⟩], .int .i64 0]) (by simp [results, Tryz.results5, go_sem, r0, r1, r2]) rfl ⟨rfl, ?_⟩
    exact ((B3.setCell (by simp; omega) _).setCell (by simp; omega) _).setCell (by simp; omega) _
end Go.Proofs.YtppcoimfgafbfaaGreatDoor
