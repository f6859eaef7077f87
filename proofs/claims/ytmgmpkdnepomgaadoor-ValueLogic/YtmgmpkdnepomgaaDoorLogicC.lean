/-
  The walks of the reference's And, Or, and of the two Not.
-/
import Derived.Test.YtmgmpkdnepomgaaDoorLogicB
namespace Go.Proofs.YtmgmpkdnepomgaaDoor
open Go.RowKit Go.Shelf

set_option maxHeartbeats 4000000 in
set_option maxRecDepth 1000000 in
theorem joinedAnd (a b : Va) (w : World) :
    Calls Tryd.prog 15 #[.agg #[.int .i64 a.ty, .int .i64 a.n, .string a.s], .agg #[.int .i64 b.ty, .int .i64 b.n, .string b.s], .int .i64 0] w fun e w' => e = .returned (.tuple #[.agg #[.int .i64 (jT false a b), .int .i64 (jN false a b), .string ⟨#[]⟩], .int .i64 (truthsE [a, b])]) ∧ Below w.heap.size w w' := by
  have CN : Hid (∀ g w, valsAt w g [a, b] → Calls Tryd.prog 16 #[.slice (some ⟨g, 0, none⟩) 2 2] w fun e w' => e = .returned (.int .i64 (truthsE [a, b])) ∧ Below w.heap.size w w') := fun g w hv => three_any g 2 [a, b] w (by simp) hv
  have TS : Hid (∀ w, Calls Tryd.prog 17 #[.bool false] w fun e w' => e = .returned (.agg #[.int .i64 4, .int .i64 0, .string ⟨#[]⟩]) ∧ Below w.heap.size w w') := fun w => Truth_any false w
  have TO : Hid (∀ w, Calls Tryd.prog 17 #[.bool true] w fun e w' => e = .returned (.agg #[.int .i64 4, .int .i64 1, .string ⟨#[]⟩]) ∧ Below w.heap.size w w') := fun w => Truth_any true w
  have F0 : Hid _ := Fr.new w a b ⟨0, 0, ⟨#[]⟩⟩
  have B0 : Hid _ := (((Below.refl _ w).alloc (Nat.le_refl _) (.cells #[.int .i64 a.ty, .int .i64 a.n, .string a.s] 23)).alloc (by simp) (.cells #[.int .i64 b.ty, .int .i64 b.n, .string b.s] 23)).alloc (by simp; omega) (.cells #[.int .i64 0, .int .i64 0, .string ⟨#[]⟩] 23)
  have V0 : Hid _ := valsAt_two3 w (.cells #[.int .i64 a.ty, .int .i64 a.n, .string a.s] 23) (.cells #[.int .i64 b.ty, .int .i64 b.n, .string b.s] 23) (.cells #[.int .i64 0, .int .i64 0, .string ⟨#[]⟩] 23) a.ty a.n a.s b.ty b.n b.s
  by_cases he : truthsE [a, b] = 0
  · obtain ⟨ga, gb⟩ := (truths_two a b).1 he
    have ka : a.ty = 0 ∨ (a.ty = 4 ∧ a.n = 0) ∨ (a.ty = 4 ∧ a.n = 1) := by unfold good at ga; omega
    have kb : b.ty = 0 ∨ (b.ty = 4 ∧ b.n = 0) ∨ (b.ty = 4 ∧ b.n = 1) := by unfold good at gb; omega
    clear ga gb
    rcases ka with xa | xa | xa
    · rcases kb with xb | xb | xb
      · obtain ⟨e1, e2⟩ := (j_null he (by rw [isT, xa]; rfl) (by rw [isT, xb]; rfl) (by rw [xa, xb]; rfl) : jT false a b = _ ∧ jN false a b = _)
        have e3 : jN false a b = 0 := e2
        rw [e1, e3, he]
        rw [he] at CN
        have ha4 : (a.ty == 4) = false := by rw [beq_eq_false_iff_ne]; omega
        have ha0 : (a.ty == 0) = true := by rw [beq_iff_eq]; omega
        have hb4 : (b.ty == 4) = false := by rw [beq_eq_false_iff_ne]; omega
        have hb0 : (b.ty == 0) = true := by rw [beq_iff_eq]; omega
        clear he e1 e2 e3 xa xb
        go_enter Tryd.func15, Tryd.ntmps15
        go_wp2_with fail
        refine (CN.out _ _ ?_).mono ?_
        · exact V0.out
        rintro e w1 ⟨rfl, hb1⟩
        have F1 := F0.out.below (((Below.refl _ _).alloc (Nat.le_refl _) _).trans (hb1.mono (by simp)))
        have B1 := (B0.out.alloc (by simp; omega) _).trans (hb1.mono (by simp; omega))
        clear hb1 F0 B0 V0
        obtain ⟨l1, a0, a1, a2, b0, b1, b2, r0, r1, r2, hf⟩ := id F1
        go_wp2_with fail
        refine bodyPost_ret (v := .tuple #[.agg #[.int .i64 0, .int .i64 0, .string ⟨#[]⟩], .int .i64 0]) (by simp [results, Tryd.results15, go_sem, r0, r1, r2]) rfl ⟨rfl, ?_⟩
        first | exact ((B1.setCell (by simp; omega) _).setCell (by simp; omega) _).setCell (by simp; omega) _ | exact B1
      · obtain ⟨e1, e2⟩ := (j_set he (Or.inr (by rw [isT, xb.1, xb.2]; rfl)) : jT false a b = _ ∧ jN false a b = _)
        have e3 : jN false a b = 0 := e2
        rw [e1, e3, he]
        rw [he] at CN
        have ha4 : (a.ty == 4) = false := by rw [beq_eq_false_iff_ne]; omega
        have ha0 : (a.ty == 0) = true := by rw [beq_iff_eq]; omega
        have hb4 : (b.ty == 4) = true := by rw [beq_iff_eq]; omega
        have hb0 : (b.ty == 0) = false := by rw [beq_eq_false_iff_ne]; omega
        have hbn : (b.n == 0) = true := by rw [beq_iff_eq]; omega
        clear he e1 e2 e3 xa xb
        go_enter Tryd.func15, Tryd.ntmps15
        go_wp2_with fail
        refine (CN.out _ _ ?_).mono ?_
        · exact V0.out
        rintro e w1 ⟨rfl, hb1⟩
        have F1 := F0.out.below (((Below.refl _ _).alloc (Nat.le_refl _) _).trans (hb1.mono (by simp)))
        have B1 := (B0.out.alloc (by simp; omega) _).trans (hb1.mono (by simp; omega))
        clear hb1 F0 B0 V0
        obtain ⟨l1, a0, a1, a2, b0, b1, b2, r0, r1, r2, hf⟩ := id F1
        go_wp2_with fail
        refine (TS.out _).mono ?_
        rintro e w2 ⟨rfl, hb2⟩
        have F2 := F1.below hb2
        have B2 := B1.trans (hb2.mono B1.size)
        clear l1 a0 a1 a2 b0 b1 b2 r0 r1 r2 hf F1 B1 hb2
        obtain ⟨l1, a0, a1, a2, b0, b1, b2, r0, r1, r2, hf⟩ := id F2
        go_wp2_with fail
        refine bodyPost_ret (v := .tuple #[.agg #[.int .i64 4, .int .i64 0, .string ⟨#[]⟩], .int .i64 0]) (by simp [results, Tryd.results15, go_sem, r0, r1, r2]) rfl ⟨rfl, ?_⟩
        first | exact ((B2.setCell (by simp; omega) _).setCell (by simp; omega) _).setCell (by simp; omega) _ | exact B2
      · obtain ⟨e1, e2⟩ := (j_null he (by rw [isT, xa]; rfl) (by rw [isT, xb.1, xb.2]; rfl) (by rw [xa, xb.1]; rfl) : jT false a b = _ ∧ jN false a b = _)
        have e3 : jN false a b = 0 := e2
        rw [e1, e3, he]
        rw [he] at CN
        have ha4 : (a.ty == 4) = false := by rw [beq_eq_false_iff_ne]; omega
        have ha0 : (a.ty == 0) = true := by rw [beq_iff_eq]; omega
        have hb4 : (b.ty == 4) = true := by rw [beq_iff_eq]; omega
        have hb0 : (b.ty == 0) = false := by rw [beq_eq_false_iff_ne]; omega
        have hbn : (b.n == 0) = false := by rw [beq_eq_false_iff_ne]; omega
        clear he e1 e2 e3 xa xb
        go_enter Tryd.func15, Tryd.ntmps15
        go_wp2_with fail
        refine (CN.out _ _ ?_).mono ?_
        · exact V0.out
        rintro e w1 ⟨rfl, hb1⟩
        have F1 := F0.out.below (((Below.refl _ _).alloc (Nat.le_refl _) _).trans (hb1.mono (by simp)))
        have B1 := (B0.out.alloc (by simp; omega) _).trans (hb1.mono (by simp; omega))
        clear hb1 F0 B0 V0
        obtain ⟨l1, a0, a1, a2, b0, b1, b2, r0, r1, r2, hf⟩ := id F1
        go_wp2_with fail
        refine bodyPost_ret (v := .tuple #[.agg #[.int .i64 0, .int .i64 0, .string ⟨#[]⟩], .int .i64 0]) (by simp [results, Tryd.results15, go_sem, r0, r1, r2]) rfl ⟨rfl, ?_⟩
        first | exact ((B1.setCell (by simp; omega) _).setCell (by simp; omega) _).setCell (by simp; omega) _ | exact B1
    · rcases kb with xb | xb | xb
      · obtain ⟨e1, e2⟩ := (j_set he (Or.inl (by rw [isT, xa.1, xa.2]; rfl)) : jT false a b = _ ∧ jN false a b = _)
        have e3 : jN false a b = 0 := e2
        rw [e1, e3, he]
        rw [he] at CN
        have ha4 : (a.ty == 4) = true := by rw [beq_iff_eq]; omega
        have ha0 : (a.ty == 0) = false := by rw [beq_eq_false_iff_ne]; omega
        have han : (a.n == 0) = true := by rw [beq_iff_eq]; omega
        have hb4 : (b.ty == 4) = false := by rw [beq_eq_false_iff_ne]; omega
        have hb0 : (b.ty == 0) = true := by rw [beq_iff_eq]; omega
        clear he e1 e2 e3 xa xb
        go_enter Tryd.func15, Tryd.ntmps15
        go_wp2_with fail
        refine (CN.out _ _ ?_).mono ?_
        · exact V0.out
        rintro e w1 ⟨rfl, hb1⟩
        have F1 := F0.out.below (((Below.refl _ _).alloc (Nat.le_refl _) _).trans (hb1.mono (by simp)))
        have B1 := (B0.out.alloc (by simp; omega) _).trans (hb1.mono (by simp; omega))
        clear hb1 F0 B0 V0
        obtain ⟨l1, a0, a1, a2, b0, b1, b2, r0, r1, r2, hf⟩ := id F1
        go_wp2_with fail
        refine (TS.out _).mono ?_
        rintro e w2 ⟨rfl, hb2⟩
        have F2 := F1.below hb2
        have B2 := B1.trans (hb2.mono B1.size)
        clear l1 a0 a1 a2 b0 b1 b2 r0 r1 r2 hf F1 B1 hb2
        obtain ⟨l1, a0, a1, a2, b0, b1, b2, r0, r1, r2, hf⟩ := id F2
        go_wp2_with fail
        refine bodyPost_ret (v := .tuple #[.agg #[.int .i64 4, .int .i64 0, .string ⟨#[]⟩], .int .i64 0]) (by simp [results, Tryd.results15, go_sem, r0, r1, r2]) rfl ⟨rfl, ?_⟩
        first | exact ((B2.setCell (by simp; omega) _).setCell (by simp; omega) _).setCell (by simp; omega) _ | exact B2
      · obtain ⟨e1, e2⟩ := (j_set he (Or.inl (by rw [isT, xa.1, xa.2]; rfl)) : jT false a b = _ ∧ jN false a b = _)
        have e3 : jN false a b = 0 := e2
        rw [e1, e3, he]
        rw [he] at CN
        have ha4 : (a.ty == 4) = true := by rw [beq_iff_eq]; omega
        have ha0 : (a.ty == 0) = false := by rw [beq_eq_false_iff_ne]; omega
        have han : (a.n == 0) = true := by rw [beq_iff_eq]; omega
        have hb4 : (b.ty == 4) = true := by rw [beq_iff_eq]; omega
        have hb0 : (b.ty == 0) = false := by rw [beq_eq_false_iff_ne]; omega
        have hbn : (b.n == 0) = true := by rw [beq_iff_eq]; omega
        clear he e1 e2 e3 xa xb
        go_enter Tryd.func15, Tryd.ntmps15
        go_wp2_with fail
        refine (CN.out _ _ ?_).mono ?_
        · exact V0.out
        rintro e w1 ⟨rfl, hb1⟩
        have F1 := F0.out.below (((Below.refl _ _).alloc (Nat.le_refl _) _).trans (hb1.mono (by simp)))
        have B1 := (B0.out.alloc (by simp; omega) _).trans (hb1.mono (by simp; omega))
        clear hb1 F0 B0 V0
        obtain ⟨l1, a0, a1, a2, b0, b1, b2, r0, r1, r2, hf⟩ := id F1
        go_wp2_with fail
        refine (TS.out _).mono ?_
        rintro e w2 ⟨rfl, hb2⟩
        have F2 := F1.below hb2
        have B2 := B1.trans (hb2.mono B1.size)
        clear l1 a0 a1 a2 b0 b1 b2 r0 r1 r2 hf F1 B1 hb2
        obtain ⟨l1, a0, a1, a2, b0, b1, b2, r0, r1, r2, hf⟩ := id F2
        go_wp2_with fail
        refine bodyPost_ret (v := .tuple #[.agg #[.int .i64 4, .int .i64 0, .string ⟨#[]⟩], .int .i64 0]) (by simp [results, Tryd.results15, go_sem, r0, r1, r2]) rfl ⟨rfl, ?_⟩
        first | exact ((B2.setCell (by simp; omega) _).setCell (by simp; omega) _).setCell (by simp; omega) _ | exact B2
      · obtain ⟨e1, e2⟩ := (j_set he (Or.inl (by rw [isT, xa.1, xa.2]; rfl)) : jT false a b = _ ∧ jN false a b = _)
        have e3 : jN false a b = 0 := e2
        rw [e1, e3, he]
        rw [he] at CN
        have ha4 : (a.ty == 4) = true := by rw [beq_iff_eq]; omega
        have ha0 : (a.ty == 0) = false := by rw [beq_eq_false_iff_ne]; omega
        have han : (a.n == 0) = true := by rw [beq_iff_eq]; omega
        have hb4 : (b.ty == 4) = true := by rw [beq_iff_eq]; omega
        have hb0 : (b.ty == 0) = false := by rw [beq_eq_false_iff_ne]; omega
        have hbn : (b.n == 0) = false := by rw [beq_eq_false_iff_ne]; omega
        clear he e1 e2 e3 xa xb
        go_enter Tryd.func15, Tryd.ntmps15
        go_wp2_with fail
        refine (CN.out _ _ ?_).mono ?_
        · exact V0.out
        rintro e w1 ⟨rfl, hb1⟩
        have F1 := F0.out.below (((Below.refl _ _).alloc (Nat.le_refl _) _).trans (hb1.mono (by simp)))
        have B1 := (B0.out.alloc (by simp; omega) _).trans (hb1.mono (by simp; omega))
        clear hb1 F0 B0 V0
        obtain ⟨l1, a0, a1, a2, b0, b1, b2, r0, r1, r2, hf⟩ := id F1
        go_wp2_with fail
        refine (TS.out _).mono ?_
        rintro e w2 ⟨rfl, hb2⟩
        have F2 := F1.below hb2
        have B2 := B1.trans (hb2.mono B1.size)
        clear l1 a0 a1 a2 b0 b1 b2 r0 r1 r2 hf F1 B1 hb2
        obtain ⟨l1, a0, a1, a2, b0, b1, b2, r0, r1, r2, hf⟩ := id F2
        go_wp2_with fail
        refine bodyPost_ret (v := .tuple #[.agg #[.int .i64 4, .int .i64 0, .string ⟨#[]⟩], .int .i64 0]) (by simp [results, Tryd.results15, go_sem, r0, r1, r2]) rfl ⟨rfl, ?_⟩
        first | exact ((B2.setCell (by simp; omega) _).setCell (by simp; omega) _).setCell (by simp; omega) _ | exact B2
    · rcases kb with xb | xb | xb
      · obtain ⟨e1, e2⟩ := (j_null he (by rw [isT, xa.1, xa.2]; rfl) (by rw [isT, xb]; rfl) (by rw [xa.1, xb]; rfl) : jT false a b = _ ∧ jN false a b = _)
        have e3 : jN false a b = 0 := e2
        rw [e1, e3, he]
        rw [he] at CN
        have ha4 : (a.ty == 4) = true := by rw [beq_iff_eq]; omega
        have ha0 : (a.ty == 0) = false := by rw [beq_eq_false_iff_ne]; omega
        have han : (a.n == 0) = false := by rw [beq_eq_false_iff_ne]; omega
        have hb4 : (b.ty == 4) = false := by rw [beq_eq_false_iff_ne]; omega
        have hb0 : (b.ty == 0) = true := by rw [beq_iff_eq]; omega
        clear he e1 e2 e3 xa xb
        go_enter Tryd.func15, Tryd.ntmps15
        go_wp2_with fail
        refine (CN.out _ _ ?_).mono ?_
        · exact V0.out
        rintro e w1 ⟨rfl, hb1⟩
        have F1 := F0.out.below (((Below.refl _ _).alloc (Nat.le_refl _) _).trans (hb1.mono (by simp)))
        have B1 := (B0.out.alloc (by simp; omega) _).trans (hb1.mono (by simp; omega))
        clear hb1 F0 B0 V0
        obtain ⟨l1, a0, a1, a2, b0, b1, b2, r0, r1, r2, hf⟩ := id F1
        go_wp2_with fail
        refine bodyPost_ret (v := .tuple #[.agg #[.int .i64 0, .int .i64 0, .string ⟨#[]⟩], .int .i64 0]) (by simp [results, Tryd.results15, go_sem, r0, r1, r2]) rfl ⟨rfl, ?_⟩
        first | exact ((B1.setCell (by simp; omega) _).setCell (by simp; omega) _).setCell (by simp; omega) _ | exact B1
      · obtain ⟨e1, e2⟩ := (j_set he (Or.inr (by rw [isT, xb.1, xb.2]; rfl)) : jT false a b = _ ∧ jN false a b = _)
        have e3 : jN false a b = 0 := e2
        rw [e1, e3, he]
        rw [he] at CN
        have ha4 : (a.ty == 4) = true := by rw [beq_iff_eq]; omega
        have ha0 : (a.ty == 0) = false := by rw [beq_eq_false_iff_ne]; omega
        have han : (a.n == 0) = false := by rw [beq_eq_false_iff_ne]; omega
        have hb4 : (b.ty == 4) = true := by rw [beq_iff_eq]; omega
        have hb0 : (b.ty == 0) = false := by rw [beq_eq_false_iff_ne]; omega
        have hbn : (b.n == 0) = true := by rw [beq_iff_eq]; omega
        clear he e1 e2 e3 xa xb
        go_enter Tryd.func15, Tryd.ntmps15
        go_wp2_with fail
        refine (CN.out _ _ ?_).mono ?_
        · exact V0.out
        rintro e w1 ⟨rfl, hb1⟩
        have F1 := F0.out.below (((Below.refl _ _).alloc (Nat.le_refl _) _).trans (hb1.mono (by simp)))
        have B1 := (B0.out.alloc (by simp; omega) _).trans (hb1.mono (by simp; omega))
        clear hb1 F0 B0 V0
        obtain ⟨l1, a0, a1, a2, b0, b1, b2, r0, r1, r2, hf⟩ := id F1
        go_wp2_with fail
        refine (TS.out _).mono ?_
        rintro e w2 ⟨rfl, hb2⟩
        have F2 := F1.below hb2
        have B2 := B1.trans (hb2.mono B1.size)
        clear l1 a0 a1 a2 b0 b1 b2 r0 r1 r2 hf F1 B1 hb2
        obtain ⟨l1, a0, a1, a2, b0, b1, b2, r0, r1, r2, hf⟩ := id F2
        go_wp2_with fail
        refine bodyPost_ret (v := .tuple #[.agg #[.int .i64 4, .int .i64 0, .string ⟨#[]⟩], .int .i64 0]) (by simp [results, Tryd.results15, go_sem, r0, r1, r2]) rfl ⟨rfl, ?_⟩
        first | exact ((B2.setCell (by simp; omega) _).setCell (by simp; omega) _).setCell (by simp; omega) _ | exact B2
      · obtain ⟨e1, e2⟩ := (j_else he (by rw [isT, xa.1, xa.2]; rfl) (by rw [isT, xb.1, xb.2]; rfl) (by rw [xa.1, xb.1]; rfl) : jT false a b = _ ∧ jN false a b = _)
        have e3 : jN false a b = 1 := e2
        rw [e1, e3, he]
        rw [he] at CN
        have ha4 : (a.ty == 4) = true := by rw [beq_iff_eq]; omega
        have ha0 : (a.ty == 0) = false := by rw [beq_eq_false_iff_ne]; omega
        have han : (a.n == 0) = false := by rw [beq_eq_false_iff_ne]; omega
        have hb4 : (b.ty == 4) = true := by rw [beq_iff_eq]; omega
        have hb0 : (b.ty == 0) = false := by rw [beq_eq_false_iff_ne]; omega
        have hbn : (b.n == 0) = false := by rw [beq_eq_false_iff_ne]; omega
        clear he e1 e2 e3 xa xb
        go_enter Tryd.func15, Tryd.ntmps15
        go_wp2_with fail
        refine (CN.out _ _ ?_).mono ?_
        · exact V0.out
        rintro e w1 ⟨rfl, hb1⟩
        have F1 := F0.out.below (((Below.refl _ _).alloc (Nat.le_refl _) _).trans (hb1.mono (by simp)))
        have B1 := (B0.out.alloc (by simp; omega) _).trans (hb1.mono (by simp; omega))
        clear hb1 F0 B0 V0
        obtain ⟨l1, a0, a1, a2, b0, b1, b2, r0, r1, r2, hf⟩ := id F1
        go_wp2_with fail
        refine (TO.out _).mono ?_
        rintro e w2 ⟨rfl, hb2⟩
        have F2 := F1.below hb2
        have B2 := B1.trans (hb2.mono B1.size)
        clear l1 a0 a1 a2 b0 b1 b2 r0 r1 r2 hf F1 B1 hb2
        obtain ⟨l1, a0, a1, a2, b0, b1, b2, r0, r1, r2, hf⟩ := id F2
        go_wp2_with fail
        refine bodyPost_ret (v := .tuple #[.agg #[.int .i64 4, .int .i64 1, .string ⟨#[]⟩], .int .i64 0]) (by simp [results, Tryd.results15, go_sem, r0, r1, r2]) rfl ⟨rfl, ?_⟩
        first | exact ((B2.setCell (by simp; omega) _).setCell (by simp; omega) _).setCell (by simp; omega) _ | exact B2
  · obtain ⟨e1, e2⟩ := j_err (s := false) he
    rw [e1, e2]
    have hne : (truthsE [a, b] != 0) = true := by rw [bne_iff_ne]; exact he
    clear e1 e2
    go_enter Tryd.func15, Tryd.ntmps15
    go_wp2_with fail
    refine (CN.out _ _ ?_).mono ?_
    · exact V0.out
    rintro e w1 ⟨rfl, hb1⟩
    have F1 := F0.out.below (((Below.refl _ _).alloc (Nat.le_refl _) _).trans (hb1.mono (by simp)))
    have B1 := (B0.out.alloc (by simp; omega) _).trans (hb1.mono (by simp; omega))
    clear hb1 F0 B0 V0
    obtain ⟨l1, a0, a1, a2, b0, b1, b2, r0, r1, r2, hf⟩ := id F1
    go_wp2_with fail
    refine bodyPost_ret (v := .tuple #[.agg #[.int .i64 0, .int .i64 0, .string ⟨#[]⟩], .int .i64 (truthsE [a, b])]) (by simp [results, Tryd.results15, go_sem, r0, r1, r2]) rfl ⟨rfl, ?_⟩
    first | exact ((B1.setCell (by simp; omega) _).setCell (by simp; omega) _).setCell (by simp; omega) _ | exact B1

set_option maxHeartbeats 2000000 in
set_option maxRecDepth 1000000 in
theorem refAnd_any (a b : Va) (w : World) :
    Calls Tryd.prog 5 #[.agg #[.int .i64 a.ty, .int .i64 a.n, .string a.s], .agg #[.int .i64 b.ty, .int .i64 b.n, .string b.s]] w fun e w' => e = .returned (.tuple #[.agg #[.int .i64 (jT false a b), .int .i64 (jN false a b), .string ⟨#[]⟩], .int .i64 (truthsE [a, b])]) ∧ Below w.heap.size w w' := by
  have J : Hid (∀ w, Calls Tryd.prog 15 #[.agg #[.int .i64 a.ty, .int .i64 a.n, .string a.s], .agg #[.int .i64 b.ty, .int .i64 b.n, .string b.s], .int .i64 0] w fun e w' => e = .returned (.tuple #[.agg #[.int .i64 (jT false a b), .int .i64 (jN false a b), .string ⟨#[]⟩], .int .i64 (truthsE [a, b])]) ∧ Below w.heap.size w w') := fun w => joinedAnd a b w
  generalize jT false a b = x at *
  generalize jN false a b = y at *
  generalize truthsE [a, b] = z at *
  have F0 : Hid _ := Fr.new w a b ⟨0, 0, ⟨#[]⟩⟩
  have B0 : Hid _ := (((Below.refl _ w).alloc (Nat.le_refl _) (.cells #[.int .i64 a.ty, .int .i64 a.n, .string a.s] 23)).alloc (by simp) (.cells #[.int .i64 b.ty, .int .i64 b.n, .string b.s] 23)).alloc (by simp; omega) (.cells #[.int .i64 0, .int .i64 0, .string ⟨#[]⟩] 23)
  go_enter Tryd.func5, Tryd.ntmps5
  go_wp2_with fail
  refine (J.out _).mono ?_
  rintro e w1 ⟨rfl, hb1⟩
  have F1 := F0.out.below hb1
  have B1 := B0.out.trans (hb1.mono (by simp; omega))
  clear hb1 F0 B0
  obtain ⟨l1, a0, a1, a2, b0, b1, b2, r0, r1, r2, hf⟩ := id F1
  go_wp2_with fail
  refine bodyPost_ret (v := .tuple #[.agg #[.int .i64 x, .int .i64 y, .string ⟨#[]⟩], .int .i64 z]) (by simp [results, Tryd.results5, go_sem, r0, r1, r2]) rfl ⟨rfl, ?_⟩
  first | exact ((B1.setCell (by simp; omega) _).setCell (by simp; omega) _).setCell (by simp; omega) _ | exact B1

set_option maxHeartbeats 4000000 in
set_option maxRecDepth 1000000 in
theorem joinedOr (a b : Va) (w : World) :
    Calls Tryd.prog 15 #[.agg #[.int .i64 a.ty, .int .i64 a.n, .string a.s], .agg #[.int .i64 b.ty, .int .i64 b.n, .string b.s], .int .i64 1] w fun e w' => e = .returned (.tuple #[.agg #[.int .i64 (jT true a b), .int .i64 (jN true a b), .string ⟨#[]⟩], .int .i64 (truthsE [a, b])]) ∧ Below w.heap.size w w' := by
  have CN : Hid (∀ g w, valsAt w g [a, b] → Calls Tryd.prog 16 #[.slice (some ⟨g, 0, none⟩) 2 2] w fun e w' => e = .returned (.int .i64 (truthsE [a, b])) ∧ Below w.heap.size w w') := fun g w hv => three_any g 2 [a, b] w (by simp) hv
  have TS : Hid (∀ w, Calls Tryd.prog 17 #[.bool true] w fun e w' => e = .returned (.agg #[.int .i64 4, .int .i64 1, .string ⟨#[]⟩]) ∧ Below w.heap.size w w') := fun w => Truth_any true w
  have TO : Hid (∀ w, Calls Tryd.prog 17 #[.bool false] w fun e w' => e = .returned (.agg #[.int .i64 4, .int .i64 0, .string ⟨#[]⟩]) ∧ Below w.heap.size w w') := fun w => Truth_any false w
  have F0 : Hid _ := Fr.new w a b ⟨0, 0, ⟨#[]⟩⟩
  have B0 : Hid _ := (((Below.refl _ w).alloc (Nat.le_refl _) (.cells #[.int .i64 a.ty, .int .i64 a.n, .string a.s] 23)).alloc (by simp) (.cells #[.int .i64 b.ty, .int .i64 b.n, .string b.s] 23)).alloc (by simp; omega) (.cells #[.int .i64 0, .int .i64 0, .string ⟨#[]⟩] 23)
  have V0 : Hid _ := valsAt_two3 w (.cells #[.int .i64 a.ty, .int .i64 a.n, .string a.s] 23) (.cells #[.int .i64 b.ty, .int .i64 b.n, .string b.s] 23) (.cells #[.int .i64 0, .int .i64 0, .string ⟨#[]⟩] 23) a.ty a.n a.s b.ty b.n b.s
  by_cases he : truthsE [a, b] = 0
  · obtain ⟨ga, gb⟩ := (truths_two a b).1 he
    have ka : a.ty = 0 ∨ (a.ty = 4 ∧ a.n = 1) ∨ (a.ty = 4 ∧ a.n = 0) := by unfold good at ga; omega
    have kb : b.ty = 0 ∨ (b.ty = 4 ∧ b.n = 1) ∨ (b.ty = 4 ∧ b.n = 0) := by unfold good at gb; omega
    clear ga gb
    rcases ka with xa | xa | xa
    · rcases kb with xb | xb | xb
      · obtain ⟨e1, e2⟩ := (j_null he (by rw [isT, xa]; rfl) (by rw [isT, xb]; rfl) (by rw [xa, xb]; rfl) : jT true a b = _ ∧ jN true a b = _)
        have e3 : jN true a b = 0 := e2
        rw [e1, e3, he]
        rw [he] at CN
        have ha4 : (a.ty == 4) = false := by rw [beq_eq_false_iff_ne]; omega
        have ha0 : (a.ty == 0) = true := by rw [beq_iff_eq]; omega
        have hb4 : (b.ty == 4) = false := by rw [beq_eq_false_iff_ne]; omega
        have hb0 : (b.ty == 0) = true := by rw [beq_iff_eq]; omega
        clear he e1 e2 e3 xa xb
        go_enter Tryd.func15, Tryd.ntmps15
        go_wp2_with fail
        refine (CN.out _ _ ?_).mono ?_
        · exact V0.out
        rintro e w1 ⟨rfl, hb1⟩
        have F1 := F0.out.below (((Below.refl _ _).alloc (Nat.le_refl _) _).trans (hb1.mono (by simp)))
        have B1 := (B0.out.alloc (by simp; omega) _).trans (hb1.mono (by simp; omega))
        clear hb1 F0 B0 V0
        obtain ⟨l1, a0, a1, a2, b0, b1, b2, r0, r1, r2, hf⟩ := id F1
        go_wp2_with fail
        refine bodyPost_ret (v := .tuple #[.agg #[.int .i64 0, .int .i64 0, .string ⟨#[]⟩], .int .i64 0]) (by simp [results, Tryd.results15, go_sem, r0, r1, r2]) rfl ⟨rfl, ?_⟩
        first | exact ((B1.setCell (by simp; omega) _).setCell (by simp; omega) _).setCell (by simp; omega) _ | exact B1
      · obtain ⟨e1, e2⟩ := (j_set he (Or.inr (by rw [isT, xb.1, xb.2]; rfl)) : jT true a b = _ ∧ jN true a b = _)
        have e3 : jN true a b = 1 := e2
        rw [e1, e3, he]
        rw [he] at CN
        have ha4 : (a.ty == 4) = false := by rw [beq_eq_false_iff_ne]; omega
        have ha0 : (a.ty == 0) = true := by rw [beq_iff_eq]; omega
        have hb4 : (b.ty == 4) = true := by rw [beq_iff_eq]; omega
        have hb0 : (b.ty == 0) = false := by rw [beq_eq_false_iff_ne]; omega
        have hbn : (b.n == 1) = true := by rw [beq_iff_eq]; omega
        clear he e1 e2 e3 xa xb
        go_enter Tryd.func15, Tryd.ntmps15
        go_wp2_with fail
        refine (CN.out _ _ ?_).mono ?_
        · exact V0.out
        rintro e w1 ⟨rfl, hb1⟩
        have F1 := F0.out.below (((Below.refl _ _).alloc (Nat.le_refl _) _).trans (hb1.mono (by simp)))
        have B1 := (B0.out.alloc (by simp; omega) _).trans (hb1.mono (by simp; omega))
        clear hb1 F0 B0 V0
        obtain ⟨l1, a0, a1, a2, b0, b1, b2, r0, r1, r2, hf⟩ := id F1
        go_wp2_with fail
        refine (TS.out _).mono ?_
        rintro e w2 ⟨rfl, hb2⟩
        have F2 := F1.below hb2
        have B2 := B1.trans (hb2.mono B1.size)
        clear l1 a0 a1 a2 b0 b1 b2 r0 r1 r2 hf F1 B1 hb2
        obtain ⟨l1, a0, a1, a2, b0, b1, b2, r0, r1, r2, hf⟩ := id F2
        go_wp2_with fail
        refine bodyPost_ret (v := .tuple #[.agg #[.int .i64 4, .int .i64 1, .string ⟨#[]⟩], .int .i64 0]) (by simp [results, Tryd.results15, go_sem, r0, r1, r2]) rfl ⟨rfl, ?_⟩
        first | exact ((B2.setCell (by simp; omega) _).setCell (by simp; omega) _).setCell (by simp; omega) _ | exact B2
      · obtain ⟨e1, e2⟩ := (j_null he (by rw [isT, xa]; rfl) (by rw [isT, xb.1, xb.2]; rfl) (by rw [xa, xb.1]; rfl) : jT true a b = _ ∧ jN true a b = _)
        have e3 : jN true a b = 0 := e2
        rw [e1, e3, he]
        rw [he] at CN
        have ha4 : (a.ty == 4) = false := by rw [beq_eq_false_iff_ne]; omega
        have ha0 : (a.ty == 0) = true := by rw [beq_iff_eq]; omega
        have hb4 : (b.ty == 4) = true := by rw [beq_iff_eq]; omega
        have hb0 : (b.ty == 0) = false := by rw [beq_eq_false_iff_ne]; omega
        have hbn : (b.n == 1) = false := by rw [beq_eq_false_iff_ne]; omega
        clear he e1 e2 e3 xa xb
        go_enter Tryd.func15, Tryd.ntmps15
        go_wp2_with fail
        refine (CN.out _ _ ?_).mono ?_
        · exact V0.out
        rintro e w1 ⟨rfl, hb1⟩
        have F1 := F0.out.below (((Below.refl _ _).alloc (Nat.le_refl _) _).trans (hb1.mono (by simp)))
        have B1 := (B0.out.alloc (by simp; omega) _).trans (hb1.mono (by simp; omega))
        clear hb1 F0 B0 V0
        obtain ⟨l1, a0, a1, a2, b0, b1, b2, r0, r1, r2, hf⟩ := id F1
        go_wp2_with fail
        refine bodyPost_ret (v := .tuple #[.agg #[.int .i64 0, .int .i64 0, .string ⟨#[]⟩], .int .i64 0]) (by simp [results, Tryd.results15, go_sem, r0, r1, r2]) rfl ⟨rfl, ?_⟩
        first | exact ((B1.setCell (by simp; omega) _).setCell (by simp; omega) _).setCell (by simp; omega) _ | exact B1
    · rcases kb with xb | xb | xb
      · obtain ⟨e1, e2⟩ := (j_set he (Or.inl (by rw [isT, xa.1, xa.2]; rfl)) : jT true a b = _ ∧ jN true a b = _)
        have e3 : jN true a b = 1 := e2
        rw [e1, e3, he]
        rw [he] at CN
        have ha4 : (a.ty == 4) = true := by rw [beq_iff_eq]; omega
        have ha0 : (a.ty == 0) = false := by rw [beq_eq_false_iff_ne]; omega
        have han : (a.n == 1) = true := by rw [beq_iff_eq]; omega
        have hb4 : (b.ty == 4) = false := by rw [beq_eq_false_iff_ne]; omega
        have hb0 : (b.ty == 0) = true := by rw [beq_iff_eq]; omega
        clear he e1 e2 e3 xa xb
        go_enter Tryd.func15, Tryd.ntmps15
        go_wp2_with fail
        refine (CN.out _ _ ?_).mono ?_
        · exact V0.out
        rintro e w1 ⟨rfl, hb1⟩
        have F1 := F0.out.below (((Below.refl _ _).alloc (Nat.le_refl _) _).trans (hb1.mono (by simp)))
        have B1 := (B0.out.alloc (by simp; omega) _).trans (hb1.mono (by simp; omega))
        clear hb1 F0 B0 V0
        obtain ⟨l1, a0, a1, a2, b0, b1, b2, r0, r1, r2, hf⟩ := id F1
        go_wp2_with fail
        refine (TS.out _).mono ?_
        rintro e w2 ⟨rfl, hb2⟩
        have F2 := F1.below hb2
        have B2 := B1.trans (hb2.mono B1.size)
        clear l1 a0 a1 a2 b0 b1 b2 r0 r1 r2 hf F1 B1 hb2
        obtain ⟨l1, a0, a1, a2, b0, b1, b2, r0, r1, r2, hf⟩ := id F2
        go_wp2_with fail
        refine bodyPost_ret (v := .tuple #[.agg #[.int .i64 4, .int .i64 1, .string ⟨#[]⟩], .int .i64 0]) (by simp [results, Tryd.results15, go_sem, r0, r1, r2]) rfl ⟨rfl, ?_⟩
        first | exact ((B2.setCell (by simp; omega) _).setCell (by simp; omega) _).setCell (by simp; omega) _ | exact B2
      · obtain ⟨e1, e2⟩ := (j_set he (Or.inl (by rw [isT, xa.1, xa.2]; rfl)) : jT true a b = _ ∧ jN true a b = _)
        have e3 : jN true a b = 1 := e2
        rw [e1, e3, he]
        rw [he] at CN
        have ha4 : (a.ty == 4) = true := by rw [beq_iff_eq]; omega
        have ha0 : (a.ty == 0) = false := by rw [beq_eq_false_iff_ne]; omega
        have han : (a.n == 1) = true := by rw [beq_iff_eq]; omega
        have hb4 : (b.ty == 4) = true := by rw [beq_iff_eq]; omega
        have hb0 : (b.ty == 0) = false := by rw [beq_eq_false_iff_ne]; omega
        have hbn : (b.n == 1) = true := by rw [beq_iff_eq]; omega
        clear he e1 e2 e3 xa xb
        go_enter Tryd.func15, Tryd.ntmps15
        go_wp2_with fail
        refine (CN.out _ _ ?_).mono ?_
        · exact V0.out
        rintro e w1 ⟨rfl, hb1⟩
        have F1 := F0.out.below (((Below.refl _ _).alloc (Nat.le_refl _) _).trans (hb1.mono (by simp)))
        have B1 := (B0.out.alloc (by simp; omega) _).trans (hb1.mono (by simp; omega))
        clear hb1 F0 B0 V0
        obtain ⟨l1, a0, a1, a2, b0, b1, b2, r0, r1, r2, hf⟩ := id F1
        go_wp2_with fail
        refine (TS.out _).mono ?_
        rintro e w2 ⟨rfl, hb2⟩
        have F2 := F1.below hb2
        have B2 := B1.trans (hb2.mono B1.size)
        clear l1 a0 a1 a2 b0 b1 b2 r0 r1 r2 hf F1 B1 hb2
        obtain ⟨l1, a0, a1, a2, b0, b1, b2, r0, r1, r2, hf⟩ := id F2
        go_wp2_with fail
        refine bodyPost_ret (v := .tuple #[.agg #[.int .i64 4, .int .i64 1, .string ⟨#[]⟩], .int .i64 0]) (by simp [results, Tryd.results15, go_sem, r0, r1, r2]) rfl ⟨rfl, ?_⟩
        first | exact ((B2.setCell (by simp; omega) _).setCell (by simp; omega) _).setCell (by simp; omega) _ | exact B2
      · obtain ⟨e1, e2⟩ := (j_set he (Or.inl (by rw [isT, xa.1, xa.2]; rfl)) : jT true a b = _ ∧ jN true a b = _)
        have e3 : jN true a b = 1 := e2
        rw [e1, e3, he]
        rw [he] at CN
        have ha4 : (a.ty == 4) = true := by rw [beq_iff_eq]; omega
        have ha0 : (a.ty == 0) = false := by rw [beq_eq_false_iff_ne]; omega
        have han : (a.n == 1) = true := by rw [beq_iff_eq]; omega
        have hb4 : (b.ty == 4) = true := by rw [beq_iff_eq]; omega
        have hb0 : (b.ty == 0) = false := by rw [beq_eq_false_iff_ne]; omega
        have hbn : (b.n == 1) = false := by rw [beq_eq_false_iff_ne]; omega
        clear he e1 e2 e3 xa xb
        go_enter Tryd.func15, Tryd.ntmps15
        go_wp2_with fail
        refine (CN.out _ _ ?_).mono ?_
        · exact V0.out
        rintro e w1 ⟨rfl, hb1⟩
        have F1 := F0.out.below (((Below.refl _ _).alloc (Nat.le_refl _) _).trans (hb1.mono (by simp)))
        have B1 := (B0.out.alloc (by simp; omega) _).trans (hb1.mono (by simp; omega))
        clear hb1 F0 B0 V0
        obtain ⟨l1, a0, a1, a2, b0, b1, b2, r0, r1, r2, hf⟩ := id F1
        go_wp2_with fail
        refine (TS.out _).mono ?_
        rintro e w2 ⟨rfl, hb2⟩
        have F2 := F1.below hb2
        have B2 := B1.trans (hb2.mono B1.size)
        clear l1 a0 a1 a2 b0 b1 b2 r0 r1 r2 hf F1 B1 hb2
        obtain ⟨l1, a0, a1, a2, b0, b1, b2, r0, r1, r2, hf⟩ := id F2
        go_wp2_with fail
        refine bodyPost_ret (v := .tuple #[.agg #[.int .i64 4, .int .i64 1, .string ⟨#[]⟩], .int .i64 0]) (by simp [results, Tryd.results15, go_sem, r0, r1, r2]) rfl ⟨rfl, ?_⟩
        first | exact ((B2.setCell (by simp; omega) _).setCell (by simp; omega) _).setCell (by simp; omega) _ | exact B2
    · rcases kb with xb | xb | xb
      · obtain ⟨e1, e2⟩ := (j_null he (by rw [isT, xa.1, xa.2]; rfl) (by rw [isT, xb]; rfl) (by rw [xa.1, xb]; rfl) : jT true a b = _ ∧ jN true a b = _)
        have e3 : jN true a b = 0 := e2
        rw [e1, e3, he]
        rw [he] at CN
        have ha4 : (a.ty == 4) = true := by rw [beq_iff_eq]; omega
        have ha0 : (a.ty == 0) = false := by rw [beq_eq_false_iff_ne]; omega
        have han : (a.n == 1) = false := by rw [beq_eq_false_iff_ne]; omega
        have hb4 : (b.ty == 4) = false := by rw [beq_eq_false_iff_ne]; omega
        have hb0 : (b.ty == 0) = true := by rw [beq_iff_eq]; omega
        clear he e1 e2 e3 xa xb
        go_enter Tryd.func15, Tryd.ntmps15
        go_wp2_with fail
        refine (CN.out _ _ ?_).mono ?_
        · exact V0.out
        rintro e w1 ⟨rfl, hb1⟩
        have F1 := F0.out.below (((Below.refl _ _).alloc (Nat.le_refl _) _).trans (hb1.mono (by simp)))
        have B1 := (B0.out.alloc (by simp; omega) _).trans (hb1.mono (by simp; omega))
        clear hb1 F0 B0 V0
        obtain ⟨l1, a0, a1, a2, b0, b1, b2, r0, r1, r2, hf⟩ := id F1
        go_wp2_with fail
        refine bodyPost_ret (v := .tuple #[.agg #[.int .i64 0, .int .i64 0, .string ⟨#[]⟩], .int .i64 0]) (by simp [results, Tryd.results15, go_sem, r0, r1, r2]) rfl ⟨rfl, ?_⟩
        first | exact ((B1.setCell (by simp; omega) _).setCell (by simp; omega) _).setCell (by simp; omega) _ | exact B1
      · obtain ⟨e1, e2⟩ := (j_set he (Or.inr (by rw [isT, xb.1, xb.2]; rfl)) : jT true a b = _ ∧ jN true a b = _)
        have e3 : jN true a b = 1 := e2
        rw [e1, e3, he]
        rw [he] at CN
        have ha4 : (a.ty == 4) = true := by rw [beq_iff_eq]; omega
        have ha0 : (a.ty == 0) = false := by rw [beq_eq_false_iff_ne]; omega
        have han : (a.n == 1) = false := by rw [beq_eq_false_iff_ne]; omega
        have hb4 : (b.ty == 4) = true := by rw [beq_iff_eq]; omega
        have hb0 : (b.ty == 0) = false := by rw [beq_eq_false_iff_ne]; omega
        have hbn : (b.n == 1) = true := by rw [beq_iff_eq]; omega
        clear he e1 e2 e3 xa xb
        go_enter Tryd.func15, Tryd.ntmps15
        go_wp2_with fail
        refine (CN.out _ _ ?_).mono ?_
        · exact V0.out
        rintro e w1 ⟨rfl, hb1⟩
        have F1 := F0.out.below (((Below.refl _ _).alloc (Nat.le_refl _) _).trans (hb1.mono (by simp)))
        have B1 := (B0.out.alloc (by simp; omega) _).trans (hb1.mono (by simp; omega))
        clear hb1 F0 B0 V0
        obtain ⟨l1, a0, a1, a2, b0, b1, b2, r0, r1, r2, hf⟩ := id F1
        go_wp2_with fail
        refine (TS.out _).mono ?_
        rintro e w2 ⟨rfl, hb2⟩
        have F2 := F1.below hb2
        have B2 := B1.trans (hb2.mono B1.size)
        clear l1 a0 a1 a2 b0 b1 b2 r0 r1 r2 hf F1 B1 hb2
        obtain ⟨l1, a0, a1, a2, b0, b1, b2, r0, r1, r2, hf⟩ := id F2
        go_wp2_with fail
        refine bodyPost_ret (v := .tuple #[.agg #[.int .i64 4, .int .i64 1, .string ⟨#[]⟩], .int .i64 0]) (by simp [results, Tryd.results15, go_sem, r0, r1, r2]) rfl ⟨rfl, ?_⟩
        first | exact ((B2.setCell (by simp; omega) _).setCell (by simp; omega) _).setCell (by simp; omega) _ | exact B2
      · obtain ⟨e1, e2⟩ := (j_else he (by rw [isT, xa.1, xa.2]; rfl) (by rw [isT, xb.1, xb.2]; rfl) (by rw [xa.1, xb.1]; rfl) : jT true a b = _ ∧ jN true a b = _)
        have e3 : jN true a b = 0 := e2
        rw [e1, e3, he]
        rw [he] at CN
        have ha4 : (a.ty == 4) = true := by rw [beq_iff_eq]; omega
        have ha0 : (a.ty == 0) = false := by rw [beq_eq_false_iff_ne]; omega
        have han : (a.n == 1) = false := by rw [beq_eq_false_iff_ne]; omega
        have hb4 : (b.ty == 4) = true := by rw [beq_iff_eq]; omega
        have hb0 : (b.ty == 0) = false := by rw [beq_eq_false_iff_ne]; omega
        have hbn : (b.n == 1) = false := by rw [beq_eq_false_iff_ne]; omega
        clear he e1 e2 e3 xa xb
        go_enter Tryd.func15, Tryd.ntmps15
        go_wp2_with fail
        refine (CN.out _ _ ?_).mono ?_
        · exact V0.out
        rintro e w1 ⟨rfl, hb1⟩
        have F1 := F0.out.below (((Below.refl _ _).alloc (Nat.le_refl _) _).trans (hb1.mono (by simp)))
        have B1 := (B0.out.alloc (by simp; omega) _).trans (hb1.mono (by simp; omega))
        clear hb1 F0 B0 V0
        obtain ⟨l1, a0, a1, a2, b0, b1, b2, r0, r1, r2, hf⟩ := id F1
        go_wp2_with fail
        refine (TO.out _).mono ?_
        rintro e w2 ⟨rfl, hb2⟩
        have F2 := F1.below hb2
        have B2 := B1.trans (hb2.mono B1.size)
        clear l1 a0 a1 a2 b0 b1 b2 r0 r1 r2 hf F1 B1 hb2
        obtain ⟨l1, a0, a1, a2, b0, b1, b2, r0, r1, r2, hf⟩ := id F2
        go_wp2_with fail
        refine bodyPost_ret (v := .tuple #[.agg #[.int .i64 4, .int .i64 0, .string ⟨#[]⟩], .int .i64 0]) (by simp [results, Tryd.results15, go_sem, r0, r1, r2]) rfl ⟨rfl, ?_⟩
        first | exact ((B2.setCell (by simp; omega) _).setCell (by simp; omega) _).setCell (by simp; omega) _ | exact B2
  · obtain ⟨e1, e2⟩ := j_err (s := true) he
    rw [e1, e2]
    have hne : (truthsE [a, b] != 0) = true := by rw [bne_iff_ne]; exact he
    clear e1 e2
    go_enter Tryd.func15, Tryd.ntmps15
    go_wp2_with fail
    refine (CN.out _ _ ?_).mono ?_
    · exact V0.out
    rintro e w1 ⟨rfl, hb1⟩
    have F1 := F0.out.below (((Below.refl _ _).alloc (Nat.le_refl _) _).trans (hb1.mono (by simp)))
    have B1 := (B0.out.alloc (by simp; omega) _).trans (hb1.mono (by simp; omega))
    clear hb1 F0 B0 V0
    obtain ⟨l1, a0, a1, a2, b0, b1, b2, r0, r1, r2, hf⟩ := id F1
    go_wp2_with fail
    refine bodyPost_ret (v := .tuple #[.agg #[.int .i64 0, .int .i64 0, .string ⟨#[]⟩], .int .i64 (truthsE [a, b])]) (by simp [results, Tryd.results15, go_sem, r0, r1, r2]) rfl ⟨rfl, ?_⟩
    first | exact ((B1.setCell (by simp; omega) _).setCell (by simp; omega) _).setCell (by simp; omega) _ | exact B1

set_option maxHeartbeats 2000000 in
set_option maxRecDepth 1000000 in
theorem refOr_any (a b : Va) (w : World) :
    Calls Tryd.prog 7 #[.agg #[.int .i64 a.ty, .int .i64 a.n, .string a.s], .agg #[.int .i64 b.ty, .int .i64 b.n, .string b.s]] w fun e w' => e = .returned (.tuple #[.agg #[.int .i64 (jT true a b), .int .i64 (jN true a b), .string ⟨#[]⟩], .int .i64 (truthsE [a, b])]) ∧ Below w.heap.size w w' := by
  have J : Hid (∀ w, Calls Tryd.prog 15 #[.agg #[.int .i64 a.ty, .int .i64 a.n, .string a.s], .agg #[.int .i64 b.ty, .int .i64 b.n, .string b.s], .int .i64 1] w fun e w' => e = .returned (.tuple #[.agg #[.int .i64 (jT true a b), .int .i64 (jN true a b), .string ⟨#[]⟩], .int .i64 (truthsE [a, b])]) ∧ Below w.heap.size w w') := fun w => joinedOr a b w
  generalize jT true a b = x at *
  generalize jN true a b = y at *
  generalize truthsE [a, b] = z at *
  have F0 : Hid _ := Fr.new w a b ⟨0, 0, ⟨#[]⟩⟩
  have B0 : Hid _ := (((Below.refl _ w).alloc (Nat.le_refl _) (.cells #[.int .i64 a.ty, .int .i64 a.n, .string a.s] 23)).alloc (by simp) (.cells #[.int .i64 b.ty, .int .i64 b.n, .string b.s] 23)).alloc (by simp; omega) (.cells #[.int .i64 0, .int .i64 0, .string ⟨#[]⟩] 23)
  go_enter Tryd.func7, Tryd.ntmps7
  go_wp2_with fail
  refine (J.out _).mono ?_
  rintro e w1 ⟨rfl, hb1⟩
  have F1 := F0.out.below hb1
  have B1 := B0.out.trans (hb1.mono (by simp; omega))
  clear hb1 F0 B0
  obtain ⟨l1, a0, a1, a2, b0, b1, b2, r0, r1, r2, hf⟩ := id F1
  go_wp2_with fail
  refine bodyPost_ret (v := .tuple #[.agg #[.int .i64 x, .int .i64 y, .string ⟨#[]⟩], .int .i64 z]) (by simp [results, Tryd.results7, go_sem, r0, r1, r2]) rfl ⟨rfl, ?_⟩
  first | exact ((B1.setCell (by simp; omega) _).setCell (by simp; omega) _).setCell (by simp; omega) _ | exact B1

end Go.Proofs.YtmgmpkdnepomgaaDoor
