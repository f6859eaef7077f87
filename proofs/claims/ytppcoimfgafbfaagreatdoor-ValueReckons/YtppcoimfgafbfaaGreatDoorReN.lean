/-
  The reference's Neg.
-/
import Derived.Test.YtppcoimfgafbfaaGreatDoorReH
import Derived.Test.YtppcoimfgafbfaaGreatDoorLwN
namespace Go.Proofs.YtppcoimfgafbfaaGreatDoor
open Go.RowKit Go.Shelf

set_option maxHeartbeats 8000000 in
set_option maxRecDepth 1000000 in
theorem refNeg_any (a : Va) (w : World) (fa : fit a.n) :
    Calls Tryz.prog 7 #[.agg #[.int .i64 a.ty, .int .i64 a.n, .string a.s]] w fun e w' => e = .returned (ans (ng a)) ∧ Below w.heap.size w w' := by
  have CK : Hid (∀ w, Calls Tryz.prog 21 #[.agg #[.int .i64 a.ty, .int .i64 a.n, .string a.s]] w fun e w' => e = .returned (.int .i64 (errs [a])) ∧ Below w.heap.size w w') := fun w => by rw [errs_one]; exact refCheck_any a.ty a.n a.s w
  have NA : Hid (∀ w, Calls Tryz.prog 17 #[.agg #[.int .i64 a.ty, .int .i64 a.n, .string a.s]] w fun e w' => e = .returned (.bool (grp a.ty == 1)) ∧ Below w.heap.size w w') := fun w => refNumber_any a w
  obtain ⟨C, hC⟩ : ∃ C, C = ng a := ⟨_, rfl⟩
  rw [← hC]
  by_cases he : errs [a] = 0
  · rw [he] at CK
    by_cases ga : a.ty = 0 ∨ grp a.ty = 1
    · have hn : nums [a] = 0 := by unfold nums chk2; rw [if_pos he, badNum_pass ga]; rfl
      by_cases ha : a.ty = 0
      · have e : C = (⟨0, 0, ⟨#[]⟩⟩, 0) := by rw [hC]; unfold ng; rw [if_neg (by simp [hn]), if_pos ha]
        have pa0 : (a.ty != 0) = false := by rw [ha]; rfl
        have pa1 : (a.ty == 0) = true := by rw [ha]; rfl
        subst e
        clear hC hn ga ha fa he NA
        go_enter Tryz.func7, Tryz.ntmps7
        go_wp2_with fail
        have F0 : Bx ((w.alloc (.cells #[.int .i64 a.ty, .int .i64 a.n, .string a.s] 23)).alloc (.cells #[.int .i64 0, .int .i64 0, .string ⟨#[]⟩] 23)) w.heap.size a := (Bx.new w a).alloc _
        have R0 : Res ((w.alloc (.cells #[.int .i64 a.ty, .int .i64 a.n, .string a.s] 23)).alloc (.cells #[.int .i64 0, .int .i64 0, .string ⟨#[]⟩] 23)) (w.heap.size + 1) 0 0 ⟨#[]⟩ := by
          have := Res.new (w.alloc (.cells #[.int .i64 a.ty, .int .i64 a.n, .string a.s] 23)) 0 0 ⟨#[]⟩
          rw [show (w.alloc (.cells #[.int .i64 a.ty, .int .i64 a.n, .string a.s] 23)).heap.size = w.heap.size + 1 by simp] at this
          exact this
        have B0 : Below w.heap.size w ((w.alloc (.cells #[.int .i64 a.ty, .int .i64 a.n, .string a.s] 23)).alloc (.cells #[.int .i64 0, .int .i64 0, .string ⟨#[]⟩] 23)) := ((Below.refl _ w).alloc (Nat.le_refl _) _).alloc (by simp) _
        generalize (w.alloc (.cells #[.int .i64 a.ty, .int .i64 a.n, .string a.s] 23)).alloc (.cells #[.int .i64 0, .int .i64 0, .string ⟨#[]⟩] 23) = w0 at *
        refine (CK.out _).mono ?_
        rintro e w1 ⟨rfl, hb1⟩
        have F1 := F0.below hb1
        have R1 := R0.below hb1
        have B1 := B0.trans (hb1.mono B0.size)
        clear F0 R0 B0 hb1
        obtain ⟨_, a0, a1, a2⟩ := id F1
        obtain ⟨_, r0, r1, r2, f0, f1, f2⟩ := id R1
        go_wp2_with fail
        refine bodyPost_ret (v := .tuple #[.agg #[.int .i64 0, .int .i64 0, .string ⟨#[]⟩], .int .i64 0]) (by simp [results, Tryz.results7, go_sem, r0, r1, r2]) rfl ⟨rfl, ?_⟩
        exact ((B1.setCell (by simp) _).setCell (by simp) _).setCell (by simp) _
      · have e : C = num a.ty (ovV (0 - a.n)) (ovE (0 - a.n)) := by rw [hC]; unfold ng; rw [if_neg (by simp [hn]), if_neg ha]
        have g1 := ga.resolve_left ha
        rw [g1] at NA
        simp only [beq_self_eq_true] at NA
        have pa0 : (a.ty != 0) = true := by rw [bne_iff_ne]; exact ha
        have pa1 : (a.ty == 0) = false := by rw [beq_eq_false_iff_ne]; exact ha
        have SZ : Hid (∀ w, Calls Tryz.prog 23 #[.int .i64 a.n] w fun e w' => e = .returned (.int .u64 (a.n.natAbs : Int)) ∧ w' = w) := fun w => refSize_any a.n w fa
        have NR1 := fun w => near_any a.n.natAbs (decide (0 < a.n)) w (by have := abs_lt fa; omega)
        have en : (if decide (0 < a.n) = true then -(a.n.natAbs : Int) else (a.n.natAbs : Int)) = 0 - a.n := by
          by_cases h : 0 < a.n
          · rw [if_pos (decide_eq_true h)]; omega
          · rw [if_neg (by rw [decide_eq_false h]; simp)]; omega
        rw [en] at NR1
        by_cases hf : fit (0 - a.n)
        · rw [ovV_in hf, ovE_in hf, num_ok] at e
          rw [ovV_in hf, fitB_in hf] at NR1
          subst e
          have NR : Hid (∀ w, _) := NR1
          generalize 0 - a.n = x at *
          clear NR1 hC hn ga ha fa he g1 en hf
          go_enter Tryz.func7, Tryz.ntmps7
          go_wp2_with fail
          have F0 : Bx ((w.alloc (.cells #[.int .i64 a.ty, .int .i64 a.n, .string a.s] 23)).alloc (.cells #[.int .i64 0, .int .i64 0, .string ⟨#[]⟩] 23)) w.heap.size a := (Bx.new w a).alloc _
          have R0 : Res ((w.alloc (.cells #[.int .i64 a.ty, .int .i64 a.n, .string a.s] 23)).alloc (.cells #[.int .i64 0, .int .i64 0, .string ⟨#[]⟩] 23)) (w.heap.size + 1) 0 0 ⟨#[]⟩ := by
            have := Res.new (w.alloc (.cells #[.int .i64 a.ty, .int .i64 a.n, .string a.s] 23)) 0 0 ⟨#[]⟩
            rw [show (w.alloc (.cells #[.int .i64 a.ty, .int .i64 a.n, .string a.s] 23)).heap.size = w.heap.size + 1 by simp] at this
            exact this
          have B0 : Below w.heap.size w ((w.alloc (.cells #[.int .i64 a.ty, .int .i64 a.n, .string a.s] 23)).alloc (.cells #[.int .i64 0, .int .i64 0, .string ⟨#[]⟩] 23)) := ((Below.refl _ w).alloc (Nat.le_refl _) _).alloc (by simp) _
          generalize (w.alloc (.cells #[.int .i64 a.ty, .int .i64 a.n, .string a.s] 23)).alloc (.cells #[.int .i64 0, .int .i64 0, .string ⟨#[]⟩] 23) = w0 at *
          refine (CK.out _).mono ?_
          rintro e w1 ⟨rfl, hb1⟩
          have F1 := F0.below hb1
          have R1 := R0.below hb1
          have B1 := B0.trans (hb1.mono B0.size)
          clear F0 R0 B0 hb1
          obtain ⟨_, a0, a1, a2⟩ := id F1
          obtain ⟨_, r0, r1, r2, f0, f1, f2⟩ := id R1
          go_wp2_with fail
          refine (NA.out _).mono ?_
          rintro e w2 ⟨rfl, hb2⟩
          have F2 := F1.below hb2
          have R2 := R1.below hb2
          have B2 := B1.trans (hb2.mono B1.size)
          clear a0 a1 a2 r0 r1 r2 f0 f1 f2 F1 R1 B1 hb2
          obtain ⟨_, a0, a1, a2⟩ := id F2
          obtain ⟨_, r0, r1, r2, f0, f1, f2⟩ := id R2
          go_wp2_with fail
          go_quiet (first | (go_at_call 23; refine Calls.quiet_of_same (SZ.out _)) | (go_at_call 22; refine Calls.quiet_of_same (NR.out _)))
          go_wp2_with fail
          have hb3 := below_drewN (Below.refl w2.heap.size w2) nq
          generalize w2.drewN nq = w3 at *
          have F3 := F2.below hb3
          have R3 := R2.below hb3
          have B3 := B2.trans (hb3.mono B2.size)
          clear a0 a1 a2 r0 r1 r2 f0 f1 f2 F2 R2 B2 hb3
          obtain ⟨_, a0, a1, a2⟩ := id F3
          obtain ⟨_, r0, r1, r2, f0, f1, f2⟩ := id R3
          refine bodyPost_ret (v := .tuple #[.agg #[.int .i64 a.ty, .int .i64 x, .string ⟨#[]⟩], .int .i64 0]) (by simp [results, Tryz.results7, go_sem, r0, r1, r2]) rfl ⟨rfl, ?_⟩
          exact ((B3.setCell (by simp) _).setCell (by simp) _).setCell (by simp) _
        · rw [ovV_out hf, ovE_out hf, num_bad (by decide)] at e
          rw [ovV_out hf, fitB_out hf] at NR1
          subst e
          have NR : Hid (∀ w, _) := NR1
          clear NR1 hC hn ga ha fa he g1 en hf
          go_enter Tryz.func7, Tryz.ntmps7
          go_wp2_with fail
          have F0 : Bx ((w.alloc (.cells #[.int .i64 a.ty, .int .i64 a.n, .string a.s] 23)).alloc (.cells #[.int .i64 0, .int .i64 0, .string ⟨#[]⟩] 23)) w.heap.size a := (Bx.new w a).alloc _
          have R0 : Res ((w.alloc (.cells #[.int .i64 a.ty, .int .i64 a.n, .string a.s] 23)).alloc (.cells #[.int .i64 0, .int .i64 0, .string ⟨#[]⟩] 23)) (w.heap.size + 1) 0 0 ⟨#[]⟩ := by
            have := Res.new (w.alloc (.cells #[.int .i64 a.ty, .int .i64 a.n, .string a.s] 23)) 0 0 ⟨#[]⟩
            rw [show (w.alloc (.cells #[.int .i64 a.ty, .int .i64 a.n, .string a.s] 23)).heap.size = w.heap.size + 1 by simp] at this
            exact this
          have B0 : Below w.heap.size w ((w.alloc (.cells #[.int .i64 a.ty, .int .i64 a.n, .string a.s] 23)).alloc (.cells #[.int .i64 0, .int .i64 0, .string ⟨#[]⟩] 23)) := ((Below.refl _ w).alloc (Nat.le_refl _) _).alloc (by simp) _
          generalize (w.alloc (.cells #[.int .i64 a.ty, .int .i64 a.n, .string a.s] 23)).alloc (.cells #[.int .i64 0, .int .i64 0, .string ⟨#[]⟩] 23) = w0 at *
          refine (CK.out _).mono ?_
          rintro e w1 ⟨rfl, hb1⟩
          have F1 := F0.below hb1
          have R1 := R0.below hb1
          have B1 := B0.trans (hb1.mono B0.size)
          clear F0 R0 B0 hb1
          obtain ⟨_, a0, a1, a2⟩ := id F1
          obtain ⟨_, r0, r1, r2, f0, f1, f2⟩ := id R1
          go_wp2_with fail
          refine (NA.out _).mono ?_
          rintro e w2 ⟨rfl, hb2⟩
          have F2 := F1.below hb2
          have R2 := R1.below hb2
          have B2 := B1.trans (hb2.mono B1.size)
          clear a0 a1 a2 r0 r1 r2 f0 f1 f2 F1 R1 B1 hb2
          obtain ⟨_, a0, a1, a2⟩ := id F2
          obtain ⟨_, r0, r1, r2, f0, f1, f2⟩ := id R2
          go_wp2_with fail
          go_quiet (first | (go_at_call 23; refine Calls.quiet_of_same (SZ.out _)) | (go_at_call 22; refine Calls.quiet_of_same (NR.out _)))
          go_wp2_with fail
          have hb3 := below_drewN (Below.refl w2.heap.size w2) nq
          generalize w2.drewN nq = w3 at *
          have F3 := F2.below hb3
          have R3 := R2.below hb3
          have B3 := B2.trans (hb3.mono B2.size)
          clear a0 a1 a2 r0 r1 r2 f0 f1 f2 F2 R2 B2 hb3
          obtain ⟨_, a0, a1, a2⟩ := id F3
          obtain ⟨_, r0, r1, r2, f0, f1, f2⟩ := id R3
          refine bodyPost_ret (v := .tuple #[.agg #[.int .i64 0, .int .i64 0, .string ⟨#[]⟩], .int .i64 10]) (by simp [results, Tryz.results7, go_sem, r0, r1, r2]) rfl ⟨rfl, ?_⟩
          exact ((B3.setCell (by simp) _).setCell (by simp) _).setCell (by simp) _
    · have hn : nums [a] = 7 := by unfold nums chk2; rw [if_pos he, badNum_stop ga]
      have e : C = (⟨0, 0, ⟨#[]⟩⟩, 7) := by rw [hC]; unfold ng; rw [if_pos (by rw [hn]; decide), hn]
      rw [not_or] at ga
      obtain ⟨ha, ga⟩ := ga
      rw [beq_eq_false_iff_ne.2 ga] at NA
      have pa0 : (a.ty != 0) = true := by rw [bne_iff_ne]; exact ha
      subst e
      clear hC hn ga ha fa he
      go_enter Tryz.func7, Tryz.ntmps7
      go_wp2_with fail
      have F0 : Bx ((w.alloc (.cells #[.int .i64 a.ty, .int .i64 a.n, .string a.s] 23)).alloc (.cells #[.int .i64 0, .int .i64 0, .string ⟨#[]⟩] 23)) w.heap.size a := (Bx.new w a).alloc _
      have R0 : Res ((w.alloc (.cells #[.int .i64 a.ty, .int .i64 a.n, .string a.s] 23)).alloc (.cells #[.int .i64 0, .int .i64 0, .string ⟨#[]⟩] 23)) (w.heap.size + 1) 0 0 ⟨#[]⟩ := by
        have := Res.new (w.alloc (.cells #[.int .i64 a.ty, .int .i64 a.n, .string a.s] 23)) 0 0 ⟨#[]⟩
        rw [show (w.alloc (.cells #[.int .i64 a.ty, .int .i64 a.n, .string a.s] 23)).heap.size = w.heap.size + 1 by simp] at this
        exact this
      have B0 : Below w.heap.size w ((w.alloc (.cells #[.int .i64 a.ty, .int .i64 a.n, .string a.s] 23)).alloc (.cells #[.int .i64 0, .int .i64 0, .string ⟨#[]⟩] 23)) := ((Below.refl _ w).alloc (Nat.le_refl _) _).alloc (by simp) _
      generalize (w.alloc (.cells #[.int .i64 a.ty, .int .i64 a.n, .string a.s] 23)).alloc (.cells #[.int .i64 0, .int .i64 0, .string ⟨#[]⟩] 23) = w0 at *
      refine (CK.out _).mono ?_
      rintro e w1 ⟨rfl, hb1⟩
      have F1 := F0.below hb1
      have R1 := R0.below hb1
      have B1 := B0.trans (hb1.mono B0.size)
      clear F0 R0 B0 hb1
      obtain ⟨_, a0, a1, a2⟩ := id F1
      obtain ⟨_, r0, r1, r2, f0, f1, f2⟩ := id R1
      go_wp2_with fail
      refine (NA.out _).mono ?_
      rintro e w2 ⟨rfl, hb2⟩
      have F2 := F1.below hb2
      have R2 := R1.below hb2
      have B2 := B1.trans (hb2.mono B1.size)
      clear a0 a1 a2 r0 r1 r2 f0 f1 f2 F1 R1 B1 hb2
      obtain ⟨_, a0, a1, a2⟩ := id F2
      obtain ⟨_, r0, r1, r2, f0, f1, f2⟩ := id R2
      go_wp2_with fail
      refine bodyPost_ret (v := .tuple #[.agg #[.int .i64 0, .int .i64 0, .string ⟨#[]⟩], .int .i64 7]) (by simp [results, Tryz.results7, go_sem, r0, r1, r2]) rfl ⟨rfl, ?_⟩
      exact ((B2.setCell (by simp) _).setCell (by simp) _).setCell (by simp) _
  · have hn : nums [a] = errs [a] := by unfold nums chk2; rw [if_neg he]
    have e : C = (⟨0, 0, ⟨#[]⟩⟩, errs [a]) := by rw [hC]; unfold ng; rw [if_pos (by rw [hn]; exact he), hn]
    have t1 : (errs [a] != 0) = true := by rw [bne_iff_ne]; exact he
    subst e
    generalize errs [a] = E at *
    clear hn fa hC he NA
    go_enter Tryz.func7, Tryz.ntmps7
    go_wp2_with fail
    have F0 : Bx ((w.alloc (.cells #[.int .i64 a.ty, .int .i64 a.n, .string a.s] 23)).alloc (.cells #[.int .i64 0, .int .i64 0, .string ⟨#[]⟩] 23)) w.heap.size a := (Bx.new w a).alloc _
    have R0 : Res ((w.alloc (.cells #[.int .i64 a.ty, .int .i64 a.n, .string a.s] 23)).alloc (.cells #[.int .i64 0, .int .i64 0, .string ⟨#[]⟩] 23)) (w.heap.size + 1) 0 0 ⟨#[]⟩ := by
      have := Res.new (w.alloc (.cells #[.int .i64 a.ty, .int .i64 a.n, .string a.s] 23)) 0 0 ⟨#[]⟩
      rw [show (w.alloc (.cells #[.int .i64 a.ty, .int .i64 a.n, .string a.s] 23)).heap.size = w.heap.size + 1 by simp] at this
      exact this
    have B0 : Below w.heap.size w ((w.alloc (.cells #[.int .i64 a.ty, .int .i64 a.n, .string a.s] 23)).alloc (.cells #[.int .i64 0, .int .i64 0, .string ⟨#[]⟩] 23)) := ((Below.refl _ w).alloc (Nat.le_refl _) _).alloc (by simp) _
    generalize (w.alloc (.cells #[.int .i64 a.ty, .int .i64 a.n, .string a.s] 23)).alloc (.cells #[.int .i64 0, .int .i64 0, .string ⟨#[]⟩] 23) = w0 at *
    refine (CK.out _).mono ?_
    rintro e w1 ⟨rfl, hb1⟩
    have F1 := F0.below hb1
    have R1 := R0.below hb1
    have B1 := B0.trans (hb1.mono B0.size)
    clear F0 R0 B0 hb1
    obtain ⟨_, a0, a1, a2⟩ := id F1
    obtain ⟨_, r0, r1, r2, f0, f1, f2⟩ := id R1
    go_wp2_with fail
    refine bodyPost_ret (v := .tuple #[.agg #[.int .i64 0, .int .i64 0, .string ⟨#[]⟩], .int .i64 E]) (by simp [results, Tryz.results7, go_sem, r0, r1, r2]) rfl ⟨rfl, ?_⟩
    exact ((B1.setCell (by simp) _).setCell (by simp) _).setCell (by simp) _
end Go.Proofs.YtppcoimfgafbfaaGreatDoor
