/-
  The walks of value.Test and lockstepref01.Test: both tell the same of any values.
-/
import Derived.Test.YtmgmpkdnepomgaaGreatDoorTstA
namespace Go.Proofs.YtmgmpkdnepomgaaGreatDoor
open Go.RowKit Go.Shelf

set_option maxHeartbeats 2000000 in
theorem Fits_any (a b : Int) (w : World) (ha : 0 ≤ a ∧ a ≤ 4) (hb : 0 ≤ b ∧ b ≤ 4) : Calls Tryz.prog 39 #[.int .i64 a, .int .i64 b] w fun e w' => e = .returned (.bool (fitsB a b)) ∧ w' = w := by
  have ka : a = 0 ∨ a = 1 ∨ a = 2 ∨ a = 3 ∨ a = 4 := by omega
  have kb : b = 0 ∨ b = 1 ∨ b = 2 ∨ b = 3 ∨ b = 4 := by omega
  clear ha hb
  rcases ka with rfl | rfl | rfl | rfl | rfl <;> rcases kb with rfl | rfl | rfl | rfl | rfl
  all_goals
    go_enter Tryz.func39, Tryz.ntmps39
    go_wp2
    go_ret
    exact ⟨rfl, rfl⟩
set_option maxHeartbeats 1000000 in
theorem number_any (v : Va) (w : World) : Calls Tryz.prog 40 #[.agg #[.int .i64 v.ty, .int .i64 v.n, .string v.s]] w fun e w' => e = .returned (.bool (grp v.ty == 1)) ∧ Below w.heap.size w w' := by
  have B0 : Hid (∀ o, Below w.heap.size w (w.alloc o)) := fun o => (Below.refl _ w).alloc (Nat.le_refl _) o
  obtain ⟨ty, n, s⟩ := v
  simp only
  rcases ty_cases ty with rfl | rfl | rfl | rfl | rfl | ⟨h0, h1, h2, h3, h4⟩
  · go_enter Tryz.func40, Tryz.ntmps40
    go_wp2
    go_ret
    exact ⟨rfl, B0.out _⟩
  · go_enter Tryz.func40, Tryz.ntmps40
    go_wp2
    go_ret
    exact ⟨rfl, B0.out _⟩
  · go_enter Tryz.func40, Tryz.ntmps40
    go_wp2
    go_ret
    exact ⟨rfl, B0.out _⟩
  · go_enter Tryz.func40, Tryz.ntmps40
    go_wp2
    go_ret
    exact ⟨rfl, B0.out _⟩
  · go_enter Tryz.func40, Tryz.ntmps40
    go_wp2
    go_ret
    exact ⟨rfl, B0.out _⟩
  · have hg : grp ty = 4 := by unfold grp; rw [if_neg h0, if_neg (by omega), if_neg h3, if_neg h4]
    rw [hg]
    have b1 : (ty == 1) = false := by rw [beq_eq_false_iff_ne]; exact h1
    have b2 : (ty == 2) = false := by rw [beq_eq_false_iff_ne]; exact h2
    clear h0 h1 h2 h3 h4
    go_enter Tryz.func40, Tryz.ntmps40
    go_wp2
    go_ret
    exact ⟨rfl, B0.out _⟩

def bI (x : Bool) : Int := if x = true then 1 else 0
/-- two values held against each other -/
def cmpV (a b : Va) : Int := if grp a.ty = 1 then numC a b else ordV a b
def testE (op : ByteArray) (a b : Va) : Int := if opOK op = true then (if errs [a, b] = 0 then (if (decide (a.ty = 0) || decide (b.ty = 0)) = true then 0 else if grp a.ty = grp b.ty then 0 else 7) else errs [a, b]) else 1
def testOK (op : ByteArray) (a b : Va) : Prop := opOK op = true ∧ errs [a, b] = 0 ∧ (decide (a.ty = 0) || decide (b.ty = 0)) = false ∧ grp a.ty = grp b.ty
def testT (op : ByteArray) (a b : Va) : Int := if opOK op = true ∧ errs [a, b] = 0 ∧ (decide (a.ty = 0) || decide (b.ty = 0)) = false ∧ grp a.ty = grp b.ty then 4 else 0
def testN (op : ByteArray) (a b : Va) : Int := if opOK op = true ∧ errs [a, b] = 0 ∧ (decide (a.ty = 0) || decide (b.ty = 0)) = false ∧ grp a.ty = grp b.ty then (bI (holdsB op (cmpV a b))) else 0
theorem test_no {op : ByteArray} {a b : Va} (h : ¬ testOK op a b) : testT op a b = 0 ∧ testN op a b = 0 := ⟨if_neg h, if_neg h⟩
theorem test_yes {op : ByteArray} {a b : Va} (h : testOK op a b) : testT op a b = 4 ∧ testN op a b = (bI (holdsB op (cmpV a b))) ∧ testE op a b = 0 := by
  refine ⟨if_pos h, if_pos h, ?_⟩
  obtain ⟨h1, h2, h3, h4⟩ := h
  unfold testE
  rw [if_pos h1, if_pos h2, if_neg (by rw [h3]; simp), if_pos h4]

set_option maxHeartbeats 8000000 in
set_option maxRecDepth 1000000 in
theorem Test_any (op : ByteArray) (a b : Va) (w : World) (sa : a.s.size ≤ 9223372036854775807) (sb : b.s.size ≤ 9223372036854775807) (ha : fit a.n) (hb : fit b.n) (hT : Tabs w) :
    Calls Tryz.prog 14 #[.string op, .agg #[.int .i64 a.ty, .int .i64 a.n, .string a.s], .agg #[.int .i64 b.ty, .int .i64 b.n, .string b.s]] w fun e w' => e = .returned (.tuple #[.agg #[.int .i64 (testT op a b), .int .i64 (testN op a b), .string ⟨#[]⟩], .int .i64 (testE op a b)]) ∧ Below w.heap.size w w' := by
  have IT : Hid (∀ w, Calls Tryz.prog 31 #[.string op] w fun e w' => e = .returned (.bool (opOK op)) ∧ w' = w) := fun w => isTest_any op w
  have CE : Hid (∀ g w, valsAt w g [a, b] → Tabs w → Calls Tryz.prog 32 #[.slice (some ⟨g, 0, none⟩) 2 2] w fun e w' => e = .returned (.int .i64 (errs [a, b])) ∧ Below w.heap.size w w') := fun g w hv ht => checkEach_any g 2 [a, b] w (by simp) hv (by intro v hv; simp at hv; rcases hv with rfl | rfl <;> assumption) ht
  have ON : Hid (∀ w, Calls Tryz.prog 33 #[.agg #[.int .i64 a.ty, .int .i64 a.n, .string a.s], .agg #[.int .i64 b.ty, .int .i64 b.n, .string b.s]] w fun e w' => e = .returned (.bool (decide (a.ty = 0) || decide (b.ty = 0))) ∧ Below w.heap.size w w') := fun w => oneNull_any a.ty a.n a.s b.ty b.n b.s w
  have GO : Hid (∀ ty w, Calls Tryz.prog 18 #[.int .i64 ty] w fun e w' => e = .returned (.int .i64 (grp ty)) ∧ w' = w) := groupOf_any
  have OS : Hid (∀ w, Calls Tryz.prog 21 #[.agg #[.int .i64 a.ty, .int .i64 a.n, .string a.s], .agg #[.int .i64 b.ty, .int .i64 b.n, .string b.s]] w fun e w' => e = .returned (.int .i64 (numC a b)) ∧ Below w.heap.size w w') := fun w => orderSizes_any a b w ha hb
  have OO : Hid (∀ w, Calls Tryz.prog 7 #[.agg #[.int .i64 a.ty, .int .i64 a.n, .string a.s], .agg #[.int .i64 b.ty, .int .i64 b.n, .string b.s]] w fun e w' => e = .returned (.int .i64 (ordV a b)) ∧ Below w.heap.size w w') := fun w => Order_any a b w ha hb
  have TR : Hid (∀ x w, Calls Tryz.prog 34 #[.bool x] w fun e w' => e = .returned (.agg #[.int .i64 4, .int .i64 (bI x), .string ⟨#[]⟩]) ∧ Below w.heap.size w w') := truth_any
  have FF : Hid _ := Fr.new w a b ⟨0, 0, ⟨#[]⟩⟩
  have BZ : Hid _ := (((Below.refl _ w).alloc (Nat.le_refl _) (.cells #[.int .i64 a.ty, .int .i64 a.n, .string a.s] 23)).alloc (by simp) (.cells #[.int .i64 b.ty, .int .i64 b.n, .string b.s] 23)).alloc (by simp; omega) (.cells #[.int .i64 0, .int .i64 0, .string ⟨#[]⟩] 23)
  clear ha hb
  cases ho : opOK op
  · obtain ⟨e1, e2⟩ := test_no (op := op) (a := a) (b := b) (fun h => by rw [h.1] at ho; cases ho)
    have e3 : testE op a b = 1 := by unfold testE; rw [ho, if_neg (by simp)]
    rw [e1, e2, e3]
    rw [ho] at IT
    clear e1 e2 e3 ho
    go_enter Tryz.func14, Tryz.ntmps14
    go_wp2_with fail
    have F0 := FF.out
    have B0 := BZ.out
    clear FF BZ
    generalize ((w.alloc (.cells #[.int .i64 a.ty, .int .i64 a.n, .string a.s] 23)).alloc (.cells #[.int .i64 b.ty, .int .i64 b.n, .string b.s] 23)).alloc (.cells #[.int .i64 0, .int .i64 0, .string ⟨#[]⟩] 23) = w0 at *
    refine (IT.out _).mono ?_
    rintro e wx ⟨rfl, hwx⟩; have hwx2 := hwx.symm; subst hwx2; clear hwx
    obtain ⟨l1, a0, a1, a2, b0, b1, b2, r0, r1, r2, hf⟩ := id F0
    go_wp2_with fail
    refine bodyPost_ret (v := .tuple #[.agg #[.int .i64 0, .int .i64 0, .string ⟨#[]⟩], .int .i64 1]) (by simp [results, Tryz.results14, go_sem, r0, r1, r2]) rfl ⟨rfl, ?_⟩
    first | exact ((B0.setCell (by simp; omega) _).setCell (by simp; omega) _).setCell (by simp; omega) _ | exact B0 | exact (((below_drewN B0 _).setCell (by simp; omega) _).setCell (by simp; omega) _).setCell (by simp; omega) _ | exact below_drewN ((((B0.setCell (by simp; omega) _).setCell (by simp; omega) _).setCell (by simp; omega) _)) _
  · by_cases he : errs [a, b] = 0
    · cases hn : (decide (a.ty = 0) || decide (b.ty = 0))
      · by_cases hg : grp a.ty = grp b.ty
        · obtain ⟨e1, e2, e3⟩ := test_yes ⟨ho, he, hn, hg⟩
          rw [e1, e2, e3]
          have HO : Hid (∀ c w, Calls Tryz.prog 35 #[.string op, .int .i64 c] w fun e w' => e = .returned (.bool (holdsB op c)) ∧ w' = w) := fun c w => holds_any op c w ho
          rw [ho] at IT
          rw [he] at CE
          rw [hn] at ON
          have G2 : Hid (∀ w, Calls Tryz.prog 18 #[.int .i64 b.ty] w fun e w' => e = .returned (.int .i64 (grp a.ty)) ∧ w' = w) := fun w => hg ▸ groupOf_any b.ty w
          have G1 : Hid (∀ w, Calls Tryz.prog 18 #[.int .i64 a.ty] w fun e w' => e = .returned (.int .i64 (grp a.ty)) ∧ w' = w) := groupOf_any a.ty
          by_cases h1 : grp a.ty = 1
          · have ec : cmpV a b = numC a b := if_pos h1
            rw [ec]
            have k1 : (grp a.ty == 1) = true := by rw [beq_iff_eq]; exact h1
            clear e1 e2 e3 ho he hn hg ec h1 GO
            go_enter Tryz.func14, Tryz.ntmps14
            go_wp2_with fail
            have F0 := FF.out
            have B0 := BZ.out
            clear FF BZ
            generalize ((w.alloc (.cells #[.int .i64 a.ty, .int .i64 a.n, .string a.s] 23)).alloc (.cells #[.int .i64 b.ty, .int .i64 b.n, .string b.s] 23)).alloc (.cells #[.int .i64 0, .int .i64 0, .string ⟨#[]⟩] 23) = w0 at *
            refine (IT.out _).mono ?_
            rintro e wx ⟨rfl, hwx⟩; have hwx2 := hwx.symm; subst hwx2; clear hwx
            obtain ⟨l1, a0, a1, a2, b0, b1, b2, r0, r1, r2, hf⟩ := id F0
            go_wp2_with fail
            refine (CE.out _ _ (valsAt_two _ a.ty a.n a.s b.ty b.n b.s) (hT.below (B0.alloc B0.size _))).mono ?_
            rintro e w1 ⟨rfl, hb1⟩
            try clear l1 a0 a1 a2 b0 b1 b2 r0 r1 r2 hf
            have hz1 := ((Below.refl _ w0).alloc (Nat.le_refl _) _).trans (hb1.mono (by simp))
            have F1 := F0.below hz1
            have B1 := B0.trans (hz1.mono B0.size)
            clear F0 B0 hb1 hz1
            obtain ⟨l1, a0, a1, a2, b0, b1, b2, r0, r1, r2, hf⟩ := id F1
            go_wp2_with fail
            refine (ON.out _).mono ?_
            rintro e w2 ⟨rfl, hb2⟩
            try clear l1 a0 a1 a2 b0 b1 b2 r0 r1 r2 hf
            have F2 := F1.below hb2
            have B2 := B1.trans (hb2.mono B1.size)
            clear F1 B1 hb2
            obtain ⟨l1, a0, a1, a2, b0, b1, b2, r0, r1, r2, hf⟩ := id F2
            go_wp2_with fail
            go_quiet ((first | (go_at_call_of 18 (Value.int IntKind.i64 a.ty); exact Calls.quiet_of_same (G1.out _)) | (go_at_call_of 18 (Value.int IntKind.i64 b.ty); exact Calls.quiet_of_same (G2.out _))))
            go_wp2_with fail
            refine (G1.out _).mono ?_
            rintro e wx ⟨rfl, hwx⟩; have hwx2 := hwx.symm; subst hwx2; clear hwx
            go_wp2_with fail
            refine (OS.out _).mono ?_
            rintro e w3 ⟨rfl, hb3⟩
            replace hb3 : Below w2.heap.size w2 w3 := (below_drewN (Below.refl _ w2) _).trans hb3
            try clear l1 a0 a1 a2 b0 b1 b2 r0 r1 r2 hf
            have F3 := F2.below hb3
            have B3 := B2.trans (hb3.mono B2.size)
            clear F2 B2 hb3
            obtain ⟨l1, a0, a1, a2, b0, b1, b2, r0, r1, r2, hf⟩ := id F3
            go_wp2_with fail
            refine (HO.out _ _).mono ?_
            rintro e wx ⟨rfl, hwx⟩; have hwx2 := hwx.symm; subst hwx2; clear hwx
            go_wp2_with fail
            refine (TR.out _ _).mono ?_
            rintro e w4 ⟨rfl, hb4⟩
            try clear l1 a0 a1 a2 b0 b1 b2 r0 r1 r2 hf
            have F4 := F3.below hb4
            have B4 := B3.trans (hb4.mono B3.size)
            clear F3 B3 hb4
            obtain ⟨l1, a0, a1, a2, b0, b1, b2, r0, r1, r2, hf⟩ := id F4
            go_wp2_with fail
            refine bodyPost_ret (v := .tuple #[.agg #[.int .i64 4, .int .i64 (bI (holdsB op (numC a b))), .string ⟨#[]⟩], .int .i64 0]) (by simp [results, Tryz.results14, go_sem, r0, r1, r2]) rfl ⟨rfl, ?_⟩
            first | exact ((B4.setCell (by simp; omega) _).setCell (by simp; omega) _).setCell (by simp; omega) _ | exact B4 | exact (((below_drewN B4 _).setCell (by simp; omega) _).setCell (by simp; omega) _).setCell (by simp; omega) _ | exact below_drewN ((((B4.setCell (by simp; omega) _).setCell (by simp; omega) _).setCell (by simp; omega) _)) _
          · have ec : cmpV a b = ordV a b := if_neg h1
            rw [ec]
            have k1 : (grp a.ty == 1) = false := by rw [beq_eq_false_iff_ne]; exact h1
            clear e1 e2 e3 ho he hn hg ec h1 GO
            go_enter Tryz.func14, Tryz.ntmps14
            go_wp2_with fail
            have F0 := FF.out
            have B0 := BZ.out
            clear FF BZ
            generalize ((w.alloc (.cells #[.int .i64 a.ty, .int .i64 a.n, .string a.s] 23)).alloc (.cells #[.int .i64 b.ty, .int .i64 b.n, .string b.s] 23)).alloc (.cells #[.int .i64 0, .int .i64 0, .string ⟨#[]⟩] 23) = w0 at *
            refine (IT.out _).mono ?_
            rintro e wx ⟨rfl, hwx⟩; have hwx2 := hwx.symm; subst hwx2; clear hwx
            obtain ⟨l1, a0, a1, a2, b0, b1, b2, r0, r1, r2, hf⟩ := id F0
            go_wp2_with fail
            refine (CE.out _ _ (valsAt_two _ a.ty a.n a.s b.ty b.n b.s) (hT.below (B0.alloc B0.size _))).mono ?_
            rintro e w1 ⟨rfl, hb1⟩
            try clear l1 a0 a1 a2 b0 b1 b2 r0 r1 r2 hf
            have hz1 := ((Below.refl _ w0).alloc (Nat.le_refl _) _).trans (hb1.mono (by simp))
            have F1 := F0.below hz1
            have B1 := B0.trans (hz1.mono B0.size)
            clear F0 B0 hb1 hz1
            obtain ⟨l1, a0, a1, a2, b0, b1, b2, r0, r1, r2, hf⟩ := id F1
            go_wp2_with fail
            refine (ON.out _).mono ?_
            rintro e w2 ⟨rfl, hb2⟩
            try clear l1 a0 a1 a2 b0 b1 b2 r0 r1 r2 hf
            have F2 := F1.below hb2
            have B2 := B1.trans (hb2.mono B1.size)
            clear F1 B1 hb2
            obtain ⟨l1, a0, a1, a2, b0, b1, b2, r0, r1, r2, hf⟩ := id F2
            go_wp2_with fail
            go_quiet ((first | (go_at_call_of 18 (Value.int IntKind.i64 a.ty); exact Calls.quiet_of_same (G1.out _)) | (go_at_call_of 18 (Value.int IntKind.i64 b.ty); exact Calls.quiet_of_same (G2.out _))))
            go_wp2_with fail
            refine (G1.out _).mono ?_
            rintro e wx ⟨rfl, hwx⟩; have hwx2 := hwx.symm; subst hwx2; clear hwx
            go_wp2_with fail
            refine (OO.out _).mono ?_
            rintro e w3 ⟨rfl, hb3⟩
            replace hb3 : Below w2.heap.size w2 w3 := (below_drewN (Below.refl _ w2) _).trans hb3
            try clear l1 a0 a1 a2 b0 b1 b2 r0 r1 r2 hf
            have F3 := F2.below hb3
            have B3 := B2.trans (hb3.mono B2.size)
            clear F2 B2 hb3
            obtain ⟨l1, a0, a1, a2, b0, b1, b2, r0, r1, r2, hf⟩ := id F3
            go_wp2_with fail
            refine (HO.out _ _).mono ?_
            rintro e wx ⟨rfl, hwx⟩; have hwx2 := hwx.symm; subst hwx2; clear hwx
            go_wp2_with fail
            refine (TR.out _ _).mono ?_
            rintro e w4 ⟨rfl, hb4⟩
            try clear l1 a0 a1 a2 b0 b1 b2 r0 r1 r2 hf
            have F4 := F3.below hb4
            have B4 := B3.trans (hb4.mono B3.size)
            clear F3 B3 hb4
            obtain ⟨l1, a0, a1, a2, b0, b1, b2, r0, r1, r2, hf⟩ := id F4
            go_wp2_with fail
            refine bodyPost_ret (v := .tuple #[.agg #[.int .i64 4, .int .i64 (bI (holdsB op (ordV a b))), .string ⟨#[]⟩], .int .i64 0]) (by simp [results, Tryz.results14, go_sem, r0, r1, r2]) rfl ⟨rfl, ?_⟩
            first | exact ((B4.setCell (by simp; omega) _).setCell (by simp; omega) _).setCell (by simp; omega) _ | exact B4 | exact (((below_drewN B4 _).setCell (by simp; omega) _).setCell (by simp; omega) _).setCell (by simp; omega) _ | exact below_drewN ((((B4.setCell (by simp; omega) _).setCell (by simp; omega) _).setCell (by simp; omega) _)) _
        · obtain ⟨e1, e2⟩ := test_no (op := op) (a := a) (b := b) (fun h => hg h.2.2.2)
          have e3 : testE op a b = 7 := by unfold testE; rw [if_pos ho, if_pos he, if_neg (by rw [hn]; simp), if_neg hg]
          rw [e1, e2, e3]
          rw [ho] at IT
          rw [he] at CE
          rw [hn] at ON
          have G1 : Hid (∀ w, Calls Tryz.prog 18 #[.int .i64 a.ty] w fun e w' => e = .returned (.int .i64 (grp a.ty)) ∧ w' = w) := groupOf_any a.ty
          have G2 : Hid (∀ w, Calls Tryz.prog 18 #[.int .i64 b.ty] w fun e w' => e = .returned (.int .i64 (grp b.ty)) ∧ w' = w) := groupOf_any b.ty
          have k1 : (grp a.ty != grp b.ty) = true := by rw [bne_iff_ne]; exact hg
          clear e1 e2 e3 ho he hn hg GO
          go_enter Tryz.func14, Tryz.ntmps14
          go_wp2_with fail
          have F0 := FF.out
          have B0 := BZ.out
          clear FF BZ
          generalize ((w.alloc (.cells #[.int .i64 a.ty, .int .i64 a.n, .string a.s] 23)).alloc (.cells #[.int .i64 b.ty, .int .i64 b.n, .string b.s] 23)).alloc (.cells #[.int .i64 0, .int .i64 0, .string ⟨#[]⟩] 23) = w0 at *
          refine (IT.out _).mono ?_
          rintro e wx ⟨rfl, hwx⟩; have hwx2 := hwx.symm; subst hwx2; clear hwx
          obtain ⟨l1, a0, a1, a2, b0, b1, b2, r0, r1, r2, hf⟩ := id F0
          go_wp2_with fail
          refine (CE.out _ _ (valsAt_two _ a.ty a.n a.s b.ty b.n b.s) (hT.below (B0.alloc B0.size _))).mono ?_
          rintro e w1 ⟨rfl, hb1⟩
          try clear l1 a0 a1 a2 b0 b1 b2 r0 r1 r2 hf
          have hz1 := ((Below.refl _ w0).alloc (Nat.le_refl _) _).trans (hb1.mono (by simp))
          have F1 := F0.below hz1
          have B1 := B0.trans (hz1.mono B0.size)
          clear F0 B0 hb1 hz1
          obtain ⟨l1, a0, a1, a2, b0, b1, b2, r0, r1, r2, hf⟩ := id F1
          go_wp2_with fail
          refine (ON.out _).mono ?_
          rintro e w2 ⟨rfl, hb2⟩
          try clear l1 a0 a1 a2 b0 b1 b2 r0 r1 r2 hf
          have F2 := F1.below hb2
          have B2 := B1.trans (hb2.mono B1.size)
          clear F1 B1 hb2
          obtain ⟨l1, a0, a1, a2, b0, b1, b2, r0, r1, r2, hf⟩ := id F2
          go_wp2_with fail
          go_quiet ((first | (go_at_call_of 18 (Value.int IntKind.i64 a.ty); exact Calls.quiet_of_same (G1.out _)) | (go_at_call_of 18 (Value.int IntKind.i64 b.ty); exact Calls.quiet_of_same (G2.out _))))
          go_wp2_with fail
          refine bodyPost_ret (v := .tuple #[.agg #[.int .i64 0, .int .i64 0, .string ⟨#[]⟩], .int .i64 7]) (by simp [results, Tryz.results14, go_sem, r0, r1, r2]) rfl ⟨rfl, ?_⟩
          first | exact ((B2.setCell (by simp; omega) _).setCell (by simp; omega) _).setCell (by simp; omega) _ | exact B2 | exact (((below_drewN B2 _).setCell (by simp; omega) _).setCell (by simp; omega) _).setCell (by simp; omega) _ | exact below_drewN ((((B2.setCell (by simp; omega) _).setCell (by simp; omega) _).setCell (by simp; omega) _)) _
      · obtain ⟨e1, e2⟩ := test_no (op := op) (a := a) (b := b) (fun h => by rw [h.2.2.1] at hn; cases hn)
        have e3 : testE op a b = 0 := by unfold testE; rw [if_pos ho, if_pos he, if_pos hn]
        rw [e1, e2, e3]
        rw [ho] at IT
        rw [he] at CE
        rw [hn] at ON
        clear e1 e2 e3 ho he hn
        go_enter Tryz.func14, Tryz.ntmps14
        go_wp2_with fail
        have F0 := FF.out
        have B0 := BZ.out
        clear FF BZ
        generalize ((w.alloc (.cells #[.int .i64 a.ty, .int .i64 a.n, .string a.s] 23)).alloc (.cells #[.int .i64 b.ty, .int .i64 b.n, .string b.s] 23)).alloc (.cells #[.int .i64 0, .int .i64 0, .string ⟨#[]⟩] 23) = w0 at *
        refine (IT.out _).mono ?_
        rintro e wx ⟨rfl, hwx⟩; have hwx2 := hwx.symm; subst hwx2; clear hwx
        obtain ⟨l1, a0, a1, a2, b0, b1, b2, r0, r1, r2, hf⟩ := id F0
        go_wp2_with fail
        refine (CE.out _ _ (valsAt_two _ a.ty a.n a.s b.ty b.n b.s) (hT.below (B0.alloc B0.size _))).mono ?_
        rintro e w1 ⟨rfl, hb1⟩
        try clear l1 a0 a1 a2 b0 b1 b2 r0 r1 r2 hf
        have hz1 := ((Below.refl _ w0).alloc (Nat.le_refl _) _).trans (hb1.mono (by simp))
        have F1 := F0.below hz1
        have B1 := B0.trans (hz1.mono B0.size)
        clear F0 B0 hb1 hz1
        obtain ⟨l1, a0, a1, a2, b0, b1, b2, r0, r1, r2, hf⟩ := id F1
        go_wp2_with fail
        refine (ON.out _).mono ?_
        rintro e w2 ⟨rfl, hb2⟩
        try clear l1 a0 a1 a2 b0 b1 b2 r0 r1 r2 hf
        have F2 := F1.below hb2
        have B2 := B1.trans (hb2.mono B1.size)
        clear F1 B1 hb2
        obtain ⟨l1, a0, a1, a2, b0, b1, b2, r0, r1, r2, hf⟩ := id F2
        go_wp2_with fail
        refine bodyPost_ret (v := .tuple #[.agg #[.int .i64 0, .int .i64 0, .string ⟨#[]⟩], .int .i64 0]) (by simp [results, Tryz.results14, go_sem, r0, r1, r2]) rfl ⟨rfl, ?_⟩
        first | exact ((B2.setCell (by simp; omega) _).setCell (by simp; omega) _).setCell (by simp; omega) _ | exact B2 | exact (((below_drewN B2 _).setCell (by simp; omega) _).setCell (by simp; omega) _).setCell (by simp; omega) _ | exact below_drewN ((((B2.setCell (by simp; omega) _).setCell (by simp; omega) _).setCell (by simp; omega) _)) _
    · obtain ⟨e1, e2⟩ := test_no (op := op) (a := a) (b := b) (fun h => he h.2.1)
      have e3 : testE op a b = errs [a, b] := by unfold testE; rw [if_pos ho, if_neg he]
      rw [e1, e2, e3]
      rw [ho] at IT
      have k1 : (errs [a, b] != 0) = true := by rw [bne_iff_ne]; exact he
      clear e1 e2 e3 ho
      go_enter Tryz.func14, Tryz.ntmps14
      go_wp2_with fail
      have F0 := FF.out
      have B0 := BZ.out
      clear FF BZ
      generalize ((w.alloc (.cells #[.int .i64 a.ty, .int .i64 a.n, .string a.s] 23)).alloc (.cells #[.int .i64 b.ty, .int .i64 b.n, .string b.s] 23)).alloc (.cells #[.int .i64 0, .int .i64 0, .string ⟨#[]⟩] 23) = w0 at *
      refine (IT.out _).mono ?_
      rintro e wx ⟨rfl, hwx⟩; have hwx2 := hwx.symm; subst hwx2; clear hwx
      obtain ⟨l1, a0, a1, a2, b0, b1, b2, r0, r1, r2, hf⟩ := id F0
      go_wp2_with fail
      refine (CE.out _ _ (valsAt_two _ a.ty a.n a.s b.ty b.n b.s) (hT.below (B0.alloc B0.size _))).mono ?_
      rintro e w1 ⟨rfl, hb1⟩
      try clear l1 a0 a1 a2 b0 b1 b2 r0 r1 r2 hf
      have hz1 := ((Below.refl _ w0).alloc (Nat.le_refl _) _).trans (hb1.mono (by simp))
      have F1 := F0.below hz1
      have B1 := B0.trans (hz1.mono B0.size)
      clear F0 B0 hb1 hz1
      obtain ⟨l1, a0, a1, a2, b0, b1, b2, r0, r1, r2, hf⟩ := id F1
      go_wp2_with fail
      refine bodyPost_ret (v := .tuple #[.agg #[.int .i64 0, .int .i64 0, .string ⟨#[]⟩], .int .i64 (errs [a, b])]) (by simp [results, Tryz.results14, go_sem, r0, r1, r2]) rfl ⟨rfl, ?_⟩
      first | exact ((B1.setCell (by simp; omega) _).setCell (by simp; omega) _).setCell (by simp; omega) _ | exact B1 | exact (((below_drewN B1 _).setCell (by simp; omega) _).setCell (by simp; omega) _).setCell (by simp; omega) _ | exact below_drewN ((((B1.setCell (by simp; omega) _).setCell (by simp; omega) _).setCell (by simp; omega) _)) _
end Go.Proofs.YtmgmpkdnepomgaaGreatDoor
