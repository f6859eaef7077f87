/-
  lockstepref01.Test tells what value.Test does; turned about a test is the opposite sign's; so locksteplaw01.ValueTests answers true.
-/
import Derived.Test.YtmgmpkdnepomgaaGreatDoorTstC
import Derived.Test.YtmgmpkdnepomgaaGreatDoorTstD
namespace Go.Proofs.YtmgmpkdnepomgaaGreatDoor
open Go.RowKit Go.Shelf

theorem errs_two (a b : Va) : errs [a, b] = chk2 (chk a.ty a.n a.s) (chk b.ty b.n b.s) := by
  unfold chk2
  by_cases h : a.chk = 0
  · have h' : chk a.ty a.n a.s = 0 := h
    rw [errs_pass h, if_pos h']
    by_cases g : b.chk = 0
    · rw [errs_pass g]; exact g.symm
    · rw [errs_stop g]; rfl
  · have h' : ¬ chk a.ty a.n a.s = 0 := h
    rw [errs_stop h, if_neg h']; rfl
theorem chk_ty {ty n : Int} {s : ByteArray} (h : chk ty n s = 0) : 0 ≤ ty ∧ ty ≤ 4 := by
  unfold chk at h
  by_cases g : ty < 0 ∨ 4 < ty ∨ (ty = 4 ∧ n ≠ 0 ∧ n ≠ 1)
  · rw [if_pos g] at h; omega
  · omega
theorem errs_both {a b : Va} (h : errs [a, b] = 0) : chk a.ty a.n a.s = 0 ∧ chk b.ty b.n b.s = 0 := by
  rw [errs_two] at h
  unfold chk2 at h
  by_cases g : chk a.ty a.n a.s = 0
  · rw [if_pos g] at h; exact ⟨g, h⟩
  · rw [if_neg g] at h; exact absurd h g
theorem errs_turn {a b : Va} (h : errs [a, b] = 0) : errs [b, a] = 0 := by
  obtain ⟨h1, h2⟩ := errs_both h
  rw [errs_two, chk2, if_pos h2]; exact h1
theorem fits_grp {a b : Int} (ha : 0 ≤ a ∧ a ≤ 4) (hb : 0 ≤ b ∧ b ≤ 4) : fitsB a b = ((decide (a = 0) || decide (b = 0)) || decide (grp a = grp b)) := by
  have ka : a = 0 ∨ a = 1 ∨ a = 2 ∨ a = 3 ∨ a = 4 := by omega
  have kb : b = 0 ∨ b = 1 ∨ b = 2 ∨ b = 3 ∨ b = 4 := by omega
  rcases ka with rfl | rfl | rfl | rfl | rfl <;> rcases kb with rfl | rfl | rfl | rfl | rfl <;> decide
theorem no_op {op : ByteArray} (h : op.data.toList ≠ [61] ∧ op.data.toList ≠ [60, 62] ∧ op.data.toList ≠ [60] ∧ op.data.toList ≠ [60, 61] ∧ op.data.toList ≠ [62] ∧ op.data.toList ≠ [62, 61]) : opOK op = false := by
  obtain ⟨h0, h1, h2, h3, h4, h5⟩ := h
  unfold opOK; simp only [List.contains_cons, List.contains_nil, Bool.or_false]
  simp only [beq_eq_false_iff_ne.2 h0, beq_eq_false_iff_ne.2 h1, beq_eq_false_iff_ne.2 h2, beq_eq_false_iff_ne.2 h3, beq_eq_false_iff_ne.2 h4, beq_eq_false_iff_ne.2 h5]; rfl

theorem refTest_any (op : ByteArray) (a b : Va) (w : World) (ha : fit a.n) (hb : fit b.n) :
    Calls Tryz.prog 15 #[.string op, .agg #[.int .i64 a.ty, .int .i64 a.n, .string a.s], .agg #[.int .i64 b.ty, .int .i64 b.n, .string b.s]] w fun e w' => e = .returned (.tuple #[.agg #[.int .i64 (testT op a b), .int .i64 (testN op a b), .string ⟨#[]⟩], .int .i64 (testE op a b)]) ∧ Below w.heap.size w w' := by
  have SG : Hid (∀ w, Calls Tryz.prog 37 #[] w fun e w' => e = .returned (.slice (some ⟨w.heap.size, 0, none⟩) 6 6) ∧ Below w.heap.size w w' ∧ strsAt w' w.heap.size signsL) := signs_any
  have IN : ∀ g w, strsAt w g signsL → Calls Tryz.prog 36 #[.slice (some ⟨g, 0, none⟩) 6 6, .string op] w fun e w' => e = .returned (.bool (opOK op)) ∧ w' = w := fun g w h => by
    have := in_any g 6 signsL op w (by decide) h
    rw [in_signs] at this; exact this
  have BO : ∀ w, Calls Tryz.prog 38 #[.agg #[.int .i64 a.ty, .int .i64 a.n, .string a.s], .agg #[.int .i64 b.ty, .int .i64 b.n, .string b.s]] w fun e w' => e = .returned (.int .i64 (errs [a, b])) ∧ Below w.heap.size w w' := fun w => by
    have := both_any a.ty a.n a.s b.ty b.n b.s w
    rw [← errs_two] at this; exact this
  have TR : Hid (∀ x w, Calls Tryz.prog 41 #[.bool x] w fun e w' => e = .returned (.agg #[.int .i64 4, .int .i64 (bI x), .string ⟨#[]⟩]) ∧ Below w.heap.size w w') := Truth_any
  cases ho : opOK op
  · obtain ⟨e1, e2⟩ := test_no (op := op) (a := a) (b := b) (fun h => by rw [h.1] at ho; cases ho)
    have e3 : testE op a b = 1 := by unfold testE; rw [ho, if_neg (by simp)]
    rw [e1, e2, e3]
    rw [ho] at IN
    exact rT_sign op a b w SG IN
  rw [ho] at IN
  by_cases he : errs [a, b] = 0
  · obtain ⟨h1, h2⟩ := errs_both he
    have ra := chk_ty h1
    have rb := chk_ty h2
    have FI : ∀ w, Calls Tryz.prog 39 #[.int .i64 a.ty, .int .i64 b.ty] w fun e w' => e = .returned (.bool ((decide (a.ty = 0) || decide (b.ty = 0)) || decide (grp a.ty = grp b.ty))) ∧ w' = w := fun w => by
      have := Fits_any a.ty b.ty w ra rb
      rw [fits_grp ra rb] at this; exact this
    rw [he] at BO
    cases hn : (decide (a.ty = 0) || decide (b.ty = 0))
    · rw [hn] at FI
      by_cases hg : grp a.ty = grp b.ty
      · rw [decide_eq_true hg] at FI
        obtain ⟨e1, e2, e3⟩ := test_yes ⟨ho, he, hn, hg⟩
        rw [e1, e2, e3]
        rw [Bool.or_eq_false_iff] at hn
        have k0 : (a.ty == 0) = false := by rw [beq_eq_false_iff_ne]; exact of_decide_eq_false hn.1
        have k1 : (b.ty == 0) = false := by rw [beq_eq_false_iff_ne]; exact of_decide_eq_false hn.2
        have NU : ∀ w, Calls Tryz.prog 40 #[.agg #[.int .i64 a.ty, .int .i64 a.n, .string a.s]] w fun e w' => e = .returned (.bool (grp a.ty == 1)) ∧ Below w.heap.size w w' := number_any a
        by_cases h1 : grp a.ty = 1
        · have ec : cmpV a b = numC a b := if_pos h1
          rw [ec]
          rw [beq_iff_eq.2 h1] at NU
          have CO : ∀ w, Calls Tryz.prog 26 #[.agg #[.int .i64 a.ty, .int .i64 a.n, .string a.s], .agg #[.int .i64 b.ty, .int .i64 b.n, .string b.s]] w fun e w' => e = .returned (.int .i64 (numC a b)) ∧ Below w.heap.size w w' := fun w => Numbers_any a b w ha hb h1 (hg ▸ h1)
          generalize numC a b = c at *
          rcases op_cases op with h | h | h | h | h | h | h
          · obtain rfl := eq_of_list h
            have hh : (c == 0) = holdsB ⟨#[61]⟩ c := by unfold holdsB; simp
            exact rT_01 a b w c _ hh k0 k1 SG IN BO FI TR NU CO
          · obtain rfl := eq_of_list h
            have hh : (c != 0) = holdsB ⟨#[60, 62]⟩ c := by unfold holdsB; simp
            exact rT_11 a b w c _ hh k0 k1 SG IN BO FI TR NU CO
          · obtain rfl := eq_of_list h
            have hh : (decide (c < 0)) = holdsB ⟨#[60]⟩ c := by unfold holdsB; simp
            exact rT_21 a b w c _ hh k0 k1 SG IN BO FI TR NU CO
          · obtain rfl := eq_of_list h
            have hh : (decide (c ≤ 0)) = holdsB ⟨#[60, 61]⟩ c := by unfold holdsB; simp
            exact rT_31 a b w c _ hh k0 k1 SG IN BO FI TR NU CO
          · obtain rfl := eq_of_list h
            have hh : (decide (0 < c)) = holdsB ⟨#[62]⟩ c := by unfold holdsB; simp
            exact rT_41 a b w c _ hh k0 k1 SG IN BO FI TR NU CO
          · obtain rfl := eq_of_list h
            have hh : (decide (0 ≤ c)) = holdsB ⟨#[62, 61]⟩ c := by unfold holdsB; simp
            exact rT_51 a b w c _ hh k0 k1 SG IN BO FI TR NU CO
          · rw [no_op h] at ho; cases ho
        · have ec : cmpV a b = ordV a b := if_neg h1
          rw [ec]
          rw [beq_eq_false_iff_ne.2 h1] at NU
          have CO : ∀ w, Calls Tryz.prog 8 #[.agg #[.int .i64 a.ty, .int .i64 a.n, .string a.s], .agg #[.int .i64 b.ty, .int .i64 b.n, .string b.s]] w fun e w' => e = .returned (.int .i64 (ordV a b)) ∧ Below w.heap.size w w' := fun w => refOrder_any a b w ha hb
          generalize ordV a b = c at *
          rcases op_cases op with h | h | h | h | h | h | h
          · obtain rfl := eq_of_list h
            have hh : (c == 0) = holdsB ⟨#[61]⟩ c := by unfold holdsB; simp
            exact rT_00 a b w c _ hh k0 k1 SG IN BO FI TR NU CO
          · obtain rfl := eq_of_list h
            have hh : (c != 0) = holdsB ⟨#[60, 62]⟩ c := by unfold holdsB; simp
            exact rT_10 a b w c _ hh k0 k1 SG IN BO FI TR NU CO
          · obtain rfl := eq_of_list h
            have hh : (decide (c < 0)) = holdsB ⟨#[60]⟩ c := by unfold holdsB; simp
            exact rT_20 a b w c _ hh k0 k1 SG IN BO FI TR NU CO
          · obtain rfl := eq_of_list h
            have hh : (decide (c ≤ 0)) = holdsB ⟨#[60, 61]⟩ c := by unfold holdsB; simp
            exact rT_30 a b w c _ hh k0 k1 SG IN BO FI TR NU CO
          · obtain rfl := eq_of_list h
            have hh : (decide (0 < c)) = holdsB ⟨#[62]⟩ c := by unfold holdsB; simp
            exact rT_40 a b w c _ hh k0 k1 SG IN BO FI TR NU CO
          · obtain rfl := eq_of_list h
            have hh : (decide (0 ≤ c)) = holdsB ⟨#[62, 61]⟩ c := by unfold holdsB; simp
            exact rT_50 a b w c _ hh k0 k1 SG IN BO FI TR NU CO
          · rw [no_op h] at ho; cases ho
      · rw [decide_eq_false hg] at FI
        obtain ⟨e1, e2⟩ := test_no (op := op) (a := a) (b := b) (fun h => hg h.2.2.2)
        have e3 : testE op a b = 7 := by unfold testE; rw [if_pos ho, if_pos he, if_neg (by rw [hn]; simp), if_neg hg]
        rw [e1, e2, e3]
        exact rT_fits op a b w SG IN BO FI
    · rw [hn] at FI
      obtain ⟨e1, e2⟩ := test_no (op := op) (a := a) (b := b) (fun h => by rw [h.2.2.1] at hn; cases hn)
      have e3 : testE op a b = 0 := by unfold testE; rw [if_pos ho, if_pos he, if_pos hn]
      rw [e1, e2, e3]
      by_cases z : a.ty = 0
      · exact rT_null1 op a b w (by rw [beq_iff_eq]; exact z) SG IN BO FI
      · have z2 : b.ty = 0 := by
          rw [decide_eq_false z, Bool.false_or] at hn; exact of_decide_eq_true hn
        exact rT_null2 op a b w (by rw [beq_eq_false_iff_ne]; exact z) (by rw [beq_iff_eq]; exact z2) SG IN BO FI
  · obtain ⟨e1, e2⟩ := test_no (op := op) (a := a) (b := b) (fun h => he h.2.1)
    have e3 : testE op a b = errs [a, b] := by unfold testE; rw [if_pos ho, if_neg he]
    rw [e1, e2, e3]
    exact rT_errs op a b w _ (by rw [bne_iff_ne]; exact he) SG IN BO

theorem cmpV_turn {a b : Va} (h : grp a.ty = grp b.ty) : cmpV b a = -(cmpV a b) := by
  unfold cmpV
  rw [← h]
  by_cases g : grp a.ty = 1
  · rw [if_pos g, if_pos g, num_cmp g (h ▸ g), num_cmp (h ▸ g) g]; exact cmpI_turn _ _
  · rw [if_neg g, if_neg g]; exact od_ordV.turn a b
theorem holds_lt (c : Int) : holdsB ⟨#[60]⟩ c = decide (c < 0) := by unfold holdsB; simp
theorem holds_gt (c : Int) : holdsB ⟨#[62]⟩ c = decide (0 < c) := by unfold holdsB; simp
theorem test_turn (a b : Va) : testT ⟨#[62]⟩ b a = testT ⟨#[60]⟩ a b ∧ testN ⟨#[62]⟩ b a = testN ⟨#[60]⟩ a b ∧ (testE ⟨#[62]⟩ b a == 0) = (testE ⟨#[60]⟩ a b == 0) := by
  have o1 : opOK ⟨#[60]⟩ = true := by decide
  have o2 : opOK ⟨#[62]⟩ = true := by decide
  have hne : (decide (b.ty = 0) || decide (a.ty = 0)) = (decide (a.ty = 0) || decide (b.ty = 0)) := Bool.or_comm _ _
  by_cases h : testOK ⟨#[60]⟩ a b
  · have h' : testOK ⟨#[62]⟩ b a := ⟨o2, errs_turn h.2.1, hne ▸ h.2.2.1, h.2.2.2.symm⟩
    obtain ⟨p1, p2, p3⟩ := test_yes h
    obtain ⟨q1, q2, q3⟩ := test_yes h'
    rw [p1, p2, p3, q1, q2, q3, cmpV_turn h.2.2.2, holds_lt, holds_gt]
    refine ⟨rfl, ?_, rfl⟩
    congr 1
    by_cases g : cmpV a b < 0
    · rw [decide_eq_true g, decide_eq_true (by omega)]
    · rw [decide_eq_false g, decide_eq_false (by omega)]
  · have h' : ¬ testOK ⟨#[62]⟩ b a := fun g => h ⟨o1, errs_turn g.2.1, hne ▸ g.2.2.1, g.2.2.2.symm⟩
    obtain ⟨p1, p2⟩ := test_no h
    obtain ⟨q1, q2⟩ := test_no h'
    rw [p1, p2, q1, q2]
    refine ⟨rfl, rfl, ?_⟩
    unfold testE
    rw [if_pos o1, if_pos o2, hne]
    by_cases he : errs [a, b] = 0
    · rw [if_pos he, if_pos (errs_turn he)]
      by_cases hn : (decide (a.ty = 0) || decide (b.ty = 0)) = true
      · rw [if_pos hn, if_pos hn]
      · rw [if_neg hn, if_neg hn]
        by_cases hg : grp a.ty = grp b.ty
        · rw [if_pos hg, if_pos hg.symm]
        · rw [if_neg hg, if_neg (fun e => hg e.symm)]
    · have he' : ¬ errs [b, a] = 0 := fun e => he (errs_turn e)
      rw [if_neg he, if_neg he', beq_eq_false_iff_ne.2 he, beq_eq_false_iff_ne.2 he']

theorem ValueTests_any (op : ByteArray) (a b : Va) (w : World) (_so : op.size ≤ 9223372036854775807) (sa : a.s.size ≤ 9223372036854775807) (sb : b.s.size ≤ 9223372036854775807) (ha : fit a.n) (hb : fit b.n) (hT : Tabs w) (hP : Pow w) :
    Calls Tryz.prog 4 #[.string op, .agg #[.int .i64 a.ty, .int .i64 a.n, .string a.s], .agg #[.int .i64 b.ty, .int .i64 b.n, .string b.s]] w fun e w' => e = .returned (.bool true) ∧ Below w.heap.size w w' := by
  obtain ⟨t1, t2, t3⟩ := test_turn a b
  refine testsLaw op a b w hT hP _ _ _ _ _ _ _ _ rfl t3 (fun w h => Test_any op a b w sa sb ha hb h) (fun w => refTest_any op a b w ha hb) (fun w h => Test_any ⟨#[60]⟩ a b w sa sb ha hb h) (fun w h => ?_)
  have := Test_any ⟨#[62]⟩ b a w sb sa hb ha h
  rw [t1, t2] at this; exact this
end Go.Proofs.YtmgmpkdnepomgaaGreatDoor
