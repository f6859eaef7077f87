/-
  The walks of the two And, Or and Not: both tell the same of any values.
-/
import Derived.Test.YtmgmpkdnepomgaaDoorLogicA
namespace Go.Proofs.YtmgmpkdnepomgaaDoor
open Go.RowKit Go.Shelf

/-- NULL, FALSE, TRUE -/
def k3 (v : Va) : Option Bool := if v.ty = 4 then some (v.n == 1) else none
def tyK : Option Bool → Int
  | none => 0
  | some _ => 4
def nK : Option Bool → Int
  | some true => 1
  | _ => 0
def join3 (s : Bool) (x y : Option Bool) : Option Bool := if x = some s ∨ y = some s then some s else if x = none ∨ y = none then none else some !s
def not3 (x : Option Bool) : Option Bool := x.map (!·)
def good (v : Va) : Prop := v.ty = 0 ∨ (v.ty = 4 ∧ (v.n = 0 ∨ v.n = 1))

theorem good_chk {v : Va} (h : good v) : v.chk = 0 := by
  unfold Va.chk chk
  rcases h with h | ⟨h, h2⟩
  · rw [if_neg (by omega), if_neg (by omega)]
  · rw [if_neg (by omega), if_neg (by omega)]
theorem good_of {v : Va} (h : v.chk = 0) (h2 : v.ty = 0 ∨ v.ty = 4) : good v := by
  rcases h2 with h2 | h2
  · exact Or.inl h2
  · refine Or.inr ⟨h2, ?_⟩
    unfold Va.chk chk at h
    split at h <;> omega
theorem truths_two (a b : Va) : truthsE [a, b] = 0 ↔ good a ∧ good b := by
  constructor
  · intro h
    unfold truthsE chk2 at h
    by_cases he : errs [a, b] = 0
    · rw [if_pos he] at h
      have ha : a.chk = 0 := by
        by_cases x : a.chk = 0
        · exact x
        · rw [errs_stop x] at he; exact he
      rw [errs_pass ha] at he
      have hb : b.chk = 0 := by
        by_cases x : b.chk = 0
        · exact x
        · rw [errs_stop x] at he; exact he
      have ta : a.ty = 0 ∨ a.ty = 4 := by
        by_cases x : a.ty = 0 ∨ a.ty = 4
        · exact x
        · rw [badTruth_stop x] at h; omega
      rw [badTruth_pass ta] at h
      have tb : b.ty = 0 ∨ b.ty = 4 := by
        by_cases x : b.ty = 0 ∨ b.ty = 4
        · exact x
        · rw [badTruth_stop x] at h; omega
      exact ⟨good_of ha ta, good_of hb tb⟩
    · rw [if_neg he] at h; exact absurd h he
  · rintro ⟨ha, hb⟩
    unfold truthsE chk2
    rw [errs_pass (good_chk ha), errs_pass (good_chk hb), badTruth_pass (by rcases ha with h | h; exact Or.inl h; exact Or.inr h.1), badTruth_pass (by rcases hb with h | h; exact Or.inl h; exact Or.inr h.1)]
    rfl
theorem truths_one (a : Va) : truthsE [a] = 0 ↔ good a := by
  constructor
  · intro h
    unfold truthsE chk2 at h
    by_cases he : errs [a] = 0
    · rw [if_pos he] at h
      have ha : a.chk = 0 := by
        by_cases x : a.chk = 0
        · exact x
        · rw [errs_stop x] at he; exact he
      have ta : a.ty = 0 ∨ a.ty = 4 := by
        by_cases x : a.ty = 0 ∨ a.ty = 4
        · exact x
        · rw [badTruth_stop x] at h; omega
      exact good_of ha ta
    · rw [if_neg he] at h; exact absurd h he
  · intro ha
    unfold truthsE chk2
    rw [errs_pass (good_chk ha), badTruth_pass (by rcases ha with h | h; exact Or.inl h; exact Or.inr h.1)]
    rfl

/-- what And (0), Or (1) come to: the type and the number of the answer -/
def jT (s : Bool) (a b : Va) : Int := if truthsE [a, b] = 0 then tyK (join3 s (k3 a) (k3 b)) else 0
def jN (s : Bool) (a b : Va) : Int := if truthsE [a, b] = 0 then nK (join3 s (k3 a) (k3 b)) else 0
def sI (s : Bool) : Int := if s = true then 1 else 0
def isT (v : Va) (s : Bool) : Bool := v.ty == 4 && v.n == sI s
theorem isT_k3 {v : Va} (h : good v) (s : Bool) : isT v s = true ↔ k3 v = some s := by
  unfold isT k3 sI
  rcases h with h | ⟨h, h2⟩
  · simp [h]
  · rcases h2 with h2 | h2 <;> cases s <;> simp [h, h2]
theorem null_k3 {v : Va} (h : good v) : v.ty = 0 ↔ k3 v = none := by
  unfold k3
  rcases h with h | ⟨h, h2⟩
  · simp [h]
  · simp [h]

theorem j_err {s : Bool} {a b : Va} (h : ¬ truthsE [a, b] = 0) : jT s a b = 0 ∧ jN s a b = 0 := ⟨if_neg h, if_neg h⟩
theorem j_set {s : Bool} {a b : Va} (h : truthsE [a, b] = 0) (hs : isT a s = true ∨ isT b s = true) : jT s a b = 4 ∧ jN s a b = sI s := by
  obtain ⟨ga, gb⟩ := (truths_two a b).1 h
  have : join3 s (k3 a) (k3 b) = some s := by
    unfold join3
    rw [if_pos]
    rcases hs with hs | hs
    · exact Or.inl ((isT_k3 ga s).1 hs)
    · exact Or.inr ((isT_k3 gb s).1 hs)
  unfold jT jN
  rw [if_pos h, if_pos h, this]
  cases s <;> exact ⟨rfl, rfl⟩
theorem j_null {s : Bool} {a b : Va} (h : truthsE [a, b] = 0) (ha : isT a s = false) (hb : isT b s = false) (hn : (decide (a.ty = 0) || decide (b.ty = 0)) = true) : jT s a b = 0 ∧ jN s a b = 0 := by
  obtain ⟨ga, gb⟩ := (truths_two a b).1 h
  have : join3 s (k3 a) (k3 b) = none := by
    unfold join3
    rw [if_neg, if_pos]
    · simp only [Bool.or_eq_true, decide_eq_true_eq] at hn
      rcases hn with hn | hn
      · exact Or.inl ((null_k3 ga).1 hn)
      · exact Or.inr ((null_k3 gb).1 hn)
    · rintro (x | x)
      · rw [(isT_k3 ga s).2 x] at ha; cases ha
      · rw [(isT_k3 gb s).2 x] at hb; cases hb
  unfold jT jN
  rw [if_pos h, if_pos h, this]
  exact ⟨rfl, rfl⟩
theorem j_else {s : Bool} {a b : Va} (h : truthsE [a, b] = 0) (ha : isT a s = false) (hb : isT b s = false) (hn : (decide (a.ty = 0) || decide (b.ty = 0)) = false) : jT s a b = 4 ∧ jN s a b = sI (!s) := by
  obtain ⟨ga, gb⟩ := (truths_two a b).1 h
  have : join3 s (k3 a) (k3 b) = some !s := by
    unfold join3
    rw [if_neg, if_neg]
    · simp only [Bool.or_eq_false_iff, decide_eq_false_iff_not] at hn
      rintro (x | x)
      · exact hn.1 ((null_k3 ga).2 x)
      · exact hn.2 ((null_k3 gb).2 x)
    · rintro (x | x)
      · rw [(isT_k3 ga s).2 x] at ha; cases ha
      · rw [(isT_k3 gb s).2 x] at hb; cases hb
  unfold jT jN
  rw [if_pos h, if_pos h, this]
  cases s <;> exact ⟨rfl, rfl⟩

set_option maxHeartbeats 4000000 in
set_option maxRecDepth 1000000 in
theorem And_any (a b : Va) (w : World) (ha : a.s.size ≤ 9223372036854775807) (hb : b.s.size ≤ 9223372036854775807) (hT : Tabs w) :
    Calls Tryd.prog 4 #[.agg #[.int .i64 a.ty, .int .i64 a.n, .string a.s], .agg #[.int .i64 b.ty, .int .i64 b.n, .string b.s]] w fun e w' => e = .returned (.tuple #[.agg #[.int .i64 (jT false a b), .int .i64 (jN false a b), .string ⟨#[]⟩], .int .i64 (truthsE [a, b])]) ∧ Below w.heap.size w w' := by
  have CN : Hid (∀ g w, valsAt w g [a, b] → Tabs w → Calls Tryd.prog 11 #[.slice (some ⟨g, 0, none⟩) 2 2] w fun e w' => e = .returned (.int .i64 (truthsE [a, b])) ∧ Below w.heap.size w w') := fun g w hv ht => checkTruths_any g 2 [a, b] w (by simp) hv (by intro v hv; simp at hv; rcases hv with rfl | rfl <;> assumption) ht
  have IA : Hid (∀ w, Calls Tryd.prog 12 #[.agg #[.int .i64 a.ty, .int .i64 a.n, .string a.s], .int .i64 0] w fun e w' => e = .returned (.bool (isT a false)) ∧ Below w.heap.size w w') := fun w => isTruth_any a.ty a.n a.s 0 w
  have IB : Hid (∀ w, Calls Tryd.prog 12 #[.agg #[.int .i64 b.ty, .int .i64 b.n, .string b.s], .int .i64 0] w fun e w' => e = .returned (.bool (isT b false)) ∧ Below w.heap.size w w') := fun w => isTruth_any b.ty b.n b.s 0 w
  have ON : Hid (∀ w, Calls Tryd.prog 14 #[.agg #[.int .i64 a.ty, .int .i64 a.n, .string a.s], .agg #[.int .i64 b.ty, .int .i64 b.n, .string b.s]] w fun e w' => e = .returned (.bool (decide (a.ty = 0) || decide (b.ty = 0))) ∧ Below w.heap.size w w') := fun w => oneNull_any a.ty a.n a.s b.ty b.n b.s w
  have TS : Hid (∀ w, Calls Tryd.prog 13 #[.bool false] w fun e w' => e = .returned (.agg #[.int .i64 4, .int .i64 0, .string ⟨#[]⟩]) ∧ Below w.heap.size w w') := fun w => truth_any false w
  have TO : Hid (∀ w, Calls Tryd.prog 13 #[.bool true] w fun e w' => e = .returned (.agg #[.int .i64 4, .int .i64 1, .string ⟨#[]⟩]) ∧ Below w.heap.size w w') := fun w => truth_any true w
  have F0 : Hid _ := Fr.new w a b ⟨0, 0, ⟨#[]⟩⟩
  have B0 : Hid _ := (((Below.refl _ w).alloc (Nat.le_refl _) (.cells #[.int .i64 a.ty, .int .i64 a.n, .string a.s] 23)).alloc (by simp) (.cells #[.int .i64 b.ty, .int .i64 b.n, .string b.s] 23)).alloc (by simp; omega) (.cells #[.int .i64 0, .int .i64 0, .string ⟨#[]⟩] 23)
  have V0 : Hid _ := valsAt_two3 w (.cells #[.int .i64 a.ty, .int .i64 a.n, .string a.s] 23) (.cells #[.int .i64 b.ty, .int .i64 b.n, .string b.s] 23) (.cells #[.int .i64 0, .int .i64 0, .string ⟨#[]⟩] 23) a.ty a.n a.s b.ty b.n b.s
  by_cases he : truthsE [a, b] = 0
  · cases hia : isT a false
    · cases hib : isT b false
      · cases hon : (decide (a.ty = 0) || decide (b.ty = 0))
        · obtain ⟨e1, e2⟩ := j_else he hia hib hon
          have e3 : jN false a b = 1 := e2
          rw [e1, e3, he]
          rw [he] at CN
          rw [hia] at IA
          rw [hib] at IB
          rw [hon] at ON
          clear he hia hib hon e1 e2 e3
          go_enter Tryd.func4, Tryd.ntmps4
          go_wp2_with fail
          refine (CN.out _ _ ?_ ?_).mono ?_
          · exact V0.out
          · exact hT.below (B0.out.alloc (by simp; omega) _)
          rintro e w1 ⟨rfl, hb1⟩
          have F1 := F0.out.below (((Below.refl _ _).alloc (Nat.le_refl _) _).trans (hb1.mono (by simp)))
          have B1 := (B0.out.alloc (by simp; omega) _).trans (hb1.mono (by simp; omega))
          clear hb1 F0 B0 V0
          obtain ⟨l1, a0, a1, a2, b0, b1, b2, r0, r1, r2, hf⟩ := id F1
          go_wp2_with fail
          refine (IA.out _).mono ?_
          rintro e w2 ⟨rfl, hb2⟩
          have F2 := F1.below hb2
          have B2 := B1.trans (hb2.mono B1.size)
          clear l1 a0 a1 a2 b0 b1 b2 r0 r1 r2 hf F1 B1 hb2
          obtain ⟨l1, a0, a1, a2, b0, b1, b2, r0, r1, r2, hf⟩ := id F2
          go_wp2_with fail
          refine (IB.out _).mono ?_
          rintro e w3 ⟨rfl, hb3⟩
          have F3 := F2.below hb3
          have B3 := B2.trans (hb3.mono B2.size)
          clear l1 a0 a1 a2 b0 b1 b2 r0 r1 r2 hf F2 B2 hb3
          obtain ⟨l1, a0, a1, a2, b0, b1, b2, r0, r1, r2, hf⟩ := id F3
          go_wp2_with fail
          refine (ON.out _).mono ?_
          rintro e w4 ⟨rfl, hb4⟩
          have F4 := F3.below hb4
          have B4 := B3.trans (hb4.mono B3.size)
          clear l1 a0 a1 a2 b0 b1 b2 r0 r1 r2 hf F3 B3 hb4
          obtain ⟨l1, a0, a1, a2, b0, b1, b2, r0, r1, r2, hf⟩ := id F4
          go_wp2_with fail
          refine (TO.out _).mono ?_
          rintro e w5 ⟨rfl, hb5⟩
          have F5 := F4.below hb5
          have B5 := B4.trans (hb5.mono B4.size)
          clear l1 a0 a1 a2 b0 b1 b2 r0 r1 r2 hf F4 B4 hb5
          obtain ⟨l1, a0, a1, a2, b0, b1, b2, r0, r1, r2, hf⟩ := id F5
          go_wp2_with fail
          refine bodyPost_ret (v := .tuple #[.agg #[.int .i64 4, .int .i64 1, .string ⟨#[]⟩], .int .i64 0]) (by simp [results, Tryd.results4, go_sem, r0, r1, r2]) rfl ⟨rfl, ?_⟩
          first | exact ((B5.setCell (by simp; omega) _).setCell (by simp; omega) _).setCell (by simp; omega) _ | exact B5
        · obtain ⟨e1, e2⟩ := j_null he hia hib hon
          rw [e1, e2, he]
          rw [he] at CN
          rw [hia] at IA
          rw [hib] at IB
          rw [hon] at ON
          clear he hia hib hon e1 e2
          go_enter Tryd.func4, Tryd.ntmps4
          go_wp2_with fail
          refine (CN.out _ _ ?_ ?_).mono ?_
          · exact V0.out
          · exact hT.below (B0.out.alloc (by simp; omega) _)
          rintro e w1 ⟨rfl, hb1⟩
          have F1 := F0.out.below (((Below.refl _ _).alloc (Nat.le_refl _) _).trans (hb1.mono (by simp)))
          have B1 := (B0.out.alloc (by simp; omega) _).trans (hb1.mono (by simp; omega))
          clear hb1 F0 B0 V0
          obtain ⟨l1, a0, a1, a2, b0, b1, b2, r0, r1, r2, hf⟩ := id F1
          go_wp2_with fail
          refine (IA.out _).mono ?_
          rintro e w2 ⟨rfl, hb2⟩
          have F2 := F1.below hb2
          have B2 := B1.trans (hb2.mono B1.size)
          clear l1 a0 a1 a2 b0 b1 b2 r0 r1 r2 hf F1 B1 hb2
          obtain ⟨l1, a0, a1, a2, b0, b1, b2, r0, r1, r2, hf⟩ := id F2
          go_wp2_with fail
          refine (IB.out _).mono ?_
          rintro e w3 ⟨rfl, hb3⟩
          have F3 := F2.below hb3
          have B3 := B2.trans (hb3.mono B2.size)
          clear l1 a0 a1 a2 b0 b1 b2 r0 r1 r2 hf F2 B2 hb3
          obtain ⟨l1, a0, a1, a2, b0, b1, b2, r0, r1, r2, hf⟩ := id F3
          go_wp2_with fail
          refine (ON.out _).mono ?_
          rintro e w4 ⟨rfl, hb4⟩
          have F4 := F3.below hb4
          have B4 := B3.trans (hb4.mono B3.size)
          clear l1 a0 a1 a2 b0 b1 b2 r0 r1 r2 hf F3 B3 hb4
          obtain ⟨l1, a0, a1, a2, b0, b1, b2, r0, r1, r2, hf⟩ := id F4
          go_wp2_with fail
          refine bodyPost_ret (v := .tuple #[.agg #[.int .i64 0, .int .i64 0, .string ⟨#[]⟩], .int .i64 0]) (by simp [results, Tryd.results4, go_sem, r0, r1, r2]) rfl ⟨rfl, ?_⟩
          first | exact ((B4.setCell (by simp; omega) _).setCell (by simp; omega) _).setCell (by simp; omega) _ | exact B4
      · obtain ⟨e1, e2⟩ := j_set he (Or.inr hib)
        have e3 : jN false a b = 0 := e2
        rw [e1, e3, he]
        rw [he] at CN
        rw [hia] at IA
        rw [hib] at IB
        clear he hia hib e1 e2 e3
        go_enter Tryd.func4, Tryd.ntmps4
        go_wp2_with fail
        refine (CN.out _ _ ?_ ?_).mono ?_
        · exact V0.out
        · exact hT.below (B0.out.alloc (by simp; omega) _)
        rintro e w1 ⟨rfl, hb1⟩
        have F1 := F0.out.below (((Below.refl _ _).alloc (Nat.le_refl _) _).trans (hb1.mono (by simp)))
        have B1 := (B0.out.alloc (by simp; omega) _).trans (hb1.mono (by simp; omega))
        clear hb1 F0 B0 V0
        obtain ⟨l1, a0, a1, a2, b0, b1, b2, r0, r1, r2, hf⟩ := id F1
        go_wp2_with fail
        refine (IA.out _).mono ?_
        rintro e w2 ⟨rfl, hb2⟩
        have F2 := F1.below hb2
        have B2 := B1.trans (hb2.mono B1.size)
        clear l1 a0 a1 a2 b0 b1 b2 r0 r1 r2 hf F1 B1 hb2
        obtain ⟨l1, a0, a1, a2, b0, b1, b2, r0, r1, r2, hf⟩ := id F2
        go_wp2_with fail
        refine (IB.out _).mono ?_
        rintro e w3 ⟨rfl, hb3⟩
        have F3 := F2.below hb3
        have B3 := B2.trans (hb3.mono B2.size)
        clear l1 a0 a1 a2 b0 b1 b2 r0 r1 r2 hf F2 B2 hb3
        obtain ⟨l1, a0, a1, a2, b0, b1, b2, r0, r1, r2, hf⟩ := id F3
        go_wp2_with fail
        refine (TS.out _).mono ?_
        rintro e w4 ⟨rfl, hb4⟩
        have F4 := F3.below hb4
        have B4 := B3.trans (hb4.mono B3.size)
        clear l1 a0 a1 a2 b0 b1 b2 r0 r1 r2 hf F3 B3 hb4
        obtain ⟨l1, a0, a1, a2, b0, b1, b2, r0, r1, r2, hf⟩ := id F4
        go_wp2_with fail
        refine bodyPost_ret (v := .tuple #[.agg #[.int .i64 4, .int .i64 0, .string ⟨#[]⟩], .int .i64 0]) (by simp [results, Tryd.results4, go_sem, r0, r1, r2]) rfl ⟨rfl, ?_⟩
        first | exact ((B4.setCell (by simp; omega) _).setCell (by simp; omega) _).setCell (by simp; omega) _ | exact B4
    · obtain ⟨e1, e2⟩ := j_set he (Or.inl hia)
      have e3 : jN false a b = 0 := e2
      rw [e1, e3, he]
      rw [he] at CN
      rw [hia] at IA
      clear he hia e1 e2 e3
      go_enter Tryd.func4, Tryd.ntmps4
      go_wp2_with fail
      refine (CN.out _ _ ?_ ?_).mono ?_
      · exact V0.out
      · exact hT.below (B0.out.alloc (by simp; omega) _)
      rintro e w1 ⟨rfl, hb1⟩
      have F1 := F0.out.below (((Below.refl _ _).alloc (Nat.le_refl _) _).trans (hb1.mono (by simp)))
      have B1 := (B0.out.alloc (by simp; omega) _).trans (hb1.mono (by simp; omega))
      clear hb1 F0 B0 V0
      obtain ⟨l1, a0, a1, a2, b0, b1, b2, r0, r1, r2, hf⟩ := id F1
      go_wp2_with fail
      refine (IA.out _).mono ?_
      rintro e w2 ⟨rfl, hb2⟩
      have F2 := F1.below hb2
      have B2 := B1.trans (hb2.mono B1.size)
      clear l1 a0 a1 a2 b0 b1 b2 r0 r1 r2 hf F1 B1 hb2
      obtain ⟨l1, a0, a1, a2, b0, b1, b2, r0, r1, r2, hf⟩ := id F2
      go_wp2_with fail
      refine (TS.out _).mono ?_
      rintro e w3 ⟨rfl, hb3⟩
      have F3 := F2.below hb3
      have B3 := B2.trans (hb3.mono B2.size)
      clear l1 a0 a1 a2 b0 b1 b2 r0 r1 r2 hf F2 B2 hb3
      obtain ⟨l1, a0, a1, a2, b0, b1, b2, r0, r1, r2, hf⟩ := id F3
      go_wp2_with fail
      refine bodyPost_ret (v := .tuple #[.agg #[.int .i64 4, .int .i64 0, .string ⟨#[]⟩], .int .i64 0]) (by simp [results, Tryd.results4, go_sem, r0, r1, r2]) rfl ⟨rfl, ?_⟩
      first | exact ((B3.setCell (by simp; omega) _).setCell (by simp; omega) _).setCell (by simp; omega) _ | exact B3
  · obtain ⟨e1, e2⟩ := j_err (s := false) he
    rw [e1, e2]
    have hne : (truthsE [a, b] != 0) = true := by rw [bne_iff_ne]; exact he
    clear e1 e2
    go_enter Tryd.func4, Tryd.ntmps4
    go_wp2_with fail
    refine (CN.out _ _ ?_ ?_).mono ?_
    · exact V0.out
    · exact hT.below (B0.out.alloc (by simp; omega) _)
    rintro e w1 ⟨rfl, hb1⟩
    have F1 := F0.out.below (((Below.refl _ _).alloc (Nat.le_refl _) _).trans (hb1.mono (by simp)))
    have B1 := (B0.out.alloc (by simp; omega) _).trans (hb1.mono (by simp; omega))
    clear hb1 F0 B0 V0
    obtain ⟨l1, a0, a1, a2, b0, b1, b2, r0, r1, r2, hf⟩ := id F1
    go_wp2_with fail
    refine bodyPost_ret (v := .tuple #[.agg #[.int .i64 0, .int .i64 0, .string ⟨#[]⟩], .int .i64 (truthsE [a, b])]) (by simp [results, Tryd.results4, go_sem, r0, r1, r2]) rfl ⟨rfl, ?_⟩
    first | exact ((B1.setCell (by simp; omega) _).setCell (by simp; omega) _).setCell (by simp; omega) _ | exact B1

set_option maxHeartbeats 4000000 in
set_option maxRecDepth 1000000 in
theorem Or_any (a b : Va) (w : World) (ha : a.s.size ≤ 9223372036854775807) (hb : b.s.size ≤ 9223372036854775807) (hT : Tabs w) :
    Calls Tryd.prog 6 #[.agg #[.int .i64 a.ty, .int .i64 a.n, .string a.s], .agg #[.int .i64 b.ty, .int .i64 b.n, .string b.s]] w fun e w' => e = .returned (.tuple #[.agg #[.int .i64 (jT true a b), .int .i64 (jN true a b), .string ⟨#[]⟩], .int .i64 (truthsE [a, b])]) ∧ Below w.heap.size w w' := by
  have CN : Hid (∀ g w, valsAt w g [a, b] → Tabs w → Calls Tryd.prog 11 #[.slice (some ⟨g, 0, none⟩) 2 2] w fun e w' => e = .returned (.int .i64 (truthsE [a, b])) ∧ Below w.heap.size w w') := fun g w hv ht => checkTruths_any g 2 [a, b] w (by simp) hv (by intro v hv; simp at hv; rcases hv with rfl | rfl <;> assumption) ht
  have IA : Hid (∀ w, Calls Tryd.prog 12 #[.agg #[.int .i64 a.ty, .int .i64 a.n, .string a.s], .int .i64 1] w fun e w' => e = .returned (.bool (isT a true)) ∧ Below w.heap.size w w') := fun w => isTruth_any a.ty a.n a.s 1 w
  have IB : Hid (∀ w, Calls Tryd.prog 12 #[.agg #[.int .i64 b.ty, .int .i64 b.n, .string b.s], .int .i64 1] w fun e w' => e = .returned (.bool (isT b true)) ∧ Below w.heap.size w w') := fun w => isTruth_any b.ty b.n b.s 1 w
  have ON : Hid (∀ w, Calls Tryd.prog 14 #[.agg #[.int .i64 a.ty, .int .i64 a.n, .string a.s], .agg #[.int .i64 b.ty, .int .i64 b.n, .string b.s]] w fun e w' => e = .returned (.bool (decide (a.ty = 0) || decide (b.ty = 0))) ∧ Below w.heap.size w w') := fun w => oneNull_any a.ty a.n a.s b.ty b.n b.s w
  have TS : Hid (∀ w, Calls Tryd.prog 13 #[.bool true] w fun e w' => e = .returned (.agg #[.int .i64 4, .int .i64 1, .string ⟨#[]⟩]) ∧ Below w.heap.size w w') := fun w => truth_any true w
  have TO : Hid (∀ w, Calls Tryd.prog 13 #[.bool false] w fun e w' => e = .returned (.agg #[.int .i64 4, .int .i64 0, .string ⟨#[]⟩]) ∧ Below w.heap.size w w') := fun w => truth_any false w
  have F0 : Hid _ := Fr.new w a b ⟨0, 0, ⟨#[]⟩⟩
  have B0 : Hid _ := (((Below.refl _ w).alloc (Nat.le_refl _) (.cells #[.int .i64 a.ty, .int .i64 a.n, .string a.s] 23)).alloc (by simp) (.cells #[.int .i64 b.ty, .int .i64 b.n, .string b.s] 23)).alloc (by simp; omega) (.cells #[.int .i64 0, .int .i64 0, .string ⟨#[]⟩] 23)
  have V0 : Hid _ := valsAt_two3 w (.cells #[.int .i64 a.ty, .int .i64 a.n, .string a.s] 23) (.cells #[.int .i64 b.ty, .int .i64 b.n, .string b.s] 23) (.cells #[.int .i64 0, .int .i64 0, .string ⟨#[]⟩] 23) a.ty a.n a.s b.ty b.n b.s
  by_cases he : truthsE [a, b] = 0
  · cases hia : isT a true
    · cases hib : isT b true
      · cases hon : (decide (a.ty = 0) || decide (b.ty = 0))
        · obtain ⟨e1, e2⟩ := j_else he hia hib hon
          have e3 : jN true a b = 0 := e2
          rw [e1, e3, he]
          rw [he] at CN
          rw [hia] at IA
          rw [hib] at IB
          rw [hon] at ON
          clear he hia hib hon e1 e2 e3
          go_enter Tryd.func6, Tryd.ntmps6
          go_wp2_with fail
          refine (CN.out _ _ ?_ ?_).mono ?_
          · exact V0.out
          · exact hT.below (B0.out.alloc (by simp; omega) _)
          rintro e w1 ⟨rfl, hb1⟩
          have F1 := F0.out.below (((Below.refl _ _).alloc (Nat.le_refl _) _).trans (hb1.mono (by simp)))
          have B1 := (B0.out.alloc (by simp; omega) _).trans (hb1.mono (by simp; omega))
          clear hb1 F0 B0 V0
          obtain ⟨l1, a0, a1, a2, b0, b1, b2, r0, r1, r2, hf⟩ := id F1
          go_wp2_with fail
          refine (IA.out _).mono ?_
          rintro e w2 ⟨rfl, hb2⟩
          have F2 := F1.below hb2
          have B2 := B1.trans (hb2.mono B1.size)
          clear l1 a0 a1 a2 b0 b1 b2 r0 r1 r2 hf F1 B1 hb2
          obtain ⟨l1, a0, a1, a2, b0, b1, b2, r0, r1, r2, hf⟩ := id F2
          go_wp2_with fail
          refine (IB.out _).mono ?_
          rintro e w3 ⟨rfl, hb3⟩
          have F3 := F2.below hb3
          have B3 := B2.trans (hb3.mono B2.size)
          clear l1 a0 a1 a2 b0 b1 b2 r0 r1 r2 hf F2 B2 hb3
          obtain ⟨l1, a0, a1, a2, b0, b1, b2, r0, r1, r2, hf⟩ := id F3
          go_wp2_with fail
          refine (ON.out _).mono ?_
          rintro e w4 ⟨rfl, hb4⟩
          have F4 := F3.below hb4
          have B4 := B3.trans (hb4.mono B3.size)
          clear l1 a0 a1 a2 b0 b1 b2 r0 r1 r2 hf F3 B3 hb4
          obtain ⟨l1, a0, a1, a2, b0, b1, b2, r0, r1, r2, hf⟩ := id F4
          go_wp2_with fail
          refine (TO.out _).mono ?_
          rintro e w5 ⟨rfl, hb5⟩
          have F5 := F4.below hb5
          have B5 := B4.trans (hb5.mono B4.size)
          clear l1 a0 a1 a2 b0 b1 b2 r0 r1 r2 hf F4 B4 hb5
          obtain ⟨l1, a0, a1, a2, b0, b1, b2, r0, r1, r2, hf⟩ := id F5
          go_wp2_with fail
          refine bodyPost_ret (v := .tuple #[.agg #[.int .i64 4, .int .i64 0, .string ⟨#[]⟩], .int .i64 0]) (by simp [results, Tryd.results6, go_sem, r0, r1, r2]) rfl ⟨rfl, ?_⟩
          first | exact ((B5.setCell (by simp; omega) _).setCell (by simp; omega) _).setCell (by simp; omega) _ | exact B5
        · obtain ⟨e1, e2⟩ := j_null he hia hib hon
          rw [e1, e2, he]
          rw [he] at CN
          rw [hia] at IA
          rw [hib] at IB
          rw [hon] at ON
          clear he hia hib hon e1 e2
          go_enter Tryd.func6, Tryd.ntmps6
          go_wp2_with fail
          refine (CN.out _ _ ?_ ?_).mono ?_
          · exact V0.out
          · exact hT.below (B0.out.alloc (by simp; omega) _)
          rintro e w1 ⟨rfl, hb1⟩
          have F1 := F0.out.below (((Below.refl _ _).alloc (Nat.le_refl _) _).trans (hb1.mono (by simp)))
          have B1 := (B0.out.alloc (by simp; omega) _).trans (hb1.mono (by simp; omega))
          clear hb1 F0 B0 V0
          obtain ⟨l1, a0, a1, a2, b0, b1, b2, r0, r1, r2, hf⟩ := id F1
          go_wp2_with fail
          refine (IA.out _).mono ?_
          rintro e w2 ⟨rfl, hb2⟩
          have F2 := F1.below hb2
          have B2 := B1.trans (hb2.mono B1.size)
          clear l1 a0 a1 a2 b0 b1 b2 r0 r1 r2 hf F1 B1 hb2
          obtain ⟨l1, a0, a1, a2, b0, b1, b2, r0, r1, r2, hf⟩ := id F2
          go_wp2_with fail
          refine (IB.out _).mono ?_
          rintro e w3 ⟨rfl, hb3⟩
          have F3 := F2.below hb3
          have B3 := B2.trans (hb3.mono B2.size)
          clear l1 a0 a1 a2 b0 b1 b2 r0 r1 r2 hf F2 B2 hb3
          obtain ⟨l1, a0, a1, a2, b0, b1, b2, r0, r1, r2, hf⟩ := id F3
          go_wp2_with fail
          refine (ON.out _).mono ?_
          rintro e w4 ⟨rfl, hb4⟩
          have F4 := F3.below hb4
          have B4 := B3.trans (hb4.mono B3.size)
          clear l1 a0 a1 a2 b0 b1 b2 r0 r1 r2 hf F3 B3 hb4
          obtain ⟨l1, a0, a1, a2, b0, b1, b2, r0, r1, r2, hf⟩ := id F4
          go_wp2_with fail
          refine bodyPost_ret (v := .tuple #[.agg #[.int .i64 0, .int .i64 0, .string ⟨#[]⟩], .int .i64 0]) (by simp [results, Tryd.results6, go_sem, r0, r1, r2]) rfl ⟨rfl, ?_⟩
          first | exact ((B4.setCell (by simp; omega) _).setCell (by simp; omega) _).setCell (by simp; omega) _ | exact B4
      · obtain ⟨e1, e2⟩ := j_set he (Or.inr hib)
        have e3 : jN true a b = 1 := e2
        rw [e1, e3, he]
        rw [he] at CN
        rw [hia] at IA
        rw [hib] at IB
        clear he hia hib e1 e2 e3
        go_enter Tryd.func6, Tryd.ntmps6
        go_wp2_with fail
        refine (CN.out _ _ ?_ ?_).mono ?_
        · exact V0.out
        · exact hT.below (B0.out.alloc (by simp; omega) _)
        rintro e w1 ⟨rfl, hb1⟩
        have F1 := F0.out.below (((Below.refl _ _).alloc (Nat.le_refl _) _).trans (hb1.mono (by simp)))
        have B1 := (B0.out.alloc (by simp; omega) _).trans (hb1.mono (by simp; omega))
        clear hb1 F0 B0 V0
        obtain ⟨l1, a0, a1, a2, b0, b1, b2, r0, r1, r2, hf⟩ := id F1
        go_wp2_with fail
        refine (IA.out _).mono ?_
        rintro e w2 ⟨rfl, hb2⟩
        have F2 := F1.below hb2
        have B2 := B1.trans (hb2.mono B1.size)
        clear l1 a0 a1 a2 b0 b1 b2 r0 r1 r2 hf F1 B1 hb2
        obtain ⟨l1, a0, a1, a2, b0, b1, b2, r0, r1, r2, hf⟩ := id F2
        go_wp2_with fail
        refine (IB.out _).mono ?_
        rintro e w3 ⟨rfl, hb3⟩
        have F3 := F2.below hb3
        have B3 := B2.trans (hb3.mono B2.size)
        clear l1 a0 a1 a2 b0 b1 b2 r0 r1 r2 hf F2 B2 hb3
        obtain ⟨l1, a0, a1, a2, b0, b1, b2, r0, r1, r2, hf⟩ := id F3
        go_wp2_with fail
        refine (TS.out _).mono ?_
        rintro e w4 ⟨rfl, hb4⟩
        have F4 := F3.below hb4
        have B4 := B3.trans (hb4.mono B3.size)
        clear l1 a0 a1 a2 b0 b1 b2 r0 r1 r2 hf F3 B3 hb4
        obtain ⟨l1, a0, a1, a2, b0, b1, b2, r0, r1, r2, hf⟩ := id F4
        go_wp2_with fail
        refine bodyPost_ret (v := .tuple #[.agg #[.int .i64 4, .int .i64 1, .string ⟨#[]⟩], .int .i64 0]) (by simp [results, Tryd.results6, go_sem, r0, r1, r2]) rfl ⟨rfl, ?_⟩
        first | exact ((B4.setCell (by simp; omega) _).setCell (by simp; omega) _).setCell (by simp; omega) _ | exact B4
    · obtain ⟨e1, e2⟩ := j_set he (Or.inl hia)
      have e3 : jN true a b = 1 := e2
      rw [e1, e3, he]
      rw [he] at CN
      rw [hia] at IA
      clear he hia e1 e2 e3
      go_enter Tryd.func6, Tryd.ntmps6
      go_wp2_with fail
      refine (CN.out _ _ ?_ ?_).mono ?_
      · exact V0.out
      · exact hT.below (B0.out.alloc (by simp; omega) _)
      rintro e w1 ⟨rfl, hb1⟩
      have F1 := F0.out.below (((Below.refl _ _).alloc (Nat.le_refl _) _).trans (hb1.mono (by simp)))
      have B1 := (B0.out.alloc (by simp; omega) _).trans (hb1.mono (by simp; omega))
      clear hb1 F0 B0 V0
      obtain ⟨l1, a0, a1, a2, b0, b1, b2, r0, r1, r2, hf⟩ := id F1
      go_wp2_with fail
      refine (IA.out _).mono ?_
      rintro e w2 ⟨rfl, hb2⟩
      have F2 := F1.below hb2
      have B2 := B1.trans (hb2.mono B1.size)
      clear l1 a0 a1 a2 b0 b1 b2 r0 r1 r2 hf F1 B1 hb2
      obtain ⟨l1, a0, a1, a2, b0, b1, b2, r0, r1, r2, hf⟩ := id F2
      go_wp2_with fail
      refine (TS.out _).mono ?_
      rintro e w3 ⟨rfl, hb3⟩
      have F3 := F2.below hb3
      have B3 := B2.trans (hb3.mono B2.size)
      clear l1 a0 a1 a2 b0 b1 b2 r0 r1 r2 hf F2 B2 hb3
      obtain ⟨l1, a0, a1, a2, b0, b1, b2, r0, r1, r2, hf⟩ := id F3
      go_wp2_with fail
      refine bodyPost_ret (v := .tuple #[.agg #[.int .i64 4, .int .i64 1, .string ⟨#[]⟩], .int .i64 0]) (by simp [results, Tryd.results6, go_sem, r0, r1, r2]) rfl ⟨rfl, ?_⟩
      first | exact ((B3.setCell (by simp; omega) _).setCell (by simp; omega) _).setCell (by simp; omega) _ | exact B3
  · obtain ⟨e1, e2⟩ := j_err (s := true) he
    rw [e1, e2]
    have hne : (truthsE [a, b] != 0) = true := by rw [bne_iff_ne]; exact he
    clear e1 e2
    go_enter Tryd.func6, Tryd.ntmps6
    go_wp2_with fail
    refine (CN.out _ _ ?_ ?_).mono ?_
    · exact V0.out
    · exact hT.below (B0.out.alloc (by simp; omega) _)
    rintro e w1 ⟨rfl, hb1⟩
    have F1 := F0.out.below (((Below.refl _ _).alloc (Nat.le_refl _) _).trans (hb1.mono (by simp)))
    have B1 := (B0.out.alloc (by simp; omega) _).trans (hb1.mono (by simp; omega))
    clear hb1 F0 B0 V0
    obtain ⟨l1, a0, a1, a2, b0, b1, b2, r0, r1, r2, hf⟩ := id F1
    go_wp2_with fail
    refine bodyPost_ret (v := .tuple #[.agg #[.int .i64 0, .int .i64 0, .string ⟨#[]⟩], .int .i64 (truthsE [a, b])]) (by simp [results, Tryd.results6, go_sem, r0, r1, r2]) rfl ⟨rfl, ?_⟩
    first | exact ((B1.setCell (by simp; omega) _).setCell (by simp; omega) _).setCell (by simp; omega) _ | exact B1

end Go.Proofs.YtmgmpkdnepomgaaDoor
