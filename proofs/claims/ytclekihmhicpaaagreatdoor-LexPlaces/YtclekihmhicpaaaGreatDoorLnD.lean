/-
  The walks of lex's beginning and Where, and of the reference's Where.
-/
import Derived.Test.YtclekihmhicpaaaGreatDoorLnC
namespace Go.Proofs.YtclekihmhicpaaaGreatDoor
open Go.RowKit Go.Shelf

theorem Dec_any (l : List UInt8) (w : World) (hne : l ≠ []) (hT : Tabs w) :
    Calls Tryz.prog 39 #[.string ⟨l.toArray⟩] w fun e w' => e = .returned (.tuple #[.int .i32 ((Lib.decodeL l).1 : Nat), .int .i64 ((Lib.decodeL l).2 : Nat)]) ∧ Below w.heap.size w w' := by
  have h := Any.utf8_DecodeRuneInString Tryz.laysDec ⟨l.toArray⟩ w hT
  have e : Lib.decodeGo ⟨l.toArray⟩ = Lib.decodeL l := by
    unfold Lib.decodeGo
    rw [if_neg (by rw [size_mk]; intro h0; exact hne (List.eq_nil_of_length_eq_zero h0))]
    rfl
  rw [e] at h
  exact h
theorem bgnF_step {l : List UInt8} {A f k : Nat} (h : k < A) (h2 : ¬ A < k + wd l k) : bgnF l A (f + 1) k = bgnF l A f (k + 1) := by rw [bgnF, if_pos h, if_neg h2]
theorem bgnF_stop {l : List UInt8} {A f k : Nat} (h : k < A) (h2 : A < k + wd l k) : bgnF l A (f + 1) k = k := by rw [bgnF, if_pos h, if_pos h2]
theorem bgnF_end {l : List UInt8} {A f k : Nat} (h : ¬ k < A) : bgnF l A f k = A := by cases f with
  | zero => rfl
  | succ f => rw [bgnF, if_neg h]
theorem bgn_le (l : List UInt8) (A : Nat) : bgn l A ≤ A := by
  unfold bgn
  rcases bgnF_ge l A 4 (A - 3) with e | ⟨_, e, _⟩ <;> omega
set_option maxHeartbeats 2000000 in
set_option maxRecDepth 1000000 in
theorem beginning_any (l : List UInt8) (A : Nat) (w : World) (hA : A ≤ l.length) (hs : l.length ≤ 2000000) (hT : Tabs w) :
    Calls Tryz.prog 21 #[.string ⟨l.toArray⟩, .int .i64 (A : Nat)] w fun e w' => e = .returned (.int .i64 (bgn l A : Nat)) ∧ Below w.heap.size w w' := by
  have DR : Hid (∀ (k : Nat) w, k < l.length → Tabs w → Calls Tryz.prog 39 #[.string ⟨(l.drop k).toArray⟩] w fun e w' => e = .returned (.tuple #[.int .i32 ((Lib.decodeL (l.drop k)).1 : Nat), .int .i64 (wd l k : Nat)]) ∧ Below w.heap.size w w') := fun k w hk hT => Dec_any (l.drop k) w (by intro e; have := congrArg List.length e; simp at this; omega) hT
  have HT : Hid (Tabs w) := hT
  have hzl : (ByteArray.mk l.toArray).size = l.length := size_mk l
  have hex : ∀ k, (ByteArray.mk l.toArray).extract k l.length = ByteArray.mk (l.drop k).toArray := fun k => by rw [extract_mk, List.take_length]
  have hmx : max (0 : Int) ((A : Int) - 4 + 1) = ((A - 3 : Nat) : Int) := by omega
  have hm1 : -9223372036854775808 ≤ (A : Int) - 4 := by omega
  have hAi : (A : Int) ≤ 2000000 := by omega
  clear hT
  go_enter Tryz.func21, Tryz.ntmps21
  go_wp2_with fail
  clear hmx hm1
  go_loopw [5] (fun s5 wr => ∃ (k f : Nat), s5 = .int .i64 (k : Nat) ∧ k ≤ A ∧ A < k + f ∧ Hid (bgnF l A f k = bgn l A) ∧ Hid (Below w.heap.size w wr)) (fun s5 _ => A - (intOf s5).toNat)
  case atStart => exact ⟨A - 3, 4, rfl, by omega, by omega, rfl, Below.refl _ _⟩
  case round =>
    obtain ⟨k, f, rfl, hk, hf, hst, hbr⟩ := hrel
    by_cases hlt : k < A
    · have hlti : (k : Int) < (A : Int) := by omega
      obtain ⟨f, rfl⟩ : ∃ g, f = g + 1 := ⟨f - 1, by omega⟩
      have D1 : Hid (∀ w, Tabs w → Calls Tryz.prog 39 #[.string ⟨(l.drop k).toArray⟩] w fun e w' => e = .returned (.tuple #[.int .i32 ((Lib.decodeL (l.drop k)).1 : Nat), .int .i64 (wd l k : Nat)]) ∧ Below w.heap.size w w') := fun w hT => DR.out k w (by omega) hT
      have hexk := hex k
      have h4 := wd_four l k
      have hki : (k : Int) ≤ (l.length : Int) := by omega
      have hstep := hst.out
      by_cases h2 : A < k + wd l k
      · have b2 : (A : Int) < (k : Int) + (wd l k : Int) := by omega
        rw [bgnF_stop hlt h2] at hstep
        have HE : Hid (k = bgn l A) := hstep
        generalize wd l k = W at *
        generalize (Lib.decodeL (l.drop k)).1 = R at *
        generalize l.drop k = D at *
        clear hst DR hex hstep h2
        go_wp2_with fail
        refine (D1.out _ (HT.out.below hbr.out)).mono ?_
        rintro e w1 ⟨rfl, hb1⟩
        have B1 := hbr.out.trans (hb1.mono hbr.out.size)
        clear D1 hb1
        go_wp2_with fail
        rw [← HE.out]
        go_ret
        exact ⟨rfl, B1⟩
      · have b2 : ¬ (A : Int) < (k : Int) + (wd l k : Int) := by omega
        rw [bgnF_step hlt h2] at hstep
        have HE : Hid (bgnF l A f (k + 1) = bgn l A) := hstep
        generalize wd l k = W at *
        generalize (Lib.decodeL (l.drop k)).1 = R at *
        generalize l.drop k = D at *
        clear hst DR hex hstep h2
        go_wp2_with fail
        refine (D1.out _ (HT.out.below hbr.out)).mono ?_
        rintro e w1 ⟨rfl, hb1⟩
        have B1 := hbr.out.trans (hb1.mono hbr.out.size)
        clear D1 hb1
        go_wp2_with fail
        go_roundw
        case rel => exact ⟨k + 1, f, by go_num, by omega, by omega, HE, B1⟩
        case measure => simp [intOf]; omega
    · have hlti : ¬ (k : Int) < (A : Int) := by omega
      have HE : Hid (A = bgn l A) := by have := hst.out; rw [bgnF_end hlt] at this; exact this
      have hb := hbr.out
      clear hst DR hex hbr
      go_wp2_with fail
      rw [← HE.out]
      go_ret
      exact ⟨rfl, hb⟩
/-- line and column of a place -/
def whr (l : List UInt8) (A : Nat) : Nat × Nat := beh 1 1 (l.take (bgn l A))
set_option maxHeartbeats 2000000 in
set_option maxRecDepth 1000000 in
theorem Where_any (l : List UInt8) (A : Nat) (w : World) (hA : A ≤ l.length) (hs : l.length ≤ 2000000) (hT : Tabs w) :
    Calls Tryz.prog 6 #[.string ⟨l.toArray⟩, .int .i64 (A : Nat)] w fun e w' => e = .returned (.tuple #[.int .i64 ((whr l A).1 : Nat), .int .i64 ((whr l A).2 : Nat), .int .i64 0]) ∧ Below w.heap.size w w' := by
  have FP : Hid (∀ w, Calls Tryz.prog 19 #[] w fun e w' => e = .returned (.agg #[.int .i64 0, .int .i64 1, .int .i64 1]) ∧ Below w.heap.size w w') := firstPlace_any
  have BG : Hid (∀ w, Tabs w → Calls Tryz.prog 21 #[.string ⟨l.toArray⟩, .int .i64 (A : Nat)] w fun e w' => e = .returned (.int .i64 (bgn l A : Nat)) ∧ Below w.heap.size w w') := fun w h => beginning_any l A w hA hs h
  have hle := bgn_le l A
  have BE0 : ∀ w, Calls Tryz.prog 20 #[.agg #[.int .i64 (0 : Nat), .int .i64 (1 : Nat), .int .i64 (1 : Nat)], .string ⟨(l.take (bgn l A)).toArray⟩] w fun e w' => e = .returned (.agg #[.int .i64 ((0 + (l.take (bgn l A)).length : Nat) : Int), .int .i64 ((whr l A).1 : Nat), .int .i64 ((whr l A).2 : Nat)]) ∧ Below w.heap.size w w' := fun w => behind_big 0 1 1 (l.take (bgn l A)) w (by rw [List.length_take]; omega) (by omega) (by omega) (by omega) (by omega)
  have HT : Hid (Tabs w) := hT
  have hzl : (ByteArray.mk l.toArray).size = l.length := size_mk l
  have hex : (ByteArray.mk l.toArray).extract 0 (bgn l A) = ByteArray.mk (l.take (bgn l A)).toArray := by rw [extract_mk, List.drop_zero]
  generalize (l.take (bgn l A)).length = N at *
  have BE : Hid (∀ w, Calls Tryz.prog 20 #[.agg #[.int .i64 0, .int .i64 1, .int .i64 1], .string ⟨(l.take (bgn l A)).toArray⟩] w fun e w' => e = .returned (.agg #[.int .i64 ((0 + N : Nat) : Int), .int .i64 ((whr l A).1 : Nat), .int .i64 ((whr l A).2 : Nat)]) ∧ Below w.heap.size w w') := BE0
  clear BE0 hT
  generalize l.take (bgn l A) = X at *
  generalize bgn l A = B at *
  generalize whr l A = Q at *
  obtain ⟨Q1, Q2⟩ := Q
  generalize 0 + N = M at *
  simp only at BE
  have i1 : ¬ (A : Int) < 0 := by omega
  have i2 : ¬ (l.length : Int) < (A : Int) := by omega
  have i3 : (B : Int) ≤ (l.length : Int) := by omega
  go_enter Tryz.func6, Tryz.ntmps6
  go_wp2_with fail
  refine (FP.out _).mono ?_
  rintro e w1 ⟨rfl, hb1⟩
  clear FP
  go_wp2_with fail
  refine (BG.out _ (HT.out.below hb1)).mono ?_
  rintro e w2 ⟨rfl, hb2⟩
  have B2 := hb1.trans (hb2.mono hb1.size)
  clear BG hb1 hb2
  go_wp2_with fail
  refine (BE.out _).mono ?_
  rintro e w3 ⟨rfl, hb3⟩
  have B3 := B2.trans (hb3.mono B2.size)
  have P4 := R3.new w3 44 (.int .i64 (M : Nat)) (.int .i64 (Q1 : Nat)) (.int .i64 (Q2 : Nat))
  have B4 := B3.alloc B3.size (.cells #[.int .i64 (M : Nat), .int .i64 (Q1 : Nat), .int .i64 (Q2 : Nat)] 44)
  clear BE B2 hb3
  go_wp2_with fail
  generalize w3.alloc (.cells #[.int .i64 (M : Nat), .int .i64 (Q1 : Nat), .int .i64 (Q2 : Nat)] 44) = w4 at *
  generalize w3.heap.size = gp at *
  obtain ⟨_, d0, d1, d2, _, _, _⟩ := P4
  go_quiet (fail)
  go_wp2_with fail
  have B5 : Below w.heap.size w (w4.drewN nq) := below_drewN B4 nq
  go_ret3
  exact ⟨rfl, B5⟩
set_option maxHeartbeats 2000000 in
set_option maxRecDepth 1000000 in
theorem Where_bad (l : List UInt8) (n : Int) (w : World) (h : n < 0 ∨ (l.length : Int) < n) :
    Calls Tryz.prog 6 #[.string ⟨l.toArray⟩, .int .i64 n] w fun e w' => e = .returned (.tuple #[.int .i64 0, .int .i64 0, .int .i64 1]) ∧ Below w.heap.size w w' := by
  have hzl : (ByteArray.mk l.toArray).size = l.length := size_mk l
  by_cases h1 : n < 0
  · clear h
    go_enter Tryz.func6, Tryz.ntmps6
    go_wp2_with fail
    go_ret3
    exact ⟨rfl, Below.refl _ _⟩
  · have h2 : (l.length : Int) < n := h.resolve_left h1
    clear h
    go_enter Tryz.func6, Tryz.ntmps6
    go_wp2_with fail
    go_ret3
    exact ⟨rfl, Below.refl _ _⟩
end Go.Proofs.YtclekihmhicpaaaGreatDoor
