/-
  The walks of lex.canBe and lex.printToken.
-/
import Derived.Test.YtfcolecglobcdaaGreatDoorGE
namespace Go.Proofs.YtfcolecglobcdaaGreatDoor
open Go.RowKit Go.Shelf

/-- a token's block -/
structure B8 (w : World) (x0 x1 x2 x3 x4 x5 x6 x7 : Value) (w' : World) : Prop where
  b : Below w.heap.size w w'
  x : R8 w' w.heap.size x0 x1 x2 x3 x4 x5 x6 x7
theorem B8.next {w : World} {x0 x1 x2 x3 x4 x5 x6 x7 : Value} {w' w'' : World} (h : B8 w x0 x1 x2 x3 x4 x5 x6 x7 w') (hb : Below w'.heap.size w' w'') : B8 w x0 x1 x2 x3 x4 x5 x6 x7 w'' := ⟨h.b.trans (hb.mono h.b.size), h.x.below hb⟩
theorem B8.drew {w : World} {x0 x1 x2 x3 x4 x5 x6 x7 : Value} {w' : World} (h : B8 w x0 x1 x2 x3 x4 x5 x6 x7 w') : B8 w x0 x1 x2 x3 x4 x5 x6 x7 w'.drew := h.next (below_drewN (Below.refl _ w') 1)
theorem B8.new (w : World) (t : TypeId) (x0 x1 x2 x3 x4 x5 x6 x7 : Value) : B8 w x0 x1 x2 x3 x4 x5 x6 x7 (w.alloc (.cells #[x0, x1, x2, x3, x4, x5, x6, x7] t)) := ⟨(Below.refl _ w).alloc (Nat.le_refl _) _, R8.new w t x0 x1 x2 x3 x4 x5 x6 x7⟩
set_option maxHeartbeats 2000000 in
set_option maxRecDepth 1000000 in
theorem canBe_any (k : Int) (x : List UInt8) (ty n : Int) (s : ByteArray) (p a b : Int) (w : World) (hx : x.length ≤ 9223372036854775807) (hs : s.size ≤ 9223372036854775807) (hT : Tabs w) (hG : Sg w) :
    Calls Tryz.prog 32 #[.agg #[.int .i64 k, .string ⟨x.toArray⟩, .int .i64 ty, .int .i64 n, .string s, .int .i64 p, .int .i64 a, .int .i64 b]] w fun e w' => e = .returned (.bool (okT ⟨k, x, ⟨ty, n, s⟩, p, a, b⟩)) ∧ Below w.heap.size w w' := by
  have PL : Hid (∀ w, Calls Tryz.prog 12 #[.string ⟨x.toArray⟩] w fun e w' => e = .returned (.bool (plB x)) ∧ Below w.heap.size w w') := fun w => Plain_any' x w
  have NM : Hid (∀ w, Calls Tryz.prog 10 #[.string ⟨x.toArray⟩] w fun e w' => e = .returned (.bool (nmB x)) ∧ Below w.heap.size w w') := fun w => Name_any x w
  have SS : Hid (∀ w, Sg w → Calls Tryz.prog 54 #[.string ⟨x.toArray⟩] w fun e w' => e = .returned (.int .i64 (ssz x : Nat)) ∧ Below w.heap.size w w') := fun w h => signSize_any x w h
  have CL : Hid (∀ w, Tabs w → Calls Tryz.prog 53 #[.agg #[.int .i64 ty, .int .i64 n, .string s]] w fun e w' => e = .returned (.bool (cbL ty n s.data.toList)) ∧ Below w.heap.size w w') := fun w h => by
    have h1 := canBeLiteral_any ty n s.data.toList w (by rw [Array.length_toList]; exact hs) h
    rw [← bytes_of s] at h1
    exact h1
  have B0 : Hid (∀ o, Below w.heap.size w (w.alloc o)) := fun o => (Below.refl _ w).alloc (Nat.le_refl _) o
  have HT : Hid (Tabs w) := hT
  have HG : Hid (Sg w) := hG
  clear hT hG hs
  by_cases hk : k = 1
  · clear NM SS CL
    subst hk
    rw [show okT ⟨1, x, ⟨ty, n, s⟩, p, a, b⟩ = plB x from rfl]
    generalize plB x = B at *
    go_enter Tryz.func32, Tryz.ntmps32
    go_wp2_with fail
    refine (PL.out _).mono ?_
    rintro e w1 ⟨rfl, hb1⟩
    have B1 := (B0.out _).trans (hb1.mono (B0.out _).size)
    go_wp2_with fail
    go_ret
    exact ⟨rfl, B1⟩
  have b1 : (k == 1) = false := by rw [beq_eq_false_iff_ne]; exact hk
  have n1 := hk
  clear hk
  by_cases hk : k = 4
  · clear NM SS CL b1 n1
    subst hk
    rw [show okT ⟨4, x, ⟨ty, n, s⟩, p, a, b⟩ = plB x from rfl]
    generalize plB x = B at *
    go_enter Tryz.func32, Tryz.ntmps32
    go_wp2_with fail
    refine (PL.out _).mono ?_
    rintro e w1 ⟨rfl, hb1⟩
    have B1 := (B0.out _).trans (hb1.mono (B0.out _).size)
    go_wp2_with fail
    go_ret
    exact ⟨rfl, B1⟩
  have b4 : (k == 4) = false := by rw [beq_eq_false_iff_ne]; exact hk
  have n4 := hk
  clear hk PL
  by_cases hk : k = 2
  · clear SS CL b1 b4 n1 n4
    subst hk
    rw [show okT ⟨2, x, ⟨ty, n, s⟩, p, a, b⟩ = nmB x from rfl]
    generalize nmB x = B at *
    go_enter Tryz.func32, Tryz.ntmps32
    go_wp2_with fail
    refine (NM.out _).mono ?_
    rintro e w1 ⟨rfl, hb1⟩
    have B1 := (B0.out _).trans (hb1.mono (B0.out _).size)
    go_wp2_with fail
    go_ret
    exact ⟨rfl, B1⟩
  have b2 : (k == 2) = false := by rw [beq_eq_false_iff_ne]; exact hk
  have n2 := hk
  clear hk NM
  by_cases hk : k = 3
  · clear SS b1 b4 b2 n1 n4 n2
    subst hk
    rw [show okT ⟨3, x, ⟨ty, n, s⟩, p, a, b⟩ = cbL ty n s.data.toList from rfl]
    generalize cbL ty n s.data.toList = B at *
    go_enter Tryz.func32, Tryz.ntmps32
    go_wp2_with fail
    refine (CL.out _ (HT.out.below (B0.out _))).mono ?_
    rintro e w1 ⟨rfl, hb1⟩
    have B1 := (B0.out _).trans (hb1.mono (B0.out _).size)
    go_wp2_with fail
    go_ret
    exact ⟨rfl, B1⟩
  have b3 : (k == 3) = false := by rw [beq_eq_false_iff_ne]; exact hk
  have n3 := hk
  clear hk CL
  by_cases hk : k = 5
  · clear b1 b4 b2 b3 n1 n4 n2 n3
    subst hk
    rw [show okT ⟨5, x, ⟨ty, n, s⟩, p, a, b⟩ = (decide (x ≠ []) && decide (ssz x = x.length)) from rfl]
    have hz : (ByteArray.mk x.toArray).size = x.length := size_mk x
    by_cases h0 : x = []
    · subst h0
      show Calls _ _ _ _ fun e w' => e = .returned (.bool false) ∧ _
      clear SS hz hx
      have n0 := B8.new w 37 (.int .i64 5) (.string ⟨#[]⟩) (.int .i64 ty) (.int .i64 n) (.string s) (.int .i64 p) (.int .i64 a) (.int .i64 b)
      go_enter Tryz.func32, Tryz.ntmps32
      go_wp2_with fail
      generalize w.alloc (.cells #[.int .i64 5, .string ⟨#[]⟩, .int .i64 ty, .int .i64 n, .string s, .int .i64 p, .int .i64 a, .int .i64 b] 37) = w2 at *
      refine wp_region_noPanic ?_
      refine wp_region_held_drew (S := fun w' => B8 w (.int .i64 5) (.string ⟨#[]⟩) (.int .i64 ty) (.int .i64 n) (.string s) (.int .i64 p) (.int .i64 a) (.int .i64 b) w') (by kernel_rfl) (n0.drew) (fun hH => ?_)
      refine take_at (i := 0) (v := .pointer (some ⟨w.heap.size, 1, none⟩)) rfl rfl (by kernel_rfl) (by kernel_rfl) (by kernel_rfl) (fun _ _ _ h => h) (Or.inl ⟨by rfl, ?_⟩) hH ?_
      · intro w hSw; (try dsimp only at hSw); obtain ⟨_, a0, a1, a2, a3, a4, _, _, _, _, _, _, _, _, _, _, _⟩ := hSw.x; go_simp
      simp only [List.setIfInBounds_toArray, List.set_cons_zero, List.set_cons_succ]
      refine take_at (i := 1) (v := .string ⟨#[]⟩) rfl rfl (by kernel_rfl) (by kernel_rfl) (by kernel_rfl) (fun _ _ _ h => h) (Or.inl ⟨by rfl, ?_⟩) hH ?_
      · intro w hSw; (try dsimp only at hSw); obtain ⟨_, a0, a1, a2, a3, a4, _, _, _, _, _, _, _, _, _, _, _⟩ := hSw.x; go_simp
      simp only [List.setIfInBounds_toArray, List.set_cons_zero, List.set_cons_succ]
      refine take_at (i := 2) (v := .bool false) rfl rfl (by kernel_rfl) (by kernel_rfl) (by kernel_rfl) (fun _ _ _ h => h) (Or.inl ⟨by rfl, ?_⟩) hH ?_
      · intro w hSw; (try dsimp only at hSw); obtain ⟨_, a0, a1, a2, a3, a4, _, _, _, _, _, _, _, _, _, _, _⟩ := hSw.x; go_simp
      simp only [List.setIfInBounds_toArray, List.set_cons_zero, List.set_cons_succ]
      refine take_at (i := 3) (v := .bool false) rfl rfl (by kernel_rfl) (by kernel_rfl) (by kernel_rfl) (fun _ _ _ h => h) (Or.inl ⟨by rfl, ?_⟩) hH ?_
      · intro w hSw; (try dsimp only at hSw); obtain ⟨_, a0, a1, a2, a3, a4, _, _, _, _, _, _, _, _, _, _, _⟩ := hSw.x; go_simp
      simp only [List.setIfInBounds_toArray, List.set_cons_zero, List.set_cons_succ]
      refine take_at (i := 4) (v := undef) rfl rfl (by kernel_rfl) (by kernel_rfl) (by kernel_rfl) (fun _ _ _ h => h) (Or.inr ⟨by rfl, rfl⟩) hH ?_
      simp only [List.setIfInBounds_toArray, List.set_cons_zero, List.set_cons_succ]
      refine take_at (i := 5) (v := undef) rfl rfl (by kernel_rfl) (by kernel_rfl) (by kernel_rfl) (fun _ _ _ h => h) (Or.inr ⟨by rfl, rfl⟩) hH ?_
      simp only [List.setIfInBounds_toArray, List.set_cons_zero, List.set_cons_succ]
      refine take_at (i := 6) (v := undef) rfl rfl (by kernel_rfl) (by kernel_rfl) (by kernel_rfl) (fun _ _ _ h => h) (Or.inr ⟨by rfl, rfl⟩) hH ?_
      simp only [List.setIfInBounds_toArray, List.set_cons_zero, List.set_cons_succ]
      refine take_at (i := 7) (v := undef) rfl rfl (by kernel_rfl) (by kernel_rfl) (by kernel_rfl) (fun _ _ _ h => h) (Or.inr ⟨by rfl, rfl⟩) hH ?_
      simp only [List.setIfInBounds_toArray, List.set_cons_zero, List.set_cons_succ]
      refine take_at (i := 8) (v := undef) rfl rfl (by kernel_rfl) (by kernel_rfl) (by kernel_rfl) (fun _ _ _ h => h) (Or.inr ⟨by rfl, rfl⟩) hH ?_
      simp only [List.setIfInBounds_toArray, List.set_cons_zero, List.set_cons_succ]
      refine take_at (i := 9) (v := undef) rfl rfl (by kernel_rfl) (by kernel_rfl) (by kernel_rfl) (fun _ _ _ h => h) (Or.inr ⟨by rfl, rfl⟩) hH ?_
      simp only [List.setIfInBounds_toArray, List.set_cons_zero, List.set_cons_succ]
      refine take_at (i := 10) (v := undef) rfl rfl (by kernel_rfl) (by kernel_rfl) (by kernel_rfl) (fun _ _ _ h => h) (Or.inr ⟨by rfl, rfl⟩) hH ?_
      simp only [List.setIfInBounds_toArray, List.set_cons_zero, List.set_cons_succ]
      refine take_at (i := 11) (v := .bool false) rfl rfl (by kernel_rfl) (by kernel_rfl) (by kernel_rfl) (fun _ _ _ h => h) (Or.inl ⟨by rfl, ?_⟩) hH ?_
      · intro w hSw; (try dsimp only at hSw); obtain ⟨_, a0, a1, a2, a3, a4, _, _, _, _, _, _, _, _, _, _, _⟩ := hSw.x; go_simp
      simp only [List.setIfInBounds_toArray, List.set_cons_zero, List.set_cons_succ]
      refine take_at (i := 12) (v := .bool false) rfl rfl (by kernel_rfl) (by kernel_rfl) (by kernel_rfl) (fun _ _ _ h => h) (Or.inl ⟨by rfl, ?_⟩) hH ?_
      · intro w hSw; (try dsimp only at hSw); obtain ⟨_, a0, a1, a2, a3, a4, _, _, _, _, _, _, _, _, _, _, _⟩ := hSw.x; go_simp
      simp only [List.setIfInBounds_toArray, List.set_cons_zero, List.set_cons_succ]
      refine wpAnyH_done (by kernel_rfl) ?_ _
      refine NoPanic.normal ?_
      have B9 := hH.b
      go_wp2_with fail
      go_ret
      exact ⟨rfl, B9⟩
    · have hnb : (x == ([] : List UInt8)) = false := by rw [beq_eq_false_iff_ne]; exact h0
      have hxi : (x.length : Int) ≤ 9223372036854775807 := by omega
      by_cases he : ssz x = x.length
      · rw [decide_eq_true h0, decide_eq_true he]
        show Calls _ _ _ _ fun e w' => e = .returned (.bool true) ∧ _
        have hq : ((ssz x : Int) == (x.length : Int)) = true := by rw [he]; simp
        clear he h0
        have n0 := B8.new w 37 (.int .i64 5) (.string ⟨x.toArray⟩) (.int .i64 ty) (.int .i64 n) (.string s) (.int .i64 p) (.int .i64 a) (.int .i64 b)
        go_enter Tryz.func32, Tryz.ntmps32
        go_wp2_with fail
        generalize w.alloc (.cells #[.int .i64 5, .string ⟨x.toArray⟩, .int .i64 ty, .int .i64 n, .string s, .int .i64 p, .int .i64 a, .int .i64 b] 37) = w2 at *
        refine wp_region_noPanic ?_
        refine wp_region_held_drew (S := fun w' => B8 w (.int .i64 5) (.string ⟨x.toArray⟩) (.int .i64 ty) (.int .i64 n) (.string s) (.int .i64 p) (.int .i64 a) (.int .i64 b) w') (by kernel_rfl) (n0.drew) (fun hH => ?_)
        refine take_at (i := 0) (v := .pointer (some ⟨w.heap.size, 1, none⟩)) rfl rfl (by kernel_rfl) (by kernel_rfl) (by kernel_rfl) (fun _ _ _ h => h) (Or.inl ⟨by rfl, ?_⟩) hH ?_
        · intro w hSw; (try dsimp only at hSw); obtain ⟨_, a0, a1, a2, a3, a4, _, _, _, _, _, _, _, _, _, _, _⟩ := hSw.x; go_simp
        simp only [List.setIfInBounds_toArray, List.set_cons_zero, List.set_cons_succ]
        refine take_at (i := 1) (v := .string ⟨x.toArray⟩) rfl rfl (by kernel_rfl) (by kernel_rfl) (by kernel_rfl) (fun _ _ _ h => h) (Or.inl ⟨by rfl, ?_⟩) hH ?_
        · intro w hSw; (try dsimp only at hSw); obtain ⟨_, a0, a1, a2, a3, a4, _, _, _, _, _, _, _, _, _, _, _⟩ := hSw.x; go_simp
        simp only [List.setIfInBounds_toArray, List.set_cons_zero, List.set_cons_succ]
        refine take_at (i := 2) (v := .bool true) rfl rfl (by kernel_rfl) (by kernel_rfl) (by kernel_rfl) (fun _ _ _ h => h) (Or.inl ⟨by rfl, ?_⟩) hH ?_
        · intro w hSw; (try dsimp only at hSw); obtain ⟨_, a0, a1, a2, a3, a4, _, _, _, _, _, _, _, _, _, _, _⟩ := hSw.x; go_simp
        simp only [List.setIfInBounds_toArray, List.set_cons_zero, List.set_cons_succ]
        refine take_at (i := 3) (v := .bool true) rfl rfl (by kernel_rfl) (by kernel_rfl) (by kernel_rfl) (fun _ _ _ h => h) (Or.inl ⟨by rfl, ?_⟩) hH ?_
        · intro w hSw; (try dsimp only at hSw); obtain ⟨_, a0, a1, a2, a3, a4, _, _, _, _, _, _, _, _, _, _, _⟩ := hSw.x; go_simp
        simp only [List.setIfInBounds_toArray, List.set_cons_zero, List.set_cons_succ]
        refine take_at (i := 4) (v := .pointer (some ⟨w.heap.size, 1, none⟩)) rfl rfl (by kernel_rfl) (by kernel_rfl) (by kernel_rfl) (fun _ _ _ h => h) (Or.inl ⟨by rfl, ?_⟩) hH ?_
        · intro w hSw; (try dsimp only at hSw); obtain ⟨_, a0, a1, a2, a3, a4, _, _, _, _, _, _, _, _, _, _, _⟩ := hSw.x; go_simp
        simp only [List.setIfInBounds_toArray, List.set_cons_zero, List.set_cons_succ]
        refine take_at (i := 5) (v := .string ⟨x.toArray⟩) rfl rfl (by kernel_rfl) (by kernel_rfl) (by kernel_rfl) (fun _ _ _ h => h) (Or.inl ⟨by rfl, ?_⟩) hH ?_
        · intro w hSw; (try dsimp only at hSw); obtain ⟨_, a0, a1, a2, a3, a4, _, _, _, _, _, _, _, _, _, _, _⟩ := hSw.x; go_simp
        simp only [List.setIfInBounds_toArray, List.set_cons_zero, List.set_cons_succ]
        refine take_at (i := 7) (v := .pointer (some ⟨w.heap.size, 1, none⟩)) rfl rfl (by kernel_rfl) (by kernel_rfl) (by kernel_rfl) (fun _ _ _ h => h) (Or.inl ⟨by rfl, ?_⟩) hH ?_
        · intro w hSw; (try dsimp only at hSw); obtain ⟨_, a0, a1, a2, a3, a4, _, _, _, _, _, _, _, _, _, _, _⟩ := hSw.x; go_simp
        simp only [List.setIfInBounds_toArray, List.set_cons_zero, List.set_cons_succ]
        refine take_at (i := 8) (v := .string ⟨x.toArray⟩) rfl rfl (by kernel_rfl) (by kernel_rfl) (by kernel_rfl) (fun _ _ _ h => h) (Or.inl ⟨by rfl, ?_⟩) hH ?_
        · intro w hSw; (try dsimp only at hSw); obtain ⟨_, a0, a1, a2, a3, a4, _, _, _, _, _, _, _, _, _, _, _⟩ := hSw.x; go_simp
        simp only [List.setIfInBounds_toArray, List.set_cons_zero, List.set_cons_succ]
        refine take_at (i := 9) (v := .int .i64 (x.length : Nat)) rfl rfl (by kernel_rfl) (by kernel_rfl) (by kernel_rfl) (fun _ _ _ h => h) (Or.inl ⟨by rfl, ?_⟩) hH ?_
        · intro w hSw; (try dsimp only at hSw); obtain ⟨_, a0, a1, a2, a3, a4, _, _, _, _, _, _, _, _, _, _, _⟩ := hSw.x; go_simp
        simp only [List.setIfInBounds_toArray, List.set_cons_zero, List.set_cons_succ]
        refine wpAnyH_ready (rs := [6]) (by kernel_rfl) (by simp) ?_
        refine AllReadyH.cons rfl (fun K hK => ?_) AllReadyH.nil
        go_simp
        go_at_call 54
        refine (SS.out _ (HG.out.below hH.b)).mono ?_
        rintro e w3 ⟨rfl, hb3⟩
        go_wp2_with fail
        refine hK.out _ _ (hH.next hb3) (fun hH3 => ?_)
        clear hK K
        clear hH
        refine take_at (i := 10) (v := .bool true) rfl rfl (by kernel_rfl) (by kernel_rfl) (by kernel_rfl) (fun _ _ _ h => h) (Or.inl ⟨by rfl, ?_⟩) hH3 ?_
        · intro w hSw; (try dsimp only at hSw); obtain ⟨_, a0, a1, a2, a3, a4, _, _, _, _, _, _, _, _, _, _, _⟩ := hSw.x; go_simp
        simp only [List.setIfInBounds_toArray, List.set_cons_zero, List.set_cons_succ]
        refine take_at (i := 11) (v := .bool true) rfl rfl (by kernel_rfl) (by kernel_rfl) (by kernel_rfl) (fun _ _ _ h => h) (Or.inl ⟨by rfl, ?_⟩) hH3 ?_
        · intro w hSw; (try dsimp only at hSw); obtain ⟨_, a0, a1, a2, a3, a4, _, _, _, _, _, _, _, _, _, _, _⟩ := hSw.x; go_simp
        simp only [List.setIfInBounds_toArray, List.set_cons_zero, List.set_cons_succ]
        refine take_at (i := 12) (v := .bool true) rfl rfl (by kernel_rfl) (by kernel_rfl) (by kernel_rfl) (fun _ _ _ h => h) (Or.inl ⟨by rfl, ?_⟩) hH3 ?_
        · intro w hSw; (try dsimp only at hSw); obtain ⟨_, a0, a1, a2, a3, a4, _, _, _, _, _, _, _, _, _, _, _⟩ := hSw.x; go_simp
        simp only [List.setIfInBounds_toArray, List.set_cons_zero, List.set_cons_succ]
        refine wpAnyH_done (by kernel_rfl) ?_ _
        refine NoPanic.normal ?_
        have B9 := hH3.b
        go_wp2_with fail
        go_ret
        exact ⟨rfl, B9⟩
      · rw [decide_eq_true h0, decide_eq_false he]
        show Calls _ _ _ _ fun e w' => e = .returned (.bool false) ∧ _
        have hq : ((ssz x : Int) == (x.length : Int)) = false := by rw [beq_eq_false_iff_ne]; omega
        clear he h0
        have n0 := B8.new w 37 (.int .i64 5) (.string ⟨x.toArray⟩) (.int .i64 ty) (.int .i64 n) (.string s) (.int .i64 p) (.int .i64 a) (.int .i64 b)
        go_enter Tryz.func32, Tryz.ntmps32
        go_wp2_with fail
        generalize w.alloc (.cells #[.int .i64 5, .string ⟨x.toArray⟩, .int .i64 ty, .int .i64 n, .string s, .int .i64 p, .int .i64 a, .int .i64 b] 37) = w2 at *
        refine wp_region_noPanic ?_
        refine wp_region_held_drew (S := fun w' => B8 w (.int .i64 5) (.string ⟨x.toArray⟩) (.int .i64 ty) (.int .i64 n) (.string s) (.int .i64 p) (.int .i64 a) (.int .i64 b) w') (by kernel_rfl) (n0.drew) (fun hH => ?_)
        refine take_at (i := 0) (v := .pointer (some ⟨w.heap.size, 1, none⟩)) rfl rfl (by kernel_rfl) (by kernel_rfl) (by kernel_rfl) (fun _ _ _ h => h) (Or.inl ⟨by rfl, ?_⟩) hH ?_
        · intro w hSw; (try dsimp only at hSw); obtain ⟨_, a0, a1, a2, a3, a4, _, _, _, _, _, _, _, _, _, _, _⟩ := hSw.x; go_simp
        simp only [List.setIfInBounds_toArray, List.set_cons_zero, List.set_cons_succ]
        refine take_at (i := 1) (v := .string ⟨x.toArray⟩) rfl rfl (by kernel_rfl) (by kernel_rfl) (by kernel_rfl) (fun _ _ _ h => h) (Or.inl ⟨by rfl, ?_⟩) hH ?_
        · intro w hSw; (try dsimp only at hSw); obtain ⟨_, a0, a1, a2, a3, a4, _, _, _, _, _, _, _, _, _, _, _⟩ := hSw.x; go_simp
        simp only [List.setIfInBounds_toArray, List.set_cons_zero, List.set_cons_succ]
        refine take_at (i := 2) (v := .bool true) rfl rfl (by kernel_rfl) (by kernel_rfl) (by kernel_rfl) (fun _ _ _ h => h) (Or.inl ⟨by rfl, ?_⟩) hH ?_
        · intro w hSw; (try dsimp only at hSw); obtain ⟨_, a0, a1, a2, a3, a4, _, _, _, _, _, _, _, _, _, _, _⟩ := hSw.x; go_simp
        simp only [List.setIfInBounds_toArray, List.set_cons_zero, List.set_cons_succ]
        refine take_at (i := 3) (v := .bool true) rfl rfl (by kernel_rfl) (by kernel_rfl) (by kernel_rfl) (fun _ _ _ h => h) (Or.inl ⟨by rfl, ?_⟩) hH ?_
        · intro w hSw; (try dsimp only at hSw); obtain ⟨_, a0, a1, a2, a3, a4, _, _, _, _, _, _, _, _, _, _, _⟩ := hSw.x; go_simp
        simp only [List.setIfInBounds_toArray, List.set_cons_zero, List.set_cons_succ]
        refine take_at (i := 4) (v := .pointer (some ⟨w.heap.size, 1, none⟩)) rfl rfl (by kernel_rfl) (by kernel_rfl) (by kernel_rfl) (fun _ _ _ h => h) (Or.inl ⟨by rfl, ?_⟩) hH ?_
        · intro w hSw; (try dsimp only at hSw); obtain ⟨_, a0, a1, a2, a3, a4, _, _, _, _, _, _, _, _, _, _, _⟩ := hSw.x; go_simp
        simp only [List.setIfInBounds_toArray, List.set_cons_zero, List.set_cons_succ]
        refine take_at (i := 5) (v := .string ⟨x.toArray⟩) rfl rfl (by kernel_rfl) (by kernel_rfl) (by kernel_rfl) (fun _ _ _ h => h) (Or.inl ⟨by rfl, ?_⟩) hH ?_
        · intro w hSw; (try dsimp only at hSw); obtain ⟨_, a0, a1, a2, a3, a4, _, _, _, _, _, _, _, _, _, _, _⟩ := hSw.x; go_simp
        simp only [List.setIfInBounds_toArray, List.set_cons_zero, List.set_cons_succ]
        refine take_at (i := 7) (v := .pointer (some ⟨w.heap.size, 1, none⟩)) rfl rfl (by kernel_rfl) (by kernel_rfl) (by kernel_rfl) (fun _ _ _ h => h) (Or.inl ⟨by rfl, ?_⟩) hH ?_
        · intro w hSw; (try dsimp only at hSw); obtain ⟨_, a0, a1, a2, a3, a4, _, _, _, _, _, _, _, _, _, _, _⟩ := hSw.x; go_simp
        simp only [List.setIfInBounds_toArray, List.set_cons_zero, List.set_cons_succ]
        refine take_at (i := 8) (v := .string ⟨x.toArray⟩) rfl rfl (by kernel_rfl) (by kernel_rfl) (by kernel_rfl) (fun _ _ _ h => h) (Or.inl ⟨by rfl, ?_⟩) hH ?_
        · intro w hSw; (try dsimp only at hSw); obtain ⟨_, a0, a1, a2, a3, a4, _, _, _, _, _, _, _, _, _, _, _⟩ := hSw.x; go_simp
        simp only [List.setIfInBounds_toArray, List.set_cons_zero, List.set_cons_succ]
        refine take_at (i := 9) (v := .int .i64 (x.length : Nat)) rfl rfl (by kernel_rfl) (by kernel_rfl) (by kernel_rfl) (fun _ _ _ h => h) (Or.inl ⟨by rfl, ?_⟩) hH ?_
        · intro w hSw; (try dsimp only at hSw); obtain ⟨_, a0, a1, a2, a3, a4, _, _, _, _, _, _, _, _, _, _, _⟩ := hSw.x; go_simp
        simp only [List.setIfInBounds_toArray, List.set_cons_zero, List.set_cons_succ]
        refine wpAnyH_ready (rs := [6]) (by kernel_rfl) (by simp) ?_
        refine AllReadyH.cons rfl (fun K hK => ?_) AllReadyH.nil
        go_simp
        go_at_call 54
        refine (SS.out _ (HG.out.below hH.b)).mono ?_
        rintro e w3 ⟨rfl, hb3⟩
        go_wp2_with fail
        refine hK.out _ _ (hH.next hb3) (fun hH3 => ?_)
        clear hK K
        clear hH
        refine take_at (i := 10) (v := .bool false) rfl rfl (by kernel_rfl) (by kernel_rfl) (by kernel_rfl) (fun _ _ _ h => h) (Or.inl ⟨by rfl, ?_⟩) hH3 ?_
        · intro w hSw; (try dsimp only at hSw); obtain ⟨_, a0, a1, a2, a3, a4, _, _, _, _, _, _, _, _, _, _, _⟩ := hSw.x; go_simp
        simp only [List.setIfInBounds_toArray, List.set_cons_zero, List.set_cons_succ]
        refine take_at (i := 11) (v := .bool false) rfl rfl (by kernel_rfl) (by kernel_rfl) (by kernel_rfl) (fun _ _ _ h => h) (Or.inl ⟨by rfl, ?_⟩) hH3 ?_
        · intro w hSw; (try dsimp only at hSw); obtain ⟨_, a0, a1, a2, a3, a4, _, _, _, _, _, _, _, _, _, _, _⟩ := hSw.x; go_simp
        simp only [List.setIfInBounds_toArray, List.set_cons_zero, List.set_cons_succ]
        refine take_at (i := 12) (v := .bool false) rfl rfl (by kernel_rfl) (by kernel_rfl) (by kernel_rfl) (fun _ _ _ h => h) (Or.inl ⟨by rfl, ?_⟩) hH3 ?_
        · intro w hSw; (try dsimp only at hSw); obtain ⟨_, a0, a1, a2, a3, a4, _, _, _, _, _, _, _, _, _, _, _⟩ := hSw.x; go_simp
        simp only [List.setIfInBounds_toArray, List.set_cons_zero, List.set_cons_succ]
        refine wpAnyH_done (by kernel_rfl) ?_ _
        refine NoPanic.normal ?_
        have B9 := hH3.b
        go_wp2_with fail
        go_ret
        exact ⟨rfl, B9⟩
  have b5 : (k == 5) = false := by rw [beq_eq_false_iff_ne]; exact hk
  have e : okT ⟨k, x, ⟨ty, n, s⟩, p, a, b⟩ = false := by
    show (if k = 1 ∨ k = 4 then _ else if k = 2 then _ else if k = 3 then _ else if k = 5 then _ else false) = false
    rw [if_neg (fun h => h.elim n1 n4), if_neg n2, if_neg n3, if_neg hk]
  rw [e]
  clear hk SS n1 n2 n3 n4 e
  go_enter Tryz.func32, Tryz.ntmps32
  go_wp2_with fail
  go_ret
  exact ⟨rfl, B0.out _⟩
set_option maxHeartbeats 2000000 in
set_option maxRecDepth 1000000 in
theorem printToken_any (k : Int) (x : List UInt8) (ty n : Int) (s : ByteArray) (p a b : Int) (w : World) (hok : okT ⟨k, x, ⟨ty, n, s⟩, p, a, b⟩ = true) (hn : fit n) (hs : s.size ≤ 9223372036854775807) (hW : LxW w) (hP : Pow w) :
    Calls Tryz.prog 33 #[.agg #[.int .i64 k, .string ⟨x.toArray⟩, .int .i64 ty, .int .i64 n, .string s, .int .i64 p, .int .i64 a, .int .i64 b]] w fun e w' => e = .returned (.string ⟨(pnT ⟨k, x, ⟨ty, n, s⟩, p, a, b⟩).toArray⟩) ∧ Below w.heap.size w w' := by
  have B0 : Hid (∀ o, Below w.heap.size w (w.alloc o)) := fun o => (Below.refl _ w).alloc (Nat.le_refl _) o
  have HW : Hid (LxW w) := hW
  have HP : Hid (Pow w) := hP
  clear hW hP
  by_cases hk : k = 2
  · subst hk
    have hl := nm_len (show nmB x = true from hok)
    rw [show pnT ⟨2, x, ⟨ty, n, s⟩, p, a, b⟩ = 34 :: (qdq x ++ [34]) from rfl]
    have IQ : Hid (∀ w, Mx w → Calls Tryz.prog 24 #[.string ⟨x.toArray⟩] w fun e w' => e = .returned (.string ⟨(34 :: (qdq x ++ [34])).toArray⟩) ∧ Below w.heap.size w w') := fun w h => inQuotes_any x w hl h
    generalize 34 :: (qdq x ++ [34]) = U at *
    clear hok
    go_enter Tryz.func33, Tryz.ntmps33
    go_wp2_with fail
    refine (IQ.out _ (HW.out.m.below (B0.out _))).mono ?_
    rintro e w1 ⟨rfl, hb1⟩
    have B1 := (B0.out _).trans (hb1.mono (B0.out _).size)
    go_wp2_with fail
    go_ret
    exact ⟨rfl, B1⟩
  have b2 : (k == 2) = false := by rw [beq_eq_false_iff_ne]; exact hk
  by_cases hk3 : k = 3
  · subst hk3
    have hc : chk ty n s = 0 := by
      have h1 : cbL ty n s.data.toList = true := hok
      unfold cbL at h1
      rw [Bool.and_eq_true, decide_eq_true_eq, ← bytes_of s] at h1
      exact h1.1
    rw [show pnT ⟨3, x, ⟨ty, n, s⟩, p, a, b⟩ = prV ty n s from rfl]
    have PR : Hid (∀ w, Tabs w → Pow w → Mx w → Calls Tryz.prog 55 #[.agg #[.int .i64 ty, .int .i64 n, .string s]] w fun e w' => e = .returned (.tuple #[.string ⟨(prV ty n s).toArray⟩, .int .i64 0]) ∧ Below w.heap.size w w') := fun w h1 h2 h3 => by
      have h := Print_any ty n s w hn hs h1 h2 h3
      rw [show pvV ty n s = .tuple #[.string ⟨(prV ty n s).toArray⟩, .int .i64 0] from if_pos hc] at h
      exact h
    generalize prV ty n s = U at *
    clear hok hc hk hn hs b2
    go_enter Tryz.func33, Tryz.ntmps33
    go_wp2_with fail
    refine (PR.out _ (HW.out.t.below (B0.out _)) (HP.out.below (B0.out _)) (HW.out.m.below (B0.out _))).mono ?_
    rintro e w1 ⟨rfl, hb1⟩
    have B1 := (B0.out _).trans (hb1.mono (B0.out _).size)
    go_wp2_with fail
    go_ret
    exact ⟨rfl, B1⟩
  have b3 : (k == 3) = false := by rw [beq_eq_false_iff_ne]; exact hk3
  by_cases hk4 : k = 4
  · subst hk4
    have hl : x.length ≤ 32 := by
      obtain ⟨_, _, _, _, _, hl, _⟩ := pl_open (show plB x = true from hok)
      exact hl
    rw [show pnT ⟨4, x, ⟨ty, n, s⟩, p, a, b⟩ = 58 :: x from rfl]
    have hz : (ByteArray.mk x.toArray).size = x.length := size_mk x
    have z1 : ByteArray.mk #[58] ++ ByteArray.mk x.toArray = ByteArray.mk (58 :: x).toArray := add_mk [58] x
    have z3 : 1 + x.length ≤ 9223372036854775807 := by omega
    have z4 : (x.length : Int) ≤ 32 := by omega
    generalize 58 :: x = U at *
    clear hok hk hk3 b2 b3
    go_enter Tryz.func33, Tryz.ntmps33
    go_wp2_with fail
    go_ret
    exact ⟨rfl, B0.out _⟩
  have b4 : (k == 4) = false := by rw [beq_eq_false_iff_ne]; exact hk4
  have e : pnT ⟨k, x, ⟨ty, n, s⟩, p, a, b⟩ = x := by
    show (if k = 2 then _ else if k = 3 then _ else if k = 4 then _ else x) = x
    rw [if_neg hk, if_neg hk3, if_neg hk4]
  rw [e]
  clear e hok hk hk3 hk4
  go_enter Tryz.func33, Tryz.ntmps33
  go_wp2_with fail
  go_ret
  exact ⟨rfl, B0.out _⟩
end Go.Proofs.YtfcolecglobcdaaGreatDoor
