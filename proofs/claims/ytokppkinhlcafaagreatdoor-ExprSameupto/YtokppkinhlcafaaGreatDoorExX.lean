/-
  The type of a + 2.
-/
import Derived.Test.YtokppkinhlcafaaGreatDoorExW
namespace Go.Proofs.YtokppkinhlcafaaGreatDoor
open Go.RowKit Go.Joins
set_option maxRecDepth 100000

set_option maxHeartbeats 4000000 in
set_option maxRecDepth 1000000 in
theorem isType_one (w : World) : Calls Tryz.prog 79 #[.int .i64 1] w fun e w' => e = .returned (.bool true) ∧ w' = w := by
  go_enter Tryz.func79, Tryz.ntmps79
  go_wp2_with fail
  go_ret
  exact ⟨rfl, rfl⟩
set_option maxHeartbeats 4000000 in
set_option maxRecDepth 1000000 in
theorem declared_A (w : World) (p : Value) : Calls Tryz.prog 59 #[p, .agg #[.string ⟨#[116]⟩, .string ⟨#[97]⟩, .int .i64 1]] w fun e w' => e = .returned (.int .i64 1) ∧ Below w.heap.size w w' := by
  have IT := mkHid (fun w => isType_one w)
  go_enter Tryz.func59, Tryz.ntmps59
  go_wp2_with (go_at_call 79; refine (IT.out _).mono ?_; rintro e w1 ⟨rfl, rfl⟩)
  go_ret
  exact ⟨rfl, (Below.refl _ w).alloc (Nat.le_refl _) _⟩
theorem make4 (w : World) : (Instr.makeSlice 75 (.int .i64 0) (.int .i64 4)).run Tryz.prog w = .ok (.slice (some ⟨w.heap.size, 0, none⟩) 0 4) (w.alloc (.cells #[.int .i64 0, .int .i64 0, .int .i64 0, .int .i64 0] 3)) := by kernel_rfl
set_option maxHeartbeats 4000000 in
set_option maxRecDepth 1000000 in
theorem typeOf_A (pe gP gC gR sp : Nat) (w : World) (h : LvW w pe gP gC gR sp) : Calls Tryz.prog 41 #[.pointer (some ⟨gP, 0, none⟩), .pointer (some ⟨sp, 0, none⟩)] w fun e w' => e = .returned (.int .i64 1) ∧ Below w.heap.size w w' := by
  have hms := make4
  obtain ⟨W, hW⟩ : ∃ W, W = w.alloc (.cells #[.int .i64 0, .int .i64 0, .int .i64 0, .int .i64 0] 3) := ⟨_, rfl⟩
  have bW : Below w.heap.size w W := by rw [hW]; exact (Below.refl _ w).alloc (Nat.le_refl _) _
  have H := mkHid (h.below bW)
  have BW := mkHid bW
  have HW := mkHid hW
  obtain ⟨_, _, _, _, _, _, _, _, _, a0, a1, a2, a3, a4, a5, a6, a7, a8, _, _, _, _, _, _, _, _, _, _, _, _, _, _, _, _, _⟩ := h.below bW
  rw [hW] at a0 a1 a2 a3 a4 a5 a6 a7 a8
  clear h bW hW
  go_enter Tryz.func41, Tryz.ntmps41
  go_wp2_with fail
  go_loopw [13] (fun s13 wr => s13 = .int .i64 0 ∧ wr = w.alloc (.cells #[.int .i64 0, .int .i64 0, .int .i64 0, .int .i64 0] 3)) (fun _ _ => 0)
  case atStart => exact ⟨rfl, rfl⟩
  case round =>
    obtain ⟨rfl, rfl⟩ := hrel
    rw [← HW.out] at *
    have CO : Hid (∀ w', LvW w' pe gP gC gR sp → Calls Tryz.prog 44 #[.pointer (some ⟨gP, 0, none⟩), .pointer (some ⟨sp, 0, none⟩)] w' fun e w'' => e = .returned (.int .i64 0) ∧ Below w'.heap.size w' w'') := fun w' h => column_A pe gP gC gR sp w' h
    have DE := mkHid (fun w => declared_A w (.pointer (some ⟨gP, 0, none⟩)))
    go_wp2_with fail
    refine wp_region_noPanic ?_
    refine wp_region_held_drew (S := fun w' => LvW w' pe gP gC gR sp ∧ Below W.heap.size W w') (by kernel_rfl) ⟨H.out.drew, (Below.refl _ _).drew⟩ (fun hH => ?_)
    refine take_at (i := 0) (v := .pointer (some ⟨gP, 0, none⟩)) rfl rfl (by kernel_rfl) (by kernel_rfl) (by kernel_rfl) (fun _ _ _ h => h) (Or.inl ⟨by rfl, ?_⟩) hH ?_
    · intro w5 hSw; obtain ⟨hL, _⟩ := hSw; obtain ⟨_, _, _, _, _, _, _, _, _, a0, a1, a2, a3, a4, a5, a6, a7, a8, _, _, _, _, _, _, _, _, _, s0, _, k0, k1, k2, _, _, _⟩ := hL; go_simp
    simp only [List.setIfInBounds_toArray, List.set_cons_zero, List.set_cons_succ]
    refine take_at (i := 1) (v := .pointer (some ⟨sp, 0, none⟩)) rfl rfl (by kernel_rfl) (by kernel_rfl) (by kernel_rfl) (fun _ _ _ h => h) (Or.inl ⟨by rfl, ?_⟩) hH ?_
    · intro w5 hSw; obtain ⟨hL, _⟩ := hSw; obtain ⟨_, _, _, _, _, _, _, _, _, a0, a1, a2, a3, a4, a5, a6, a7, a8, _, _, _, _, _, _, _, _, _, s0, _, k0, k1, k2, _, _, _⟩ := hL; go_simp
    simp only [List.setIfInBounds_toArray, List.set_cons_zero, List.set_cons_succ]
    refine take_at (i := 2) (v := .pointer (some ⟨sp, 0, none⟩)) rfl rfl (by kernel_rfl) (by kernel_rfl) (by kernel_rfl) (fun _ _ _ h => h) (Or.inl ⟨by rfl, ?_⟩) hH ?_
    · intro w5 hSw; obtain ⟨hL, _⟩ := hSw; obtain ⟨_, _, _, _, _, _, _, _, _, a0, a1, a2, a3, a4, a5, a6, a7, a8, _, _, _, _, _, _, _, _, _, s0, _, k0, k1, k2, _, _, _⟩ := hL; go_simp
    simp only [List.setIfInBounds_toArray, List.set_cons_zero, List.set_cons_succ]
    refine take_at (i := 3) (v := .pointer (some ⟨sp, 0, none⟩)) rfl rfl (by kernel_rfl) (by kernel_rfl) (by kernel_rfl) (fun _ _ _ h => h) (Or.inl ⟨by rfl, ?_⟩) hH ?_
    · intro w5 hSw; obtain ⟨hL, _⟩ := hSw; obtain ⟨_, _, _, _, _, _, _, _, _, a0, a1, a2, a3, a4, a5, a6, a7, a8, _, _, _, _, _, _, _, _, _, s0, _, k0, k1, k2, _, _, _⟩ := hL; go_simp
    simp only [List.setIfInBounds_toArray, List.set_cons_zero, List.set_cons_succ]
    refine take_at (i := 4) (v := .slice (some ⟨gC, 0, none⟩) 1 1) rfl rfl (by kernel_rfl) (by kernel_rfl) (by kernel_rfl) (fun _ _ _ h => h) (Or.inl ⟨by rfl, ?_⟩) hH ?_
    · intro w5 hSw; obtain ⟨hL, _⟩ := hSw; obtain ⟨_, _, _, _, _, _, _, _, _, a0, a1, a2, a3, a4, a5, a6, a7, a8, _, _, _, _, _, _, _, _, _, s0, _, k0, k1, k2, _, _, _⟩ := hL; go_simp
    simp only [List.setIfInBounds_toArray, List.set_cons_zero, List.set_cons_succ]
    refine take_at (i := 5) (v := .pointer (some ⟨gP, 0, none⟩)) rfl rfl (by kernel_rfl) (by kernel_rfl) (by kernel_rfl) (fun _ _ _ h => h) (Or.inl ⟨by rfl, ?_⟩) hH ?_
    · intro w5 hSw; obtain ⟨hL, _⟩ := hSw; obtain ⟨_, _, _, _, _, _, _, _, _, a0, a1, a2, a3, a4, a5, a6, a7, a8, _, _, _, _, _, _, _, _, _, s0, _, k0, k1, k2, _, _, _⟩ := hL; go_simp
    simp only [List.setIfInBounds_toArray, List.set_cons_zero, List.set_cons_succ]
    refine take_at (i := 6) (v := .pointer (some ⟨sp, 0, none⟩)) rfl rfl (by kernel_rfl) (by kernel_rfl) (by kernel_rfl) (fun _ _ _ h => h) (Or.inl ⟨by rfl, ?_⟩) hH ?_
    · intro w5 hSw; obtain ⟨hL, _⟩ := hSw; obtain ⟨_, _, _, _, _, _, _, _, _, a0, a1, a2, a3, a4, a5, a6, a7, a8, _, _, _, _, _, _, _, _, _, s0, _, k0, k1, k2, _, _, _⟩ := hL; go_simp
    simp only [List.setIfInBounds_toArray, List.set_cons_zero, List.set_cons_succ]
    refine wpAnyH_ready (rs := [7]) (by kernel_rfl) (by simp) ?_
    refine AllReadyH.cons rfl (fun K hK => ?_) AllReadyH.nil
    go_simp
    go_at_call 44
    refine (CO.out _ H.out.drew).mono ?_
    rintro e w1 ⟨rfl, hb1⟩
    have H1 := mkHid (H.out.drew.below hb1)
    have B1 : Below W.heap.size W w1 := (Below.refl _ W).drew.trans (hb1.mono (Nat.le_refl _))
    clear hb1
    go_wp2_with fail
    refine hK.out _ _ ⟨H1.out, B1⟩ (fun hH => ?_)
    clear hK K
    refine take_at (i := 8) (v := .pointer (some ⟨gC, 0, none⟩)) rfl rfl (by kernel_rfl) (by kernel_rfl) (by kernel_rfl) (fun _ _ _ h => h) (Or.inl ⟨by rfl, ?_⟩) hH ?_
    · intro w5 hSw; obtain ⟨hL, _⟩ := hSw; obtain ⟨_, _, _, _, _, _, _, _, _, a0, a1, a2, a3, a4, a5, a6, a7, a8, _, _, _, _, _, _, _, _, _, s0, _, k0, k1, k2, _, _, _⟩ := hL; go_simp
    simp only [List.setIfInBounds_toArray, List.set_cons_zero, List.set_cons_succ]
    refine take_at (i := 9) (v := .agg #[.string ⟨#[116]⟩, .string ⟨#[97]⟩, .int .i64 1]) rfl rfl (by kernel_rfl) (by kernel_rfl) (by kernel_rfl) (fun _ _ _ h => h) (Or.inl ⟨by rfl, ?_⟩) hH ?_
    · intro w5 hSw; obtain ⟨hL, _⟩ := hSw; obtain ⟨_, _, _, _, _, _, _, _, _, a0, a1, a2, a3, a4, a5, a6, a7, a8, _, _, _, _, _, _, _, _, _, s0, _, k0, k1, k2, _, _, _⟩ := hL; go_simp
    simp only [List.setIfInBounds_toArray, List.set_cons_zero, List.set_cons_succ]
    refine wpAnyH_ready (rs := [10]) (by kernel_rfl) (by simp) ?_
    refine AllReadyH.cons rfl (fun K hK => ?_) AllReadyH.nil
    go_simp
    go_at_call 59
    refine (DE.out _).mono ?_
    rintro e w2 ⟨rfl, hb2⟩
    have H2 := mkHid (H1.out.below hb2)
    have B2 : Below W.heap.size W w2 := B1.trans (hb2.mono B1.size)
    clear hb2
    go_wp2_with fail
    refine hK.out _ _ ⟨H2.out, B2⟩ (fun hH => ?_)
    clear hK K
    refine take_at (i := 11) (v := .int .i64 1) rfl rfl (by kernel_rfl) (by kernel_rfl) (by kernel_rfl) (fun _ _ _ h => h) (Or.inl ⟨by rfl, ?_⟩) hH ?_
    · intro w5 hSw; obtain ⟨hL, _⟩ := hSw; obtain ⟨_, _, _, _, _, _, _, _, _, a0, a1, a2, a3, a4, a5, a6, a7, a8, _, _, _, _, _, _, _, _, _, s0, _, k0, k1, k2, _, _, _⟩ := hL; go_simp
    simp only [List.setIfInBounds_toArray, List.set_cons_zero, List.set_cons_succ]
    refine wpAnyH_done (by kernel_rfl) ?_ _
    refine NoPanic.normal ?_
    clear hH
    go_wp2_with fail
    go_ret
    exact ⟨rfl, BW.out.trans (B2.mono BW.out.size)⟩
set_option maxHeartbeats 4000000 in
set_option maxRecDepth 1000000 in
theorem typeOf_V (pe gP gC gR sp : Nat) (w : World) (h : LvW w pe gP gC gR sp) : Calls Tryz.prog 41 #[.pointer (some ⟨gP, 9, none⟩), .pointer (some ⟨sp, 0, none⟩)] w fun e w' => e = .returned (.int .i64 1) ∧ Below w.heap.size w w' := by
  have hms := make4
  obtain ⟨W, hW⟩ : ∃ W, W = w.alloc (.cells #[.int .i64 0, .int .i64 0, .int .i64 0, .int .i64 0] 3) := ⟨_, rfl⟩
  have bW : Below w.heap.size w W := by rw [hW]; exact (Below.refl _ w).alloc (Nat.le_refl _) _
  have H := mkHid (h.below bW)
  have BW := mkHid bW
  have HW := mkHid hW
  obtain ⟨_, _, _, _, _, _, _, _, _, _, _, _, _, _, _, _, _, _, v0, v1, v2, v3, v4, v5, v6, v7, v8, _, _, _, _, _, _, _, _⟩ := h.below bW
  rw [hW] at v0 v1 v2 v3 v4 v5 v6 v7 v8
  clear h bW hW
  go_enter Tryz.func41, Tryz.ntmps41
  go_wp2_with fail
  go_loopw [13] (fun s13 wr => s13 = .int .i64 0 ∧ wr = w.alloc (.cells #[.int .i64 0, .int .i64 0, .int .i64 0, .int .i64 0] 3)) (fun _ _ => 0)
  case atStart => exact ⟨rfl, rfl⟩
  case round =>
    obtain ⟨rfl, rfl⟩ := hrel
    rw [← HW.out] at *
    go_wp2_with fail
    go_ret
    exact ⟨rfl, BW.out⟩
end Go.Proofs.YtokppkinhlcafaaGreatDoor
