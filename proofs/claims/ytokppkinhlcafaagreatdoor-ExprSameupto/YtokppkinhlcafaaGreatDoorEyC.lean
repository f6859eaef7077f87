/-
  Eval of a + 2.
-/
import Derived.Test.YtokppkinhlcafaaGreatDoorEyB
import Derived.Defers
import Derived.Recover
namespace Go.Proofs.YtokppkinhlcafaaGreatDoor
open Go.RowKit Go.Joins
set_option maxRecDepth 100000

set_option maxHeartbeats 4000000 in
set_option maxRecDepth 1000000 in
theorem value_P (pe gP gC gR sp gg : Nat) (w : World) (h : LvW w pe gP gC gR sp) (g : GvW w gg gR sp) : Calls Tryz.prog 33 #[.pointer (some ⟨gg, 0, none⟩), .pointer (some ⟨pe, 0, none⟩)] w fun e w' => e = .returned (.agg #[.int .i64 1, .int .i64 7, .string ⟨#[]⟩]) ∧ Below w.heap.size w w' := by
  obtain ⟨W, hW⟩ : ∃ W, W = w.alloc (.cells #[.int .i64 0, .int .i64 0, .string ⟨#[]⟩] 24) := ⟨_, rfl⟩
  have bW : Below w.heap.size w W := by rw [hW]; exact (Below.refl _ w).alloc (Nat.le_refl _) _
  have hZ : W.heap[w.heap.size]? = some (.cells #[.int .i64 0, .int .i64 0, .string ⟨#[]⟩] 24 (0, 0)) := by rw [hW]; exact heap_alloc_new _ _
  have DN := mkHid (done_P pe gP gC gR sp gg W (h.below bW) (g.below bW))
  have HZ := mkHid hZ
  have BW := mkHid bW
  have HW := mkHid hW
  have p0 := (h.below bW).p0; have p1 := (h.below bW).p1; have p2 := (h.below bW).p2; have p3 := (h.below bW).p3; have p4 := (h.below bW).p4; have p5 := (h.below bW).p5; have p6 := (h.below bW).p6; have p7 := (h.below bW).p7; have p8 := (h.below bW).p8
  rw [hW] at p0 p1 p2 p3 p4 p5 p6 p7 p8
  clear h g hW bW hZ
  go_enter Tryz.func33, Tryz.ntmps33
  go_wp2_with (go_at_call 51; rw [← HW.out]; refine DN.out.mono ?_; rintro e w1 ⟨rfl, hb1⟩; have EZ := (hb1.block _ (lt_of_some HZ.out)).trans HZ.out; have z0 : w1.cell? ⟨w.heap.size, 0, none⟩ = some (.int .i64 0) := (cell_of_block EZ 0).trans rfl; have z1 : w1.cell? ⟨w.heap.size, 1, none⟩ = some (.int .i64 0) := (cell_of_block EZ 1).trans rfl; have z2 : w1.cell? ⟨w.heap.size, 2, none⟩ = some (.string ⟨#[]⟩) := (cell_of_block EZ 2).trans rfl; have f0 := unfrozen_of_block EZ 0; have f1 := unfrozen_of_block EZ 1; have f2 := unfrozen_of_block EZ 2; have B1 := mkHid hb1; clear hb1 EZ)
  refine bodyPost_ret (v := .agg #[.int .i64 1, .int .i64 7, .string ⟨#[]⟩]) (by simp [results, Tryz.results33, go_sem, z0, z1, z2]) rfl ⟨rfl, ?_⟩
  exact BW.out.trans ((B1.out.mono BW.out.size).trans (((((Off.refl w.heap.size w.heap.size w1).set (a := ⟨w.heap.size, 0, none⟩) (Or.inl rfl) (.int .i64 1)).set (a := ⟨w.heap.size, 1, none⟩) (Or.inl rfl) (.int .i64 7)).set (a := ⟨w.heap.size, 2, none⟩) (Or.inl rfl) (.string ⟨#[]⟩)).below (Nat.le_refl _) (Nat.le_refl _)))
set_option maxHeartbeats 4000000 in
set_option maxRecDepth 1000000 in
theorem outcome_P (pe gP gC gR sp : Nat) (w : World) (h : LvW w pe gP gC gR sp) : Calls Tryz.prog 24 #[.pointer (some ⟨pe, 0, none⟩), .agg #[.pointer (some ⟨sp, 0, none⟩), .slice (some ⟨gR, 0, none⟩) 1 1, .slice none 0 0]] w fun e w' => e = .returned (.tuple #[.int .i64 1, .agg #[.int .i64 1, .int .i64 7, .string ⟨#[]⟩]]) ∧ Below w.heap.size w w' := by
  obtain ⟨W, hW⟩ : ∃ W, W = (w.alloc (.cells #[.pointer (some ⟨sp, 0, none⟩), .slice (some ⟨gR, 0, none⟩) 1 1, .slice none 0 0] 58)).alloc (.cells #[.int .i64 0, .int .i64 0, .string ⟨#[]⟩] 24) := ⟨_, rfl⟩
  have bW : Below w.heap.size w W := by rw [hW]; exact ((Below.refl _ w).alloc (Nat.le_refl _) _).alloc (by simp) _
  have hG : W.heap[w.heap.size]? = some (.cells #[.pointer (some ⟨sp, 0, none⟩), .slice (some ⟨gR, 0, none⟩) 1 1, .slice none 0 0] 58 (0, 0)) := by rw [hW]; exact heap_alloc_at (heap_alloc_new _ _)
  have hZ : W.heap[w.heap.size + 1]? = some (.cells #[.int .i64 0, .int .i64 0, .string ⟨#[]⟩] 24 (0, 0)) := by
    have e2 := heap_alloc_new (w.alloc (.cells #[.pointer (some ⟨sp, 0, none⟩), .slice (some ⟨gR, 0, none⟩) 1 1, .slice none 0 0] 58)) (.cells #[.int .i64 0, .int .i64 0, .string ⟨#[]⟩] 24)
    rw [World.size_alloc] at e2
    rw [hW]; exact e2
  have gW : GvW W w.heap.size gR sp := ⟨(cell_of_block hG 0).trans rfl, (cell_of_block hG 1).trans rfl, (cell_of_block hG 2).trans rfl⟩
  have LG : Hid (∀ w', Below W.heap.size W w' → LvW w' pe gP gC gR sp ∧ GvW w' w.heap.size gR sp) := fun w' hb => ⟨(h.below bW).below hb, gW.below hb⟩
  have CH := mkHid (checked_P pe gP gC gR sp W (h.below bW))
  have F1 := mkHid (fun w h => fit_1 pe gP gC gR sp w h)
  have F0 := mkHid (fun w => fit_nil w)
  have VP := mkHid (fun gg w h g => value_P pe gP gC gR sp gg w h g)
  have HZ := mkHid hZ
  have BW := mkHid bW
  have HW := mkHid hW
  have HGG := mkHid hG
  clear h hW bW hZ hG gW
  go_enter Tryz.func24, Tryz.ntmps24
  go_wp2_with (go_at_call 31; rw [← HW.out]; refine CH.out.mono ?_; rintro e w1 ⟨rfl, b1⟩)
  refine wp_region_noPanic ?_
  refine wp_region_held_drew (S := fun w' : World => LvW w' pe gP gC gR sp ∧ GvW w' w.heap.size gR sp) (by kernel_rfl) (LG.out _ b1.drew) (fun hH => ?_)
  refine take_at (i := 0) (v := .pointer (some ⟨w.heap.size, 1, none⟩)) rfl rfl (by kernel_rfl) (by kernel_rfl) (by kernel_rfl) (fun _ _ _ h => h) (Or.inl ⟨by rfl, ?_⟩) hH ?_
  · intro w5 hSw; obtain ⟨hL, hG⟩ := hSw; have s0 := hL.s0; have s1 := hL.s1; have g0 := hG.g0; have g1 := hG.g1; have g2 := hG.g2; go_simp
  simp only [List.setIfInBounds_toArray, List.set_cons_zero, List.set_cons_succ]
  refine take_at (i := 1) (v := .slice (some ⟨gR, 0, none⟩) 1 1) rfl rfl (by kernel_rfl) (by kernel_rfl) (by kernel_rfl) (fun _ _ _ h => h) (Or.inl ⟨by rfl, ?_⟩) hH ?_
  · intro w5 hSw; obtain ⟨hL, hG⟩ := hSw; have s0 := hL.s0; have s1 := hL.s1; have g0 := hG.g0; have g1 := hG.g1; have g2 := hG.g2; go_simp
  simp only [List.setIfInBounds_toArray, List.set_cons_zero, List.set_cons_succ]
  refine take_at (i := 2) (v := .pointer (some ⟨w.heap.size, 0, none⟩)) rfl rfl (by kernel_rfl) (by kernel_rfl) (by kernel_rfl) (fun _ _ _ h => h) (Or.inl ⟨by rfl, ?_⟩) hH ?_
  · intro w5 hSw; obtain ⟨hL, hG⟩ := hSw; have s0 := hL.s0; have s1 := hL.s1; have g0 := hG.g0; have g1 := hG.g1; have g2 := hG.g2; go_simp
  simp only [List.setIfInBounds_toArray, List.set_cons_zero, List.set_cons_succ]
  refine take_at (i := 3) (v := .pointer (some ⟨sp, 0, none⟩)) rfl rfl (by kernel_rfl) (by kernel_rfl) (by kernel_rfl) (fun _ _ _ h => h) (Or.inl ⟨by rfl, ?_⟩) hH ?_
  · intro w5 hSw; obtain ⟨hL, hG⟩ := hSw; have s0 := hL.s0; have s1 := hL.s1; have g0 := hG.g0; have g1 := hG.g1; have g2 := hG.g2; go_simp
  simp only [List.setIfInBounds_toArray, List.set_cons_zero, List.set_cons_succ]
  refine take_at (i := 4) (v := .pointer (some ⟨sp, 0, none⟩)) rfl rfl (by kernel_rfl) (by kernel_rfl) (by kernel_rfl) (fun _ _ _ h => h) (Or.inl ⟨by rfl, ?_⟩) hH ?_
  · intro w5 hSw; obtain ⟨hL, hG⟩ := hSw; have s0 := hL.s0; have s1 := hL.s1; have g0 := hG.g0; have g1 := hG.g1; have g2 := hG.g2; go_simp
  simp only [List.setIfInBounds_toArray, List.set_cons_zero, List.set_cons_succ]
  refine take_at (i := 5) (v := .pointer (some ⟨sp, 0, none⟩)) rfl rfl (by kernel_rfl) (by kernel_rfl) (by kernel_rfl) (fun _ _ _ h => h) (Or.inl ⟨by rfl, ?_⟩) hH ?_
  · intro w5 hSw; obtain ⟨hL, hG⟩ := hSw; have s0 := hL.s0; have s1 := hL.s1; have g0 := hG.g0; have g1 := hG.g1; have g2 := hG.g2; go_simp
  simp only [List.setIfInBounds_toArray, List.set_cons_zero, List.set_cons_succ]
  refine take_at (i := 6) (v := .slice (some ⟨gC, 0, none⟩) 1 1) rfl rfl (by kernel_rfl) (by kernel_rfl) (by kernel_rfl) (fun _ _ _ h => h) (Or.inl ⟨by rfl, ?_⟩) hH ?_
  · intro w5 hSw; obtain ⟨hL, hG⟩ := hSw; have s0 := hL.s0; have s1 := hL.s1; have g0 := hG.g0; have g1 := hG.g1; have g2 := hG.g2; go_simp
  simp only [List.setIfInBounds_toArray, List.set_cons_zero, List.set_cons_succ]
  refine wpAnyH_ready (rs := [7]) (by kernel_rfl) (by simp) ?_
  refine AllReadyH.cons rfl (fun K hK => ?_) AllReadyH.nil
  go_simp
  go_at_call 32
  refine (F1.out _ (LG.out _ b1.drew).1).mono ?_
  rintro e w2 ⟨rfl, hb2⟩
  have B2 : Below W.heap.size W w2 := b1.drew.trans (hb2.mono b1.size)
  clear hb2
  go_wp2_with fail
  refine hK.out _ _ (LG.out _ B2) (fun hH => ?_)
  clear hK K
  refine take_at (i := 8) (v := .bool false) rfl rfl (by kernel_rfl) (by kernel_rfl) (by kernel_rfl) (fun _ _ _ h => h) (Or.inl ⟨by rfl, ?_⟩) hH ?_
  · intro w5 hSw; obtain ⟨hL, hG⟩ := hSw; have s0 := hL.s0; have s1 := hL.s1; have g0 := hG.g0; have g1 := hG.g1; have g2 := hG.g2; go_simp
  simp only [List.setIfInBounds_toArray, List.set_cons_zero, List.set_cons_succ]
  refine take_at (i := 9) (v := .bool false) rfl rfl (by kernel_rfl) (by kernel_rfl) (by kernel_rfl) (fun _ _ _ h => h) (Or.inl ⟨by rfl, ?_⟩) hH ?_
  · intro w5 hSw; obtain ⟨hL, hG⟩ := hSw; have s0 := hL.s0; have s1 := hL.s1; have g0 := hG.g0; have g1 := hG.g1; have g2 := hG.g2; go_simp
  simp only [List.setIfInBounds_toArray, List.set_cons_zero, List.set_cons_succ]
  refine take_at (i := 10) (v := .pointer (some ⟨w.heap.size, 2, none⟩)) rfl rfl (by kernel_rfl) (by kernel_rfl) (by kernel_rfl) (fun _ _ _ h => h) (Or.inl ⟨by rfl, ?_⟩) hH ?_
  · intro w5 hSw; obtain ⟨hL, hG⟩ := hSw; have s0 := hL.s0; have s1 := hL.s1; have g0 := hG.g0; have g1 := hG.g1; have g2 := hG.g2; go_simp
  simp only [List.setIfInBounds_toArray, List.set_cons_zero, List.set_cons_succ]
  refine take_at (i := 11) (v := .slice none 0 0) rfl rfl (by kernel_rfl) (by kernel_rfl) (by kernel_rfl) (fun _ _ _ h => h) (Or.inl ⟨by rfl, ?_⟩) hH ?_
  · intro w5 hSw; obtain ⟨hL, hG⟩ := hSw; have s0 := hL.s0; have s1 := hL.s1; have g0 := hG.g0; have g1 := hG.g1; have g2 := hG.g2; go_simp
  simp only [List.setIfInBounds_toArray, List.set_cons_zero, List.set_cons_succ]
  refine take_at (i := 12) (v := .pointer (some ⟨w.heap.size, 0, none⟩)) rfl rfl (by kernel_rfl) (by kernel_rfl) (by kernel_rfl) (fun _ _ _ h => h) (Or.inl ⟨by rfl, ?_⟩) hH ?_
  · intro w5 hSw; obtain ⟨hL, hG⟩ := hSw; have s0 := hL.s0; have s1 := hL.s1; have g0 := hG.g0; have g1 := hG.g1; have g2 := hG.g2; go_simp
  simp only [List.setIfInBounds_toArray, List.set_cons_zero, List.set_cons_succ]
  refine take_at (i := 13) (v := .pointer (some ⟨sp, 0, none⟩)) rfl rfl (by kernel_rfl) (by kernel_rfl) (by kernel_rfl) (fun _ _ _ h => h) (Or.inl ⟨by rfl, ?_⟩) hH ?_
  · intro w5 hSw; obtain ⟨hL, hG⟩ := hSw; have s0 := hL.s0; have s1 := hL.s1; have g0 := hG.g0; have g1 := hG.g1; have g2 := hG.g2; go_simp
  simp only [List.setIfInBounds_toArray, List.set_cons_zero, List.set_cons_succ]
  refine take_at (i := 14) (v := .pointer (some ⟨sp, 0, none⟩)) rfl rfl (by kernel_rfl) (by kernel_rfl) (by kernel_rfl) (fun _ _ _ h => h) (Or.inl ⟨by rfl, ?_⟩) hH ?_
  · intro w5 hSw; obtain ⟨hL, hG⟩ := hSw; have s0 := hL.s0; have s1 := hL.s1; have g0 := hG.g0; have g1 := hG.g1; have g2 := hG.g2; go_simp
  simp only [List.setIfInBounds_toArray, List.set_cons_zero, List.set_cons_succ]
  refine take_at (i := 15) (v := .pointer (some ⟨sp, 1, none⟩)) rfl rfl (by kernel_rfl) (by kernel_rfl) (by kernel_rfl) (fun _ _ _ h => h) (Or.inl ⟨by rfl, ?_⟩) hH ?_
  · intro w5 hSw; obtain ⟨hL, hG⟩ := hSw; have s0 := hL.s0; have s1 := hL.s1; have g0 := hG.g0; have g1 := hG.g1; have g2 := hG.g2; go_simp
  simp only [List.setIfInBounds_toArray, List.set_cons_zero, List.set_cons_succ]
  refine take_at (i := 16) (v := .slice none 0 0) rfl rfl (by kernel_rfl) (by kernel_rfl) (by kernel_rfl) (fun _ _ _ h => h) (Or.inl ⟨by rfl, ?_⟩) hH ?_
  · intro w5 hSw; obtain ⟨hL, hG⟩ := hSw; have s0 := hL.s0; have s1 := hL.s1; have g0 := hG.g0; have g1 := hG.g1; have g2 := hG.g2; go_simp
  simp only [List.setIfInBounds_toArray, List.set_cons_zero, List.set_cons_succ]
  refine wpAnyH_ready (rs := [17]) (by kernel_rfl) (by simp) ?_
  refine AllReadyH.cons rfl (fun K hK => ?_) AllReadyH.nil
  go_simp
  go_at_call 32
  refine (F0.out _).mono ?_
  rintro e w3 ⟨rfl, e3⟩
  subst e3
  go_wp2_with fail
  refine hK.out _ _ (LG.out _ B2) (fun hH => ?_)
  clear hK K
  refine take_at (i := 18) (v := .bool false) rfl rfl (by kernel_rfl) (by kernel_rfl) (by kernel_rfl) (fun _ _ _ h => h) (Or.inl ⟨by rfl, ?_⟩) hH ?_
  · intro w5 hSw; go_simp
  simp only [List.setIfInBounds_toArray, List.set_cons_zero, List.set_cons_succ]
  refine take_at (i := 19) (v := .bool false) rfl rfl (by kernel_rfl) (by kernel_rfl) (by kernel_rfl) (fun _ _ _ h => h) (Or.inl ⟨by rfl, ?_⟩) hH ?_
  · intro w5 hSw; go_simp
  simp only [List.setIfInBounds_toArray, List.set_cons_zero, List.set_cons_succ]
  refine wpAnyH_done (by kernel_rfl) ?_ _
  refine NoPanic.normal ?_
  have B2H := mkHid B2
  clear hH b1 B2
  go_wp2_with (go_at_call 33; refine (VP.out _ _ (LG.out _ B2H.out).1 (LG.out _ B2H.out).2).mono ?_; rintro e w4 ⟨rfl, b4⟩; have B4 := mkHid (B2H.out.trans (b4.mono B2H.out.size)); have EZ := (B4.out.block _ (lt_of_some HZ.out)).trans HZ.out; have z0 : w4.cell? ⟨w.heap.size + 1, 0, none⟩ = some (.int .i64 0) := (cell_of_block EZ 0).trans rfl; have z1 : w4.cell? ⟨w.heap.size + 1, 1, none⟩ = some (.int .i64 0) := (cell_of_block EZ 1).trans rfl; have z2 : w4.cell? ⟨w.heap.size + 1, 2, none⟩ = some (.string ⟨#[]⟩) := (cell_of_block EZ 2).trans rfl; have f0 := unfrozen_of_block EZ 0; have f1 := unfrozen_of_block EZ 1; have f2 := unfrozen_of_block EZ 2; clear b4 EZ)
  refine bodyPost_ret (v := .tuple #[.int .i64 1, .agg #[.int .i64 1, .int .i64 7, .string ⟨#[]⟩]]) (by simp [results, Tryz.results24, go_sem, z0, z1, z2]) rfl ⟨rfl, ?_⟩
  exact BW.out.trans ((B4.out.mono BW.out.size).trans (((((Off.refl (w.heap.size + 1) (w.heap.size + 1) w4).set (a := ⟨w.heap.size + 1, 0, none⟩) (Or.inl rfl) (.int .i64 1)).set (a := ⟨w.heap.size + 1, 1, none⟩) (Or.inl rfl) (.int .i64 7)).set (a := ⟨w.heap.size + 1, 2, none⟩) (Or.inl rfl) (.string ⟨#[]⟩)).below (by omega) (by omega)))
set_option maxHeartbeats 4000000 in
set_option maxRecDepth 1000000 in
theorem Eval1_P (pe gP gC gR sp br bp bv : Nat) (w : World) (h : LvW w pe gP gC gR sp) (hr : w.cell? ⟨br, 0, none⟩ = some (.slice (some ⟨gR, 0, none⟩) 1 1)) (hp : w.cell? ⟨bp, 0, none⟩ = some (.slice none 0 0)) (hv : w.heap[bv]? = some (.cells #[.int .i64 0, .int .i64 0, .string ⟨#[]⟩] 24 (0, 0))) : Calls Tryz.prog 23 #[.pointer (some ⟨pe, 0, none⟩), .pointer (some ⟨sp, 0, none⟩), .pointer (some ⟨br, 0, none⟩), .pointer (some ⟨bp, 0, none⟩), .pointer (some ⟨bv, 0, none⟩)] w fun e w' => e = .returned (.tuple #[]) ∧ Sto bv w w' ∧ w'.heap[bv]? = some (.cells #[.int .i64 1, .int .i64 7, .string ⟨#[]⟩] 24 (0, 0)) := by
  have OU := mkHid (outcome_P pe gP gC gR sp w h)
  have HV := mkHid hv
  clear h hv
  go_enter Tryz.func23, Tryz.ntmps23
  go_wp2_with (go_at_call 24; refine OU.out.mono ?_; rintro e w1 ⟨rfl, b1⟩; have EZ := (b1.block _ (lt_of_some HV.out)).trans HV.out; have z0 : w1.cell? ⟨bv, 0, none⟩ = some (.int .i64 0) := (cell_of_block EZ 0).trans rfl; have z1 : w1.cell? ⟨bv, 1, none⟩ = some (.int .i64 0) := (cell_of_block EZ 1).trans rfl; have z2 : w1.cell? ⟨bv, 2, none⟩ = some (.string ⟨#[]⟩) := (cell_of_block EZ 2).trans rfl; have f0 := unfrozen_of_block EZ 0; have f1 := unfrozen_of_block EZ 1; have f2 := unfrozen_of_block EZ 2; have B1 := mkHid b1; have EZH := mkHid EZ; clear b1 EZ)
  first | go_end0 | refine bodyPost_ret (results_none rfl _ _ _) rfl ?_
  have hf := (((Off.refl bv bv w1).set (a := ⟨bv, 0, none⟩) (Or.inl rfl) (.int .i64 1)).set (a := ⟨bv, 1, none⟩) (Or.inl rfl) (.int .i64 7)).set (a := ⟨bv, 2, none⟩) (Or.inl rfl) (.string ⟨#[]⟩)
  have hsz := hf.size
  have hs1 := B1.out.size
  exact ⟨rfl, ⟨hf.os.trans B1.out.os, hf.tape.trans B1.out.tape, hf.output.trans B1.out.output, by omega, fun k hk hp => (hf.block k hp hp).trans (B1.out.block k hk)⟩, heap_set_inX (heap_set_inX (heap_set_inX EZH.out))⟩
theorem eg_eval : ∀ args w, (callFunc 23 args).run Tryz.prog w = .ok (.enter 23 args) w := enters_of Tryz.func23 (by kernel_rfl) rfl
theorem attempt1_idle (p : Addr) (w : World) : CallsD Tryz.prog 30 #[.pointer (some p)] .returning w fun e u' w' => e = .returned (.tuple #[]) ∧ u' = .returning ∧ w' = w := by
  refine callsD_of_wpS Tryz.func30 rfl fun c₀ cs hu => ?_
  have hn : ∀ w, (binOp .eql 20 .nilIface .nilIface).run Tryz.prog w = .ok (.bool true) w := fun w => by kernel_rfl
  apply wpS_seq
  apply wpS_region
  simp [wpOpsS, go_sem, recoverD, hu, Tryz.ntmps30, Exit.thenS]
  refine wpS_of_wp ?_
  go_wp2_with fail
  cases c₀
  simp_all [bodyPostS, results, Tryz.results30]
set_option maxHeartbeats 4000000 in
set_option maxRecDepth 1000000 in
theorem attempt_P (pe gP gC gR sp br bp bv : Nat) (w : World) (h : LvW w pe gP gC gR sp) (hr : w.cell? ⟨br, 0, none⟩ = some (.slice (some ⟨gR, 0, none⟩) 1 1)) (hp : w.cell? ⟨bp, 0, none⟩ = some (.slice none 0 0)) (hv : w.heap[bv]? = some (.cells #[.int .i64 0, .int .i64 0, .string ⟨#[]⟩] 24 (0, 0))) : Calls Tryz.prog 22 #[.func (.func 23) #[] #[.pointer (some ⟨pe, 0, none⟩), .pointer (some ⟨sp, 0, none⟩), .pointer (some ⟨br, 0, none⟩), .pointer (some ⟨bp, 0, none⟩), .pointer (some ⟨bv, 0, none⟩)]] w fun e w' => e = .returned (.agg #[.int .i64 0, .int .i64 0]) ∧ Sto bv w w' ∧ w'.heap[bv]? = some (.cells #[.int .i64 1, .int .i64 7, .string ⟨#[]⟩] 24 (0, 0)) := by
  have hmf : ∀ (fn : Fn) (first cap : Array Value) (w : World), (Instr.makeFunc fn first cap).run Tryz.prog w = .ok (.func fn first cap) w := fun _ _ _ _ => rfl
  obtain ⟨W, hW⟩ : ∃ W, W = w.alloc (.cells #[.int .i64 0, .int .i64 0] 52) := ⟨_, rfl⟩
  have bW : Below w.heap.size w W := by rw [hW]; exact (Below.refl _ w).alloc (Nat.le_refl _) _
  have hZ : W.heap[w.heap.size]? = some (.cells #[.int .i64 0, .int .i64 0] 52 (0, 0)) := by rw [hW]; exact heap_alloc_new _ _
  have lv := lt_of_some hv
  have EV := mkHid (Eval1_P pe gP gC gR sp br bp bv W (h.below bW) (cellNext bW hr) (cellNext bW hp) ((bW.block _ lv).trans hv))
  have eg := eg_eval
  have HZ := mkHid hZ
  have BW := mkHid bW
  have HW := mkHid hW
  clear h hr hp hv hW bW hZ
  go_enter_defers Tryz.func22, Tryz.ntmps22
  go_wp2_with (go_at_fn 23; rw [← HW.out]; refine EV.out.mono ?_; rintro e w1 ⟨rfl, st, hv1⟩; have EZ := (st.block _ (by have := lt_of_some HZ.out; exact this) (by omega)).trans HZ.out; have z0 : w1.cell? ⟨w.heap.size, 0, none⟩ = some (.int .i64 0) := (cell_of_block EZ 0).trans rfl; have z1 : w1.cell? ⟨w.heap.size, 1, none⟩ = some (.int .i64 0) := (cell_of_block EZ 1).trans rfl; have f0 := unfrozen_of_block EZ 0; have f1 := unfrozen_of_block EZ 1; have ST := mkHid st; have HV1 := mkHid hv1; clear st hv1 EZ)
  refine leaves_cons (f := 30) (args := #[.pointer (some ⟨w.heap.size, 0, none⟩)]) (by simp) (by simp [go_sem]) ?_
  refine (attempt1_idle ⟨w.heap.size, 0, none⟩ _).mono ?_
  obtain ⟨V, hV⟩ : ∃ V, V = (w1.setCell ⟨w.heap.size, 0, none⟩ (.int .i64 0)).setCell ⟨w.heap.size, 1, none⟩ (.int .i64 0) := ⟨_, rfl⟩
  have hf : Off w.heap.size w.heap.size w1 V := by rw [hV]; exact ((Off.refl w.heap.size w.heap.size w1).set (Or.inl rfl) _).set (Or.inl rfl) _
  have EV0 : V.heap[w.heap.size]? = some (.cells #[.int .i64 0, .int .i64 0] 52 (0, 0)) := by rw [hV]; exact heap_set_inX (heap_set_inX ((ST.out.block _ (lt_of_some HZ.out) (by omega)).trans HZ.out))
  have FX : Sto bv w V ∧ V.heap[bv]? = some (.cells #[.int .i64 1, .int .i64 7, .string ⟨#[]⟩] 24 (0, 0)) := by
    have hsz := hf.size
    have s1 := ST.out.size
    have s2 := BW.out.size
    exact ⟨⟨hf.os.trans (ST.out.os.trans BW.out.os), hf.tape.trans (ST.out.tape.trans BW.out.tape), hf.output.trans (ST.out.output.trans BW.out.output), by omega, fun k hk hp => (hf.block k (by omega) (by omega)).trans ((ST.out.block k (by omega) hp).trans (BW.out.block k hk))⟩, (hf.block _ (by omega) (by omega)).trans HV1.out⟩
  have FH := mkHid FX
  have q0 : V.cell? ⟨w.heap.size, 0, none⟩ = some (.int .i64 0) := (cell_of_block EV0 0).trans rfl
  have q1 : V.cell? ⟨w.heap.size, 1, none⟩ = some (.int .i64 0) := (cell_of_block EV0 1).trans rfl
  rw [← hV]
  clear hV hf EV0 FX
  rintro e u' w'' ⟨rfl, rfl, rfl⟩
  simp [Leaves, settle, results, Tryz.results22, go_sem, q0, q1]
  exact FH.out
end Go.Proofs.YtokppkinhlcafaaGreatDoor
