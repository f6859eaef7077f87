/-
  The Parts of a + 2 come to 5 and 2.
-/
import Derived.Test.YtokppkinhlcafaaGreatDoorExZ
namespace Go.Proofs.YtokppkinhlcafaaGreatDoor
open Go.RowKit Go.Joins
set_option maxRecDepth 100000

set_option maxHeartbeats 4000000 in
set_option maxRecDepth 1000000 in
theorem onlyNamed_1 (n : Int) (w : World) : Calls Tryz.prog 43 #[.agg #[.int .i64 1, .int .i64 n, .string ⟨#[]⟩]] w fun e w' => e = .returned (.agg #[.int .i64 1, .int .i64 n, .string ⟨#[]⟩]) ∧ Below w.heap.size w w' := by
  go_enter Tryz.func43, Tryz.ntmps43
  go_wp2_with fail
  refine bodyPost_ret (v := .agg #[.int .i64 1, .int .i64 n, .string ⟨#[]⟩]) (by simp [results, Tryz.results43, go_sem]) rfl ⟨rfl, ?_⟩
  first | exact ((Below.refl _ w).alloc (Nat.le_refl _) _).alloc (by simp) _ | exact (((((Below.refl _ w).alloc (Nat.le_refl _) _).alloc (by simp) _).setCell (by simp) _).setCell (by simp) _).setCell (by simp) _
set_option maxHeartbeats 4000000 in
set_option maxRecDepth 1000000 in
theorem sure_7 (w : World) : Calls Tryz.prog 66 #[.agg #[.int .i64 1, .int .i64 7, .string ⟨#[]⟩], .int .i64 0] w fun e w' => e = .returned (.agg #[.int .i64 1, .int .i64 7, .string ⟨#[]⟩]) ∧ Below w.heap.size w w' := by
  go_enter Tryz.func66, Tryz.ntmps66
  go_wp2_with fail
  refine bodyPost_ret (v := .agg #[.int .i64 1, .int .i64 7, .string ⟨#[]⟩]) (by simp [results, Tryz.results66, go_sem]) rfl ⟨rfl, ?_⟩
  first | exact ((Below.refl _ w).alloc (Nat.le_refl _) _).alloc (by simp) _ | exact (((((Below.refl _ w).alloc (Nat.le_refl _) _).alloc (by simp) _).setCell (by simp) _).setCell (by simp) _).setCell (by simp) _
set_option maxHeartbeats 4000000 in
set_option maxRecDepth 1000000 in
theorem fit_nil (w : World) : Calls Tryz.prog 32 #[.slice none 0 0, .slice none 0 0] w fun e w' => e = .returned (.bool true) ∧ w' = w := by
  go_enter Tryz.func32, Tryz.ntmps32
  go_wp2_with fail
  go_loopw [14] (fun sk wr => sk = .int .i64 0 ∧ wr = w) (fun _ _ => 0)
  case atStart => exact ⟨rfl, rfl⟩
  case round =>
    obtain ⟨rfl, rfl⟩ := hrel
    go_wp2_with fail
    go_ret
    exact ⟨rfl, rfl⟩
set_option maxHeartbeats 4000000 in
set_option maxRecDepth 1000000 in
theorem fit_1 (pe gP gC gR sp : Nat) (w : World) (h : LvW w pe gP gC gR sp) : Calls Tryz.prog 32 #[.slice (some ⟨gR, 0, none⟩) 1 1, .slice (some ⟨gC, 0, none⟩) 1 1] w fun e w' => e = .returned (.bool true) ∧ Below w.heap.size w w' := by
  have CK := mkHid (fun w => Check_one 5 w)
  have H := mkHid h
  have B0 : Hid (Below w.heap.size w w) := Below.refl _ _
  clear h
  go_enter Tryz.func32, Tryz.ntmps32
  go_wp2_with fail
  go_loopw [14] (fun sk wr => ∃ i : Nat, sk = .int .i64 i ∧ i ≤ 1 ∧ Hid (Below w.heap.size w wr)) (fun sk _ => 1 - (intOf sk).toNat)
  case atStart => exact ⟨0, rfl, by omega, B0⟩
  case round =>
    obtain ⟨i, rfl, hi, HB⟩ := hrel
    clear B0
    have k0 := (H.out.below HB.out).k0; have k1 := (H.out.below HB.out).k1; have k2 := (H.out.below HB.out).k2; have r0 := (H.out.below HB.out).r0; have r1 := (H.out.below HB.out).r1; have r2 := (H.out.below HB.out).r2
    rcases (show i = 0 ∨ i = 1 by omega) with rfl | rfl
    · obtain ⟨W, hW⟩ : ∃ W, W = wr.alloc (.cells #[.int .i64 1, .int .i64 5, .string ⟨#[]⟩] 24) := ⟨_, rfl⟩
      have bW : Below wr.heap.size wr W := by rw [hW]; exact (Below.refl _ wr).alloc (Nat.le_refl _) _
      have hB : W.heap[wr.heap.size]? = some (.cells #[.int .i64 1, .int .i64 5, .string ⟨#[]⟩] 24 (0, 0)) := by rw [hW]; exact heap_alloc_new _ _
      have SS : Hid (∀ w', Below W.heap.size W w' → w'.cell? ⟨wr.heap.size, 0, none⟩ = some (.int .i64 1) ∧ w'.cell? ⟨wr.heap.size, 1, none⟩ = some (.int .i64 5) ∧ w'.cell? ⟨wr.heap.size, 2, none⟩ = some (.string ⟨#[]⟩) ∧ w'.cell? ⟨gC, 2, none⟩ = some (.int .i64 1)) := fun w' hb => ⟨cellNext hb ((cell_of_block hB 0).trans rfl), cellNext hb ((cell_of_block hB 1).trans rfl), cellNext hb ((cell_of_block hB 2).trans rfl), cellNext hb (cellNext bW k2)⟩
      have HW := mkHid hW
      have BW := mkHid bW
      clear hW bW hB
      go_wp2_with fail
      rw [← HW.out]
      refine wp_region_noPanic ?_
      refine wp_region_held_drew (S := fun w' => w'.cell? ⟨wr.heap.size, 0, none⟩ = some (.int .i64 1) ∧ w'.cell? ⟨wr.heap.size, 1, none⟩ = some (.int .i64 5) ∧ w'.cell? ⟨wr.heap.size, 2, none⟩ = some (.string ⟨#[]⟩) ∧ w'.cell? ⟨gC, 2, none⟩ = some (.int .i64 1)) (by kernel_rfl) (SS.out _ (Below.refl _ _).drew) (fun hH => ?_)
      refine take_at (i := 0) (v := .agg #[.int .i64 1, .int .i64 5, .string ⟨#[]⟩]) rfl rfl (by kernel_rfl) (by kernel_rfl) (by kernel_rfl) (fun _ _ _ h => h) (Or.inl ⟨by rfl, ?_⟩) hH ?_
      · intro w5 hSw; obtain ⟨q0, q1, q2, q3⟩ := hSw; go_simp
      simp only [List.setIfInBounds_toArray, List.set_cons_zero, List.set_cons_succ]
      refine wpAnyH_ready (rs := [1]) (by kernel_rfl) (by simp) ?_
      refine AllReadyH.cons rfl (fun K hK => ?_) AllReadyH.nil
      go_simp
      go_at_call 42
      refine (CK.out _).mono ?_
      rintro e w1 ⟨rfl, hb1⟩
      have B1 : Below W.heap.size W w1 := (Below.refl _ W).drew.trans (hb1.mono (Nat.le_refl _))
      clear hb1
      go_wp2_with fail
      refine hK.out _ _ (SS.out _ B1) (fun hH => ?_)
      clear hK K
      refine take_at (i := 2) (v := .bool false) rfl rfl (by kernel_rfl) (by kernel_rfl) (by kernel_rfl) (fun _ _ _ h => h) (Or.inl ⟨by rfl, ?_⟩) hH ?_
      · intro w5 hSw; obtain ⟨q0, q1, q2, q3⟩ := hSw; go_simp
      simp only [List.setIfInBounds_toArray, List.set_cons_zero, List.set_cons_succ]
      refine take_at (i := 3) (v := .bool false) rfl rfl (by kernel_rfl) (by kernel_rfl) (by kernel_rfl) (fun _ _ _ h => h) (Or.inl ⟨by rfl, ?_⟩) hH ?_
      · intro w5 hSw; obtain ⟨q0, q1, q2, q3⟩ := hSw; go_simp
      simp only [List.setIfInBounds_toArray, List.set_cons_zero, List.set_cons_succ]
      refine take_at (i := 4) (v := .pointer (some ⟨wr.heap.size, 0, none⟩)) rfl rfl (by kernel_rfl) (by kernel_rfl) (by kernel_rfl) (fun _ _ _ h => h) (Or.inl ⟨by rfl, ?_⟩) hH ?_
      · intro w5 hSw; obtain ⟨q0, q1, q2, q3⟩ := hSw; go_simp
      simp only [List.setIfInBounds_toArray, List.set_cons_zero, List.set_cons_succ]
      refine take_at (i := 5) (v := .int .i64 1) rfl rfl (by kernel_rfl) (by kernel_rfl) (by kernel_rfl) (fun _ _ _ h => h) (Or.inl ⟨by rfl, ?_⟩) hH ?_
      · intro w5 hSw; obtain ⟨q0, q1, q2, q3⟩ := hSw; go_simp
      simp only [List.setIfInBounds_toArray, List.set_cons_zero, List.set_cons_succ]
      refine take_at (i := 6) (v := .bool true) rfl rfl (by kernel_rfl) (by kernel_rfl) (by kernel_rfl) (fun _ _ _ h => h) (Or.inl ⟨by rfl, ?_⟩) hH ?_
      · intro w5 hSw; obtain ⟨q0, q1, q2, q3⟩ := hSw; go_simp
      simp only [List.setIfInBounds_toArray, List.set_cons_zero, List.set_cons_succ]
      refine take_at (i := 7) (v := .bool true) rfl rfl (by kernel_rfl) (by kernel_rfl) (by kernel_rfl) (fun _ _ _ h => h) (Or.inl ⟨by rfl, ?_⟩) hH ?_
      · intro w5 hSw; obtain ⟨q0, q1, q2, q3⟩ := hSw; go_simp
      simp only [List.setIfInBounds_toArray, List.set_cons_zero, List.set_cons_succ]
      refine take_at (i := 8) (v := .pointer (some ⟨wr.heap.size, 0, none⟩)) rfl rfl (by kernel_rfl) (by kernel_rfl) (by kernel_rfl) (fun _ _ _ h => h) (Or.inl ⟨by rfl, ?_⟩) hH ?_
      · intro w5 hSw; obtain ⟨q0, q1, q2, q3⟩ := hSw; go_simp
      simp only [List.setIfInBounds_toArray, List.set_cons_zero, List.set_cons_succ]
      refine take_at (i := 9) (v := .int .i64 1) rfl rfl (by kernel_rfl) (by kernel_rfl) (by kernel_rfl) (fun _ _ _ h => h) (Or.inl ⟨by rfl, ?_⟩) hH ?_
      · intro w5 hSw; obtain ⟨q0, q1, q2, q3⟩ := hSw; go_simp
      simp only [List.setIfInBounds_toArray, List.set_cons_zero, List.set_cons_succ]
      refine take_at (i := 10) (v := .slice (some ⟨gC, 0, none⟩) 1 1) rfl rfl (by kernel_rfl) (by kernel_rfl) (by kernel_rfl) (fun _ _ _ h => h) (Or.inl ⟨by rfl, ?_⟩) hH ?_
      · intro w5 hSw; obtain ⟨q0, q1, q2, q3⟩ := hSw; go_simp
      simp only [List.setIfInBounds_toArray, List.set_cons_zero, List.set_cons_succ]
      refine take_at (i := 11) (v := .int .i64 0) rfl rfl (by kernel_rfl) (by kernel_rfl) (by kernel_rfl) (fun _ _ _ h => h) (Or.inl ⟨by rfl, ?_⟩) hH ?_
      · intro w5 hSw; obtain ⟨q0, q1, q2, q3⟩ := hSw; go_simp
      simp only [List.setIfInBounds_toArray, List.set_cons_zero, List.set_cons_succ]
      refine take_at (i := 12) (v := .pointer (some ⟨gC, 0, none⟩)) rfl rfl (by kernel_rfl) (by kernel_rfl) (by kernel_rfl) (fun _ _ _ h => h) (Or.inl ⟨by rfl, ?_⟩) hH ?_
      · intro w5 hSw; obtain ⟨q0, q1, q2, q3⟩ := hSw; go_simp
      simp only [List.setIfInBounds_toArray, List.set_cons_zero, List.set_cons_succ]
      refine take_at (i := 13) (v := .pointer (some ⟨gC, 2, none⟩)) rfl rfl (by kernel_rfl) (by kernel_rfl) (by kernel_rfl) (fun _ _ _ h => h) (Or.inl ⟨by rfl, ?_⟩) hH ?_
      · intro w5 hSw; obtain ⟨q0, q1, q2, q3⟩ := hSw; go_simp
      simp only [List.setIfInBounds_toArray, List.set_cons_zero, List.set_cons_succ]
      refine take_at (i := 14) (v := .int .i64 1) rfl rfl (by kernel_rfl) (by kernel_rfl) (by kernel_rfl) (fun _ _ _ h => h) (Or.inl ⟨by rfl, ?_⟩) hH ?_
      · intro w5 hSw; obtain ⟨q0, q1, q2, q3⟩ := hSw; go_simp
      simp only [List.setIfInBounds_toArray, List.set_cons_zero, List.set_cons_succ]
      refine take_at (i := 15) (v := .bool false) rfl rfl (by kernel_rfl) (by kernel_rfl) (by kernel_rfl) (fun _ _ _ h => h) (Or.inl ⟨by rfl, ?_⟩) hH ?_
      · intro w5 hSw; obtain ⟨q0, q1, q2, q3⟩ := hSw; go_simp
      simp only [List.setIfInBounds_toArray, List.set_cons_zero, List.set_cons_succ]
      refine take_at (i := 16) (v := .bool false) rfl rfl (by kernel_rfl) (by kernel_rfl) (by kernel_rfl) (fun _ _ _ h => h) (Or.inl ⟨by rfl, ?_⟩) hH ?_
      · intro w5 hSw; obtain ⟨q0, q1, q2, q3⟩ := hSw; go_simp
      simp only [List.setIfInBounds_toArray, List.set_cons_zero, List.set_cons_succ]
      refine take_at (i := 17) (v := .bool false) rfl rfl (by kernel_rfl) (by kernel_rfl) (by kernel_rfl) (fun _ _ _ h => h) (Or.inl ⟨by rfl, ?_⟩) hH ?_
      · intro w5 hSw; obtain ⟨q0, q1, q2, q3⟩ := hSw; go_simp
      simp only [List.setIfInBounds_toArray, List.set_cons_zero, List.set_cons_succ]
      refine wpAnyH_done (by kernel_rfl) ?_ _
      refine NoPanic.normal ?_
      have B2 := mkHid (HB.out.trans ((BW.out.trans (B1.mono BW.out.size)).mono HB.out.size))
      clear hH SS HW BW B1
      go_wp2_with fail
      go_roundw
      case rel => exact ⟨1, rfl, by omega, B2⟩
      case measure => simp [intOf]
    · go_wp2_with fail
      go_ret
      exact ⟨rfl, HB.out⟩
/-- what is given -/
structure GvW (w : World) (gg gR sp : Nat) : Prop where
  g0 : w.cell? ⟨gg, 0, none⟩ = some (.pointer (some ⟨sp, 0, none⟩))
  g1 : w.cell? ⟨gg, 1, none⟩ = some (.slice (some ⟨gR, 0, none⟩) 1 1)
  g2 : w.cell? ⟨gg, 2, none⟩ = some (.slice none 0 0)
theorem GvW.below {w w' : World} {gg gR sp : Nat} (h : GvW w gg gR sp) (hb : Below w.heap.size w w') : GvW w' gg gR sp := ⟨cellNext hb h.g0, cellNext hb h.g1, cellNext hb h.g2⟩
theorem GvW.drew {w : World} {gg gR sp : Nat} (h : GvW w gg gR sp) : GvW w.drew gg gR sp := ⟨h.g0, h.g1, h.g2⟩
set_option maxHeartbeats 4000000 in
set_option maxRecDepth 1000000 in
theorem value_V (pe gP gC gR sp gg : Nat) (w : World) (h : LvW w pe gP gC gR sp) (g : GvW w gg gR sp) : Calls Tryz.prog 33 #[.pointer (some ⟨gg, 0, none⟩), .pointer (some ⟨gP, 9, none⟩)] w fun e w' => e = .returned (.agg #[.int .i64 1, .int .i64 2, .string ⟨#[]⟩]) ∧ Below w.heap.size w w' := by
  obtain ⟨W, hW⟩ : ∃ W, W = (w.alloc (.cells #[.int .i64 0, .int .i64 0, .string ⟨#[]⟩] 24)) := ⟨_, rfl⟩
  have bW : Below w.heap.size w W := by rw [hW]; exact (Below.refl _ w).alloc (Nat.le_refl _) _
  have hZ : W.heap[w.heap.size]? = some (.cells #[.int .i64 0, .int .i64 0, .string ⟨#[]⟩] 24 (0, 0)) := by rw [hW]; exact heap_alloc_new _ _
  have H := mkHid (h.below bW)
  have G := mkHid (g.below bW)
  have HZ := mkHid hZ
  have BW := mkHid bW
  have HW := mkHid hW
  have ON := mkHid (fun n w => onlyNamed_1 n w)
  have v0 := (h.below bW).v0; have v1 := (h.below bW).v1; have v2 := (h.below bW).v2; have v3 := (h.below bW).v3; have v4 := (h.below bW).v4; have v5 := (h.below bW).v5; have v6 := (h.below bW).v6; have v7 := (h.below bW).v7; have v8 := (h.below bW).v8
  rw [hW] at v0 v1 v2 v3 v4 v5 v6 v7 v8
  clear h g hW bW hZ
  go_enter Tryz.func33, Tryz.ntmps33
  go_wp2_with (go_at_call 43; rw [← HW.out]; refine (ON.out _ _).mono ?_; rintro e w1 ⟨rfl, hb1⟩; have EZ := (hb1.block _ (lt_of_some HZ.out)).trans HZ.out; have z0 : w1.cell? ⟨w.heap.size, 0, none⟩ = some (.int .i64 0) := (cell_of_block EZ 0).trans rfl; have z1 : w1.cell? ⟨w.heap.size, 1, none⟩ = some (.int .i64 0) := (cell_of_block EZ 1).trans rfl; have z2 : w1.cell? ⟨w.heap.size, 2, none⟩ = some (.string ⟨#[]⟩) := (cell_of_block EZ 2).trans rfl; have f0 := unfrozen_of_block EZ 0; have f1 := unfrozen_of_block EZ 1; have f2 := unfrozen_of_block EZ 2; have B1 := mkHid hb1; clear hb1 EZ)
  refine bodyPost_ret (v := .agg #[.int .i64 1, .int .i64 2, .string ⟨#[]⟩]) (by simp [results, Tryz.results33, go_sem, z0, z1, z2]) rfl ⟨rfl, ?_⟩
  exact BW.out.trans ((B1.out.mono BW.out.size).trans (((((Off.refl w.heap.size w.heap.size w1).set (a := ⟨w.heap.size, 0, none⟩) (Or.inl rfl) _).set (a := ⟨w.heap.size, 1, none⟩) (Or.inl rfl) _).set (a := ⟨w.heap.size, 2, none⟩) (Or.inl rfl) _).below (Nat.le_refl _) (Nat.le_refl _)))
set_option maxHeartbeats 4000000 in
set_option maxRecDepth 1000000 in
theorem value_A (pe gP gC gR sp gg : Nat) (w : World) (h : LvW w pe gP gC gR sp) (g : GvW w gg gR sp) : Calls Tryz.prog 33 #[.pointer (some ⟨gg, 0, none⟩), .pointer (some ⟨gP, 0, none⟩)] w fun e w' => e = .returned (.agg #[.int .i64 1, .int .i64 5, .string ⟨#[]⟩]) ∧ Below w.heap.size w w' := by
  obtain ⟨W, hW⟩ : ∃ W, W = (w.alloc (.cells #[.int .i64 0, .int .i64 0, .string ⟨#[]⟩] 24)) := ⟨_, rfl⟩
  have bW : Below w.heap.size w W := by rw [hW]; exact (Below.refl _ w).alloc (Nat.le_refl _) _
  have hZ : W.heap[w.heap.size]? = some (.cells #[.int .i64 0, .int .i64 0, .string ⟨#[]⟩] 24 (0, 0)) := by rw [hW]; exact heap_alloc_new _ _
  have H := mkHid (h.below bW)
  have G := mkHid (g.below bW)
  have HZ := mkHid hZ
  have BW := mkHid bW
  have HW := mkHid hW
  have ON := mkHid (fun n w => onlyNamed_1 n w)
  have a0 := (h.below bW).a0; have a1 := (h.below bW).a1; have a2 := (h.below bW).a2; have a3 := (h.below bW).a3; have a4 := (h.below bW).a4; have a5 := (h.below bW).a5; have a6 := (h.below bW).a6; have a7 := (h.below bW).a7; have a8 := (h.below bW).a8
  rw [hW] at a0 a1 a2 a3 a4 a5 a6 a7 a8
  have lgg : gg < w.heap.size := World.block_lt_of_cell? _ _ g.g0
  have CO : Hid (∀ w', LvW w' pe gP gC gR sp → Calls Tryz.prog 44 #[.pointer (some ⟨gP, 0, none⟩), .pointer (some ⟨sp, 0, none⟩)] w' fun e w'' => e = .returned (.int .i64 0) ∧ Below w'.heap.size w' w'') := fun w' h => column_A pe gP gC gR sp w' h
  have LG : Hid (∀ w', Below W.heap.size W w' → LvW w' pe gP gC gR sp ∧ GvW w' gg gR sp) := fun w' hb => ⟨H.out.below hb, G.out.below hb⟩
  have L0 : Hid (∀ w', Below w.heap.size w w' → LvW w' pe gP gC gR sp ∧ GvW w' gg gR sp) := fun w' hb => ⟨h.below hb, g.below hb⟩
  clear h g hW bW hZ
  go_enter Tryz.func33, Tryz.ntmps33
  go_wp2_with fail
  rw [← HW.out]
  refine wp_region_noPanic ?_
  refine wp_region_held_drew (S := fun w' : World => LvW w' pe gP gC gR sp ∧ GvW w' gg gR sp) (by kernel_rfl) (LG.out _ (Below.refl _ _).drew) (fun hH => ?_)
  refine take_at (i := 0) (v := .pointer (some ⟨gg, 0, none⟩)) rfl rfl (by kernel_rfl) (by kernel_rfl) (by kernel_rfl) (fun _ _ _ h => h) (Or.inl ⟨by rfl, ?_⟩) hH ?_
  · intro w5 hSw; obtain ⟨hL, hG⟩ := hSw; have s0 := (hL).s0; have r0 := (hL).r0; have r1 := (hL).r1; have r2 := (hL).r2; have g0 := hG.g0; have g1 := hG.g1; go_simp
  simp only [List.setIfInBounds_toArray, List.set_cons_zero, List.set_cons_succ]
  refine take_at (i := 1) (v := .pointer (some ⟨gg, 0, none⟩)) rfl rfl (by kernel_rfl) (by kernel_rfl) (by kernel_rfl) (fun _ _ _ h => h) (Or.inl ⟨by rfl, ?_⟩) hH ?_
  · intro w5 hSw; obtain ⟨hL, hG⟩ := hSw; have s0 := (hL).s0; have r0 := (hL).r0; have r1 := (hL).r1; have r2 := (hL).r2; have g0 := hG.g0; have g1 := hG.g1; go_simp
  simp only [List.setIfInBounds_toArray, List.set_cons_zero, List.set_cons_succ]
  refine take_at (i := 2) (v := .pointer (some ⟨gg, 1, none⟩)) rfl rfl (by kernel_rfl) (by kernel_rfl) (by kernel_rfl) (fun _ _ _ h => h) (Or.inl ⟨by rfl, ?_⟩) hH ?_
  · intro w5 hSw; obtain ⟨hL, hG⟩ := hSw; have s0 := (hL).s0; have r0 := (hL).r0; have r1 := (hL).r1; have r2 := (hL).r2; have g0 := hG.g0; have g1 := hG.g1; go_simp
  simp only [List.setIfInBounds_toArray, List.set_cons_zero, List.set_cons_succ]
  refine take_at (i := 3) (v := .slice (some ⟨gR, 0, none⟩) 1 1) rfl rfl (by kernel_rfl) (by kernel_rfl) (by kernel_rfl) (fun _ _ _ h => h) (Or.inl ⟨by rfl, ?_⟩) hH ?_
  · intro w5 hSw; obtain ⟨hL, hG⟩ := hSw; have s0 := (hL).s0; have r0 := (hL).r0; have r1 := (hL).r1; have r2 := (hL).r2; have g0 := hG.g0; have g1 := hG.g1; go_simp
  simp only [List.setIfInBounds_toArray, List.set_cons_zero, List.set_cons_succ]
  refine take_at (i := 4) (v := .pointer (some ⟨gP, 0, none⟩)) rfl rfl (by kernel_rfl) (by kernel_rfl) (by kernel_rfl) (fun _ _ _ h => h) (Or.inl ⟨by rfl, ?_⟩) hH ?_
  · intro w5 hSw; obtain ⟨hL, hG⟩ := hSw; have s0 := (hL).s0; have r0 := (hL).r0; have r1 := (hL).r1; have r2 := (hL).r2; have g0 := hG.g0; have g1 := hG.g1; go_simp
  simp only [List.setIfInBounds_toArray, List.set_cons_zero, List.set_cons_succ]
  refine take_at (i := 5) (v := .pointer (some ⟨gg, 0, none⟩)) rfl rfl (by kernel_rfl) (by kernel_rfl) (by kernel_rfl) (fun _ _ _ h => h) (Or.inl ⟨by rfl, ?_⟩) hH ?_
  · intro w5 hSw; obtain ⟨hL, hG⟩ := hSw; have s0 := (hL).s0; have r0 := (hL).r0; have r1 := (hL).r1; have r2 := (hL).r2; have g0 := hG.g0; have g1 := hG.g1; go_simp
  simp only [List.setIfInBounds_toArray, List.set_cons_zero, List.set_cons_succ]
  refine take_at (i := 6) (v := .pointer (some ⟨gg, 0, none⟩)) rfl rfl (by kernel_rfl) (by kernel_rfl) (by kernel_rfl) (fun _ _ _ h => h) (Or.inl ⟨by rfl, ?_⟩) hH ?_
  · intro w5 hSw; obtain ⟨hL, hG⟩ := hSw; have s0 := (hL).s0; have r0 := (hL).r0; have r1 := (hL).r1; have r2 := (hL).r2; have g0 := hG.g0; have g1 := hG.g1; go_simp
  simp only [List.setIfInBounds_toArray, List.set_cons_zero, List.set_cons_succ]
  refine take_at (i := 7) (v := .pointer (some ⟨gg, 0, none⟩)) rfl rfl (by kernel_rfl) (by kernel_rfl) (by kernel_rfl) (fun _ _ _ h => h) (Or.inl ⟨by rfl, ?_⟩) hH ?_
  · intro w5 hSw; obtain ⟨hL, hG⟩ := hSw; have s0 := (hL).s0; have r0 := (hL).r0; have r1 := (hL).r1; have r2 := (hL).r2; have g0 := hG.g0; have g1 := hG.g1; go_simp
  simp only [List.setIfInBounds_toArray, List.set_cons_zero, List.set_cons_succ]
  refine take_at (i := 8) (v := .pointer (some ⟨sp, 0, none⟩)) rfl rfl (by kernel_rfl) (by kernel_rfl) (by kernel_rfl) (fun _ _ _ h => h) (Or.inl ⟨by rfl, ?_⟩) hH ?_
  · intro w5 hSw; obtain ⟨hL, hG⟩ := hSw; have s0 := (hL).s0; have r0 := (hL).r0; have r1 := (hL).r1; have r2 := (hL).r2; have g0 := hG.g0; have g1 := hG.g1; go_simp
  simp only [List.setIfInBounds_toArray, List.set_cons_zero, List.set_cons_succ]
  refine wpAnyH_ready (rs := [9]) (by kernel_rfl) (by simp) ?_
  refine AllReadyH.cons rfl (fun K hK => ?_) AllReadyH.nil
  go_simp
  go_at_call 44
  refine (CO.out _ H.out.drew).mono ?_
  rintro e w1 ⟨rfl, hb1⟩
  have B1 : Below W.heap.size W w1 := (Below.refl _ W).drew.trans (hb1.mono (Nat.le_refl _))
  clear hb1
  go_wp2_with fail
  refine hK.out _ _ (LG.out _ B1) (fun hH => ?_)
  clear hK K
  refine take_at (i := 10) (v := .pointer (some ⟨gR, 0, none⟩)) rfl rfl (by kernel_rfl) (by kernel_rfl) (by kernel_rfl) (fun _ _ _ h => h) (Or.inl ⟨by rfl, ?_⟩) hH ?_
  · intro w5 hSw; obtain ⟨hL, hG⟩ := hSw; have s0 := (hL).s0; have r0 := (hL).r0; have r1 := (hL).r1; have r2 := (hL).r2; have g0 := hG.g0; have g1 := hG.g1; go_simp
  simp only [List.setIfInBounds_toArray, List.set_cons_zero, List.set_cons_succ]
  refine take_at (i := 11) (v := .agg #[.int .i64 1, .int .i64 5, .string ⟨#[]⟩]) rfl rfl (by kernel_rfl) (by kernel_rfl) (by kernel_rfl) (fun _ _ _ h => h) (Or.inl ⟨by rfl, ?_⟩) hH ?_
  · intro w5 hSw; obtain ⟨hL, hG⟩ := hSw; have s0 := (hL).s0; have r0 := (hL).r0; have r1 := (hL).r1; have r2 := (hL).r2; have g0 := hG.g0; have g1 := hG.g1; go_simp
  simp only [List.setIfInBounds_toArray, List.set_cons_zero, List.set_cons_succ]
  refine wpAnyH_ready (rs := [12]) (by kernel_rfl) (by simp) ?_
  refine AllReadyH.cons rfl (fun K hK => ?_) AllReadyH.nil
  go_simp
  go_at_call 43
  refine (ON.out _ _).mono ?_
  rintro e w2 ⟨rfl, hb2⟩
  have B2 : Below W.heap.size W w2 := B1.trans (hb2.mono B1.size)
  clear hb2
  go_wp2_with fail
  refine hK.out _ _ (LG.out _ B2) (fun hH => ?_)
  clear hK K
  refine wpAnyH_ready (rs := [13]) (by kernel_rfl) (by simp) ?_
  refine AllReadyH.cons rfl (fun K hK => ?_) AllReadyH.nil
  have EZ := (B2.block _ (lt_of_some HZ.out)).trans HZ.out
  have z0 : w2.cell? ⟨w.heap.size, 0, none⟩ = some (.int .i64 0) := (cell_of_block EZ 0).trans rfl; have z1 : w2.cell? ⟨w.heap.size, 1, none⟩ = some (.int .i64 0) := (cell_of_block EZ 1).trans rfl; have z2 : w2.cell? ⟨w.heap.size, 2, none⟩ = some (.string ⟨#[]⟩) := (cell_of_block EZ 2).trans rfl; have f0 := unfrozen_of_block EZ 0; have f1 := unfrozen_of_block EZ 1; have f2 := unfrozen_of_block EZ 2
  clear EZ
  go_simp
  have B3 : Below w.heap.size w (((w2.setCell ⟨w.heap.size, 0, none⟩ (.int .i64 1)).setCell ⟨w.heap.size, 1, none⟩ (.int .i64 5)).setCell ⟨w.heap.size, 2, none⟩ (.string ⟨#[]⟩)) := (BW.out.trans (B2.mono BW.out.size)).trans (((((Off.refl w.heap.size w.heap.size w2).set (a := ⟨w.heap.size, 0, none⟩) (Or.inl rfl) _).set (a := ⟨w.heap.size, 1, none⟩) (Or.inl rfl) _).set (a := ⟨w.heap.size, 2, none⟩) (Or.inl rfl) _).below (Nat.le_refl _) (Nat.le_refl _))
  refine hK.out _ _ (L0.out _ B3) (fun hH => ?_)
  clear hK K
  refine wpAnyH_done (by kernel_rfl) ?_ _
  refine NoPanic.normal ?_
  clear hH
  go_wp2_with fail
  refine bodyPost_ret (v := .agg #[.int .i64 1, .int .i64 5, .string ⟨#[]⟩]) (by simp [results, Tryz.results33, go_sem, z0, z1, z2]) rfl ⟨rfl, B3⟩
end Go.Proofs.YtokppkinhlcafaaGreatDoor
