/-
  The type of a + 2, whole.
-/
import Derived.Test.YtokppkinhlcafaaGreatDoorExX
namespace Go.Proofs.YtokppkinhlcafaaGreatDoor
open Go.RowKit Go.Joins
set_option maxRecDepth 100000

set_option maxHeartbeats 4000000 in
set_option maxRecDepth 1000000 in
theorem number_one (p : Value) (w : World) : Calls Tryz.prog 82 #[p, .int .i64 1] w fun e w' => e = .returned (.int .i64 1) ∧ w' = w := by
  go_enter Tryz.func82, Tryz.ntmps82
  go_wp2_with fail
  go_ret
  exact ⟨rfl, rfl⟩
set_option maxHeartbeats 4000000 in
set_option maxRecDepth 1000000 in
theorem meet_one (p : Value) (w : World) : Calls Tryz.prog 81 #[p, .int .i64 1, .int .i64 1] w fun e w' => e = .returned (.int .i64 1) ∧ w' = w := by
  go_enter Tryz.func81, Tryz.ntmps81
  go_wp2_with fail
  go_ret
  exact ⟨rfl, rfl⟩
set_option maxHeartbeats 4000000 in
set_option maxRecDepth 1000000 in
theorem typeBy_P (pe gP gC gR sp b : Nat) (w : World) (h : LvW w pe gP gC gR sp) (hb : w.heap[b]? = some (.cells #[.int .i64 1, .int .i64 1, .int .i64 0, .int .i64 0] 3 (0, 0))) : Calls Tryz.prog 60 #[.pointer (some ⟨pe, 0, none⟩), .slice (some ⟨b, 0, none⟩) 2 4] w fun e w' => e = .returned (.int .i64 1) ∧ Below w.heap.size w w' := by
  have y0 : w.cell? ⟨b, 0, none⟩ = some (.int .i64 1) := (cell_of_block hb 0).trans rfl
  have y1 : w.cell? ⟨b, 1, none⟩ = some (.int .i64 1) := (cell_of_block hb 1).trans rfl
  have p0 := (h).p0; have p1 := (h).p1; have p2 := (h).p2; have p3 := (h).p3; have p4 := (h).p4; have p5 := (h).p5; have p6 := (h).p6; have p7 := (h).p7; have p8 := (h).p8
  have ME := mkHid (fun p w => meet_one p w)
  have NU := mkHid (fun p w => number_one p w)
  clear hb
  go_enter Tryz.func60, Tryz.ntmps60
  go_wp2_with fail
  refine wp_region_noPanic ?_
  refine wp_region_held_drew (S := fun w' => w'.cell? ⟨b, 0, none⟩ = some (.int .i64 1) ∧ w'.cell? ⟨b, 1, none⟩ = some (.int .i64 1)) (by kernel_rfl) ⟨y0, y1⟩ (fun hH => ?_)
  refine take_at (i := 0) (v := .pointer (some ⟨pe, 0, none⟩)) rfl rfl (by kernel_rfl) (by kernel_rfl) (by kernel_rfl) (fun _ _ _ h => h) (Or.inl ⟨by rfl, ?_⟩) hH ?_
  · intro w5 hSw; obtain ⟨s0, s1⟩ := hSw; go_simp
  simp only [List.setIfInBounds_toArray, List.set_cons_zero, List.set_cons_succ]
  refine take_at (i := 1) (v := .pointer (some ⟨pe, 0, none⟩)) rfl rfl (by kernel_rfl) (by kernel_rfl) (by kernel_rfl) (fun _ _ _ h => h) (Or.inl ⟨by rfl, ?_⟩) hH ?_
  · intro w5 hSw; obtain ⟨s0, s1⟩ := hSw; go_simp
  simp only [List.setIfInBounds_toArray, List.set_cons_zero, List.set_cons_succ]
  refine take_at (i := 2) (v := .slice (some ⟨b, 0, none⟩) 2 4) rfl rfl (by kernel_rfl) (by kernel_rfl) (by kernel_rfl) (fun _ _ _ h => h) (Or.inl ⟨by rfl, ?_⟩) hH ?_
  · intro w5 hSw; obtain ⟨s0, s1⟩ := hSw; go_simp
  simp only [List.setIfInBounds_toArray, List.set_cons_zero, List.set_cons_succ]
  refine take_at (i := 3) (v := .pointer (some ⟨b, 0, none⟩)) rfl rfl (by kernel_rfl) (by kernel_rfl) (by kernel_rfl) (fun _ _ _ h => h) (Or.inl ⟨by rfl, ?_⟩) hH ?_
  · intro w5 hSw; obtain ⟨s0, s1⟩ := hSw; go_simp
  simp only [List.setIfInBounds_toArray, List.set_cons_zero, List.set_cons_succ]
  refine take_at (i := 4) (v := .int .i64 1) rfl rfl (by kernel_rfl) (by kernel_rfl) (by kernel_rfl) (fun _ _ _ h => h) (Or.inl ⟨by rfl, ?_⟩) hH ?_
  · intro w5 hSw; obtain ⟨s0, s1⟩ := hSw; go_simp
  simp only [List.setIfInBounds_toArray, List.set_cons_zero, List.set_cons_succ]
  refine take_at (i := 5) (v := .slice (some ⟨b, 0, none⟩) 2 4) rfl rfl (by kernel_rfl) (by kernel_rfl) (by kernel_rfl) (fun _ _ _ h => h) (Or.inl ⟨by rfl, ?_⟩) hH ?_
  · intro w5 hSw; obtain ⟨s0, s1⟩ := hSw; go_simp
  simp only [List.setIfInBounds_toArray, List.set_cons_zero, List.set_cons_succ]
  refine take_at (i := 6) (v := .pointer (some ⟨b, 1, none⟩)) rfl rfl (by kernel_rfl) (by kernel_rfl) (by kernel_rfl) (fun _ _ _ h => h) (Or.inl ⟨by rfl, ?_⟩) hH ?_
  · intro w5 hSw; obtain ⟨s0, s1⟩ := hSw; go_simp
  simp only [List.setIfInBounds_toArray, List.set_cons_zero, List.set_cons_succ]
  refine take_at (i := 7) (v := .int .i64 1) rfl rfl (by kernel_rfl) (by kernel_rfl) (by kernel_rfl) (fun _ _ _ h => h) (Or.inl ⟨by rfl, ?_⟩) hH ?_
  · intro w5 hSw; obtain ⟨s0, s1⟩ := hSw; go_simp
  simp only [List.setIfInBounds_toArray, List.set_cons_zero, List.set_cons_succ]
  refine wpAnyH_ready (rs := [8]) (by kernel_rfl) (by simp) ?_
  refine AllReadyH.cons rfl (fun K hK => ?_) AllReadyH.nil
  go_simp
  go_at_call 81
  refine (ME.out _ _).mono ?_
  rintro e w1 ⟨rfl, e1⟩
  subst e1
  go_wp2_with fail
  refine hK.out _ _ ⟨y0, y1⟩ (fun hH => ?_)
  clear hK K
  refine wpAnyH_ready (rs := [9]) (by kernel_rfl) (by simp) ?_
  refine AllReadyH.cons rfl (fun K hK => ?_) AllReadyH.nil
  go_simp
  go_at_call 82
  refine (NU.out _ _).mono ?_
  rintro e w2 ⟨rfl, e1⟩
  subst e1
  go_wp2_with fail
  refine hK.out _ _ ⟨y0, y1⟩ (fun hH => ?_)
  clear hK K
  refine take_at (i := 10) (v := .int .i64 1) rfl rfl (by kernel_rfl) (by kernel_rfl) (by kernel_rfl) (fun _ _ _ h => h) (Or.inl ⟨by rfl, ?_⟩) hH ?_
  · intro w5 hSw; obtain ⟨s0, s1⟩ := hSw; go_simp
  simp only [List.setIfInBounds_toArray, List.set_cons_zero, List.set_cons_succ]
  refine take_at (i := 11) (v := .int .i64 1) rfl rfl (by kernel_rfl) (by kernel_rfl) (by kernel_rfl) (fun _ _ _ h => h) (Or.inl ⟨by rfl, ?_⟩) hH ?_
  · intro w5 hSw; obtain ⟨s0, s1⟩ := hSw; go_simp
  simp only [List.setIfInBounds_toArray, List.set_cons_zero, List.set_cons_succ]
  refine wpAnyH_done (by kernel_rfl) ?_ _
  refine NoPanic.normal ?_
  clear hH
  go_wp2_with fail
  go_ret
  exact ⟨rfl, (Below.refl _ w).drew⟩
/-- the types so far -/
def TyI (w wr : World) (i : Nat) : Prop := Below w.heap.size w wr ∧ wr.heap[w.heap.size]? = some (.cells (if i = 0 then #[.int .i64 0, .int .i64 0, .int .i64 0, .int .i64 0] else if i = 1 then #[.int .i64 1, .int .i64 0, .int .i64 0, .int .i64 0] else #[.int .i64 1, .int .i64 1, .int .i64 0, .int .i64 0]) 3 (0, 0))
theorem TyI.next0 {w wr w1 : World} (h : TyI w wr 0) (hb : Below wr.heap.size wr w1) : TyI w ((w1.alloc (.cells #[.int .i64 1] 3)).setCell ⟨w.heap.size, 0, none⟩ (.int .i64 1)) 1 := by
  obtain ⟨h1, h2⟩ := h
  have l2 := lt_of_some h2
  have s1 := hb.size
  have sz := h1.size
  have b := (Below.refl w1.heap.size w1).alloc (Nat.le_refl _) (.cells #[.int .i64 1] 3)
  have e1 := (b.block _ (by omega)).trans ((hb.block _ l2).trans h2)
  have z := b.size
  have f := (Off.refl w.heap.size w.heap.size (w1.alloc (.cells #[.int .i64 1] 3))).set (a := ⟨w.heap.size, 0, none⟩) (Or.inl rfl) (.int .i64 1)
  exact ⟨((h1.trans (hb.mono h1.size)).trans (b.mono (by omega))).trans (f.below (Nat.le_refl _) (Nat.le_refl _)), heap_set_inX e1⟩
theorem TyI.next1 {w wr w1 : World} (h : TyI w wr 1) (hb : Below wr.heap.size wr w1) : TyI w ((w1.alloc (.cells #[.int .i64 1] 3)).setCell ⟨w.heap.size, 1, none⟩ (.int .i64 1)) 2 := by
  obtain ⟨h1, h2⟩ := h
  have l2 := lt_of_some h2
  have s1 := hb.size
  have sz := h1.size
  have b := (Below.refl w1.heap.size w1).alloc (Nat.le_refl _) (.cells #[.int .i64 1] 3)
  have e1 := (b.block _ (by omega)).trans ((hb.block _ l2).trans h2)
  have z := b.size
  have f := (Off.refl w.heap.size w.heap.size (w1.alloc (.cells #[.int .i64 1] 3))).set (a := ⟨w.heap.size, 1, none⟩) (Or.inl rfl) (.int .i64 1)
  exact ⟨((h1.trans (hb.mono h1.size)).trans (b.mono (by omega))).trans (f.below (Nat.le_refl _) (Nat.le_refl _)), heap_set_inX e1⟩
set_option maxHeartbeats 4000000 in
set_option maxRecDepth 1000000 in
theorem typeOf_P (pe gP gC gR sp : Nat) (w : World) (h : LvW w pe gP gC gR sp) : Calls Tryz.prog 41 #[.pointer (some ⟨pe, 0, none⟩), .pointer (some ⟨sp, 0, none⟩)] w fun e w' => e = .returned (.int .i64 1) ∧ Below w.heap.size w w' := by
  have hms := make4
  obtain ⟨W, hW⟩ : ∃ W, W = w.alloc (.cells #[.int .i64 0, .int .i64 0, .int .i64 0, .int .i64 0] 3) := ⟨_, rfl⟩
  have I0 : TyI w W 0 := by rw [hW]; exact ⟨(Below.refl _ w).alloc (Nat.le_refl _) _, heap_alloc_new _ _⟩
  have HW := mkHid hW
  have HI0 := mkHid I0
  have p0 := (h.below I0.1).p0; have p1 := (h.below I0.1).p1; have p2 := (h.below I0.1).p2; have p3 := (h.below I0.1).p3; have p4 := (h.below I0.1).p4; have p5 := (h.below I0.1).p5; have p6 := (h.below I0.1).p6; have p7 := (h.below I0.1).p7; have p8 := (h.below I0.1).p8
  rw [hW] at p0 p1 p2 p3 p4 p5 p6 p7 p8
  clear I0 hW
  go_enter Tryz.func41, Tryz.ntmps41
  go_wp2_with fail
  clear p0 p1 p2 p3 p4 p5 p6 p7 p8
  go_loopw [5, 13] (fun s5 s13 wr => ∃ i : Nat, s13 = .int .i64 i ∧ i ≤ 2 ∧ s5 = .slice (some ⟨w.heap.size, 0, none⟩) i 4 ∧ Hid (TyI w wr i)) (fun _ s13 _ => 2 - (intOf s13).toNat)
  case atStart => rw [← HW.out]; exact ⟨0, rfl, by omega, rfl, HI0⟩
  case round =>
    obtain ⟨i, rfl, hi, rfl, HI⟩ := hrel
    clear HI0
    have p0 := (h.below HI.out.1).p0; have p1 := (h.below HI.out.1).p1; have p2 := (h.below HI.out.1).p2; have p3 := (h.below HI.out.1).p3; have p4 := (h.below HI.out.1).p4; have p5 := (h.below HI.out.1).p5; have p6 := (h.below HI.out.1).p6; have p7 := (h.below HI.out.1).p7; have p8 := (h.below HI.out.1).p8
    rcases (show i = 0 ∨ i = 1 ∨ i = 2 by omega) with rfl | rfl | rfl
    · have HA := mkHid (typeOf_A pe gP gC gR sp wr (h.below HI.out.1))
      go_wp2_with (go_at_call 41; refine HA.out.mono ?_; rintro e w1 ⟨rfl, hb1⟩; have E1 := (hb1.block _ (lt_of_some HI.out.2)).trans HI.out.2; have y0 : w1.cell? ⟨w.heap.size, 0, none⟩ = some (.int .i64 0) := (cell_of_block E1 0).trans rfl; have g0 := unfrozen_of_block E1 0; have y1 : w1.cell? ⟨w.heap.size, 1, none⟩ = some (.int .i64 0) := (cell_of_block E1 1).trans rfl; have g1 := unfrozen_of_block E1 1; have z0 : (w1.alloc (.cells #[.int .i64 1] 3)).cell? ⟨w.heap.size, 0, none⟩ = some (.int .i64 0) := cellNext ((Below.refl _ _).alloc (Nat.le_refl _) _) y0; have z1 : (w1.alloc (.cells #[.int .i64 1] 3)).cell? ⟨w.heap.size, 1, none⟩ = some (.int .i64 0) := cellNext ((Below.refl _ _).alloc (Nat.le_refl _) _) y1; have q0 : (w1.alloc (.cells #[.int .i64 1] 3)).frozen? ⟨w.heap.size, 0, none⟩ = false := (by rw [frozen?_alloc_cells]; exact g0); have q1 : (w1.alloc (.cells #[.int .i64 1] 3)).frozen? ⟨w.heap.size, 1, none⟩ = false := (by rw [frozen?_alloc_cells]; exact g1); have ne1 : w.heap.size ≠ w1.heap.size := (by have := lt_of_some E1; omega); have B1 := mkHid hb1; clear hb1 E1)
      go_roundw
      case rel => exact ⟨1, rfl, by omega, rfl, mkHid (TyI.next0 HI.out B1.out)⟩
      case measure => simp [intOf]
    · have HA := mkHid (typeOf_V pe gP gC gR sp wr (h.below HI.out.1))
      go_wp2_with (go_at_call 41; refine HA.out.mono ?_; rintro e w1 ⟨rfl, hb1⟩; have E1 := (hb1.block _ (lt_of_some HI.out.2)).trans HI.out.2; have y0 : w1.cell? ⟨w.heap.size, 0, none⟩ = some (.int .i64 1) := (cell_of_block E1 0).trans rfl; have g0 := unfrozen_of_block E1 0; have y1 : w1.cell? ⟨w.heap.size, 1, none⟩ = some (.int .i64 0) := (cell_of_block E1 1).trans rfl; have g1 := unfrozen_of_block E1 1; have z0 : (w1.alloc (.cells #[.int .i64 1] 3)).cell? ⟨w.heap.size, 0, none⟩ = some (.int .i64 1) := cellNext ((Below.refl _ _).alloc (Nat.le_refl _) _) y0; have z1 : (w1.alloc (.cells #[.int .i64 1] 3)).cell? ⟨w.heap.size, 1, none⟩ = some (.int .i64 0) := cellNext ((Below.refl _ _).alloc (Nat.le_refl _) _) y1; have q0 : (w1.alloc (.cells #[.int .i64 1] 3)).frozen? ⟨w.heap.size, 0, none⟩ = false := (by rw [frozen?_alloc_cells]; exact g0); have q1 : (w1.alloc (.cells #[.int .i64 1] 3)).frozen? ⟨w.heap.size, 1, none⟩ = false := (by rw [frozen?_alloc_cells]; exact g1); have ne1 : w.heap.size ≠ w1.heap.size := (by have := lt_of_some E1; omega); have B1 := mkHid hb1; clear hb1 E1)
      go_roundw
      case rel => exact ⟨2, rfl, by omega, rfl, mkHid (TyI.next1 HI.out B1.out)⟩
      case measure => simp [intOf]
    · have HT := mkHid (typeBy_P pe gP gC gR sp w.heap.size wr (h.below HI.out.1) HI.out.2)
      go_wp2_with (go_at_call 60; refine HT.out.mono ?_; rintro e w1 ⟨rfl, b9⟩)
      go_ret
      exact ⟨rfl, HI.out.1.trans (b9.mono HI.out.1.size)⟩
set_option maxHeartbeats 4000000 in
set_option maxRecDepth 1000000 in
theorem checked_P (pe gP gC gR sp : Nat) (w : World) (h : LvW w pe gP gC gR sp) : Calls Tryz.prog 31 #[.pointer (some ⟨pe, 0, none⟩), .pointer (some ⟨sp, 0, none⟩)] w fun e w' => e = .returned (.int .i64 1) ∧ Below w.heap.size w w' := by
  have CF := mkHid (checkForm_P pe gP gC gR sp w h)
  have TY := mkHid (fun w h => typeOf_P pe gP gC gR sp w h)
  have H := mkHid h
  clear h
  go_enter Tryz.func31, Tryz.ntmps31
  go_wp2_with (first | (go_at_call 40; refine CF.out.mono ?_; rintro e w1 ⟨rfl, b1⟩) | (go_at_call 41; refine (TY.out _ (H.out.below b1)).mono ?_; rintro e w2 ⟨rfl, b2⟩))
  go_ret
  exact ⟨rfl, b1.trans (b2.mono b1.size)⟩
end Go.Proofs.YtokppkinhlcafaaGreatDoor
