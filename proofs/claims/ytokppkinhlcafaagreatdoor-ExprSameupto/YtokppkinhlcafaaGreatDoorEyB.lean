/-
  a + 2 comes to 7.
-/
import Derived.Test.YtokppkinhlcafaaGreatDoorEyA
namespace Go.Proofs.YtokppkinhlcafaaGreatDoor
open Go.RowKit Go.Joins
set_option maxRecDepth 100000

/-- the Parts' values so far -/
def DnI (w wr : World) (i : Nat) : Prop := Below w.heap.size w wr ∧ wr.heap[w.heap.size]? = some (.cells #[.int .i64 0, .int .i64 0, .string ⟨#[]⟩] 24 (0, 0)) ∧ wr.heap[w.heap.size + 1]? = some (.cells (if i = 0 then #[.int .i64 0, .int .i64 0, .string ⟨#[]⟩, .int .i64 0, .int .i64 0, .string ⟨#[]⟩, .int .i64 0, .int .i64 0, .string ⟨#[]⟩] else if i = 1 then #[.int .i64 1, .int .i64 5, .string ⟨#[]⟩, .int .i64 0, .int .i64 0, .string ⟨#[]⟩, .int .i64 0, .int .i64 0, .string ⟨#[]⟩] else #[.int .i64 1, .int .i64 5, .string ⟨#[]⟩, .int .i64 1, .int .i64 2, .string ⟨#[]⟩, .int .i64 0, .int .i64 0, .string ⟨#[]⟩]) 91 (0, 0))
theorem DnI.below {w wr w1 : World} {i : Nat} (h : DnI w wr i) (hb : Below wr.heap.size wr w1) : DnI w w1 i := by
  obtain ⟨h1, h2, h3⟩ := h
  exact ⟨h1.trans (hb.mono h1.size), (hb.block _ (lt_of_some h2)).trans h2, (hb.block _ (lt_of_some h3)).trans h3⟩
theorem DnI.step0 {w wr : World} (h : DnI w wr 0) : DnI w (((wr.setCell ⟨w.heap.size + 1, 0, none⟩ (.int .i64 1)).setCell ⟨w.heap.size + 1, 1, none⟩ (.int .i64 5)).setCell ⟨w.heap.size + 1, 2, none⟩ (.string ⟨#[]⟩)) 1 := by
  obtain ⟨h1, h2, h3⟩ := h
  have f := (((Off.refl (w.heap.size + 1) (w.heap.size + 1) wr).set (a := ⟨w.heap.size + 1, 0, none⟩) (Or.inl rfl) (.int .i64 1)).set (a := ⟨w.heap.size + 1, 1, none⟩) (Or.inl rfl) (.int .i64 5)).set (a := ⟨w.heap.size + 1, 2, none⟩) (Or.inl rfl) (.string ⟨#[]⟩)
  exact ⟨h1.trans (f.below (by omega) (by omega)), (f.block _ (by omega) (by omega)).trans h2, heap_set_inX (heap_set_inX (heap_set_inX h3))⟩
theorem DnI.step1 {w wr : World} (h : DnI w wr 1) : DnI w (((wr.setCell ⟨w.heap.size + 1, 3, none⟩ (.int .i64 1)).setCell ⟨w.heap.size + 1, 4, none⟩ (.int .i64 2)).setCell ⟨w.heap.size + 1, 5, none⟩ (.string ⟨#[]⟩)) 2 := by
  obtain ⟨h1, h2, h3⟩ := h
  have f := (((Off.refl (w.heap.size + 1) (w.heap.size + 1) wr).set (a := ⟨w.heap.size + 1, 3, none⟩) (Or.inl rfl) (.int .i64 1)).set (a := ⟨w.heap.size + 1, 4, none⟩) (Or.inl rfl) (.int .i64 2)).set (a := ⟨w.heap.size + 1, 5, none⟩) (Or.inl rfl) (.string ⟨#[]⟩)
  exact ⟨h1.trans (f.below (by omega) (by omega)), (f.block _ (by omega) (by omega)).trans h2, heap_set_inX (heap_set_inX (heap_set_inX h3))⟩
set_option maxHeartbeats 4000000 in
set_option maxRecDepth 1000000 in
theorem done_P (pe gP gC gR sp gg : Nat) (w : World) (h : LvW w pe gP gC gR sp) (g : GvW w gg gR sp) : Calls Tryz.prog 51 #[.pointer (some ⟨gg, 0, none⟩), .pointer (some ⟨pe, 0, none⟩)] w fun e w' => e = .returned (.agg #[.int .i64 1, .int .i64 7, .string ⟨#[]⟩]) ∧ Below w.heap.size w w' := by
  obtain ⟨W, hW⟩ : ∃ W, W = (w.alloc (.cells #[.int .i64 0, .int .i64 0, .string ⟨#[]⟩] 24)).alloc (.cells #[.int .i64 0, .int .i64 0, .string ⟨#[]⟩, .int .i64 0, .int .i64 0, .string ⟨#[]⟩, .int .i64 0, .int .i64 0, .string ⟨#[]⟩] 91) := ⟨_, rfl⟩
  have I0 : DnI w W 0 := by
    have e2 := heap_alloc_new (w.alloc (.cells #[.int .i64 0, .int .i64 0, .string ⟨#[]⟩] 24)) (.cells #[.int .i64 0, .int .i64 0, .string ⟨#[]⟩, .int .i64 0, .int .i64 0, .string ⟨#[]⟩, .int .i64 0, .int .i64 0, .string ⟨#[]⟩] 91)
    rw [World.size_alloc] at e2
    rw [hW]; exact ⟨((Below.refl _ w).alloc (Nat.le_refl _) _).alloc (by simp) _, heap_alloc_at (heap_alloc_new _ _), e2⟩
  have HI0 := mkHid I0
  have HW := mkHid hW
  have RE := mkHid (fun w => Reckon_52 w)
  have SU := mkHid (fun w => sure_7 w)
  have p0 := (h.below I0.1).p0; have p1 := (h.below I0.1).p1; have p2 := (h.below I0.1).p2; have p3 := (h.below I0.1).p3; have p4 := (h.below I0.1).p4; have p5 := (h.below I0.1).p5; have p6 := (h.below I0.1).p6; have p7 := (h.below I0.1).p7; have p8 := (h.below I0.1).p8
  rw [hW] at p0 p1 p2 p3 p4 p5 p6 p7 p8
  clear I0 hW
  go_enter Tryz.func51, Tryz.ntmps51
  go_wp2_with fail
  clear p0 p1 p2 p3 p4 p5 p6 p7 p8
  go_loopw [14] (fun sk wr => ∃ i : Nat, sk = .int .i64 i ∧ i ≤ 2 ∧ Hid (DnI w wr i)) (fun sk _ => 2 - (intOf sk).toNat)
  case atStart => rw [← HW.out]; exact ⟨0, rfl, by omega, HI0⟩
  case round =>
    obtain ⟨i, rfl, hi, HI⟩ := hrel
    clear HI0
    have p0 := (h.below HI.out.1).p0; have p1 := (h.below HI.out.1).p1; have p2 := (h.below HI.out.1).p2; have p3 := (h.below HI.out.1).p3; have p4 := (h.below HI.out.1).p4; have p5 := (h.below HI.out.1).p5; have p6 := (h.below HI.out.1).p6; have p7 := (h.below HI.out.1).p7; have p8 := (h.below HI.out.1).p8
    rcases (show i = 0 ∨ i = 1 ∨ i = 2 by omega) with rfl | rfl | rfl
    · have VA := mkHid (value_A pe gP gC gR sp gg wr (h.below HI.out.1) (g.below HI.out.1))
      go_wp2_with (go_at_call 33; refine VA.out.mono ?_; rintro e w1 ⟨rfl, hb1⟩; have E1 := HI.out.below hb1; have y0 : w1.cell? ⟨w.heap.size + 1, 0, none⟩ = some (.int .i64 0) := (cell_of_block E1.2.2 0).trans rfl; have f0 := unfrozen_of_block E1.2.2 0; have y1 : w1.cell? ⟨w.heap.size + 1, 1, none⟩ = some (.int .i64 0) := (cell_of_block E1.2.2 1).trans rfl; have f1 := unfrozen_of_block E1.2.2 1; have y2 : w1.cell? ⟨w.heap.size + 1, 2, none⟩ = some (.string ⟨#[]⟩) := (cell_of_block E1.2.2 2).trans rfl; have f2 := unfrozen_of_block E1.2.2 2; clear hb1)
      go_roundw
      case rel => exact ⟨1, rfl, by omega, mkHid (DnI.step0 E1)⟩
      case measure => simp [intOf]
    · have VA := mkHid (value_V pe gP gC gR sp gg wr (h.below HI.out.1) (g.below HI.out.1))
      go_wp2_with (go_at_call 33; refine VA.out.mono ?_; rintro e w1 ⟨rfl, hb1⟩; have E1 := HI.out.below hb1; have y3 : w1.cell? ⟨w.heap.size + 1, 3, none⟩ = some (.int .i64 0) := (cell_of_block E1.2.2 3).trans rfl; have f3 := unfrozen_of_block E1.2.2 3; have y4 : w1.cell? ⟨w.heap.size + 1, 4, none⟩ = some (.int .i64 0) := (cell_of_block E1.2.2 4).trans rfl; have f4 := unfrozen_of_block E1.2.2 4; have y5 : w1.cell? ⟨w.heap.size + 1, 5, none⟩ = some (.string ⟨#[]⟩) := (cell_of_block E1.2.2 5).trans rfl; have f5 := unfrozen_of_block E1.2.2 5; clear hb1)
      go_roundw
      case rel => exact ⟨2, rfl, by omega, mkHid (DnI.step1 E1)⟩
      case measure => simp [intOf]
    · have y0 : wr.cell? ⟨w.heap.size + 1, 0, none⟩ = some (.int .i64 1) := (cell_of_block HI.out.2.2 0).trans rfl; have u0 : ∀ o, (wr.alloc o).cell? ⟨w.heap.size + 1, 0, none⟩ = some (.int .i64 1) := fun o => cellNext ((Below.refl _ _).alloc (Nat.le_refl _) o) y0; have v0 : ∀ o p, ((wr.alloc o).alloc p).cell? ⟨w.heap.size + 1, 0, none⟩ = some (.int .i64 1) := fun o p => cellNext ((Below.refl _ _).alloc (Nat.le_refl _) p) (u0 o); have y1 : wr.cell? ⟨w.heap.size + 1, 1, none⟩ = some (.int .i64 5) := (cell_of_block HI.out.2.2 1).trans rfl; have u1 : ∀ o, (wr.alloc o).cell? ⟨w.heap.size + 1, 1, none⟩ = some (.int .i64 5) := fun o => cellNext ((Below.refl _ _).alloc (Nat.le_refl _) o) y1; have v1 : ∀ o p, ((wr.alloc o).alloc p).cell? ⟨w.heap.size + 1, 1, none⟩ = some (.int .i64 5) := fun o p => cellNext ((Below.refl _ _).alloc (Nat.le_refl _) p) (u1 o); have y2 : wr.cell? ⟨w.heap.size + 1, 2, none⟩ = some (.string ⟨#[]⟩) := (cell_of_block HI.out.2.2 2).trans rfl; have u2 : ∀ o, (wr.alloc o).cell? ⟨w.heap.size + 1, 2, none⟩ = some (.string ⟨#[]⟩) := fun o => cellNext ((Below.refl _ _).alloc (Nat.le_refl _) o) y2; have v2 : ∀ o p, ((wr.alloc o).alloc p).cell? ⟨w.heap.size + 1, 2, none⟩ = some (.string ⟨#[]⟩) := fun o p => cellNext ((Below.refl _ _).alloc (Nat.le_refl _) p) (u2 o); have y3 : wr.cell? ⟨w.heap.size + 1, 3, none⟩ = some (.int .i64 1) := (cell_of_block HI.out.2.2 3).trans rfl; have u3 : ∀ o, (wr.alloc o).cell? ⟨w.heap.size + 1, 3, none⟩ = some (.int .i64 1) := fun o => cellNext ((Below.refl _ _).alloc (Nat.le_refl _) o) y3; have v3 : ∀ o p, ((wr.alloc o).alloc p).cell? ⟨w.heap.size + 1, 3, none⟩ = some (.int .i64 1) := fun o p => cellNext ((Below.refl _ _).alloc (Nat.le_refl _) p) (u3 o); have y4 : wr.cell? ⟨w.heap.size + 1, 4, none⟩ = some (.int .i64 2) := (cell_of_block HI.out.2.2 4).trans rfl; have u4 : ∀ o, (wr.alloc o).cell? ⟨w.heap.size + 1, 4, none⟩ = some (.int .i64 2) := fun o => cellNext ((Below.refl _ _).alloc (Nat.le_refl _) o) y4; have v4 : ∀ o p, ((wr.alloc o).alloc p).cell? ⟨w.heap.size + 1, 4, none⟩ = some (.int .i64 2) := fun o p => cellNext ((Below.refl _ _).alloc (Nat.le_refl _) p) (u4 o); have y5 : wr.cell? ⟨w.heap.size + 1, 5, none⟩ = some (.string ⟨#[]⟩) := (cell_of_block HI.out.2.2 5).trans rfl; have u5 : ∀ o, (wr.alloc o).cell? ⟨w.heap.size + 1, 5, none⟩ = some (.string ⟨#[]⟩) := fun o => cellNext ((Below.refl _ _).alloc (Nat.le_refl _) o) y5; have v5 : ∀ o p, ((wr.alloc o).alloc p).cell? ⟨w.heap.size + 1, 5, none⟩ = some (.string ⟨#[]⟩) := fun o p => cellNext ((Below.refl _ _).alloc (Nat.le_refl _) p) (u5 o); have nn : w.heap.size + 1 < wr.heap.size := lt_of_some HI.out.2.2; have n1 : w.heap.size + 1 ≠ wr.heap.size := (by omega); have n2 : w.heap.size + 1 ≠ wr.heap.size + 1 := (by omega)
      go_wp2_with fail
      go_region
      · obtain ⟨W7, hW7⟩ : ∃ W, W = ((wr.alloc (.cells #[.int .i64 1, .int .i64 5, .string ⟨#[]⟩] 24)).alloc (.cells #[.int .i64 1, .int .i64 2, .string ⟨#[]⟩] 24)).drew := ⟨_, rfl⟩
        have L7 : Below wr.heap.size wr W7 := by rw [hW7]; exact (((Below.refl _ wr).alloc (Nat.le_refl _) _).alloc (by simp) _).drew
        have A7 : W7.heap[wr.heap.size]? = some (.cells #[.int .i64 1, .int .i64 5, .string ⟨#[]⟩] 24 (0, 0)) := by rw [hW7]; exact heap_alloc_at (heap_alloc_new wr _)
        have B7 : W7.heap[wr.heap.size + 1]? = some (.cells #[.int .i64 1, .int .i64 2, .string ⟨#[]⟩] 24 (0, 0)) := by rw [hW7]; exact (by have e := heap_alloc_new (wr.alloc (.cells #[.int .i64 1, .int .i64 5, .string ⟨#[]⟩] 24)) (.cells #[.int .i64 1, .int .i64 2, .string ⟨#[]⟩] 24); rw [World.size_alloc] at e; exact e)
        obtain ⟨na, hna⟩ : ∃ n, n = wr.heap.size := ⟨_, rfl⟩
        obtain ⟨nb, hnb⟩ : ∃ n, n = wr.heap.size + 1 := ⟨_, rfl⟩
        have za : w.heap.size < na := by omega
        have zb : w.heap.size < nb := by omega
        rw [← hnb, ← hna]
        rw [← hna] at A7
        rw [← hnb] at B7
        rw [← hW7]
        clear hW7 hna hnb
        clear y0 u0 v0 y1 u1 v1 y2 u2 v2 y3 u3 v3 y4 u4 v4 y5 u5 v5 p0 p1 p2 p3 p4 p5 p6 p7 p8
        have LL := HI.out.1.trans (L7.mono HI.out.1.size)
        have Z7 : W7.heap[w.heap.size]? = some (.cells #[.int .i64 0, .int .i64 0, .string ⟨#[]⟩] 24 (0, 0)) := (L7.block _ (lt_of_some HI.out.2.1)).trans HI.out.2.1
        have p0 := (h.below LL).p0
        have p1 := (h.below LL).p1
        have p2 := (h.below LL).p2
        have p3 := (h.below LL).p3
        have p4 := (h.below LL).p4
        have p5 := (h.below LL).p5
        have p6 := (h.below LL).p6
        have p7 := (h.below LL).p7
        have p8 := (h.below LL).p8
        have npe : pe < w.heap.size := World.block_lt_of_cell? _ _ h.p0
        have SS : Hid (∀ w', Below W7.heap.size W7 w' → w'.cell? ⟨pe, 0, none⟩ = some (.string ⟨#[43]⟩) ∧ w'.cell? ⟨na, 0, none⟩ = some (.int .i64 1) ∧ w'.cell? ⟨na, 1, none⟩ = some (.int .i64 5) ∧ w'.cell? ⟨na, 2, none⟩ = some (.string ⟨#[]⟩) ∧ w'.cell? ⟨nb, 0, none⟩ = some (.int .i64 1) ∧ w'.cell? ⟨nb, 1, none⟩ = some (.int .i64 2) ∧ w'.cell? ⟨nb, 2, none⟩ = some (.string ⟨#[]⟩)) := fun w' hb => ⟨cellNext hb p0, cellNext hb ((cell_of_block A7 0).trans rfl), cellNext hb ((cell_of_block A7 1).trans rfl), cellNext hb ((cell_of_block A7 2).trans rfl), cellNext hb ((cell_of_block B7 0).trans rfl), cellNext hb ((cell_of_block B7 1).trans rfl), cellNext hb ((cell_of_block B7 2).trans rfl)⟩
        have LLH := mkHid LL
        have Z7H := mkHid Z7
        clear L7 A7 B7 HI LL Z7
        go_wp2_with fail
        refine wp_region_noPanic ?_
        refine wp_region_held_drew (S := fun w' => w'.cell? ⟨pe, 0, none⟩ = some (.string ⟨#[43]⟩) ∧ w'.cell? ⟨na, 0, none⟩ = some (.int .i64 1) ∧ w'.cell? ⟨na, 1, none⟩ = some (.int .i64 5) ∧ w'.cell? ⟨na, 2, none⟩ = some (.string ⟨#[]⟩) ∧ w'.cell? ⟨nb, 0, none⟩ = some (.int .i64 1) ∧ w'.cell? ⟨nb, 1, none⟩ = some (.int .i64 2) ∧ w'.cell? ⟨nb, 2, none⟩ = some (.string ⟨#[]⟩)) (by kernel_rfl) (SS.out _ (Below.refl _ _).drew) (fun hH => ?_)
        refine take_at (i := 0) (v := .pointer (some ⟨pe, 0, none⟩)) rfl rfl (by kernel_rfl) (by kernel_rfl) (by kernel_rfl) (fun _ _ _ h => h) (Or.inl ⟨by rfl, ?_⟩) hH ?_
        · intro w5 hSw; obtain ⟨q0, q1, q2, q3, q4, q5, q6⟩ := hSw; go_simp
        simp only [List.setIfInBounds_toArray, List.set_cons_zero, List.set_cons_succ]
        refine take_at (i := 1) (v := .pointer (some ⟨pe, 0, none⟩)) rfl rfl (by kernel_rfl) (by kernel_rfl) (by kernel_rfl) (fun _ _ _ h => h) (Or.inl ⟨by rfl, ?_⟩) hH ?_
        · intro w5 hSw; obtain ⟨q0, q1, q2, q3, q4, q5, q6⟩ := hSw; go_simp
        simp only [List.setIfInBounds_toArray, List.set_cons_zero, List.set_cons_succ]
        refine take_at (i := 2) (v := .pointer (some ⟨pe, 0, none⟩)) rfl rfl (by kernel_rfl) (by kernel_rfl) (by kernel_rfl) (fun _ _ _ h => h) (Or.inl ⟨by rfl, ?_⟩) hH ?_
        · intro w5 hSw; obtain ⟨q0, q1, q2, q3, q4, q5, q6⟩ := hSw; go_simp
        simp only [List.setIfInBounds_toArray, List.set_cons_zero, List.set_cons_succ]
        refine take_at (i := 3) (v := .string ⟨#[43]⟩) rfl rfl (by kernel_rfl) (by kernel_rfl) (by kernel_rfl) (fun _ _ _ h => h) (Or.inl ⟨by rfl, ?_⟩) hH ?_
        · intro w5 hSw; obtain ⟨q0, q1, q2, q3, q4, q5, q6⟩ := hSw; go_simp
        simp only [List.setIfInBounds_toArray, List.set_cons_zero, List.set_cons_succ]
        refine take_at (i := 4) (v := .agg #[.int .i64 1, .int .i64 5, .string ⟨#[]⟩]) rfl rfl (by kernel_rfl) (by kernel_rfl) (by kernel_rfl) (fun _ _ _ h => h) (Or.inl ⟨by rfl, ?_⟩) hH ?_
        · intro w5 hSw; obtain ⟨q0, q1, q2, q3, q4, q5, q6⟩ := hSw; go_simp
        simp only [List.setIfInBounds_toArray, List.set_cons_zero, List.set_cons_succ]
        refine take_at (i := 5) (v := .agg #[.int .i64 1, .int .i64 2, .string ⟨#[]⟩]) rfl rfl (by kernel_rfl) (by kernel_rfl) (by kernel_rfl) (fun _ _ _ h => h) (Or.inl ⟨by rfl, ?_⟩) hH ?_
        · intro w5 hSw; obtain ⟨q0, q1, q2, q3, q4, q5, q6⟩ := hSw; go_simp
        simp only [List.setIfInBounds_toArray, List.set_cons_zero, List.set_cons_succ]
        refine wpAnyH_ready (rs := [6]) (by kernel_rfl) (by simp) ?_
        refine AllReadyH.cons rfl (fun K hK => ?_) AllReadyH.nil
        go_simp
        go_at_call 75
        refine (RE.out _).mono ?_
        rintro e w1 ⟨rfl, hb1⟩
        have B1 : Below W7.heap.size W7 w1 := (Below.refl _ W7).drew.trans (hb1.mono (Nat.le_refl _))
        clear hb1
        go_wp2_with fail
        refine hK.out _ _ (SS.out _ B1) (fun hH => ?_)
        clear hK K
        refine take_at (i := 7) (v := .agg #[.int .i64 1, .int .i64 7, .string ⟨#[]⟩]) rfl rfl (by kernel_rfl) (by kernel_rfl) (by kernel_rfl) (fun _ _ _ h => h) (Or.inl ⟨by rfl, ?_⟩) hH ?_
        · intro w5 hSw; go_simp
        simp only [List.setIfInBounds_toArray, List.set_cons_zero, List.set_cons_succ]
        refine take_at (i := 8) (v := .int .i64 0) rfl rfl (by kernel_rfl) (by kernel_rfl) (by kernel_rfl) (fun _ _ _ h => h) (Or.inl ⟨by rfl, ?_⟩) hH ?_
        · intro w5 hSw; go_simp
        simp only [List.setIfInBounds_toArray, List.set_cons_zero, List.set_cons_succ]
        refine wpAnyH_ready (rs := [9]) (by kernel_rfl) (by simp) ?_
        refine AllReadyH.cons rfl (fun K hK => ?_) AllReadyH.nil
        go_simp
        go_at_call 66
        refine (SU.out _).mono ?_
        rintro e w2 ⟨rfl, hb2⟩
        have B2 : Below W7.heap.size W7 w2 := B1.trans (hb2.mono B1.size)
        clear hb2
        go_wp2_with fail
        refine hK.out _ _ (SS.out _ B2) (fun hH => ?_)
        clear hK K
        refine wpAnyH_ready (rs := [10]) (by kernel_rfl) (by simp) ?_
        refine AllReadyH.cons rfl (fun K hK => ?_) AllReadyH.nil
        have EZ := (B2.block _ (lt_of_some Z7H.out)).trans Z7H.out
        have z0 : w2.cell? ⟨w.heap.size, 0, none⟩ = some (.int .i64 0) := (cell_of_block EZ 0).trans rfl
        have z1 : w2.cell? ⟨w.heap.size, 1, none⟩ = some (.int .i64 0) := (cell_of_block EZ 1).trans rfl
        have z2 : w2.cell? ⟨w.heap.size, 2, none⟩ = some (.string ⟨#[]⟩) := (cell_of_block EZ 2).trans rfl
        have f0 := unfrozen_of_block EZ 0
        have f1 := unfrozen_of_block EZ 1
        have f2 := unfrozen_of_block EZ 2
        clear EZ
        go_simp
        have hf := ((Off.refl w.heap.size w.heap.size w2).set (a := ⟨w.heap.size, 0, none⟩) (Or.inl rfl) (.int .i64 1)).set (a := ⟨w.heap.size, 1, none⟩) (Or.inl rfl) (.int .i64 7) |>.set (a := ⟨w.heap.size, 2, none⟩) (Or.inl rfl) (.string ⟨#[]⟩)
        have T2 := SS.out _ B2
        refine hK.out _ _ ⟨hf.cell (by omega) (by omega) T2.1, hf.cell (by omega) (by omega) T2.2.1, hf.cell (by omega) (by omega) T2.2.2.1, hf.cell (by omega) (by omega) T2.2.2.2.1, hf.cell (by omega) (by omega) T2.2.2.2.2.1, hf.cell (by omega) (by omega) T2.2.2.2.2.2.1, hf.cell (by omega) (by omega) T2.2.2.2.2.2.2⟩ (fun hH => ?_)
        clear hK K
        refine wpAnyH_done (by kernel_rfl) ?_ _
        refine NoPanic.normal ?_
        have B3 := mkHid ((LLH.out.trans (B2.mono LLH.out.size)).trans (hf.below (Nat.le_refl _) (Nat.le_refl _)))
        clear hH T2 hf B2 B1 SS LLH Z7H
        go_wp2_with fail
        refine bodyPost_ret (v := .agg #[.int .i64 1, .int .i64 7, .string ⟨#[]⟩]) (by simp [results, Tryz.results51, go_sem, z0, z1, z2]) rfl ⟨rfl, B3.out⟩
      · obtain ⟨W7, hW7⟩ : ∃ W, W = ((wr.alloc (.cells #[.int .i64 1, .int .i64 2, .string ⟨#[]⟩] 24)).alloc (.cells #[.int .i64 1, .int .i64 5, .string ⟨#[]⟩] 24)).drew := ⟨_, rfl⟩
        have L7 : Below wr.heap.size wr W7 := by rw [hW7]; exact (((Below.refl _ wr).alloc (Nat.le_refl _) _).alloc (by simp) _).drew
        have A7 : W7.heap[wr.heap.size + 1]? = some (.cells #[.int .i64 1, .int .i64 5, .string ⟨#[]⟩] 24 (0, 0)) := by rw [hW7]; exact (by have e := heap_alloc_new (wr.alloc (.cells #[.int .i64 1, .int .i64 2, .string ⟨#[]⟩] 24)) (.cells #[.int .i64 1, .int .i64 5, .string ⟨#[]⟩] 24); rw [World.size_alloc] at e; exact e)
        have B7 : W7.heap[wr.heap.size]? = some (.cells #[.int .i64 1, .int .i64 2, .string ⟨#[]⟩] 24 (0, 0)) := by rw [hW7]; exact heap_alloc_at (heap_alloc_new wr _)
        obtain ⟨na, hna⟩ : ∃ n, n = wr.heap.size + 1 := ⟨_, rfl⟩
        obtain ⟨nb, hnb⟩ : ∃ n, n = wr.heap.size := ⟨_, rfl⟩
        have za : w.heap.size < na := by omega
        have zb : w.heap.size < nb := by omega
        rw [← hna, ← hnb]
        rw [← hna] at A7
        rw [← hnb] at B7
        rw [← hW7]
        clear hW7 hna hnb
        clear y0 u0 v0 y1 u1 v1 y2 u2 v2 y3 u3 v3 y4 u4 v4 y5 u5 v5 p0 p1 p2 p3 p4 p5 p6 p7 p8
        have LL := HI.out.1.trans (L7.mono HI.out.1.size)
        have Z7 : W7.heap[w.heap.size]? = some (.cells #[.int .i64 0, .int .i64 0, .string ⟨#[]⟩] 24 (0, 0)) := (L7.block _ (lt_of_some HI.out.2.1)).trans HI.out.2.1
        have p0 := (h.below LL).p0
        have p1 := (h.below LL).p1
        have p2 := (h.below LL).p2
        have p3 := (h.below LL).p3
        have p4 := (h.below LL).p4
        have p5 := (h.below LL).p5
        have p6 := (h.below LL).p6
        have p7 := (h.below LL).p7
        have p8 := (h.below LL).p8
        have npe : pe < w.heap.size := World.block_lt_of_cell? _ _ h.p0
        have SS : Hid (∀ w', Below W7.heap.size W7 w' → w'.cell? ⟨pe, 0, none⟩ = some (.string ⟨#[43]⟩) ∧ w'.cell? ⟨na, 0, none⟩ = some (.int .i64 1) ∧ w'.cell? ⟨na, 1, none⟩ = some (.int .i64 5) ∧ w'.cell? ⟨na, 2, none⟩ = some (.string ⟨#[]⟩) ∧ w'.cell? ⟨nb, 0, none⟩ = some (.int .i64 1) ∧ w'.cell? ⟨nb, 1, none⟩ = some (.int .i64 2) ∧ w'.cell? ⟨nb, 2, none⟩ = some (.string ⟨#[]⟩)) := fun w' hb => ⟨cellNext hb p0, cellNext hb ((cell_of_block A7 0).trans rfl), cellNext hb ((cell_of_block A7 1).trans rfl), cellNext hb ((cell_of_block A7 2).trans rfl), cellNext hb ((cell_of_block B7 0).trans rfl), cellNext hb ((cell_of_block B7 1).trans rfl), cellNext hb ((cell_of_block B7 2).trans rfl)⟩
        have LLH := mkHid LL
        have Z7H := mkHid Z7
        clear L7 A7 B7 HI LL Z7
        go_wp2_with fail
        refine wp_region_noPanic ?_
        refine wp_region_held_drew (S := fun w' => w'.cell? ⟨pe, 0, none⟩ = some (.string ⟨#[43]⟩) ∧ w'.cell? ⟨na, 0, none⟩ = some (.int .i64 1) ∧ w'.cell? ⟨na, 1, none⟩ = some (.int .i64 5) ∧ w'.cell? ⟨na, 2, none⟩ = some (.string ⟨#[]⟩) ∧ w'.cell? ⟨nb, 0, none⟩ = some (.int .i64 1) ∧ w'.cell? ⟨nb, 1, none⟩ = some (.int .i64 2) ∧ w'.cell? ⟨nb, 2, none⟩ = some (.string ⟨#[]⟩)) (by kernel_rfl) (SS.out _ (Below.refl _ _).drew) (fun hH => ?_)
        refine take_at (i := 0) (v := .pointer (some ⟨pe, 0, none⟩)) rfl rfl (by kernel_rfl) (by kernel_rfl) (by kernel_rfl) (fun _ _ _ h => h) (Or.inl ⟨by rfl, ?_⟩) hH ?_
        · intro w5 hSw; obtain ⟨q0, q1, q2, q3, q4, q5, q6⟩ := hSw; go_simp
        simp only [List.setIfInBounds_toArray, List.set_cons_zero, List.set_cons_succ]
        refine take_at (i := 1) (v := .pointer (some ⟨pe, 0, none⟩)) rfl rfl (by kernel_rfl) (by kernel_rfl) (by kernel_rfl) (fun _ _ _ h => h) (Or.inl ⟨by rfl, ?_⟩) hH ?_
        · intro w5 hSw; obtain ⟨q0, q1, q2, q3, q4, q5, q6⟩ := hSw; go_simp
        simp only [List.setIfInBounds_toArray, List.set_cons_zero, List.set_cons_succ]
        refine take_at (i := 2) (v := .pointer (some ⟨pe, 0, none⟩)) rfl rfl (by kernel_rfl) (by kernel_rfl) (by kernel_rfl) (fun _ _ _ h => h) (Or.inl ⟨by rfl, ?_⟩) hH ?_
        · intro w5 hSw; obtain ⟨q0, q1, q2, q3, q4, q5, q6⟩ := hSw; go_simp
        simp only [List.setIfInBounds_toArray, List.set_cons_zero, List.set_cons_succ]
        refine take_at (i := 3) (v := .string ⟨#[43]⟩) rfl rfl (by kernel_rfl) (by kernel_rfl) (by kernel_rfl) (fun _ _ _ h => h) (Or.inl ⟨by rfl, ?_⟩) hH ?_
        · intro w5 hSw; obtain ⟨q0, q1, q2, q3, q4, q5, q6⟩ := hSw; go_simp
        simp only [List.setIfInBounds_toArray, List.set_cons_zero, List.set_cons_succ]
        refine take_at (i := 4) (v := .agg #[.int .i64 1, .int .i64 5, .string ⟨#[]⟩]) rfl rfl (by kernel_rfl) (by kernel_rfl) (by kernel_rfl) (fun _ _ _ h => h) (Or.inl ⟨by rfl, ?_⟩) hH ?_
        · intro w5 hSw; obtain ⟨q0, q1, q2, q3, q4, q5, q6⟩ := hSw; go_simp
        simp only [List.setIfInBounds_toArray, List.set_cons_zero, List.set_cons_succ]
        refine take_at (i := 5) (v := .agg #[.int .i64 1, .int .i64 2, .string ⟨#[]⟩]) rfl rfl (by kernel_rfl) (by kernel_rfl) (by kernel_rfl) (fun _ _ _ h => h) (Or.inl ⟨by rfl, ?_⟩) hH ?_
        · intro w5 hSw; obtain ⟨q0, q1, q2, q3, q4, q5, q6⟩ := hSw; go_simp
        simp only [List.setIfInBounds_toArray, List.set_cons_zero, List.set_cons_succ]
        refine wpAnyH_ready (rs := [6]) (by kernel_rfl) (by simp) ?_
        refine AllReadyH.cons rfl (fun K hK => ?_) AllReadyH.nil
        go_simp
        go_at_call 75
        refine (RE.out _).mono ?_
        rintro e w1 ⟨rfl, hb1⟩
        have B1 : Below W7.heap.size W7 w1 := (Below.refl _ W7).drew.trans (hb1.mono (Nat.le_refl _))
        clear hb1
        go_wp2_with fail
        refine hK.out _ _ (SS.out _ B1) (fun hH => ?_)
        clear hK K
        refine take_at (i := 7) (v := .agg #[.int .i64 1, .int .i64 7, .string ⟨#[]⟩]) rfl rfl (by kernel_rfl) (by kernel_rfl) (by kernel_rfl) (fun _ _ _ h => h) (Or.inl ⟨by rfl, ?_⟩) hH ?_
        · intro w5 hSw; go_simp
        simp only [List.setIfInBounds_toArray, List.set_cons_zero, List.set_cons_succ]
        refine take_at (i := 8) (v := .int .i64 0) rfl rfl (by kernel_rfl) (by kernel_rfl) (by kernel_rfl) (fun _ _ _ h => h) (Or.inl ⟨by rfl, ?_⟩) hH ?_
        · intro w5 hSw; go_simp
        simp only [List.setIfInBounds_toArray, List.set_cons_zero, List.set_cons_succ]
        refine wpAnyH_ready (rs := [9]) (by kernel_rfl) (by simp) ?_
        refine AllReadyH.cons rfl (fun K hK => ?_) AllReadyH.nil
        go_simp
        go_at_call 66
        refine (SU.out _).mono ?_
        rintro e w2 ⟨rfl, hb2⟩
        have B2 : Below W7.heap.size W7 w2 := B1.trans (hb2.mono B1.size)
        clear hb2
        go_wp2_with fail
        refine hK.out _ _ (SS.out _ B2) (fun hH => ?_)
        clear hK K
        refine wpAnyH_ready (rs := [10]) (by kernel_rfl) (by simp) ?_
        refine AllReadyH.cons rfl (fun K hK => ?_) AllReadyH.nil
        have EZ := (B2.block _ (lt_of_some Z7H.out)).trans Z7H.out
        have z0 : w2.cell? ⟨w.heap.size, 0, none⟩ = some (.int .i64 0) := (cell_of_block EZ 0).trans rfl
        have z1 : w2.cell? ⟨w.heap.size, 1, none⟩ = some (.int .i64 0) := (cell_of_block EZ 1).trans rfl
        have z2 : w2.cell? ⟨w.heap.size, 2, none⟩ = some (.string ⟨#[]⟩) := (cell_of_block EZ 2).trans rfl
        have f0 := unfrozen_of_block EZ 0
        have f1 := unfrozen_of_block EZ 1
        have f2 := unfrozen_of_block EZ 2
        clear EZ
        go_simp
        have hf := ((Off.refl w.heap.size w.heap.size w2).set (a := ⟨w.heap.size, 0, none⟩) (Or.inl rfl) (.int .i64 1)).set (a := ⟨w.heap.size, 1, none⟩) (Or.inl rfl) (.int .i64 7) |>.set (a := ⟨w.heap.size, 2, none⟩) (Or.inl rfl) (.string ⟨#[]⟩)
        have T2 := SS.out _ B2
        refine hK.out _ _ ⟨hf.cell (by omega) (by omega) T2.1, hf.cell (by omega) (by omega) T2.2.1, hf.cell (by omega) (by omega) T2.2.2.1, hf.cell (by omega) (by omega) T2.2.2.2.1, hf.cell (by omega) (by omega) T2.2.2.2.2.1, hf.cell (by omega) (by omega) T2.2.2.2.2.2.1, hf.cell (by omega) (by omega) T2.2.2.2.2.2.2⟩ (fun hH => ?_)
        clear hK K
        refine wpAnyH_done (by kernel_rfl) ?_ _
        refine NoPanic.normal ?_
        have B3 := mkHid ((LLH.out.trans (B2.mono LLH.out.size)).trans (hf.below (Nat.le_refl _) (Nat.le_refl _)))
        clear hH T2 hf B2 B1 SS LLH Z7H
        go_wp2_with fail
        refine bodyPost_ret (v := .agg #[.int .i64 1, .int .i64 7, .string ⟨#[]⟩]) (by simp [results, Tryz.results51, go_sem, z0, z1, z2]) rfl ⟨rfl, B3.out⟩
end Go.Proofs.YtokppkinhlcafaaGreatDoor
