/-
  5 + 2.
-/
import Derived.Test.YtokppkinhlcafaaGreatDoorExY
namespace Go.Proofs.YtokppkinhlcafaaGreatDoor
open Go.RowKit Go.Joins
set_option maxRecDepth 100000

/-- 5 and 2 -/
def Two52 (w : World) (g : Nat) : Prop := w.cell? ⟨g, 0, none⟩ = some (.int .i64 1) ∧ w.cell? ⟨g, 1, none⟩ = some (.int .i64 5) ∧ w.cell? ⟨g, 2, none⟩ = some (.string ⟨#[]⟩) ∧ w.cell? ⟨g, 3, none⟩ = some (.int .i64 1) ∧ w.cell? ⟨g, 4, none⟩ = some (.int .i64 2) ∧ w.cell? ⟨g, 5, none⟩ = some (.string ⟨#[]⟩)
theorem Two52.below {w w' : World} {g : Nat} (h : Two52 w g) (hb : Below w.heap.size w w') : Two52 w' g := by
  obtain ⟨h0, h1, h2, h3, h4, h5⟩ := h
  exact ⟨cellNext hb h0, cellNext hb h1, cellNext hb h2, cellNext hb h3, cellNext hb h4, cellNext hb h5⟩
theorem Two52.lt {w : World} {g : Nat} (h : Two52 w g) : g < w.heap.size := World.block_lt_of_cell? _ _ h.1
set_option maxHeartbeats 4000000 in
set_option maxRecDepth 1000000 in
theorem checkEach_52 (g : Nat) (w : World) (h : Two52 w g) : Calls Tryz.prog 84 #[.slice (some ⟨g, 0, none⟩) 2 2] w fun e w' => e = .returned (.int .i64 0) ∧ Below w.heap.size w w' := by
  have CK := mkHid (fun n w => Check_one n w)
  have H := mkHid h
  have B0 : Hid (Below w.heap.size w w) := Below.refl _ _
  clear h
  go_enter Tryz.func84, Tryz.ntmps84
  go_wp2_with fail
  go_loopw [8] (fun sk wr => ∃ i : Nat, sk = .int .i64 i ∧ i ≤ 2 ∧ Hid (Below w.heap.size w wr)) (fun sk _ => 2 - (intOf sk).toNat)
  case atStart => exact ⟨0, rfl, by omega, B0⟩
  case round =>
    obtain ⟨i, rfl, hi, HB⟩ := hrel
    clear B0
    obtain ⟨h0, h1, h2, h3, h4, h5⟩ := H.out.below HB.out
    have ng : g ≠ wr.heap.size := by have := H.out.lt; have := HB.out.size; omega
    rcases (show i = 0 ∨ i = 1 ∨ i = 2 by omega) with rfl | rfl | rfl
    · go_wp2_with (go_at_call 42; refine (CK.out _ _).mono ?_; rintro e w2 ⟨rfl, hb2⟩; have BL : Hid (Below wr.heap.size wr w2) := mkHid (((Below.refl _ wr).alloc (Nat.le_refl _) _).trans (hb2.mono (by simp))); clear hb2)
      go_roundw
      case rel => exact ⟨1, rfl, by omega, mkHid (HB.out.trans (BL.out.mono HB.out.size))⟩
      case measure => simp [intOf]
    · go_wp2_with (go_at_call 42; refine (CK.out _ _).mono ?_; rintro e w2 ⟨rfl, hb2⟩; have BL : Hid (Below wr.heap.size wr w2) := mkHid (((Below.refl _ wr).alloc (Nat.le_refl _) _).trans (hb2.mono (by simp))); clear hb2)
      go_roundw
      case rel => exact ⟨2, rfl, by omega, mkHid (HB.out.trans (BL.out.mono HB.out.size))⟩
      case measure => simp [intOf]
    · go_wp2_with fail
      go_ret
      exact ⟨rfl, HB.out⟩
set_option maxHeartbeats 4000000 in
set_option maxRecDepth 1000000 in
theorem groupOf_1 (w : World) : Calls Tryz.prog 34 #[.int .i64 1] w fun e w' => e = .returned (.int .i64 1) ∧ w' = w := by
  go_enter Tryz.func34, Tryz.ntmps34
  go_wp2_with fail
  go_ret
  exact ⟨rfl, rfl⟩
set_option maxHeartbeats 4000000 in
set_option maxRecDepth 1000000 in
theorem checkNumbers_52 (g : Nat) (w : World) (h : Two52 w g) : Calls Tryz.prog 91 #[.slice (some ⟨g, 0, none⟩) 2 2] w fun e w' => e = .returned (.int .i64 0) ∧ Below w.heap.size w w' := by
  have CE := mkHid (checkEach_52 g w h)
  have GO := mkHid (fun w => groupOf_1 w)
  have H := mkHid h
  clear h
  go_enter Tryz.func91, Tryz.ntmps91
  go_wp2_with (go_at_call 84; refine CE.out.mono ?_; rintro e w1 ⟨rfl, hb1⟩; have B0 := mkHid hb1; clear hb1)
  go_loopw [13] (fun sk wr => ∃ i : Nat, sk = .int .i64 i ∧ i ≤ 2 ∧ Hid (Below w.heap.size w wr)) (fun sk _ => 2 - (intOf sk).toNat)
  case atStart => exact ⟨0, rfl, by omega, B0⟩
  case round =>
    obtain ⟨i, rfl, hi, HB⟩ := hrel
    clear B0
    obtain ⟨h0, h1, h2, h3, h4, h5⟩ := H.out.below HB.out
    have ng : g ≠ wr.heap.size := by have := H.out.lt; have := HB.out.size; omega
    rcases (show i = 0 ∨ i = 1 ∨ i = 2 by omega) with rfl | rfl | rfl
    · go_wp2_with (go_at_call 34; refine (GO.out _).mono ?_; rintro e w2 ⟨rfl, rfl⟩)
      have BL : Hid (Below wr.heap.size wr (wr.alloc (.cells #[.int .i64 1, .int .i64 5, .string ⟨#[]⟩] 24))) := (Below.refl _ wr).alloc (Nat.le_refl _) _
      go_roundw
      case rel => exact ⟨1, rfl, by omega, mkHid (HB.out.trans (BL.out.mono HB.out.size))⟩
      case measure => simp [intOf]
    · go_wp2_with (go_at_call 34; refine (GO.out _).mono ?_; rintro e w2 ⟨rfl, rfl⟩)
      have BL : Hid (Below wr.heap.size wr (wr.alloc (.cells #[.int .i64 1, .int .i64 2, .string ⟨#[]⟩] 24))) := (Below.refl _ wr).alloc (Nat.le_refl _) _
      go_roundw
      case rel => exact ⟨2, rfl, by omega, mkHid (HB.out.trans (BL.out.mono HB.out.size))⟩
      case measure => simp [intOf]
    · go_wp2_with fail
      go_ret
      exact ⟨rfl, HB.out⟩
set_option maxHeartbeats 4000000 in
set_option maxRecDepth 1000000 in
theorem oneNull_52 (w : World) : Calls Tryz.prog 70 #[.agg #[.int .i64 1, .int .i64 5, .string ⟨#[]⟩], .agg #[.int .i64 1, .int .i64 2, .string ⟨#[]⟩]] w fun e w' => e = .returned (.bool false) ∧ Below w.heap.size w w' := by
  go_enter Tryz.func70, Tryz.ntmps70
  go_wp2_with fail
  go_ret
  exact ⟨rfl, by first | exact Below.refl _ _ | exact ((Below.refl _ w).alloc (Nat.le_refl _) _).alloc (by simp) _⟩
set_option maxHeartbeats 4000000 in
set_option maxRecDepth 1000000 in
theorem sum_52 (w : World) : Calls Tryz.prog 107 #[.int .i64 5, .int .i64 2] w fun e w' => e = .returned (.tuple #[.int .i64 7, .int .i64 0]) ∧ w' = w := by
  go_enter Tryz.func107, Tryz.ntmps107
  go_wp2_with fail
  exact bodyPost_ret (v := .tuple #[.int .i64 7, .int .i64 0]) (by simp [results, Tryz.results107, go_sem]) rfl ⟨rfl, rfl⟩
set_option maxHeartbeats 4000000 in
set_option maxRecDepth 1000000 in
theorem reckonWhole_52 (w : World) : Calls Tryz.prog 94 #[.string ⟨#[43]⟩, .int .i64 5, .int .i64 2] w fun e w' => e = .returned (.tuple #[.int .i64 7, .int .i64 0]) ∧ w' = w := by
  have SU := mkHid (fun w => sum_52 w)
  go_enter Tryz.func94, Tryz.ntmps94
  go_wp2_with (go_at_call 107; refine (SU.out _).mono ?_; rintro e w2 ⟨rfl, rfl⟩)
  exact bodyPost_ret (v := .tuple #[.int .i64 7, .int .i64 0]) (by simp [results, Tryz.results94, go_sem]) rfl ⟨rfl, rfl⟩
set_option maxHeartbeats 4000000 in
set_option maxRecDepth 1000000 in
theorem number_7 (w : World) : Calls Tryz.prog 93 #[.int .i64 1, .int .i64 7, .int .i64 0] w fun e w' => e = .returned (.tuple #[.agg #[.int .i64 1, .int .i64 7, .string ⟨#[]⟩], .int .i64 0]) ∧ Below w.heap.size w w' := by
  go_enter Tryz.func93, Tryz.ntmps93
  go_wp2_with fail
  refine bodyPost_ret (v := .tuple #[.agg #[.int .i64 1, .int .i64 7, .string ⟨#[]⟩], .int .i64 0]) (by simp [results, Tryz.results93, go_sem]) rfl ⟨rfl, ?_⟩
  first | exact Below.refl _ _ | exact (Below.refl _ w).alloc (Nat.le_refl _) _ | exact (((Below.refl _ w).alloc (Nat.le_refl _) _).setCell (by simp) _)
/-- the variables of 5 + 2 -/
def Fq (w w' : World) : Prop := Below w.heap.size w w' ∧ w'.heap[w.heap.size]? = some (.cells #[.int .i64 1, .int .i64 5, .string ⟨#[]⟩] 24 (0, 0)) ∧ w'.heap[w.heap.size + 1]? = some (.cells #[.int .i64 1, .int .i64 2, .string ⟨#[]⟩] 24 (0, 0)) ∧ w'.heap[w.heap.size + 1 + 1]? = some (.cells #[.int .i64 0, .int .i64 0, .string ⟨#[]⟩] 24 (0, 0))
theorem Fq.below {w w' w2 : World} (h : Fq w w') (hb : Below w'.heap.size w' w2) : Fq w w2 := by
  obtain ⟨h1, h2, h3, h4⟩ := h
  exact ⟨h1.trans (hb.mono h1.size), (hb.block _ (lt_of_some h2)).trans h2, (hb.block _ (lt_of_some h3)).trans h3, (hb.block _ (lt_of_some h4)).trans h4⟩
theorem heap_alloc_at {w : World} {o p : Obj} {k : Nat} (h : w.heap[k]? = some o) : (w.alloc p).heap[k]? = some o := (((Below.refl w.heap.size w).alloc (Nat.le_refl _) p).block _ (lt_of_some h)).trans h
theorem Fq.new (w : World) : Fq w (((w.alloc (.cells #[.int .i64 1, .int .i64 5, .string ⟨#[]⟩] 24)).alloc (.cells #[.int .i64 1, .int .i64 2, .string ⟨#[]⟩] 24)).alloc (.cells #[.int .i64 0, .int .i64 0, .string ⟨#[]⟩] 24)) := by
  have e1 := heap_alloc_new w (.cells #[.int .i64 1, .int .i64 5, .string ⟨#[]⟩] 24)
  have e2 := heap_alloc_new (w.alloc (.cells #[.int .i64 1, .int .i64 5, .string ⟨#[]⟩] 24)) (.cells #[.int .i64 1, .int .i64 2, .string ⟨#[]⟩] 24)
  have e3 := heap_alloc_new ((w.alloc (.cells #[.int .i64 1, .int .i64 5, .string ⟨#[]⟩] 24)).alloc (.cells #[.int .i64 1, .int .i64 2, .string ⟨#[]⟩] 24)) (.cells #[.int .i64 0, .int .i64 0, .string ⟨#[]⟩] 24)
  rw [World.size_alloc] at e2
  rw [World.size_alloc, World.size_alloc] at e3
  exact ⟨(((Below.refl _ w).alloc (Nat.le_refl _) _).alloc (by simp) _).alloc (by simp; omega) _, heap_alloc_at (heap_alloc_at e1), heap_alloc_at e2, e3⟩
set_option maxHeartbeats 4000000 in
set_option maxRecDepth 1000000 in
theorem Reckon_52 (w : World) : Calls Tryz.prog 75 #[.string ⟨#[43]⟩, .agg #[.int .i64 1, .int .i64 5, .string ⟨#[]⟩], .agg #[.int .i64 1, .int .i64 2, .string ⟨#[]⟩]] w fun e w' => e = .returned (.tuple #[.agg #[.int .i64 1, .int .i64 7, .string ⟨#[]⟩], .int .i64 0]) ∧ Below w.heap.size w w' := by
  obtain ⟨W, hW⟩ : ∃ W, W = (((w.alloc (.cells #[.int .i64 1, .int .i64 5, .string ⟨#[]⟩] 24)).alloc (.cells #[.int .i64 1, .int .i64 2, .string ⟨#[]⟩] 24)).alloc (.cells #[.int .i64 0, .int .i64 0, .string ⟨#[]⟩] 24)).alloc (.cells #[.int .i64 1, .int .i64 5, .string ⟨#[]⟩, .int .i64 1, .int .i64 2, .string ⟨#[]⟩] 24) := ⟨_, rfl⟩
  have f0 := Fq.new w
  have fW : Fq w W := by rw [hW]; exact f0.below ((Below.refl _ _).alloc (Nat.le_refl _) _)
  have tW : Two52 W (w.heap.size + 1 + 1 + 1) := by
    have e4 := heap_alloc_new (((w.alloc (.cells #[.int .i64 1, .int .i64 5, .string ⟨#[]⟩] 24)).alloc (.cells #[.int .i64 1, .int .i64 2, .string ⟨#[]⟩] 24)).alloc (.cells #[.int .i64 0, .int .i64 0, .string ⟨#[]⟩] 24)) (.cells #[.int .i64 1, .int .i64 5, .string ⟨#[]⟩, .int .i64 1, .int .i64 2, .string ⟨#[]⟩] 24)
    rw [World.size_alloc, World.size_alloc, World.size_alloc, ← hW] at e4
    exact ⟨(cell_of_block e4 0).trans rfl, (cell_of_block e4 1).trans rfl, (cell_of_block e4 2).trans rfl, (cell_of_block e4 3).trans rfl, (cell_of_block e4 4).trans rfl, (cell_of_block e4 5).trans rfl⟩
  have CN := mkHid (checkNumbers_52 _ W tW)
  have ON := mkHid (fun w => oneNull_52 w)
  have RW := mkHid (fun w => reckonWhole_52 w)
  have NU := mkHid (fun w => number_7 w)
  have FW := mkHid fW
  have HW := mkHid hW
  clear f0 fW tW hW
  go_enter Tryz.func75, Tryz.ntmps75
  go_wp2_with fail
  rw [← HW.out]
  refine CN.out.mono ?_
  rintro e w1 ⟨rfl, b1⟩
  have FF := FW.out.below b1
  have x0 : w1.cell? ⟨w.heap.size, 0, none⟩ = some (.int .i64 1) := (cell_of_block FF.2.1 0).trans rfl; have x1 : w1.cell? ⟨w.heap.size, 1, none⟩ = some (.int .i64 5) := (cell_of_block FF.2.1 1).trans rfl; have x2 : w1.cell? ⟨w.heap.size, 2, none⟩ = some (.string ⟨#[]⟩) := (cell_of_block FF.2.1 2).trans rfl; have y0 : w1.cell? ⟨w.heap.size + 1, 0, none⟩ = some (.int .i64 1) := (cell_of_block FF.2.2.1 0).trans rfl; have y1 : w1.cell? ⟨w.heap.size + 1, 1, none⟩ = some (.int .i64 2) := (cell_of_block FF.2.2.1 1).trans rfl; have y2 : w1.cell? ⟨w.heap.size + 1, 2, none⟩ = some (.string ⟨#[]⟩) := (cell_of_block FF.2.2.1 2).trans rfl; have z0 : w1.cell? ⟨w.heap.size + 1 + 1, 0, none⟩ = some (.int .i64 0) := (cell_of_block FF.2.2.2 0).trans rfl; have z1 : w1.cell? ⟨w.heap.size + 1 + 1, 1, none⟩ = some (.int .i64 0) := (cell_of_block FF.2.2.2 1).trans rfl; have z2 : w1.cell? ⟨w.heap.size + 1 + 1, 2, none⟩ = some (.string ⟨#[]⟩) := (cell_of_block FF.2.2.2 2).trans rfl; have f0 := unfrozen_of_block FF.2.2.2 0; have f1 := unfrozen_of_block FF.2.2.2 1; have f2 := unfrozen_of_block FF.2.2.2 2
  have F1 := mkHid FF
  clear FF b1 FW
  go_wp2_with fail
  refine (ON.out _).mono ?_
  rintro e w2 ⟨rfl, b2⟩
  clear x0 x1 x2 y0 y1 y2 z0 z1 z2 f0 f1 f2
  have FF := F1.out.below b2
  have x0 : w2.cell? ⟨w.heap.size, 0, none⟩ = some (.int .i64 1) := (cell_of_block FF.2.1 0).trans rfl; have x1 : w2.cell? ⟨w.heap.size, 1, none⟩ = some (.int .i64 5) := (cell_of_block FF.2.1 1).trans rfl; have x2 : w2.cell? ⟨w.heap.size, 2, none⟩ = some (.string ⟨#[]⟩) := (cell_of_block FF.2.1 2).trans rfl; have y0 : w2.cell? ⟨w.heap.size + 1, 0, none⟩ = some (.int .i64 1) := (cell_of_block FF.2.2.1 0).trans rfl; have y1 : w2.cell? ⟨w.heap.size + 1, 1, none⟩ = some (.int .i64 2) := (cell_of_block FF.2.2.1 1).trans rfl; have y2 : w2.cell? ⟨w.heap.size + 1, 2, none⟩ = some (.string ⟨#[]⟩) := (cell_of_block FF.2.2.1 2).trans rfl; have z0 : w2.cell? ⟨w.heap.size + 1 + 1, 0, none⟩ = some (.int .i64 0) := (cell_of_block FF.2.2.2 0).trans rfl; have z1 : w2.cell? ⟨w.heap.size + 1 + 1, 1, none⟩ = some (.int .i64 0) := (cell_of_block FF.2.2.2 1).trans rfl; have z2 : w2.cell? ⟨w.heap.size + 1 + 1, 2, none⟩ = some (.string ⟨#[]⟩) := (cell_of_block FF.2.2.2 2).trans rfl; have f0 := unfrozen_of_block FF.2.2.2 0; have f1 := unfrozen_of_block FF.2.2.2 1; have f2 := unfrozen_of_block FF.2.2.2 2
  have F2 := mkHid FF
  clear FF b2 F1
  go_wp2_with (first | (go_at_call 94; refine (RW.out _).mono ?_; rintro e w3 ⟨rfl, rfl⟩) | (go_at_call 93; refine (NU.out _).mono ?_; rintro e w4 ⟨rfl, b4⟩; clear x0 x1 x2 y0 y1 y2 z0 z1 z2 f0 f1 f2; have FF := F2.out.below b4; have x0 : w4.cell? ⟨w.heap.size, 0, none⟩ = some (.int .i64 1) := (cell_of_block FF.2.1 0).trans rfl; have x1 : w4.cell? ⟨w.heap.size, 1, none⟩ = some (.int .i64 5) := (cell_of_block FF.2.1 1).trans rfl; have x2 : w4.cell? ⟨w.heap.size, 2, none⟩ = some (.string ⟨#[]⟩) := (cell_of_block FF.2.1 2).trans rfl; have y0 : w4.cell? ⟨w.heap.size + 1, 0, none⟩ = some (.int .i64 1) := (cell_of_block FF.2.2.1 0).trans rfl; have y1 : w4.cell? ⟨w.heap.size + 1, 1, none⟩ = some (.int .i64 2) := (cell_of_block FF.2.2.1 1).trans rfl; have y2 : w4.cell? ⟨w.heap.size + 1, 2, none⟩ = some (.string ⟨#[]⟩) := (cell_of_block FF.2.2.1 2).trans rfl; have z0 : w4.cell? ⟨w.heap.size + 1 + 1, 0, none⟩ = some (.int .i64 0) := (cell_of_block FF.2.2.2 0).trans rfl; have z1 : w4.cell? ⟨w.heap.size + 1 + 1, 1, none⟩ = some (.int .i64 0) := (cell_of_block FF.2.2.2 1).trans rfl; have z2 : w4.cell? ⟨w.heap.size + 1 + 1, 2, none⟩ = some (.string ⟨#[]⟩) := (cell_of_block FF.2.2.2 2).trans rfl; have f0 := unfrozen_of_block FF.2.2.2 0; have f1 := unfrozen_of_block FF.2.2.2 1; have f2 := unfrozen_of_block FF.2.2.2 2; have F4 := mkHid FF; clear FF b4))
  refine bodyPost_ret (v := .tuple #[.agg #[.int .i64 1, .int .i64 7, .string ⟨#[]⟩], .int .i64 0]) (by simp [results, Tryz.results75, go_sem, z0, z1, z2]) rfl ⟨rfl, ?_⟩
  exact F4.out.1.trans ((((Off.refl (w.heap.size + 1 + 1) (w.heap.size + 1 + 1) w4).set (a := ⟨w.heap.size + 1 + 1, 0, none⟩) (Or.inl rfl) _).set (a := ⟨w.heap.size + 1 + 1, 1, none⟩) (Or.inl rfl) _).set (a := ⟨w.heap.size + 1 + 1, 2, none⟩) (Or.inl rfl) _ |>.below (by omega) (by omega))
end Go.Proofs.YtokppkinhlcafaaGreatDoor
