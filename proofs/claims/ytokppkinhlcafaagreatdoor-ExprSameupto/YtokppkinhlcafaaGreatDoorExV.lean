/-
  checkForm of a + 2.
-/
import Derived.Test.YtokppkinhlcafaaGreatDoorExU
namespace Go.Proofs.YtokppkinhlcafaaGreatDoor
open Go.RowKit Go.Joins
set_option maxRecDepth 100000

/-- how many were counted -/
def CfI (W w : World) (k : Int) : Prop := Below W.heap.size W w ∧ w.heap[W.heap.size]? = some (.cells #[.int .i64 k] 3 (0, 0)) ∧ w.heap[W.heap.size + 1]? = some (.cells #[.bool true] 4 (0, 0))
theorem CfI.next {W w w1 w2 : World} {k k' : Int} (h : CfI W w k) (hw : w1 = w.setCell ⟨W.heap.size, 0, none⟩ (.int .i64 k')) (hb : Below w1.heap.size w1 w2) : CfI W (w2.setCell ⟨W.heap.size + 1, 0, none⟩ (.bool true)) k' := by
  obtain ⟨h1, h2, h3⟩ := h
  have f1 := (Off.refl W.heap.size W.heap.size w).set (a := ⟨W.heap.size, 0, none⟩) (Or.inl rfl) (.int .i64 k')
  rw [← hw] at f1
  have f2 := (Off.refl (W.heap.size + 1) (W.heap.size + 1) w2).set (a := ⟨W.heap.size + 1, 0, none⟩) (Or.inl rfl) (.bool true)
  have l2 := lt_of_some h2
  have l3 := lt_of_some h3
  have z1 := f1.size
  have z2 := hb.size
  have z3 := f2.size
  have g2 : w1.heap[W.heap.size]? = some (.cells #[.int .i64 k'] 3 (0, 0)) := by rw [hw]; exact heap_set_inX h2
  have g3 : w1.heap[W.heap.size + 1]? = some (.cells #[.bool true] 4 (0, 0)) := (f1.block _ (by omega) (by omega)).trans h3
  have e3 : w2.heap[W.heap.size + 1]? = some (.cells #[.bool true] 4 (0, 0)) := (hb.block _ (by omega)).trans g3
  have hsz := h1.size
  refine ⟨((h1.trans (f1.below (by omega) (by omega))).trans (hb.mono (by omega))).trans (f2.below (by omega) (by omega)), (f2.block _ (by omega) (by omega)).trans ((hb.block _ (by omega)).trans g2), heap_set_inX e3⟩
set_option maxHeartbeats 4000000 in
set_option maxRecDepth 1000000 in
theorem tell_P (pe gP gC gR sp : Nat) (W w : World) (h : LvW W pe gP gC gR sp) (hI : CfI W w 0) : Calls Tryz.prog 57 #[.pointer (some ⟨pe, 0, none⟩), .int .i64 1, .pointer (some ⟨W.heap.size, 0, none⟩), .pointer (some ⟨W.heap.size + 1, 0, none⟩)] w fun e w' => e = .returned (.bool true) ∧ CfI W w' 1 := by
  have y0 : w.cell? ⟨W.heap.size, 0, none⟩ = some (.int .i64 0) := (cell_of_block hI.2.1 0).trans rfl
  have f0 := unfrozen_of_block hI.2.1 0
  have y1 : w.cell? ⟨W.heap.size + 1, 0, none⟩ = some (.bool true) := (cell_of_block hI.2.2 0).trans rfl
  have f1 := unfrozen_of_block hI.2.2 0
  obtain ⟨w1, hw1⟩ : ∃ w1, w1 = w.setCell ⟨W.heap.size, 0, none⟩ (.int .i64 1) := ⟨_, rfl⟩
  have o1 := (Off.refl W.heap.size W.heap.size w).set (a := ⟨W.heap.size, 0, none⟩) (Or.inl rfl) (.int .i64 1)
  rw [← hw1] at o1
  have CB := mkHid (canBe_P pe gP gC gR sp w1 (h.below (hI.1.trans (o1.below (Nat.le_refl _) (Nat.le_refl _)))))
  have e1 : w1.heap[W.heap.size + 1]? = some (.cells #[.bool true] 4 (0, 0)) := (o1.block _ (by omega) (by omega)).trans hI.2.2
  have E1 := mkHid e1
  have HI := mkHid hI
  have HW := mkHid hw1
  clear h hI hw1 o1 e1
  go_enter Tryz.func57, Tryz.ntmps57
  go_wp2_with (go_at_call 58; rw [← HW.out]; refine CB.out.mono ?_; rintro e w2 ⟨rfl, hb2⟩; have E2 := (hb2.block _ (lt_of_some E1.out)).trans E1.out; have y2 : w2.cell? ⟨W.heap.size + 1, 0, none⟩ = some (.bool true) := (cell_of_block E2 0).trans rfl; have f2 := unfrozen_of_block E2 0; have B2 := mkHid hb2; clear hb2 E2)
  go_ret
  exact ⟨rfl, CfI.next HI.out HW.out B2.out⟩
set_option maxHeartbeats 4000000 in
set_option maxRecDepth 1000000 in
theorem tell_A (pe gP gC gR sp : Nat) (W w : World) (h : LvW W pe gP gC gR sp) (hI : CfI W w 1) : Calls Tryz.prog 57 #[.pointer (some ⟨gP, 0, none⟩), .int .i64 2, .pointer (some ⟨W.heap.size, 0, none⟩), .pointer (some ⟨W.heap.size + 1, 0, none⟩)] w fun e w' => e = .returned (.bool true) ∧ CfI W w' 2 := by
  have y0 : w.cell? ⟨W.heap.size, 0, none⟩ = some (.int .i64 1) := (cell_of_block hI.2.1 0).trans rfl
  have f0 := unfrozen_of_block hI.2.1 0
  have y1 : w.cell? ⟨W.heap.size + 1, 0, none⟩ = some (.bool true) := (cell_of_block hI.2.2 0).trans rfl
  have f1 := unfrozen_of_block hI.2.2 0
  obtain ⟨w1, hw1⟩ : ∃ w1, w1 = w.setCell ⟨W.heap.size, 0, none⟩ (.int .i64 2) := ⟨_, rfl⟩
  have o1 := (Off.refl W.heap.size W.heap.size w).set (a := ⟨W.heap.size, 0, none⟩) (Or.inl rfl) (.int .i64 2)
  rw [← hw1] at o1
  have CB := mkHid (canBe_A pe gP gC gR sp w1 (h.below (hI.1.trans (o1.below (Nat.le_refl _) (Nat.le_refl _)))))
  have e1 : w1.heap[W.heap.size + 1]? = some (.cells #[.bool true] 4 (0, 0)) := (o1.block _ (by omega) (by omega)).trans hI.2.2
  have E1 := mkHid e1
  have HI := mkHid hI
  have HW := mkHid hw1
  clear h hI hw1 o1 e1
  go_enter Tryz.func57, Tryz.ntmps57
  go_wp2_with (go_at_call 58; rw [← HW.out]; refine CB.out.mono ?_; rintro e w2 ⟨rfl, hb2⟩; have E2 := (hb2.block _ (lt_of_some E1.out)).trans E1.out; have y2 : w2.cell? ⟨W.heap.size + 1, 0, none⟩ = some (.bool true) := (cell_of_block E2 0).trans rfl; have f2 := unfrozen_of_block E2 0; have B2 := mkHid hb2; clear hb2 E2)
  go_ret
  exact ⟨rfl, CfI.next HI.out HW.out B2.out⟩
set_option maxHeartbeats 4000000 in
set_option maxRecDepth 1000000 in
theorem tell_V (pe gP gC gR sp : Nat) (W w : World) (h : LvW W pe gP gC gR sp) (hI : CfI W w 2) : Calls Tryz.prog 57 #[.pointer (some ⟨gP, 9, none⟩), .int .i64 2, .pointer (some ⟨W.heap.size, 0, none⟩), .pointer (some ⟨W.heap.size + 1, 0, none⟩)] w fun e w' => e = .returned (.bool true) ∧ CfI W w' 3 := by
  have y0 : w.cell? ⟨W.heap.size, 0, none⟩ = some (.int .i64 2) := (cell_of_block hI.2.1 0).trans rfl
  have f0 := unfrozen_of_block hI.2.1 0
  have y1 : w.cell? ⟨W.heap.size + 1, 0, none⟩ = some (.bool true) := (cell_of_block hI.2.2 0).trans rfl
  have f1 := unfrozen_of_block hI.2.2 0
  obtain ⟨w1, hw1⟩ : ∃ w1, w1 = w.setCell ⟨W.heap.size, 0, none⟩ (.int .i64 3) := ⟨_, rfl⟩
  have o1 := (Off.refl W.heap.size W.heap.size w).set (a := ⟨W.heap.size, 0, none⟩) (Or.inl rfl) (.int .i64 3)
  rw [← hw1] at o1
  have CB := mkHid (canBe_V pe gP gC gR sp w1 (h.below (hI.1.trans (o1.below (Nat.le_refl _) (Nat.le_refl _)))))
  have e1 : w1.heap[W.heap.size + 1]? = some (.cells #[.bool true] 4 (0, 0)) := (o1.block _ (by omega) (by omega)).trans hI.2.2
  have E1 := mkHid e1
  have HI := mkHid hI
  have HW := mkHid hw1
  clear h hI hw1 o1 e1
  go_enter Tryz.func57, Tryz.ntmps57
  go_wp2_with (go_at_call 58; rw [← HW.out]; refine CB.out.mono ?_; rintro e w2 ⟨rfl, hb2⟩; have E2 := (hb2.block _ (lt_of_some E1.out)).trans E1.out; have y2 : w2.cell? ⟨W.heap.size + 1, 0, none⟩ = some (.bool true) := (cell_of_block E2 0).trans rfl; have f2 := unfrozen_of_block E2 0; have B2 := mkHid hb2; clear hb2 E2)
  go_ret
  exact ⟨rfl, CfI.next HI.out HW.out B2.out⟩
theorem eg_tell : ∀ args w, (callFunc 57 args).run Tryz.prog w = .ok (.enter 57 args) w := enters_of Tryz.func57 (by kernel_rfl) rfl
set_option maxHeartbeats 4000000 in
set_option maxRecDepth 1000000 in
theorem each_A (pe gP gC gR sp : Nat) (W w : World) (h : LvW W pe gP gC gR sp) (hI : CfI W w 1) : Calls Tryz.prog 56 #[.pointer (some ⟨gP, 0, none⟩), .int .i64 2, .func (.func 57) #[] #[.pointer (some ⟨W.heap.size, 0, none⟩), .pointer (some ⟨W.heap.size + 1, 0, none⟩)]] w fun e w' => e = .returned (.bool true) ∧ CfI W w' 2 := by
  have TL := mkHid (tell_A pe gP gC gR sp W w h hI)
  have H := mkHid h
  have eg := eg_tell
  clear h hI
  go_enter Tryz.func56, Tryz.ntmps56
  go_wp2_with (go_at_fn 57; refine TL.out.mono ?_; rintro e w1 ⟨rfl, i1⟩; obtain ⟨_, _, _, _, _, _, _, _, _, a0, a1, a2, a3, a4, a5, a6, a7, a8, _, _, _, _, _, _, _, _, _, _, _, _, _, _, _, _, _⟩ := H.out.below i1.1; have I1 := mkHid i1; clear i1)
  go_loopw [18] (fun s18 wr => s18 = .int .i64 0 ∧ wr = w1) (fun _ _ => 0)
  case atStart => exact ⟨rfl, rfl⟩
  case round =>
    obtain ⟨rfl, rfl⟩ := hrel
    go_wp2_with fail
    go_ret
    exact ⟨rfl, I1.out⟩
set_option maxHeartbeats 4000000 in
set_option maxRecDepth 1000000 in
theorem each_V (pe gP gC gR sp : Nat) (W w : World) (h : LvW W pe gP gC gR sp) (hI : CfI W w 2) : Calls Tryz.prog 56 #[.pointer (some ⟨gP, 9, none⟩), .int .i64 2, .func (.func 57) #[] #[.pointer (some ⟨W.heap.size, 0, none⟩), .pointer (some ⟨W.heap.size + 1, 0, none⟩)]] w fun e w' => e = .returned (.bool true) ∧ CfI W w' 3 := by
  have TL := mkHid (tell_V pe gP gC gR sp W w h hI)
  have H := mkHid h
  have eg := eg_tell
  clear h hI
  go_enter Tryz.func56, Tryz.ntmps56
  go_wp2_with (go_at_fn 57; refine TL.out.mono ?_; rintro e w1 ⟨rfl, i1⟩; obtain ⟨_, _, _, _, _, _, _, _, _, _, _, _, _, _, _, _, _, _, v0, v1, v2, v3, v4, v5, v6, v7, v8, _, _, _, _, _, _, _, _⟩ := H.out.below i1.1; have I1 := mkHid i1; clear i1)
  go_loopw [18] (fun s18 wr => s18 = .int .i64 0 ∧ wr = w1) (fun _ _ => 0)
  case atStart => exact ⟨rfl, rfl⟩
  case round =>
    obtain ⟨rfl, rfl⟩ := hrel
    go_wp2_with fail
    go_ret
    exact ⟨rfl, I1.out⟩
set_option maxHeartbeats 4000000 in
set_option maxRecDepth 1000000 in
theorem each_P (pe gP gC gR sp : Nat) (W w : World) (h : LvW W pe gP gC gR sp) (hI : CfI W w 0) : Calls Tryz.prog 56 #[.pointer (some ⟨pe, 0, none⟩), .int .i64 1, .func (.func 57) #[] #[.pointer (some ⟨W.heap.size, 0, none⟩), .pointer (some ⟨W.heap.size + 1, 0, none⟩)]] w fun e w' => e = .returned (.bool true) ∧ CfI W w' 3 := by
  have TL := mkHid (tell_P pe gP gC gR sp W w h hI)
  have EA := mkHid (fun w hI => each_A pe gP gC gR sp W w h hI)
  have EV := mkHid (fun w hI => each_V pe gP gC gR sp W w h hI)
  have H := mkHid h
  have eg := eg_tell
  clear h hI
  go_enter Tryz.func56, Tryz.ntmps56
  go_wp2_with (go_at_fn 57; refine TL.out.mono ?_; rintro e w1 ⟨rfl, i1⟩; obtain ⟨p0, p1, p2, p3, p4, p5, p6, p7, p8, _, _, _, _, _, _, _, _, _, _, _, _, _, _, _, _, _, _, _, _, _, _, _, _, _, _⟩ := H.out.below i1.1; have I1 := mkHid i1; clear i1)
  go_loopw [18] (fun s18 wr => ∃ i : Nat, s18 = .int .i64 i ∧ i ≤ 2 ∧ Hid (CfI W wr ((i : Int) + 1))) (fun s18 _ => 2 - (intOf s18).toNat)
  case atStart => exact ⟨0, rfl, by omega, I1⟩
  case round =>
    obtain ⟨i, rfl, hi, HI⟩ := hrel
    clear I1 p0 p1 p2 p3 p4 p5 p6 p7 p8
    obtain ⟨p0, p1, p2, p3, p4, p5, p6, p7, p8, _, _, _, _, _, _, _, _, _, _, _, _, _, _, _, _, _, _, _, _, _, _, _, _, _, _⟩ := H.out.below HI.out.1
    rcases (show i = 0 ∨ i = 1 ∨ i = 2 by omega) with rfl | rfl | rfl
    · go_wp2_with (go_at_call 56; refine (EA.out _ HI.out).mono ?_; rintro e w2 ⟨rfl, i2⟩; have I2 := mkHid i2; clear i2)
      go_roundw
      case rel => exact ⟨1, rfl, by omega, I2⟩
      case measure => simp [intOf]
    · go_wp2_with (go_at_call 56; refine (EV.out _ HI.out).mono ?_; rintro e w2 ⟨rfl, i2⟩; have I2 := mkHid i2; clear i2)
      go_roundw
      case rel => exact ⟨2, rfl, by omega, I2⟩
      case measure => simp [intOf]
    · go_wp2_with fail
      go_ret
      exact ⟨rfl, HI.out⟩
set_option maxHeartbeats 4000000 in
set_option maxRecDepth 1000000 in
theorem checkForm_P (pe gP gC gR sp : Nat) (w : World) (h : LvW w pe gP gC gR sp) : Calls Tryz.prog 40 #[.pointer (some ⟨pe, 0, none⟩)] w fun e w' => e = .returned (.tuple #[]) ∧ Below w.heap.size w w' := by
  have hmf : ∀ (fn : Fn) (first cap : Array Value) (w : World), (Instr.makeFunc fn first cap).run Tryz.prog w = .ok (.func fn first cap) w := fun _ _ _ _ => rfl
  obtain ⟨W, hW⟩ : ∃ W, W = (w.alloc (.cells #[.int .i64 0] 3)).alloc (.cells #[.bool true] 4) := ⟨_, rfl⟩
  have I0 : CfI w W 0 := by
    rw [hW]
    refine ⟨((Below.refl _ w).alloc (Nat.le_refl _) _).alloc (by simp) _, ?_, ?_⟩
    · have b := (Below.refl (w.alloc (.cells #[.int .i64 0] 3)).heap.size (w.alloc (.cells #[.int .i64 0] 3))).alloc (Nat.le_refl _) (.cells #[.bool true] 4)
      exact (b.block _ (by simp)).trans (heap_alloc_new _ _)
    · have := heap_alloc_new (w.alloc (.cells #[.int .i64 0] 3)) (.cells #[.bool true] 4)
      rw [World.size_alloc] at this
      exact this
  have EP := mkHid (each_P pe gP gC gR sp w W h I0)
  have HW := mkHid hW
  clear h hW I0
  go_enter Tryz.func40, Tryz.ntmps40
  go_wp2_with (go_at_call 56; rw [← HW.out]; refine EP.out.mono ?_; rintro e w1 ⟨rfl, i1⟩; have y1 : w1.cell? ⟨w.heap.size + 1, 0, none⟩ = some (.bool true) := (cell_of_block i1.2.2 0).trans rfl; have I1 := mkHid i1; clear i1)
  first | go_end0 | refine bodyPost_ret (results_none rfl _ _ _) rfl ?_
  exact ⟨rfl, I1.out.1⟩
end Go.Proofs.YtokppkinhlcafaaGreatDoor
