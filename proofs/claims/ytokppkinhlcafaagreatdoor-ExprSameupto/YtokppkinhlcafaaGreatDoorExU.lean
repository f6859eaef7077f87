/-
  The expression a + 2 of the law, in memory; it can be.
-/
import Derived.Test.YtokppkinhlcafaaGreatDoorExT
namespace Go.Proofs.YtokppkinhlcafaaGreatDoor
open Go.RowKit Go.Joins
set_option maxRecDepth 100000

/-- a + 2, a scope of one column, a row of one value -/
structure LvW (w : World) (pe gP gC gR sp : Nat) : Prop where
  p0 : w.cell? ⟨pe, 0, none⟩ = some (.string ⟨#[43]⟩)
  p1 : w.cell? ⟨pe, 1, none⟩ = some (.slice (some ⟨gP, 0, none⟩) 2 2)
  p2 : w.cell? ⟨pe, 2, none⟩ = some (.int .i64 0)
  p3 : w.cell? ⟨pe, 3, none⟩ = some (.int .i64 0)
  p4 : w.cell? ⟨pe, 4, none⟩ = some (.string ⟨#[]⟩)
  p5 : w.cell? ⟨pe, 5, none⟩ = some (.string ⟨#[]⟩)
  p6 : w.cell? ⟨pe, 6, none⟩ = some (.string ⟨#[]⟩)
  p7 : w.cell? ⟨pe, 7, none⟩ = some (.int .i64 0)
  p8 : w.cell? ⟨pe, 8, none⟩ = some (.int .i64 0)
  a0 : w.cell? ⟨gP, 0, none⟩ = some (.string ⟨#[99, 111, 108, 117, 109, 110]⟩)
  a1 : w.cell? ⟨gP, 1, none⟩ = some (.slice none 0 0)
  a2 : w.cell? ⟨gP, 2, none⟩ = some (.int .i64 0)
  a3 : w.cell? ⟨gP, 3, none⟩ = some (.int .i64 0)
  a4 : w.cell? ⟨gP, 4, none⟩ = some (.string ⟨#[]⟩)
  a5 : w.cell? ⟨gP, 5, none⟩ = some (.string ⟨#[97]⟩)
  a6 : w.cell? ⟨gP, 6, none⟩ = some (.string ⟨#[]⟩)
  a7 : w.cell? ⟨gP, 7, none⟩ = some (.int .i64 0)
  a8 : w.cell? ⟨gP, 8, none⟩ = some (.int .i64 0)
  v0 : w.cell? ⟨gP, 9, none⟩ = some (.string ⟨#[118, 97, 108, 117, 101]⟩)
  v1 : w.cell? ⟨gP, 10, none⟩ = some (.slice none 0 0)
  v2 : w.cell? ⟨gP, 11, none⟩ = some (.int .i64 1)
  v3 : w.cell? ⟨gP, 12, none⟩ = some (.int .i64 2)
  v4 : w.cell? ⟨gP, 13, none⟩ = some (.string ⟨#[]⟩)
  v5 : w.cell? ⟨gP, 14, none⟩ = some (.string ⟨#[]⟩)
  v6 : w.cell? ⟨gP, 15, none⟩ = some (.string ⟨#[]⟩)
  v7 : w.cell? ⟨gP, 16, none⟩ = some (.int .i64 0)
  v8 : w.cell? ⟨gP, 17, none⟩ = some (.int .i64 0)
  s0 : w.cell? ⟨sp, 0, none⟩ = some (.slice (some ⟨gC, 0, none⟩) 1 1)
  s1 : w.cell? ⟨sp, 1, none⟩ = some (.slice none 0 0)
  k0 : w.cell? ⟨gC, 0, none⟩ = some (.string ⟨#[116]⟩)
  k1 : w.cell? ⟨gC, 1, none⟩ = some (.string ⟨#[97]⟩)
  k2 : w.cell? ⟨gC, 2, none⟩ = some (.int .i64 1)
  r0 : w.cell? ⟨gR, 0, none⟩ = some (.int .i64 1)
  r1 : w.cell? ⟨gR, 1, none⟩ = some (.int .i64 5)
  r2 : w.cell? ⟨gR, 2, none⟩ = some (.string ⟨#[]⟩)
theorem LvW.below {w w' : World} {pe gP gC gR sp : Nat} (h : LvW w pe gP gC gR sp) (hb : Below w.heap.size w w') : LvW w' pe gP gC gR sp :=
  ⟨cellNext hb h.p0, cellNext hb h.p1, cellNext hb h.p2, cellNext hb h.p3, cellNext hb h.p4, cellNext hb h.p5, cellNext hb h.p6, cellNext hb h.p7, cellNext hb h.p8, cellNext hb h.a0, cellNext hb h.a1, cellNext hb h.a2, cellNext hb h.a3, cellNext hb h.a4, cellNext hb h.a5, cellNext hb h.a6, cellNext hb h.a7, cellNext hb h.a8, cellNext hb h.v0, cellNext hb h.v1, cellNext hb h.v2, cellNext hb h.v3, cellNext hb h.v4, cellNext hb h.v5, cellNext hb h.v6, cellNext hb h.v7, cellNext hb h.v8, cellNext hb h.s0, cellNext hb h.s1, cellNext hb h.k0, cellNext hb h.k1, cellNext hb h.k2, cellNext hb h.r0, cellNext hb h.r1, cellNext hb h.r2⟩
theorem LvW.drew {w : World} {pe gP gC gR sp : Nat} (h : LvW w pe gP gC gR sp) : LvW w.drew pe gP gC gR sp := ⟨h.p0, h.p1, h.p2, h.p3, h.p4, h.p5, h.p6, h.p7, h.p8, h.a0, h.a1, h.a2, h.a3, h.a4, h.a5, h.a6, h.a7, h.a8, h.v0, h.v1, h.v2, h.v3, h.v4, h.v5, h.v6, h.v7, h.v8, h.s0, h.s1, h.k0, h.k1, h.k2, h.r0, h.r1, h.r2⟩
set_option maxHeartbeats 4000000 in
set_option maxRecDepth 1000000 in
theorem Check_one (n : Int) (w : World) : Calls Tryz.prog 42 #[.agg #[.int .i64 1, .int .i64 n, .string ⟨#[]⟩]] w fun e w' => e = .returned (.int .i64 0) ∧ Below w.heap.size w w' := by
  go_enter Tryz.func42, Tryz.ntmps42
  go_wp2_with fail
  go_ret
  exact ⟨rfl, (Below.refl _ w).alloc (Nat.le_refl _) _⟩
set_option maxHeartbeats 4000000 in
set_option maxRecDepth 1000000 in
theorem partsOf_P (w : World) : Calls Tryz.prog 78 #[.string ⟨#[43]⟩] w fun e w' => e = .returned (.tuple #[.int .i64 2, .int .i64 2]) ∧ w' = w := by
  go_enter Tryz.func78, Tryz.ntmps78
  go_wp2_with fail
  exact bodyPost_ret (v := .tuple #[.int .i64 2, .int .i64 2]) (by simp [results, Tryz.results78, go_sem]) rfl ⟨rfl, rfl⟩
set_option maxHeartbeats 4000000 in
set_option maxRecDepth 1000000 in
theorem partsOf_A (w : World) : Calls Tryz.prog 78 #[.string ⟨#[99, 111, 108, 117, 109, 110]⟩] w fun e w' => e = .returned (.tuple #[.int .i64 0, .int .i64 0]) ∧ w' = w := by
  go_enter Tryz.func78, Tryz.ntmps78
  go_wp2_with fail
  exact bodyPost_ret (v := .tuple #[.int .i64 0, .int .i64 0]) (by simp [results, Tryz.results78, go_sem]) rfl ⟨rfl, rfl⟩
set_option maxHeartbeats 4000000 in
set_option maxRecDepth 1000000 in
theorem partsOf_V (w : World) : Calls Tryz.prog 78 #[.string ⟨#[118, 97, 108, 117, 101]⟩] w fun e w' => e = .returned (.tuple #[.int .i64 0, .int .i64 0]) ∧ w' = w := by
  go_enter Tryz.func78, Tryz.ntmps78
  go_wp2_with fail
  exact bodyPost_ret (v := .tuple #[.int .i64 0, .int .i64 0]) (by simp [results, Tryz.results78, go_sem]) rfl ⟨rfl, rfl⟩
set_option maxHeartbeats 4000000 in
set_option maxRecDepth 1000000 in
theorem canBe_P (pe gP gC gR sp : Nat) (w : World) (h : LvW w pe gP gC gR sp) : Calls Tryz.prog 58 #[.pointer (some ⟨pe, 0, none⟩)] w fun e w' => e = .returned (.bool true) ∧ Below w.heap.size w w' := by
  obtain ⟨p0, p1, p2, p3, p4, p5, p6, p7, p8, _, _, _, _, _, _, _, _, _, _, _, _, _, _, _, _, _, _, _, _, _, _, _, _, _, _⟩ := h
  have PO := mkHid (fun w => partsOf_P w)
  have CK := mkHid (fun w => Check_one 2 w)
  go_enter Tryz.func58, Tryz.ntmps58
  clear CK
  go_wp2_with (go_at_call 78; refine (PO.out _).mono ?_; rintro e w1 ⟨rfl, rfl⟩)
  go_ret
  exact ⟨rfl, Below.refl _ _⟩
set_option maxHeartbeats 4000000 in
set_option maxRecDepth 1000000 in
theorem canBe_A (pe gP gC gR sp : Nat) (w : World) (h : LvW w pe gP gC gR sp) : Calls Tryz.prog 58 #[.pointer (some ⟨gP, 0, none⟩)] w fun e w' => e = .returned (.bool true) ∧ Below w.heap.size w w' := by
  obtain ⟨_, _, _, _, _, _, _, _, _, a0, a1, a2, a3, a4, a5, a6, a7, a8, _, _, _, _, _, _, _, _, _, _, _, _, _, _, _, _, _⟩ := h
  have PO := mkHid (fun w => partsOf_A w)
  have CK := mkHid (fun w => Check_one 2 w)
  go_enter Tryz.func58, Tryz.ntmps58
  clear CK
  go_wp2_with (go_at_call 78; refine (PO.out _).mono ?_; rintro e w1 ⟨rfl, rfl⟩)
  go_ret
  exact ⟨rfl, Below.refl _ _⟩
set_option maxHeartbeats 4000000 in
set_option maxRecDepth 1000000 in
theorem canBe_V (pe gP gC gR sp : Nat) (w : World) (h : LvW w pe gP gC gR sp) : Calls Tryz.prog 58 #[.pointer (some ⟨gP, 9, none⟩)] w fun e w' => e = .returned (.bool true) ∧ Below w.heap.size w w' := by
  obtain ⟨_, _, _, _, _, _, _, _, _, _, _, _, _, _, _, _, _, _, v0, v1, v2, v3, v4, v5, v6, v7, v8, _, _, _, _, _, _, _, _⟩ := h
  have PO := mkHid (fun w => partsOf_V w)
  have CK := mkHid (fun w => Check_one 2 w)
  go_enter Tryz.func58, Tryz.ntmps58
  go_wp2_with (first | (go_at_call 78; refine (PO.out _).mono ?_; rintro e w1 ⟨rfl, rfl⟩) | (go_at_call 42; refine (CK.out _).mono ?_; rintro e w2 ⟨rfl, hb2⟩))
  go_ret
  exact ⟨rfl, hb2⟩
end Go.Proofs.YtokppkinhlcafaaGreatDoor
