/-
  Blocks of cells: pieces, tokens, places.
-/
import Derived.Test.YtfcolecglobcdaaGreatDoorLxC
import Derived.Test.YtfcolecglobcdaaGreatDoorLxP
namespace Go.Proofs.YtfcolecglobcdaaGreatDoor
open Go.RowKit Go.Shelf

set_option maxHeartbeats 2000000 in
/-- a block of 3 cells -/
structure R3 (w : World) (g : Nat) (a0 a1 a2 : Value) : Prop where
  lt : g < w.heap.size
  c0 : w.cell? ⟨g, 0, none⟩ = some a0
  c1 : w.cell? ⟨g, 1, none⟩ = some a1
  c2 : w.cell? ⟨g, 2, none⟩ = some a2
  f0 : w.frozen? ⟨g, 0, none⟩ = false
  f1 : w.frozen? ⟨g, 1, none⟩ = false
  f2 : w.frozen? ⟨g, 2, none⟩ = false
theorem R3.new (w : World) (t : TypeId) (a0 a1 a2 : Value) : R3 (w.alloc (.cells #[a0, a1, a2] t)) w.heap.size a0 a1 a2 := by
  constructor
  all_goals go_simp
theorem R3.below {w w' : World} {g : Nat} {a0 a1 a2 : Value} (h : R3 w g a0 a1 a2) (hb : Below w.heap.size w w') : R3 w' g a0 a1 a2 := by
  obtain ⟨l, c0, c1, c2, f0, f1, f2⟩ := h
  exact ⟨Nat.lt_of_lt_of_le l hb.size, (hb.cell (p := ⟨g, 0, none⟩) l).trans c0, (hb.cell (p := ⟨g, 1, none⟩) l).trans c1, (hb.cell (p := ⟨g, 2, none⟩) l).trans c2, (hb.frozen (p := ⟨g, 0, none⟩) l).trans f0, (hb.frozen (p := ⟨g, 1, none⟩) l).trans f1, (hb.frozen (p := ⟨g, 2, none⟩) l).trans f2⟩
theorem R3.under {w w' : World} {B g : Nat} {a0 a1 a2 : Value} (h : R3 w g a0 a1 a2) (hb : Below B w w') (hg : g < B) : R3 w' g a0 a1 a2 := by
  obtain ⟨l, c0, c1, c2, f0, f1, f2⟩ := h
  exact ⟨Nat.lt_of_lt_of_le l hb.size, (hb.cell (p := ⟨g, 0, none⟩) hg).trans c0, (hb.cell (p := ⟨g, 1, none⟩) hg).trans c1, (hb.cell (p := ⟨g, 2, none⟩) hg).trans c2, (hb.frozen (p := ⟨g, 0, none⟩) hg).trans f0, (hb.frozen (p := ⟨g, 1, none⟩) hg).trans f1, (hb.frozen (p := ⟨g, 2, none⟩) hg).trans f2⟩
theorem R3.alloc {w : World} {g : Nat} {a0 a1 a2 : Value} (h : R3 w g a0 a1 a2) (o : Obj) : R3 (w.alloc o) g a0 a1 a2 := h.below ((Below.refl _ w).alloc (Nat.le_refl _) o)
def R3.set (w : World) (g : Nat) (b0 b1 b2 : Value) : World := ((w.setCell ⟨g, 0, none⟩ b0).setCell ⟨g, 1, none⟩ b1).setCell ⟨g, 2, none⟩ b2
theorem R3.put {w : World} {g : Nat} {a0 a1 a2 : Value} (h : R3 w g a0 a1 a2) (b0 b1 b2 : Value) : R3 (R3.set w g b0 b1 b2) g b0 b1 b2 := by
  obtain ⟨l, c0, c1, c2, f0, f1, f2⟩ := h
  unfold R3.set
  constructor
  all_goals first | (simp; exact l) | go_simp
theorem R3.set_below {w0 w : World} {B g : Nat} (h : Below B w0 w) (hg : B ≤ g) (b0 b1 b2 : Value) : Below B w0 (R3.set w g b0 b1 b2) := (((h.setCell (p := ⟨g, 0, none⟩) hg _).setCell (p := ⟨g, 1, none⟩) hg _).setCell (p := ⟨g, 2, none⟩) hg _)
set_option maxHeartbeats 2000000 in
/-- a block of 8 cells -/
structure R8 (w : World) (g : Nat) (a0 a1 a2 a3 a4 a5 a6 a7 : Value) : Prop where
  lt : g < w.heap.size
  c0 : w.cell? ⟨g, 0, none⟩ = some a0
  c1 : w.cell? ⟨g, 1, none⟩ = some a1
  c2 : w.cell? ⟨g, 2, none⟩ = some a2
  c3 : w.cell? ⟨g, 3, none⟩ = some a3
  c4 : w.cell? ⟨g, 4, none⟩ = some a4
  c5 : w.cell? ⟨g, 5, none⟩ = some a5
  c6 : w.cell? ⟨g, 6, none⟩ = some a6
  c7 : w.cell? ⟨g, 7, none⟩ = some a7
  f0 : w.frozen? ⟨g, 0, none⟩ = false
  f1 : w.frozen? ⟨g, 1, none⟩ = false
  f2 : w.frozen? ⟨g, 2, none⟩ = false
  f3 : w.frozen? ⟨g, 3, none⟩ = false
  f4 : w.frozen? ⟨g, 4, none⟩ = false
  f5 : w.frozen? ⟨g, 5, none⟩ = false
  f6 : w.frozen? ⟨g, 6, none⟩ = false
  f7 : w.frozen? ⟨g, 7, none⟩ = false
theorem R8.new (w : World) (t : TypeId) (a0 a1 a2 a3 a4 a5 a6 a7 : Value) : R8 (w.alloc (.cells #[a0, a1, a2, a3, a4, a5, a6, a7] t)) w.heap.size a0 a1 a2 a3 a4 a5 a6 a7 := by
  constructor
  all_goals go_simp
theorem R8.below {w w' : World} {g : Nat} {a0 a1 a2 a3 a4 a5 a6 a7 : Value} (h : R8 w g a0 a1 a2 a3 a4 a5 a6 a7) (hb : Below w.heap.size w w') : R8 w' g a0 a1 a2 a3 a4 a5 a6 a7 := by
  obtain ⟨l, c0, c1, c2, c3, c4, c5, c6, c7, f0, f1, f2, f3, f4, f5, f6, f7⟩ := h
  exact ⟨Nat.lt_of_lt_of_le l hb.size, (hb.cell (p := ⟨g, 0, none⟩) l).trans c0, (hb.cell (p := ⟨g, 1, none⟩) l).trans c1, (hb.cell (p := ⟨g, 2, none⟩) l).trans c2, (hb.cell (p := ⟨g, 3, none⟩) l).trans c3, (hb.cell (p := ⟨g, 4, none⟩) l).trans c4, (hb.cell (p := ⟨g, 5, none⟩) l).trans c5, (hb.cell (p := ⟨g, 6, none⟩) l).trans c6, (hb.cell (p := ⟨g, 7, none⟩) l).trans c7, (hb.frozen (p := ⟨g, 0, none⟩) l).trans f0, (hb.frozen (p := ⟨g, 1, none⟩) l).trans f1, (hb.frozen (p := ⟨g, 2, none⟩) l).trans f2, (hb.frozen (p := ⟨g, 3, none⟩) l).trans f3, (hb.frozen (p := ⟨g, 4, none⟩) l).trans f4, (hb.frozen (p := ⟨g, 5, none⟩) l).trans f5, (hb.frozen (p := ⟨g, 6, none⟩) l).trans f6, (hb.frozen (p := ⟨g, 7, none⟩) l).trans f7⟩
theorem R8.under {w w' : World} {B g : Nat} {a0 a1 a2 a3 a4 a5 a6 a7 : Value} (h : R8 w g a0 a1 a2 a3 a4 a5 a6 a7) (hb : Below B w w') (hg : g < B) : R8 w' g a0 a1 a2 a3 a4 a5 a6 a7 := by
  obtain ⟨l, c0, c1, c2, c3, c4, c5, c6, c7, f0, f1, f2, f3, f4, f5, f6, f7⟩ := h
  exact ⟨Nat.lt_of_lt_of_le l hb.size, (hb.cell (p := ⟨g, 0, none⟩) hg).trans c0, (hb.cell (p := ⟨g, 1, none⟩) hg).trans c1, (hb.cell (p := ⟨g, 2, none⟩) hg).trans c2, (hb.cell (p := ⟨g, 3, none⟩) hg).trans c3, (hb.cell (p := ⟨g, 4, none⟩) hg).trans c4, (hb.cell (p := ⟨g, 5, none⟩) hg).trans c5, (hb.cell (p := ⟨g, 6, none⟩) hg).trans c6, (hb.cell (p := ⟨g, 7, none⟩) hg).trans c7, (hb.frozen (p := ⟨g, 0, none⟩) hg).trans f0, (hb.frozen (p := ⟨g, 1, none⟩) hg).trans f1, (hb.frozen (p := ⟨g, 2, none⟩) hg).trans f2, (hb.frozen (p := ⟨g, 3, none⟩) hg).trans f3, (hb.frozen (p := ⟨g, 4, none⟩) hg).trans f4, (hb.frozen (p := ⟨g, 5, none⟩) hg).trans f5, (hb.frozen (p := ⟨g, 6, none⟩) hg).trans f6, (hb.frozen (p := ⟨g, 7, none⟩) hg).trans f7⟩
theorem R8.alloc {w : World} {g : Nat} {a0 a1 a2 a3 a4 a5 a6 a7 : Value} (h : R8 w g a0 a1 a2 a3 a4 a5 a6 a7) (o : Obj) : R8 (w.alloc o) g a0 a1 a2 a3 a4 a5 a6 a7 := h.below ((Below.refl _ w).alloc (Nat.le_refl _) o)
def R8.set (w : World) (g : Nat) (b0 b1 b2 b3 b4 b5 b6 b7 : Value) : World := (((((((w.setCell ⟨g, 0, none⟩ b0).setCell ⟨g, 1, none⟩ b1).setCell ⟨g, 2, none⟩ b2).setCell ⟨g, 3, none⟩ b3).setCell ⟨g, 4, none⟩ b4).setCell ⟨g, 5, none⟩ b5).setCell ⟨g, 6, none⟩ b6).setCell ⟨g, 7, none⟩ b7
theorem R8.put {w : World} {g : Nat} {a0 a1 a2 a3 a4 a5 a6 a7 : Value} (h : R8 w g a0 a1 a2 a3 a4 a5 a6 a7) (b0 b1 b2 b3 b4 b5 b6 b7 : Value) : R8 (R8.set w g b0 b1 b2 b3 b4 b5 b6 b7) g b0 b1 b2 b3 b4 b5 b6 b7 := by
  obtain ⟨l, c0, c1, c2, c3, c4, c5, c6, c7, f0, f1, f2, f3, f4, f5, f6, f7⟩ := h
  unfold R8.set
  constructor
  all_goals first | (simp; exact l) | go_simp
theorem R8.set_below {w0 w : World} {B g : Nat} (h : Below B w0 w) (hg : B ≤ g) (b0 b1 b2 b3 b4 b5 b6 b7 : Value) : Below B w0 (R8.set w g b0 b1 b2 b3 b4 b5 b6 b7) := ((((((((h.setCell (p := ⟨g, 0, none⟩) hg _).setCell (p := ⟨g, 1, none⟩) hg _).setCell (p := ⟨g, 2, none⟩) hg _).setCell (p := ⟨g, 3, none⟩) hg _).setCell (p := ⟨g, 4, none⟩) hg _).setCell (p := ⟨g, 5, none⟩) hg _).setCell (p := ⟨g, 6, none⟩) hg _).setCell (p := ⟨g, 7, none⟩) hg _)
set_option maxHeartbeats 2000000 in
/-- a block of 11 cells -/
structure R11 (w : World) (g : Nat) (a0 a1 a2 a3 a4 a5 a6 a7 a8 a9 a10 : Value) : Prop where
  lt : g < w.heap.size
  c0 : w.cell? ⟨g, 0, none⟩ = some a0
  c1 : w.cell? ⟨g, 1, none⟩ = some a1
  c2 : w.cell? ⟨g, 2, none⟩ = some a2
  c3 : w.cell? ⟨g, 3, none⟩ = some a3
  c4 : w.cell? ⟨g, 4, none⟩ = some a4
  c5 : w.cell? ⟨g, 5, none⟩ = some a5
  c6 : w.cell? ⟨g, 6, none⟩ = some a6
  c7 : w.cell? ⟨g, 7, none⟩ = some a7
  c8 : w.cell? ⟨g, 8, none⟩ = some a8
  c9 : w.cell? ⟨g, 9, none⟩ = some a9
  c10 : w.cell? ⟨g, 10, none⟩ = some a10
  f0 : w.frozen? ⟨g, 0, none⟩ = false
  f1 : w.frozen? ⟨g, 1, none⟩ = false
  f2 : w.frozen? ⟨g, 2, none⟩ = false
  f3 : w.frozen? ⟨g, 3, none⟩ = false
  f4 : w.frozen? ⟨g, 4, none⟩ = false
  f5 : w.frozen? ⟨g, 5, none⟩ = false
  f6 : w.frozen? ⟨g, 6, none⟩ = false
  f7 : w.frozen? ⟨g, 7, none⟩ = false
  f8 : w.frozen? ⟨g, 8, none⟩ = false
  f9 : w.frozen? ⟨g, 9, none⟩ = false
  f10 : w.frozen? ⟨g, 10, none⟩ = false
theorem R11.new (w : World) (t : TypeId) (a0 a1 a2 a3 a4 a5 a6 a7 a8 a9 a10 : Value) : R11 (w.alloc (.cells #[a0, a1, a2, a3, a4, a5, a6, a7, a8, a9, a10] t)) w.heap.size a0 a1 a2 a3 a4 a5 a6 a7 a8 a9 a10 := by
  constructor
  all_goals go_simp
theorem R11.below {w w' : World} {g : Nat} {a0 a1 a2 a3 a4 a5 a6 a7 a8 a9 a10 : Value} (h : R11 w g a0 a1 a2 a3 a4 a5 a6 a7 a8 a9 a10) (hb : Below w.heap.size w w') : R11 w' g a0 a1 a2 a3 a4 a5 a6 a7 a8 a9 a10 := by
  obtain ⟨l, c0, c1, c2, c3, c4, c5, c6, c7, c8, c9, c10, f0, f1, f2, f3, f4, f5, f6, f7, f8, f9, f10⟩ := h
  exact ⟨Nat.lt_of_lt_of_le l hb.size, (hb.cell (p := ⟨g, 0, none⟩) l).trans c0, (hb.cell (p := ⟨g, 1, none⟩) l).trans c1, (hb.cell (p := ⟨g, 2, none⟩) l).trans c2, (hb.cell (p := ⟨g, 3, none⟩) l).trans c3, (hb.cell (p := ⟨g, 4, none⟩) l).trans c4, (hb.cell (p := ⟨g, 5, none⟩) l).trans c5, (hb.cell (p := ⟨g, 6, none⟩) l).trans c6, (hb.cell (p := ⟨g, 7, none⟩) l).trans c7, (hb.cell (p := ⟨g, 8, none⟩) l).trans c8, (hb.cell (p := ⟨g, 9, none⟩) l).trans c9, (hb.cell (p := ⟨g, 10, none⟩) l).trans c10, (hb.frozen (p := ⟨g, 0, none⟩) l).trans f0, (hb.frozen (p := ⟨g, 1, none⟩) l).trans f1, (hb.frozen (p := ⟨g, 2, none⟩) l).trans f2, (hb.frozen (p := ⟨g, 3, none⟩) l).trans f3, (hb.frozen (p := ⟨g, 4, none⟩) l).trans f4, (hb.frozen (p := ⟨g, 5, none⟩) l).trans f5, (hb.frozen (p := ⟨g, 6, none⟩) l).trans f6, (hb.frozen (p := ⟨g, 7, none⟩) l).trans f7, (hb.frozen (p := ⟨g, 8, none⟩) l).trans f8, (hb.frozen (p := ⟨g, 9, none⟩) l).trans f9, (hb.frozen (p := ⟨g, 10, none⟩) l).trans f10⟩
theorem R11.under {w w' : World} {B g : Nat} {a0 a1 a2 a3 a4 a5 a6 a7 a8 a9 a10 : Value} (h : R11 w g a0 a1 a2 a3 a4 a5 a6 a7 a8 a9 a10) (hb : Below B w w') (hg : g < B) : R11 w' g a0 a1 a2 a3 a4 a5 a6 a7 a8 a9 a10 := by
  obtain ⟨l, c0, c1, c2, c3, c4, c5, c6, c7, c8, c9, c10, f0, f1, f2, f3, f4, f5, f6, f7, f8, f9, f10⟩ := h
  exact ⟨Nat.lt_of_lt_of_le l hb.size, (hb.cell (p := ⟨g, 0, none⟩) hg).trans c0, (hb.cell (p := ⟨g, 1, none⟩) hg).trans c1, (hb.cell (p := ⟨g, 2, none⟩) hg).trans c2, (hb.cell (p := ⟨g, 3, none⟩) hg).trans c3, (hb.cell (p := ⟨g, 4, none⟩) hg).trans c4, (hb.cell (p := ⟨g, 5, none⟩) hg).trans c5, (hb.cell (p := ⟨g, 6, none⟩) hg).trans c6, (hb.cell (p := ⟨g, 7, none⟩) hg).trans c7, (hb.cell (p := ⟨g, 8, none⟩) hg).trans c8, (hb.cell (p := ⟨g, 9, none⟩) hg).trans c9, (hb.cell (p := ⟨g, 10, none⟩) hg).trans c10, (hb.frozen (p := ⟨g, 0, none⟩) hg).trans f0, (hb.frozen (p := ⟨g, 1, none⟩) hg).trans f1, (hb.frozen (p := ⟨g, 2, none⟩) hg).trans f2, (hb.frozen (p := ⟨g, 3, none⟩) hg).trans f3, (hb.frozen (p := ⟨g, 4, none⟩) hg).trans f4, (hb.frozen (p := ⟨g, 5, none⟩) hg).trans f5, (hb.frozen (p := ⟨g, 6, none⟩) hg).trans f6, (hb.frozen (p := ⟨g, 7, none⟩) hg).trans f7, (hb.frozen (p := ⟨g, 8, none⟩) hg).trans f8, (hb.frozen (p := ⟨g, 9, none⟩) hg).trans f9, (hb.frozen (p := ⟨g, 10, none⟩) hg).trans f10⟩
theorem R11.alloc {w : World} {g : Nat} {a0 a1 a2 a3 a4 a5 a6 a7 a8 a9 a10 : Value} (h : R11 w g a0 a1 a2 a3 a4 a5 a6 a7 a8 a9 a10) (o : Obj) : R11 (w.alloc o) g a0 a1 a2 a3 a4 a5 a6 a7 a8 a9 a10 := h.below ((Below.refl _ w).alloc (Nat.le_refl _) o)
def R11.set (w : World) (g : Nat) (b0 b1 b2 b3 b4 b5 b6 b7 b8 b9 b10 : Value) : World := ((((((((((w.setCell ⟨g, 0, none⟩ b0).setCell ⟨g, 1, none⟩ b1).setCell ⟨g, 2, none⟩ b2).setCell ⟨g, 3, none⟩ b3).setCell ⟨g, 4, none⟩ b4).setCell ⟨g, 5, none⟩ b5).setCell ⟨g, 6, none⟩ b6).setCell ⟨g, 7, none⟩ b7).setCell ⟨g, 8, none⟩ b8).setCell ⟨g, 9, none⟩ b9).setCell ⟨g, 10, none⟩ b10
theorem R11.put {w : World} {g : Nat} {a0 a1 a2 a3 a4 a5 a6 a7 a8 a9 a10 : Value} (h : R11 w g a0 a1 a2 a3 a4 a5 a6 a7 a8 a9 a10) (b0 b1 b2 b3 b4 b5 b6 b7 b8 b9 b10 : Value) : R11 (R11.set w g b0 b1 b2 b3 b4 b5 b6 b7 b8 b9 b10) g b0 b1 b2 b3 b4 b5 b6 b7 b8 b9 b10 := by
  obtain ⟨l, c0, c1, c2, c3, c4, c5, c6, c7, c8, c9, c10, f0, f1, f2, f3, f4, f5, f6, f7, f8, f9, f10⟩ := h
  unfold R11.set
  constructor
  all_goals first | (simp; exact l) | go_simp
theorem R11.set_below {w0 w : World} {B g : Nat} (h : Below B w0 w) (hg : B ≤ g) (b0 b1 b2 b3 b4 b5 b6 b7 b8 b9 b10 : Value) : Below B w0 (R11.set w g b0 b1 b2 b3 b4 b5 b6 b7 b8 b9 b10) := (((((((((((h.setCell (p := ⟨g, 0, none⟩) hg _).setCell (p := ⟨g, 1, none⟩) hg _).setCell (p := ⟨g, 2, none⟩) hg _).setCell (p := ⟨g, 3, none⟩) hg _).setCell (p := ⟨g, 4, none⟩) hg _).setCell (p := ⟨g, 5, none⟩) hg _).setCell (p := ⟨g, 6, none⟩) hg _).setCell (p := ⟨g, 7, none⟩) hg _).setCell (p := ⟨g, 8, none⟩) hg _).setCell (p := ⟨g, 9, none⟩) hg _).setCell (p := ⟨g, 10, none⟩) hg _)
def tkv (k : Int) (t : ByteArray) (ty n : Int) (s : ByteArray) (p a b : Int) : Value := .agg #[.int .i64 k, .string t, .int .i64 ty, .int .i64 n, .string s, .int .i64 p, .int .i64 a, .int .i64 b]
def pcv (p : Pc) : Value := .agg #[.int .i64 p.size, .int .i64 p.kind, .string ⟨p.text.toArray⟩, .int .i64 p.v.ty, .int .i64 p.v.n, .string p.v.s, .int .i64 0, .int .i64 0, .int .i64 0, .int .i64 p.why, .int .i64 p.ahead]
/-- the program's variable signs holds the signs -/
def Sg (w : World) : Prop := ∀ (i : Nat) (g : List UInt8), sgs[i]? = some g → w.cell? ⟨0, i, none⟩ = some (.string ⟨g.toArray⟩)
theorem Sg.below {w w' : World} (h : Sg w) (hb : Below w.heap.size w w') : Sg w' := by
  intro i g hg
  have h1 := h i g hg
  exact (hb.cell (p := ⟨0, i, none⟩) (World.block_lt_of_cell? w _ h1)).trans h1
end Go.Proofs.YtfcolecglobcdaaGreatDoor
