/-
  The walk of locksteplaw01.ValueTests.
-/
import Derived.Test.YtmgmpkdnepomgaaGreatDoorTstB
import Derived.Test.YtmgmpkdnepomgaaGreatDoorOrdM
import Derived.Test.YtmgmpkdnepomgaaGreatDoorLivesB
namespace Go.Proofs.YtmgmpkdnepomgaaGreatDoor
open Go.RowKit Go.Shelf

/-- a box: a value in a block of its own -/
structure Box (w : World) (b : Nat) (v : Va) : Prop where
  lt : b < w.heap.size
  c0 : w.cell? ⟨b, 0, none⟩ = some (.int .i64 v.ty)
  c1 : w.cell? ⟨b, 1, none⟩ = some (.int .i64 v.n)
  c2 : w.cell? ⟨b, 2, none⟩ = some (.string v.s)
theorem Box.below {w w' : World} {b : Nat} {v : Va} (h : Box w b v) (hb : Below w.heap.size w w') : Box w' b v :=
  ⟨Nat.lt_of_lt_of_le h.lt hb.size, (hb.cell (p := ⟨b, 0, none⟩) h.lt).trans h.c0, (hb.cell (p := ⟨b, 1, none⟩) h.lt).trans h.c1, (hb.cell (p := ⟨b, 2, none⟩) h.lt).trans h.c2⟩
theorem Box.alloc {w : World} {b : Nat} {v : Va} (h : Box w b v) (o : Obj) : Box (w.alloc o) b v := h.below ((Below.refl _ _).alloc (Nat.le_refl _) o)
theorem Box.new (w : World) (v : Va) : Box (w.alloc (.cells #[.int .i64 v.ty, .int .i64 v.n, .string v.s] 23)) w.heap.size v := by
  constructor
  all_goals go_simp
theorem Box.new1 (w : World) (o : Obj) (v : Va) : Box ((w.alloc o).alloc (.cells #[.int .i64 v.ty, .int .i64 v.n, .string v.s] 23)) (w.heap.size + 1) v := by
  have h := Box.new (w.alloc o) v
  have e : (w.alloc o).heap.size = w.heap.size + 1 := by simp
  rw [e] at h; exact h

set_option maxHeartbeats 8000000 in
set_option maxRecDepth 1000000 in
theorem testsLaw (op : ByteArray) (a b : Va) (w : World) (hT : Tabs w) (hP : Pow w) (x1 x2 y1 y2 E G H : Int) (z : Bool) (hG : (G == 0) = z) (hH : (H == 0) = z)
    (C1 : Hid (∀ w, Tabs w → Calls Tryz.prog 14 #[.string op, .agg #[.int .i64 a.ty, .int .i64 a.n, .string a.s], .agg #[.int .i64 b.ty, .int .i64 b.n, .string b.s]] w fun e w' => e = .returned (.tuple #[.agg #[.int .i64 x1, .int .i64 x2, .string ⟨#[]⟩], .int .i64 E]) ∧ Below w.heap.size w w'))
    (C2 : Hid (∀ w, Calls Tryz.prog 15 #[.string op, .agg #[.int .i64 a.ty, .int .i64 a.n, .string a.s], .agg #[.int .i64 b.ty, .int .i64 b.n, .string b.s]] w fun e w' => e = .returned (.tuple #[.agg #[.int .i64 x1, .int .i64 x2, .string ⟨#[]⟩], .int .i64 E]) ∧ Below w.heap.size w w'))
    (C3 : Hid (∀ w, Tabs w → Calls Tryz.prog 14 #[.string ⟨#[60]⟩, .agg #[.int .i64 a.ty, .int .i64 a.n, .string a.s], .agg #[.int .i64 b.ty, .int .i64 b.n, .string b.s]] w fun e w' => e = .returned (.tuple #[.agg #[.int .i64 y1, .int .i64 y2, .string ⟨#[]⟩], .int .i64 G]) ∧ Below w.heap.size w w'))
    (C4 : Hid (∀ w, Tabs w → Calls Tryz.prog 14 #[.string ⟨#[62]⟩, .agg #[.int .i64 b.ty, .int .i64 b.n, .string b.s], .agg #[.int .i64 a.ty, .int .i64 a.n, .string a.s]] w fun e w' => e = .returned (.tuple #[.agg #[.int .i64 y1, .int .i64 y2, .string ⟨#[]⟩], .int .i64 H]) ∧ Below w.heap.size w w'))
    : Calls Tryz.prog 4 #[.string op, .agg #[.int .i64 a.ty, .int .i64 a.n, .string a.s], .agg #[.int .i64 b.ty, .int .i64 b.n, .string b.s]] w fun e w' => e = .returned (.bool true) ∧ Below w.heap.size w w' := by
  have LV : Hid (∀ w, Tabs w → Pow w → Calls Tryz.prog 13 #[] w fun e w' => e = .returned (.bool true) ∧ Below w.heap.size w w') := lives_any
  have YA : Hid _ := (Box.new w a).alloc (.cells #[.int .i64 b.ty, .int .i64 b.n, .string b.s] 23)
  have YB : Hid _ := Box.new1 w (.cells #[.int .i64 a.ty, .int .i64 a.n, .string a.s] 23) b
  have L0 : Hid _ := ((Below.refl _ w).alloc (Nat.le_refl _) (.cells #[.int .i64 a.ty, .int .i64 a.n, .string a.s] 23)).alloc (by simp) (.cells #[.int .i64 b.ty, .int .i64 b.n, .string b.s] 23)
  go_enter Tryz.func4, Tryz.ntmps4
  go_wp2_with fail
  refine (C1.out _ (hT.below L0.out)).mono ?_
  rintro e w1 ⟨rfl, hb1⟩
  have XA := YA.out.below hb1
  have XB := YB.out.below hb1
  have L1 := L0.out.trans (hb1.mono (by simp; omega))
  clear YA YB L0 hb1
  obtain ⟨lA, cA0, cA1, cA2⟩ := id XA
  obtain ⟨lB, cB0, cB1, cB2⟩ := id XB
  go_wp2_with fail
  refine (C2.out _).mono ?_
  rintro e w2 ⟨rfl, hb2⟩
  clear lA cA0 cA1 cA2 lB cB0 cB1 cB2
  replace XA := (XA.alloc (.cells #[.int .i64 x1, .int .i64 x2, .string ⟨#[]⟩] 23)).below hb2
  replace XB := (XB.alloc (.cells #[.int .i64 x1, .int .i64 x2, .string ⟨#[]⟩] 23)).below hb2
  have Xv := (Box.new w1 ⟨x1, x2, ⟨#[]⟩⟩).below hb2
  have L2 := (L1.alloc L1.size (.cells #[.int .i64 x1, .int .i64 x2, .string ⟨#[]⟩] 23)).trans (hb2.mono (by simpa using Nat.le_succ_of_le L1.size))
  clear L1 hb2
  obtain ⟨lv, cv0, cv1, cv2⟩ := id Xv
  obtain ⟨lA, cA0, cA1, cA2⟩ := id XA
  obtain ⟨lB, cB0, cB1, cB2⟩ := id XB
  go_wp2_with fail
  refine (C3.out _ (hT.below (L2.alloc L2.size _))).mono ?_
  rintro e w3 ⟨rfl, hb3⟩
  clear lv cv0 cv1 cv2
  clear lA cA0 cA1 cA2 lB cB0 cB1 cB2
  replace XA := (XA.alloc (.cells #[.int .i64 x1, .int .i64 x2, .string ⟨#[]⟩] 23)).below hb3
  replace XB := (XB.alloc (.cells #[.int .i64 x1, .int .i64 x2, .string ⟨#[]⟩] 23)).below hb3
  replace Xv := (Xv.alloc (.cells #[.int .i64 x1, .int .i64 x2, .string ⟨#[]⟩] 23)).below hb3
  have Xw := (Box.new w2 ⟨x1, x2, ⟨#[]⟩⟩).below hb3
  have L3 := (L2.alloc L2.size (.cells #[.int .i64 x1, .int .i64 x2, .string ⟨#[]⟩] 23)).trans (hb3.mono (by simpa using Nat.le_succ_of_le L2.size))
  clear L2 hb3
  obtain ⟨lA, cA0, cA1, cA2⟩ := id XA
  obtain ⟨lB, cB0, cB1, cB2⟩ := id XB
  go_wp2_with fail
  refine (C4.out _ (hT.below (L3.alloc L3.size _))).mono ?_
  rintro e w4 ⟨rfl, hb4⟩
  clear lA cA0 cA1 cA2 lB cB0 cB1 cB2
  replace XA := (XA.alloc (.cells #[.int .i64 y1, .int .i64 y2, .string ⟨#[]⟩] 23)).below hb4
  replace XB := (XB.alloc (.cells #[.int .i64 y1, .int .i64 y2, .string ⟨#[]⟩] 23)).below hb4
  replace Xv := (Xv.alloc (.cells #[.int .i64 y1, .int .i64 y2, .string ⟨#[]⟩] 23)).below hb4
  replace Xw := (Xw.alloc (.cells #[.int .i64 y1, .int .i64 y2, .string ⟨#[]⟩] 23)).below hb4
  have Xx := (Box.new w3 ⟨y1, y2, ⟨#[]⟩⟩).below hb4
  have L4 := (L3.alloc L3.size (.cells #[.int .i64 y1, .int .i64 y2, .string ⟨#[]⟩] 23)).trans (hb4.mono (by simpa using Nat.le_succ_of_le L3.size))
  clear L3 hb4
  obtain ⟨lx, cx0, cx1, cx2⟩ := id Xx
  go_wp2_with fail
  refine (LV.out _ (hT.below (L4.alloc L4.size _)) (hP.below (L4.alloc L4.size _))).mono ?_
  rintro e wz ⟨rfl, hbz⟩
  go_wp2_with fail
  go_ret
  exact ⟨rfl, (L4.alloc L4.size _).trans (hbz.mono (L4.alloc L4.size _).size)⟩
end Go.Proofs.YtmgmpkdnepomgaaGreatDoor
