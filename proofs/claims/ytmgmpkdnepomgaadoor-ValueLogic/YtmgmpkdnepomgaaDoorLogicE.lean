/-
  The walk of locksteplaw01.ValueLogic, over what And, Or and Not tell.
-/
import Derived.Test.YtmgmpkdnepomgaaDoorLogicD
namespace Go.Proofs.YtmgmpkdnepomgaaDoor
open Go.RowKit Go.Shelf

/-- a box: a value in a block of its own -/
structure Box (w : World) (b : Nat) (v : Va) : Prop where
  lt : b < w.heap.size
  c0 : w.cell? ⟨b, 0, none⟩ = some (.int .i64 v.ty)
  c1 : w.cell? ⟨b, 1, none⟩ = some (.int .i64 v.n)
  c2 : w.cell? ⟨b, 2, none⟩ = some (.string v.s)
theorem Box.below {w w' : World} {b : Nat} {v : Va} (h : Box w b v) (hb : Below w.heap.size w w') : Box w' b v :=
  ⟨Nat.lt_of_lt_of_le h.lt hb.size, (hb.cell (p := ⟨b, 0, none⟩) h.lt).trans h.c0, (hb.cell (p := ⟨b, 1, none⟩) h.lt).trans h.c1, (hb.cell (p := ⟨b, 2, none⟩) h.lt).trans h.c2⟩
theorem Box.alloc {w : World} {b : Nat} {v : Va} (h : Box w b v) (o : Obj) : Box (w.alloc o) b v := h.below ((Below.refl _ _).alloc (Nat.le_refl _) o)
theorem Box.new (w : World) (v : Va) : Box (w.alloc (.cells #[.int .i64 v.ty, .int .i64 v.n, .string v.s] 23)) w.heap.size v := by
  constructor
  all_goals go_simp
theorem Box.new1 (w : World) (o : Obj) (v : Va) : Box ((w.alloc o).alloc (.cells #[.int .i64 v.ty, .int .i64 v.n, .string v.s] 23)) (w.heap.size + 1) v := by
  have h := Box.new (w.alloc o) v
  have e : (w.alloc o).heap.size = w.heap.size + 1 := by simp
  rw [e] at h; exact h
theorem Box.new2 (w : World) (o o' : Obj) (v : Va) : Box (((w.alloc o).alloc o').alloc (.cells #[.int .i64 v.ty, .int .i64 v.n, .string v.s] 23)) (w.heap.size + 1 + 1) v := by
  have h := Box.new ((w.alloc o).alloc o') v
  have e : ((w.alloc o).alloc o').heap.size = w.heap.size + 1 + 1 := by simp
  rw [e] at h; exact h

set_option maxHeartbeats 8000000 in
set_option maxRecDepth 1000000 in
theorem law_err (a b c : Va) (w : World) (hT : Tabs w) (hP : Pow w) (x1 x2 o1 o2 n1 n2 E En : Int)
    (C1 : Hid (∀ w, Tabs w → Calls Tryd.prog 4 #[.agg #[.int .i64 a.ty, .int .i64 a.n, .string a.s], .agg #[.int .i64 b.ty, .int .i64 b.n, .string b.s]] w fun e w' => e = .returned (.tuple #[.agg #[.int .i64 x1, .int .i64 x2, .string ⟨#[]⟩], .int .i64 E]) ∧ Below w.heap.size w w'))
    (C2 : Hid (∀ w, Calls Tryd.prog 5 #[.agg #[.int .i64 a.ty, .int .i64 a.n, .string a.s], .agg #[.int .i64 b.ty, .int .i64 b.n, .string b.s]] w fun e w' => e = .returned (.tuple #[.agg #[.int .i64 x1, .int .i64 x2, .string ⟨#[]⟩], .int .i64 E]) ∧ Below w.heap.size w w'))
    (C3 : Hid (∀ w, Tabs w → Calls Tryd.prog 6 #[.agg #[.int .i64 a.ty, .int .i64 a.n, .string a.s], .agg #[.int .i64 b.ty, .int .i64 b.n, .string b.s]] w fun e w' => e = .returned (.tuple #[.agg #[.int .i64 o1, .int .i64 o2, .string ⟨#[]⟩], .int .i64 E]) ∧ Below w.heap.size w w'))
    (C4 : Hid (∀ w, Calls Tryd.prog 7 #[.agg #[.int .i64 a.ty, .int .i64 a.n, .string a.s], .agg #[.int .i64 b.ty, .int .i64 b.n, .string b.s]] w fun e w' => e = .returned (.tuple #[.agg #[.int .i64 o1, .int .i64 o2, .string ⟨#[]⟩], .int .i64 E]) ∧ Below w.heap.size w w'))
    (C5 : Hid (∀ w, Tabs w → Calls Tryd.prog 8 #[.agg #[.int .i64 a.ty, .int .i64 a.n, .string a.s]] w fun e w' => e = .returned (.tuple #[.agg #[.int .i64 n1, .int .i64 n2, .string ⟨#[]⟩], .int .i64 En]) ∧ Below w.heap.size w w'))
    (C6 : Hid (∀ w, Calls Tryd.prog 9 #[.agg #[.int .i64 a.ty, .int .i64 a.n, .string a.s]] w fun e w' => e = .returned (.tuple #[.agg #[.int .i64 n1, .int .i64 n2, .string ⟨#[]⟩], .int .i64 En]) ∧ Below w.heap.size w w'))
    (hE : (E != 0) = true)
    : Calls Tryd.prog 3 #[.agg #[.int .i64 a.ty, .int .i64 a.n, .string a.s], .agg #[.int .i64 b.ty, .int .i64 b.n, .string b.s], .agg #[.int .i64 c.ty, .int .i64 c.n, .string c.s]] w fun e w' => e = .returned (.bool true) ∧ Below w.heap.size w w' := by
  have LV : Hid (∀ w, Tabs w → Pow w → Calls Tryd.prog 10 #[] w fun e w' => e = .returned (.bool true) ∧ Below w.heap.size w w') := lives_any
  have YA : Hid _ := ((Box.new w a).alloc (.cells #[.int .i64 b.ty, .int .i64 b.n, .string b.s] 23)).alloc (.cells #[.int .i64 c.ty, .int .i64 c.n, .string c.s] 23)
  have YB : Hid _ := (Box.new1 w (.cells #[.int .i64 a.ty, .int .i64 a.n, .string a.s] 23) b).alloc (.cells #[.int .i64 c.ty, .int .i64 c.n, .string c.s] 23)
  have YC : Hid _ := Box.new2 w (.cells #[.int .i64 a.ty, .int .i64 a.n, .string a.s] 23) (.cells #[.int .i64 b.ty, .int .i64 b.n, .string b.s] 23) c
  have L0 : Hid _ := (((Below.refl _ w).alloc (Nat.le_refl _) (.cells #[.int .i64 a.ty, .int .i64 a.n, .string a.s] 23)).alloc (by simp) (.cells #[.int .i64 b.ty, .int .i64 b.n, .string b.s] 23)).alloc (by simp; omega) (.cells #[.int .i64 c.ty, .int .i64 c.n, .string c.s] 23)
  go_enter Tryd.func3, Tryd.ntmps3
  go_wp2_with fail
  refine (C1.out _ (hT.below L0.out)).mono ?_
  rintro e w1 ⟨rfl, hb1⟩
  have XA := YA.out.below hb1
  have XB := YB.out.below hb1
  have XC := YC.out.below hb1
  have L1 := L0.out.trans (hb1.mono (by simp; omega))
  clear YA YB YC L0 hb1
  obtain ⟨lA, cA0, cA1, cA2⟩ := id XA
  obtain ⟨lB, cB0, cB1, cB2⟩ := id XB
  go_wp2_with fail
  refine (C2.out _).mono ?_
  rintro e w2 ⟨rfl, hb2⟩
  clear lA cA0 cA1 cA2 lB cB0 cB1 cB2
  replace XA := (XA.alloc (.cells #[.int .i64 x1, .int .i64 x2, .string ⟨#[]⟩] 23)).below hb2
  replace XB := (XB.alloc (.cells #[.int .i64 x1, .int .i64 x2, .string ⟨#[]⟩] 23)).below hb2
  replace XC := (XC.alloc (.cells #[.int .i64 x1, .int .i64 x2, .string ⟨#[]⟩] 23)).below hb2
  have Xv := (Box.new w1 ⟨x1, x2, ⟨#[]⟩⟩).below hb2
  have L2 := (L1.alloc L1.size (.cells #[.int .i64 x1, .int .i64 x2, .string ⟨#[]⟩] 23)).trans (hb2.mono (by simpa using Nat.le_succ_of_le L1.size))
  clear L1 hb2
  obtain ⟨lA, cA0, cA1, cA2⟩ := id XA
  obtain ⟨lB, cB0, cB1, cB2⟩ := id XB
  go_wp2_with fail
  refine (C3.out _ (hT.below (L2.alloc L2.size _))).mono ?_
  rintro e w3 ⟨rfl, hb3⟩
  clear lA cA0 cA1 cA2 lB cB0 cB1 cB2
  replace XA := (XA.alloc (.cells #[.int .i64 x1, .int .i64 x2, .string ⟨#[]⟩] 23)).below hb3
  replace XB := (XB.alloc (.cells #[.int .i64 x1, .int .i64 x2, .string ⟨#[]⟩] 23)).below hb3
  replace XC := (XC.alloc (.cells #[.int .i64 x1, .int .i64 x2, .string ⟨#[]⟩] 23)).below hb3
  replace Xv := (Xv.alloc (.cells #[.int .i64 x1, .int .i64 x2, .string ⟨#[]⟩] 23)).below hb3
  have Xw := (Box.new w2 ⟨x1, x2, ⟨#[]⟩⟩).below hb3
  have L3 := (L2.alloc L2.size (.cells #[.int .i64 x1, .int .i64 x2, .string ⟨#[]⟩] 23)).trans (hb3.mono (by simpa using Nat.le_succ_of_le L2.size))
  clear L2 hb3
  obtain ⟨lA, cA0, cA1, cA2⟩ := id XA
  obtain ⟨lB, cB0, cB1, cB2⟩ := id XB
  go_wp2_with fail
  refine (C4.out _).mono ?_
  rintro e w4 ⟨rfl, hb4⟩
  clear lA cA0 cA1 cA2 lB cB0 cB1 cB2
  replace XA := (XA.alloc (.cells #[.int .i64 o1, .int .i64 o2, .string ⟨#[]⟩] 23)).below hb4
  replace XB := (XB.alloc (.cells #[.int .i64 o1, .int .i64 o2, .string ⟨#[]⟩] 23)).below hb4
  replace XC := (XC.alloc (.cells #[.int .i64 o1, .int .i64 o2, .string ⟨#[]⟩] 23)).below hb4
  replace Xv := (Xv.alloc (.cells #[.int .i64 o1, .int .i64 o2, .string ⟨#[]⟩] 23)).below hb4
  replace Xw := (Xw.alloc (.cells #[.int .i64 o1, .int .i64 o2, .string ⟨#[]⟩] 23)).below hb4
  have Xx := (Box.new w3 ⟨o1, o2, ⟨#[]⟩⟩).below hb4
  have L4 := (L3.alloc L3.size (.cells #[.int .i64 o1, .int .i64 o2, .string ⟨#[]⟩] 23)).trans (hb4.mono (by simpa using Nat.le_succ_of_le L3.size))
  clear L3 hb4
  obtain ⟨lA, cA0, cA1, cA2⟩ := id XA
  go_wp2_with fail
  refine (C5.out _ (hT.below (L4.alloc L4.size _))).mono ?_
  rintro e w5 ⟨rfl, hb5⟩
  clear lA cA0 cA1 cA2
  replace XA := (XA.alloc (.cells #[.int .i64 o1, .int .i64 o2, .string ⟨#[]⟩] 23)).below hb5
  replace XB := (XB.alloc (.cells #[.int .i64 o1, .int .i64 o2, .string ⟨#[]⟩] 23)).below hb5
  replace XC := (XC.alloc (.cells #[.int .i64 o1, .int .i64 o2, .string ⟨#[]⟩] 23)).below hb5
  replace Xv := (Xv.alloc (.cells #[.int .i64 o1, .int .i64 o2, .string ⟨#[]⟩] 23)).below hb5
  replace Xw := (Xw.alloc (.cells #[.int .i64 o1, .int .i64 o2, .string ⟨#[]⟩] 23)).below hb5
  replace Xx := (Xx.alloc (.cells #[.int .i64 o1, .int .i64 o2, .string ⟨#[]⟩] 23)).below hb5
  have Xy := (Box.new w4 ⟨o1, o2, ⟨#[]⟩⟩).below hb5
  have L5 := (L4.alloc L4.size (.cells #[.int .i64 o1, .int .i64 o2, .string ⟨#[]⟩] 23)).trans (hb5.mono (by simpa using Nat.le_succ_of_le L4.size))
  clear L4 hb5
  obtain ⟨lA, cA0, cA1, cA2⟩ := id XA
  go_wp2_with fail
  refine (C6.out _).mono ?_
  rintro e w6 ⟨rfl, hb6⟩
  clear lA cA0 cA1 cA2
  replace XA := (XA.alloc (.cells #[.int .i64 n1, .int .i64 n2, .string ⟨#[]⟩] 23)).below hb6
  replace XB := (XB.alloc (.cells #[.int .i64 n1, .int .i64 n2, .string ⟨#[]⟩] 23)).below hb6
  replace XC := (XC.alloc (.cells #[.int .i64 n1, .int .i64 n2, .string ⟨#[]⟩] 23)).below hb6
  replace Xv := (Xv.alloc (.cells #[.int .i64 n1, .int .i64 n2, .string ⟨#[]⟩] 23)).below hb6
  replace Xw := (Xw.alloc (.cells #[.int .i64 n1, .int .i64 n2, .string ⟨#[]⟩] 23)).below hb6
  replace Xx := (Xx.alloc (.cells #[.int .i64 n1, .int .i64 n2, .string ⟨#[]⟩] 23)).below hb6
  replace Xy := (Xy.alloc (.cells #[.int .i64 n1, .int .i64 n2, .string ⟨#[]⟩] 23)).below hb6
  have Xn := (Box.new w5 ⟨n1, n2, ⟨#[]⟩⟩).below hb6
  have L6 := (L5.alloc L5.size (.cells #[.int .i64 n1, .int .i64 n2, .string ⟨#[]⟩] 23)).trans (hb6.mono (by simpa using Nat.le_succ_of_le L5.size))
  clear L5 hb6
  obtain ⟨lv, cv0, cv1, cv2⟩ := id Xv
  obtain ⟨lw, cw0, cw1, cw2⟩ := id Xw
  obtain ⟨lx, cx0, cx1, cx2⟩ := id Xx
  obtain ⟨ly, cy0, cy1, cy2⟩ := id Xy
  obtain ⟨ln, cn0, cn1, cn2⟩ := id Xn
  obtain ⟨lA, cA0, cA1, cA2⟩ := id XA
  obtain ⟨lB, cB0, cB1, cB2⟩ := id XB
  go_wp2_with fail
  refine (LV.out _ (hT.below (L6.alloc L6.size _)) (hP.below (L6.alloc L6.size _))).mono ?_
  rintro e wz ⟨rfl, hbz⟩
  go_wp2_with fail
  go_ret
  exact ⟨rfl, (L6.alloc L6.size _).trans (hbz.mono (L6.alloc L6.size _).size)⟩

set_option maxHeartbeats 8000000 in
set_option maxRecDepth 1000000 in
theorem law_part (a b c : Va) (w : World) (hT : Tabs w) (hP : Pow w) (x1 x2 o1 o2 n1 n2 p1 p2 q1 q2 G En : Int)
    (C1 : Hid (∀ w, Tabs w → Calls Tryd.prog 4 #[.agg #[.int .i64 a.ty, .int .i64 a.n, .string a.s], .agg #[.int .i64 b.ty, .int .i64 b.n, .string b.s]] w fun e w' => e = .returned (.tuple #[.agg #[.int .i64 x1, .int .i64 x2, .string ⟨#[]⟩], .int .i64 0]) ∧ Below w.heap.size w w'))
    (C2 : Hid (∀ w, Calls Tryd.prog 5 #[.agg #[.int .i64 a.ty, .int .i64 a.n, .string a.s], .agg #[.int .i64 b.ty, .int .i64 b.n, .string b.s]] w fun e w' => e = .returned (.tuple #[.agg #[.int .i64 x1, .int .i64 x2, .string ⟨#[]⟩], .int .i64 0]) ∧ Below w.heap.size w w'))
    (C3 : Hid (∀ w, Tabs w → Calls Tryd.prog 6 #[.agg #[.int .i64 a.ty, .int .i64 a.n, .string a.s], .agg #[.int .i64 b.ty, .int .i64 b.n, .string b.s]] w fun e w' => e = .returned (.tuple #[.agg #[.int .i64 o1, .int .i64 o2, .string ⟨#[]⟩], .int .i64 0]) ∧ Below w.heap.size w w'))
    (C4 : Hid (∀ w, Calls Tryd.prog 7 #[.agg #[.int .i64 a.ty, .int .i64 a.n, .string a.s], .agg #[.int .i64 b.ty, .int .i64 b.n, .string b.s]] w fun e w' => e = .returned (.tuple #[.agg #[.int .i64 o1, .int .i64 o2, .string ⟨#[]⟩], .int .i64 0]) ∧ Below w.heap.size w w'))
    (C5 : Hid (∀ w, Tabs w → Calls Tryd.prog 8 #[.agg #[.int .i64 a.ty, .int .i64 a.n, .string a.s]] w fun e w' => e = .returned (.tuple #[.agg #[.int .i64 n1, .int .i64 n2, .string ⟨#[]⟩], .int .i64 En]) ∧ Below w.heap.size w w'))
    (C6 : Hid (∀ w, Calls Tryd.prog 9 #[.agg #[.int .i64 a.ty, .int .i64 a.n, .string a.s]] w fun e w' => e = .returned (.tuple #[.agg #[.int .i64 n1, .int .i64 n2, .string ⟨#[]⟩], .int .i64 En]) ∧ Below w.heap.size w w'))
    (C7 : Hid (∀ w, Tabs w → Calls Tryd.prog 4 #[.agg #[.int .i64 b.ty, .int .i64 b.n, .string b.s], .agg #[.int .i64 a.ty, .int .i64 a.n, .string a.s]] w fun e w' => e = .returned (.tuple #[.agg #[.int .i64 x1, .int .i64 x2, .string ⟨#[]⟩], .int .i64 0]) ∧ Below w.heap.size w w'))
    (C8 : Hid (∀ w, Tabs w → Calls Tryd.prog 4 #[.agg #[.int .i64 x1, .int .i64 x2, .string ⟨#[]⟩], .agg #[.int .i64 c.ty, .int .i64 c.n, .string c.s]] w fun e w' => e = .returned (.tuple #[.agg #[.int .i64 p1, .int .i64 p2, .string ⟨#[]⟩], .int .i64 G]) ∧ Below w.heap.size w w'))
    (C9 : Hid (∀ w, Tabs w → Calls Tryd.prog 4 #[.agg #[.int .i64 b.ty, .int .i64 b.n, .string b.s], .agg #[.int .i64 c.ty, .int .i64 c.n, .string c.s]] w fun e w' => e = .returned (.tuple #[.agg #[.int .i64 q1, .int .i64 q2, .string ⟨#[]⟩], .int .i64 G]) ∧ Below w.heap.size w w'))
    (hG : (G != 0) = true)
    : Calls Tryd.prog 3 #[.agg #[.int .i64 a.ty, .int .i64 a.n, .string a.s], .agg #[.int .i64 b.ty, .int .i64 b.n, .string b.s], .agg #[.int .i64 c.ty, .int .i64 c.n, .string c.s]] w fun e w' => e = .returned (.bool true) ∧ Below w.heap.size w w' := by
  have LV : Hid (∀ w, Tabs w → Pow w → Calls Tryd.prog 10 #[] w fun e w' => e = .returned (.bool true) ∧ Below w.heap.size w w') := lives_any
  have YA : Hid _ := ((Box.new w a).alloc (.cells #[.int .i64 b.ty, .int .i64 b.n, .string b.s] 23)).alloc (.cells #[.int .i64 c.ty, .int .i64 c.n, .string c.s] 23)
  have YB : Hid _ := (Box.new1 w (.cells #[.int .i64 a.ty, .int .i64 a.n, .string a.s] 23) b).alloc (.cells #[.int .i64 c.ty, .int .i64 c.n, .string c.s] 23)
  have YC : Hid _ := Box.new2 w (.cells #[.int .i64 a.ty, .int .i64 a.n, .string a.s] 23) (.cells #[.int .i64 b.ty, .int .i64 b.n, .string b.s] 23) c
  have L0 : Hid _ := (((Below.refl _ w).alloc (Nat.le_refl _) (.cells #[.int .i64 a.ty, .int .i64 a.n, .string a.s] 23)).alloc (by simp) (.cells #[.int .i64 b.ty, .int .i64 b.n, .string b.s] 23)).alloc (by simp; omega) (.cells #[.int .i64 c.ty, .int .i64 c.n, .string c.s] 23)
  go_enter Tryd.func3, Tryd.ntmps3
  go_wp2_with fail
  refine (C1.out _ (hT.below L0.out)).mono ?_
  rintro e w1 ⟨rfl, hb1⟩
  have XA := YA.out.below hb1
  have XB := YB.out.below hb1
  have XC := YC.out.below hb1
  have L1 := L0.out.trans (hb1.mono (by simp; omega))
  clear YA YB YC L0 hb1
  obtain ⟨lA, cA0, cA1, cA2⟩ := id XA
  obtain ⟨lB, cB0, cB1, cB2⟩ := id XB
  go_wp2_with fail
  refine (C2.out _).mono ?_
  rintro e w2 ⟨rfl, hb2⟩
  clear lA cA0 cA1 cA2 lB cB0 cB1 cB2
  replace XA := (XA.alloc (.cells #[.int .i64 x1, .int .i64 x2, .string ⟨#[]⟩] 23)).below hb2
  replace XB := (XB.alloc (.cells #[.int .i64 x1, .int .i64 x2, .string ⟨#[]⟩] 23)).below hb2
  replace XC := (XC.alloc (.cells #[.int .i64 x1, .int .i64 x2, .string ⟨#[]⟩] 23)).below hb2
  have Xv := (Box.new w1 ⟨x1, x2, ⟨#[]⟩⟩).below hb2
  have L2 := (L1.alloc L1.size (.cells #[.int .i64 x1, .int .i64 x2, .string ⟨#[]⟩] 23)).trans (hb2.mono (by simpa using Nat.le_succ_of_le L1.size))
  clear L1 hb2
  obtain ⟨lA, cA0, cA1, cA2⟩ := id XA
  obtain ⟨lB, cB0, cB1, cB2⟩ := id XB
  go_wp2_with fail
  refine (C3.out _ (hT.below (L2.alloc L2.size _))).mono ?_
  rintro e w3 ⟨rfl, hb3⟩
  clear lA cA0 cA1 cA2 lB cB0 cB1 cB2
  replace XA := (XA.alloc (.cells #[.int .i64 x1, .int .i64 x2, .string ⟨#[]⟩] 23)).below hb3
  replace XB := (XB.alloc (.cells #[.int .i64 x1, .int .i64 x2, .string ⟨#[]⟩] 23)).below hb3
  replace XC := (XC.alloc (.cells #[.int .i64 x1, .int .i64 x2, .string ⟨#[]⟩] 23)).below hb3
  replace Xv := (Xv.alloc (.cells #[.int .i64 x1, .int .i64 x2, .string ⟨#[]⟩] 23)).below hb3
  have Xw := (Box.new w2 ⟨x1, x2, ⟨#[]⟩⟩).below hb3
  have L3 := (L2.alloc L2.size (.cells #[.int .i64 x1, .int .i64 x2, .string ⟨#[]⟩] 23)).trans (hb3.mono (by simpa using Nat.le_succ_of_le L2.size))
  clear L2 hb3
  obtain ⟨lA, cA0, cA1, cA2⟩ := id XA
  obtain ⟨lB, cB0, cB1, cB2⟩ := id XB
  go_wp2_with fail
  refine (C4.out _).mono ?_
  rintro e w4 ⟨rfl, hb4⟩
  clear lA cA0 cA1 cA2 lB cB0 cB1 cB2
  replace XA := (XA.alloc (.cells #[.int .i64 o1, .int .i64 o2, .string ⟨#[]⟩] 23)).below hb4
  replace XB := (XB.alloc (.cells #[.int .i64 o1, .int .i64 o2, .string ⟨#[]⟩] 23)).below hb4
  replace XC := (XC.alloc (.cells #[.int .i64 o1, .int .i64 o2, .string ⟨#[]⟩] 23)).below hb4
  replace Xv := (Xv.alloc (.cells #[.int .i64 o1, .int .i64 o2, .string ⟨#[]⟩] 23)).below hb4
  replace Xw := (Xw.alloc (.cells #[.int .i64 o1, .int .i64 o2, .string ⟨#[]⟩] 23)).below hb4
  have Xx := (Box.new w3 ⟨o1, o2, ⟨#[]⟩⟩).below hb4
  have L4 := (L3.alloc L3.size (.cells #[.int .i64 o1, .int .i64 o2, .string ⟨#[]⟩] 23)).trans (hb4.mono (by simpa using Nat.le_succ_of_le L3.size))
  clear L3 hb4
  obtain ⟨lA, cA0, cA1, cA2⟩ := id XA
  go_wp2_with fail
  refine (C5.out _ (hT.below (L4.alloc L4.size _))).mono ?_
  rintro e w5 ⟨rfl, hb5⟩
  clear lA cA0 cA1 cA2
  replace XA := (XA.alloc (.cells #[.int .i64 o1, .int .i64 o2, .string ⟨#[]⟩] 23)).below hb5
  replace XB := (XB.alloc (.cells #[.int .i64 o1, .int .i64 o2, .string ⟨#[]⟩] 23)).below hb5
  replace XC := (XC.alloc (.cells #[.int .i64 o1, .int .i64 o2, .string ⟨#[]⟩] 23)).below hb5
  replace Xv := (Xv.alloc (.cells #[.int .i64 o1, .int .i64 o2, .string ⟨#[]⟩] 23)).below hb5
  replace Xw := (Xw.alloc (.cells #[.int .i64 o1, .int .i64 o2, .string ⟨#[]⟩] 23)).below hb5
  replace Xx := (Xx.alloc (.cells #[.int .i64 o1, .int .i64 o2, .string ⟨#[]⟩] 23)).below hb5
  have Xy := (Box.new w4 ⟨o1, o2, ⟨#[]⟩⟩).below hb5
  have L5 := (L4.alloc L4.size (.cells #[.int .i64 o1, .int .i64 o2, .string ⟨#[]⟩] 23)).trans (hb5.mono (by simpa using Nat.le_succ_of_le L4.size))
  clear L4 hb5
  obtain ⟨lA, cA0, cA1, cA2⟩ := id XA
  go_wp2_with fail
  refine (C6.out _).mono ?_
  rintro e w6 ⟨rfl, hb6⟩
  clear lA cA0 cA1 cA2
  replace XA := (XA.alloc (.cells #[.int .i64 n1, .int .i64 n2, .string ⟨#[]⟩] 23)).below hb6
  replace XB := (XB.alloc (.cells #[.int .i64 n1, .int .i64 n2, .string ⟨#[]⟩] 23)).below hb6
  replace XC := (XC.alloc (.cells #[.int .i64 n1, .int .i64 n2, .string ⟨#[]⟩] 23)).below hb6
  replace Xv := (Xv.alloc (.cells #[.int .i64 n1, .int .i64 n2, .string ⟨#[]⟩] 23)).below hb6
  replace Xw := (Xw.alloc (.cells #[.int .i64 n1, .int .i64 n2, .string ⟨#[]⟩] 23)).below hb6
  replace Xx := (Xx.alloc (.cells #[.int .i64 n1, .int .i64 n2, .string ⟨#[]⟩] 23)).below hb6
  replace Xy := (Xy.alloc (.cells #[.int .i64 n1, .int .i64 n2, .string ⟨#[]⟩] 23)).below hb6
  have Xn := (Box.new w5 ⟨n1, n2, ⟨#[]⟩⟩).below hb6
  have L6 := (L5.alloc L5.size (.cells #[.int .i64 n1, .int .i64 n2, .string ⟨#[]⟩] 23)).trans (hb6.mono (by simpa using Nat.le_succ_of_le L5.size))
  clear L5 hb6
  obtain ⟨lv, cv0, cv1, cv2⟩ := id Xv
  obtain ⟨lw, cw0, cw1, cw2⟩ := id Xw
  obtain ⟨lx, cx0, cx1, cx2⟩ := id Xx
  obtain ⟨ly, cy0, cy1, cy2⟩ := id Xy
  obtain ⟨ln, cn0, cn1, cn2⟩ := id Xn
  obtain ⟨lA, cA0, cA1, cA2⟩ := id XA
  obtain ⟨lB, cB0, cB1, cB2⟩ := id XB
  go_wp2_with fail
  refine (C7.out _ (hT.below (L6.alloc L6.size _))).mono ?_
  rintro e w7 ⟨rfl, hb7⟩
  clear lv cv0 cv1 cv2 lw cw0 cw1 cw2 lx cx0 cx1 cx2 ly cy0 cy1 cy2 ln cn0 cn1 cn2 lA cA0 cA1 cA2 lB cB0 cB1 cB2
  replace XA := (XA.alloc (.cells #[.int .i64 n1, .int .i64 n2, .string ⟨#[]⟩] 23)).below hb7
  replace XB := (XB.alloc (.cells #[.int .i64 n1, .int .i64 n2, .string ⟨#[]⟩] 23)).below hb7
  replace XC := (XC.alloc (.cells #[.int .i64 n1, .int .i64 n2, .string ⟨#[]⟩] 23)).below hb7
  replace Xv := (Xv.alloc (.cells #[.int .i64 n1, .int .i64 n2, .string ⟨#[]⟩] 23)).below hb7
  replace Xw := (Xw.alloc (.cells #[.int .i64 n1, .int .i64 n2, .string ⟨#[]⟩] 23)).below hb7
  replace Xx := (Xx.alloc (.cells #[.int .i64 n1, .int .i64 n2, .string ⟨#[]⟩] 23)).below hb7
  replace Xy := (Xy.alloc (.cells #[.int .i64 n1, .int .i64 n2, .string ⟨#[]⟩] 23)).below hb7
  replace Xn := (Xn.alloc (.cells #[.int .i64 n1, .int .i64 n2, .string ⟨#[]⟩] 23)).below hb7
  have Xm := (Box.new w6 ⟨n1, n2, ⟨#[]⟩⟩).below hb7
  have L7 := (L6.alloc L6.size (.cells #[.int .i64 n1, .int .i64 n2, .string ⟨#[]⟩] 23)).trans (hb7.mono (by simpa using Nat.le_succ_of_le L6.size))
  clear L6 hb7
  obtain ⟨lv, cv0, cv1, cv2⟩ := id Xv
  obtain ⟨lC, cC0, cC1, cC2⟩ := id XC
  go_wp2_with fail
  refine (C8.out _ (hT.below (L7.alloc L7.size _))).mono ?_
  rintro e w8 ⟨rfl, hb8⟩
  clear lv cv0 cv1 cv2 lC cC0 cC1 cC2
  replace XA := (XA.alloc (.cells #[.int .i64 x1, .int .i64 x2, .string ⟨#[]⟩] 23)).below hb8
  replace XB := (XB.alloc (.cells #[.int .i64 x1, .int .i64 x2, .string ⟨#[]⟩] 23)).below hb8
  replace XC := (XC.alloc (.cells #[.int .i64 x1, .int .i64 x2, .string ⟨#[]⟩] 23)).below hb8
  replace Xv := (Xv.alloc (.cells #[.int .i64 x1, .int .i64 x2, .string ⟨#[]⟩] 23)).below hb8
  replace Xw := (Xw.alloc (.cells #[.int .i64 x1, .int .i64 x2, .string ⟨#[]⟩] 23)).below hb8
  replace Xx := (Xx.alloc (.cells #[.int .i64 x1, .int .i64 x2, .string ⟨#[]⟩] 23)).below hb8
  replace Xy := (Xy.alloc (.cells #[.int .i64 x1, .int .i64 x2, .string ⟨#[]⟩] 23)).below hb8
  replace Xn := (Xn.alloc (.cells #[.int .i64 x1, .int .i64 x2, .string ⟨#[]⟩] 23)).below hb8
  replace Xm := (Xm.alloc (.cells #[.int .i64 x1, .int .i64 x2, .string ⟨#[]⟩] 23)).below hb8
  have Xu := (Box.new w7 ⟨x1, x2, ⟨#[]⟩⟩).below hb8
  have L8 := (L7.alloc L7.size (.cells #[.int .i64 x1, .int .i64 x2, .string ⟨#[]⟩] 23)).trans (hb8.mono (by simpa using Nat.le_succ_of_le L7.size))
  clear L7 hb8
  obtain ⟨lB, cB0, cB1, cB2⟩ := id XB
  obtain ⟨lC, cC0, cC1, cC2⟩ := id XC
  go_wp2_with fail
  refine (C9.out _ (hT.below (L8.alloc L8.size _))).mono ?_
  rintro e w9 ⟨rfl, hb9⟩
  clear lB cB0 cB1 cB2 lC cC0 cC1 cC2
  replace XA := (XA.alloc (.cells #[.int .i64 p1, .int .i64 p2, .string ⟨#[]⟩] 23)).below hb9
  replace XB := (XB.alloc (.cells #[.int .i64 p1, .int .i64 p2, .string ⟨#[]⟩] 23)).below hb9
  replace XC := (XC.alloc (.cells #[.int .i64 p1, .int .i64 p2, .string ⟨#[]⟩] 23)).below hb9
  replace Xv := (Xv.alloc (.cells #[.int .i64 p1, .int .i64 p2, .string ⟨#[]⟩] 23)).below hb9
  replace Xw := (Xw.alloc (.cells #[.int .i64 p1, .int .i64 p2, .string ⟨#[]⟩] 23)).below hb9
  replace Xx := (Xx.alloc (.cells #[.int .i64 p1, .int .i64 p2, .string ⟨#[]⟩] 23)).below hb9
  replace Xy := (Xy.alloc (.cells #[.int .i64 p1, .int .i64 p2, .string ⟨#[]⟩] 23)).below hb9
  replace Xn := (Xn.alloc (.cells #[.int .i64 p1, .int .i64 p2, .string ⟨#[]⟩] 23)).below hb9
  replace Xm := (Xm.alloc (.cells #[.int .i64 p1, .int .i64 p2, .string ⟨#[]⟩] 23)).below hb9
  replace Xu := (Xu.alloc (.cells #[.int .i64 p1, .int .i64 p2, .string ⟨#[]⟩] 23)).below hb9
  have Xp := (Box.new w8 ⟨p1, p2, ⟨#[]⟩⟩).below hb9
  have L9 := (L8.alloc L8.size (.cells #[.int .i64 p1, .int .i64 p2, .string ⟨#[]⟩] 23)).trans (hb9.mono (by simpa using Nat.le_succ_of_le L8.size))
  clear L8 hb9
  obtain ⟨lu, cu0, cu1, cu2⟩ := id Xu
  obtain ⟨lv, cv0, cv1, cv2⟩ := id Xv
  obtain ⟨lA, cA0, cA1, cA2⟩ := id XA
  go_wp2_with fail
  refine (LV.out _ (hT.below (L9.alloc L9.size _)) (hP.below (L9.alloc L9.size _))).mono ?_
  rintro e wz ⟨rfl, hbz⟩
  go_wp2_with fail
  go_ret
  exact ⟨rfl, (L9.alloc L9.size _).trans (hbz.mono (L9.alloc L9.size _).size)⟩

set_option maxHeartbeats 8000000 in
set_option maxRecDepth 1000000 in
theorem law_all (a b c : Va) (w : World) (hT : Tabs w) (hP : Pow w) (x1 x2 o1 o2 n1 n2 p1 p2 q1 q2 s1 s2 t1 t2 En Et : Int)
    (C1 : Hid (∀ w, Tabs w → Calls Tryd.prog 4 #[.agg #[.int .i64 a.ty, .int .i64 a.n, .string a.s], .agg #[.int .i64 b.ty, .int .i64 b.n, .string b.s]] w fun e w' => e = .returned (.tuple #[.agg #[.int .i64 x1, .int .i64 x2, .string ⟨#[]⟩], .int .i64 0]) ∧ Below w.heap.size w w'))
    (C2 : Hid (∀ w, Calls Tryd.prog 5 #[.agg #[.int .i64 a.ty, .int .i64 a.n, .string a.s], .agg #[.int .i64 b.ty, .int .i64 b.n, .string b.s]] w fun e w' => e = .returned (.tuple #[.agg #[.int .i64 x1, .int .i64 x2, .string ⟨#[]⟩], .int .i64 0]) ∧ Below w.heap.size w w'))
    (C3 : Hid (∀ w, Tabs w → Calls Tryd.prog 6 #[.agg #[.int .i64 a.ty, .int .i64 a.n, .string a.s], .agg #[.int .i64 b.ty, .int .i64 b.n, .string b.s]] w fun e w' => e = .returned (.tuple #[.agg #[.int .i64 o1, .int .i64 o2, .string ⟨#[]⟩], .int .i64 0]) ∧ Below w.heap.size w w'))
    (C4 : Hid (∀ w, Calls Tryd.prog 7 #[.agg #[.int .i64 a.ty, .int .i64 a.n, .string a.s], .agg #[.int .i64 b.ty, .int .i64 b.n, .string b.s]] w fun e w' => e = .returned (.tuple #[.agg #[.int .i64 o1, .int .i64 o2, .string ⟨#[]⟩], .int .i64 0]) ∧ Below w.heap.size w w'))
    (C5 : Hid (∀ w, Tabs w → Calls Tryd.prog 8 #[.agg #[.int .i64 a.ty, .int .i64 a.n, .string a.s]] w fun e w' => e = .returned (.tuple #[.agg #[.int .i64 n1, .int .i64 n2, .string ⟨#[]⟩], .int .i64 En]) ∧ Below w.heap.size w w'))
    (C6 : Hid (∀ w, Calls Tryd.prog 9 #[.agg #[.int .i64 a.ty, .int .i64 a.n, .string a.s]] w fun e w' => e = .returned (.tuple #[.agg #[.int .i64 n1, .int .i64 n2, .string ⟨#[]⟩], .int .i64 En]) ∧ Below w.heap.size w w'))
    (C7 : Hid (∀ w, Tabs w → Calls Tryd.prog 4 #[.agg #[.int .i64 b.ty, .int .i64 b.n, .string b.s], .agg #[.int .i64 a.ty, .int .i64 a.n, .string a.s]] w fun e w' => e = .returned (.tuple #[.agg #[.int .i64 x1, .int .i64 x2, .string ⟨#[]⟩], .int .i64 0]) ∧ Below w.heap.size w w'))
    (C8 : Hid (∀ w, Tabs w → Calls Tryd.prog 4 #[.agg #[.int .i64 x1, .int .i64 x2, .string ⟨#[]⟩], .agg #[.int .i64 c.ty, .int .i64 c.n, .string c.s]] w fun e w' => e = .returned (.tuple #[.agg #[.int .i64 p1, .int .i64 p2, .string ⟨#[]⟩], .int .i64 0]) ∧ Below w.heap.size w w'))
    (C9 : Hid (∀ w, Tabs w → Calls Tryd.prog 4 #[.agg #[.int .i64 b.ty, .int .i64 b.n, .string b.s], .agg #[.int .i64 c.ty, .int .i64 c.n, .string c.s]] w fun e w' => e = .returned (.tuple #[.agg #[.int .i64 q1, .int .i64 q2, .string ⟨#[]⟩], .int .i64 0]) ∧ Below w.heap.size w w'))
    (C10 : Hid (∀ w, Tabs w → Calls Tryd.prog 4 #[.agg #[.int .i64 a.ty, .int .i64 a.n, .string a.s], .agg #[.int .i64 q1, .int .i64 q2, .string ⟨#[]⟩]] w fun e w' => e = .returned (.tuple #[.agg #[.int .i64 p1, .int .i64 p2, .string ⟨#[]⟩], .int .i64 0]) ∧ Below w.heap.size w w'))
    (C11 : Hid (∀ w, Tabs w → Calls Tryd.prog 8 #[.agg #[.int .i64 x1, .int .i64 x2, .string ⟨#[]⟩]] w fun e w' => e = .returned (.tuple #[.agg #[.int .i64 s1, .int .i64 s2, .string ⟨#[]⟩], .int .i64 0]) ∧ Below w.heap.size w w'))
    (C12 : Hid (∀ w, Tabs w → Calls Tryd.prog 8 #[.agg #[.int .i64 b.ty, .int .i64 b.n, .string b.s]] w fun e w' => e = .returned (.tuple #[.agg #[.int .i64 t1, .int .i64 t2, .string ⟨#[]⟩], .int .i64 Et]) ∧ Below w.heap.size w w'))
    (C13 : Hid (∀ w, Tabs w → Calls Tryd.prog 6 #[.agg #[.int .i64 n1, .int .i64 n2, .string ⟨#[]⟩], .agg #[.int .i64 t1, .int .i64 t2, .string ⟨#[]⟩]] w fun e w' => e = .returned (.tuple #[.agg #[.int .i64 s1, .int .i64 s2, .string ⟨#[]⟩], .int .i64 0]) ∧ Below w.heap.size w w'))
    : Calls Tryd.prog 3 #[.agg #[.int .i64 a.ty, .int .i64 a.n, .string a.s], .agg #[.int .i64 b.ty, .int .i64 b.n, .string b.s], .agg #[.int .i64 c.ty, .int .i64 c.n, .string c.s]] w fun e w' => e = .returned (.bool true) ∧ Below w.heap.size w w' := by
  have LV : Hid (∀ w, Tabs w → Pow w → Calls Tryd.prog 10 #[] w fun e w' => e = .returned (.bool true) ∧ Below w.heap.size w w') := lives_any
  have YA : Hid _ := ((Box.new w a).alloc (.cells #[.int .i64 b.ty, .int .i64 b.n, .string b.s] 23)).alloc (.cells #[.int .i64 c.ty, .int .i64 c.n, .string c.s] 23)
  have YB : Hid _ := (Box.new1 w (.cells #[.int .i64 a.ty, .int .i64 a.n, .string a.s] 23) b).alloc (.cells #[.int .i64 c.ty, .int .i64 c.n, .string c.s] 23)
  have YC : Hid _ := Box.new2 w (.cells #[.int .i64 a.ty, .int .i64 a.n, .string a.s] 23) (.cells #[.int .i64 b.ty, .int .i64 b.n, .string b.s] 23) c
  have L0 : Hid _ := (((Below.refl _ w).alloc (Nat.le_refl _) (.cells #[.int .i64 a.ty, .int .i64 a.n, .string a.s] 23)).alloc (by simp) (.cells #[.int .i64 b.ty, .int .i64 b.n, .string b.s] 23)).alloc (by simp; omega) (.cells #[.int .i64 c.ty, .int .i64 c.n, .string c.s] 23)
  go_enter Tryd.func3, Tryd.ntmps3
  go_wp2_with fail
  refine (C1.out _ (hT.below L0.out)).mono ?_
  rintro e w1 ⟨rfl, hb1⟩
  have XA := YA.out.below hb1
  have XB := YB.out.below hb1
  have XC := YC.out.below hb1
  have L1 := L0.out.trans (hb1.mono (by simp; omega))
  clear YA YB YC L0 hb1
  obtain ⟨lA, cA0, cA1, cA2⟩ := id XA
  obtain ⟨lB, cB0, cB1, cB2⟩ := id XB
  go_wp2_with fail
  refine (C2.out _).mono ?_
  rintro e w2 ⟨rfl, hb2⟩
  clear lA cA0 cA1 cA2 lB cB0 cB1 cB2
  replace XA := (XA.alloc (.cells #[.int .i64 x1, .int .i64 x2, .string ⟨#[]⟩] 23)).below hb2
  replace XB := (XB.alloc (.cells #[.int .i64 x1, .int .i64 x2, .string ⟨#[]⟩] 23)).below hb2
  replace XC := (XC.alloc (.cells #[.int .i64 x1, .int .i64 x2, .string ⟨#[]⟩] 23)).below hb2
  have Xv := (Box.new w1 ⟨x1, x2, ⟨#[]⟩⟩).below hb2
  have L2 := (L1.alloc L1.size (.cells #[.int .i64 x1, .int .i64 x2, .string ⟨#[]⟩] 23)).trans (hb2.mono (by simpa using Nat.le_succ_of_le L1.size))
  clear L1 hb2
  obtain ⟨lA, cA0, cA1, cA2⟩ := id XA
  obtain ⟨lB, cB0, cB1, cB2⟩ := id XB
  go_wp2_with fail
  refine (C3.out _ (hT.below (L2.alloc L2.size _))).mono ?_
  rintro e w3 ⟨rfl, hb3⟩
  clear lA cA0 cA1 cA2 lB cB0 cB1 cB2
  replace XA := (XA.alloc (.cells #[.int .i64 x1, .int .i64 x2, .string ⟨#[]⟩] 23)).below hb3
  replace XB := (XB.alloc (.cells #[.int .i64 x1, .int .i64 x2, .string ⟨#[]⟩] 23)).below hb3
  replace XC := (XC.alloc (.cells #[.int .i64 x1, .int .i64 x2, .string ⟨#[]⟩] 23)).below hb3
  replace Xv := (Xv.alloc (.cells #[.int .i64 x1, .int .i64 x2, .string ⟨#[]⟩] 23)).below hb3
  have Xw := (Box.new w2 ⟨x1, x2, ⟨#[]⟩⟩).below hb3
  have L3 := (L2.alloc L2.size (.cells #[.int .i64 x1, .int .i64 x2, .string ⟨#[]⟩] 23)).trans (hb3.mono (by simpa using Nat.le_succ_of_le L2.size))
  clear L2 hb3
  obtain ⟨lA, cA0, cA1, cA2⟩ := id XA
  obtain ⟨lB, cB0, cB1, cB2⟩ := id XB
  go_wp2_with fail
  refine (C4.out _).mono ?_
  rintro e w4 ⟨rfl, hb4⟩
  clear lA cA0 cA1 cA2 lB cB0 cB1 cB2
  replace XA := (XA.alloc (.cells #[.int .i64 o1, .int .i64 o2, .string ⟨#[]⟩] 23)).below hb4
  replace XB := (XB.alloc (.cells #[.int .i64 o1, .int .i64 o2, .string ⟨#[]⟩] 23)).below hb4
  replace XC := (XC.alloc (.cells #[.int .i64 o1, .int .i64 o2, .string ⟨#[]⟩] 23)).below hb4
  replace Xv := (Xv.alloc (.cells #[.int .i64 o1, .int .i64 o2, .string ⟨#[]⟩] 23)).below hb4
  replace Xw := (Xw.alloc (.cells #[.int .i64 o1, .int .i64 o2, .string ⟨#[]⟩] 23)).below hb4
  have Xx := (Box.new w3 ⟨o1, o2, ⟨#[]⟩⟩).below hb4
  have L4 := (L3.alloc L3.size (.cells #[.int .i64 o1, .int .i64 o2, .string ⟨#[]⟩] 23)).trans (hb4.mono (by simpa using Nat.le_succ_of_le L3.size))
  clear L3 hb4
  obtain ⟨lA, cA0, cA1, cA2⟩ := id XA
  go_wp2_with fail
  refine (C5.out _ (hT.below (L4.alloc L4.size _))).mono ?_
  rintro e w5 ⟨rfl, hb5⟩
  clear lA cA0 cA1 cA2
  replace XA := (XA.alloc (.cells #[.int .i64 o1, .int .i64 o2, .string ⟨#[]⟩] 23)).below hb5
  replace XB := (XB.alloc (.cells #[.int .i64 o1, .int .i64 o2, .string ⟨#[]⟩] 23)).below hb5
  replace XC := (XC.alloc (.cells #[.int .i64 o1, .int .i64 o2, .string ⟨#[]⟩] 23)).below hb5
  replace Xv := (Xv.alloc (.cells #[.int .i64 o1, .int .i64 o2, .string ⟨#[]⟩] 23)).below hb5
  replace Xw := (Xw.alloc (.cells #[.int .i64 o1, .int .i64 o2, .string ⟨#[]⟩] 23)).below hb5
  replace Xx := (Xx.alloc (.cells #[.int .i64 o1, .int .i64 o2, .string ⟨#[]⟩] 23)).below hb5
  have Xy := (Box.new w4 ⟨o1, o2, ⟨#[]⟩⟩).below hb5
  have L5 := (L4.alloc L4.size (.cells #[.int .i64 o1, .int .i64 o2, .string ⟨#[]⟩] 23)).trans (hb5.mono (by simpa using Nat.le_succ_of_le L4.size))
  clear L4 hb5
  obtain ⟨lA, cA0, cA1, cA2⟩ := id XA
  go_wp2_with fail
  refine (C6.out _).mono ?_
  rintro e w6 ⟨rfl, hb6⟩
  clear lA cA0 cA1 cA2
  replace XA := (XA.alloc (.cells #[.int .i64 n1, .int .i64 n2, .string ⟨#[]⟩] 23)).below hb6
  replace XB := (XB.alloc (.cells #[.int .i64 n1, .int .i64 n2, .string ⟨#[]⟩] 23)).below hb6
  replace XC := (XC.alloc (.cells #[.int .i64 n1, .int .i64 n2, .string ⟨#[]⟩] 23)).below hb6
  replace Xv := (Xv.alloc (.cells #[.int .i64 n1, .int .i64 n2, .string ⟨#[]⟩] 23)).below hb6
  replace Xw := (Xw.alloc (.cells #[.int .i64 n1, .int .i64 n2, .string ⟨#[]⟩] 23)).below hb6
  replace Xx := (Xx.alloc (.cells #[.int .i64 n1, .int .i64 n2, .string ⟨#[]⟩] 23)).below hb6
  replace Xy := (Xy.alloc (.cells #[.int .i64 n1, .int .i64 n2, .string ⟨#[]⟩] 23)).below hb6
  have Xn := (Box.new w5 ⟨n1, n2, ⟨#[]⟩⟩).below hb6
  have L6 := (L5.alloc L5.size (.cells #[.int .i64 n1, .int .i64 n2, .string ⟨#[]⟩] 23)).trans (hb6.mono (by simpa using Nat.le_succ_of_le L5.size))
  clear L5 hb6
  obtain ⟨lv, cv0, cv1, cv2⟩ := id Xv
  obtain ⟨lw, cw0, cw1, cw2⟩ := id Xw
  obtain ⟨lx, cx0, cx1, cx2⟩ := id Xx
  obtain ⟨ly, cy0, cy1, cy2⟩ := id Xy
  obtain ⟨ln, cn0, cn1, cn2⟩ := id Xn
  obtain ⟨lA, cA0, cA1, cA2⟩ := id XA
  obtain ⟨lB, cB0, cB1, cB2⟩ := id XB
  go_wp2_with fail
  refine (C7.out _ (hT.below (L6.alloc L6.size _))).mono ?_
  rintro e w7 ⟨rfl, hb7⟩
  clear lv cv0 cv1 cv2 lw cw0 cw1 cw2 lx cx0 cx1 cx2 ly cy0 cy1 cy2 ln cn0 cn1 cn2 lA cA0 cA1 cA2 lB cB0 cB1 cB2
  replace XA := (XA.alloc (.cells #[.int .i64 n1, .int .i64 n2, .string ⟨#[]⟩] 23)).below hb7
  replace XB := (XB.alloc (.cells #[.int .i64 n1, .int .i64 n2, .string ⟨#[]⟩] 23)).below hb7
  replace XC := (XC.alloc (.cells #[.int .i64 n1, .int .i64 n2, .string ⟨#[]⟩] 23)).below hb7
  replace Xv := (Xv.alloc (.cells #[.int .i64 n1, .int .i64 n2, .string ⟨#[]⟩] 23)).below hb7
  replace Xw := (Xw.alloc (.cells #[.int .i64 n1, .int .i64 n2, .string ⟨#[]⟩] 23)).below hb7
  replace Xx := (Xx.alloc (.cells #[.int .i64 n1, .int .i64 n2, .string ⟨#[]⟩] 23)).below hb7
  replace Xy := (Xy.alloc (.cells #[.int .i64 n1, .int .i64 n2, .string ⟨#[]⟩] 23)).below hb7
  replace Xn := (Xn.alloc (.cells #[.int .i64 n1, .int .i64 n2, .string ⟨#[]⟩] 23)).below hb7
  have Xm := (Box.new w6 ⟨n1, n2, ⟨#[]⟩⟩).below hb7
  have L7 := (L6.alloc L6.size (.cells #[.int .i64 n1, .int .i64 n2, .string ⟨#[]⟩] 23)).trans (hb7.mono (by simpa using Nat.le_succ_of_le L6.size))
  clear L6 hb7
  obtain ⟨lv, cv0, cv1, cv2⟩ := id Xv
  obtain ⟨lC, cC0, cC1, cC2⟩ := id XC
  go_wp2_with fail
  refine (C8.out _ (hT.below (L7.alloc L7.size _))).mono ?_
  rintro e w8 ⟨rfl, hb8⟩
  clear lv cv0 cv1 cv2 lC cC0 cC1 cC2
  replace XA := (XA.alloc (.cells #[.int .i64 x1, .int .i64 x2, .string ⟨#[]⟩] 23)).below hb8
  replace XB := (XB.alloc (.cells #[.int .i64 x1, .int .i64 x2, .string ⟨#[]⟩] 23)).below hb8
  replace XC := (XC.alloc (.cells #[.int .i64 x1, .int .i64 x2, .string ⟨#[]⟩] 23)).below hb8
  replace Xv := (Xv.alloc (.cells #[.int .i64 x1, .int .i64 x2, .string ⟨#[]⟩] 23)).below hb8
  replace Xw := (Xw.alloc (.cells #[.int .i64 x1, .int .i64 x2, .string ⟨#[]⟩] 23)).below hb8
  replace Xx := (Xx.alloc (.cells #[.int .i64 x1, .int .i64 x2, .string ⟨#[]⟩] 23)).below hb8
  replace Xy := (Xy.alloc (.cells #[.int .i64 x1, .int .i64 x2, .string ⟨#[]⟩] 23)).below hb8
  replace Xn := (Xn.alloc (.cells #[.int .i64 x1, .int .i64 x2, .string ⟨#[]⟩] 23)).below hb8
  replace Xm := (Xm.alloc (.cells #[.int .i64 x1, .int .i64 x2, .string ⟨#[]⟩] 23)).below hb8
  have Xu := (Box.new w7 ⟨x1, x2, ⟨#[]⟩⟩).below hb8
  have L8 := (L7.alloc L7.size (.cells #[.int .i64 x1, .int .i64 x2, .string ⟨#[]⟩] 23)).trans (hb8.mono (by simpa using Nat.le_succ_of_le L7.size))
  clear L7 hb8
  obtain ⟨lB, cB0, cB1, cB2⟩ := id XB
  obtain ⟨lC, cC0, cC1, cC2⟩ := id XC
  go_wp2_with fail
  refine (C9.out _ (hT.below (L8.alloc L8.size _))).mono ?_
  rintro e w9 ⟨rfl, hb9⟩
  clear lB cB0 cB1 cB2 lC cC0 cC1 cC2
  replace XA := (XA.alloc (.cells #[.int .i64 p1, .int .i64 p2, .string ⟨#[]⟩] 23)).below hb9
  replace XB := (XB.alloc (.cells #[.int .i64 p1, .int .i64 p2, .string ⟨#[]⟩] 23)).below hb9
  replace XC := (XC.alloc (.cells #[.int .i64 p1, .int .i64 p2, .string ⟨#[]⟩] 23)).below hb9
  replace Xv := (Xv.alloc (.cells #[.int .i64 p1, .int .i64 p2, .string ⟨#[]⟩] 23)).below hb9
  replace Xw := (Xw.alloc (.cells #[.int .i64 p1, .int .i64 p2, .string ⟨#[]⟩] 23)).below hb9
  replace Xx := (Xx.alloc (.cells #[.int .i64 p1, .int .i64 p2, .string ⟨#[]⟩] 23)).below hb9
  replace Xy := (Xy.alloc (.cells #[.int .i64 p1, .int .i64 p2, .string ⟨#[]⟩] 23)).below hb9
  replace Xn := (Xn.alloc (.cells #[.int .i64 p1, .int .i64 p2, .string ⟨#[]⟩] 23)).below hb9
  replace Xm := (Xm.alloc (.cells #[.int .i64 p1, .int .i64 p2, .string ⟨#[]⟩] 23)).below hb9
  replace Xu := (Xu.alloc (.cells #[.int .i64 p1, .int .i64 p2, .string ⟨#[]⟩] 23)).below hb9
  have Xp := (Box.new w8 ⟨p1, p2, ⟨#[]⟩⟩).below hb9
  have L9 := (L8.alloc L8.size (.cells #[.int .i64 p1, .int .i64 p2, .string ⟨#[]⟩] 23)).trans (hb9.mono (by simpa using Nat.le_succ_of_le L8.size))
  clear L8 hb9
  obtain ⟨lu, cu0, cu1, cu2⟩ := id Xu
  obtain ⟨lv, cv0, cv1, cv2⟩ := id Xv
  obtain ⟨lA, cA0, cA1, cA2⟩ := id XA
  go_wp2_with fail
  refine (C10.out _ (hT.below (L9.alloc L9.size _))).mono ?_
  rintro e w10 ⟨rfl, hb10⟩
  clear lu cu0 cu1 cu2 lv cv0 cv1 cv2 lA cA0 cA1 cA2
  replace XA := (XA.alloc (.cells #[.int .i64 q1, .int .i64 q2, .string ⟨#[]⟩] 23)).below hb10
  replace XB := (XB.alloc (.cells #[.int .i64 q1, .int .i64 q2, .string ⟨#[]⟩] 23)).below hb10
  replace XC := (XC.alloc (.cells #[.int .i64 q1, .int .i64 q2, .string ⟨#[]⟩] 23)).below hb10
  replace Xv := (Xv.alloc (.cells #[.int .i64 q1, .int .i64 q2, .string ⟨#[]⟩] 23)).below hb10
  replace Xw := (Xw.alloc (.cells #[.int .i64 q1, .int .i64 q2, .string ⟨#[]⟩] 23)).below hb10
  replace Xx := (Xx.alloc (.cells #[.int .i64 q1, .int .i64 q2, .string ⟨#[]⟩] 23)).below hb10
  replace Xy := (Xy.alloc (.cells #[.int .i64 q1, .int .i64 q2, .string ⟨#[]⟩] 23)).below hb10
  replace Xn := (Xn.alloc (.cells #[.int .i64 q1, .int .i64 q2, .string ⟨#[]⟩] 23)).below hb10
  replace Xm := (Xm.alloc (.cells #[.int .i64 q1, .int .i64 q2, .string ⟨#[]⟩] 23)).below hb10
  replace Xu := (Xu.alloc (.cells #[.int .i64 q1, .int .i64 q2, .string ⟨#[]⟩] 23)).below hb10
  replace Xp := (Xp.alloc (.cells #[.int .i64 q1, .int .i64 q2, .string ⟨#[]⟩] 23)).below hb10
  have Xq := (Box.new w9 ⟨q1, q2, ⟨#[]⟩⟩).below hb10
  have L10 := (L9.alloc L9.size (.cells #[.int .i64 q1, .int .i64 q2, .string ⟨#[]⟩] 23)).trans (hb10.mono (by simpa using Nat.le_succ_of_le L9.size))
  clear L9 hb10
  obtain ⟨lv, cv0, cv1, cv2⟩ := id Xv
  go_wp2_with fail
  refine (C11.out _ (hT.below (L10.alloc L10.size _))).mono ?_
  rintro e w11 ⟨rfl, hb11⟩
  clear lv cv0 cv1 cv2
  replace XA := (XA.alloc (.cells #[.int .i64 p1, .int .i64 p2, .string ⟨#[]⟩] 23)).below hb11
  replace XB := (XB.alloc (.cells #[.int .i64 p1, .int .i64 p2, .string ⟨#[]⟩] 23)).below hb11
  replace XC := (XC.alloc (.cells #[.int .i64 p1, .int .i64 p2, .string ⟨#[]⟩] 23)).below hb11
  replace Xv := (Xv.alloc (.cells #[.int .i64 p1, .int .i64 p2, .string ⟨#[]⟩] 23)).below hb11
  replace Xw := (Xw.alloc (.cells #[.int .i64 p1, .int .i64 p2, .string ⟨#[]⟩] 23)).below hb11
  replace Xx := (Xx.alloc (.cells #[.int .i64 p1, .int .i64 p2, .string ⟨#[]⟩] 23)).below hb11
  replace Xy := (Xy.alloc (.cells #[.int .i64 p1, .int .i64 p2, .string ⟨#[]⟩] 23)).below hb11
  replace Xn := (Xn.alloc (.cells #[.int .i64 p1, .int .i64 p2, .string ⟨#[]⟩] 23)).below hb11
  replace Xm := (Xm.alloc (.cells #[.int .i64 p1, .int .i64 p2, .string ⟨#[]⟩] 23)).below hb11
  replace Xu := (Xu.alloc (.cells #[.int .i64 p1, .int .i64 p2, .string ⟨#[]⟩] 23)).below hb11
  replace Xp := (Xp.alloc (.cells #[.int .i64 p1, .int .i64 p2, .string ⟨#[]⟩] 23)).below hb11
  replace Xq := (Xq.alloc (.cells #[.int .i64 p1, .int .i64 p2, .string ⟨#[]⟩] 23)).below hb11
  have Xr := (Box.new w10 ⟨p1, p2, ⟨#[]⟩⟩).below hb11
  have L11 := (L10.alloc L10.size (.cells #[.int .i64 p1, .int .i64 p2, .string ⟨#[]⟩] 23)).trans (hb11.mono (by simpa using Nat.le_succ_of_le L10.size))
  clear L10 hb11
  obtain ⟨lB, cB0, cB1, cB2⟩ := id XB
  go_wp2_with fail
  refine (C12.out _ (hT.below (L11.alloc L11.size _))).mono ?_
  rintro e w12 ⟨rfl, hb12⟩
  clear lB cB0 cB1 cB2
  replace XA := (XA.alloc (.cells #[.int .i64 s1, .int .i64 s2, .string ⟨#[]⟩] 23)).below hb12
  replace XB := (XB.alloc (.cells #[.int .i64 s1, .int .i64 s2, .string ⟨#[]⟩] 23)).below hb12
  replace XC := (XC.alloc (.cells #[.int .i64 s1, .int .i64 s2, .string ⟨#[]⟩] 23)).below hb12
  replace Xv := (Xv.alloc (.cells #[.int .i64 s1, .int .i64 s2, .string ⟨#[]⟩] 23)).below hb12
  replace Xw := (Xw.alloc (.cells #[.int .i64 s1, .int .i64 s2, .string ⟨#[]⟩] 23)).below hb12
  replace Xx := (Xx.alloc (.cells #[.int .i64 s1, .int .i64 s2, .string ⟨#[]⟩] 23)).below hb12
  replace Xy := (Xy.alloc (.cells #[.int .i64 s1, .int .i64 s2, .string ⟨#[]⟩] 23)).below hb12
  replace Xn := (Xn.alloc (.cells #[.int .i64 s1, .int .i64 s2, .string ⟨#[]⟩] 23)).below hb12
  replace Xm := (Xm.alloc (.cells #[.int .i64 s1, .int .i64 s2, .string ⟨#[]⟩] 23)).below hb12
  replace Xu := (Xu.alloc (.cells #[.int .i64 s1, .int .i64 s2, .string ⟨#[]⟩] 23)).below hb12
  replace Xp := (Xp.alloc (.cells #[.int .i64 s1, .int .i64 s2, .string ⟨#[]⟩] 23)).below hb12
  replace Xq := (Xq.alloc (.cells #[.int .i64 s1, .int .i64 s2, .string ⟨#[]⟩] 23)).below hb12
  replace Xr := (Xr.alloc (.cells #[.int .i64 s1, .int .i64 s2, .string ⟨#[]⟩] 23)).below hb12
  have Xs := (Box.new w11 ⟨s1, s2, ⟨#[]⟩⟩).below hb12
  have L12 := (L11.alloc L11.size (.cells #[.int .i64 s1, .int .i64 s2, .string ⟨#[]⟩] 23)).trans (hb12.mono (by simpa using Nat.le_succ_of_le L11.size))
  clear L11 hb12
  obtain ⟨ln, cn0, cn1, cn2⟩ := id Xn
  go_wp2_with fail
  refine (C13.out _ (hT.below (L12.alloc L12.size _))).mono ?_
  rintro e w13 ⟨rfl, hb13⟩
  clear ln cn0 cn1 cn2
  replace XA := (XA.alloc (.cells #[.int .i64 t1, .int .i64 t2, .string ⟨#[]⟩] 23)).below hb13
  replace XB := (XB.alloc (.cells #[.int .i64 t1, .int .i64 t2, .string ⟨#[]⟩] 23)).below hb13
  replace XC := (XC.alloc (.cells #[.int .i64 t1, .int .i64 t2, .string ⟨#[]⟩] 23)).below hb13
  replace Xv := (Xv.alloc (.cells #[.int .i64 t1, .int .i64 t2, .string ⟨#[]⟩] 23)).below hb13
  replace Xw := (Xw.alloc (.cells #[.int .i64 t1, .int .i64 t2, .string ⟨#[]⟩] 23)).below hb13
  replace Xx := (Xx.alloc (.cells #[.int .i64 t1, .int .i64 t2, .string ⟨#[]⟩] 23)).below hb13
  replace Xy := (Xy.alloc (.cells #[.int .i64 t1, .int .i64 t2, .string ⟨#[]⟩] 23)).below hb13
  replace Xn := (Xn.alloc (.cells #[.int .i64 t1, .int .i64 t2, .string ⟨#[]⟩] 23)).below hb13
  replace Xm := (Xm.alloc (.cells #[.int .i64 t1, .int .i64 t2, .string ⟨#[]⟩] 23)).below hb13
  replace Xu := (Xu.alloc (.cells #[.int .i64 t1, .int .i64 t2, .string ⟨#[]⟩] 23)).below hb13
  replace Xp := (Xp.alloc (.cells #[.int .i64 t1, .int .i64 t2, .string ⟨#[]⟩] 23)).below hb13
  replace Xq := (Xq.alloc (.cells #[.int .i64 t1, .int .i64 t2, .string ⟨#[]⟩] 23)).below hb13
  replace Xr := (Xr.alloc (.cells #[.int .i64 t1, .int .i64 t2, .string ⟨#[]⟩] 23)).below hb13
  replace Xs := (Xs.alloc (.cells #[.int .i64 t1, .int .i64 t2, .string ⟨#[]⟩] 23)).below hb13
  have Xt := (Box.new w12 ⟨t1, t2, ⟨#[]⟩⟩).below hb13
  have L13 := (L12.alloc L12.size (.cells #[.int .i64 t1, .int .i64 t2, .string ⟨#[]⟩] 23)).trans (hb13.mono (by simpa using Nat.le_succ_of_le L12.size))
  clear L12 hb13
  obtain ⟨lu, cu0, cu1, cu2⟩ := id Xu
  obtain ⟨lv, cv0, cv1, cv2⟩ := id Xv
  obtain ⟨lr, cr0, cr1, cr2⟩ := id Xr
  obtain ⟨lp, cp0, cp1, cp2⟩ := id Xp
  obtain ⟨ls, cs0, cs1, cs2⟩ := id Xs
  go_wp2_with fail
  refine (LV.out _ (hT.below (L13.alloc L13.size _)) (hP.below (L13.alloc L13.size _))).mono ?_
  rintro e wz ⟨rfl, hbz⟩
  go_wp2_with fail
  go_ret
  exact ⟨rfl, (L13.alloc L13.size _).trans (hbz.mono (L13.alloc L13.size _).size)⟩

end Go.Proofs.YtmgmpkdnepomgaaDoor
