/-
  The walk of readPiece.
-/
import Derived.Test.YtfcolecglobcdaaGreatDoorLxH
namespace Go.Proofs.YtfcolecglobcdaaGreatDoor
open Go.RowKit Go.Shelf

/-- the variables that tokens lean on -/
structure LxW (w : World) : Prop where
  m : Mx w
  r : Rg w
  t : Tabs w
  s : Sg w
theorem LxW.below {w w' : World} (h : LxW w) (hb : Below w.heap.size w w') : LxW w' := ⟨h.m.below hb, h.r.below hb, h.t.below hb, h.s.below hb⟩
theorem xb {x y : UInt8} (h : x ≠ y) : ((x.toNat : Int) == (y.toNat : Int)) = false := by
  rw [beq_eq_false_iff_ne]; intro e; exact h (UInt8.toNat_inj.1 (by omega))
set_option maxHeartbeats 1000000 in
set_option maxRecDepth 1000000 in
theorem readPiece_nil (w : World) : Calls Tryz.prog 59 #[.string ⟨#[]⟩] w fun e w' => e = .returned (pcv (rdP [])) ∧ Below w.heap.size w w' := by
  go_enter Tryz.func59, Tryz.ntmps59
  go_wp2_with fail
  refine bodyPost_ret (v := pcv (pcT 0 6 [])) (by simp [results, Tryz.results59, go_sem, pcv, pcT, v0]) rfl ⟨rfl, ?_⟩
  exact (Below.refl _ w).alloc (Nat.le_refl _) _
set_option maxHeartbeats 1000000 in
set_option maxRecDepth 1000000 in
theorem rpBlank (l : List UInt8) (x : UInt8) (hx : l[0]? = some x) (w : World) (h0 : 0 ≤ Lib.indexByte [32, 9, 10, 13] x) :
    Calls Tryz.prog 59 #[.string ⟨l.toArray⟩] w fun e w' => e = .returned (pcv (pcT 1 0 [])) ∧ Below w.heap.size w w' := by
  have hne : l ≠ [] := by rintro rfl; simp at hx
  have h1 : 1 ≤ l.length := by have := List.length_pos_iff.2 hne; omega
  have hnb : (l == ([] : List UInt8)) = false := by rw [beq_eq_false_iff_ne]; exact hne
  have hzl : (ByteArray.mk l.toArray).size = l.length := size_mk l
  have hg0 := get_mk hx
  have h1i : (0 : Int) < (l.length : Int) := by omega
  have IB : Hid (∀ w, Calls Tryz.prog 73 #[.string ⟨#[32, 9, 10, 13]⟩, .int .u8 (x.toNat : Int)] w fun e w' => e = .returned (.int .i64 (Lib.indexByte [32, 9, 10, 13] x)) ∧ Below w.heap.size w w') := fun w => (IndexByte_any [32, 9, 10, 13] x w).mono (fun _ _ h => ⟨h.1, h.2 ▸ Below.refl _ _⟩)
  have P0 : Hid (R11 (w.alloc (.cells #[.int .i64 0, .int .i64 0, .string ⟨#[]⟩, .int .i64 0, .int .i64 0, .string ⟨#[]⟩, .int .i64 0, .int .i64 0, .int .i64 0, .int .i64 0, .int .i64 0] 82)) w.heap.size (.int .i64 0) (.int .i64 0) (.string ⟨#[]⟩) (.int .i64 0) (.int .i64 0) (.string ⟨#[]⟩) (.int .i64 0) (.int .i64 0) (.int .i64 0) (.int .i64 0) (.int .i64 0)) := R11.new w 82 (.int .i64 0) (.int .i64 0) (.string ⟨#[]⟩) (.int .i64 0) (.int .i64 0) (.string ⟨#[]⟩) (.int .i64 0) (.int .i64 0) (.int .i64 0) (.int .i64 0) (.int .i64 0)
  have B0 : Hid (Below w.heap.size w (w.alloc (.cells #[.int .i64 0, .int .i64 0, .string ⟨#[]⟩, .int .i64 0, .int .i64 0, .string ⟨#[]⟩, .int .i64 0, .int .i64 0, .int .i64 0, .int .i64 0, .int .i64 0] 82))) := (Below.refl _ w).alloc (Nat.le_refl _) _
  generalize Lib.indexByte [32, 9, 10, 13] x = i at *
  clear hne h1 hx
  go_enter Tryz.func59, Tryz.ntmps59
  go_wp2_with fail
  refine (IB.out _).mono ?_
  rintro e w1 ⟨rfl, hb1⟩
  have P1 := P0.out.below hb1
  have B1 := B0.out.trans (hb1.mono B0.out.size)
  clear IB hb1
  obtain ⟨_, c0, c1, c2, c3, c4, c5, c6, c7, c8, c9, c10, f0, f1, f2, f3, f4, f5, f6, f7, f8, f9, f10⟩ := id P1
  go_wp2_with fail
  obtain ⟨_, x0, x1, x2, x3, x4, x5, x6, x7, x8, x9, x10, _, _, _, _, _, _, _, _, _, _, _⟩ := P1.put (.int .i64 1) (.int .i64 0) (.string ⟨#[]⟩) (.int .i64 0) (.int .i64 0) (.string ⟨#[]⟩) (.int .i64 0) (.int .i64 0) (.int .i64 0) (.int .i64 0) (.int .i64 0)
  unfold R11.set at x0 x1 x2 x3 x4 x5 x6 x7 x8 x9 x10
  refine bodyPost_ret (v := pcv (pcT 1 0 [])) (by simp [results, Tryz.results59, go_sem, pcv, pcT, v0, x0, x1, x2, x3, x4, x5, x6, x7, x8, x9, x10]) rfl ⟨rfl, ?_⟩
  exact R11.set_below B1 (Nat.le_refl _) _ _ _ _ _ _ _ _ _ _ _
set_option maxHeartbeats 1000000 in
set_option maxRecDepth 1000000 in
theorem rpLine (l : List UInt8) (x : UInt8) (hx : l[0]? = some x) (w : World) (hs : l.length ≤ 100000) (hW : LxW w) (h0 : ¬ 0 ≤ Lib.indexByte [32, 9, 10, 13] x) (p1 : ([45, 45] : List UInt8).isPrefixOf l = true) :
    Calls Tryz.prog 59 #[.string ⟨l.toArray⟩] w fun e w' => e = .returned (pcv (rdL l)) ∧ Below w.heap.size w w' := by
  have hne : l ≠ [] := by rintro rfl; simp at hx
  have h1 : 1 ≤ l.length := by have := List.length_pos_iff.2 hne; omega
  have hnb : (l == ([] : List UInt8)) = false := by rw [beq_eq_false_iff_ne]; exact hne
  have hzl : (ByteArray.mk l.toArray).size = l.length := size_mk l
  have hg0 := get_mk hx
  have h1i : (0 : Int) < (l.length : Int) := by omega
  have IB : Hid (∀ w, Calls Tryz.prog 73 #[.string ⟨#[32, 9, 10, 13]⟩, .int .u8 (x.toNat : Int)] w fun e w' => e = .returned (.int .i64 (Lib.indexByte [32, 9, 10, 13] x)) ∧ Below w.heap.size w w') := fun w => (IndexByte_any [32, 9, 10, 13] x w).mono (fun _ _ h => ⟨h.1, h.2 ▸ Below.refl _ _⟩)
  have H1 : Hid (∀ w, Calls Tryz.prog 44 #[.string ⟨l.toArray⟩, .string ⟨#[45, 45]⟩] w fun e w' => e = .returned (.bool true) ∧ Below w.heap.size w w') := fun w => (HasPre l [45, 45] _ w p1).mono (fun _ _ h => ⟨h.1, h.2 ▸ Below.refl _ _⟩)
  have RD : Hid (∀ w, LxW w → Calls Tryz.prog 79 #[.string ⟨l.toArray⟩] w fun e w' => e = .returned (pcv (rdL l)) ∧ Below w.heap.size w w') := fun w h => readLine_any l w hs h.m
  have HW : Hid (LxW w) := hW
  have P0 : Hid (R11 (w.alloc (.cells #[.int .i64 0, .int .i64 0, .string ⟨#[]⟩, .int .i64 0, .int .i64 0, .string ⟨#[]⟩, .int .i64 0, .int .i64 0, .int .i64 0, .int .i64 0, .int .i64 0] 82)) w.heap.size (.int .i64 0) (.int .i64 0) (.string ⟨#[]⟩) (.int .i64 0) (.int .i64 0) (.string ⟨#[]⟩) (.int .i64 0) (.int .i64 0) (.int .i64 0) (.int .i64 0) (.int .i64 0)) := R11.new w 82 (.int .i64 0) (.int .i64 0) (.string ⟨#[]⟩) (.int .i64 0) (.int .i64 0) (.string ⟨#[]⟩) (.int .i64 0) (.int .i64 0) (.int .i64 0) (.int .i64 0) (.int .i64 0)
  have B0 : Hid (Below w.heap.size w (w.alloc (.cells #[.int .i64 0, .int .i64 0, .string ⟨#[]⟩, .int .i64 0, .int .i64 0, .string ⟨#[]⟩, .int .i64 0, .int .i64 0, .int .i64 0, .int .i64 0, .int .i64 0] 82))) := (Below.refl _ w).alloc (Nat.le_refl _) _
  generalize rdL l = p at *
  obtain ⟨sz, kd, tx, ⟨vt, vn, vs⟩, wy, ah⟩ := p
  generalize Lib.indexByte [32, 9, 10, 13] x = i at *
  clear hne h1 hx p1 hs hW
  go_enter Tryz.func59, Tryz.ntmps59
  go_wp2_with fail
  refine (IB.out _).mono ?_
  rintro e w1 ⟨rfl, hb1⟩
  have P1 := P0.out.below hb1
  have B1 := B0.out.trans (hb1.mono B0.out.size)
  clear IB hb1
  go_wp2_with fail
  refine (H1.out _).mono ?_
  rintro e w2 ⟨rfl, hb2⟩
  have P2 := P1.below hb2
  have B2 := B1.trans (hb2.mono B1.size)
  clear H1 hb2
  go_wp2_with fail
  refine (RD.out _ (HW.out.below B2)).mono ?_
  rintro e w3 ⟨rfl, hb3⟩
  have P3 := P2.below hb3
  have B3 := B2.trans (hb3.mono B2.size)
  clear RD hb3
  unfold pcv
  obtain ⟨_, c0, c1, c2, c3, c4, c5, c6, c7, c8, c9, c10, f0, f1, f2, f3, f4, f5, f6, f7, f8, f9, f10⟩ := id P3
  go_wp2_with fail
  obtain ⟨_, x0, x1, x2, x3, x4, x5, x6, x7, x8, x9, x10, _, _, _, _, _, _, _, _, _, _, _⟩ := P3.put (.int .i64 sz) (.int .i64 kd) (.string ⟨tx.toArray⟩) (.int .i64 vt) (.int .i64 vn) (.string vs) (.int .i64 0) (.int .i64 0) (.int .i64 0) (.int .i64 wy) (.int .i64 ah)
  unfold R11.set at x0 x1 x2 x3 x4 x5 x6 x7 x8 x9 x10
  refine bodyPost_ret (v := pcv ⟨sz, kd, tx, ⟨vt, vn, vs⟩, wy, ah⟩) (by simp [results, Tryz.results59, go_sem, pcv, x0, x1, x2, x3, x4, x5, x6, x7, x8, x9, x10]) rfl ⟨rfl, ?_⟩
  exact R11.set_below B3 (Nat.le_refl _) _ _ _ _ _ _ _ _ _ _ _
set_option maxHeartbeats 1000000 in
set_option maxRecDepth 1000000 in
theorem rpRemark (l : List UInt8) (x : UInt8) (hx : l[0]? = some x) (w : World) (hs : l.length ≤ 100000) (hW : LxW w) (h0 : ¬ 0 ≤ Lib.indexByte [32, 9, 10, 13] x) (p1 : ([45, 45] : List UInt8).isPrefixOf l = false) (p2 : ([47, 42] : List UInt8).isPrefixOf l = true) :
    Calls Tryz.prog 59 #[.string ⟨l.toArray⟩] w fun e w' => e = .returned (pcv (rdR l)) ∧ Below w.heap.size w w' := by
  have hne : l ≠ [] := by rintro rfl; simp at hx
  have h1 : 1 ≤ l.length := by have := List.length_pos_iff.2 hne; omega
  have hnb : (l == ([] : List UInt8)) = false := by rw [beq_eq_false_iff_ne]; exact hne
  have hzl : (ByteArray.mk l.toArray).size = l.length := size_mk l
  have hg0 := get_mk hx
  have h1i : (0 : Int) < (l.length : Int) := by omega
  have IB : Hid (∀ w, Calls Tryz.prog 73 #[.string ⟨#[32, 9, 10, 13]⟩, .int .u8 (x.toNat : Int)] w fun e w' => e = .returned (.int .i64 (Lib.indexByte [32, 9, 10, 13] x)) ∧ Below w.heap.size w w') := fun w => (IndexByte_any [32, 9, 10, 13] x w).mono (fun _ _ h => ⟨h.1, h.2 ▸ Below.refl _ _⟩)
  have h2 : 2 ≤ l.length := by
    have := (List.isPrefixOf_iff_prefix.1 p2).length_le
    simpa using this
  have H1 : Hid (∀ w, Calls Tryz.prog 44 #[.string ⟨l.toArray⟩, .string ⟨#[45, 45]⟩] w fun e w' => e = .returned (.bool false) ∧ Below w.heap.size w w') := fun w => (HasPre l [45, 45] _ w p1).mono (fun _ _ h => ⟨h.1, h.2 ▸ Below.refl _ _⟩)
  have H2 : Hid (∀ w, Calls Tryz.prog 44 #[.string ⟨l.toArray⟩, .string ⟨#[47, 42]⟩] w fun e w' => e = .returned (.bool true) ∧ Below w.heap.size w w') := fun w => (HasPre l [47, 42] _ w p2).mono (fun _ _ h => ⟨h.1, h.2 ▸ Below.refl _ _⟩)
  have RD : Hid (∀ w, LxW w → Calls Tryz.prog 80 #[.string ⟨l.toArray⟩] w fun e w' => e = .returned (pcv (rdR l)) ∧ Below w.heap.size w w') := fun w h => readRemark_any l w hs h2 h.m
  have HW : Hid (LxW w) := hW
  have P0 : Hid (R11 (w.alloc (.cells #[.int .i64 0, .int .i64 0, .string ⟨#[]⟩, .int .i64 0, .int .i64 0, .string ⟨#[]⟩, .int .i64 0, .int .i64 0, .int .i64 0, .int .i64 0, .int .i64 0] 82)) w.heap.size (.int .i64 0) (.int .i64 0) (.string ⟨#[]⟩) (.int .i64 0) (.int .i64 0) (.string ⟨#[]⟩) (.int .i64 0) (.int .i64 0) (.int .i64 0) (.int .i64 0) (.int .i64 0)) := R11.new w 82 (.int .i64 0) (.int .i64 0) (.string ⟨#[]⟩) (.int .i64 0) (.int .i64 0) (.string ⟨#[]⟩) (.int .i64 0) (.int .i64 0) (.int .i64 0) (.int .i64 0) (.int .i64 0)
  have B0 : Hid (Below w.heap.size w (w.alloc (.cells #[.int .i64 0, .int .i64 0, .string ⟨#[]⟩, .int .i64 0, .int .i64 0, .string ⟨#[]⟩, .int .i64 0, .int .i64 0, .int .i64 0, .int .i64 0, .int .i64 0] 82))) := (Below.refl _ w).alloc (Nat.le_refl _) _
  generalize rdR l = p at *
  obtain ⟨sz, kd, tx, ⟨vt, vn, vs⟩, wy, ah⟩ := p
  generalize Lib.indexByte [32, 9, 10, 13] x = i at *
  clear hne h1 hx p1 p2 h2 hs hW
  go_enter Tryz.func59, Tryz.ntmps59
  go_wp2_with fail
  refine (IB.out _).mono ?_
  rintro e w1 ⟨rfl, hb1⟩
  have P1 := P0.out.below hb1
  have B1 := B0.out.trans (hb1.mono B0.out.size)
  clear IB hb1
  go_wp2_with fail
  refine (H1.out _).mono ?_
  rintro e w2 ⟨rfl, hb2⟩
  have P2 := P1.below hb2
  have B2 := B1.trans (hb2.mono B1.size)
  clear H1 hb2
  go_wp2_with fail
  refine (H2.out _).mono ?_
  rintro e w3 ⟨rfl, hb3⟩
  have P3 := P2.below hb3
  have B3 := B2.trans (hb3.mono B2.size)
  clear H2 hb3
  go_wp2_with fail
  refine (RD.out _ (HW.out.below B3)).mono ?_
  rintro e w4 ⟨rfl, hb4⟩
  have P4 := P3.below hb4
  have B4 := B3.trans (hb4.mono B3.size)
  clear RD hb4
  unfold pcv
  obtain ⟨_, c0, c1, c2, c3, c4, c5, c6, c7, c8, c9, c10, f0, f1, f2, f3, f4, f5, f6, f7, f8, f9, f10⟩ := id P4
  go_wp2_with fail
  obtain ⟨_, x0, x1, x2, x3, x4, x5, x6, x7, x8, x9, x10, _, _, _, _, _, _, _, _, _, _, _⟩ := P4.put (.int .i64 sz) (.int .i64 kd) (.string ⟨tx.toArray⟩) (.int .i64 vt) (.int .i64 vn) (.string vs) (.int .i64 0) (.int .i64 0) (.int .i64 0) (.int .i64 wy) (.int .i64 ah)
  unfold R11.set at x0 x1 x2 x3 x4 x5 x6 x7 x8 x9 x10
  refine bodyPost_ret (v := pcv ⟨sz, kd, tx, ⟨vt, vn, vs⟩, wy, ah⟩) (by simp [results, Tryz.results59, go_sem, pcv, x0, x1, x2, x3, x4, x5, x6, x7, x8, x9, x10]) rfl ⟨rfl, ?_⟩
  exact R11.set_below B4 (Nat.le_refl _) _ _ _ _ _ _ _ _ _ _ _
set_option maxHeartbeats 1000000 in
set_option maxRecDepth 1000000 in
theorem rpWord (l : List UInt8) (x : UInt8) (hx : l[0]? = some x) (w : World) (hs : l.length ≤ 100000) (h0 : ¬ 0 ≤ Lib.indexByte [32, 9, 10, 13] x) (p1 : ([45, 45] : List UInt8).isPrefixOf l = false) (p2 : ([47, 42] : List UInt8).isPrefixOf l = false) (p3 : isL x = true) :
    Calls Tryz.prog 59 #[.string ⟨l.toArray⟩] w fun e w' => e = .returned (pcv (rdW l)) ∧ Below w.heap.size w w' := by
  have hne : l ≠ [] := by rintro rfl; simp at hx
  have h1 : 1 ≤ l.length := by have := List.length_pos_iff.2 hne; omega
  have hnb : (l == ([] : List UInt8)) = false := by rw [beq_eq_false_iff_ne]; exact hne
  have hzl : (ByteArray.mk l.toArray).size = l.length := size_mk l
  have hg0 := get_mk hx
  have h1i : (0 : Int) < (l.length : Int) := by omega
  have IB : Hid (∀ w, Calls Tryz.prog 73 #[.string ⟨#[32, 9, 10, 13]⟩, .int .u8 (x.toNat : Int)] w fun e w' => e = .returned (.int .i64 (Lib.indexByte [32, 9, 10, 13] x)) ∧ Below w.heap.size w w') := fun w => (IndexByte_any [32, 9, 10, 13] x w).mono (fun _ _ h => ⟨h.1, h.2 ▸ Below.refl _ _⟩)
  have H1 : Hid (∀ w, Calls Tryz.prog 44 #[.string ⟨l.toArray⟩, .string ⟨#[45, 45]⟩] w fun e w' => e = .returned (.bool false) ∧ Below w.heap.size w w') := fun w => (HasPre l [45, 45] _ w p1).mono (fun _ _ h => ⟨h.1, h.2 ▸ Below.refl _ _⟩)
  have H2 : Hid (∀ w, Calls Tryz.prog 44 #[.string ⟨l.toArray⟩, .string ⟨#[47, 42]⟩] w fun e w' => e = .returned (.bool false) ∧ Below w.heap.size w w') := fun w => (HasPre l [47, 42] _ w p2).mono (fun _ _ h => ⟨h.1, h.2 ▸ Below.refl _ _⟩)
  have IL : Hid (∀ w, Calls Tryz.prog 45 #[.int .u8 (x.toNat : Int)] w fun e w' => e = .returned (.bool true) ∧ Below w.heap.size w w') := fun w => (isLetter_any x w).mono (fun _ _ h => ⟨p3 ▸ h.1, h.2 ▸ Below.refl _ _⟩)
  have RD : Hid (∀ w, Calls Tryz.prog 81 #[.string ⟨l.toArray⟩] w fun e w' => e = .returned (pcv (rdW l)) ∧ Below w.heap.size w w') := fun w => readWord_any l w hs
  have P0 : Hid (R11 (w.alloc (.cells #[.int .i64 0, .int .i64 0, .string ⟨#[]⟩, .int .i64 0, .int .i64 0, .string ⟨#[]⟩, .int .i64 0, .int .i64 0, .int .i64 0, .int .i64 0, .int .i64 0] 82)) w.heap.size (.int .i64 0) (.int .i64 0) (.string ⟨#[]⟩) (.int .i64 0) (.int .i64 0) (.string ⟨#[]⟩) (.int .i64 0) (.int .i64 0) (.int .i64 0) (.int .i64 0) (.int .i64 0)) := R11.new w 82 (.int .i64 0) (.int .i64 0) (.string ⟨#[]⟩) (.int .i64 0) (.int .i64 0) (.string ⟨#[]⟩) (.int .i64 0) (.int .i64 0) (.int .i64 0) (.int .i64 0) (.int .i64 0)
  have B0 : Hid (Below w.heap.size w (w.alloc (.cells #[.int .i64 0, .int .i64 0, .string ⟨#[]⟩, .int .i64 0, .int .i64 0, .string ⟨#[]⟩, .int .i64 0, .int .i64 0, .int .i64 0, .int .i64 0, .int .i64 0] 82))) := (Below.refl _ w).alloc (Nat.le_refl _) _
  generalize rdW l = p at *
  obtain ⟨sz, kd, tx, ⟨vt, vn, vs⟩, wy, ah⟩ := p
  generalize Lib.indexByte [32, 9, 10, 13] x = i at *
  clear hne h1 hx p1 p2 p3 hs
  go_enter Tryz.func59, Tryz.ntmps59
  go_wp2_with fail
  refine (IB.out _).mono ?_
  rintro e w1 ⟨rfl, hb1⟩
  have P1 := P0.out.below hb1
  have B1 := B0.out.trans (hb1.mono B0.out.size)
  clear IB hb1
  go_wp2_with fail
  refine (H1.out _).mono ?_
  rintro e w2 ⟨rfl, hb2⟩
  have P2 := P1.below hb2
  have B2 := B1.trans (hb2.mono B1.size)
  clear H1 hb2
  go_wp2_with fail
  refine (H2.out _).mono ?_
  rintro e w3 ⟨rfl, hb3⟩
  have P3 := P2.below hb3
  have B3 := B2.trans (hb3.mono B2.size)
  clear H2 hb3
  go_wp2_with fail
  refine (IL.out _).mono ?_
  rintro e w4 ⟨rfl, hb4⟩
  have P4 := P3.below hb4
  have B4 := B3.trans (hb4.mono B3.size)
  clear IL hb4
  go_wp2_with fail
  refine (RD.out _).mono ?_
  rintro e w5 ⟨rfl, hb5⟩
  have P5 := P4.below hb5
  have B5 := B4.trans (hb5.mono B4.size)
  clear RD hb5
  unfold pcv
  obtain ⟨_, c0, c1, c2, c3, c4, c5, c6, c7, c8, c9, c10, f0, f1, f2, f3, f4, f5, f6, f7, f8, f9, f10⟩ := id P5
  go_wp2_with fail
  obtain ⟨_, x0, x1, x2, x3, x4, x5, x6, x7, x8, x9, x10, _, _, _, _, _, _, _, _, _, _, _⟩ := P5.put (.int .i64 sz) (.int .i64 kd) (.string ⟨tx.toArray⟩) (.int .i64 vt) (.int .i64 vn) (.string vs) (.int .i64 0) (.int .i64 0) (.int .i64 0) (.int .i64 wy) (.int .i64 ah)
  unfold R11.set at x0 x1 x2 x3 x4 x5 x6 x7 x8 x9 x10
  refine bodyPost_ret (v := pcv ⟨sz, kd, tx, ⟨vt, vn, vs⟩, wy, ah⟩) (by simp [results, Tryz.results59, go_sem, pcv, x0, x1, x2, x3, x4, x5, x6, x7, x8, x9, x10]) rfl ⟨rfl, ?_⟩
  exact R11.set_below B5 (Nat.le_refl _) _ _ _ _ _ _ _ _ _ _ _
set_option maxHeartbeats 1000000 in
set_option maxRecDepth 1000000 in
theorem rpNumber (l : List UInt8) (x : UInt8) (hx : l[0]? = some x) (w : World) (hs : l.length ≤ 100000) (hW : LxW w) (h0 : ¬ 0 ≤ Lib.indexByte [32, 9, 10, 13] x) (p1 : ([45, 45] : List UInt8).isPrefixOf l = false) (p2 : ([47, 42] : List UInt8).isPrefixOf l = false) (p3 : isL x = false) (p4 : isD x = true) :
    Calls Tryz.prog 59 #[.string ⟨l.toArray⟩] w fun e w' => e = .returned (pcv (rdN l)) ∧ Below w.heap.size w w' := by
  have hne : l ≠ [] := by rintro rfl; simp at hx
  have h1 : 1 ≤ l.length := by have := List.length_pos_iff.2 hne; omega
  have hnb : (l == ([] : List UInt8)) = false := by rw [beq_eq_false_iff_ne]; exact hne
  have hzl : (ByteArray.mk l.toArray).size = l.length := size_mk l
  have hg0 := get_mk hx
  have h1i : (0 : Int) < (l.length : Int) := by omega
  have IB : Hid (∀ w, Calls Tryz.prog 73 #[.string ⟨#[32, 9, 10, 13]⟩, .int .u8 (x.toNat : Int)] w fun e w' => e = .returned (.int .i64 (Lib.indexByte [32, 9, 10, 13] x)) ∧ Below w.heap.size w w') := fun w => (IndexByte_any [32, 9, 10, 13] x w).mono (fun _ _ h => ⟨h.1, h.2 ▸ Below.refl _ _⟩)
  have H1 : Hid (∀ w, Calls Tryz.prog 44 #[.string ⟨l.toArray⟩, .string ⟨#[45, 45]⟩] w fun e w' => e = .returned (.bool false) ∧ Below w.heap.size w w') := fun w => (HasPre l [45, 45] _ w p1).mono (fun _ _ h => ⟨h.1, h.2 ▸ Below.refl _ _⟩)
  have H2 : Hid (∀ w, Calls Tryz.prog 44 #[.string ⟨l.toArray⟩, .string ⟨#[47, 42]⟩] w fun e w' => e = .returned (.bool false) ∧ Below w.heap.size w w') := fun w => (HasPre l [47, 42] _ w p2).mono (fun _ _ h => ⟨h.1, h.2 ▸ Below.refl _ _⟩)
  have IL : Hid (∀ w, Calls Tryz.prog 45 #[.int .u8 (x.toNat : Int)] w fun e w' => e = .returned (.bool false) ∧ Below w.heap.size w w') := fun w => (isLetter_any x w).mono (fun _ _ h => ⟨p3 ▸ h.1, h.2 ▸ Below.refl _ _⟩)
  have ID : Hid (∀ w, Calls Tryz.prog 46 #[.int .u8 (x.toNat : Int)] w fun e w' => e = .returned (.bool true) ∧ Below w.heap.size w w') := fun w => (isDigit_any x w).mono (fun _ _ h => ⟨p4 ▸ h.1, h.2 ▸ Below.refl _ _⟩)
  have RD : Hid (∀ w, LxW w → Calls Tryz.prog 82 #[.string ⟨l.toArray⟩] w fun e w' => e = .returned (pcv (rdN l)) ∧ Below w.heap.size w w') := fun w h => rdNumber_any l w hs h.m h.r h.t
  have HW : Hid (LxW w) := hW
  have P0 : Hid (R11 (w.alloc (.cells #[.int .i64 0, .int .i64 0, .string ⟨#[]⟩, .int .i64 0, .int .i64 0, .string ⟨#[]⟩, .int .i64 0, .int .i64 0, .int .i64 0, .int .i64 0, .int .i64 0] 82)) w.heap.size (.int .i64 0) (.int .i64 0) (.string ⟨#[]⟩) (.int .i64 0) (.int .i64 0) (.string ⟨#[]⟩) (.int .i64 0) (.int .i64 0) (.int .i64 0) (.int .i64 0) (.int .i64 0)) := R11.new w 82 (.int .i64 0) (.int .i64 0) (.string ⟨#[]⟩) (.int .i64 0) (.int .i64 0) (.string ⟨#[]⟩) (.int .i64 0) (.int .i64 0) (.int .i64 0) (.int .i64 0) (.int .i64 0)
  have B0 : Hid (Below w.heap.size w (w.alloc (.cells #[.int .i64 0, .int .i64 0, .string ⟨#[]⟩, .int .i64 0, .int .i64 0, .string ⟨#[]⟩, .int .i64 0, .int .i64 0, .int .i64 0, .int .i64 0, .int .i64 0] 82))) := (Below.refl _ w).alloc (Nat.le_refl _) _
  generalize rdN l = p at *
  obtain ⟨sz, kd, tx, ⟨vt, vn, vs⟩, wy, ah⟩ := p
  generalize Lib.indexByte [32, 9, 10, 13] x = i at *
  clear hne h1 hx p1 p2 p3 p4 hs hW
  go_enter Tryz.func59, Tryz.ntmps59
  go_wp2_with fail
  refine (IB.out _).mono ?_
  rintro e w1 ⟨rfl, hb1⟩
  have P1 := P0.out.below hb1
  have B1 := B0.out.trans (hb1.mono B0.out.size)
  clear IB hb1
  go_wp2_with fail
  refine (H1.out _).mono ?_
  rintro e w2 ⟨rfl, hb2⟩
  have P2 := P1.below hb2
  have B2 := B1.trans (hb2.mono B1.size)
  clear H1 hb2
  go_wp2_with fail
  refine (H2.out _).mono ?_
  rintro e w3 ⟨rfl, hb3⟩
  have P3 := P2.below hb3
  have B3 := B2.trans (hb3.mono B2.size)
  clear H2 hb3
  go_wp2_with fail
  refine (IL.out _).mono ?_
  rintro e w4 ⟨rfl, hb4⟩
  have P4 := P3.below hb4
  have B4 := B3.trans (hb4.mono B3.size)
  clear IL hb4
  go_wp2_with fail
  refine (ID.out _).mono ?_
  rintro e w5 ⟨rfl, hb5⟩
  have P5 := P4.below hb5
  have B5 := B4.trans (hb5.mono B4.size)
  clear ID hb5
  go_wp2_with fail
  refine (RD.out _ (HW.out.below B5)).mono ?_
  rintro e w6 ⟨rfl, hb6⟩
  have P6 := P5.below hb6
  have B6 := B5.trans (hb6.mono B5.size)
  clear RD hb6
  unfold pcv
  obtain ⟨_, c0, c1, c2, c3, c4, c5, c6, c7, c8, c9, c10, f0, f1, f2, f3, f4, f5, f6, f7, f8, f9, f10⟩ := id P6
  go_wp2_with fail
  obtain ⟨_, x0, x1, x2, x3, x4, x5, x6, x7, x8, x9, x10, _, _, _, _, _, _, _, _, _, _, _⟩ := P6.put (.int .i64 sz) (.int .i64 kd) (.string ⟨tx.toArray⟩) (.int .i64 vt) (.int .i64 vn) (.string vs) (.int .i64 0) (.int .i64 0) (.int .i64 0) (.int .i64 wy) (.int .i64 ah)
  unfold R11.set at x0 x1 x2 x3 x4 x5 x6 x7 x8 x9 x10
  refine bodyPost_ret (v := pcv ⟨sz, kd, tx, ⟨vt, vn, vs⟩, wy, ah⟩) (by simp [results, Tryz.results59, go_sem, pcv, x0, x1, x2, x3, x4, x5, x6, x7, x8, x9, x10]) rfl ⟨rfl, ?_⟩
  exact R11.set_below B6 (Nat.le_refl _) _ _ _ _ _ _ _ _ _ _ _
set_option maxHeartbeats 1000000 in
set_option maxRecDepth 1000000 in
theorem rpQuoted (l : List UInt8) (x : UInt8) (hx : l[0]? = some x) (w : World) (hs : l.length ≤ 100000) (hW : LxW w) (h0 : ¬ 0 ≤ Lib.indexByte [32, 9, 10, 13] x) (p1 : ([45, 45] : List UInt8).isPrefixOf l = false) (p2 : ([47, 42] : List UInt8).isPrefixOf l = false) (p3 : isL x = false) (p4 : isD x = false) (q4 : x = 34) :
    Calls Tryz.prog 59 #[.string ⟨l.toArray⟩] w fun e w' => e = .returned (pcv (rdQ l)) ∧ Below w.heap.size w w' := by
  have hne : l ≠ [] := by rintro rfl; simp at hx
  have h1 : 1 ≤ l.length := by have := List.length_pos_iff.2 hne; omega
  have hnb : (l == ([] : List UInt8)) = false := by rw [beq_eq_false_iff_ne]; exact hne
  have hzl : (ByteArray.mk l.toArray).size = l.length := size_mk l
  have hg0 := get_mk hx
  have h1i : (0 : Int) < (l.length : Int) := by omega
  have IB : Hid (∀ w, Calls Tryz.prog 73 #[.string ⟨#[32, 9, 10, 13]⟩, .int .u8 (x.toNat : Int)] w fun e w' => e = .returned (.int .i64 (Lib.indexByte [32, 9, 10, 13] x)) ∧ Below w.heap.size w w') := fun w => (IndexByte_any [32, 9, 10, 13] x w).mono (fun _ _ h => ⟨h.1, h.2 ▸ Below.refl _ _⟩)
  have H1 : Hid (∀ w, Calls Tryz.prog 44 #[.string ⟨l.toArray⟩, .string ⟨#[45, 45]⟩] w fun e w' => e = .returned (.bool false) ∧ Below w.heap.size w w') := fun w => (HasPre l [45, 45] _ w p1).mono (fun _ _ h => ⟨h.1, h.2 ▸ Below.refl _ _⟩)
  have H2 : Hid (∀ w, Calls Tryz.prog 44 #[.string ⟨l.toArray⟩, .string ⟨#[47, 42]⟩] w fun e w' => e = .returned (.bool false) ∧ Below w.heap.size w w') := fun w => (HasPre l [47, 42] _ w p2).mono (fun _ _ h => ⟨h.1, h.2 ▸ Below.refl _ _⟩)
  have IL : Hid (∀ w, Calls Tryz.prog 45 #[.int .u8 (x.toNat : Int)] w fun e w' => e = .returned (.bool false) ∧ Below w.heap.size w w') := fun w => (isLetter_any x w).mono (fun _ _ h => ⟨p3 ▸ h.1, h.2 ▸ Below.refl _ _⟩)
  have ID : Hid (∀ w, Calls Tryz.prog 46 #[.int .u8 (x.toNat : Int)] w fun e w' => e = .returned (.bool false) ∧ Below w.heap.size w w') := fun w => (isDigit_any x w).mono (fun _ _ h => ⟨p4 ▸ h.1, h.2 ▸ Below.refl _ _⟩)
  have e4 : ((x.toNat : Int) == 34) = true := by rw [q4]; rfl
  have RD : Hid (∀ w, LxW w → Calls Tryz.prog 83 #[.string ⟨l.toArray⟩] w fun e w' => e = .returned (pcv (rdQ l)) ∧ Below w.heap.size w w') := fun w h => readQuoted_any l w hs hne h.m
  have HW : Hid (LxW w) := hW
  have P0 : Hid (R11 (w.alloc (.cells #[.int .i64 0, .int .i64 0, .string ⟨#[]⟩, .int .i64 0, .int .i64 0, .string ⟨#[]⟩, .int .i64 0, .int .i64 0, .int .i64 0, .int .i64 0, .int .i64 0] 82)) w.heap.size (.int .i64 0) (.int .i64 0) (.string ⟨#[]⟩) (.int .i64 0) (.int .i64 0) (.string ⟨#[]⟩) (.int .i64 0) (.int .i64 0) (.int .i64 0) (.int .i64 0) (.int .i64 0)) := R11.new w 82 (.int .i64 0) (.int .i64 0) (.string ⟨#[]⟩) (.int .i64 0) (.int .i64 0) (.string ⟨#[]⟩) (.int .i64 0) (.int .i64 0) (.int .i64 0) (.int .i64 0) (.int .i64 0)
  have B0 : Hid (Below w.heap.size w (w.alloc (.cells #[.int .i64 0, .int .i64 0, .string ⟨#[]⟩, .int .i64 0, .int .i64 0, .string ⟨#[]⟩, .int .i64 0, .int .i64 0, .int .i64 0, .int .i64 0, .int .i64 0] 82))) := (Below.refl _ w).alloc (Nat.le_refl _) _
  generalize rdQ l = p at *
  obtain ⟨sz, kd, tx, ⟨vt, vn, vs⟩, wy, ah⟩ := p
  generalize Lib.indexByte [32, 9, 10, 13] x = i at *
  clear hne h1 hx p1 p2 p3 p4 q4 hs hW
  go_enter Tryz.func59, Tryz.ntmps59
  go_wp2_with fail
  refine (IB.out _).mono ?_
  rintro e w1 ⟨rfl, hb1⟩
  have P1 := P0.out.below hb1
  have B1 := B0.out.trans (hb1.mono B0.out.size)
  clear IB hb1
  go_wp2_with fail
  refine (H1.out _).mono ?_
  rintro e w2 ⟨rfl, hb2⟩
  have P2 := P1.below hb2
  have B2 := B1.trans (hb2.mono B1.size)
  clear H1 hb2
  go_wp2_with fail
  refine (H2.out _).mono ?_
  rintro e w3 ⟨rfl, hb3⟩
  have P3 := P2.below hb3
  have B3 := B2.trans (hb3.mono B2.size)
  clear H2 hb3
  go_wp2_with fail
  refine (IL.out _).mono ?_
  rintro e w4 ⟨rfl, hb4⟩
  have P4 := P3.below hb4
  have B4 := B3.trans (hb4.mono B3.size)
  clear IL hb4
  go_wp2_with fail
  refine (ID.out _).mono ?_
  rintro e w5 ⟨rfl, hb5⟩
  have P5 := P4.below hb5
  have B5 := B4.trans (hb5.mono B4.size)
  clear ID hb5
  go_wp2_with fail
  refine (RD.out _ (HW.out.below B5)).mono ?_
  rintro e w6 ⟨rfl, hb6⟩
  have P6 := P5.below hb6
  have B6 := B5.trans (hb6.mono B5.size)
  clear RD hb6
  unfold pcv
  obtain ⟨_, c0, c1, c2, c3, c4, c5, c6, c7, c8, c9, c10, f0, f1, f2, f3, f4, f5, f6, f7, f8, f9, f10⟩ := id P6
  go_wp2_with fail
  obtain ⟨_, x0, x1, x2, x3, x4, x5, x6, x7, x8, x9, x10, _, _, _, _, _, _, _, _, _, _, _⟩ := P6.put (.int .i64 sz) (.int .i64 kd) (.string ⟨tx.toArray⟩) (.int .i64 vt) (.int .i64 vn) (.string vs) (.int .i64 0) (.int .i64 0) (.int .i64 0) (.int .i64 wy) (.int .i64 ah)
  unfold R11.set at x0 x1 x2 x3 x4 x5 x6 x7 x8 x9 x10
  refine bodyPost_ret (v := pcv ⟨sz, kd, tx, ⟨vt, vn, vs⟩, wy, ah⟩) (by simp [results, Tryz.results59, go_sem, pcv, x0, x1, x2, x3, x4, x5, x6, x7, x8, x9, x10]) rfl ⟨rfl, ?_⟩
  exact R11.set_below B6 (Nat.le_refl _) _ _ _ _ _ _ _ _ _ _ _
set_option maxHeartbeats 1000000 in
set_option maxRecDepth 1000000 in
theorem rpText (l : List UInt8) (x : UInt8) (hx : l[0]? = some x) (w : World) (hs : l.length ≤ 100000) (hW : LxW w) (h0 : ¬ 0 ≤ Lib.indexByte [32, 9, 10, 13] x) (p1 : ([45, 45] : List UInt8).isPrefixOf l = false) (p2 : ([47, 42] : List UInt8).isPrefixOf l = false) (p3 : isL x = false) (p4 : isD x = false) (q4 : x ≠ 34) (q5 : x = 39) :
    Calls Tryz.prog 59 #[.string ⟨l.toArray⟩] w fun e w' => e = .returned (pcv (rdT l)) ∧ Below w.heap.size w w' := by
  have hne : l ≠ [] := by rintro rfl; simp at hx
  have h1 : 1 ≤ l.length := by have := List.length_pos_iff.2 hne; omega
  have hnb : (l == ([] : List UInt8)) = false := by rw [beq_eq_false_iff_ne]; exact hne
  have hzl : (ByteArray.mk l.toArray).size = l.length := size_mk l
  have hg0 := get_mk hx
  have h1i : (0 : Int) < (l.length : Int) := by omega
  have IB : Hid (∀ w, Calls Tryz.prog 73 #[.string ⟨#[32, 9, 10, 13]⟩, .int .u8 (x.toNat : Int)] w fun e w' => e = .returned (.int .i64 (Lib.indexByte [32, 9, 10, 13] x)) ∧ Below w.heap.size w w') := fun w => (IndexByte_any [32, 9, 10, 13] x w).mono (fun _ _ h => ⟨h.1, h.2 ▸ Below.refl _ _⟩)
  have H1 : Hid (∀ w, Calls Tryz.prog 44 #[.string ⟨l.toArray⟩, .string ⟨#[45, 45]⟩] w fun e w' => e = .returned (.bool false) ∧ Below w.heap.size w w') := fun w => (HasPre l [45, 45] _ w p1).mono (fun _ _ h => ⟨h.1, h.2 ▸ Below.refl _ _⟩)
  have H2 : Hid (∀ w, Calls Tryz.prog 44 #[.string ⟨l.toArray⟩, .string ⟨#[47, 42]⟩] w fun e w' => e = .returned (.bool false) ∧ Below w.heap.size w w') := fun w => (HasPre l [47, 42] _ w p2).mono (fun _ _ h => ⟨h.1, h.2 ▸ Below.refl _ _⟩)
  have IL : Hid (∀ w, Calls Tryz.prog 45 #[.int .u8 (x.toNat : Int)] w fun e w' => e = .returned (.bool false) ∧ Below w.heap.size w w') := fun w => (isLetter_any x w).mono (fun _ _ h => ⟨p3 ▸ h.1, h.2 ▸ Below.refl _ _⟩)
  have ID : Hid (∀ w, Calls Tryz.prog 46 #[.int .u8 (x.toNat : Int)] w fun e w' => e = .returned (.bool false) ∧ Below w.heap.size w w') := fun w => (isDigit_any x w).mono (fun _ _ h => ⟨p4 ▸ h.1, h.2 ▸ Below.refl _ _⟩)
  have e4 : ((x.toNat : Int) == 34) = false := xb q4
  have e5 : ((x.toNat : Int) == 39) = true := by rw [q5]; rfl
  have RD : Hid (∀ w, LxW w → Calls Tryz.prog 84 #[.string ⟨l.toArray⟩] w fun e w' => e = .returned (pcv (rdT l)) ∧ Below w.heap.size w w') := fun w h => readText_any l w hs hne h.m
  have HW : Hid (LxW w) := hW
  have P0 : Hid (R11 (w.alloc (.cells #[.int .i64 0, .int .i64 0, .string ⟨#[]⟩, .int .i64 0, .int .i64 0, .string ⟨#[]⟩, .int .i64 0, .int .i64 0, .int .i64 0, .int .i64 0, .int .i64 0] 82)) w.heap.size (.int .i64 0) (.int .i64 0) (.string ⟨#[]⟩) (.int .i64 0) (.int .i64 0) (.string ⟨#[]⟩) (.int .i64 0) (.int .i64 0) (.int .i64 0) (.int .i64 0) (.int .i64 0)) := R11.new w 82 (.int .i64 0) (.int .i64 0) (.string ⟨#[]⟩) (.int .i64 0) (.int .i64 0) (.string ⟨#[]⟩) (.int .i64 0) (.int .i64 0) (.int .i64 0) (.int .i64 0) (.int .i64 0)
  have B0 : Hid (Below w.heap.size w (w.alloc (.cells #[.int .i64 0, .int .i64 0, .string ⟨#[]⟩, .int .i64 0, .int .i64 0, .string ⟨#[]⟩, .int .i64 0, .int .i64 0, .int .i64 0, .int .i64 0, .int .i64 0] 82))) := (Below.refl _ w).alloc (Nat.le_refl _) _
  generalize rdT l = p at *
  obtain ⟨sz, kd, tx, ⟨vt, vn, vs⟩, wy, ah⟩ := p
  generalize Lib.indexByte [32, 9, 10, 13] x = i at *
  clear hne h1 hx p1 p2 p3 p4 q4 q5 hs hW
  go_enter Tryz.func59, Tryz.ntmps59
  go_wp2_with fail
  refine (IB.out _).mono ?_
  rintro e w1 ⟨rfl, hb1⟩
  have P1 := P0.out.below hb1
  have B1 := B0.out.trans (hb1.mono B0.out.size)
  clear IB hb1
  go_wp2_with fail
  refine (H1.out _).mono ?_
  rintro e w2 ⟨rfl, hb2⟩
  have P2 := P1.below hb2
  have B2 := B1.trans (hb2.mono B1.size)
  clear H1 hb2
  go_wp2_with fail
  refine (H2.out _).mono ?_
  rintro e w3 ⟨rfl, hb3⟩
  have P3 := P2.below hb3
  have B3 := B2.trans (hb3.mono B2.size)
  clear H2 hb3
  go_wp2_with fail
  refine (IL.out _).mono ?_
  rintro e w4 ⟨rfl, hb4⟩
  have P4 := P3.below hb4
  have B4 := B3.trans (hb4.mono B3.size)
  clear IL hb4
  go_wp2_with fail
  refine (ID.out _).mono ?_
  rintro e w5 ⟨rfl, hb5⟩
  have P5 := P4.below hb5
  have B5 := B4.trans (hb5.mono B4.size)
  clear ID hb5
  go_wp2_with fail
  refine (RD.out _ (HW.out.below B5)).mono ?_
  rintro e w6 ⟨rfl, hb6⟩
  have P6 := P5.below hb6
  have B6 := B5.trans (hb6.mono B5.size)
  clear RD hb6
  unfold pcv
  obtain ⟨_, c0, c1, c2, c3, c4, c5, c6, c7, c8, c9, c10, f0, f1, f2, f3, f4, f5, f6, f7, f8, f9, f10⟩ := id P6
  go_wp2_with fail
  obtain ⟨_, x0, x1, x2, x3, x4, x5, x6, x7, x8, x9, x10, _, _, _, _, _, _, _, _, _, _, _⟩ := P6.put (.int .i64 sz) (.int .i64 kd) (.string ⟨tx.toArray⟩) (.int .i64 vt) (.int .i64 vn) (.string vs) (.int .i64 0) (.int .i64 0) (.int .i64 0) (.int .i64 wy) (.int .i64 ah)
  unfold R11.set at x0 x1 x2 x3 x4 x5 x6 x7 x8 x9 x10
  refine bodyPost_ret (v := pcv ⟨sz, kd, tx, ⟨vt, vn, vs⟩, wy, ah⟩) (by simp [results, Tryz.results59, go_sem, pcv, x0, x1, x2, x3, x4, x5, x6, x7, x8, x9, x10]) rfl ⟨rfl, ?_⟩
  exact R11.set_below B6 (Nat.le_refl _) _ _ _ _ _ _ _ _ _ _ _
set_option maxHeartbeats 1000000 in
set_option maxRecDepth 1000000 in
theorem rpParam (l : List UInt8) (x : UInt8) (hx : l[0]? = some x) (w : World) (hs : l.length ≤ 100000) (h0 : ¬ 0 ≤ Lib.indexByte [32, 9, 10, 13] x) (p1 : ([45, 45] : List UInt8).isPrefixOf l = false) (p2 : ([47, 42] : List UInt8).isPrefixOf l = false) (p3 : isL x = false) (p4 : isD x = false) (q4 : x ≠ 34) (q5 : x ≠ 39) (q6 : x = 58) :
    Calls Tryz.prog 59 #[.string ⟨l.toArray⟩] w fun e w' => e = .returned (pcv (rdM l)) ∧ Below w.heap.size w w' := by
  have hne : l ≠ [] := by rintro rfl; simp at hx
  have h1 : 1 ≤ l.length := by have := List.length_pos_iff.2 hne; omega
  have hnb : (l == ([] : List UInt8)) = false := by rw [beq_eq_false_iff_ne]; exact hne
  have hzl : (ByteArray.mk l.toArray).size = l.length := size_mk l
  have hg0 := get_mk hx
  have h1i : (0 : Int) < (l.length : Int) := by omega
  have IB : Hid (∀ w, Calls Tryz.prog 73 #[.string ⟨#[32, 9, 10, 13]⟩, .int .u8 (x.toNat : Int)] w fun e w' => e = .returned (.int .i64 (Lib.indexByte [32, 9, 10, 13] x)) ∧ Below w.heap.size w w') := fun w => (IndexByte_any [32, 9, 10, 13] x w).mono (fun _ _ h => ⟨h.1, h.2 ▸ Below.refl _ _⟩)
  have H1 : Hid (∀ w, Calls Tryz.prog 44 #[.string ⟨l.toArray⟩, .string ⟨#[45, 45]⟩] w fun e w' => e = .returned (.bool false) ∧ Below w.heap.size w w') := fun w => (HasPre l [45, 45] _ w p1).mono (fun _ _ h => ⟨h.1, h.2 ▸ Below.refl _ _⟩)
  have H2 : Hid (∀ w, Calls Tryz.prog 44 #[.string ⟨l.toArray⟩, .string ⟨#[47, 42]⟩] w fun e w' => e = .returned (.bool false) ∧ Below w.heap.size w w') := fun w => (HasPre l [47, 42] _ w p2).mono (fun _ _ h => ⟨h.1, h.2 ▸ Below.refl _ _⟩)
  have IL : Hid (∀ w, Calls Tryz.prog 45 #[.int .u8 (x.toNat : Int)] w fun e w' => e = .returned (.bool false) ∧ Below w.heap.size w w') := fun w => (isLetter_any x w).mono (fun _ _ h => ⟨p3 ▸ h.1, h.2 ▸ Below.refl _ _⟩)
  have ID : Hid (∀ w, Calls Tryz.prog 46 #[.int .u8 (x.toNat : Int)] w fun e w' => e = .returned (.bool false) ∧ Below w.heap.size w w') := fun w => (isDigit_any x w).mono (fun _ _ h => ⟨p4 ▸ h.1, h.2 ▸ Below.refl _ _⟩)
  have e4 : ((x.toNat : Int) == 34) = false := xb q4
  have e5 : ((x.toNat : Int) == 39) = false := xb q5
  have e6 : ((x.toNat : Int) == 58) = true := by rw [q6]; rfl
  have RD : Hid (∀ w, Calls Tryz.prog 85 #[.string ⟨l.toArray⟩] w fun e w' => e = .returned (pcv (rdM l)) ∧ Below w.heap.size w w') := fun w => readParam_any l w hs h1
  have P0 : Hid (R11 (w.alloc (.cells #[.int .i64 0, .int .i64 0, .string ⟨#[]⟩, .int .i64 0, .int .i64 0, .string ⟨#[]⟩, .int .i64 0, .int .i64 0, .int .i64 0, .int .i64 0, .int .i64 0] 82)) w.heap.size (.int .i64 0) (.int .i64 0) (.string ⟨#[]⟩) (.int .i64 0) (.int .i64 0) (.string ⟨#[]⟩) (.int .i64 0) (.int .i64 0) (.int .i64 0) (.int .i64 0) (.int .i64 0)) := R11.new w 82 (.int .i64 0) (.int .i64 0) (.string ⟨#[]⟩) (.int .i64 0) (.int .i64 0) (.string ⟨#[]⟩) (.int .i64 0) (.int .i64 0) (.int .i64 0) (.int .i64 0) (.int .i64 0)
  have B0 : Hid (Below w.heap.size w (w.alloc (.cells #[.int .i64 0, .int .i64 0, .string ⟨#[]⟩, .int .i64 0, .int .i64 0, .string ⟨#[]⟩, .int .i64 0, .int .i64 0, .int .i64 0, .int .i64 0, .int .i64 0] 82))) := (Below.refl _ w).alloc (Nat.le_refl _) _
  generalize rdM l = p at *
  obtain ⟨sz, kd, tx, ⟨vt, vn, vs⟩, wy, ah⟩ := p
  generalize Lib.indexByte [32, 9, 10, 13] x = i at *
  clear hne h1 hx p1 p2 p3 p4 q4 q5 q6 hs
  go_enter Tryz.func59, Tryz.ntmps59
  go_wp2_with fail
  refine (IB.out _).mono ?_
  rintro e w1 ⟨rfl, hb1⟩
  have P1 := P0.out.below hb1
  have B1 := B0.out.trans (hb1.mono B0.out.size)
  clear IB hb1
  go_wp2_with fail
  refine (H1.out _).mono ?_
  rintro e w2 ⟨rfl, hb2⟩
  have P2 := P1.below hb2
  have B2 := B1.trans (hb2.mono B1.size)
  clear H1 hb2
  go_wp2_with fail
  refine (H2.out _).mono ?_
  rintro e w3 ⟨rfl, hb3⟩
  have P3 := P2.below hb3
  have B3 := B2.trans (hb3.mono B2.size)
  clear H2 hb3
  go_wp2_with fail
  refine (IL.out _).mono ?_
  rintro e w4 ⟨rfl, hb4⟩
  have P4 := P3.below hb4
  have B4 := B3.trans (hb4.mono B3.size)
  clear IL hb4
  go_wp2_with fail
  refine (ID.out _).mono ?_
  rintro e w5 ⟨rfl, hb5⟩
  have P5 := P4.below hb5
  have B5 := B4.trans (hb5.mono B4.size)
  clear ID hb5
  go_wp2_with fail
  refine (RD.out _).mono ?_
  rintro e w6 ⟨rfl, hb6⟩
  have P6 := P5.below hb6
  have B6 := B5.trans (hb6.mono B5.size)
  clear RD hb6
  unfold pcv
  obtain ⟨_, c0, c1, c2, c3, c4, c5, c6, c7, c8, c9, c10, f0, f1, f2, f3, f4, f5, f6, f7, f8, f9, f10⟩ := id P6
  go_wp2_with fail
  obtain ⟨_, x0, x1, x2, x3, x4, x5, x6, x7, x8, x9, x10, _, _, _, _, _, _, _, _, _, _, _⟩ := P6.put (.int .i64 sz) (.int .i64 kd) (.string ⟨tx.toArray⟩) (.int .i64 vt) (.int .i64 vn) (.string vs) (.int .i64 0) (.int .i64 0) (.int .i64 0) (.int .i64 wy) (.int .i64 ah)
  unfold R11.set at x0 x1 x2 x3 x4 x5 x6 x7 x8 x9 x10
  refine bodyPost_ret (v := pcv ⟨sz, kd, tx, ⟨vt, vn, vs⟩, wy, ah⟩) (by simp [results, Tryz.results59, go_sem, pcv, x0, x1, x2, x3, x4, x5, x6, x7, x8, x9, x10]) rfl ⟨rfl, ?_⟩
  exact R11.set_below B6 (Nat.le_refl _) _ _ _ _ _ _ _ _ _ _ _
set_option maxHeartbeats 1000000 in
set_option maxRecDepth 1000000 in
theorem rpSign (l : List UInt8) (x : UInt8) (hx : l[0]? = some x) (w : World) (hW : LxW w) (h0 : ¬ 0 ≤ Lib.indexByte [32, 9, 10, 13] x) (p1 : ([45, 45] : List UInt8).isPrefixOf l = false) (p2 : ([47, 42] : List UInt8).isPrefixOf l = false) (p3 : isL x = false) (p4 : isD x = false) (q4 : x ≠ 34) (q5 : x ≠ 39) (q6 : x ≠ 58) :
    Calls Tryz.prog 59 #[.string ⟨l.toArray⟩] w fun e w' => e = .returned (pcv (rdS l)) ∧ Below w.heap.size w w' := by
  have hne : l ≠ [] := by rintro rfl; simp at hx
  have h1 : 1 ≤ l.length := by have := List.length_pos_iff.2 hne; omega
  have hnb : (l == ([] : List UInt8)) = false := by rw [beq_eq_false_iff_ne]; exact hne
  have hzl : (ByteArray.mk l.toArray).size = l.length := size_mk l
  have hg0 := get_mk hx
  have h1i : (0 : Int) < (l.length : Int) := by omega
  have IB : Hid (∀ w, Calls Tryz.prog 73 #[.string ⟨#[32, 9, 10, 13]⟩, .int .u8 (x.toNat : Int)] w fun e w' => e = .returned (.int .i64 (Lib.indexByte [32, 9, 10, 13] x)) ∧ Below w.heap.size w w') := fun w => (IndexByte_any [32, 9, 10, 13] x w).mono (fun _ _ h => ⟨h.1, h.2 ▸ Below.refl _ _⟩)
  have H1 : Hid (∀ w, Calls Tryz.prog 44 #[.string ⟨l.toArray⟩, .string ⟨#[45, 45]⟩] w fun e w' => e = .returned (.bool false) ∧ Below w.heap.size w w') := fun w => (HasPre l [45, 45] _ w p1).mono (fun _ _ h => ⟨h.1, h.2 ▸ Below.refl _ _⟩)
  have H2 : Hid (∀ w, Calls Tryz.prog 44 #[.string ⟨l.toArray⟩, .string ⟨#[47, 42]⟩] w fun e w' => e = .returned (.bool false) ∧ Below w.heap.size w w') := fun w => (HasPre l [47, 42] _ w p2).mono (fun _ _ h => ⟨h.1, h.2 ▸ Below.refl _ _⟩)
  have IL : Hid (∀ w, Calls Tryz.prog 45 #[.int .u8 (x.toNat : Int)] w fun e w' => e = .returned (.bool false) ∧ Below w.heap.size w w') := fun w => (isLetter_any x w).mono (fun _ _ h => ⟨p3 ▸ h.1, h.2 ▸ Below.refl _ _⟩)
  have ID : Hid (∀ w, Calls Tryz.prog 46 #[.int .u8 (x.toNat : Int)] w fun e w' => e = .returned (.bool false) ∧ Below w.heap.size w w') := fun w => (isDigit_any x w).mono (fun _ _ h => ⟨p4 ▸ h.1, h.2 ▸ Below.refl _ _⟩)
  have e4 : ((x.toNat : Int) == 34) = false := xb q4
  have e5 : ((x.toNat : Int) == 39) = false := xb q5
  have e6 : ((x.toNat : Int) == 58) = false := xb q6
  have RD : Hid (∀ w, LxW w → Calls Tryz.prog 86 #[.string ⟨l.toArray⟩] w fun e w' => e = .returned (pcv (rdS l)) ∧ Below w.heap.size w w') := fun w h => readSign_any l w h.s
  have HW : Hid (LxW w) := hW
  have P0 : Hid (R11 (w.alloc (.cells #[.int .i64 0, .int .i64 0, .string ⟨#[]⟩, .int .i64 0, .int .i64 0, .string ⟨#[]⟩, .int .i64 0, .int .i64 0, .int .i64 0, .int .i64 0, .int .i64 0] 82)) w.heap.size (.int .i64 0) (.int .i64 0) (.string ⟨#[]⟩) (.int .i64 0) (.int .i64 0) (.string ⟨#[]⟩) (.int .i64 0) (.int .i64 0) (.int .i64 0) (.int .i64 0) (.int .i64 0)) := R11.new w 82 (.int .i64 0) (.int .i64 0) (.string ⟨#[]⟩) (.int .i64 0) (.int .i64 0) (.string ⟨#[]⟩) (.int .i64 0) (.int .i64 0) (.int .i64 0) (.int .i64 0) (.int .i64 0)
  have B0 : Hid (Below w.heap.size w (w.alloc (.cells #[.int .i64 0, .int .i64 0, .string ⟨#[]⟩, .int .i64 0, .int .i64 0, .string ⟨#[]⟩, .int .i64 0, .int .i64 0, .int .i64 0, .int .i64 0, .int .i64 0] 82))) := (Below.refl _ w).alloc (Nat.le_refl _) _
  generalize rdS l = p at *
  obtain ⟨sz, kd, tx, ⟨vt, vn, vs⟩, wy, ah⟩ := p
  generalize Lib.indexByte [32, 9, 10, 13] x = i at *
  clear hne h1 hx p1 p2 p3 p4 q4 q5 q6 hW
  go_enter Tryz.func59, Tryz.ntmps59
  go_wp2_with fail
  refine (IB.out _).mono ?_
  rintro e w1 ⟨rfl, hb1⟩
  have P1 := P0.out.below hb1
  have B1 := B0.out.trans (hb1.mono B0.out.size)
  clear IB hb1
  go_wp2_with fail
  refine (H1.out _).mono ?_
  rintro e w2 ⟨rfl, hb2⟩
  have P2 := P1.below hb2
  have B2 := B1.trans (hb2.mono B1.size)
  clear H1 hb2
  go_wp2_with fail
  refine (H2.out _).mono ?_
  rintro e w3 ⟨rfl, hb3⟩
  have P3 := P2.below hb3
  have B3 := B2.trans (hb3.mono B2.size)
  clear H2 hb3
  go_wp2_with fail
  refine (IL.out _).mono ?_
  rintro e w4 ⟨rfl, hb4⟩
  have P4 := P3.below hb4
  have B4 := B3.trans (hb4.mono B3.size)
  clear IL hb4
  go_wp2_with fail
  refine (ID.out _).mono ?_
  rintro e w5 ⟨rfl, hb5⟩
  have P5 := P4.below hb5
  have B5 := B4.trans (hb5.mono B4.size)
  clear ID hb5
  go_wp2_with fail
  refine (RD.out _ (HW.out.below B5)).mono ?_
  rintro e w6 ⟨rfl, hb6⟩
  have P6 := P5.below hb6
  have B6 := B5.trans (hb6.mono B5.size)
  clear RD hb6
  unfold pcv
  obtain ⟨_, c0, c1, c2, c3, c4, c5, c6, c7, c8, c9, c10, f0, f1, f2, f3, f4, f5, f6, f7, f8, f9, f10⟩ := id P6
  go_wp2_with fail
  obtain ⟨_, x0, x1, x2, x3, x4, x5, x6, x7, x8, x9, x10, _, _, _, _, _, _, _, _, _, _, _⟩ := P6.put (.int .i64 sz) (.int .i64 kd) (.string ⟨tx.toArray⟩) (.int .i64 vt) (.int .i64 vn) (.string vs) (.int .i64 0) (.int .i64 0) (.int .i64 0) (.int .i64 wy) (.int .i64 ah)
  unfold R11.set at x0 x1 x2 x3 x4 x5 x6 x7 x8 x9 x10
  refine bodyPost_ret (v := pcv ⟨sz, kd, tx, ⟨vt, vn, vs⟩, wy, ah⟩) (by simp [results, Tryz.results59, go_sem, pcv, x0, x1, x2, x3, x4, x5, x6, x7, x8, x9, x10]) rfl ⟨rfl, ?_⟩
  exact R11.set_below B6 (Nat.le_refl _) _ _ _ _ _ _ _ _ _ _ _
theorem readPiece_any (l : List UInt8) (w : World) (hs : l.length ≤ 100000) (hW : LxW w) :
    Calls Tryz.prog 59 #[.string ⟨l.toArray⟩] w fun e w' => e = .returned (pcv (rdP l)) ∧ Below w.heap.size w w' := by
  rcases l with _ | ⟨x, r⟩
  · exact readPiece_nil w
  have hx : (x :: r)[0]? = some x := rfl
  rw [rdP_cons]
  by_cases h0 : 0 ≤ Lib.indexByte [32, 9, 10, 13] x
  · rw [if_pos h0]; exact rpBlank (x :: r) x hx w h0
  rw [if_neg h0]
  by_cases p1 : ([45, 45] : List UInt8).isPrefixOf (x :: r) = true
  · rw [if_pos p1]; exact rpLine (x :: r) x hx w hs hW h0 p1
  rw [if_neg p1]
  rw [Bool.not_eq_true] at p1
  by_cases p2 : ([47, 42] : List UInt8).isPrefixOf (x :: r) = true
  · rw [if_pos p2]; exact rpRemark (x :: r) x hx w hs hW h0 p1 p2
  rw [if_neg p2]
  rw [Bool.not_eq_true] at p2
  by_cases p3 : isL x = true
  · rw [if_pos p3]; exact rpWord (x :: r) x hx w hs h0 p1 p2 p3
  rw [if_neg p3]
  rw [Bool.not_eq_true] at p3
  by_cases p4 : isD x = true
  · rw [if_pos p4]; exact rpNumber (x :: r) x hx w hs hW h0 p1 p2 p3 p4
  rw [if_neg p4]
  rw [Bool.not_eq_true] at p4
  by_cases q4 : x = 34
  · rw [if_pos q4]; exact rpQuoted (x :: r) x hx w hs hW h0 p1 p2 p3 p4 q4
  rw [if_neg q4]
  by_cases q5 : x = 39
  · rw [if_pos q5]; exact rpText (x :: r) x hx w hs hW h0 p1 p2 p3 p4 q4 q5
  rw [if_neg q5]
  by_cases q6 : x = 58
  · rw [if_pos q6]; exact rpParam (x :: r) x hx w hs h0 p1 p2 p3 p4 q4 q5 q6
  rw [if_neg q6]
  exact rpSign (x :: r) x hx w hW h0 p1 p2 p3 p4 q4 q5 q6
end Go.Proofs.YtfcolecglobcdaaGreatDoor
