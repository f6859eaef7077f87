/-
  Same, of expr and of the document: they answer alike, and each expression is the same as itself.
-/
import Derived.Test.YtokppkinhlcafaaGreatDoorOrdM
import Derived.Test.YtokppkinhlcafaaGreatDoorExD
namespace Go.Proofs.YtokppkinhlcafaaGreatDoor
open Go.RowKit Go.Shelf Go.Joins

set_option maxHeartbeats 1000000 in
theorem Same_any (a b : Va) (w : World) (ha : fit a.n) (hb : fit b.n) : Calls Tryz.prog 19 #[.agg #[.int .i64 a.ty, .int .i64 a.n, .string a.s], .agg #[.int .i64 b.ty, .int .i64 b.n, .string b.s]] w fun e w' => e = .returned (.bool (ordV a b == 0)) ∧ Below w.heap.size w w' := by
  have OO : Hid (∀ w, Calls Tryz.prog 25 #[.agg #[.int .i64 a.ty, .int .i64 a.n, .string a.s], .agg #[.int .i64 b.ty, .int .i64 b.n, .string b.s]] w fun e w' => e = .returned (.int .i64 (ordV a b)) ∧ Below w.heap.size w w') := fun w => Order_any a b w ha hb
  generalize ordV a b = c at *
  go_enter Tryz.func19, Tryz.ntmps19
  go_wp2_with fail
  refine (OO.out _).mono ?_
  rintro e w1 ⟨rfl, hb1⟩
  go_wp2_with fail
  go_ret
  exact ⟨rfl, by first | exact hb1 | exact (((Below.refl _ w).alloc (Nat.le_refl _) _).alloc (by simp) _).trans (hb1.mono (by simp; omega))⟩

set_option maxHeartbeats 1000000 in
theorem refSame_any (a b : Va) (w : World) (ha : fit a.n) (hb : fit b.n) : Calls Tryz.prog 13 #[.agg #[.int .i64 a.ty, .int .i64 a.n, .string a.s], .agg #[.int .i64 b.ty, .int .i64 b.n, .string b.s]] w fun e w' => e = .returned (.bool (ordV a b == 0)) ∧ Below w.heap.size w w' := by
  have OO : Hid (∀ w, Calls Tryz.prog 20 #[.agg #[.int .i64 a.ty, .int .i64 a.n, .string a.s], .agg #[.int .i64 b.ty, .int .i64 b.n, .string b.s]] w fun e w' => e = .returned (.int .i64 (ordV a b)) ∧ Below w.heap.size w w') := fun w => refOrder_any a b w ha hb
  generalize ordV a b = c at *
  go_enter Tryz.func13, Tryz.ntmps13
  go_wp2_with fail
  refine (OO.out _).mono ?_
  rintro e w1 ⟨rfl, hb1⟩
  go_wp2_with fail
  go_ret
  exact ⟨rfl, by first | exact hb1 | exact (((Below.refl _ w).alloc (Nat.le_refl _) _).alloc (by simp) _).trans (hb1.mono (by simp; omega))⟩

/-- whether two values are one -/
def svE (a b : Ex) : Bool := ordV ⟨a.vt, a.vn, a.vs⟩ ⟨b.vt, b.vn, b.vs⟩ == 0
theorem svE_same (a : Ex) : svE a a = true := by
  unfold svE
  rw [ordV_same]
  rfl
theorem exL_same {f : Ex → Ex → Bool} (h : ∀ x, f x x = true) : ∀ l : List Ex, exL f l l = true
  | [] => rfl
  | x :: l => by rw [exL, h x, exL_same h l]; rfl
theorem exS_same : ∀ (n : Nat) (a : Ex), exS svE n a a = true
  | 0, _ => rfl
  | n + 1, a => by
    rw [exS, if_neg (by simp)]
    split
    · exact svE_same a
    split
    · simp
    split
    · simp
    split
    · rename_i h
      exact absurd rfl h.2
    · exact exL_same (exS_same n) a.parts
theorem refSame_all (S : Nat → Prop) (n : Nat) (a b : Ex) (P Q : Option Addr) (C D : Nat) (w : World) (ha : exIn w S n a (exC a P C)) (hb : exIn w S n b (exC b Q D)) : Calls Tryz.prog 6 #[exV a P C, exV b Q D] w fun e w' => e = .returned (.bool (exS svE n a b)) ∧ Below w.heap.size w w' :=
  refSame_ex svE S (fun a b ga gb w => refSame_any ⟨a.vt, a.vn, a.vs⟩ ⟨b.vt, b.vn, b.vs⟩ w ga.2.2.1 gb.2.2.1) n a b P Q C D w ha hb
set_option maxHeartbeats 4000000 in
set_option maxRecDepth 1000000 in
theorem Same_all (S : Nat → Prop) (n : Nat) (a b : Ex) (P Q : Option Addr) (C D : Nat) (w : World) (ha : exIn w S n a (exC a P C)) (hb : exIn w S n b (exC b Q D)) : Calls Tryz.prog 4 #[exV a P C, exV b Q D] w fun e w' => e = .returned (.bool (exS svE n a b)) ∧ Below w.heap.size w w' := by
  obtain ⟨W, hW⟩ : ∃ W, W = (w.alloc (.cells #[.string a.op, .slice P a.parts.length C, .int .i64 a.vt, .int .i64 a.vn, .string a.vs, .string a.nm, .string a.of, .int .i64 a.ty, .int .i64 a.at_] 26)).alloc (.cells #[.string b.op, .slice Q b.parts.length D, .int .i64 b.vt, .int .i64 b.vn, .string b.vs, .string b.nm, .string b.of, .int .i64 b.ty, .int .i64 b.at_] 26) := ⟨_, rfl⟩
  have BZ : Hid (Below w.heap.size w W) := by
    rw [hW]
    exact ((Below.refl _ w).alloc (Nat.le_refl _) (.cells #[.string a.op, .slice P a.parts.length C, .int .i64 a.vt, .int .i64 a.vn, .string a.vs, .string a.nm, .string a.of, .int .i64 a.ty, .int .i64 a.at_] 26)).alloc (by simp) (.cells #[.string b.op, .slice Q b.parts.length D, .int .i64 b.vt, .int .i64 b.vn, .string b.vs, .string b.nm, .string b.of, .int .i64 b.ty, .int .i64 b.at_] 26)
  have na : nine W w.heap.size 0 a P C := by rw [hW]; exact ⟨by simp, by simp, by simp, by simp, by simp, by simp, by simp, by simp, by simp⟩
  have nb : nine W (w.heap.size + 1) 0 b Q D := by rw [hW]; exact ⟨by simp, by simp, by simp, by simp, by simp, by simp, by simp, by simp, by simp⟩
  have K := same_ex svE S (fun a b ga gb w => Same_any ⟨a.vt, a.vn, a.vs⟩ ⟨b.vt, b.vn, b.vs⟩ w ga.2.2.1 gb.2.2.1) n a b _ _ _ _ P Q C D W na nb (ha.below BZ.out) (hb.below BZ.out)
  rw [hW] at K BZ
  have KK := mkHid K
  clear K na nb ha hb hW
  generalize exS svE n a b = E at *
  go_enter Tryz.func4, Tryz.ntmps4
  go_wp2_with fail
  refine KK.out.mono ?_
  rintro e w1 ⟨rfl, hb1⟩
  go_wp2_with fail
  go_ret
  exact ⟨rfl, BZ.out.trans (hb1.mono BZ.out.size)⟩
end Go.Proofs.YtokppkinhlcafaaGreatDoor
