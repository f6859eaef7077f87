/-
  The walk of lockstepref07.Same.
-/
import Derived.Test.YtokppkinhlcafaaGreatDoorExA
namespace Go.Proofs.YtokppkinhlcafaaGreatDoor
open Go.RowKit Go.Joins
set_option maxRecDepth 100000

theorem mkHid {P : Prop} (h : P) : Hid P := h
def bValue : ByteArray := { data := #[118, 97, 108, 117, 101] }
def bColumn : ByteArray := { data := #[99, 111, 108, 117, 109, 110] }
def bParam : ByteArray := { data := #[112, 97, 114, 97, 109] }
def bCast : ByteArray := { data := #[99, 97, 115, 116] }
theorem toList_inj {a b : ByteArray} (h : a.toList = b.toList) : a = b := by
  have h2 : a.data = b.data := by
    rw [← Array.toList_inj, ← ByteArray.toList_eq, ← ByteArray.toList_eq, h]
  cases a; cases b; cases h2; rfl
theorem op_is {a : ByteArray} {l : List UInt8} (h : a.toList = l) : a = ⟨l.toArray⟩ := toList_inj (by rw [h, ByteArray.toList_eq])
/-- two lists, one by one -/
def exL (f : Ex → Ex → Bool) : List Ex → List Ex → Bool
  | x :: a, y :: b => f x y && exL f a b
  | _, _ => true
/-- whether two expressions are one: sv tells it of values -/
def exS (sv : Ex → Ex → Bool) : Nat → Ex → Ex → Bool
  | 0, _, _ => true
  | n + 1, a, b =>
    if ¬ (a.op = b.op ∧ a.parts.length = b.parts.length) then false
    else if a.op = bValue then sv a b
    else if a.op = bColumn then a.nm.toList == b.nm.toList && a.of.toList == b.of.toList
    else if a.op = bParam then a.nm.toList == b.nm.toList
    else if a.op = bCast ∧ a.ty ≠ b.ty then false
    else exL (exS sv n) a.parts b.parts

set_option maxHeartbeats 4000000 in
set_option maxRecDepth 1000000 in
theorem refSame_no (a b : Ex) (P Q : Option Addr) (C D : Nat) (w : World) (h : ¬ (a.op = b.op ∧ a.parts.length = b.parts.length)) :
    Calls Tryz.prog 6 #[exV a P C, exV b Q D] w fun e w' => e = .returned (.bool false) ∧ Below w.heap.size w w' := by
  have BZ : Hid _ := ((Below.refl _ w).alloc (Nat.le_refl _) (.cells #[.string a.op, .slice P a.parts.length C, .int .i64 a.vt, .int .i64 a.vn, .string a.vs, .string a.nm, .string a.of, .int .i64 a.ty, .int .i64 a.at_] 26)).alloc (by simp) (.cells #[.string b.op, .slice Q b.parts.length D, .int .i64 b.vt, .int .i64 b.vn, .string b.vs, .string b.nm, .string b.of, .int .i64 b.ty, .int .i64 b.at_] 26)
  by_cases h1 : a.op = b.op
  · have h2 : ¬ a.parts.length = b.parts.length := fun e => h ⟨h1, e⟩
    have h3 : ((a.parts.length : Int) != (b.parts.length : Int)) = true := by rw [bne_iff_ne]; omega
    have h4 : a.op.toList = b.op.toList := congrArg _ h1
    clear h h2 h1
    go_enter Tryz.func6, Tryz.ntmps6
    go_wp2_with fail
    go_ret
    exact ⟨rfl, BZ.out⟩
  · have h3 : ¬ a.op.toList = b.op.toList := fun e => h1 (toList_inj e)
    clear h h1
    go_enter Tryz.func6, Tryz.ntmps6
    go_wp2_with fail
    go_ret
    exact ⟨rfl, BZ.out⟩
set_option maxHeartbeats 4000000 in
set_option maxRecDepth 1000000 in
theorem refSame_value (a b : Ex) (P Q : Option Addr) (C D : Nat) (w : World) (h : a.op = b.op ∧ a.parts.length = b.parts.length) (hValue : a.op = bValue) (sv : Bool) (hS : ∀ w, Calls Tryz.prog 13 #[.agg #[.int .i64 a.vt, .int .i64 a.vn, .string a.vs], .agg #[.int .i64 b.vt, .int .i64 b.vn, .string b.vs]] w fun e w' => e = .returned (.bool sv) ∧ Below w.heap.size w w') :
    Calls Tryz.prog 6 #[exV a P C, exV b Q D] w fun e w' => e = .returned (.bool sv) ∧ Below w.heap.size w w' := by
  have BZ : Hid _ := ((Below.refl _ w).alloc (Nat.le_refl _) (.cells #[.string a.op, .slice P a.parts.length C, .int .i64 a.vt, .int .i64 a.vn, .string a.vs, .string a.nm, .string a.of, .int .i64 a.ty, .int .i64 a.at_] 26)).alloc (by simp) (.cells #[.string b.op, .slice Q b.parts.length D, .int .i64 b.vt, .int .i64 b.vn, .string b.vs, .string b.nm, .string b.of, .int .i64 b.ty, .int .i64 b.at_] 26)
  have h4 : a.op.toList = b.op.toList := congrArg _ h.1
  have h3 : ((a.parts.length : Int) != (b.parts.length : Int)) = false := by rw [h.2]; simp
  have hy : b.op.toList = [118, 97, 108, 117, 101] := by rw [← h4, hValue, ByteArray.toList_eq]; rfl
  have HS := mkHid hS
  clear h hValue hS
  go_enter Tryz.func6, Tryz.ntmps6
  go_wp2_with (go_at_call 13; refine (HS.out _).mono ?_; rintro e w1 ⟨rfl, hb2⟩)
  go_ret
  exact ⟨rfl, BZ.out.trans (hb2.mono BZ.out.size)⟩
set_option maxHeartbeats 4000000 in
set_option maxRecDepth 1000000 in
theorem refSame_column (a b : Ex) (P Q : Option Addr) (C D : Nat) (w : World) (h : a.op = b.op ∧ a.parts.length = b.parts.length) (hValue : ¬ a.op = bValue) (hColumn : a.op = bColumn) :
    Calls Tryz.prog 6 #[exV a P C, exV b Q D] w fun e w' => e = .returned (.bool (a.nm.toList == b.nm.toList && a.of.toList == b.of.toList)) ∧ Below w.heap.size w w' := by
  have BZ : Hid _ := ((Below.refl _ w).alloc (Nat.le_refl _) (.cells #[.string a.op, .slice P a.parts.length C, .int .i64 a.vt, .int .i64 a.vn, .string a.vs, .string a.nm, .string a.of, .int .i64 a.ty, .int .i64 a.at_] 26)).alloc (by simp) (.cells #[.string b.op, .slice Q b.parts.length D, .int .i64 b.vt, .int .i64 b.vn, .string b.vs, .string b.nm, .string b.of, .int .i64 b.ty, .int .i64 b.at_] 26)
  have h4 : a.op.toList = b.op.toList := congrArg _ h.1
  have h3 : ((a.parts.length : Int) != (b.parts.length : Int)) = false := by rw [h.2]; simp
  have hn0 : (b.op.toList == [118, 97, 108, 117, 101]) = false := by rw [beq_eq_false_iff_ne]; exact fun e => hValue (op_is (h4.trans e))
  have hy : b.op.toList = [99, 111, 108, 117, 109, 110] := by rw [← h4, hColumn, ByteArray.toList_eq]; rfl
  clear h hColumn
  by_cases g1 : a.nm.toList = b.nm.toList
  · by_cases g2 : a.of.toList = b.of.toList
    · go_enter Tryz.func6, Tryz.ntmps6
      go_wp2_with fail
      go_ret
      exact ⟨by simp [g1, g2], BZ.out⟩
    · go_enter Tryz.func6, Tryz.ntmps6
      go_wp2_with fail
      go_ret
      exact ⟨by simp [g1], BZ.out⟩
  · go_enter Tryz.func6, Tryz.ntmps6
    go_wp2_with fail
    go_ret
    exact ⟨by simp [g1], BZ.out⟩
set_option maxHeartbeats 4000000 in
set_option maxRecDepth 1000000 in
theorem refSame_param (a b : Ex) (P Q : Option Addr) (C D : Nat) (w : World) (h : a.op = b.op ∧ a.parts.length = b.parts.length) (hValue : ¬ a.op = bValue) (hColumn : ¬ a.op = bColumn) (hParam : a.op = bParam) :
    Calls Tryz.prog 6 #[exV a P C, exV b Q D] w fun e w' => e = .returned (.bool (a.nm.toList == b.nm.toList)) ∧ Below w.heap.size w w' := by
  have BZ : Hid _ := ((Below.refl _ w).alloc (Nat.le_refl _) (.cells #[.string a.op, .slice P a.parts.length C, .int .i64 a.vt, .int .i64 a.vn, .string a.vs, .string a.nm, .string a.of, .int .i64 a.ty, .int .i64 a.at_] 26)).alloc (by simp) (.cells #[.string b.op, .slice Q b.parts.length D, .int .i64 b.vt, .int .i64 b.vn, .string b.vs, .string b.nm, .string b.of, .int .i64 b.ty, .int .i64 b.at_] 26)
  have h4 : a.op.toList = b.op.toList := congrArg _ h.1
  have h3 : ((a.parts.length : Int) != (b.parts.length : Int)) = false := by rw [h.2]; simp
  have hn0 : (b.op.toList == [118, 97, 108, 117, 101]) = false := by rw [beq_eq_false_iff_ne]; exact fun e => hValue (op_is (h4.trans e))
  have hn1 : (b.op.toList == [99, 111, 108, 117, 109, 110]) = false := by rw [beq_eq_false_iff_ne]; exact fun e => hColumn (op_is (h4.trans e))
  have hy : b.op.toList = [112, 97, 114, 97, 109] := by rw [← h4, hParam, ByteArray.toList_eq]; rfl
  clear h hParam
  go_enter Tryz.func6, Tryz.ntmps6
  go_wp2_with fail
  go_ret
  exact ⟨by simp, BZ.out⟩
set_option maxHeartbeats 4000000 in
set_option maxRecDepth 1000000 in
theorem refSame_cast (a b : Ex) (P Q : Option Addr) (C D : Nat) (w : World) (h : a.op = b.op ∧ a.parts.length = b.parts.length) (hValue : ¬ a.op = bValue) (hColumn : ¬ a.op = bColumn) (hParam : ¬ a.op = bParam) (hCast : a.op = bCast) (ht : a.ty ≠ b.ty) :
    Calls Tryz.prog 6 #[exV a P C, exV b Q D] w fun e w' => e = .returned (.bool false) ∧ Below w.heap.size w w' := by
  have BZ : Hid _ := ((Below.refl _ w).alloc (Nat.le_refl _) (.cells #[.string a.op, .slice P a.parts.length C, .int .i64 a.vt, .int .i64 a.vn, .string a.vs, .string a.nm, .string a.of, .int .i64 a.ty, .int .i64 a.at_] 26)).alloc (by simp) (.cells #[.string b.op, .slice Q b.parts.length D, .int .i64 b.vt, .int .i64 b.vn, .string b.vs, .string b.nm, .string b.of, .int .i64 b.ty, .int .i64 b.at_] 26)
  have h4 : a.op.toList = b.op.toList := congrArg _ h.1
  have h3 : ((a.parts.length : Int) != (b.parts.length : Int)) = false := by rw [h.2]; simp
  have hn0 : (b.op.toList == [118, 97, 108, 117, 101]) = false := by rw [beq_eq_false_iff_ne]; exact fun e => hValue (op_is (h4.trans e))
  have hn1 : (b.op.toList == [99, 111, 108, 117, 109, 110]) = false := by rw [beq_eq_false_iff_ne]; exact fun e => hColumn (op_is (h4.trans e))
  have hn2 : (b.op.toList == [112, 97, 114, 97, 109]) = false := by rw [beq_eq_false_iff_ne]; exact fun e => hParam (op_is (h4.trans e))
  have hy : b.op.toList = [99, 97, 115, 116] := by rw [← h4, hCast, ByteArray.toList_eq]; rfl
  have h6 : (a.ty != b.ty) = true := by rw [bne_iff_ne]; exact ht
  clear h hCast ht
  go_enter Tryz.func6, Tryz.ntmps6
  go_wp2_with fail
  go_ret
  exact ⟨rfl, BZ.out⟩
/-- what stands while two Parts are held against each other -/
def tw (W : World) (A B g o h q : Nat) (ca cb : Value) (x y : Ex) (Px Qy : Option Addr) (Cx Dy : Nat) (w' : World) : Prop := Below W.heap.size W w' ∧ w'.cell? ⟨A, 1, none⟩ = some ca ∧ w'.cell? ⟨B, 1, none⟩ = some cb ∧ w'.cell? ⟨g, o, none⟩ = some (.string x.op) ∧ w'.cell? ⟨g, o + 1, none⟩ = some (.slice Px x.parts.length Cx) ∧ w'.cell? ⟨g, o + 2, none⟩ = some (.int .i64 x.vt) ∧ w'.cell? ⟨g, o + 3, none⟩ = some (.int .i64 x.vn) ∧ w'.cell? ⟨g, o + 4, none⟩ = some (.string x.vs) ∧ w'.cell? ⟨g, o + 5, none⟩ = some (.string x.nm) ∧ w'.cell? ⟨g, o + 6, none⟩ = some (.string x.of) ∧ w'.cell? ⟨g, o + 7, none⟩ = some (.int .i64 x.ty) ∧ w'.cell? ⟨g, o + 8, none⟩ = some (.int .i64 x.at_) ∧ w'.cell? ⟨h, q, none⟩ = some (.string y.op) ∧ w'.cell? ⟨h, q + 1, none⟩ = some (.slice Qy y.parts.length Dy) ∧ w'.cell? ⟨h, q + 2, none⟩ = some (.int .i64 y.vt) ∧ w'.cell? ⟨h, q + 3, none⟩ = some (.int .i64 y.vn) ∧ w'.cell? ⟨h, q + 4, none⟩ = some (.string y.vs) ∧ w'.cell? ⟨h, q + 5, none⟩ = some (.string y.nm) ∧ w'.cell? ⟨h, q + 6, none⟩ = some (.string y.of) ∧ w'.cell? ⟨h, q + 7, none⟩ = some (.int .i64 y.ty) ∧ w'.cell? ⟨h, q + 8, none⟩ = some (.int .i64 y.at_)
theorem cellNext {w w' : World} {a : Addr} {u : Value} (hb : Below w.heap.size w w') (h : w.cell? a = some u) : w'.cell? a = some u := (hb.cell (World.block_lt_of_cell? w _ h)).trans h
theorem tw.step {W : World} {A B g o h q : Nat} {ca cb : Value} {x y : Ex} {Px Qy : Option Addr} {Cx Dy : Nat} {w w' : World} (t : tw W A B g o h q ca cb x y Px Qy Cx Dy w) (hb : Below w.heap.size w w') : tw W A B g o h q ca cb x y Px Qy Cx Dy w' := by
  obtain ⟨t0, t1, t2, t3, t4, t5, t6, t7, t8, t9, t10, t11, t12, t13, t14, t15, t16, t17, t18, t19, t20⟩ := t
  exact ⟨t0.trans (hb.mono t0.size), cellNext hb t1, cellNext hb t2, cellNext hb t3, cellNext hb t4, cellNext hb t5, cellNext hb t6, cellNext hb t7, cellNext hb t8, cellNext hb t9, cellNext hb t10, cellNext hb t11, cellNext hb t12, cellNext hb t13, cellNext hb t14, cellNext hb t15, cellNext hb t16, cellNext hb t17, cellNext hb t18, cellNext hb t19, cellNext hb t20⟩
theorem tw.drew {W : World} {A B g o h q : Nat} {ca cb : Value} {x y : Ex} {Px Qy : Option Addr} {Cx Dy : Nat} {w : World} (t : tw W A B g o h q ca cb x y Px Qy Cx Dy w) : tw W A B g o h q ca cb x y Px Qy Cx Dy w.drew := by
  obtain ⟨t0, t1⟩ := t
  exact ⟨t0.drew, t1⟩
theorem exL_at {f : Ex → Ex → Bool} {l m : List Ex} {k : Nat} {x y : Ex} (hx : l[k]? = some x) (hy : m[k]? = some y) : exL f (l.drop k) (m.drop k) = (f x y && exL f (l.drop (k + 1)) (m.drop (k + 1))) := by
  obtain ⟨h1, e1⟩ := List.getElem?_eq_some_iff.1 hx
  obtain ⟨h2, e2⟩ := List.getElem?_eq_some_iff.1 hy
  rw [List.drop_eq_getElem_cons h1, List.drop_eq_getElem_cons h2, e1, e2]
  rfl
/-- a Part in memory -/
theorem exIn.part {w : World} {S : Nat → Prop} {n : Nat} {e : Ex} {P : Option Addr} {C k : Nat} {x : Ex} (h : exIn w S (n + 1) e (exC e P C)) (hk : e.parts[k]? = some x) : ∃ g o Px Cx, P = some ⟨g, o, none⟩ ∧ exIn w S n x (exC x Px Cx) ∧ ∀ (r : Nat) (u : Value), (exC x Px Cx)[r]? = some u → w.cell? ⟨g, o + k * 9 + r, none⟩ = some u := by
  obtain ⟨P', C', e1, _, _, h⟩ := h
  unfold exC at e1
  injection e1 with _ e1
  injection e1 with e1 _
  injection e1 with e1 _ e2
  subst e1
  rcases h with h | ⟨g, o, rfl, _, h⟩
  · rw [h] at hk; simp at hk
  · obtain ⟨cs, h1, h2⟩ := h k x hk
    cases n with
    | zero => exact h1.elim
    | succ n =>
      obtain ⟨Px, Cx, rfl, h3⟩ := id h1
      exact ⟨g, o, Px, Cx, rfl, h1, h2⟩
set_option maxHeartbeats 8000000 in
set_option maxRecDepth 1000000 in
theorem refSame_parts (sv : Ex → Ex → Bool) (n : Nat) (a b : Ex) (P Q : Option Addr) (C D : Nat) (w : World) (S : Nat → Prop) (h : a.op = b.op ∧ a.parts.length = b.parts.length) (hValue : ¬ a.op = bValue) (hColumn : ¬ a.op = bColumn) (hParam : ¬ a.op = bParam) (hc : ¬ (a.op = bCast ∧ a.ty ≠ b.ty)) (ha : exIn w S (n + 1) a (exC a P C)) (hb0 : exIn w S (n + 1) b (exC b Q D)) (hsm : a.parts.length ≤ 100000000)
    (IH : ∀ (x y : Ex) (P Q : Option Addr) (C D : Nat) (w : World), exIn w S n x (exC x P C) → exIn w S n y (exC y Q D) → Calls Tryz.prog 6 #[exV x P C, exV y Q D] w fun e w' => e = .returned (.bool (exS sv n x y)) ∧ Below w.heap.size w w') :
    Calls Tryz.prog 6 #[exV a P C, exV b Q D] w fun e w' => e = .returned (.bool (exL (exS sv n) a.parts b.parts)) ∧ Below w.heap.size w w' := by
  obtain ⟨E, hE⟩ : ∃ E, E = exL (exS sv n) a.parts b.parts := ⟨_, rfl⟩
  rw [← hE]
  have HE : Hid (E = exL (exS sv n) (a.parts.drop 0) (b.parts.drop 0)) := hE
  clear hE
  have BZ : Hid _ := ((Below.refl _ w).alloc (Nat.le_refl _) (.cells #[.string a.op, .slice P a.parts.length C, .int .i64 a.vt, .int .i64 a.vn, .string a.vs, .string a.nm, .string a.of, .int .i64 a.ty, .int .i64 a.at_] 26)).alloc (by simp) (.cells #[.string b.op, .slice Q b.parts.length D, .int .i64 b.vt, .int .i64 b.vn, .string b.vs, .string b.nm, .string b.of, .int .i64 b.ty, .int .i64 b.at_] 26)
  have h4 : a.op.toList = b.op.toList := congrArg _ h.1
  have h3 : ((a.parts.length : Int) != (b.parts.length : Int)) = false := by rw [h.2]; simp
  have hn0 : (b.op.toList == [118, 97, 108, 117, 101]) = false := by rw [beq_eq_false_iff_ne]; exact fun e => hValue (op_is (h4.trans e))
  have hn1 : (b.op.toList == [99, 111, 108, 117, 109, 110]) = false := by rw [beq_eq_false_iff_ne]; exact fun e => hColumn (op_is (h4.trans e))
  have hn2 : (b.op.toList == [112, 97, 114, 97, 109]) = false := by rw [beq_eq_false_iff_ne]; exact fun e => hParam (op_is (h4.trans e))
  obtain ⟨W, hW⟩ : ∃ W, W = (w.alloc (.cells #[.string a.op, .slice P a.parts.length C, .int .i64 a.vt, .int .i64 a.vn, .string a.vs, .string a.nm, .string a.of, .int .i64 a.ty, .int .i64 a.at_] 26)).alloc (.cells #[.string b.op, .slice Q b.parts.length D, .int .i64 b.vt, .int .i64 b.vn, .string b.vs, .string b.nm, .string b.of, .int .i64 b.ty, .int .i64 b.at_] 26) := ⟨_, rfl⟩
  rw [← hW] at BZ
  have c1 : W.cell? ⟨w.heap.size, 1, none⟩ = some (.slice P a.parts.length C) := by rw [hW]; simp
  have c2 : W.cell? ⟨w.heap.size + 1, 1, none⟩ = some (.slice Q b.parts.length D) := by rw [hW]; simp
  have HA := mkHid (ha.below BZ.out)
  have HB := mkHid (hb0.below BZ.out)
  have HI := mkHid IH
  have HW := mkHid hW
  have hlen := mkHid h.2
  clear IH ha hb0 hW
  by_cases hCast : a.op = bCast
  · have hy : b.op.toList = [99, 97, 115, 116] := by rw [← h4, hCast, ByteArray.toList_eq]; rfl
    have ht : (a.ty != b.ty) = false := by
      rw [bne_eq_false_iff_eq]
      exact Classical.byContradiction fun e => hc ⟨hCast, e⟩
    clear h hc hCast
    go_enter Tryz.func6, Tryz.ntmps6
    go_wp2_with fail
    go_loopw [5] (fun sk wr => ∃ k : Nat, sk = .int .i64 k ∧ k ≤ a.parts.length ∧ Hid (E = exL (exS sv n) (a.parts.drop k) (b.parts.drop k)) ∧ Below W.heap.size W wr) (fun sk _ => a.parts.length - (intOf sk).toNat)
    case atStart => rw [← HW.out]; exact ⟨0, rfl, Nat.zero_le _, HE, Below.refl _ _⟩
    case round =>
      obtain ⟨k, rfl, hk, hd, hb⟩ := hrel
      clear HE
      have k1 := cellNext hb c1
      have k2 := cellNext hb c2
      by_cases hlt : k < a.parts.length
      · obtain ⟨x, hx⟩ : ∃ v, a.parts[k]? = some v := ⟨a.parts[k], List.getElem?_eq_getElem hlt⟩
        obtain ⟨y, hy'⟩ : ∃ v, b.parts[k]? = some v := ⟨b.parts[k]'(by have := hlen.out; omega), List.getElem?_eq_getElem _⟩
        obtain ⟨g, o, Px, Cx, rfl, ix, cx⟩ := HA.out.part hx
        obtain ⟨h, q, Qy, Dy, rfl, iy, cy⟩ := HB.out.part hy'
        have T0 : tw W w.heap.size (w.heap.size + 1) g (o + k * 9) h (q + k * 9) (.slice (some ⟨g, o, none⟩) a.parts.length C) (.slice (some ⟨h, q, none⟩) b.parts.length D) x y Px Qy Cx Dy wr := ⟨hb, k1, k2, cellNext hb (cx 0 _ rfl), cellNext hb (cx 1 _ rfl), cellNext hb (cx 2 _ rfl), cellNext hb (cx 3 _ rfl), cellNext hb (cx 4 _ rfl), cellNext hb (cx 5 _ rfl), cellNext hb (cx 6 _ rfl), cellNext hb (cx 7 _ rfl), cellNext hb (cx 8 _ rfl), cellNext hb (cy 0 _ rfl), cellNext hb (cy 1 _ rfl), cellNext hb (cy 2 _ rfl), cellNext hb (cy 3 _ rfl), cellNext hb (cy 4 _ rfl), cellNext hb (cy 5 _ rfl), cellNext hb (cy 6 _ rfl), cellNext hb (cy 7 _ rfl), cellNext hb (cy 8 _ rfl)⟩
        have OO : Hid (∀ w', tw W w.heap.size (w.heap.size + 1) g (o + k * 9) h (q + k * 9) (.slice (some ⟨g, o, none⟩) a.parts.length C) (.slice (some ⟨h, q, none⟩) b.parts.length D) x y Px Qy Cx Dy w' → Calls Tryz.prog 6 #[exV x Px Cx, exV y Qy Dy] w' fun e w'' => e = .returned (.bool (exS sv n x y)) ∧ Below w'.heap.size w' w'') := fun w' t => HI.out x y Px Qy Cx Dy w' (ix.below t.1) (iy.below t.1)
        have hl2 : k < b.parts.length := by have := hlen.out; omega
        rw [exL_at hx hy'] at hd
        clear hx hy' ix iy cx cy
        cases hS : exS sv n x y
        · have hE : E = false := by rw [hd.out, hS]; rfl
          subst hE
          rw [hS] at OO
          clear hd hS
          obtain ⟨_, _, _, u0, u1, u2, u3, u4, u5, u6, u7, u8, u9, u10, u11, u12, u13, u14, u15, u16, u17⟩ := id T0
          go_wp2_with fail
          go_region_held3 (fun w' => Below W.heap.size W w' ∧ w'.cell? ⟨w.heap.size, 1, none⟩ = some (.slice (some ⟨g, o, none⟩) a.parts.length C) ∧ w'.cell? ⟨w.heap.size + 1, 1, none⟩ = some (.slice (some ⟨h, q, none⟩) b.parts.length D) ∧ w'.cell? ⟨g, o + k * 9, none⟩ = some (.string x.op) ∧ w'.cell? ⟨g, o + k * 9 + 1, none⟩ = some (.slice Px x.parts.length Cx) ∧ w'.cell? ⟨g, o + k * 9 + 2, none⟩ = some (.int .i64 x.vt) ∧ w'.cell? ⟨g, o + k * 9 + 3, none⟩ = some (.int .i64 x.vn) ∧ w'.cell? ⟨g, o + k * 9 + 4, none⟩ = some (.string x.vs) ∧ w'.cell? ⟨g, o + k * 9 + 5, none⟩ = some (.string x.nm) ∧ w'.cell? ⟨g, o + k * 9 + 6, none⟩ = some (.string x.of) ∧ w'.cell? ⟨g, o + k * 9 + 7, none⟩ = some (.int .i64 x.ty) ∧ w'.cell? ⟨g, o + k * 9 + 8, none⟩ = some (.int .i64 x.at_) ∧ w'.cell? ⟨h, q + k * 9, none⟩ = some (.string y.op) ∧ w'.cell? ⟨h, q + k * 9 + 1, none⟩ = some (.slice Qy y.parts.length Dy) ∧ w'.cell? ⟨h, q + k * 9 + 2, none⟩ = some (.int .i64 y.vt) ∧ w'.cell? ⟨h, q + k * 9 + 3, none⟩ = some (.int .i64 y.vn) ∧ w'.cell? ⟨h, q + k * 9 + 4, none⟩ = some (.string y.vs) ∧ w'.cell? ⟨h, q + k * 9 + 5, none⟩ = some (.string y.nm) ∧ w'.cell? ⟨h, q + k * 9 + 6, none⟩ = some (.string y.of) ∧ w'.cell? ⟨h, q + k * 9 + 7, none⟩ = some (.int .i64 y.ty) ∧ w'.cell? ⟨h, q + k * 9 + 8, none⟩ = some (.int .i64 y.at_)) (first | exact T0.drew | exact tw.step (by assumption) hb2) ((go_at_call 6; refine (OO.out _ (by assumption)).mono ?_; rintro e w1 ⟨rfl, hb2⟩))
          go_wp2_with fail
          go_ret
          exact ⟨rfl, BZ.out.trans ((hb.drew.trans (hb2.mono hb.size)).mono BZ.out.size)⟩
        · have hd2 : Hid (E = exL (exS sv n) (a.parts.drop (k + 1)) (b.parts.drop (k + 1))) := by show _ = _; rw [hd.out, hS]; rfl
          rw [hS] at OO
          clear hd hS
          obtain ⟨_, _, _, u0, u1, u2, u3, u4, u5, u6, u7, u8, u9, u10, u11, u12, u13, u14, u15, u16, u17⟩ := id T0
          go_wp2_with fail
          go_region_held3 (fun w' => Below W.heap.size W w' ∧ w'.cell? ⟨w.heap.size, 1, none⟩ = some (.slice (some ⟨g, o, none⟩) a.parts.length C) ∧ w'.cell? ⟨w.heap.size + 1, 1, none⟩ = some (.slice (some ⟨h, q, none⟩) b.parts.length D) ∧ w'.cell? ⟨g, o + k * 9, none⟩ = some (.string x.op) ∧ w'.cell? ⟨g, o + k * 9 + 1, none⟩ = some (.slice Px x.parts.length Cx) ∧ w'.cell? ⟨g, o + k * 9 + 2, none⟩ = some (.int .i64 x.vt) ∧ w'.cell? ⟨g, o + k * 9 + 3, none⟩ = some (.int .i64 x.vn) ∧ w'.cell? ⟨g, o + k * 9 + 4, none⟩ = some (.string x.vs) ∧ w'.cell? ⟨g, o + k * 9 + 5, none⟩ = some (.string x.nm) ∧ w'.cell? ⟨g, o + k * 9 + 6, none⟩ = some (.string x.of) ∧ w'.cell? ⟨g, o + k * 9 + 7, none⟩ = some (.int .i64 x.ty) ∧ w'.cell? ⟨g, o + k * 9 + 8, none⟩ = some (.int .i64 x.at_) ∧ w'.cell? ⟨h, q + k * 9, none⟩ = some (.string y.op) ∧ w'.cell? ⟨h, q + k * 9 + 1, none⟩ = some (.slice Qy y.parts.length Dy) ∧ w'.cell? ⟨h, q + k * 9 + 2, none⟩ = some (.int .i64 y.vt) ∧ w'.cell? ⟨h, q + k * 9 + 3, none⟩ = some (.int .i64 y.vn) ∧ w'.cell? ⟨h, q + k * 9 + 4, none⟩ = some (.string y.vs) ∧ w'.cell? ⟨h, q + k * 9 + 5, none⟩ = some (.string y.nm) ∧ w'.cell? ⟨h, q + k * 9 + 6, none⟩ = some (.string y.of) ∧ w'.cell? ⟨h, q + k * 9 + 7, none⟩ = some (.int .i64 y.ty) ∧ w'.cell? ⟨h, q + k * 9 + 8, none⟩ = some (.int .i64 y.at_)) (first | exact T0.drew | exact tw.step (by assumption) hb2) ((go_at_call 6; refine (OO.out _ (by assumption)).mono ?_; rintro e w1 ⟨rfl, hb2⟩))
          go_wp2_with fail
          go_roundw
          case rel => exact ⟨k + 1, by go_num, hlt, hd2, hb.drew.trans (hb2.mono hb.size)⟩
          case measure => simp [intOf]; omega
      · have hE : E = true := by
          rw [hd.out, List.drop_eq_nil_of_le (by omega)]
          rfl
        subst hE
        clear hd
        go_wp2_with fail
        go_ret
        exact ⟨rfl, BZ.out.trans (hb.mono BZ.out.size)⟩
  · have hn3 : (b.op.toList == [99, 97, 115, 116]) = false := by rw [beq_eq_false_iff_ne]; exact fun e => hCast (op_is (h4.trans e))
    clear h hc
    go_enter Tryz.func6, Tryz.ntmps6
    go_wp2_with fail
    go_loopw [5] (fun sk wr => ∃ k : Nat, sk = .int .i64 k ∧ k ≤ a.parts.length ∧ Hid (E = exL (exS sv n) (a.parts.drop k) (b.parts.drop k)) ∧ Below W.heap.size W wr) (fun sk _ => a.parts.length - (intOf sk).toNat)
    case atStart => rw [← HW.out]; exact ⟨0, rfl, Nat.zero_le _, HE, Below.refl _ _⟩
    case round =>
      obtain ⟨k, rfl, hk, hd, hb⟩ := hrel
      clear HE
      have k1 := cellNext hb c1
      have k2 := cellNext hb c2
      by_cases hlt : k < a.parts.length
      · obtain ⟨x, hx⟩ : ∃ v, a.parts[k]? = some v := ⟨a.parts[k], List.getElem?_eq_getElem hlt⟩
        obtain ⟨y, hy'⟩ : ∃ v, b.parts[k]? = some v := ⟨b.parts[k]'(by have := hlen.out; omega), List.getElem?_eq_getElem _⟩
        obtain ⟨g, o, Px, Cx, rfl, ix, cx⟩ := HA.out.part hx
        obtain ⟨h, q, Qy, Dy, rfl, iy, cy⟩ := HB.out.part hy'
        have T0 : tw W w.heap.size (w.heap.size + 1) g (o + k * 9) h (q + k * 9) (.slice (some ⟨g, o, none⟩) a.parts.length C) (.slice (some ⟨h, q, none⟩) b.parts.length D) x y Px Qy Cx Dy wr := ⟨hb, k1, k2, cellNext hb (cx 0 _ rfl), cellNext hb (cx 1 _ rfl), cellNext hb (cx 2 _ rfl), cellNext hb (cx 3 _ rfl), cellNext hb (cx 4 _ rfl), cellNext hb (cx 5 _ rfl), cellNext hb (cx 6 _ rfl), cellNext hb (cx 7 _ rfl), cellNext hb (cx 8 _ rfl), cellNext hb (cy 0 _ rfl), cellNext hb (cy 1 _ rfl), cellNext hb (cy 2 _ rfl), cellNext hb (cy 3 _ rfl), cellNext hb (cy 4 _ rfl), cellNext hb (cy 5 _ rfl), cellNext hb (cy 6 _ rfl), cellNext hb (cy 7 _ rfl), cellNext hb (cy 8 _ rfl)⟩
        have OO : Hid (∀ w', tw W w.heap.size (w.heap.size + 1) g (o + k * 9) h (q + k * 9) (.slice (some ⟨g, o, none⟩) a.parts.length C) (.slice (some ⟨h, q, none⟩) b.parts.length D) x y Px Qy Cx Dy w' → Calls Tryz.prog 6 #[exV x Px Cx, exV y Qy Dy] w' fun e w'' => e = .returned (.bool (exS sv n x y)) ∧ Below w'.heap.size w' w'') := fun w' t => HI.out x y Px Qy Cx Dy w' (ix.below t.1) (iy.below t.1)
        have hl2 : k < b.parts.length := by have := hlen.out; omega
        rw [exL_at hx hy'] at hd
        clear hx hy' ix iy cx cy
        cases hS : exS sv n x y
        · have hE : E = false := by rw [hd.out, hS]; rfl
          subst hE
          rw [hS] at OO
          clear hd hS
          obtain ⟨_, _, _, u0, u1, u2, u3, u4, u5, u6, u7, u8, u9, u10, u11, u12, u13, u14, u15, u16, u17⟩ := id T0
          go_wp2_with fail
          go_region_held3 (fun w' => Below W.heap.size W w' ∧ w'.cell? ⟨w.heap.size, 1, none⟩ = some (.slice (some ⟨g, o, none⟩) a.parts.length C) ∧ w'.cell? ⟨w.heap.size + 1, 1, none⟩ = some (.slice (some ⟨h, q, none⟩) b.parts.length D) ∧ w'.cell? ⟨g, o + k * 9, none⟩ = some (.string x.op) ∧ w'.cell? ⟨g, o + k * 9 + 1, none⟩ = some (.slice Px x.parts.length Cx) ∧ w'.cell? ⟨g, o + k * 9 + 2, none⟩ = some (.int .i64 x.vt) ∧ w'.cell? ⟨g, o + k * 9 + 3, none⟩ = some (.int .i64 x.vn) ∧ w'.cell? ⟨g, o + k * 9 + 4, none⟩ = some (.string x.vs) ∧ w'.cell? ⟨g, o + k * 9 + 5, none⟩ = some (.string x.nm) ∧ w'.cell? ⟨g, o + k * 9 + 6, none⟩ = some (.string x.of) ∧ w'.cell? ⟨g, o + k * 9 + 7, none⟩ = some (.int .i64 x.ty) ∧ w'.cell? ⟨g, o + k * 9 + 8, none⟩ = some (.int .i64 x.at_) ∧ w'.cell? ⟨h, q + k * 9, none⟩ = some (.string y.op) ∧ w'.cell? ⟨h, q + k * 9 + 1, none⟩ = some (.slice Qy y.parts.length Dy) ∧ w'.cell? ⟨h, q + k * 9 + 2, none⟩ = some (.int .i64 y.vt) ∧ w'.cell? ⟨h, q + k * 9 + 3, none⟩ = some (.int .i64 y.vn) ∧ w'.cell? ⟨h, q + k * 9 + 4, none⟩ = some (.string y.vs) ∧ w'.cell? ⟨h, q + k * 9 + 5, none⟩ = some (.string y.nm) ∧ w'.cell? ⟨h, q + k * 9 + 6, none⟩ = some (.string y.of) ∧ w'.cell? ⟨h, q + k * 9 + 7, none⟩ = some (.int .i64 y.ty) ∧ w'.cell? ⟨h, q + k * 9 + 8, none⟩ = some (.int .i64 y.at_)) (first | exact T0.drew | exact tw.step (by assumption) hb2) ((go_at_call 6; refine (OO.out _ (by assumption)).mono ?_; rintro e w1 ⟨rfl, hb2⟩))
          go_wp2_with fail
          go_ret
          exact ⟨rfl, BZ.out.trans ((hb.drew.trans (hb2.mono hb.size)).mono BZ.out.size)⟩
        · have hd2 : Hid (E = exL (exS sv n) (a.parts.drop (k + 1)) (b.parts.drop (k + 1))) := by show _ = _; rw [hd.out, hS]; rfl
          rw [hS] at OO
          clear hd hS
          obtain ⟨_, _, _, u0, u1, u2, u3, u4, u5, u6, u7, u8, u9, u10, u11, u12, u13, u14, u15, u16, u17⟩ := id T0
          go_wp2_with fail
          go_region_held3 (fun w' => Below W.heap.size W w' ∧ w'.cell? ⟨w.heap.size, 1, none⟩ = some (.slice (some ⟨g, o, none⟩) a.parts.length C) ∧ w'.cell? ⟨w.heap.size + 1, 1, none⟩ = some (.slice (some ⟨h, q, none⟩) b.parts.length D) ∧ w'.cell? ⟨g, o + k * 9, none⟩ = some (.string x.op) ∧ w'.cell? ⟨g, o + k * 9 + 1, none⟩ = some (.slice Px x.parts.length Cx) ∧ w'.cell? ⟨g, o + k * 9 + 2, none⟩ = some (.int .i64 x.vt) ∧ w'.cell? ⟨g, o + k * 9 + 3, none⟩ = some (.int .i64 x.vn) ∧ w'.cell? ⟨g, o + k * 9 + 4, none⟩ = some (.string x.vs) ∧ w'.cell? ⟨g, o + k * 9 + 5, none⟩ = some (.string x.nm) ∧ w'.cell? ⟨g, o + k * 9 + 6, none⟩ = some (.string x.of) ∧ w'.cell? ⟨g, o + k * 9 + 7, none⟩ = some (.int .i64 x.ty) ∧ w'.cell? ⟨g, o + k * 9 + 8, none⟩ = some (.int .i64 x.at_) ∧ w'.cell? ⟨h, q + k * 9, none⟩ = some (.string y.op) ∧ w'.cell? ⟨h, q + k * 9 + 1, none⟩ = some (.slice Qy y.parts.length Dy) ∧ w'.cell? ⟨h, q + k * 9 + 2, none⟩ = some (.int .i64 y.vt) ∧ w'.cell? ⟨h, q + k * 9 + 3, none⟩ = some (.int .i64 y.vn) ∧ w'.cell? ⟨h, q + k * 9 + 4, none⟩ = some (.string y.vs) ∧ w'.cell? ⟨h, q + k * 9 + 5, none⟩ = some (.string y.nm) ∧ w'.cell? ⟨h, q + k * 9 + 6, none⟩ = some (.string y.of) ∧ w'.cell? ⟨h, q + k * 9 + 7, none⟩ = some (.int .i64 y.ty) ∧ w'.cell? ⟨h, q + k * 9 + 8, none⟩ = some (.int .i64 y.at_)) (first | exact T0.drew | exact tw.step (by assumption) hb2) ((go_at_call 6; refine (OO.out _ (by assumption)).mono ?_; rintro e w1 ⟨rfl, hb2⟩))
          go_wp2_with fail
          go_roundw
          case rel => exact ⟨k + 1, by go_num, hlt, hd2, hb.drew.trans (hb2.mono hb.size)⟩
          case measure => simp [intOf]; omega
      · have hE : E = true := by
          rw [hd.out, List.drop_eq_nil_of_le (by omega)]
          rfl
        subst hE
        clear hd
        go_wp2_with fail
        go_ret
        exact ⟨rfl, BZ.out.trans (hb.mono BZ.out.size)⟩
theorem exIn.good {w : World} {S : Nat → Prop} {n : Nat} {e : Ex} {cs : List Value} (h : exIn w S n e cs) : exG e := by
  cases n with
  | zero => exact h.elim
  | succ n =>
    obtain ⟨_, _, _, h, _⟩ := h
    exact h
theorem exL_nil {f : Ex → Ex → Bool} {l m : List Ex} (h : l = []) : exL f l m = true := by
  subst h
  rfl
theorem refSame_ex (sv : Ex → Ex → Bool) (S : Nat → Prop) (hS : ∀ a b : Ex, exG a → exG b → ∀ w, Calls Tryz.prog 13 #[.agg #[.int .i64 a.vt, .int .i64 a.vn, .string a.vs], .agg #[.int .i64 b.vt, .int .i64 b.vn, .string b.vs]] w fun e w' => e = .returned (.bool (sv a b)) ∧ Below w.heap.size w w') :
    ∀ (n : Nat) (a b : Ex) (P Q : Option Addr) (C D : Nat) (w : World), exIn w S n a (exC a P C) → exIn w S n b (exC b Q D) → Calls Tryz.prog 6 #[exV a P C, exV b Q D] w fun e w' => e = .returned (.bool (exS sv n a b)) ∧ Below w.heap.size w w' := by
  intro n
  induction n with
  | zero => intro a b P Q C D w ha; exact ha.elim
  | succ n ih =>
    intro a b P Q C D w ha hb
    rw [exS]
    by_cases h : a.op = b.op ∧ a.parts.length = b.parts.length
    · rw [if_neg (not_not_intro h)]
      by_cases hValue : a.op = bValue
      · rw [if_pos hValue]
        exact refSame_value a b P Q C D w h hValue _ (hS a b ha.good hb.good)
      rw [if_neg hValue]
      by_cases hColumn : a.op = bColumn
      · rw [if_pos hColumn]
        exact refSame_column a b P Q C D w h hValue hColumn
      rw [if_neg hColumn]
      by_cases hParam : a.op = bParam
      · rw [if_pos hParam]
        exact refSame_param a b P Q C D w h hValue hColumn hParam
      rw [if_neg hParam]
      by_cases hc : a.op = bCast ∧ a.ty ≠ b.ty
      · rw [if_pos hc]
        exact refSame_cast a b P Q C D w h hValue hColumn hParam hc.1 hc.2
      rw [if_neg hc]
      exact refSame_parts sv n a b P Q C D w S h hValue hColumn hParam hc ha hb ha.good.1 ih
    · rw [if_pos h]
      exact refSame_no a b P Q C D w h
end Go.Proofs.YtokppkinhlcafaaGreatDoor
