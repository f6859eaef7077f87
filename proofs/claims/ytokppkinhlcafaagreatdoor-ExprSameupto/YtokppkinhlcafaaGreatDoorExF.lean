/-
  The walk of lockstepref07.Parts.
-/
import Derived.Test.YtokppkinhlcafaaGreatDoorExE
namespace Go.Proofs.YtokppkinhlcafaaGreatDoor
open Go.RowKit Go.Joins
set_option maxRecDepth 100000

def bAnd : ByteArray := { data := #[97, 110, 100] }
/-- the conditions that are all to hold -/
def exP : Nat → Ex → List Ex
  | 0, _ => []
  | n + 1, e =>
    match e.parts with
    | [x, y] => if e.op = bAnd then exP n x ++ exP n y else [e]
    | _ => [e]
theorem exP_one {n : Nat} {e : Ex} (h : ¬ (e.op = bAnd ∧ e.parts.length = 2)) : exP (n + 1) e = [e] := by
  unfold exP
  split
  · rename_i x y hp
    rw [if_neg fun h1 => h ⟨h1, by rw [hp]; rfl⟩]
  · rfl
theorem exP_two {n : Nat} {e x y : Ex} (h : e.op = bAnd) (hp : e.parts = [x, y]) : exP (n + 1) e = exP n x ++ exP n y := by
  rw [exP, hp]
  simp only
  rw [if_pos h]
/-- a list of expressions in cells -/
def els (w : World) (S : Nat → Prop) (n : Nat) (l : List Ex) (xs : List Value) : Prop := ∀ (j : Nat) (x : Ex), l[j]? = some x → ∃ Px Cx, exIn w S n x (exC x Px Cx) ∧ ∀ (r : Nat) (u : Value), (exC x Px Cx)[r]? = some u → xs[j * 9 + r]? = some u
theorem els.map {w w' : World} {S S' : Nat → Prop} {n m : Nat} {l : List Ex} {xs : List Value} (h : els w S n l xs) (f : ∀ (x : Ex) (cs : List Value), exIn w S n x cs → exIn w' S' m x cs) : els w' S' m l xs := fun j x hj => by
  obtain ⟨Px, Cx, h1, h2⟩ := h j x hj
  exact ⟨Px, Cx, f _ _ h1, h2⟩
theorem els.app {w : World} {S : Nat → Prop} {n : Nat} {l m : List Ex} {xs ys : List Value} (h : els w S n l xs) (k : els w S n m ys) (hl : xs.length = l.length * 9) : els w S n (l ++ m) (xs ++ ys) := fun j x hj => by
  by_cases hjl : j < l.length
  · rw [List.getElem?_append_left hjl] at hj
    obtain ⟨Px, Cx, h1, h2⟩ := h j x hj
    refine ⟨Px, Cx, h1, fun r u hr => ?_⟩
    have := h2 r u hr
    rw [List.getElem?_append_left (List.getElem?_eq_some_iff.1 this).1]
    exact this
  · rw [List.getElem?_append_right (by omega)] at hj
    obtain ⟨Px, Cx, h1, h2⟩ := k _ x hj
    refine ⟨Px, Cx, h1, fun r u hr => ?_⟩
    rw [List.getElem?_append_right (by omega), hl, show j * 9 + r - l.length * 9 = (j - l.length) * 9 + r by omega]
    exact h2 r u hr
/-- what Parts answers -/
def PtQ (w : World) (S : Nat → Prop) (n : Nat) (l : List Ex) (e : Ending) (w' : World) : Prop := ∃ v xs, e = .returned v ∧ w'.ownsRow w.heap.size 26 9 v l.length xs ∧ els w' S n l xs ∧ 0 < l.length ∧ Below w.heap.size w w'
set_option maxHeartbeats 4000000 in
set_option maxRecDepth 1000000 in
theorem refParts_one (n : Nat) (S : Nat → Prop) (a : Ex) (P : Option Addr) (C : Nat) (w : World) (ha : exIn w S n a (exC a P C)) (h : ¬ (a.op = bAnd ∧ a.parts.length = 2)) :
    Calls Tryz.prog 8 #[exV a P C] w fun e w' => PtQ w S n [a] e w' := by
  have B1 := (Below.refl _ w).alloc (Nat.le_refl _) (.cells #[.string a.op, .slice P a.parts.length C, .int .i64 a.vt, .int .i64 a.vn, .string a.vs, .string a.nm, .string a.of, .int .i64 a.ty, .int .i64 a.at_] 26)
  have B2 := B1.alloc (by simp) (.cells #[.string a.op, .slice P a.parts.length C, .int .i64 a.vt, .int .i64 a.vn, .string a.vs, .string a.nm, .string a.of, .int .i64 a.ty, .int .i64 a.at_] 26)
  have R : ((w.alloc (.cells #[.string a.op, .slice P a.parts.length C, .int .i64 a.vt, .int .i64 a.vn, .string a.vs, .string a.nm, .string a.of, .int .i64 a.ty, .int .i64 a.at_] 26)).alloc (.cells #[.string a.op, .slice P a.parts.length C, .int .i64 a.vt, .int .i64 a.vn, .string a.vs, .string a.nm, .string a.of, .int .i64 a.ty, .int .i64 a.at_] 26)).ownsRow w.heap.size 26 9 (.slice (some ⟨w.heap.size + 1, 0, none⟩) 1 1) 1 (exC a P C) := by
    have e1 : (w.alloc (.cells #[.string a.op, .slice P a.parts.length C, .int .i64 a.vt, .int .i64 a.vn, .string a.vs, .string a.nm, .string a.of, .int .i64 a.ty, .int .i64 a.at_] 26)).heap.size = w.heap.size + 1 := by simp
    rw [← e1]
    exact ⟨rfl, Or.inr ⟨_, 1, #[.string a.op, .slice P a.parts.length C, .int .i64 a.vt, .int .i64 a.vn, .string a.vs, .string a.nm, .string a.of, .int .i64 a.ty, .int .i64 a.at_], rfl, by simp, heap_alloc_new _ _, Nat.le_refl _, by unfold maxLen; omega, rfl, rfl⟩⟩
  have K : Hid (PtQ w S n [a] (.returned (.slice (some ⟨w.heap.size + 1, 0, none⟩) 1 1)) ((w.alloc (.cells #[.string a.op, .slice P a.parts.length C, .int .i64 a.vt, .int .i64 a.vn, .string a.vs, .string a.nm, .string a.of, .int .i64 a.ty, .int .i64 a.at_] 26)).alloc (.cells #[.string a.op, .slice P a.parts.length C, .int .i64 a.vt, .int .i64 a.vn, .string a.vs, .string a.nm, .string a.of, .int .i64 a.ty, .int .i64 a.at_] 26))) := ⟨_, _, rfl, R, fun j x hj => by
    match j, hj with
    | 0, hj =>
      cases hj
      exact ⟨P, C, ha.below B2, fun r u hr => by rw [Nat.zero_mul, Nat.zero_add]; exact hr⟩
    | j + 1, hj => simp at hj, Nat.zero_lt_one, B2⟩
  clear ha R B1 B2
  by_cases h1 : a.op = bAnd
  · have h2 : ((a.parts.length : Int) != 2) = true := by rw [bne_iff_ne]; intro e; exact h ⟨h1, by omega⟩
    have h3 : (a.op.toList == [97, 110, 100]) = true := by rw [h1, ByteArray.toList_eq]; rfl
    have h4 : a.op.toList = [97, 110, 100] := by rw [h1, ByteArray.toList_eq]; rfl
    clear h h1
    go_enter Tryz.func8, Tryz.ntmps8
    go_wp2_with fail
    go_ret
    exact K.out
  · have h3 : (a.op.toList == [97, 110, 100]) = false := by rw [beq_eq_false_iff_ne]; exact fun e => h1 (op_is e)
    have h4 : ¬ a.op.toList = [97, 110, 100] := fun e => h1 (op_is e)
    clear h h1
    go_enter Tryz.func8, Tryz.ntmps8
    go_wp2_with fail
    go_ret
    exact K.out
theorem own_ones {w : World} {S : Nat → Prop} {n : Nat} {l : List Ex} {xs : List Value} (h : els w S n l xs) (hl : xs.length = l.length * 9) : ∀ u ∈ xs, u.oneCell' = true := by
  intro u hu
  obtain ⟨k, hk⟩ := List.getElem?_of_mem hu
  have hk2 := (List.getElem?_eq_some_iff.1 hk).1
  obtain ⟨x, hx⟩ : ∃ x, l[k / 9]? = some x := ⟨l[k / 9]'(by omega), List.getElem?_eq_getElem _⟩
  obtain ⟨Px, Cx, h1, h2⟩ := h _ x hx
  obtain ⟨v, hv⟩ : ∃ v, (exC x Px Cx)[k % 9]? = some v := ⟨(exC x Px Cx)[k % 9]'(by rw [h1.len]; omega), List.getElem?_eq_getElem _⟩
  have := h2 _ _ hv
  rw [show k / 9 * 9 + k % 9 = k by omega, hk] at this
  cases this
  exact exC_ones x Px Cx _ (List.mem_of_getElem? hv)
theorem app_run (base : Nat) (v : Value) (k : Nat) (xs : List Value) (v2 : Value) (base2 m : Nat) (ys : List Value) (w : World) (hown : w.ownsRow base 26 9 v k xs) (hown2 : w.ownsRow base2 26 9 v2 m ys) (h1 : ∀ u ∈ ys, u.oneCell' = true) (hm : 0 < m) (hk : k + m ≤ 100000000) (hbase : base ≤ w.heap.size) :
    ∃ v' w', (∀ ty, (Builtin.append_ #[22, 22] ty #[v, v2]).run Tryz.prog w = .ok v' w') ∧ w'.ownsRow base 26 9 v' (k + m) (xs ++ ys) ∧ w.grownBy w' v.ownBlock := by
  obtain ⟨i0, hi, hz0, hz1, hz2⟩ := info_parts exInfo
  rcases hown2.2 with ⟨rfl, h0⟩ | ⟨g, cap, cur, rfl, _⟩
  · omega
  · have key := fun ty => run_append_own_at (P := Tryz.prog) w base 22 ty 26 i0 _ 9 120 exSlice hi hz0 hz1 hz2 rfl (by decide) v k xs hown ⟨g, 0, none⟩ m cap ys hown2.1 (fun j u hj => hown2.cells (g := g) rfl j u hj) h1 (by unfold maxLen; omega) (by omega) hbase
    obtain ⟨v', w', e1, e2, e3, _⟩ := key 0
    exact ⟨v', w', fun ty => e1, e2, e3⟩
theorem own_form {w : World} {base n : Nat} {v : Value} {xs : List Value} (h : w.ownsRow base 26 9 v n xs) : ∃ P C, v = .slice P n C := by
  rcases h.2 with ⟨rfl, rfl⟩ | ⟨g, cap, cur, rfl, _⟩
  · exact ⟨_, _, rfl⟩
  · exact ⟨_, _, rfl⟩
theorem below_app {W w2 w3 : World} {base k : Nat} {v : Value} {xs : List Value} (h : Below W.heap.size W w2) (hown : w2.ownsRow base 26 9 v k xs) (hb : W.heap.size ≤ base) (hg : w2.grownBy w3 v.ownBlock) : Below W.heap.size W w3 :=
  ⟨hg.os.trans h.os, hg.tape.trans h.tape, hg.output.trans h.output, Nat.le_trans h.size hg.size, fun k hk => by
    rw [hg.block k (Nat.lt_of_lt_of_le hk h.size) (fun e => by have := (own_lt hown e.symm).1; omega)]
    exact h.block k hk⟩
def tz (W w : World) (g o L C : Nat) (x y : Ex) (Px Py : Option Addr) (Cx Cy : Nat) (w' : World) : Prop := Below W.heap.size W w' ∧ w'.cell? ⟨w.heap.size, 1, none⟩ = some (.slice (some ⟨g, o, none⟩) L C) ∧ w'.cell? ⟨g, o, none⟩ = some (.string x.op) ∧ w'.cell? ⟨g, o + 1, none⟩ = some (.slice Px x.parts.length Cx) ∧ w'.cell? ⟨g, o + 2, none⟩ = some (.int .i64 x.vt) ∧ w'.cell? ⟨g, o + 3, none⟩ = some (.int .i64 x.vn) ∧ w'.cell? ⟨g, o + 4, none⟩ = some (.string x.vs) ∧ w'.cell? ⟨g, o + 5, none⟩ = some (.string x.nm) ∧ w'.cell? ⟨g, o + 6, none⟩ = some (.string x.of) ∧ w'.cell? ⟨g, o + 7, none⟩ = some (.int .i64 x.ty) ∧ w'.cell? ⟨g, o + 8, none⟩ = some (.int .i64 x.at_) ∧ w'.cell? ⟨g, o + 9, none⟩ = some (.string y.op) ∧ w'.cell? ⟨g, o + 10, none⟩ = some (.slice Py y.parts.length Cy) ∧ w'.cell? ⟨g, o + 11, none⟩ = some (.int .i64 y.vt) ∧ w'.cell? ⟨g, o + 12, none⟩ = some (.int .i64 y.vn) ∧ w'.cell? ⟨g, o + 13, none⟩ = some (.string y.vs) ∧ w'.cell? ⟨g, o + 14, none⟩ = some (.string y.nm) ∧ w'.cell? ⟨g, o + 15, none⟩ = some (.string y.of) ∧ w'.cell? ⟨g, o + 16, none⟩ = some (.int .i64 y.ty) ∧ w'.cell? ⟨g, o + 17, none⟩ = some (.int .i64 y.at_)
theorem tz.step {W w : World} {g o L C : Nat} {x y : Ex} {Px Py : Option Addr} {Cx Cy : Nat} {v w' : World} (t : tz W w g o L C x y Px Py Cx Cy v) (hb : Below v.heap.size v w') : tz W w g o L C x y Px Py Cx Cy w' := by
  obtain ⟨t0, t1, t2, t3, t4, t5, t6, t7, t8, t9, t10, t11, t12, t13, t14, t15, t16, t17, t18, t19⟩ := t
  exact ⟨t0.trans (hb.mono t0.size), cellNext hb t1, cellNext hb t2, cellNext hb t3, cellNext hb t4, cellNext hb t5, cellNext hb t6, cellNext hb t7, cellNext hb t8, cellNext hb t9, cellNext hb t10, cellNext hb t11, cellNext hb t12, cellNext hb t13, cellNext hb t14, cellNext hb t15, cellNext hb t16, cellNext hb t17, cellNext hb t18, cellNext hb t19⟩
theorem tz.drew {W w : World} {g o L C : Nat} {x y : Ex} {Px Py : Option Addr} {Cx Cy : Nat} {v : World} (t : tz W w g o L C x y Px Py Cx Cy v) : tz W w g o L C x y Px Py Cx Cy v.drew := ⟨t.1.drew, t.2⟩
end Go.Proofs.YtokppkinhlcafaaGreatDoor
