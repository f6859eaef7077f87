/-
 The walk of the document's Put: a key that can be, in a tree in which keys may stand twice.
-/
import Derived.Test.YtclcajnodoifjaaGreatDoorIAR
namespace Go.Proofs.YtclcajnodoifjaaGreatDoor
open Go.RowKit Go.Shelf Go.Joins Go.Maps
set_option maxRecDepth 100000

/-- an entry that is there already -/
def dupB (k : List Va) (id : Int) (D : List Em) : Bool := D.any (fun q => decide (rowsV q.e.key k = 0) && decide (q.e.id = id))
theorem dup_no {m : Em} {k : List Va} {id : Int} (h : ¬ (rowsV m.e.key k = 0 ∧ m.e.id = id)) : (decide (rowsV m.e.key k = 0) && decide (m.e.id = id)) = false := by
 rw [Bool.and_eq_false_iff, decide_eq_false_iff_not, decide_eq_false_iff_not]
 by_cases h1 : rowsV m.e.key k = 0
 ·exact Or.inr (fun h2 => h ⟨h1, h2⟩)
 ·exact Or.inl h1
/-- what the document's Put leaves -/
def DuQ (T : Nat → Prop) (w : World) (dd : Nat) (D : List Em) (k : List Va) (id : Int) (e : Ending) (w' : World) : Prop :=
 (dupB k id D = true ∧ e = .returned (.int .i64 50) ∧ Below w.heap.size w w') ∨ (dupB k id D = false ∧ 4096 ≤ D.length ∧ e = .returned (.int .i64 2) ∧ Below w.heap.size w w') ∨ (dupB k id D = false ∧ D.length < 4096 ∧ e = .returned (.int .i64 0) ∧ ∃ m p' c', m.e = ⟨k, id⟩ ∧ DocIn T w' dd false (ins ltM m D) (.slice p' (D.length + 1) c') ∧ Chg (fun b => b = dd) w w')
theorem doc_row {T : Nat → Prop} {w : World} {dd : Nat} {u : Bool} {D : List Em} {PD : Option Addr} {ND CD : Nat} (h : DocIn T w dd u D (.slice PD ND CD)) : ND = D.length ∧ ND ≤ CD ∧ (PD = none → ND = 0 ∧ CD = 0) ∧ ∀ ad, PD = some ad → ∃ gx ox, ad = ⟨gx, ox, none⟩ ∧ gx < w.heap.size ∧ ∀ j u, (fl emE D)[j]? = some u → w.cell? ⟨gx, ox + j, none⟩ = some u := by
 obtain ⟨p, c, e1, e2, e3, e4⟩ := h.row.form
 cases e1
 exact ⟨rfl, e2, e3, e4⟩
theorem empty_row (w : World) : shr (w.alloc (.cells #[] 54)) 54 2 (.slice (some ⟨w.heap.size, 0, none⟩) 0 0) 0 [] := ⟨by simp, Or.inr ⟨w.heap.size, 0, 0, #[], rfl, heap_alloc_new _ _, Nat.le_refl _, Nat.zero_le _, Or.inl rfl, fun j u hj => by simp at hj⟩⟩
/-- a list with an entry put in, built of its two parts -/
theorem ins_rows (w4 : World) (D : List Em) (m : Em) (A ND C1 C2 : Nat) (P1 P2 : Option Addr) (hND : ND = D.length) (hA : A ≤ ND) (hz : ND ≤ 100000) (hP1 : P1 = none → A = 0 ∧ C1 = 0) (hP2 : P2 = none → ND - A = 0 ∧ C2 = 0)
  (h1 : ∀ W, Below w4.heap.size w4 W → ∀ ad, P1 = some ad → ∀ j u, (fl emE (D.take A))[j]? = some u → W.cell? (ad.add j) = some u) (h2 : ∀ W, Below w4.heap.size w4 W → ∀ ad, P2 = some ad → ∀ j u, (fl emE (D.drop A))[j]? = some u → W.cell? (ad.add j) = some u) :
  ∃ p6 c6 w6 p8 c8 w8 p9 c9 w9 n9, n9 = D.length + 1 ∧ (∀ ty, (Builtin.append_ #[26, 26] ty #[.slice (some ⟨w4.heap.size, 0, none⟩) 0 0, .slice P1 A C1]).run Tryz.prog (w4.alloc (.cells #[] 54)) = .ok (.slice p6 A c6) w6) ∧
   (∀ ty, (Builtin.append_ #[26, 26] ty #[.slice p6 A c6, .slice (some ⟨w6.heap.size, 0, none⟩) 1 1]).run Tryz.prog (w6.alloc (.cells #[.slice (some ⟨m.g, 0, none⟩) m.e.key.length m.c, .int .u64 m.e.id] 54)) = .ok (.slice p8 (A + 1) c8) w8) ∧
   (∀ ty, (Builtin.append_ #[26, 26] ty #[.slice p8 (A + 1) c8, .slice P2 (ND - A) C2]).run Tryz.prog w8 = .ok (.slice p9 n9 c9) w9) ∧ shr w9 54 2 (.slice p9 n9 c9) n9 (fl emE (D.take A ++ m :: D.drop A)) ∧ fresh (.slice p9 n9 c9) w4.heap.size ∧ Below w4.heap.size w4 w6 ∧ Below w4.heap.size w4 w8 ∧ Below w4.heap.size w4 w9 := by
 have b5 : Below w4.heap.size w4 (w4.alloc (.cells #[] 54)) := (Below.refl _ w4).alloc (Nat.le_refl _) _
 obtain ⟨p6, c6, w6, r6, s6, f6, b6⟩ := rwDE.appA (P := P1) (c := C1) (m := A) (B := w4.heap.size) (empty_row w4) (fun g h => by cases h; exact Nat.le_refl _) b5.size (fl_len (s := 2) emE_len _ |>.trans (by rw [List.length_take]; congr 1; omega)) hP1 (h1 _ b5) (fl_one emE_one _) (by omega)
 rw [Nat.zero_add] at r6 s6 f6
 rw [List.nil_append] at s6
 have b46 : Below w4.heap.size w4 w6 := b5.trans b6
 have b7 : Below w6.heap.size w6 (w6.alloc (.cells #[.slice (some ⟨m.g, 0, none⟩) m.e.key.length m.c, .int .u64 m.e.id] 54)) := (Below.refl _ w6).alloc (Nat.le_refl _) _
 have b47 := b46.trans (b7.mono b46.size)
 have s7 : shr (w6.alloc (.cells #[.slice (some ⟨m.g, 0, none⟩) m.e.key.length m.c, .int .u64 m.e.id] 54)) 54 2 (.slice p6 A c6) A (fl emE (D.take A)) := s6.kept (chg_bl b7) (fun _ _ h => h)
 obtain ⟨p8, c8, w8, r8, s8, f8, b8⟩ := rwDE.appA (P := some ⟨w6.heap.size, 0, none⟩) (c := 1) (m := 1) (news := emE m) s7 f6 b47.size rfl (fun h => by cases h) (fun ad h j u hj => by cases h; rw [add_plain, Nat.zero_add]; exact (cell_of_block (heap_alloc_new _ _) j).trans (by rw [← hj]; simp [emE])) (emE_one m) (by omega)
 have b48 := b47.trans b8
 obtain ⟨p9, c9, w9, r9, s9, f9, b9⟩ := rwDE.appA (P := P2) (c := C2) (m := ND - A) s8 f8 b48.size (fl_len (s := 2) emE_len _ |>.trans (by rw [List.length_drop]; congr 1; omega)) hP2 (h2 _ b48) (fl_one emE_one _) (by omega)
 refine ⟨p6, c6, w6, p8, c8, w8, p9, c9, w9, A + 1 + (ND - A), by omega, r6, r8, r9, ?_, f9, b46, b48, b48.trans b9⟩
 have e : fl emE (D.take A ++ m :: D.drop A) = fl emE (D.take A) ++ emE m ++ fl emE (D.drop A) := by rw [fl_app, fl_cons, List.append_assoc]
 rw [e]
 exact s9
theorem clone_vals {w2 : World} {b n cap : Nat} {k : List Va} (s : shr w2 40 3 (.slice (some ⟨b, 0, none⟩) n cap) n (fl vaE k)) (hb : b < w2.heap.size) : valsAt w2 b k ∧ n ≤ cap := by
 obtain ⟨p, c', e1, e2, _⟩ := s.form
 cases e1
 obtain ⟨g', off, e3, e4⟩ := s.cell
 cases e3
 exact ⟨valsAt.mk hb (fun j u hj => by have := e4 j u hj; rwa [Nat.zero_add] at this), e2⟩
end Go.Proofs.YtclcajnodoifjaaGreatDoor

namespace Go.Proofs.YtclcajnodoifjaaGreatDoor
open Go.RowKit Go.Shelf Go.Joins Go.Maps
set_option maxRecDepth 100000

/-- an append by its run, in a region that draws -/
theorem step_appq (t : TypeId) {ops : Array Oper} {o : Oper} {a : Act} {w : World} {K : Act → World → Prop} {Q : Exit → Act → World → Prop} {E : Prop} (hgd : o.guard = none) (s x : Operand) (ho : o.op = .call { callee := .builtin .append, args := #[s, x], argTypes := #[t, t] })
  {v y v' : Value} {w' : World} (hs : a.eval s = v) (hx : a.eval x = y) (hr : ∀ ty, (Builtin.append_ #[t, t] ty #[v, y]).run Tryz.prog w = .ok v' w') (h : K (a.put o.dst v') w') :
  if Region.wanted o (yielded ops a.tmps) = true then Oper.wp Tryz.prog o a w K Q else E := by
 have hwd : Region.wanted o (yielded ops a.tmps) = true := by simp [Region.wanted, hgd]
 rw [if_pos hwd]
 unfold Oper.wp execOp
 simp only [ho, resolve, invoke, builtin, Sem.run_bind, Sem.run_pure, Result.andThen_ok, List.map_toArray, List.map_cons, List.map_nil, hs, hx, hr]
 exact h
/-- is this very entry there -/
def atB (x : En) (D : List Em) : Bool := match D[place ltM (tgt x) D]? with | some y => decide (ordE y.e x = 0) | none => false
/-- what the document's Drop leaves -/
def DdQ (T : Nat → Prop) (w : World) (dd : Nat) (u : Bool) (D : List Em) (x : En) (e : Ending) (w' : World) : Prop :=
 (atB x D = false ∧ e = .returned (.bool false) ∧ Below w.heap.size w w') ∨ (atB x D = true ∧ e = .returned (.bool true) ∧ ∃ p' c', DocIn T w' dd u (D.take (place ltM (tgt x) D) ++ D.drop (place ltM (tgt x) D + 1)) (.slice p' (D.length - 1) c') ∧ Chg (fun b => b = dd) w w')
/-- a list with an entry left out, built of its two parts -/
theorem drop_rows (w4 : World) (D : List Em) (A ND C1 C2 : Nat) (P1 P2 : Option Addr) (hND : ND = D.length) (hA : A + 1 ≤ ND) (hz : ND ≤ 100000) (hP1 : P1 = none → A = 0 ∧ C1 = 0) (hP2 : P2 = none → ND - (A + 1) = 0 ∧ C2 = 0)
  (h1 : ∀ W, Below w4.heap.size w4 W → ∀ ad, P1 = some ad → ∀ j u, (fl emE (D.take A))[j]? = some u → W.cell? (ad.add j) = some u) (h2 : ∀ W, Below w4.heap.size w4 W → ∀ ad, P2 = some ad → ∀ j u, (fl emE (D.drop (A + 1)))[j]? = some u → W.cell? (ad.add j) = some u) :
  ∃ p6 c6 w6 p9 c9 w9 n9, n9 = D.length - 1 ∧ (∀ ty, (Builtin.append_ #[26, 26] ty #[.slice (some ⟨w4.heap.size, 0, none⟩) 0 0, .slice P1 A C1]).run Tryz.prog (w4.alloc (.cells #[] 54)) = .ok (.slice p6 A c6) w6) ∧
   (∀ ty, (Builtin.append_ #[26, 26] ty #[.slice p6 A c6, .slice P2 (ND - (A + 1)) C2]).run Tryz.prog w6 = .ok (.slice p9 n9 c9) w9) ∧ shr w9 54 2 (.slice p9 n9 c9) n9 (fl emE (D.take A ++ D.drop (A + 1))) ∧ fresh (.slice p9 n9 c9) w4.heap.size ∧ Below w4.heap.size w4 w6 ∧ Below w4.heap.size w4 w9 := by
 have b5 : Below w4.heap.size w4 (w4.alloc (.cells #[] 54)) := (Below.refl _ w4).alloc (Nat.le_refl _) _
 obtain ⟨p6, c6, w6, r6, s6, f6, b6⟩ := rwDE.appA (P := P1) (c := C1) (m := A) (B := w4.heap.size) (empty_row w4) (fun g h => by cases h; exact Nat.le_refl _) b5.size (fl_len (s := 2) emE_len _ |>.trans (by rw [List.length_take]; congr 1; omega)) hP1 (h1 _ b5) (fl_one emE_one _) (by omega)
 rw [Nat.zero_add] at r6 s6 f6
 rw [List.nil_append] at s6
 have b46 : Below w4.heap.size w4 w6 := b5.trans b6
 obtain ⟨p9, c9, w9, r9, s9, f9, b9⟩ := rwDE.appA (P := P2) (c := C2) (m := ND - (A + 1)) s6 f6 b46.size (fl_len (s := 2) emE_len _ |>.trans (by rw [List.length_drop]; congr 1; omega)) hP2 (h2 _ b46) (fl_one emE_one _) (by omega)
 refine ⟨p6, c6, w6, p9, c9, w9, A + (ND - (A + 1)), by omega, r6, r9, ?_, f9, b46, b46.trans b9⟩
 rw [fl_app]
 exact s9
end Go.Proofs.YtclcajnodoifjaaGreatDoor

namespace Go.Proofs.YtclcajnodoifjaaGreatDoor
open Go.RowKit Go.Shelf Go.Joins Go.Maps
set_option maxRecDepth 100000

theorem ordV_self (v : Va) : ordV v v = 0 := by have := od_ordV.turn v v; omega
theorem rowsV_self (k : List Va) : rowsV k k = 0 := by have := od_rowsV.turn k k; omega
/-- a value that is kept stands where it stood -/
theorem kep_ord {v : Va} (h : v.chk = 0) : ordV (kepV v) v = 0 := by
 have hs := ordV_self v
 unfold Va.chk chk at h
 by_cases h0 : v.ty < 0 ∨ 4 < v.ty ∨ (v.ty = 4 ∧ v.n ≠ 0 ∧ v.n ≠ 1)
 ·rw [if_pos h0] at h; cases h
 ·have hc : v.ty = 0 ∨ v.ty = 1 ∨ v.ty = 2 ∨ v.ty = 3 ∨ v.ty = 4 := by omega
  rcases hc with e | e | e | e | e <;> simp [ordV, kepV, numC, grp, e] at hs ⊢ <;> exact hs
theorem kep_row : ∀ {k : List Va}, errs k = 0 → rowsV (k.map kepV) k = 0
 | [], _ => rfl
 | v :: k, h => by
  have hv : v.chk = 0 := by
   by_cases hh : v.chk = 0
   ·exact hh
   ·rw [errs_stop hh] at h; exact h
  rw [errs_pass hv] at h
  show (if ordV (kepV v) v = 0 then rowsV (k.map kepV) k else ordV (kepV v) v) = 0
  rw [if_pos (kep_ord hv)]
  exact kep_row h
theorem ordE_zero {a b : En} : ordE a b = 0 ↔ rowsV a.key b.key = 0 ∧ a.id = b.id := by
 unfold ordE
 split
 ·rename_i h
  rw [cmpI_zero]
  exact ⟨fun e => ⟨h, e⟩, fun e => e.2⟩
 ·rename_i h
  exact ⟨fun e => absurd e h, fun e => absurd e.1 h⟩
theorem Agr.ord {a b : En} (h : Agr a b) : ordE a b = 0 := ordE_zero.2 ⟨h.2.1, h.1⟩
theorem ord_like {a b x : En} (h : ordE a b = 0) : (ordE a x ≤ 0 ↔ ordE b x ≤ 0) ∧ (ordE x a ≤ 0 ↔ ordE x b ≤ 0) := by
 have t := od_ordE.turn a b
 have h1 : ordE a b ≤ 0 := by omega
 have h2 : ordE b a ≤ 0 := by omega
 exact ⟨⟨fun e => od_ordE.trans _ _ _ h2 e, fun e => od_ordE.trans _ _ _ h1 e⟩, ⟨fun e => od_ordE.trans _ _ _ e h1, fun e => od_ordE.trans _ _ _ e h2⟩⟩
theorem ltE_like {a b x y : En} (h : ordE a b = 0) (g : ordE x y = 0) : ltE a x = ltE b y := by
 have e1 := (ord_like (x := x) h).2
 have e2 := (ord_like (x := b) g).1
 have t1 := od_ordE.turn a x
 have t2 := od_ordE.turn b x
 have t3 := od_ordE.turn b y
 unfold ltE
 congr 1
 apply propext
 omega
theorem zero_like {a b x : En} (h : ordE a b = 0) : ordE a x = 0 ↔ ordE b x = 0 := by
 have e1 := (ord_like (x := x) h).2
 have e2 := (ord_like (x := x) h).1
 have t1 := od_ordE.turn a x
 have t2 := od_ordE.turn b x
 omega
theorem agl_nil : AgL [] [] := ⟨rfl, fun i e d h => by simp at h⟩
theorem agl_cons {e d : Em} {L D : List Em} : AgL (e :: L) (d :: D) ↔ Agr e.e d.e ∧ AgL L D := by
 constructor
 ·intro h
  exact ⟨h.2 0 e d rfl rfl, by have := h.1; simpa using this, fun i x y hx hy => h.2 (i + 1) x y (by simpa using hx) (by simpa using hy)⟩
 ·rintro ⟨h1, h2⟩
  refine ⟨by simp [h2.1], fun i x y hx hy => ?_⟩
  cases i with
  | zero => simp at hx hy; subst hx; subst hy; exact h1
  | succ i => exact h2.2 i x y (by simpa using hx) (by simpa using hy)
theorem agl_ins {m x : Em} (hm : Agr m.e x.e) : ∀ {L D : List Em}, AgL L D → AgL (ins ltM m L) (ins ltM x D)
 | [], [], _ => agl_cons.2 ⟨hm, agl_nil⟩
 | [], d :: D, h => by have := h.1; simp at this
 | e :: L, [], h => by have := h.1; simp at this
 | e :: L, d :: D, h => by
  obtain ⟨h1, h2⟩ := agl_cons.1 h
  have hl : ltM e m = ltM d x := ltE_like h1.ord hm.ord
  unfold ins
  cases hc : ltM d x with
  | true =>
   rw [hc] at hl
   simp only [List.takeWhile_cons, List.dropWhile_cons, hl, hc, if_true, List.cons_append]
   exact agl_cons.2 ⟨h1, agl_ins hm h2⟩
  | false =>
   rw [hc] at hl
   simp only [List.takeWhile_cons, List.dropWhile_cons, hl, hc]
   exact agl_cons.2 ⟨hm, agl_cons.2 ⟨h1, h2⟩⟩
theorem agl_del {m x : Em} (hm : ordE m.e x.e = 0) : ∀ {L D : List Em}, AgL L D → AgL (del ltM m L) (del ltM x D)
 | [], [], _ => agl_nil
 | [], d :: D, h => by have := h.1; simp at this
 | e :: L, [], h => by have := h.1; simp at this
 | e :: L, d :: D, h => by
  obtain ⟨h1, h2⟩ := agl_cons.1 h
  have hl : ltM e m = ltM d x := ltE_like h1.ord hm
  have hr : ltM m e = ltM x d := ltE_like hm h1.ord
  have ih := agl_del hm h2
  unfold del at ih ⊢
  rw [List.filter_cons, List.filter_cons, hl, hr]
  split
  ·exact agl_cons.2 ⟨h1, ih⟩
  ·exact ih
theorem agl_rise : ∀ {L D : List Em}, AgL L D → Rise ltM L → Rise ltM D
 | [], [], _, _ => List.Pairwise.nil
 | [], d :: D, h, _ => by have := h.1; simp at this
 | e :: L, [], h, _ => by have := h.1; simp at this
 | e :: L, d :: D, h, hr => by
  obtain ⟨h1, h2⟩ := agl_cons.1 h
  obtain ⟨r1, r2⟩ := List.pairwise_cons.1 hr
  refine List.pairwise_cons.2 ⟨fun z hz => ?_, agl_rise h2 r2⟩
  obtain ⟨i, hi, hzi⟩ := List.mem_iff_getElem.1 hz
  have hiL : i < L.length := by rw [h2.1]; exact hi
  have ha := h2.2 i L[i] z (List.getElem?_eq_getElem hiL) (by rw [List.getElem?_eq_getElem hi, hzi])
  have := r1 L[i] (List.getElem_mem hiL)
  rw [show ltM e L[i] = ltM d z from ltE_like h1.ord ha.ord] at this
  exact this
/-- an entry is in the one as in the other -/
theorem agl_of {x : En} : ∀ {L D : List Em}, AgL L D → (ofEn x L = [] ↔ ofEn x D = [])
 | [], [], _ => Iff.rfl
 | [], d :: D, h => by have := h.1; simp at this
 | e :: L, [], h => by have := h.1; simp at this
 | e :: L, d :: D, h => by
  obtain ⟨h1, h2⟩ := agl_cons.1 h
  have ih := agl_of (x := x) h2
  have hz := zero_like (x := x) h1.ord
  rw [List.eq_nil_iff_forall_not_mem, List.eq_nil_iff_forall_not_mem] at ih ⊢
  simp only [ofEn_mem, List.mem_cons] at ih ⊢
  constructor
  ·intro g z hz2
   rcases hz2 with ⟨rfl | hz1, h0⟩
   ·exact g e ⟨Or.inl rfl, hz.2 h0⟩
   ·exact ih.1 (fun y hy => g y ⟨Or.inr hy.1, hy.2⟩) z ⟨hz1, h0⟩
  ·intro g z hz2
   rcases hz2 with ⟨rfl | hz1, h0⟩
   ·exact g d ⟨Or.inl rfl, hz.1 h0⟩
   ·exact ih.2 (fun y hy => g y ⟨Or.inr hy.1, hy.2⟩) z ⟨hz1, h0⟩
/-- an entry is there by the one test as by the other -/
theorem dup_of {k : List Va} {id : Int} {D : List Em} : dupB k id D = !(ofEn ⟨k, id⟩ D).isEmpty := by
 rw [Bool.eq_iff_iff]
 unfold dupB
 rw [List.any_eq_true, Bool.not_eq_true', ← Bool.not_eq_true, List.isEmpty_iff]
 constructor
 ·rintro ⟨z, h1, h2⟩ h3
  rw [Bool.and_eq_true, decide_eq_true_eq, decide_eq_true_eq] at h2
  have : z ∈ ofEn ⟨k, id⟩ D := ofEn_mem.2 ⟨h1, ordE_zero.2 h2⟩
  rw [h3] at this
  cases this
 ·intro h
  obtain ⟨z, hz⟩ := List.exists_mem_of_ne_nil _ h
  obtain ⟨h1, h2⟩ := ofEn_mem.1 hz
  have := ordE_zero.1 h2
  exact ⟨z, h1, by rw [Bool.and_eq_true, decide_eq_true_eq, decide_eq_true_eq]; exact this⟩
theorem of_like {x y : En} (h : ordE x y = 0) {D : List Em} : ofEn x D = [] ↔ ofEn y D = [] := by
 rw [List.eq_nil_iff_forall_not_mem, List.eq_nil_iff_forall_not_mem]
 simp only [ofEn_mem]
 have hz : ∀ z, ordE z x = 0 ↔ ordE z y = 0 := fun z => by
  have a1 := od_ordE.turn z x
  have a2 := od_ordE.turn z y
  have := zero_like (x := z) h
  omega
 exact ⟨fun g z hh => g z ⟨hh.1, (hz z.e).2 hh.2⟩, fun g z hh => g z ⟨hh.1, (hz z.e).1 hh.2⟩⟩
/-- the tree's Put sees a double where the document's does -/
theorem clash_dup {k : List Va} {id : Int} {L D : List Em} (hE : errs k = 0) (h : AgL L D) : clB false ⟨k.map kepV, id⟩ L = dupB k id D := by
 have e1 : clB false ⟨k.map kepV, id⟩ L = !(ofEn ⟨k.map kepV, id⟩ L).isEmpty := by unfold clB; rw [if_neg (by simp)]
 rw [e1, dup_of, Bool.eq_iff_iff]
 simp only [Bool.not_eq_true', ← Bool.not_eq_true, List.isEmpty_iff]
 have a : ordE (⟨k.map kepV, id⟩ : En) ⟨k, id⟩ = 0 := ordE_zero.2 ⟨kep_row hE, rfl⟩
 rw [of_like a, agl_of h]
theorem clash_none {y : En} {L : List Em} (h : clB false y L = false) : ∀ x ∈ L, ∀ m : Em, m.e = y → (ltM x m || ltM m x) = true := by
 intro x hx m hm
 have e1 : clB false y L = !(ofEn y L).isEmpty := by unfold clB; rw [if_neg (by simp)]
 rw [e1] at h
 simp only [Bool.not_eq_false', List.isEmpty_iff] at h
 have hz : ¬ ordE x.e y = 0 := fun e => by
  have : x ∈ ofEn y L := ofEn_mem.2 ⟨hx, e⟩
  rw [h] at this
  cases this
 subst hm
 have t := od_ordE.turn x.e m.e
 show (ltE x.e m.e || ltE m.e x.e) = true
 unfold ltE
 rw [Bool.or_eq_true, decide_eq_true_eq, decide_eq_true_eq]
 omega
/-- the document's Drop finds an entry where there is one -/
theorem at_of {x : En} {D : List Em} (hr : Rise ltM D) : atB x D = !(ofEn x D).isEmpty := by
 cases hy : D[place ltM (tgt x) D]? with
 | none =>
  have e : atB x D = false := by unfold atB; rw [hy]
  rw [e]
  have : ofEn x D = [] := by
   rw [List.eq_nil_iff_forall_not_mem]
   intro z hz
   obtain ⟨h1, h2⟩ := ofEn_mem.1 hz
   obtain ⟨i, hi, hzi⟩ := List.mem_iff_getElem.1 h1
   have hl := List.getElem?_eq_none_iff.1 hy
   have := place_ahead (lt := ltM) (e := tgt x) (l := D) (i := i) (y := z) (by omega) (by rw [List.getElem?_eq_getElem hi, hzi])
   have h3 : ltE z.e x = true := this
   unfold ltE at h3
   rw [decide_eq_true_eq] at h3
   omega
  rw [this]; rfl
 | some y =>
  have e : atB x D = decide (ordE y.e x = 0) := by unfold atB; rw [hy]
  rw [e]
  have hp : 0 ≤ ordE y.e x := ltE_not.1 (show ltM y (tgt x) = false from place_at hy)
  by_cases h0 : ordE y.e x = 0
  ·have : ofEn x D ≠ [] := fun hn => by
    have hm : y ∈ ofEn x D := ofEn_mem.2 ⟨List.mem_of_getElem? hy, h0⟩
    rw [hn] at hm
    cases hm
   rw [decide_eq_true h0]
   cases hh : ofEn x D with
   | nil => exact absurd hh this
   | cons => rfl
  ·rw [decide_eq_false h0]
   have : ofEn x D = [] := by
    rw [List.eq_nil_iff_forall_not_mem]
    intro z hz
    obtain ⟨h1, h2⟩ := ofEn_mem.1 hz
    obtain ⟨i, hi, hzi⟩ := List.mem_iff_getElem.1 h1
    by_cases hlt : i < place ltM (tgt x) D
    ·have h3 : ltE z.e x = true := place_ahead (lt := ltM) (e := tgt x) (l := D) (i := i) (y := z) hlt (by rw [List.getElem?_eq_getElem hi, hzi])
     unfold ltE at h3
     rw [decide_eq_true_eq] at h3
     omega
    ·obtain ⟨hA, hyA⟩ := List.getElem?_eq_some_iff.1 hy
     rcases Nat.lt_or_eq_of_le (Nat.le_of_not_lt hlt) with hgt | heq
     ·have hyz : ltM D[place ltM (tgt x) D] D[i] = true := List.pairwise_iff_getElem.1 hr _ _ hA hi hgt
      rw [hyA, hzi] at hyz
      have h4 : ltE y.e z.e = true := hyz
      have e5 : ltE y.e z.e = ltE y.e x := ltE_like (by have := od_ordE.turn y.e y.e; omega) h2
      rw [e5, ltE_not.2 hp] at h4
      cases h4
     ·subst heq
      rw [hyA] at hzi
      subst hzi
      exact h0 h2
   rw [this]; rfl
/-- and leaves out what the tree's leaves out -/
theorem cut_del {x : En} {D : List Em} (hr : Rise ltM D) (h : atB x D = true) : D.take (place ltM (tgt x) D) ++ D.drop (place ltM (tgt x) D + 1) = del ltM (tgt x) D := by
 cases hy : D[place ltM (tgt x) D]? with
 | none => unfold atB at h; rw [hy] at h; cases h
 | some y =>
  have h0 : ordE y.e x = 0 := by unfold atB at h; rw [hy] at h; exact of_decide_eq_true h
  obtain ⟨hA, hyA⟩ := List.getElem?_eq_some_iff.1 hy
  have e : D = D.take (place ltM (tgt x) D) ++ y :: D.drop (place ltM (tgt x) D + 1) := by
   rw [← drop_at hy, List.take_append_drop]
  have t := od_ordE.turn y.e x
  have hd := del_like (lt := ltM) (e := tgt x) (y := y) (a := D.take (place ltM (tgt x) D)) (b := D.drop (place ltM (tgt x) D + 1))
   (fun z hz => by
    obtain ⟨i, hi, hzi⟩ := List.mem_iff_getElem.1 hz
    rw [List.length_take] at hi
    rw [List.getElem_take] at hzi
    exact place_ahead (lt := ltM) (e := tgt x) (l := D) (i := i) (y := z) (by omega) (by rw [List.getElem?_eq_getElem (by omega), hzi]))
   (fun z hz => by
    obtain ⟨i, hi, hzi⟩ := List.mem_iff_getElem.1 hz
    rw [List.length_drop] at hi
    rw [List.getElem_drop] at hzi
    have hyz : ltM D[place ltM (tgt x) D] D[place ltM (tgt x) D + 1 + i] = true := List.pairwise_iff_getElem.1 hr _ _ hA (by omega) (by omega)
    rw [hyA, hzi] at hyz
    have h4 : ltE y.e z.e = true := hyz
    have e5 : ltE y.e z.e = ltE x z.e := ltE_like h0 (by have := od_ordE.turn z.e z.e; omega)
    rw [e5] at h4
    exact h4)
   (ltE_not.2 (by show 0 ≤ ordE y.e x; omega)) (ltE_not.2 (by show 0 ≤ ordE x y.e; omega))
  rw [← e] at hd
  exact hd.symm
theorem del_rise {m : Em} {L : List Em} (h : Rise ltM L) : Rise ltM (del ltM m L) := List.Pairwise.filter _ h
end Go.Proofs.YtclcajnodoifjaaGreatDoor

namespace Go.Proofs.YtclcajnodoifjaaGreatDoor
open Go.RowKit Go.Shelf Go.Joins Go.Maps
set_option maxRecDepth 100000

theorem ins_len {α : Type} {lt : α → α → Bool} {e : α} {l : List α} : (ins lt e l).length = l.length + 1 := by
 unfold ins
 have := congrArg List.length (List.takeWhile_append_dropWhile (p := fun x => lt x e) (l := l))
 rw [List.length_append] at this
 rw [List.length_append, List.length_cons]
 omega
theorem chg_keepT {T Y : Nat → Prop} {w w' : World} (h : Chg Y w w') (ho : ∀ b, Y b → ¬ T b) : Keeps T w w' := Keeps.of_chg h (fun b hb _ hy => ho b hy hb)
theorem DocIn.chg {T S : Nat → Prop} {w w' : World} {d : Nat} {u : Bool} {l : List Em} {v : Value} (h : DocIn T w d u l v) (hc : Chg S w w') (hs : ∀ b, S b → ¬ T b) (hd : ¬ S d) : DocIn T w' d u l v :=
 ⟨hc.at_ h.box hd, h.row.keeps (chg_keepT hc hs), fun q hq => (h.keys q hq).keeps (chg_keepT hc hs)⟩
theorem DocIn.mono {T U : Nat → Prop} {w : World} {d : Nat} {u : Bool} {l : List Em} {v : Value} (h : DocIn T w d u l v) (hu : ∀ b, b < w.heap.size → T b → U b) : DocIn U w d u l v :=
 ⟨h.box, h.row.mono hu, fun q hq => (h.keys q hq).mono hu⟩
theorem trq_rt {T : Nat → Prop} {w w' : World} {bt : Nat} {u : Bool} {sz : Int} {L : List Em} (h : TrQ T w bt u sz L w') (hr : Rise ltM L) : ∃ d n p1 n1 c1 p2 n2 c2, RtIn T w' d (min d 1) n (.slice p1 n1 c1) (.slice p2 n2 c2) ∧ w'.heap[bt]? = some (trO u (.slice p1 n1 c1) (.slice p2 n2 c2) sz) ∧ n.fl = L := by
 obtain ⟨d, n, p1, n1, c1, p2, n2, c2, a1, a2, a3, a4, _⟩ := h
 refine ⟨d, n, p1, n1, c1, p2, n2, c2, ⟨a2, a3, fun hd => ?_, by rw [a4]; exact hr⟩, a1, a4⟩
 have := wf_len a3
 omega
end Go.Proofs.YtclcajnodoifjaaGreatDoor

namespace Go.Proofs.YtclcajnodoifjaaGreatDoor
open Go.RowKit Go.Shelf Go.Joins Go.Maps
set_option maxRecDepth 100000

theorem blk_of_shr {w : World} {b n cap : Nat} {e : TypeId} {xs : List Value} (s : shr w e 3 (.slice (some ⟨b, 0, none⟩) n cap) n xs) : ∃ cs, w.heap[b]? = some (.cells cs e (0, 0)) := by
 rcases s.2 with ⟨h, _⟩ | ⟨g, off, cap', cur, h, hg, _⟩
 ·cases h
 ·cases h
  exact ⟨cur, hg⟩
set_option maxHeartbeats 4000000 in
set_option maxRecDepth 1000000 in
theorem copied_blk0 (p : Option Addr) (c : Nat) (w : World) :
  Calls Tryz.prog 15 #[.slice p 0 c] w fun e w' => e = .returned (.slice (some ⟨w.heap.size, 0, none⟩) 0 0) ∧ w.heap.size < w'.heap.size ∧ (∃ cs, w'.heap[w.heap.size]? = some (.cells cs 40 (0, 0))) ∧ Below w.heap.size w w' := by
 have HB : Hid (∀ cs, w.heap.size < (w.alloc (.cells cs 40)).heap.size ∧ (∃ cs', (w.alloc (.cells cs 40)).heap[w.heap.size]? = some (.cells cs' 40 (0, 0))) ∧ Below w.heap.size w (w.alloc (.cells cs 40))) := fun cs => ⟨by rw [World.size_alloc]; omega, ⟨cs, heap_alloc_new _ _⟩, (Below.refl _ w).alloc (Nat.le_refl _) _⟩
 go_enter Tryz.func15, Tryz.ntmps15
 go_wp2_with (at_builtin; refine wp_app 30 rfl (.tmp 3) (.tmp 4) rfl rfl rfl (fun ty => app_nothing _ _ _ _ ty) ?_)
 go_ret
 exact ⟨rfl, HB.out _⟩
theorem chg_new {A : Nat → Prop} {a b d : World} {g : Nat} (h : Chg A a b) (k : Chg (fun i => i = g) b d) (hg : a.heap.size ≤ g) : Chg A a d :=
 ⟨k.os.trans h.os, k.tape.trans h.tape, k.output.trans h.output, Nat.le_trans h.size k.size, fun i hi hn => (k.block i (Nat.lt_of_lt_of_le hi h.size) (fun e => by omega)).trans (h.block i hi hn)⟩
end Go.Proofs.YtclcajnodoifjaaGreatDoor

namespace Go.Proofs.YtclcajnodoifjaaGreatDoor
open Go.RowKit Go.Shelf Go.Joins Go.Maps
set_option maxRecDepth 100000

end Go.Proofs.YtclcajnodoifjaaGreatDoor

namespace Go.Proofs.YtclcajnodoifjaaGreatDoor
open Go.RowKit Go.Shelf Go.Joins Go.Maps
set_option maxRecDepth 100000

theorem btw_nil (L : List Em) : btw [] [] false false L = L := by
 unfold btw within
 exact List.filter_eq_self.2 (fun x _ => by simp [loB, hiB])
/-- an act -/
structure Ac where
 kd : Int
 stop : Int
 k : List Va
 q : Option Addr
 c : Nat
 id : Int
 P1 : Option Addr
 n1 : Nat
 C1 : Nat
 P2 : Option Addr
 n2 : Nat
 C2 : Nat
 li : Bool
 hi : Bool
def Ac.en (a : Ac) : List Value := [.int .i64 a.kd, .int .i64 a.stop, .slice a.q a.k.length a.c, .int .u64 a.id, .slice a.P1 a.n1 a.C1, .slice a.P2 a.n2 a.C2, .bool a.li, .bool a.hi]
def actsAt (w : World) (P : Option Addr) (l : List Ac) : Prop := l = [] ∨ ∃ g o, P = some ⟨g, o, none⟩ ∧ g < w.heap.size ∧ ∀ i a, l[i]? = some a → ∀ j u, a.en[j]? = some u → w.cell? ⟨g, o + i * 8 + j, none⟩ = some u
end Go.Proofs.YtclcajnodoifjaaGreatDoor

namespace Go.Proofs.YtclcajnodoifjaaGreatDoor
open Go.RowKit Go.Shelf Go.Joins Go.Maps
set_option maxRecDepth 100000

end Go.Proofs.YtclcajnodoifjaaGreatDoor

namespace Go.Proofs.YtclcajnodoifjaaGreatDoor
open Go.RowKit Go.Shelf Go.Joins Go.Maps
set_option maxRecDepth 100000

end Go.Proofs.YtclcajnodoifjaaGreatDoor

