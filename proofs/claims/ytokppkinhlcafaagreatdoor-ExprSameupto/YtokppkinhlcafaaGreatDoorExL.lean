/-
  The walk of lockstepref07.All of some.
-/
import Derived.Test.YtokppkinhlcafaaGreatDoorExK
namespace Go.Proofs.YtokppkinhlcafaaGreatDoor
open Go.RowKit Go.Joins
set_option maxRecDepth 100000

/-- in the loop: e, the condition so far, in the box b -/
def AlI (w wr : World) (n b i : Nat) (l : List Ex) : Prop := Below w.heap.size w wr ∧ wr.heap[w.heap.size]? = some (.cells #[.string ⟨#[]⟩, .slice none 0 0, .int .i64 0, .int .i64 0, .string ⟨#[]⟩, .string ⟨#[]⟩, .string ⟨#[]⟩, .int .i64 0, .int .i64 0] 26 (0, 0)) ∧ b < wr.heap.size ∧ w.heap.size < b ∧ ∃ Pe Ce, wr.heap[b]? = some (.cells (exC (exUpto l i) Pe Ce).toArray 26 (0, 0)) ∧ exIn wr (fun q => q ≠ w.heap.size ∧ q ≠ b ∧ q < wr.heap.size) (n + i) (exUpto l i) (exC (exUpto l i) Pe Ce)
theorem lt_of_some {w : World} {b : Nat} {o : Obj} (h : w.heap[b]? = some o) : b < w.heap.size := (Array.getElem?_eq_some_iff.1 h).1
theorem nine_set {w : World} {b : Nat} {x0 x1 x2 x3 x4 x5 x6 x7 x8 v0 v1 v2 v3 v4 v5 v6 v7 v8 : Value} {t : TypeId} {z : Nat × Nat} (h : w.heap[b]? = some (.cells #[x0, x1, x2, x3, x4, x5, x6, x7, x8] t z)) : (((((((((w.setCell ⟨b, 0, none⟩ (v0)).setCell ⟨b, 1, none⟩ (v1)).setCell ⟨b, 2, none⟩ (v2)).setCell ⟨b, 3, none⟩ (v3)).setCell ⟨b, 4, none⟩ (v4)).setCell ⟨b, 5, none⟩ (v5)).setCell ⟨b, 6, none⟩ (v6)).setCell ⟨b, 7, none⟩ (v7)).setCell ⟨b, 8, none⟩ (v8)).heap[b]? = some (.cells #[v0, v1, v2, v3, v4, v5, v6, v7, v8] t z) :=
  (heap_set_inX (o := 8) (v := v8) (heap_set_inX (o := 7) (v := v7) (heap_set_inX (o := 6) (v := v6) (heap_set_inX (o := 5) (v := v5) (heap_set_inX (o := 4) (v := v4) (heap_set_inX (o := 3) (v := v3) (heap_set_inX (o := 2) (v := v2) (heap_set_inX (o := 1) (v := v1) (heap_set_inX (o := 0) (v := v0) (h)))))))))).trans (by simp only [List.setIfInBounds_toArray, List.set_cons_zero, List.set_cons_succ])
theorem AlI.drew {w wr : World} {n b i : Nat} {l : List Ex} (h : AlI w wr n b i l) : AlI w wr.drew n b i l := by
  obtain ⟨h1, h2, h3, h4, Pe, Ce, h5, h6⟩ := h
  exact ⟨h1.drew, h2, h3, h4, Pe, Ce, h5, exIn.map (w := wr) (w' := wr.drew) (fun _ _ _ _ hc => hc) (fun _ h => h) h6⟩
theorem AlI.step {w wr : World} {n b i : Nat} {l : List Ex} {e y : Ex} {Pe Py : Option Addr} {Ce Cy : Nat} {S : Nat → Prop} (hi : 0 < i) (hb : Below w.heap.size w wr) (hZ : wr.heap[w.heap.size]? = some (.cells #[.string ⟨#[]⟩, .slice none 0 0, .int .i64 0, .int .i64 0, .string ⟨#[]⟩, .string ⟨#[]⟩, .string ⟨#[]⟩, .int .i64 0, .int .i64 0] 26 (0, 0))) (lb : b < wr.heap.size) (wb : w.heap.size < b) (hB : wr.heap[b]? = some (.cells (exC e Pe Ce).toArray 26 (0, 0))) (ie : exIn wr (fun q => q ≠ w.heap.size ∧ q ≠ b ∧ q < wr.heap.size) (n + i) e (exC e Pe Ce)) (he : e = exUpto l i) (hy : l[i]? = some y) (hS : ∀ q, S q → q < w.heap.size) (iy : exIn w S n y (exC y Py Cy)) :
    AlI w ((((((((((wr.setCell ⟨b, 0, none⟩ (.string ⟨#[97, 110, 100]⟩)).setCell ⟨b, 1, none⟩ (.slice (some ⟨wr.heap.size, 0, none⟩) 2 2)).setCell ⟨b, 2, none⟩ (.int .i64 0)).setCell ⟨b, 3, none⟩ (.int .i64 0)).setCell ⟨b, 4, none⟩ (.string ⟨#[]⟩)).setCell ⟨b, 5, none⟩ (.string ⟨#[]⟩)).setCell ⟨b, 6, none⟩ (.string ⟨#[]⟩)).setCell ⟨b, 7, none⟩ (.int .i64 0)).setCell ⟨b, 8, none⟩ (.int .i64 0)).alloc (.cells #[.string e.op, .slice Pe e.parts.length Ce, .int .i64 e.vt, .int .i64 e.vn, .string e.vs, .string e.nm, .string e.of, .int .i64 e.ty, .int .i64 e.at_, .string y.op, .slice Py y.parts.length Cy, .int .i64 y.vt, .int .i64 y.vn, .string y.vs, .string y.nm, .string y.of, .int .i64 y.ty, .int .i64 y.at_] 26)) n b (i + 1) l := by
  obtain ⟨V, hV⟩ : ∃ V, V = (((((((((wr.setCell ⟨b, 0, none⟩ (.string ⟨#[97, 110, 100]⟩)).setCell ⟨b, 1, none⟩ (.slice (some ⟨wr.heap.size, 0, none⟩) 2 2)).setCell ⟨b, 2, none⟩ (.int .i64 0)).setCell ⟨b, 3, none⟩ (.int .i64 0)).setCell ⟨b, 4, none⟩ (.string ⟨#[]⟩)).setCell ⟨b, 5, none⟩ (.string ⟨#[]⟩)).setCell ⟨b, 6, none⟩ (.string ⟨#[]⟩)).setCell ⟨b, 7, none⟩ (.int .i64 0)).setCell ⟨b, 8, none⟩ (.int .i64 0)) := ⟨_, rfl⟩
  have ho : Off b b wr V := by rw [hV]; exact (((((((((Off.refl b b wr).set (Or.inl rfl) _).set (Or.inl rfl) _).set (Or.inl rfl) _).set (Or.inl rfl) _).set (Or.inl rfl) _).set (Or.inl rfl) _).set (Or.inl rfl) _).set (Or.inl rfl) _).set (Or.inl rfl) _
  have h9 : V.heap[b]? = some (.cells (exC (andE e y) (some ⟨wr.heap.size, 0, none⟩) 2).toArray 26 (0, 0)) := by rw [hV]; exact nine_set hB
  rw [← hV]
  have sz := ho.size
  have bV : Below w.heap.size w V := hb.trans (ho.below (by omega) (by omega))
  have bA : Below V.heap.size V (V.alloc (.cells #[.string e.op, .slice Pe e.parts.length Ce, .int .i64 e.vt, .int .i64 e.vn, .string e.vs, .string e.nm, .string e.of, .int .i64 e.ty, .int .i64 e.at_, .string y.op, .slice Py y.parts.length Cy, .int .i64 y.vt, .int .i64 y.vn, .string y.vs, .string y.nm, .string y.of, .int .i64 y.ty, .int .i64 y.at_] 26)) := (Below.refl _ V).alloc (Nat.le_refl _) _
  have hN : (V.alloc (.cells #[.string e.op, .slice Pe e.parts.length Ce, .int .i64 e.vt, .int .i64 e.vn, .string e.vs, .string e.nm, .string e.of, .int .i64 e.ty, .int .i64 e.at_, .string y.op, .slice Py y.parts.length Cy, .int .i64 y.vt, .int .i64 y.vn, .string y.vs, .string y.nm, .string y.of, .int .i64 y.ty, .int .i64 y.at_] 26)).heap[wr.heap.size]? = some (.cells (exC e Pe Ce ++ exC y Py Cy).toArray 26 (0, 0)) := by
    rw [← sz]; exact heap_alloc_new _ _
  have sA : (V.alloc (.cells #[.string e.op, .slice Pe e.parts.length Ce, .int .i64 e.vt, .int .i64 e.vn, .string e.vs, .string e.nm, .string e.of, .int .i64 e.ty, .int .i64 e.at_, .string y.op, .slice Py y.parts.length Cy, .int .i64 y.vt, .int .i64 y.vn, .string y.vs, .string y.nm, .string y.of, .int .i64 y.ty, .int .i64 y.at_] 26)).heap.size = wr.heap.size + 1 := by rw [World.size_alloc, sz]
  have hZV : V.heap[w.heap.size]? = some (.cells #[.string ⟨#[]⟩, .slice none 0 0, .int .i64 0, .int .i64 0, .string ⟨#[]⟩, .string ⟨#[]⟩, .string ⟨#[]⟩, .int .i64 0, .int .i64 0] 26 (0, 0)) := (ho.block _ (by omega) (by omega)).trans hZ
  have cl : ∀ q o u, q ≠ b → wr.cell? ⟨q, o, none⟩ = some u → (V.alloc (.cells #[.string e.op, .slice Pe e.parts.length Ce, .int .i64 e.vt, .int .i64 e.vn, .string e.vs, .string e.nm, .string e.of, .int .i64 e.ty, .int .i64 e.at_, .string y.op, .slice Py y.parts.length Cy, .int .i64 y.vt, .int .i64 y.vn, .string y.vs, .string y.nm, .string y.of, .int .i64 y.ty, .int .i64 y.at_] 26)).cell? ⟨q, o, none⟩ = some u := fun q o u hq hc => by
    have hc2 := ho.cell hq hq hc
    exact (bA.cell (World.block_lt_of_cell? _ _ hc2)).trans hc2
  have hw := hb.size
  refine ⟨bV.trans (bA.mono bV.size), (bA.block _ (lt_of_some hZV)).trans hZV, by omega, wb, some ⟨wr.heap.size, 0, none⟩, 2, ?_, ?_⟩
  · rw [exUpto_next hi hy, ← he]
    exact (bA.block _ (lt_of_some h9)).trans h9
  · rw [exUpto_next hi hy, ← he]
    refine and_in (Px := Pe) (Cx := Ce) (Py := Py) (Cy := Cy) (exIn.map (fun q o u hq hc => cl q o u hq.2.1 hc) (fun q hq => ⟨hq.1, hq.2.1, by omega⟩) ie) ((exIn.map (fun q o u hq hc => cl q o u (by have := hS q hq; omega) hc) (fun q hq => by have := hS q hq; exact ⟨by omega, by omega, by omega⟩) (iy.below hb)).le (Nat.le_add_right _ _)) ⟨by omega, by omega, by omega⟩ (fun r u hr => ?_) (fun r u hr => ?_)
    · rw [cell_of_block hN]
      have := (List.getElem?_eq_some_iff.1 hr).1
      simp only [List.getElem?_toArray]
      rw [List.getElem?_append_left this]; exact hr
    · rw [cell_of_block hN]
      simp only [List.getElem?_toArray]
      have hl : (exC e Pe Ce).length = 9 := rfl
      rw [List.getElem?_append_right (by omega), hl, Nat.add_sub_cancel_left]; exact hr
set_option maxHeartbeats 4000000 in
set_option maxRecDepth 1000000 in
theorem refAll_some (n : Nat) (S : Nat → Prop) (l : List Ex) (g o C : Nat) (w : World) (h0 : 0 < l.length) (hl : l.length ≤ 100000000) (hS : ∀ q, S q → q < w.heap.size) (hc : ∀ i p, l[i]? = some p → ∃ Pp Cp, exIn w S n p (exC p Pp Cp) ∧ ∀ (r : Nat) (u : Value), (exC p Pp Cp)[r]? = some u → w.cell? ⟨g, o + i * 9 + r, none⟩ = some u) :
    Calls Tryz.prog 10 #[.slice (some ⟨g, o, none⟩) l.length C] w fun e w' => ∃ P' C', e = .returned (exV (exAll l) P' C') ∧ exIn w' (fun q => q < w'.heap.size) (n + l.length) (exAll l) (exC (exAll l) P' C') ∧ Below w.heap.size w w' := by
  obtain ⟨x0, hx0⟩ : ∃ x, l[0]? = some x := ⟨_, List.getElem?_eq_getElem h0⟩
  obtain ⟨Px, Cx, ix, cx⟩ := hc 0 x0 hx0
  have u0 : w.cell? ⟨g, o, none⟩ = some (.string x0.op) := by have := cx 0 _ rfl; simpa using this
  have u1 : w.cell? ⟨g, o + 1, none⟩ = some (.slice Px x0.parts.length Cx) := by have := cx 1 _ rfl; simpa using this
  have u2 : w.cell? ⟨g, o + 2, none⟩ = some (.int .i64 x0.vt) := by have := cx 2 _ rfl; simpa using this
  have u3 : w.cell? ⟨g, o + 3, none⟩ = some (.int .i64 x0.vn) := by have := cx 3 _ rfl; simpa using this
  have u4 : w.cell? ⟨g, o + 4, none⟩ = some (.string x0.vs) := by have := cx 4 _ rfl; simpa using this
  have u5 : w.cell? ⟨g, o + 5, none⟩ = some (.string x0.nm) := by have := cx 5 _ rfl; simpa using this
  have u6 : w.cell? ⟨g, o + 6, none⟩ = some (.string x0.of) := by have := cx 6 _ rfl; simpa using this
  have u7 : w.cell? ⟨g, o + 7, none⟩ = some (.int .i64 x0.ty) := by have := cx 7 _ rfl; simpa using this
  have u8 : w.cell? ⟨g, o + 8, none⟩ = some (.int .i64 x0.at_) := by have := cx 8 _ rfl; simpa using this
  have ng : g < w.heap.size := World.block_lt_of_cell? _ _ u0
  have nh : g ≠ w.heap.size := by omega
  obtain ⟨NL, hNL⟩ : ∃ N, N = l.length := ⟨_, rfl⟩
  have HC := mkHid hc
  have HX := mkHid hx0
  have IX := mkHid ix
  have HS := mkHid hS
  rw [← hNL] at h0 hl ⊢
  have HN := mkHid hNL
  have z1 : ((NL : Int) == 0) = false := by rw [beq_eq_false_iff_ne]; omega
  have z2 : (0 : Int) < (NL : Int) := by omega
  clear hc hx0 ix cx hS hNL
  have I0 : Hid (AlI w ((w.alloc (.cells #[.string ⟨#[]⟩, .slice none 0 0, .int .i64 0, .int .i64 0, .string ⟨#[]⟩, .string ⟨#[]⟩, .string ⟨#[]⟩, .int .i64 0, .int .i64 0] 26)).alloc (.cells #[.string x0.op, .slice Px x0.parts.length Cx, .int .i64 x0.vt, .int .i64 x0.vn, .string x0.vs, .string x0.nm, .string x0.of, .int .i64 x0.ty, .int .i64 x0.at_] 26)) n (w.heap.size + 1) 1 l) := by
    have b1 : Below w.heap.size w (w.alloc (.cells #[.string ⟨#[]⟩, .slice none 0 0, .int .i64 0, .int .i64 0, .string ⟨#[]⟩, .string ⟨#[]⟩, .string ⟨#[]⟩, .int .i64 0, .int .i64 0] 26)) := (Below.refl _ w).alloc (Nat.le_refl _) _
    have b2 := b1.alloc b1.size (.cells #[.string x0.op, .slice Px x0.parts.length Cx, .int .i64 x0.vt, .int .i64 x0.vn, .string x0.vs, .string x0.nm, .string x0.of, .int .i64 x0.ty, .int .i64 x0.at_] 26)
    have s1 : (w.alloc (.cells #[.string ⟨#[]⟩, .slice none 0 0, .int .i64 0, .int .i64 0, .string ⟨#[]⟩, .string ⟨#[]⟩, .string ⟨#[]⟩, .int .i64 0, .int .i64 0] 26)).heap.size = w.heap.size + 1 := by simp
    have s2 : ((w.alloc (.cells #[.string ⟨#[]⟩, .slice none 0 0, .int .i64 0, .int .i64 0, .string ⟨#[]⟩, .string ⟨#[]⟩, .string ⟨#[]⟩, .int .i64 0, .int .i64 0] 26)).alloc (.cells #[.string x0.op, .slice Px x0.parts.length Cx, .int .i64 x0.vt, .int .i64 x0.vn, .string x0.vs, .string x0.nm, .string x0.of, .int .i64 x0.ty, .int .i64 x0.at_] 26)).heap.size = w.heap.size + 1 + 1 := by simp
    have h1 : ((w.alloc (.cells #[.string ⟨#[]⟩, .slice none 0 0, .int .i64 0, .int .i64 0, .string ⟨#[]⟩, .string ⟨#[]⟩, .string ⟨#[]⟩, .int .i64 0, .int .i64 0] 26)).alloc (.cells #[.string x0.op, .slice Px x0.parts.length Cx, .int .i64 x0.vt, .int .i64 x0.vn, .string x0.vs, .string x0.nm, .string x0.of, .int .i64 x0.ty, .int .i64 x0.at_] 26)).heap[w.heap.size + 1]? = some (.cells #[.string x0.op, .slice Px x0.parts.length Cx, .int .i64 x0.vt, .int .i64 x0.vn, .string x0.vs, .string x0.nm, .string x0.of, .int .i64 x0.ty, .int .i64 x0.at_] 26 (0, 0)) := by
      have := heap_alloc_new (w.alloc (.cells #[.string ⟨#[]⟩, .slice none 0 0, .int .i64 0, .int .i64 0, .string ⟨#[]⟩, .string ⟨#[]⟩, .string ⟨#[]⟩, .int .i64 0, .int .i64 0] 26)) (.cells #[.string x0.op, .slice Px x0.parts.length Cx, .int .i64 x0.vt, .int .i64 x0.vn, .string x0.vs, .string x0.nm, .string x0.of, .int .i64 x0.ty, .int .i64 x0.at_] 26)
      rw [s1] at this
      exact this
    refine ⟨b2, ?_, by omega, by omega, Px, Cx, ?_, ?_⟩
    · have b3 := (Below.refl (w.alloc (.cells #[.string ⟨#[]⟩, .slice none 0 0, .int .i64 0, .int .i64 0, .string ⟨#[]⟩, .string ⟨#[]⟩, .string ⟨#[]⟩, .int .i64 0, .int .i64 0] 26)).heap.size (w.alloc (.cells #[.string ⟨#[]⟩, .slice none 0 0, .int .i64 0, .int .i64 0, .string ⟨#[]⟩, .string ⟨#[]⟩, .string ⟨#[]⟩, .int .i64 0, .int .i64 0] 26))).alloc (Nat.le_refl _) (.cells #[.string x0.op, .slice Px x0.parts.length Cx, .int .i64 x0.vt, .int .i64 x0.vn, .string x0.vs, .string x0.nm, .string x0.of, .int .i64 x0.ty, .int .i64 x0.at_] 26)
      exact (b3.block _ (by omega)).trans (heap_alloc_new _ _)
    · rw [exUpto_one HX.out]; exact h1
    · rw [exUpto_one HX.out]
      exact ((IX.out.below b2).more (fun q hq => ⟨by have := HS.out q hq; omega, by have := HS.out q hq; omega, by have := HS.out q hq; omega⟩)).le (by omega)
  go_enter Tryz.func10, Tryz.ntmps10
  go_wp2_with fail
  obtain ⟨W2, hW2⟩ : ∃ W, W = ((w.alloc (.cells #[.string ⟨#[]⟩, .slice none 0 0, .int .i64 0, .int .i64 0, .string ⟨#[]⟩, .string ⟨#[]⟩, .string ⟨#[]⟩, .int .i64 0, .int .i64 0] 26)).alloc (.cells #[.string x0.op, .slice Px x0.parts.length Cx, .int .i64 x0.vt, .int .i64 x0.vn, .string x0.vs, .string x0.nm, .string x0.of, .int .i64 x0.ty, .int .i64 x0.at_] 26)) := ⟨_, rfl⟩
  obtain ⟨b, hb⟩ : ∃ b, b = w.heap.size + 1 := ⟨_, rfl⟩
  rw [← hW2, ← hb] at I0 ⊢
  clear hW2 hb u0 u1 u2 u3 u4 u5 u6 u7 u8 nh
  go_loopw [4] (fun s4 wr => ∃ i : Nat, s4 = .int .i64 i ∧ 1 ≤ i ∧ i ≤ NL ∧ Hid (AlI w wr n b i l)) (fun s4 _ => NL - (intOf s4).toNat)
  case atStart => exact ⟨1, rfl, Nat.le_refl _, by omega, I0⟩
  case round =>
    obtain ⟨i, rfl, hi1, hi, hI⟩ := hrel
    clear I0 z1 z2
    by_cases hlt : i < NL
    · obtain ⟨y, hy⟩ : ∃ x, l[i]? = some x := ⟨_, List.getElem?_eq_getElem (by have := HN.out; omega)⟩
      obtain ⟨Py, Cy, iy, cy⟩ := HC.out i y hy
      obtain ⟨hb, hZ, lb, wb, Pe, Ce, hB, ie⟩ := hI.out
      obtain ⟨e, he⟩ : ∃ e, e = exUpto l i := ⟨_, rfl⟩
      rw [← he] at hB ie
      have HE := mkHid he
      have HY := mkHid hy
      have IY := mkHid iy
      have IE := mkHid ie
      have HB := mkHid hB
      have i1 : (i : Int) < (NL : Int) := by omega
      have i2 : (0 : Int) ≤ (i : Int) := by omega
      have v0 : wr.cell? ⟨g, o + i * 9, none⟩ = some (.string y.op) := (hb.cell (p := ⟨g, o + i * 9, none⟩) ng).trans (cy 0 _ rfl)
      have v1 : wr.cell? ⟨g, o + i * 9 + 1, none⟩ = some (.slice Py y.parts.length Cy) := (hb.cell (p := ⟨g, o + i * 9 + 1, none⟩) ng).trans (cy 1 _ rfl)
      have v2 : wr.cell? ⟨g, o + i * 9 + 2, none⟩ = some (.int .i64 y.vt) := (hb.cell (p := ⟨g, o + i * 9 + 2, none⟩) ng).trans (cy 2 _ rfl)
      have v3 : wr.cell? ⟨g, o + i * 9 + 3, none⟩ = some (.int .i64 y.vn) := (hb.cell (p := ⟨g, o + i * 9 + 3, none⟩) ng).trans (cy 3 _ rfl)
      have v4 : wr.cell? ⟨g, o + i * 9 + 4, none⟩ = some (.string y.vs) := (hb.cell (p := ⟨g, o + i * 9 + 4, none⟩) ng).trans (cy 4 _ rfl)
      have v5 : wr.cell? ⟨g, o + i * 9 + 5, none⟩ = some (.string y.nm) := (hb.cell (p := ⟨g, o + i * 9 + 5, none⟩) ng).trans (cy 5 _ rfl)
      have v6 : wr.cell? ⟨g, o + i * 9 + 6, none⟩ = some (.string y.of) := (hb.cell (p := ⟨g, o + i * 9 + 6, none⟩) ng).trans (cy 6 _ rfl)
      have v7 : wr.cell? ⟨g, o + i * 9 + 7, none⟩ = some (.int .i64 y.ty) := (hb.cell (p := ⟨g, o + i * 9 + 7, none⟩) ng).trans (cy 7 _ rfl)
      have v8 : wr.cell? ⟨g, o + i * 9 + 8, none⟩ = some (.int .i64 y.at_) := (hb.cell (p := ⟨g, o + i * 9 + 8, none⟩) ng).trans (cy 8 _ rfl)
      have y0 : wr.cell? ⟨b, 0, none⟩ = some (.string e.op) := (cell_of_block hB 0).trans rfl
      have f0 := unfrozen_of_block hB 0
      have y1 : wr.cell? ⟨b, 1, none⟩ = some (.slice Pe e.parts.length Ce) := (cell_of_block hB 1).trans rfl
      have f1 := unfrozen_of_block hB 1
      have y2 : wr.cell? ⟨b, 2, none⟩ = some (.int .i64 e.vt) := (cell_of_block hB 2).trans rfl
      have f2 := unfrozen_of_block hB 2
      have y3 : wr.cell? ⟨b, 3, none⟩ = some (.int .i64 e.vn) := (cell_of_block hB 3).trans rfl
      have f3 := unfrozen_of_block hB 3
      have y4 : wr.cell? ⟨b, 4, none⟩ = some (.string e.vs) := (cell_of_block hB 4).trans rfl
      have f4 := unfrozen_of_block hB 4
      have y5 : wr.cell? ⟨b, 5, none⟩ = some (.string e.nm) := (cell_of_block hB 5).trans rfl
      have f5 := unfrozen_of_block hB 5
      have y6 : wr.cell? ⟨b, 6, none⟩ = some (.string e.of) := (cell_of_block hB 6).trans rfl
      have f6 := unfrozen_of_block hB 6
      have y7 : wr.cell? ⟨b, 7, none⟩ = some (.int .i64 e.ty) := (cell_of_block hB 7).trans rfl
      have f7 := unfrozen_of_block hB 7
      have y8 : wr.cell? ⟨b, 8, none⟩ = some (.int .i64 e.at_) := (cell_of_block hB 8).trans rfl
      have f8 := unfrozen_of_block hB 8
      have ng1 : g < wr.heap.size := Nat.lt_of_lt_of_le ng hb.size
      have ng2 : g ≠ wr.heap.size := by omega
      have nb2 : b ≠ wr.heap.size := by omega
      clear hy iy cy he hB ie hb hZ
      go_wp2_with fail
      go_region
      obtain ⟨W3, hW3⟩ : ∃ W, W = ((((((((((wr.setCell ⟨b, 0, none⟩ (.string ⟨#[97, 110, 100]⟩)).setCell ⟨b, 1, none⟩ (.slice (some ⟨wr.heap.size, 0, none⟩) 2 2)).setCell ⟨b, 2, none⟩ (.int .i64 0)).setCell ⟨b, 3, none⟩ (.int .i64 0)).setCell ⟨b, 4, none⟩ (.string ⟨#[]⟩)).setCell ⟨b, 5, none⟩ (.string ⟨#[]⟩)).setCell ⟨b, 6, none⟩ (.string ⟨#[]⟩)).setCell ⟨b, 7, none⟩ (.int .i64 0)).setCell ⟨b, 8, none⟩ (.int .i64 0)).alloc (.cells #[.string e.op, .slice Pe e.parts.length Ce, .int .i64 e.vt, .int .i64 e.vn, .string e.vs, .string e.nm, .string e.of, .int .i64 e.ty, .int .i64 e.at_, .string y.op, .slice Py y.parts.length Cy, .int .i64 y.vt, .int .i64 y.vn, .string y.vs, .string y.nm, .string y.of, .int .i64 y.ty, .int .i64 y.at_] 26)).drew := ⟨_, rfl⟩
      rw [← hW3]
      have I3 : Hid (AlI w W3 n b (i + 1) l) := by
        rw [hW3]
        obtain ⟨hb, hZ, lb, wb, _⟩ := hI.out
        exact (AlI.step hi1 hb hZ lb wb HB.out IE.out HE.out HY.out HS.out IY.out).drew
      clear hW3 v0 v1 v2 v3 v4 v5 v6 v7 v8 y0 y1 y2 y3 y4 y5 y6 y7 y8 f0 f1 f2 f3 f4 f5 f6 f7 f8 HB IE HE HY IY hI
      go_wp2_with fail
      go_roundw
      case rel => exact ⟨i + 1, by go_num, by omega, hlt, I3⟩
      case measure => simp [intOf]; omega
    · obtain rfl : NL = i := by omega
      obtain ⟨hb, hZ, lb, wb, Pe, Ce, hB, ie⟩ := hI.out
      have hall : exUpto l NL = exAll l := by rw [HN.out]; exact exUpto_all
      rw [hall] at hB ie
      obtain ⟨e, he⟩ : ∃ e, e = exAll l := ⟨_, rfl⟩
      rw [← he] at hB ie
      have HE := mkHid he
      have y0 : wr.cell? ⟨b, 0, none⟩ = some (.string e.op) := (cell_of_block hB 0).trans rfl
      have r0 : wr.cell? ⟨w.heap.size, 0, none⟩ = some (.string ⟨#[]⟩) := (cell_of_block hZ 0).trans rfl
      have f0 := unfrozen_of_block hZ 0
      have y1 : wr.cell? ⟨b, 1, none⟩ = some (.slice Pe e.parts.length Ce) := (cell_of_block hB 1).trans rfl
      have r1 : wr.cell? ⟨w.heap.size, 1, none⟩ = some (.slice none 0 0) := (cell_of_block hZ 1).trans rfl
      have f1 := unfrozen_of_block hZ 1
      have y2 : wr.cell? ⟨b, 2, none⟩ = some (.int .i64 e.vt) := (cell_of_block hB 2).trans rfl
      have r2 : wr.cell? ⟨w.heap.size, 2, none⟩ = some (.int .i64 0) := (cell_of_block hZ 2).trans rfl
      have f2 := unfrozen_of_block hZ 2
      have y3 : wr.cell? ⟨b, 3, none⟩ = some (.int .i64 e.vn) := (cell_of_block hB 3).trans rfl
      have r3 : wr.cell? ⟨w.heap.size, 3, none⟩ = some (.int .i64 0) := (cell_of_block hZ 3).trans rfl
      have f3 := unfrozen_of_block hZ 3
      have y4 : wr.cell? ⟨b, 4, none⟩ = some (.string e.vs) := (cell_of_block hB 4).trans rfl
      have r4 : wr.cell? ⟨w.heap.size, 4, none⟩ = some (.string ⟨#[]⟩) := (cell_of_block hZ 4).trans rfl
      have f4 := unfrozen_of_block hZ 4
      have y5 : wr.cell? ⟨b, 5, none⟩ = some (.string e.nm) := (cell_of_block hB 5).trans rfl
      have r5 : wr.cell? ⟨w.heap.size, 5, none⟩ = some (.string ⟨#[]⟩) := (cell_of_block hZ 5).trans rfl
      have f5 := unfrozen_of_block hZ 5
      have y6 : wr.cell? ⟨b, 6, none⟩ = some (.string e.of) := (cell_of_block hB 6).trans rfl
      have r6 : wr.cell? ⟨w.heap.size, 6, none⟩ = some (.string ⟨#[]⟩) := (cell_of_block hZ 6).trans rfl
      have f6 := unfrozen_of_block hZ 6
      have y7 : wr.cell? ⟨b, 7, none⟩ = some (.int .i64 e.ty) := (cell_of_block hB 7).trans rfl
      have r7 : wr.cell? ⟨w.heap.size, 7, none⟩ = some (.int .i64 0) := (cell_of_block hZ 7).trans rfl
      have f7 := unfrozen_of_block hZ 7
      have y8 : wr.cell? ⟨b, 8, none⟩ = some (.int .i64 e.at_) := (cell_of_block hB 8).trans rfl
      have r8 : wr.cell? ⟨w.heap.size, 8, none⟩ = some (.int .i64 0) := (cell_of_block hZ 8).trans rfl
      have f8 := unfrozen_of_block hZ 8
      have IE := mkHid ie
      have BB := mkHid hb
      have nw : b ≠ w.heap.size := by omega
      clear hb hZ hB ie he hall hI
      go_wp2_with fail
      refine bodyPost_ret (v := exV e Pe Ce) (by simp [results, Tryz.results10, go_sem, r0, r1, r2, r3, r4, r5, r6, r7, r8]) rfl ?_
      have fin : ∀ V, Off w.heap.size w.heap.size wr V → exIn V (fun q => q < V.heap.size) (n + NL) e (exC e Pe Ce) ∧ Below w.heap.size w V := fun V ho => ⟨exIn.map (fun q o u hq hc => ho.cell hq.1 hq.1 hc) (fun q hq => by rw [ho.size]; exact hq.2.2) IE.out, BB.out.trans (ho.below (Nat.le_refl _) (Nat.le_refl _))⟩
      rw [← HE.out]
      have := fin _ ((((((((((Off.refl w.heap.size w.heap.size wr).set (a := ⟨w.heap.size, 0, none⟩) (Or.inl rfl) (.string e.op)).set (a := ⟨w.heap.size, 1, none⟩) (Or.inl rfl) (.slice Pe e.parts.length Ce)).set (a := ⟨w.heap.size, 2, none⟩) (Or.inl rfl) (.int .i64 e.vt)).set (a := ⟨w.heap.size, 3, none⟩) (Or.inl rfl) (.int .i64 e.vn)).set (a := ⟨w.heap.size, 4, none⟩) (Or.inl rfl) (.string e.vs)).set (a := ⟨w.heap.size, 5, none⟩) (Or.inl rfl) (.string e.nm)).set (a := ⟨w.heap.size, 6, none⟩) (Or.inl rfl) (.string e.of)).set (a := ⟨w.heap.size, 7, none⟩) (Or.inl rfl) (.int .i64 e.ty)).set (a := ⟨w.heap.size, 8, none⟩) (Or.inl rfl) (.int .i64 e.at_))
      exact ⟨Pe, Ce, rfl, this.1, this.2⟩
end Go.Proofs.YtokppkinhlcafaaGreatDoor
