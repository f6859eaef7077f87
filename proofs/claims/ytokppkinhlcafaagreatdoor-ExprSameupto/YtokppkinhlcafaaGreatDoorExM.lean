/-
  The walk of expr.copied.
-/
import Derived.Test.YtokppkinhlcafaaGreatDoorExL
import Derived.Laws.OwnMore
namespace Go.Proofs.YtokppkinhlcafaaGreatDoor
open Go.RowKit Go.Joins
set_option maxRecDepth 100000

/-- the Parts of an expression, cell by cell -/
theorem parts_cells {w : World} {S : Nat → Prop} {n : Nat} {a : Ex} {g o C : Nat} (h : exIn w S (n + 1) a (exC a (some ⟨g, o, none⟩) C)) : ∃ ys, ys.length = a.parts.length * 9 ∧ (∀ j u, ys[j]? = some u → w.cell? ⟨g, o + j, none⟩ = some u) ∧ els w S n a.parts ys := by
  have key : ∀ j x, a.parts[j]? = some x → ∃ Px Cx, exIn w S n x (exC x Px Cx) ∧ ∀ (r : Nat) (u : Value), (exC x Px Cx)[r]? = some u → w.cell? ⟨g, o + j * 9 + r, none⟩ = some u := fun j x hj => by
    obtain ⟨g', o', Px, Cx, e, h1, h2⟩ := h.part hj
    cases e
    exact ⟨Px, Cx, h1, h2⟩
  refine ⟨(List.range (a.parts.length * 9)).map (fun j => (w.cell? ⟨g, o + j, none⟩).getD undef), by simp, fun j u hj => ?_, fun j x hj => ?_⟩
  · have hl : j < a.parts.length * 9 := by have := (List.getElem?_eq_some_iff.1 hj).1; simpa using this
    obtain ⟨x, hx⟩ : ∃ x, a.parts[j / 9]? = some x := ⟨_, List.getElem?_eq_getElem (by omega)⟩
    obtain ⟨Px, Cx, h1, h2⟩ := key _ x hx
    obtain ⟨v, hv⟩ : ∃ v, (exC x Px Cx)[j % 9]? = some v := ⟨_, List.getElem?_eq_getElem (by rw [h1.len]; omega)⟩
    have := h2 _ _ hv
    rw [show o + j / 9 * 9 + j % 9 = o + j by omega] at this
    rw [List.getElem?_map, List.getElem?_range hl] at hj
    simp only [Option.map_some, this, Option.getD_some, Option.some.injEq] at hj
    rw [← hj]; exact this
  · obtain ⟨Px, Cx, h1, h2⟩ := key j x hj
    have hjl := (List.getElem?_eq_some_iff.1 hj).1
    refine ⟨Px, Cx, h1, fun r u hr => ?_⟩
    have hrl : r < 9 := by have := (List.getElem?_eq_some_iff.1 hr).1; rwa [h1.len] at this
    rw [List.getElem?_map, List.getElem?_range (by omega)]
    have := h2 r u hr
    rw [show o + j * 9 + r = o + (j * 9 + r) by omega] at this
    simp [this]
/-- what Clone makes of Parts -/
def ClQ (w : World) (S : Nat → Prop) (n : Nat) (l : List Ex) (e : Ending) (w' : World) : Prop := ∃ P2 C2 ys, e = .returned (.slice P2 l.length C2) ∧ w'.ownsRow w.heap.size 26 9 (.slice P2 l.length C2) l.length ys ∧ els w S n l ys ∧ Below w.heap.size w w'
set_option maxHeartbeats 2000000 in
set_option maxRecDepth 1000000 in
theorem CloneEx_zero (p : Addr) (C : Nat) (w : World) : Calls Tryz.prog 21 #[.slice (some p) 0 C] w fun e w' => ∃ v, e = .returned v ∧ w'.ownsRow w.heap.size 26 9 v 0 [] ∧ Below w.heap.size w w' := by
  obtain ⟨W, hW⟩ : ∃ W, W = w.alloc (.cells #[] 26) := ⟨_, rfl⟩
  have bA : Below w.heap.size w W := by rw [hW]; exact (Below.refl _ w).alloc (Nat.le_refl _) _
  have hown : W.ownsRow w.heap.size 26 9 (.slice (some ⟨w.heap.size, 0, none⟩) 0 0) 0 [] := by rw [hW]; exact World.ownsRow_made w #[] 0 (Nat.le_refl _) (by unfold maxLen; omega) rfl
  have r : ∀ ty, (Builtin.append_ #[22, 22] ty #[.slice (some ⟨w.heap.size, 0, none⟩) 0 0, .slice (some p) 0 C]).run Tryz.prog W = .ok (.slice (some ⟨w.heap.size, 0, none⟩) 0 0) W := fun ty => by
    obtain ⟨i0, hi, hz0, hz1, hz2⟩ := info_parts exInfo
    simp [Builtin.append_, run_underlying exSlice, sizeOf, typeInfo, hi, Builtin.lenOf, Builtin.firstCells, loadCells, loadCellsFrom, storeCells]
  have FX : Hid (W.ownsRow w.heap.size 26 9 (.slice (some ⟨w.heap.size, 0, none⟩) 0 0) 0 [] ∧ Below w.heap.size w W) := ⟨hown, bA⟩
  have HW := mkHid hW
  have HR := mkHid r
  have ne : ∀ w, (binOp .eql 22 (.slice (some p) 0 C) (.slice none 0 0)).run Tryz.prog w = .ok (.bool false) w := fun w => by kernel_rfl
  clear hown bA hW r
  go_enter Tryz.func21, Tryz.ntmps21
  go_wp2_with (at_builtin; rw [← HW.out]; refine wp_appX 22 rfl (.tmp 5) (.tmp 6) rfl rfl rfl HR.out ?_)
  go_ret
  exact ⟨_, rfl, FX.out⟩
theorem CloneEx_any (S : Nat → Prop) (n : Nat) (a : Ex) (P : Option Addr) (C : Nat) (w : World) (h : exIn w S (n + 1) a (exC a P C)) : Calls Tryz.prog 21 #[.slice P a.parts.length C] w fun e w' => ClQ w S n a.parts e w' := by
  have hG := h.good
  obtain ⟨hn, hs⟩ : (P = none → C = 0 ∧ a.parts = []) ∧ (a.parts = [] ∨ ∃ g o, P = some ⟨g, o, none⟩) := by
    obtain ⟨P', C', e1, _, h1, h2⟩ := h
    unfold exC at e1
    injection e1 with _ e1
    injection e1 with e1 _
    injection e1 with e1 _ e2
    subst e1 e2
    refine ⟨h1, ?_⟩
    rcases h2 with h2 | ⟨g, o, h2, _⟩
    · exact Or.inl h2
    · exact Or.inr ⟨g, o, h2⟩
  cases P with
  | none =>
    obtain ⟨rfl, hp⟩ := hn rfl
    rw [hp]
    refine (CloneEx_nil w).mono (fun e w' hq => ?_)
    obtain ⟨rfl, rfl⟩ := hq
    exact ⟨none, 0, [], rfl, World.ownsRow_nil _ _ _ _, fun j x hj => by simp at hj, Below.refl _ _⟩
  | some p =>
    rcases hs with hp | ⟨g, o, hp⟩
    · rw [hp]
      refine (CloneEx_zero p C w).mono (fun e w' hq => ?_)
      obtain ⟨v, rfl, ho, hb⟩ := hq
      obtain ⟨P2, C2, rfl⟩ := own_form ho
      exact ⟨P2, C2, [], rfl, ho, fun j x hj => by simp at hj, hb⟩
    · cases hp
      obtain ⟨ys, h1, h2, h3⟩ := parts_cells h
      refine (CloneEx_some g o a.parts.length C ys w hG.1 h1 h2 (own_ones h3 h1)).mono (fun e w' hq => ?_)
      obtain ⟨v, rfl, ho, hb⟩ := hq
      obtain ⟨P2, C2, rfl⟩ := own_form ho
      exact ⟨P2, C2, ys, rfl, ho, h3, hb⟩
/-- nine places of a list anew -/
def put9 (xs : List Value) (k : Nat) (v0 v1 v2 v3 v4 v5 v6 v7 v8 : Value) : List Value := ((((((((xs.set k v0).set (k + 1) v1).set (k + 2) v2).set (k + 3) v3).set (k + 4) v4).set (k + 5) v5).set (k + 6) v6).set (k + 7) v7).set (k + 8) v8
theorem put9_out {xs : List Value} {k q : Nat} {v0 v1 v2 v3 v4 v5 v6 v7 v8 : Value} (h : q < k ∨ k + 9 ≤ q) : (put9 xs k v0 v1 v2 v3 v4 v5 v6 v7 v8)[q]? = xs[q]? := by
  unfold put9
  rw [List.getElem?_set_ne (by omega), List.getElem?_set_ne (by omega), List.getElem?_set_ne (by omega), List.getElem?_set_ne (by omega), List.getElem?_set_ne (by omega), List.getElem?_set_ne (by omega), List.getElem?_set_ne (by omega), List.getElem?_set_ne (by omega), List.getElem?_set_ne (by omega)]
theorem put9_in {xs : List Value} {k q r : Nat} {v0 v1 v2 v3 v4 v5 v6 v7 v8 u : Value} (hk : k + 9 ≤ xs.length) (hq : q = k + r) (h : [v0, v1, v2, v3, v4, v5, v6, v7, v8][r]? = some u) : (put9 xs k v0 v1 v2 v3 v4 v5 v6 v7 v8)[q]? = some u := by
  have hr : r < 9 := (List.getElem?_eq_some_iff.1 h).1
  unfold put9
  match r, hr with
  | 0, _ =>
    cases h
    obtain rfl : k = q := by omega
    rw [List.getElem?_set_ne (by omega), List.getElem?_set_ne (by omega), List.getElem?_set_ne (by omega), List.getElem?_set_ne (by omega), List.getElem?_set_ne (by omega), List.getElem?_set_ne (by omega), List.getElem?_set_ne (by omega), List.getElem?_set_ne (by omega), List.getElem?_set_self (by first | omega | (simp only [List.length_set]; omega))]
  | 1, _ =>
    cases h
    obtain rfl : q = k + 1 := hq
    rw [List.getElem?_set_ne (by omega), List.getElem?_set_ne (by omega), List.getElem?_set_ne (by omega), List.getElem?_set_ne (by omega), List.getElem?_set_ne (by omega), List.getElem?_set_ne (by omega), List.getElem?_set_ne (by omega), List.getElem?_set_self (by first | omega | (simp only [List.length_set]; omega))]
  | 2, _ =>
    cases h
    obtain rfl : q = k + 2 := hq
    rw [List.getElem?_set_ne (by omega), List.getElem?_set_ne (by omega), List.getElem?_set_ne (by omega), List.getElem?_set_ne (by omega), List.getElem?_set_ne (by omega), List.getElem?_set_ne (by omega), List.getElem?_set_self (by first | omega | (simp only [List.length_set]; omega))]
  | 3, _ =>
    cases h
    obtain rfl : q = k + 3 := hq
    rw [List.getElem?_set_ne (by omega), List.getElem?_set_ne (by omega), List.getElem?_set_ne (by omega), List.getElem?_set_ne (by omega), List.getElem?_set_ne (by omega), List.getElem?_set_self (by first | omega | (simp only [List.length_set]; omega))]
  | 4, _ =>
    cases h
    obtain rfl : q = k + 4 := hq
    rw [List.getElem?_set_ne (by omega), List.getElem?_set_ne (by omega), List.getElem?_set_ne (by omega), List.getElem?_set_ne (by omega), List.getElem?_set_self (by first | omega | (simp only [List.length_set]; omega))]
  | 5, _ =>
    cases h
    obtain rfl : q = k + 5 := hq
    rw [List.getElem?_set_ne (by omega), List.getElem?_set_ne (by omega), List.getElem?_set_ne (by omega), List.getElem?_set_self (by first | omega | (simp only [List.length_set]; omega))]
  | 6, _ =>
    cases h
    obtain rfl : q = k + 6 := hq
    rw [List.getElem?_set_ne (by omega), List.getElem?_set_ne (by omega), List.getElem?_set_self (by first | omega | (simp only [List.length_set]; omega))]
  | 7, _ =>
    cases h
    obtain rfl : q = k + 7 := hq
    rw [List.getElem?_set_ne (by omega), List.getElem?_set_self (by first | omega | (simp only [List.length_set]; omega))]
  | 8, _ =>
    cases h
    obtain rfl : q = k + 8 := hq
    rw [List.getElem?_set_self (by first | omega | (simp only [List.length_set]; omega))]
theorem own9 {w : World} {base g cap n k : Nat} {xs : List Value} {v0 v1 v2 v3 v4 v5 v6 v7 v8 : Value} (h : w.ownsRow base 26 9 (.slice (some ⟨g, 0, none⟩) n cap) n xs) :
    (((((((((w.setCell ⟨g, k, none⟩ v0).setCell ⟨g, k + 1, none⟩ v1).setCell ⟨g, k + 2, none⟩ v2).setCell ⟨g, k + 3, none⟩ v3).setCell ⟨g, k + 4, none⟩ v4).setCell ⟨g, k + 5, none⟩ v5).setCell ⟨g, k + 6, none⟩ v6).setCell ⟨g, k + 7, none⟩ v7).setCell ⟨g, k + 8, none⟩ v8).ownsRow base 26 9 (.slice (some ⟨g, 0, none⟩) n cap) n (put9 xs k v0 v1 v2 v3 v4 v5 v6 v7 v8) ∧ w.grownBy (((((((((w.setCell ⟨g, k, none⟩ v0).setCell ⟨g, k + 1, none⟩ v1).setCell ⟨g, k + 2, none⟩ v2).setCell ⟨g, k + 3, none⟩ v3).setCell ⟨g, k + 4, none⟩ v4).setCell ⟨g, k + 5, none⟩ v5).setCell ⟨g, k + 6, none⟩ v6).setCell ⟨g, k + 7, none⟩ v7).setCell ⟨g, k + 8, none⟩ v8) (some g) := by
  have s0 := h.stored k v0
  have s1 := s0.1.stored (k + 1) v1
  have s2 := s1.1.stored (k + 2) v2
  have s3 := s2.1.stored (k + 3) v3
  have s4 := s3.1.stored (k + 4) v4
  have s5 := s4.1.stored (k + 5) v5
  have s6 := s5.1.stored (k + 6) v6
  have s7 := s6.1.stored (k + 7) v7
  have s8 := s7.1.stored (k + 8) v8
  exact ⟨s8.1, (((((((s0.2.trans s1.2).trans s2.2).trans s3.2).trans s4.2).trans s5.2).trans s6.2).trans s7.2).trans s8.2⟩
/-- in the loop: the first i Parts are copied -/
def CoI (w wr : World) (S : Nat → Prop) (n i : Nat) (a : Ex) (P2 : Option Addr) (C2 : Nat) : Prop := Below w.heap.size w wr ∧ wr.heap[w.heap.size]? = some (.cells #[.string ⟨#[]⟩, .slice none 0 0, .int .i64 0, .int .i64 0, .string ⟨#[]⟩, .string ⟨#[]⟩, .string ⟨#[]⟩, .int .i64 0, .int .i64 0] 26 (0, 0)) ∧ wr.heap[w.heap.size + 1]? = some (.cells (exC a P2 C2).toArray 26 (0, 0)) ∧
  ∃ ys, wr.ownsRow (w.heap.size + 2) 26 9 (.slice P2 a.parts.length C2) a.parts.length ys ∧ ∀ j x, a.parts[j]? = some x → ∃ Px Cx, exIn wr (fun g => if j < i then (w.heap.size + 2 ≤ g ∧ (Value.slice P2 a.parts.length C2).ownBlock ≠ some g ∧ g < wr.heap.size) else S g) n x (exC x Px Cx) ∧ ∀ (r : Nat) (u : Value), (exC x Px Cx)[r]? = some u → ys[j * 9 + r]? = some u
theorem CoI.drew {w wr : World} {S : Nat → Prop} {n i : Nat} {a : Ex} {P2 : Option Addr} {C2 : Nat} (h : CoI w wr S n i a P2 C2) : CoI w wr.drew S n i a P2 C2 := by
  obtain ⟨h1, h2, h3, ys, h4, h5⟩ := h
  refine ⟨h1.drew, h2, h3, ys, h4.drew, fun j x hj => ?_⟩
  obtain ⟨Px, Cx, h6, h7⟩ := h5 j x hj
  exact ⟨Px, Cx, exIn.map (w := wr) (w' := wr.drew) (fun _ _ _ _ hc => hc) (fun _ h => h) h6, h7⟩
theorem CoI.start {w W w1 : World} {S : Nat → Prop} {n : Nat} {a : Ex} {P P2 : Option Addr} {C C2 : Nat} {ys : List Value} (hS : ∀ g, S g → g < w.heap.size) (hW : W = (w.alloc (.cells #[.string ⟨#[]⟩, .slice none 0 0, .int .i64 0, .int .i64 0, .string ⟨#[]⟩, .string ⟨#[]⟩, .string ⟨#[]⟩, .int .i64 0, .int .i64 0] 26)).alloc (.cells #[.string a.op, .slice P a.parts.length C, .int .i64 a.vt, .int .i64 a.vn, .string a.vs, .string a.nm, .string a.of, .int .i64 a.ty, .int .i64 a.at_] 26)) (ho : w1.ownsRow W.heap.size 26 9 (.slice P2 a.parts.length C2) a.parts.length ys) (he : els W S n a.parts ys) (hb : Below W.heap.size W w1) :
    CoI w (w1.setCell ⟨w.heap.size + 1, 1, none⟩ (.slice P2 a.parts.length C2)) S n 0 a P2 C2 := by
  have sW : W.heap.size = w.heap.size + 2 := by rw [hW]; simp
  have bW : Below w.heap.size w W := by rw [hW]; exact ((Below.refl _ w).alloc (Nat.le_refl _) _).alloc (by simp) _
  have hZ : W.heap[w.heap.size]? = some (.cells #[.string ⟨#[]⟩, .slice none 0 0, .int .i64 0, .int .i64 0, .string ⟨#[]⟩, .string ⟨#[]⟩, .string ⟨#[]⟩, .int .i64 0, .int .i64 0] 26 (0, 0)) := by
    rw [hW]
    have b3 := (Below.refl (w.alloc (.cells #[.string ⟨#[]⟩, .slice none 0 0, .int .i64 0, .int .i64 0, .string ⟨#[]⟩, .string ⟨#[]⟩, .string ⟨#[]⟩, .int .i64 0, .int .i64 0] 26)).heap.size (w.alloc (.cells #[.string ⟨#[]⟩, .slice none 0 0, .int .i64 0, .int .i64 0, .string ⟨#[]⟩, .string ⟨#[]⟩, .string ⟨#[]⟩, .int .i64 0, .int .i64 0] 26))).alloc (Nat.le_refl _) (.cells #[.string a.op, .slice P a.parts.length C, .int .i64 a.vt, .int .i64 a.vn, .string a.vs, .string a.nm, .string a.of, .int .i64 a.ty, .int .i64 a.at_] 26)
    exact (b3.block _ (by simp)).trans (heap_alloc_new _ _)
  have hB : W.heap[w.heap.size + 1]? = some (.cells #[.string a.op, .slice P a.parts.length C, .int .i64 a.vt, .int .i64 a.vn, .string a.vs, .string a.nm, .string a.of, .int .i64 a.ty, .int .i64 a.at_] 26 (0, 0)) := by
    rw [hW]
    have := heap_alloc_new (w.alloc (.cells #[.string ⟨#[]⟩, .slice none 0 0, .int .i64 0, .int .i64 0, .string ⟨#[]⟩, .string ⟨#[]⟩, .string ⟨#[]⟩, .int .i64 0, .int .i64 0] 26)) (.cells #[.string a.op, .slice P a.parts.length C, .int .i64 a.vt, .int .i64 a.vn, .string a.vs, .string a.nm, .string a.of, .int .i64 a.ty, .int .i64 a.at_] 26)
    rw [World.size_alloc] at this
    exact this
  have hf := (Off.refl (w.heap.size + 1) (w.heap.size + 1) w1).set (a := ⟨w.heap.size + 1, 1, none⟩) (Or.inl rfl) (.slice P2 a.parts.length C2)
  have hsz := hf.size
  have hsb := hb.size
  refine ⟨(bW.trans (hb.mono (by omega))).trans (hf.below (by omega) (by omega)), (hf.block _ (by omega) (by omega)).trans ((hb.block _ (by omega)).trans hZ), heap_set_inX ((hb.block _ (by omega)).trans hB), ys, ?_, fun j x hj => ?_⟩
  · rw [← sW]
    exact World.ownsRow.kept ho (row := some (w.heap.size + 1)) ⟨hf.os, hf.tape, hf.output, by omega, fun k _ hk => hf.block k (fun e => hk (by rw [e])) (fun e => hk (by rw [e]))⟩ (Or.inr fun e => by have := (own_lt ho e).1; omega)
  · obtain ⟨Px, Cx, h1, h2⟩ := he j x hj
    refine ⟨Px, Cx, ?_, h2⟩
    simp only [Nat.not_lt_zero, if_false]
    exact exIn.map (fun g o u hg hc => hf.cell (by have := hS g hg; omega) (by have := hS g hg; omega) hc) (fun _ h => h) (h1.below hb)
theorem CoI.step {w wr w1 : World} {S : Nat → Prop} {n i : Nat} {a x : Ex} {R C2 C1 : Nat} {P1 : Option Addr} (hI : CoI w wr S n i a (some ⟨R, 0, none⟩) C2) (hS : ∀ g, S g → g < w.heap.size) (hx : a.parts[i]? = some x) (hb : Below wr.heap.size wr w1) (i1 : exIn w1 (fun g => wr.heap.size ≤ g ∧ g < w1.heap.size) n x (exC x P1 C1)) :
    CoI w (((((((((w1.setCell ⟨R, i * 9, none⟩ (.string x.op)).setCell ⟨R, i * 9 + 1, none⟩ (.slice P1 x.parts.length C1)).setCell ⟨R, i * 9 + 2, none⟩ (.int .i64 x.vt)).setCell ⟨R, i * 9 + 3, none⟩ (.int .i64 x.vn)).setCell ⟨R, i * 9 + 4, none⟩ (.string x.vs)).setCell ⟨R, i * 9 + 5, none⟩ (.string x.nm)).setCell ⟨R, i * 9 + 6, none⟩ (.string x.of)).setCell ⟨R, i * 9 + 7, none⟩ (.int .i64 x.ty)).setCell ⟨R, i * 9 + 8, none⟩ (.int .i64 x.at_)) S n (i + 1) a (some ⟨R, 0, none⟩) C2 := by
  obtain ⟨h1, h2, h3, ys, h4, h5⟩ := hI
  have hR := own_lt h4 (g := R) rfl
  have o1 := own_belowX h4 hb
  obtain ⟨o9, g9⟩ := own9 (k := i * 9) (v0 := (.string x.op)) (v1 := (.slice P1 x.parts.length C1)) (v2 := (.int .i64 x.vt)) (v3 := (.int .i64 x.vn)) (v4 := (.string x.vs)) (v5 := (.string x.nm)) (v6 := (.string x.of)) (v7 := (.int .i64 x.ty)) (v8 := (.int .i64 x.at_)) o1
  have hil : i < a.parts.length := (List.getElem?_eq_some_iff.1 hx).1
  have hyl := h4.1
  have s1 := hb.size
  have s9 := g9.size
  have s0 := h1.size
  refine ⟨(h1.trans (hb.mono s0)).trans ⟨g9.os, g9.tape, g9.output, g9.size, fun k hk => g9.block k (by omega) (fun e => by cases e; omega)⟩, (g9.block _ (by omega) (fun e => by cases e; omega)).trans ((hb.block _ (by omega)).trans h2), (g9.block _ (by omega) (fun e => by cases e; omega)).trans ((hb.block _ (by omega)).trans h3), _, o9, fun j y hj => ?_⟩
  by_cases hji : j = i
  · subst hji
    obtain rfl : x = y := by rw [hx] at hj; cases hj; rfl
    refine ⟨P1, C1, exIn.map (fun g o u hg hc => g9.cell hc (fun e => by have e2 : g = R := Option.some.inj e; obtain ⟨hg1, hg2⟩ := hg; omega)) (fun g hg => ?_) i1, fun r u hr => put9_in (by omega) rfl hr⟩
    obtain ⟨hg1, hg2⟩ := hg
    show if j < j + 1 then _ else _
    rw [if_pos (by omega)]
    exact ⟨by omega, (fun e => by have e2 : R = g := Option.some.inj e; omega), by omega⟩
  · obtain ⟨Px, Cx, h6, h7⟩ := h5 j y hj
    refine ⟨Px, Cx, ?_, fun r u hr => ?_⟩
    · refine exIn.map (fun g o u hg hc => g9.cell hc (fun e => ?_)) (fun g hg => ?_) (h6.below hb)
      · have e2 : g = R := Option.some.inj e
        subst e2
        split at hg
        · exact hg.2.1 rfl
        · have := hS _ hg; omega
      · by_cases hlt : j < i
        · rw [if_pos hlt] at hg
          rw [if_pos (by omega)]
          exact ⟨hg.1, hg.2.1, by omega⟩
        · rw [if_neg hlt] at hg
          rw [if_neg (by omega)]
          exact hg
    · have hrl : r < 9 := (List.getElem?_eq_some_iff.1 hr).1
      rw [put9_out (by omega)]
      exact h7 r u hr
theorem CoI.done {w wr Z : World} {S : Nat → Prop} {n : Nat} {a : Ex} {P2 : Option Addr} {C2 : Nat} (hI : CoI w wr S n a.parts.length a P2 C2) (hG : exG a) (ho : Off w.heap.size w.heap.size wr Z) : CpQ w (n + 1) a (.returned (exV a P2 C2)) Z := by
  obtain ⟨h1, h2, h3, ys, h4, h5⟩ := hI
  have sz := ho.size
  refine ⟨P2, C2, rfl, ⟨P2, C2, rfl, hG, ?_, ?_⟩, h1.trans (ho.below (Nat.le_refl _) (Nat.le_refl _))⟩
  · rcases h4.2 with ⟨e, e2⟩ | ⟨g, cap, cur, e, _⟩
    · injection e with _ _ e3
      exact fun _ => ⟨e3, List.eq_nil_of_length_eq_zero e2⟩
    · cases e
      exact fun e => by cases e
  · rcases h4.2 with ⟨e, e2⟩ | ⟨g, cap, cur, e, hg, _⟩
    · exact Or.inl (List.eq_nil_of_length_eq_zero e2)
    · cases e
      refine Or.inr ⟨g, 0, rfl, ⟨by omega, by have := (own_lt h4 (g := g) rfl).2; omega⟩, fun i p hp => ?_⟩
      obtain ⟨Px, Cx, h6, h7⟩ := h5 i p hp
      have hil := (List.getElem?_eq_some_iff.1 hp).1
      refine ⟨_, exIn.map (fun q o u hq hc => ?_) (fun q hq => ?_) h6, fun r u hr => ?_⟩
      · rw [if_pos hil] at hq
        exact ho.cell (by omega) (by omega) hc
      · rw [if_pos hil] at hq
        exact ⟨by omega, by omega⟩
      · have hrl : r < 9 := (List.getElem?_eq_some_iff.1 hr).1
        have c := (h4.cellAt (i * 9 + r) (by omega)).trans (h7 r u hr)
        rw [show 0 + i * 9 + r = i * 9 + r by omega]
        exact ho.cell (by omega) (by omega) c
end Go.Proofs.YtokppkinhlcafaaGreatDoor
