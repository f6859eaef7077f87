/-
 The walks of slices.Clone at any row, of between.
-/
import Derived.Test.YtclcajnodoifjaaGreatDoorBxFSx
namespace Go.Proofs.YtclcajnodoifjaaGreatDoor
open Go.RowKit Go.Shelf Go.Joins Go.Maps
set_option maxRecDepth 100000

/-- a row that lies in new memory -/
def RowF (w0 w : World) (p : Option Addr) (l : List Va) : Prop := rowAt w p l ∧ ∀ g, p = some ⟨g, 0, none⟩ → w0.heap.size ≤ g
theorem RowF.below {w0 w w' : World} {p : Option Addr} {l : List Va} (h : RowF w0 w p l) (hb : Below w.heap.size w w') : RowF w0 w' p l := ⟨h.1.below hb, h.2⟩
/-- a box -/
def BoxAt (w0 w : World) (b : Nat) (o : Obj) : Prop := w0.heap.size ≤ b ∧ w.heap[b]? = some o
theorem BoxAt.below {w0 w w' : World} {b : Nat} {o : Obj} (h : BoxAt w0 w b o) (hb : Below w.heap.size w w') : BoxAt w0 w' b o := ⟨h.1, (hb.block _ (lt_of_heap h.2)).trans h.2⟩
theorem BoxAt.other {w0 w : World} {b c o : Nat} {ob : Obj} {v : Value} (h : BoxAt w0 w b ob) (hn : b ≠ c) : BoxAt w0 (w.setCell ⟨c, o, none⟩ v) b ob := ⟨h.1, (heap_setCell_other w ⟨c, o, none⟩ b v hn).trans h.2⟩
theorem RowF.set {w0 w : World} {p : Option Addr} {l : List Va} {b o : Nat} {x v : Value} {t : TypeId} (h : RowF w0 w p l) (hx : BoxAt w0 w b (.cells #[x] t (0, 0))) (hn : ∀ k n, x ≠ .int k n) : RowF w0 (w.setCell ⟨b, o, none⟩ v) p l := by
 refine ⟨?_, h.2⟩
 rcases h.1 with h1 | ⟨g, h1, h2⟩
 ·exact Or.inl h1
 cases l with
 | nil => exact Or.inl rfl
 | cons y l =>
  have hg : g ≠ b := by
   rintro rfl
   have e1 := (h2.2 0 y rfl).1
   rw [Nat.zero_mul, cell_of_block hx.2 0] at e1
   simp at e1
   exact hn _ _ e1
  refine Or.inr ⟨g, h1, by simpa using h2.1, fun i u hi => ?_⟩
  obtain ⟨c0, c1, c2⟩ := h2.2 i u hi
  exact ⟨by rw [World.cell?_setCell_other _ _ _ _ (by intro e; injection e with e1 _ _; exact hg e1.symm)]; exact c0, by rw [World.cell?_setCell_other _ _ _ _ (by intro e; injection e with e1 _ _; exact hg e1.symm)]; exact c1, by rw [World.cell?_setCell_other _ _ _ _ (by intro e; injection e with e1 _ _; exact hg e1.symm)]; exact c2⟩
theorem app_nothing (W : World) (b0 : Addr) (p : Option Addr) (c : Nat) (ty : TypeId) : (Builtin.append_ #[30, 30] ty #[.slice (some b0) 0 0, .slice p 0 c]).run Tryz.prog W = .ok (.slice (some b0) 0 0) W := by
 obtain ⟨i, hi, _⟩ := info_parts rwVa.inf
 cases p <;> simp [Builtin.append_, run_underlying rwVa.sl, sizeOf, typeInfo, hi, Builtin.lenOf, Builtin.firstCells, loadCells, loadCellsFrom, storeCells]
set_option maxHeartbeats 4000000 in
set_option maxRecDepth 1000000 in
theorem CloneRow_zero (ad : Addr) (c : Nat) (w : World) :
  Calls Tryz.prog 41 #[.slice (some ad) 0 c] w fun e w' => e = .returned (.slice (some ⟨w.heap.size, 0, none⟩) 0 0) ∧ Below w.heap.size w w' := by
 have HB := mkHid (fun o => (Below.refl _ w).alloc (Nat.le_refl _) o)
 have ne : ∀ w, (binOp .eql 30 (.slice (some ad) 0 c) (.slice none 0 0)).run Tryz.prog w = .ok (.bool false) w := fun w => by kernel_rfl
 go_enter Tryz.func41, Tryz.ntmps41
 go_wp2_with (at_builtin; refine wp_app 30 rfl (.tmp 5) (.tmp 6) rfl rfl rfl (fun ty => app_nothing _ _ _ _ ty) ?_)
 go_ret
 exact ⟨rfl, HB.out _⟩
/-- Clone of any row -/
theorem CloneRow_any (P : Option Addr) (C : Nat) (k : List Va) (w : World) (hk : rowAt w P k) (hP : P = none → C = 0) (hl : k.length ≤ 1000000000) :
  Calls Tryz.prog 41 #[.slice P k.length C] w fun e w' => ∃ p d, e = .returned (.slice p k.length d) ∧ RowF w w' p k ∧ Below w.heap.size w w' := by
 cases k with
 | nil =>
  cases P with
  | none =>
   rw [hP rfl]
   exact (CloneRow_nil w).mono (fun e w' h => ⟨none, 0, h.1, ⟨Or.inl rfl, fun g h => by cases h⟩, by rw [h.2]; exact Below.refl _ _⟩)
  | some ad =>
   exact (CloneRow_zero ad C w).mono (fun e w' h => ⟨_, _, h.1, ⟨Or.inl rfl, fun g h => by cases h; exact Nat.le_refl _⟩, h.2⟩)
 | cons v k =>
  obtain ⟨g, rfl, hv⟩ : ∃ g, P = some ⟨g, 0, none⟩ ∧ valsAt w g (v :: k) := by
   rcases hk with h | h
   ·cases h
   ·exact h
  refine (CloneRow_some g (v :: k) C w hv (by simp) hl).mono (fun e w' h => ?_)
  obtain ⟨cap, h1, h2, h3, h4⟩ := h
  exact ⟨_, _, h1, ⟨Or.inr ⟨_, rfl, h2⟩, fun g h => by cases h; omega⟩, h4⟩
/-- a span between bounds -/
def BtwQ (w : World) (low high : List Va) (li hi : Bool) (e : Ending) (w' : World) : Prop := ∃ b3 b4 b5 b6 q1 d1 q2 d2, e = .returned (.agg #[.func (.func 65) #[] #[.pointer (some ⟨b3, 0, none⟩), .pointer (some ⟨b5, 0, none⟩)], .func (.func 67) #[] #[.pointer (some ⟨b4, 0, none⟩), .pointer (some ⟨b6, 0, none⟩)]]) ∧ BoxAt w w' b3 (.cells #[.slice q1 low.length d1] 30 (0, 0)) ∧ BoxAt w w' b4 (.cells #[.slice q2 high.length d2] 30 (0, 0)) ∧ BoxAt w w' b5 (.cells #[.bool li] 4 (0, 0)) ∧ BoxAt w w' b6 (.cells #[.bool hi] 4 (0, 0)) ∧ RowF w w' q1 low ∧ RowF w w' q2 high ∧ Below w.heap.size w w'
theorem RowF.far {w0 w : World} {p : Option Addr} {l : List Va} {c o : Nat} {v : Value} (h : RowF w0 w p l) (hc : c < w0.heap.size) : RowF w0 (w.setCell ⟨c, o, none⟩ v) p l := by
 refine ⟨?_, h.2⟩
 rcases h.1 with h1 | ⟨g, h1, h2⟩
 ·exact Or.inl h1
 ·have hg : g ≠ c := by have := h.2 g h1; omega
  refine Or.inr ⟨g, h1, by simpa using h2.1, fun i u hi => ?_⟩
  obtain ⟨c0, c1, c2⟩ := h2.2 i u hi
  exact ⟨by rw [World.cell?_setCell_other _ _ _ _ (by intro e; injection e with e1 _ _; exact hg e1.symm)]; exact c0, by rw [World.cell?_setCell_other _ _ _ _ (by intro e; injection e with e1 _ _; exact hg e1.symm)]; exact c1, by rw [World.cell?_setCell_other _ _ _ _ (by intro e; injection e with e1 _ _; exact hg e1.symm)]; exact c2⟩
theorem BoxAt.far {w0 w : World} {b c o : Nat} {ob : Obj} {v : Value} (h : BoxAt w0 w b ob) (hc : c < w0.heap.size) : BoxAt w0 (w.setCell ⟨c, o, none⟩ v) b ob := h.other (by have := h.1; omega)
theorem BoxAt.down {w w0 W : World} {b : Nat} {o : Obj} (h : BoxAt w0 W b o) (hw : w.heap.size ≤ w0.heap.size) : BoxAt w W b o := ⟨Nat.le_trans hw h.1, h.2⟩
theorem RowF.down {w w0 W : World} {p : Option Addr} {l : List Va} (h : RowF w0 W p l) (hw : w.heap.size ≤ w0.heap.size) : RowF w W p l := ⟨h.1, fun g hg => Nat.le_trans hw (h.2 g hg)⟩
set_option maxHeartbeats 8000000 in
set_option maxRecDepth 1000000 in
theorem between_any (P1 P2 : Option Addr) (C1 C2 : Nat) (low high : List Va) (li hi : Bool) (w : World) (h1 : rowAt w P1 low) (h2 : rowAt w P2 high) (hP1 : P1 = none → C1 = 0) (hP2 : P2 = none → C2 = 0) (z1 : low.length ≤ 1000000000) (z2 : high.length ≤ 1000000000) :
  Calls Tryz.prog 39 #[.agg #[.slice P1 low.length C1, .slice P2 high.length C2, .bool li, .bool hi]] w fun e w' => BtwQ w low high li hi e w' := by
 obtain ⟨w0, hw0⟩ : ∃ w0, w0 = (w.alloc (.cells #[.slice P1 low.length C1, .slice P2 high.length C2, .bool li, .bool hi] 33)).alloc (.cells #[.nilFunc, .nilFunc] 72) := ⟨_, rfl⟩
 obtain ⟨d0, d1, bb, bs⟩ := bx2 w (.cells #[.slice P1 low.length C1, .slice P2 high.length C2, .bool li, .bool hi] 33) (.cells #[.nilFunc, .nilFunc] 72)
 rw [← hw0] at d0 d1 bb bs
 have CL1 : Hid (∀ W, Below w0.heap.size w0 W → Calls Tryz.prog 41 #[.slice P1 low.length C1] W fun e w' => ∃ p d, e = .returned (.slice p low.length d) ∧ RowF w0 w' p low ∧ Below W.heap.size W w') := fun W hW => (CloneRow_any P1 C1 low W ((h1.below bb).below hW) hP1 z1).mono (fun e w' h => by obtain ⟨p, d, e1, e2, e3⟩ := h; exact ⟨p, d, e1, ⟨e2.1, fun g hg => Nat.le_trans hW.size (e2.2 g hg)⟩, e3⟩)
 have CL2 : Hid (∀ W, Below w0.heap.size w0 W → Calls Tryz.prog 41 #[.slice P2 high.length C2] W fun e w' => ∃ p d, e = .returned (.slice p high.length d) ∧ RowF w0 w' p high ∧ Below W.heap.size W w') := fun W hW => (CloneRow_any P2 C2 high W ((h2.below bb).below hW) hP2 z2).mono (fun e w' h => by obtain ⟨p, d, e1, e2, e3⟩ := h; exact ⟨p, d, e1, ⟨e2.1, fun g hg => Nat.le_trans hW.size (e2.2 g hg)⟩, e3⟩)
 obtain ⟨n1, hn1⟩ : ∃ n1, n1 = low.length := ⟨_, rfl⟩
 obtain ⟨n2, hn2⟩ : ∃ n2, n2 = high.length := ⟨_, rfl⟩
 rw [← hn1, ← hn2] at d0 hw0
 rw [← hn1] at CL1
 rw [← hn2] at CL2
 have HL1 := mkHid hn1
 have HL2 := mkHid hn2
 rw [← hn1, ← hn2]
 clear h1 h2 hP1 hP2 z1 z2 hn1 hn2
 have KS : Hid (∀ w', Below w0.heap.size w0 w' → (fun w' : World => w'.cell? ⟨w.heap.size, 0, none⟩ = some (.slice P1 n1 C1) ∧ w'.cell? ⟨w.heap.size, 1, none⟩ = some (.slice P2 n2 C2) ∧ w'.cell? ⟨w.heap.size, 2, none⟩ = some (.bool li) ∧ w'.cell? ⟨w.heap.size, 3, none⟩ = some (.bool hi)) w') := fun w' hb => by
  have := (hb.block _ (lt_of_heap d0)).trans d0
  exact ⟨(cell_of_block this 0).trans rfl, (cell_of_block this 1).trans rfl, (cell_of_block this 2).trans rfl, (cell_of_block this 3).trans rfl⟩
 have BB := mkHid bb
 have D1 := mkHid d1
 clear bb d0 d1
 go_enter Tryz.func39, Tryz.ntmps39
 go_wp2_with fail
 rw [← hw0]
 clear hw0
 refine wp_mono (Q := fun e a' w' => e = .normal ∧ ∃ b3 b4 q1 d1 q2 d2, a' = { tmps := #[.agg #[.slice P1 n1 C1, .slice P2 n2 C2, .bool li, .bool hi], .pointer (some ⟨w.heap.size, 0, none⟩), .pointer (some ⟨w.heap.size + 1, 0, none⟩), .pointer (some ⟨b3, 0, none⟩), .pointer (some ⟨b4, 0, none⟩), undef, undef, .pointer (some ⟨w.heap.size, 0, none⟩), .slice P1 n1 C1, .slice q1 n1 d1, .pointer (some ⟨w.heap.size, 1, none⟩), .slice P2 n2 C2, .slice q2 n2 d2, undef, undef, undef, undef, undef, undef, undef], defers := [] } ∧ BoxAt w0 w' b3 (.cells #[.slice q1 n1 d1] 30 (0, 0)) ∧ BoxAt w0 w' b4 (.cells #[.slice q2 n2 d2] 30 (0, 0)) ∧ RowF w0 w' q1 low ∧ RowF w0 w' q2 high ∧ Below w0.heap.size w0 w') ?_ ?_
 ·have KB := mkHid ((Below.refl w0.heap.size w0).drew)
  refine wp_region_noPanic ?_
  refine wp_region_held_drew (S := fun w' : World => w'.cell? ⟨w.heap.size, 0, none⟩ = some (.slice P1 n1 C1) ∧ w'.cell? ⟨w.heap.size, 1, none⟩ = some (.slice P2 n2 C2) ∧ w'.cell? ⟨w.heap.size, 2, none⟩ = some (.bool li) ∧ w'.cell? ⟨w.heap.size, 3, none⟩ = some (.bool hi)) (by kernel_rfl) (KS.out _ (Below.refl _ _).drew) (fun hH => ?_)
  refine tKx (i := 0) (v := .pointer (some ⟨w.heap.size, 0, none⟩)) rfl rfl (by kernel_rfl) (fun _ _ _ h => h) ?_ hH ?_
  ·intro w5 hSw; obtain ⟨s0, s1, s2, s3⟩ := hSw; go_simp
  simp only [zA9, zB9, zC9]
  refine tKx (i := 1) (v := .slice P1 n1 C1) rfl rfl (by kernel_rfl) (fun _ _ _ h => h) ?_ hH ?_
  ·intro w5 hSw; obtain ⟨s0, s1, s2, s3⟩ := hSw; go_simp
  simp only [zA9, zB9, zC9]
  refine tKx (i := 3) (v := .pointer (some ⟨w.heap.size, 1, none⟩)) rfl rfl (by kernel_rfl) (fun _ _ _ h => h) ?_ hH ?_
  ·intro w5 hSw; obtain ⟨s0, s1, s2, s3⟩ := hSw; go_simp
  simp only [zA9, zB9, zC9]
  refine tKx (i := 4) (v := .slice P2 n2 C2) rfl rfl (by kernel_rfl) (fun _ _ _ h => h) ?_ hH ?_
  ·intro w5 hSw; obtain ⟨s0, s1, s2, s3⟩ := hSw; go_simp
  simp only [zA9, zB9, zC9]

  generalize hW0 : w0.drew = W0 at KB hH ⊢
  refine wpAnyH_ready (rs := [2, 6, 7]) (by kernel_rfl) (by simp) ?_
  refine AllReadyH.cons rfl (fun K hK => ?_) (AllReadyH.cons rfl (fun K hK => ?_) (AllReadyH.cons rfl (fun K hK => ?_) AllReadyH.nil))
  ·go_simp
   go_at_call 41
   refine (CL1.out W0 KB.out).mono ?_
   rintro e W1 ⟨q1, d1, rfl, h0, hb⟩
   go_wp2_with fail
   refine hK.out _ _ (KS.out _ (KB.out.trans (hb.mono KB.out.size))) (fun hH => ?_)
   clear hK K
   have F1 := mkHid h0
   clear h0
   replace KB := mkHid (KB.out.trans (hb.mono KB.out.size))
   clear hb
   refine wpAnyH_ready (rs := [5, 6, 7]) (by kernel_rfl) (by simp) ?_
   refine AllReadyH.cons rfl (fun K hK => ?_) (AllReadyH.cons rfl (fun K hK => ?_) (AllReadyH.cons rfl (fun K hK => ?_) AllReadyH.nil))
   ·go_simp
    go_at_call 41
    refine (CL2.out W1 KB.out).mono ?_
    rintro e W2 ⟨q2, d2, rfl, h0, hb⟩
    go_wp2_with fail
    refine hK.out _ _ (KS.out _ (KB.out.trans (hb.mono KB.out.size))) (fun hH => ?_)
    clear hK K
    replace F1 := mkHid (F1.out.below hb)
    have F2 := mkHid h0
    clear h0
    replace KB := mkHid (KB.out.trans (hb.mono KB.out.size))
    clear hb
    refine wpAnyH_ready (rs := [6, 7]) (by kernel_rfl) (by simp) ?_
    refine AllReadyH.cons rfl (fun K hK => ?_) (AllReadyH.cons rfl (fun K hK => ?_) AllReadyH.nil)
    ·go_simp
     refine hK.out _ _ (KS.out _ (KB.out.alloc KB.out.size _)) (fun hH => ?_)
     clear hK K
     have hb := (Below.refl W2.heap.size W2).alloc (Nat.le_refl _) (.cells #[.slice none 0 0] 30)
     replace F1 := mkHid (F1.out.below hb)
     replace F2 := mkHid (F2.out.below hb)
     have X3 : Hid (BoxAt w0 (W2.alloc (.cells #[.slice none 0 0] 30)) W2.heap.size (.cells #[.slice none 0 0] 30 (0, 0))) := mkHid ⟨KB.out.size, heap_alloc_new _ _⟩
     replace KB := mkHid (KB.out.trans (hb.mono KB.out.size))
     clear hb
     generalize W2.alloc (.cells #[.slice none 0 0] 30) = W3 at KB F1 F2 X3 hH ⊢
     refine wpAnyH_ready (rs := [7]) (by kernel_rfl) (by simp) ?_
     refine AllReadyH.cons rfl (fun K hK => ?_) AllReadyH.nil
     ·go_simp
      refine hK.out _ _ (KS.out _ (KB.out.alloc KB.out.size _)) (fun hH => ?_)
      clear hK K
      have hb := (Below.refl W3.heap.size W3).alloc (Nat.le_refl _) (.cells #[.slice none 0 0] 30)
      have NE43 : W3.heap.size ≠ W2.heap.size := by have := lt_of_heap X3.out.2; omega
      have NE34 := NE43.symm
      replace F1 := mkHid (F1.out.below hb)
      replace F2 := mkHid (F2.out.below hb)
      replace X3 := mkHid (X3.out.below hb)
      have X4 : Hid (BoxAt w0 (W3.alloc (.cells #[.slice none 0 0] 30)) W3.heap.size (.cells #[.slice none 0 0] 30 (0, 0))) := mkHid ⟨KB.out.size, heap_alloc_new _ _⟩
      replace KB := mkHid (KB.out.trans (hb.mono KB.out.size))
      clear hb
      generalize W3.alloc (.cells #[.slice none 0 0] 30) = W4 at KB F1 F2 X3 X4 hH ⊢
      refine wpAnyH_ready (rs := [8]) (by kernel_rfl) (by simp) ?_
      refine AllReadyH.cons rfl (fun K hK => ?_) AllReadyH.nil
      ·have q0 : W4.cell? ⟨W2.heap.size, 0, none⟩ = some (.slice none 0 0) := (cell_of_block X3.out.2 0).trans rfl
       have y0 := unfrozen_of_block X3.out.2 0
       go_simp
       refine hK.out _ _ (KS.out _ (below_set KB.out ⟨W2.heap.size, 0, none⟩ (.slice q1 n1 d1) X3.out.1)) (fun hH => ?_)
       clear hK K q0 y0
       replace F1 := mkHid (F1.out.set (v := .slice q1 n1 d1) (o := 0) X3.out (fun _ _ h => by cases h))
       replace F2 := mkHid (F2.out.set (v := .slice q1 n1 d1) (o := 0) X3.out (fun _ _ h => by cases h))
       replace X4 := mkHid (X4.out.other (v := .slice q1 n1 d1) (o := 0) NE43)
       replace X3 : Hid (BoxAt w0 (W4.setCell ⟨W2.heap.size, 0, none⟩ (.slice q1 n1 d1)) W2.heap.size (.cells #[.slice q1 n1 d1] 30 (0, 0))) := mkHid ⟨X3.out.1, heap_set_in X3.out.2⟩
       replace KB := mkHid (below_set KB.out ⟨W2.heap.size, 0, none⟩ (.slice q1 n1 d1) X3.out.1)
       generalize W4.setCell ⟨W2.heap.size, 0, none⟩ (.slice q1 n1 d1) = W5 at KB F1 F2 X3 X4 hH ⊢
       refine wpAnyH_ready (rs := [9]) (by kernel_rfl) (by simp) ?_
       refine AllReadyH.cons rfl (fun K hK => ?_) AllReadyH.nil
       ·have q0 : W5.cell? ⟨W3.heap.size, 0, none⟩ = some (.slice none 0 0) := (cell_of_block X4.out.2 0).trans rfl
        have y0 := unfrozen_of_block X4.out.2 0
        go_simp
        refine hK.out _ _ (KS.out _ (below_set KB.out ⟨W3.heap.size, 0, none⟩ (.slice q2 n2 d2) X4.out.1)) (fun hH => ?_)
        clear hK K q0 y0
        replace F1 := mkHid (F1.out.set (v := .slice q2 n2 d2) (o := 0) X4.out (fun _ _ h => by cases h))
        replace F2 := mkHid (F2.out.set (v := .slice q2 n2 d2) (o := 0) X4.out (fun _ _ h => by cases h))
        replace X3 := mkHid (X3.out.other (v := .slice q2 n2 d2) (o := 0) NE34)
        replace X4 : Hid (BoxAt w0 (W5.setCell ⟨W3.heap.size, 0, none⟩ (.slice q2 n2 d2)) W3.heap.size (.cells #[.slice q2 n2 d2] 30 (0, 0))) := mkHid ⟨X4.out.1, heap_set_in X4.out.2⟩
        replace KB := mkHid (below_set KB.out ⟨W3.heap.size, 0, none⟩ (.slice q2 n2 d2) X4.out.1)
        generalize W5.setCell ⟨W3.heap.size, 0, none⟩ (.slice q2 n2 d2) = W6 at KB F1 F2 X3 X4 hH ⊢
        refine wpAnyH_done (by kernel_rfl) ?_ _
        refine NoPanic.normal ?_
        exact ⟨rfl, _, _, _, _, _, _, rfl, X3.out, X4.out, F1.out, F2.out, KB.out⟩
    ·go_simp
     refine hK.out _ _ (KS.out _ (KB.out.alloc KB.out.size _)) (fun hH => ?_)
     clear hK K
     have hb := (Below.refl W2.heap.size W2).alloc (Nat.le_refl _) (.cells #[.slice none 0 0] 30)
     replace F1 := mkHid (F1.out.below hb)
     replace F2 := mkHid (F2.out.below hb)
     have X4 : Hid (BoxAt w0 (W2.alloc (.cells #[.slice none 0 0] 30)) W2.heap.size (.cells #[.slice none 0 0] 30 (0, 0))) := mkHid ⟨KB.out.size, heap_alloc_new _ _⟩
     replace KB := mkHid (KB.out.trans (hb.mono KB.out.size))
     clear hb
     generalize W2.alloc (.cells #[.slice none 0 0] 30) = W3 at KB F1 F2 X4 hH ⊢
     refine wpAnyH_ready (rs := [6]) (by kernel_rfl) (by simp) ?_
     refine AllReadyH.cons rfl (fun K hK => ?_) AllReadyH.nil
     ·go_simp
      refine hK.out _ _ (KS.out _ (KB.out.alloc KB.out.size _)) (fun hH => ?_)
      clear hK K
      have hb := (Below.refl W3.heap.size W3).alloc (Nat.le_refl _) (.cells #[.slice none 0 0] 30)
      have NE34 : W3.heap.size ≠ W2.heap.size := by have := lt_of_heap X4.out.2; omega
      have NE43 := NE34.symm
      replace F1 := mkHid (F1.out.below hb)
      replace F2 := mkHid (F2.out.below hb)
      replace X4 := mkHid (X4.out.below hb)
      have X3 : Hid (BoxAt w0 (W3.alloc (.cells #[.slice none 0 0] 30)) W3.heap.size (.cells #[.slice none 0 0] 30 (0, 0))) := mkHid ⟨KB.out.size, heap_alloc_new _ _⟩
      replace KB := mkHid (KB.out.trans (hb.mono KB.out.size))
      clear hb
      generalize W3.alloc (.cells #[.slice none 0 0] 30) = W4 at KB F1 F2 X4 X3 hH ⊢
      refine wpAnyH_ready (rs := [8]) (by kernel_rfl) (by simp) ?_
      refine AllReadyH.cons rfl (fun K hK => ?_) AllReadyH.nil
      ·have q0 : W4.cell? ⟨W3.heap.size, 0, none⟩ = some (.slice none 0 0) := (cell_of_block X3.out.2 0).trans rfl
       have y0 := unfrozen_of_block X3.out.2 0
       go_simp
       refine hK.out _ _ (KS.out _ (below_set KB.out ⟨W3.heap.size, 0, none⟩ (.slice q1 n1 d1) X3.out.1)) (fun hH => ?_)
       clear hK K q0 y0
       replace F1 := mkHid (F1.out.set (v := .slice q1 n1 d1) (o := 0) X3.out (fun _ _ h => by cases h))
       replace F2 := mkHid (F2.out.set (v := .slice q1 n1 d1) (o := 0) X3.out (fun _ _ h => by cases h))
       replace X4 := mkHid (X4.out.other (v := .slice q1 n1 d1) (o := 0) NE43)
       replace X3 : Hid (BoxAt w0 (W4.setCell ⟨W3.heap.size, 0, none⟩ (.slice q1 n1 d1)) W3.heap.size (.cells #[.slice q1 n1 d1] 30 (0, 0))) := mkHid ⟨X3.out.1, heap_set_in X3.out.2⟩
       replace KB := mkHid (below_set KB.out ⟨W3.heap.size, 0, none⟩ (.slice q1 n1 d1) X3.out.1)
       generalize W4.setCell ⟨W3.heap.size, 0, none⟩ (.slice q1 n1 d1) = W5 at KB F1 F2 X4 X3 hH ⊢
       refine wpAnyH_ready (rs := [9]) (by kernel_rfl) (by simp) ?_
       refine AllReadyH.cons rfl (fun K hK => ?_) AllReadyH.nil
       ·have q0 : W5.cell? ⟨W2.heap.size, 0, none⟩ = some (.slice none 0 0) := (cell_of_block X4.out.2 0).trans rfl
        have y0 := unfrozen_of_block X4.out.2 0
        go_simp
        refine hK.out _ _ (KS.out _ (below_set KB.out ⟨W2.heap.size, 0, none⟩ (.slice q2 n2 d2) X4.out.1)) (fun hH => ?_)
        clear hK K q0 y0
        replace F1 := mkHid (F1.out.set (v := .slice q2 n2 d2) (o := 0) X4.out (fun _ _ h => by cases h))
        replace F2 := mkHid (F2.out.set (v := .slice q2 n2 d2) (o := 0) X4.out (fun _ _ h => by cases h))
        replace X3 := mkHid (X3.out.other (v := .slice q2 n2 d2) (o := 0) NE34)
        replace X4 : Hid (BoxAt w0 (W5.setCell ⟨W2.heap.size, 0, none⟩ (.slice q2 n2 d2)) W2.heap.size (.cells #[.slice q2 n2 d2] 30 (0, 0))) := mkHid ⟨X4.out.1, heap_set_in X4.out.2⟩
        replace KB := mkHid (below_set KB.out ⟨W2.heap.size, 0, none⟩ (.slice q2 n2 d2) X4.out.1)
        generalize W5.setCell ⟨W2.heap.size, 0, none⟩ (.slice q2 n2 d2) = W6 at KB F1 F2 X4 X3 hH ⊢
        refine wpAnyH_done (by kernel_rfl) ?_ _
        refine NoPanic.normal ?_
        exact ⟨rfl, _, _, _, _, _, _, rfl, X3.out, X4.out, F1.out, F2.out, KB.out⟩
   ·go_simp
    refine hK.out _ _ (KS.out _ (KB.out.alloc KB.out.size _)) (fun hH => ?_)
    clear hK K
    have hb := (Below.refl W1.heap.size W1).alloc (Nat.le_refl _) (.cells #[.slice none 0 0] 30)
    replace F1 := mkHid (F1.out.below hb)
    have X3 : Hid (BoxAt w0 (W1.alloc (.cells #[.slice none 0 0] 30)) W1.heap.size (.cells #[.slice none 0 0] 30 (0, 0))) := mkHid ⟨KB.out.size, heap_alloc_new _ _⟩
    replace KB := mkHid (KB.out.trans (hb.mono KB.out.size))
    clear hb
    generalize W1.alloc (.cells #[.slice none 0 0] 30) = W2 at KB F1 X3 hH ⊢
    refine wpAnyH_ready (rs := [5, 7]) (by kernel_rfl) (by simp) ?_
    refine AllReadyH.cons rfl (fun K hK => ?_) (AllReadyH.cons rfl (fun K hK => ?_) AllReadyH.nil)
    ·go_simp
     go_at_call 41
     refine (CL2.out W2 KB.out).mono ?_
     rintro e W3 ⟨q2, d2, rfl, h0, hb⟩
     go_wp2_with fail
     refine hK.out _ _ (KS.out _ (KB.out.trans (hb.mono KB.out.size))) (fun hH => ?_)
     clear hK K
     replace F1 := mkHid (F1.out.below hb)
     replace X3 := mkHid (X3.out.below hb)
     have F2 := mkHid h0
     clear h0
     replace KB := mkHid (KB.out.trans (hb.mono KB.out.size))
     clear hb
     refine wpAnyH_ready (rs := [7]) (by kernel_rfl) (by simp) ?_
     refine AllReadyH.cons rfl (fun K hK => ?_) AllReadyH.nil
     ·go_simp
      refine hK.out _ _ (KS.out _ (KB.out.alloc KB.out.size _)) (fun hH => ?_)
      clear hK K
      have hb := (Below.refl W3.heap.size W3).alloc (Nat.le_refl _) (.cells #[.slice none 0 0] 30)
      have NE43 : W3.heap.size ≠ W1.heap.size := by have := lt_of_heap X3.out.2; omega
      have NE34 := NE43.symm
      replace F1 := mkHid (F1.out.below hb)
      replace X3 := mkHid (X3.out.below hb)
      replace F2 := mkHid (F2.out.below hb)
      have X4 : Hid (BoxAt w0 (W3.alloc (.cells #[.slice none 0 0] 30)) W3.heap.size (.cells #[.slice none 0 0] 30 (0, 0))) := mkHid ⟨KB.out.size, heap_alloc_new _ _⟩
      replace KB := mkHid (KB.out.trans (hb.mono KB.out.size))
      clear hb
      generalize W3.alloc (.cells #[.slice none 0 0] 30) = W4 at KB F1 X3 F2 X4 hH ⊢
      refine wpAnyH_ready (rs := [8]) (by kernel_rfl) (by simp) ?_
      refine AllReadyH.cons rfl (fun K hK => ?_) AllReadyH.nil
      ·have q0 : W4.cell? ⟨W1.heap.size, 0, none⟩ = some (.slice none 0 0) := (cell_of_block X3.out.2 0).trans rfl
       have y0 := unfrozen_of_block X3.out.2 0
       go_simp
       refine hK.out _ _ (KS.out _ (below_set KB.out ⟨W1.heap.size, 0, none⟩ (.slice q1 n1 d1) X3.out.1)) (fun hH => ?_)
       clear hK K q0 y0
       replace F1 := mkHid (F1.out.set (v := .slice q1 n1 d1) (o := 0) X3.out (fun _ _ h => by cases h))
       replace F2 := mkHid (F2.out.set (v := .slice q1 n1 d1) (o := 0) X3.out (fun _ _ h => by cases h))
       replace X4 := mkHid (X4.out.other (v := .slice q1 n1 d1) (o := 0) NE43)
       replace X3 : Hid (BoxAt w0 (W4.setCell ⟨W1.heap.size, 0, none⟩ (.slice q1 n1 d1)) W1.heap.size (.cells #[.slice q1 n1 d1] 30 (0, 0))) := mkHid ⟨X3.out.1, heap_set_in X3.out.2⟩
       replace KB := mkHid (below_set KB.out ⟨W1.heap.size, 0, none⟩ (.slice q1 n1 d1) X3.out.1)
       generalize W4.setCell ⟨W1.heap.size, 0, none⟩ (.slice q1 n1 d1) = W5 at KB F1 X3 F2 X4 hH ⊢
       refine wpAnyH_ready (rs := [9]) (by kernel_rfl) (by simp) ?_
       refine AllReadyH.cons rfl (fun K hK => ?_) AllReadyH.nil
       ·have q0 : W5.cell? ⟨W3.heap.size, 0, none⟩ = some (.slice none 0 0) := (cell_of_block X4.out.2 0).trans rfl
        have y0 := unfrozen_of_block X4.out.2 0
        go_simp
        refine hK.out _ _ (KS.out _ (below_set KB.out ⟨W3.heap.size, 0, none⟩ (.slice q2 n2 d2) X4.out.1)) (fun hH => ?_)
        clear hK K q0 y0
        replace F1 := mkHid (F1.out.set (v := .slice q2 n2 d2) (o := 0) X4.out (fun _ _ h => by cases h))
        replace X3 := mkHid (X3.out.other (v := .slice q2 n2 d2) (o := 0) NE34)
        replace F2 := mkHid (F2.out.set (v := .slice q2 n2 d2) (o := 0) X4.out (fun _ _ h => by cases h))
        replace X4 : Hid (BoxAt w0 (W5.setCell ⟨W3.heap.size, 0, none⟩ (.slice q2 n2 d2)) W3.heap.size (.cells #[.slice q2 n2 d2] 30 (0, 0))) := mkHid ⟨X4.out.1, heap_set_in X4.out.2⟩
        replace KB := mkHid (below_set KB.out ⟨W3.heap.size, 0, none⟩ (.slice q2 n2 d2) X4.out.1)
        generalize W5.setCell ⟨W3.heap.size, 0, none⟩ (.slice q2 n2 d2) = W6 at KB F1 X3 F2 X4 hH ⊢
        refine wpAnyH_done (by kernel_rfl) ?_ _
        refine NoPanic.normal ?_
        exact ⟨rfl, _, _, _, _, _, _, rfl, X3.out, X4.out, F1.out, F2.out, KB.out⟩
    ·go_simp
     refine hK.out _ _ (KS.out _ (KB.out.alloc KB.out.size _)) (fun hH => ?_)
     clear hK K
     have hb := (Below.refl W2.heap.size W2).alloc (Nat.le_refl _) (.cells #[.slice none 0 0] 30)
     have NE43 : W2.heap.size ≠ W1.heap.size := by have := lt_of_heap X3.out.2; omega
     have NE34 := NE43.symm
     replace F1 := mkHid (F1.out.below hb)
     replace X3 := mkHid (X3.out.below hb)
     have X4 : Hid (BoxAt w0 (W2.alloc (.cells #[.slice none 0 0] 30)) W2.heap.size (.cells #[.slice none 0 0] 30 (0, 0))) := mkHid ⟨KB.out.size, heap_alloc_new _ _⟩
     replace KB := mkHid (KB.out.trans (hb.mono KB.out.size))
     clear hb
     generalize W2.alloc (.cells #[.slice none 0 0] 30) = W3 at KB F1 X3 X4 hH ⊢
     refine wpAnyH_ready (rs := [5]) (by kernel_rfl) (by simp) ?_
     refine AllReadyH.cons rfl (fun K hK => ?_) AllReadyH.nil
     ·go_simp
      go_at_call 41
      refine (CL2.out W3 KB.out).mono ?_
      rintro e W4 ⟨q2, d2, rfl, h0, hb⟩
      go_wp2_with fail
      refine hK.out _ _ (KS.out _ (KB.out.trans (hb.mono KB.out.size))) (fun hH => ?_)
      clear hK K
      replace F1 := mkHid (F1.out.below hb)
      replace X3 := mkHid (X3.out.below hb)
      replace X4 := mkHid (X4.out.below hb)
      have F2 := mkHid h0
      clear h0
      replace KB := mkHid (KB.out.trans (hb.mono KB.out.size))
      clear hb
      refine wpAnyH_ready (rs := [8]) (by kernel_rfl) (by simp) ?_
      refine AllReadyH.cons rfl (fun K hK => ?_) AllReadyH.nil
      ·have q0 : W4.cell? ⟨W1.heap.size, 0, none⟩ = some (.slice none 0 0) := (cell_of_block X3.out.2 0).trans rfl
       have y0 := unfrozen_of_block X3.out.2 0
       go_simp
       refine hK.out _ _ (KS.out _ (below_set KB.out ⟨W1.heap.size, 0, none⟩ (.slice q1 n1 d1) X3.out.1)) (fun hH => ?_)
       clear hK K q0 y0
       replace F1 := mkHid (F1.out.set (v := .slice q1 n1 d1) (o := 0) X3.out (fun _ _ h => by cases h))
       replace X4 := mkHid (X4.out.other (v := .slice q1 n1 d1) (o := 0) NE43)
       replace F2 := mkHid (F2.out.set (v := .slice q1 n1 d1) (o := 0) X3.out (fun _ _ h => by cases h))
       replace X3 : Hid (BoxAt w0 (W4.setCell ⟨W1.heap.size, 0, none⟩ (.slice q1 n1 d1)) W1.heap.size (.cells #[.slice q1 n1 d1] 30 (0, 0))) := mkHid ⟨X3.out.1, heap_set_in X3.out.2⟩
       replace KB := mkHid (below_set KB.out ⟨W1.heap.size, 0, none⟩ (.slice q1 n1 d1) X3.out.1)
       generalize W4.setCell ⟨W1.heap.size, 0, none⟩ (.slice q1 n1 d1) = W5 at KB F1 X3 X4 F2 hH ⊢
       refine wpAnyH_ready (rs := [9]) (by kernel_rfl) (by simp) ?_
       refine AllReadyH.cons rfl (fun K hK => ?_) AllReadyH.nil
       ·have q0 : W5.cell? ⟨W2.heap.size, 0, none⟩ = some (.slice none 0 0) := (cell_of_block X4.out.2 0).trans rfl
        have y0 := unfrozen_of_block X4.out.2 0
        go_simp
        refine hK.out _ _ (KS.out _ (below_set KB.out ⟨W2.heap.size, 0, none⟩ (.slice q2 n2 d2) X4.out.1)) (fun hH => ?_)
        clear hK K q0 y0
        replace F1 := mkHid (F1.out.set (v := .slice q2 n2 d2) (o := 0) X4.out (fun _ _ h => by cases h))
        replace X3 := mkHid (X3.out.other (v := .slice q2 n2 d2) (o := 0) NE34)
        replace F2 := mkHid (F2.out.set (v := .slice q2 n2 d2) (o := 0) X4.out (fun _ _ h => by cases h))
        replace X4 : Hid (BoxAt w0 (W5.setCell ⟨W2.heap.size, 0, none⟩ (.slice q2 n2 d2)) W2.heap.size (.cells #[.slice q2 n2 d2] 30 (0, 0))) := mkHid ⟨X4.out.1, heap_set_in X4.out.2⟩
        replace KB := mkHid (below_set KB.out ⟨W2.heap.size, 0, none⟩ (.slice q2 n2 d2) X4.out.1)
        generalize W5.setCell ⟨W2.heap.size, 0, none⟩ (.slice q2 n2 d2) = W6 at KB F1 X3 X4 F2 hH ⊢
        refine wpAnyH_done (by kernel_rfl) ?_ _
        refine NoPanic.normal ?_
        exact ⟨rfl, _, _, _, _, _, _, rfl, X3.out, X4.out, F1.out, F2.out, KB.out⟩
   ·go_simp
    refine hK.out _ _ (KS.out _ (KB.out.alloc KB.out.size _)) (fun hH => ?_)
    clear hK K
    have hb := (Below.refl W1.heap.size W1).alloc (Nat.le_refl _) (.cells #[.slice none 0 0] 30)
    replace F1 := mkHid (F1.out.below hb)
    have X4 : Hid (BoxAt w0 (W1.alloc (.cells #[.slice none 0 0] 30)) W1.heap.size (.cells #[.slice none 0 0] 30 (0, 0))) := mkHid ⟨KB.out.size, heap_alloc_new _ _⟩
    replace KB := mkHid (KB.out.trans (hb.mono KB.out.size))
    clear hb
    generalize W1.alloc (.cells #[.slice none 0 0] 30) = W2 at KB F1 X4 hH ⊢
    refine wpAnyH_ready (rs := [5, 6]) (by kernel_rfl) (by simp) ?_
    refine AllReadyH.cons rfl (fun K hK => ?_) (AllReadyH.cons rfl (fun K hK => ?_) AllReadyH.nil)
    ·go_simp
     go_at_call 41
     refine (CL2.out W2 KB.out).mono ?_
     rintro e W3 ⟨q2, d2, rfl, h0, hb⟩
     go_wp2_with fail
     refine hK.out _ _ (KS.out _ (KB.out.trans (hb.mono KB.out.size))) (fun hH => ?_)
     clear hK K
     replace F1 := mkHid (F1.out.below hb)
     replace X4 := mkHid (X4.out.below hb)
     have F2 := mkHid h0
     clear h0
     replace KB := mkHid (KB.out.trans (hb.mono KB.out.size))
     clear hb
     refine wpAnyH_ready (rs := [6]) (by kernel_rfl) (by simp) ?_
     refine AllReadyH.cons rfl (fun K hK => ?_) AllReadyH.nil
     ·go_simp
      refine hK.out _ _ (KS.out _ (KB.out.alloc KB.out.size _)) (fun hH => ?_)
      clear hK K
      have hb := (Below.refl W3.heap.size W3).alloc (Nat.le_refl _) (.cells #[.slice none 0 0] 30)
      have NE34 : W3.heap.size ≠ W1.heap.size := by have := lt_of_heap X4.out.2; omega
      have NE43 := NE34.symm
      replace F1 := mkHid (F1.out.below hb)
      replace X4 := mkHid (X4.out.below hb)
      replace F2 := mkHid (F2.out.below hb)
      have X3 : Hid (BoxAt w0 (W3.alloc (.cells #[.slice none 0 0] 30)) W3.heap.size (.cells #[.slice none 0 0] 30 (0, 0))) := mkHid ⟨KB.out.size, heap_alloc_new _ _⟩
      replace KB := mkHid (KB.out.trans (hb.mono KB.out.size))
      clear hb
      generalize W3.alloc (.cells #[.slice none 0 0] 30) = W4 at KB F1 X4 F2 X3 hH ⊢
      refine wpAnyH_ready (rs := [8]) (by kernel_rfl) (by simp) ?_
      refine AllReadyH.cons rfl (fun K hK => ?_) AllReadyH.nil
      ·have q0 : W4.cell? ⟨W3.heap.size, 0, none⟩ = some (.slice none 0 0) := (cell_of_block X3.out.2 0).trans rfl
       have y0 := unfrozen_of_block X3.out.2 0
       go_simp
       refine hK.out _ _ (KS.out _ (below_set KB.out ⟨W3.heap.size, 0, none⟩ (.slice q1 n1 d1) X3.out.1)) (fun hH => ?_)
       clear hK K q0 y0
       replace F1 := mkHid (F1.out.set (v := .slice q1 n1 d1) (o := 0) X3.out (fun _ _ h => by cases h))
       replace X4 := mkHid (X4.out.other (v := .slice q1 n1 d1) (o := 0) NE43)
       replace F2 := mkHid (F2.out.set (v := .slice q1 n1 d1) (o := 0) X3.out (fun _ _ h => by cases h))
       replace X3 : Hid (BoxAt w0 (W4.setCell ⟨W3.heap.size, 0, none⟩ (.slice q1 n1 d1)) W3.heap.size (.cells #[.slice q1 n1 d1] 30 (0, 0))) := mkHid ⟨X3.out.1, heap_set_in X3.out.2⟩
       replace KB := mkHid (below_set KB.out ⟨W3.heap.size, 0, none⟩ (.slice q1 n1 d1) X3.out.1)
       generalize W4.setCell ⟨W3.heap.size, 0, none⟩ (.slice q1 n1 d1) = W5 at KB F1 X4 F2 X3 hH ⊢
       refine wpAnyH_ready (rs := [9]) (by kernel_rfl) (by simp) ?_
       refine AllReadyH.cons rfl (fun K hK => ?_) AllReadyH.nil
       ·have q0 : W5.cell? ⟨W1.heap.size, 0, none⟩ = some (.slice none 0 0) := (cell_of_block X4.out.2 0).trans rfl
        have y0 := unfrozen_of_block X4.out.2 0
        go_simp
        refine hK.out _ _ (KS.out _ (below_set KB.out ⟨W1.heap.size, 0, none⟩ (.slice q2 n2 d2) X4.out.1)) (fun hH => ?_)
        clear hK K q0 y0
        replace F1 := mkHid (F1.out.set (v := .slice q2 n2 d2) (o := 0) X4.out (fun _ _ h => by cases h))
        replace F2 := mkHid (F2.out.set (v := .slice q2 n2 d2) (o := 0) X4.out (fun _ _ h => by cases h))
        replace X3 := mkHid (X3.out.other (v := .slice q2 n2 d2) (o := 0) NE34)
        replace X4 : Hid (BoxAt w0 (W5.setCell ⟨W1.heap.size, 0, none⟩ (.slice q2 n2 d2)) W1.heap.size (.cells #[.slice q2 n2 d2] 30 (0, 0))) := mkHid ⟨X4.out.1, heap_set_in X4.out.2⟩
        replace KB := mkHid (below_set KB.out ⟨W1.heap.size, 0, none⟩ (.slice q2 n2 d2) X4.out.1)
        generalize W5.setCell ⟨W1.heap.size, 0, none⟩ (.slice q2 n2 d2) = W6 at KB F1 X4 F2 X3 hH ⊢
        refine wpAnyH_done (by kernel_rfl) ?_ _
        refine NoPanic.normal ?_
        exact ⟨rfl, _, _, _, _, _, _, rfl, X3.out, X4.out, F1.out, F2.out, KB.out⟩
    ·go_simp
     refine hK.out _ _ (KS.out _ (KB.out.alloc KB.out.size _)) (fun hH => ?_)
     clear hK K
     have hb := (Below.refl W2.heap.size W2).alloc (Nat.le_refl _) (.cells #[.slice none 0 0] 30)
     have NE34 : W2.heap.size ≠ W1.heap.size := by have := lt_of_heap X4.out.2; omega
     have NE43 := NE34.symm
     replace F1 := mkHid (F1.out.below hb)
     replace X4 := mkHid (X4.out.below hb)
     have X3 : Hid (BoxAt w0 (W2.alloc (.cells #[.slice none 0 0] 30)) W2.heap.size (.cells #[.slice none 0 0] 30 (0, 0))) := mkHid ⟨KB.out.size, heap_alloc_new _ _⟩
     replace KB := mkHid (KB.out.trans (hb.mono KB.out.size))
     clear hb
     generalize W2.alloc (.cells #[.slice none 0 0] 30) = W3 at KB F1 X4 X3 hH ⊢
     refine wpAnyH_ready (rs := [5]) (by kernel_rfl) (by simp) ?_
     refine AllReadyH.cons rfl (fun K hK => ?_) AllReadyH.nil
     ·go_simp
      go_at_call 41
      refine (CL2.out W3 KB.out).mono ?_
      rintro e W4 ⟨q2, d2, rfl, h0, hb⟩
      go_wp2_with fail
      refine hK.out _ _ (KS.out _ (KB.out.trans (hb.mono KB.out.size))) (fun hH => ?_)
      clear hK K
      replace F1 := mkHid (F1.out.below hb)
      replace X4 := mkHid (X4.out.below hb)
      replace X3 := mkHid (X3.out.below hb)
      have F2 := mkHid h0
      clear h0
      replace KB := mkHid (KB.out.trans (hb.mono KB.out.size))
      clear hb
      refine wpAnyH_ready (rs := [8]) (by kernel_rfl) (by simp) ?_
      refine AllReadyH.cons rfl (fun K hK => ?_) AllReadyH.nil
      ·have q0 : W4.cell? ⟨W2.heap.size, 0, none⟩ = some (.slice none 0 0) := (cell_of_block X3.out.2 0).trans rfl
       have y0 := unfrozen_of_block X3.out.2 0
       go_simp
       refine hK.out _ _ (KS.out _ (below_set KB.out ⟨W2.heap.size, 0, none⟩ (.slice q1 n1 d1) X3.out.1)) (fun hH => ?_)
       clear hK K q0 y0
       replace F1 := mkHid (F1.out.set (v := .slice q1 n1 d1) (o := 0) X3.out (fun _ _ h => by cases h))
       replace X4 := mkHid (X4.out.other (v := .slice q1 n1 d1) (o := 0) NE43)
       replace F2 := mkHid (F2.out.set (v := .slice q1 n1 d1) (o := 0) X3.out (fun _ _ h => by cases h))
       replace X3 : Hid (BoxAt w0 (W4.setCell ⟨W2.heap.size, 0, none⟩ (.slice q1 n1 d1)) W2.heap.size (.cells #[.slice q1 n1 d1] 30 (0, 0))) := mkHid ⟨X3.out.1, heap_set_in X3.out.2⟩
       replace KB := mkHid (below_set KB.out ⟨W2.heap.size, 0, none⟩ (.slice q1 n1 d1) X3.out.1)
       generalize W4.setCell ⟨W2.heap.size, 0, none⟩ (.slice q1 n1 d1) = W5 at KB F1 X4 X3 F2 hH ⊢
       refine wpAnyH_ready (rs := [9]) (by kernel_rfl) (by simp) ?_
       refine AllReadyH.cons rfl (fun K hK => ?_) AllReadyH.nil
       ·have q0 : W5.cell? ⟨W1.heap.size, 0, none⟩ = some (.slice none 0 0) := (cell_of_block X4.out.2 0).trans rfl
        have y0 := unfrozen_of_block X4.out.2 0
        go_simp
        refine hK.out _ _ (KS.out _ (below_set KB.out ⟨W1.heap.size, 0, none⟩ (.slice q2 n2 d2) X4.out.1)) (fun hH => ?_)
        clear hK K q0 y0
        replace F1 := mkHid (F1.out.set (v := .slice q2 n2 d2) (o := 0) X4.out (fun _ _ h => by cases h))
        replace X3 := mkHid (X3.out.other (v := .slice q2 n2 d2) (o := 0) NE34)
        replace F2 := mkHid (F2.out.set (v := .slice q2 n2 d2) (o := 0) X4.out (fun _ _ h => by cases h))
        replace X4 : Hid (BoxAt w0 (W5.setCell ⟨W1.heap.size, 0, none⟩ (.slice q2 n2 d2)) W1.heap.size (.cells #[.slice q2 n2 d2] 30 (0, 0))) := mkHid ⟨X4.out.1, heap_set_in X4.out.2⟩
        replace KB := mkHid (below_set KB.out ⟨W1.heap.size, 0, none⟩ (.slice q2 n2 d2) X4.out.1)
        generalize W5.setCell ⟨W1.heap.size, 0, none⟩ (.slice q2 n2 d2) = W6 at KB F1 X4 X3 F2 hH ⊢
        refine wpAnyH_done (by kernel_rfl) ?_ _
        refine NoPanic.normal ?_
        exact ⟨rfl, _, _, _, _, _, _, rfl, X3.out, X4.out, F1.out, F2.out, KB.out⟩
  ·go_simp
   refine hK.out _ _ (KS.out _ (KB.out.alloc KB.out.size _)) (fun hH => ?_)
   clear hK K
   have hb := (Below.refl W0.heap.size W0).alloc (Nat.le_refl _) (.cells #[.slice none 0 0] 30)
   have X3 : Hid (BoxAt w0 (W0.alloc (.cells #[.slice none 0 0] 30)) W0.heap.size (.cells #[.slice none 0 0] 30 (0, 0))) := mkHid ⟨KB.out.size, heap_alloc_new _ _⟩
   replace KB := mkHid (KB.out.trans (hb.mono KB.out.size))
   clear hb
   generalize W0.alloc (.cells #[.slice none 0 0] 30) = W1 at KB X3 hH ⊢
   refine wpAnyH_ready (rs := [2, 7]) (by kernel_rfl) (by simp) ?_
   refine AllReadyH.cons rfl (fun K hK => ?_) (AllReadyH.cons rfl (fun K hK => ?_) AllReadyH.nil)
   ·go_simp
    go_at_call 41
    refine (CL1.out W1 KB.out).mono ?_
    rintro e W2 ⟨q1, d1, rfl, h0, hb⟩
    go_wp2_with fail
    refine hK.out _ _ (KS.out _ (KB.out.trans (hb.mono KB.out.size))) (fun hH => ?_)
    clear hK K
    replace X3 := mkHid (X3.out.below hb)
    have F1 := mkHid h0
    clear h0
    replace KB := mkHid (KB.out.trans (hb.mono KB.out.size))
    clear hb
    refine wpAnyH_ready (rs := [5, 7]) (by kernel_rfl) (by simp) ?_
    refine AllReadyH.cons rfl (fun K hK => ?_) (AllReadyH.cons rfl (fun K hK => ?_) AllReadyH.nil)
    ·go_simp
     go_at_call 41
     refine (CL2.out W2 KB.out).mono ?_
     rintro e W3 ⟨q2, d2, rfl, h0, hb⟩
     go_wp2_with fail
     refine hK.out _ _ (KS.out _ (KB.out.trans (hb.mono KB.out.size))) (fun hH => ?_)
     clear hK K
     replace X3 := mkHid (X3.out.below hb)
     replace F1 := mkHid (F1.out.below hb)
     have F2 := mkHid h0
     clear h0
     replace KB := mkHid (KB.out.trans (hb.mono KB.out.size))
     clear hb
     refine wpAnyH_ready (rs := [7]) (by kernel_rfl) (by simp) ?_
     refine AllReadyH.cons rfl (fun K hK => ?_) AllReadyH.nil
     ·go_simp
      refine hK.out _ _ (KS.out _ (KB.out.alloc KB.out.size _)) (fun hH => ?_)
      clear hK K
      have hb := (Below.refl W3.heap.size W3).alloc (Nat.le_refl _) (.cells #[.slice none 0 0] 30)
      have NE43 : W3.heap.size ≠ W0.heap.size := by have := lt_of_heap X3.out.2; omega
      have NE34 := NE43.symm
      replace X3 := mkHid (X3.out.below hb)
      replace F1 := mkHid (F1.out.below hb)
      replace F2 := mkHid (F2.out.below hb)
      have X4 : Hid (BoxAt w0 (W3.alloc (.cells #[.slice none 0 0] 30)) W3.heap.size (.cells #[.slice none 0 0] 30 (0, 0))) := mkHid ⟨KB.out.size, heap_alloc_new _ _⟩
      replace KB := mkHid (KB.out.trans (hb.mono KB.out.size))
      clear hb
      generalize W3.alloc (.cells #[.slice none 0 0] 30) = W4 at KB X3 F1 F2 X4 hH ⊢
      refine wpAnyH_ready (rs := [8]) (by kernel_rfl) (by simp) ?_
      refine AllReadyH.cons rfl (fun K hK => ?_) AllReadyH.nil
      ·have q0 : W4.cell? ⟨W0.heap.size, 0, none⟩ = some (.slice none 0 0) := (cell_of_block X3.out.2 0).trans rfl
       have y0 := unfrozen_of_block X3.out.2 0
       go_simp
       refine hK.out _ _ (KS.out _ (below_set KB.out ⟨W0.heap.size, 0, none⟩ (.slice q1 n1 d1) X3.out.1)) (fun hH => ?_)
       clear hK K q0 y0
       replace F1 := mkHid (F1.out.set (v := .slice q1 n1 d1) (o := 0) X3.out (fun _ _ h => by cases h))
       replace F2 := mkHid (F2.out.set (v := .slice q1 n1 d1) (o := 0) X3.out (fun _ _ h => by cases h))
       replace X4 := mkHid (X4.out.other (v := .slice q1 n1 d1) (o := 0) NE43)
       replace X3 : Hid (BoxAt w0 (W4.setCell ⟨W0.heap.size, 0, none⟩ (.slice q1 n1 d1)) W0.heap.size (.cells #[.slice q1 n1 d1] 30 (0, 0))) := mkHid ⟨X3.out.1, heap_set_in X3.out.2⟩
       replace KB := mkHid (below_set KB.out ⟨W0.heap.size, 0, none⟩ (.slice q1 n1 d1) X3.out.1)
       generalize W4.setCell ⟨W0.heap.size, 0, none⟩ (.slice q1 n1 d1) = W5 at KB X3 F1 F2 X4 hH ⊢
       refine wpAnyH_ready (rs := [9]) (by kernel_rfl) (by simp) ?_
       refine AllReadyH.cons rfl (fun K hK => ?_) AllReadyH.nil
       ·have q0 : W5.cell? ⟨W3.heap.size, 0, none⟩ = some (.slice none 0 0) := (cell_of_block X4.out.2 0).trans rfl
        have y0 := unfrozen_of_block X4.out.2 0
        go_simp
        refine hK.out _ _ (KS.out _ (below_set KB.out ⟨W3.heap.size, 0, none⟩ (.slice q2 n2 d2) X4.out.1)) (fun hH => ?_)
        clear hK K q0 y0
        replace X3 := mkHid (X3.out.other (v := .slice q2 n2 d2) (o := 0) NE34)
        replace F1 := mkHid (F1.out.set (v := .slice q2 n2 d2) (o := 0) X4.out (fun _ _ h => by cases h))
        replace F2 := mkHid (F2.out.set (v := .slice q2 n2 d2) (o := 0) X4.out (fun _ _ h => by cases h))
        replace X4 : Hid (BoxAt w0 (W5.setCell ⟨W3.heap.size, 0, none⟩ (.slice q2 n2 d2)) W3.heap.size (.cells #[.slice q2 n2 d2] 30 (0, 0))) := mkHid ⟨X4.out.1, heap_set_in X4.out.2⟩
        replace KB := mkHid (below_set KB.out ⟨W3.heap.size, 0, none⟩ (.slice q2 n2 d2) X4.out.1)
        generalize W5.setCell ⟨W3.heap.size, 0, none⟩ (.slice q2 n2 d2) = W6 at KB X3 F1 F2 X4 hH ⊢
        refine wpAnyH_done (by kernel_rfl) ?_ _
        refine NoPanic.normal ?_
        exact ⟨rfl, _, _, _, _, _, _, rfl, X3.out, X4.out, F1.out, F2.out, KB.out⟩
    ·go_simp
     refine hK.out _ _ (KS.out _ (KB.out.alloc KB.out.size _)) (fun hH => ?_)
     clear hK K
     have hb := (Below.refl W2.heap.size W2).alloc (Nat.le_refl _) (.cells #[.slice none 0 0] 30)
     have NE43 : W2.heap.size ≠ W0.heap.size := by have := lt_of_heap X3.out.2; omega
     have NE34 := NE43.symm
     replace X3 := mkHid (X3.out.below hb)
     replace F1 := mkHid (F1.out.below hb)
     have X4 : Hid (BoxAt w0 (W2.alloc (.cells #[.slice none 0 0] 30)) W2.heap.size (.cells #[.slice none 0 0] 30 (0, 0))) := mkHid ⟨KB.out.size, heap_alloc_new _ _⟩
     replace KB := mkHid (KB.out.trans (hb.mono KB.out.size))
     clear hb
     generalize W2.alloc (.cells #[.slice none 0 0] 30) = W3 at KB X3 F1 X4 hH ⊢
     refine wpAnyH_ready (rs := [5]) (by kernel_rfl) (by simp) ?_
     refine AllReadyH.cons rfl (fun K hK => ?_) AllReadyH.nil
     ·go_simp
      go_at_call 41
      refine (CL2.out W3 KB.out).mono ?_
      rintro e W4 ⟨q2, d2, rfl, h0, hb⟩
      go_wp2_with fail
      refine hK.out _ _ (KS.out _ (KB.out.trans (hb.mono KB.out.size))) (fun hH => ?_)
      clear hK K
      replace X3 := mkHid (X3.out.below hb)
      replace F1 := mkHid (F1.out.below hb)
      replace X4 := mkHid (X4.out.below hb)
      have F2 := mkHid h0
      clear h0
      replace KB := mkHid (KB.out.trans (hb.mono KB.out.size))
      clear hb
      refine wpAnyH_ready (rs := [8]) (by kernel_rfl) (by simp) ?_
      refine AllReadyH.cons rfl (fun K hK => ?_) AllReadyH.nil
      ·have q0 : W4.cell? ⟨W0.heap.size, 0, none⟩ = some (.slice none 0 0) := (cell_of_block X3.out.2 0).trans rfl
       have y0 := unfrozen_of_block X3.out.2 0
       go_simp
       refine hK.out _ _ (KS.out _ (below_set KB.out ⟨W0.heap.size, 0, none⟩ (.slice q1 n1 d1) X3.out.1)) (fun hH => ?_)
       clear hK K q0 y0
       replace F1 := mkHid (F1.out.set (v := .slice q1 n1 d1) (o := 0) X3.out (fun _ _ h => by cases h))
       replace X4 := mkHid (X4.out.other (v := .slice q1 n1 d1) (o := 0) NE43)
       replace F2 := mkHid (F2.out.set (v := .slice q1 n1 d1) (o := 0) X3.out (fun _ _ h => by cases h))
       replace X3 : Hid (BoxAt w0 (W4.setCell ⟨W0.heap.size, 0, none⟩ (.slice q1 n1 d1)) W0.heap.size (.cells #[.slice q1 n1 d1] 30 (0, 0))) := mkHid ⟨X3.out.1, heap_set_in X3.out.2⟩
       replace KB := mkHid (below_set KB.out ⟨W0.heap.size, 0, none⟩ (.slice q1 n1 d1) X3.out.1)
       generalize W4.setCell ⟨W0.heap.size, 0, none⟩ (.slice q1 n1 d1) = W5 at KB X3 F1 X4 F2 hH ⊢
       refine wpAnyH_ready (rs := [9]) (by kernel_rfl) (by simp) ?_
       refine AllReadyH.cons rfl (fun K hK => ?_) AllReadyH.nil
       ·have q0 : W5.cell? ⟨W2.heap.size, 0, none⟩ = some (.slice none 0 0) := (cell_of_block X4.out.2 0).trans rfl
        have y0 := unfrozen_of_block X4.out.2 0
        go_simp
        refine hK.out _ _ (KS.out _ (below_set KB.out ⟨W2.heap.size, 0, none⟩ (.slice q2 n2 d2) X4.out.1)) (fun hH => ?_)
        clear hK K q0 y0
        replace X3 := mkHid (X3.out.other (v := .slice q2 n2 d2) (o := 0) NE34)
        replace F1 := mkHid (F1.out.set (v := .slice q2 n2 d2) (o := 0) X4.out (fun _ _ h => by cases h))
        replace F2 := mkHid (F2.out.set (v := .slice q2 n2 d2) (o := 0) X4.out (fun _ _ h => by cases h))
        replace X4 : Hid (BoxAt w0 (W5.setCell ⟨W2.heap.size, 0, none⟩ (.slice q2 n2 d2)) W2.heap.size (.cells #[.slice q2 n2 d2] 30 (0, 0))) := mkHid ⟨X4.out.1, heap_set_in X4.out.2⟩
        replace KB := mkHid (below_set KB.out ⟨W2.heap.size, 0, none⟩ (.slice q2 n2 d2) X4.out.1)
        generalize W5.setCell ⟨W2.heap.size, 0, none⟩ (.slice q2 n2 d2) = W6 at KB X3 F1 X4 F2 hH ⊢
        refine wpAnyH_done (by kernel_rfl) ?_ _
        refine NoPanic.normal ?_
        exact ⟨rfl, _, _, _, _, _, _, rfl, X3.out, X4.out, F1.out, F2.out, KB.out⟩
   ·go_simp
    refine hK.out _ _ (KS.out _ (KB.out.alloc KB.out.size _)) (fun hH => ?_)
    clear hK K
    have hb := (Below.refl W1.heap.size W1).alloc (Nat.le_refl _) (.cells #[.slice none 0 0] 30)
    have NE43 : W1.heap.size ≠ W0.heap.size := by have := lt_of_heap X3.out.2; omega
    have NE34 := NE43.symm
    replace X3 := mkHid (X3.out.below hb)
    have X4 : Hid (BoxAt w0 (W1.alloc (.cells #[.slice none 0 0] 30)) W1.heap.size (.cells #[.slice none 0 0] 30 (0, 0))) := mkHid ⟨KB.out.size, heap_alloc_new _ _⟩
    replace KB := mkHid (KB.out.trans (hb.mono KB.out.size))
    clear hb
    generalize W1.alloc (.cells #[.slice none 0 0] 30) = W2 at KB X3 X4 hH ⊢
    refine wpAnyH_ready (rs := [2]) (by kernel_rfl) (by simp) ?_
    refine AllReadyH.cons rfl (fun K hK => ?_) AllReadyH.nil
    ·go_simp
     go_at_call 41
     refine (CL1.out W2 KB.out).mono ?_
     rintro e W3 ⟨q1, d1, rfl, h0, hb⟩
     go_wp2_with fail
     refine hK.out _ _ (KS.out _ (KB.out.trans (hb.mono KB.out.size))) (fun hH => ?_)
     clear hK K
     replace X3 := mkHid (X3.out.below hb)
     replace X4 := mkHid (X4.out.below hb)
     have F1 := mkHid h0
     clear h0
     replace KB := mkHid (KB.out.trans (hb.mono KB.out.size))
     clear hb
     refine wpAnyH_ready (rs := [5]) (by kernel_rfl) (by simp) ?_
     refine AllReadyH.cons rfl (fun K hK => ?_) AllReadyH.nil
     ·go_simp
      go_at_call 41
      refine (CL2.out W3 KB.out).mono ?_
      rintro e W4 ⟨q2, d2, rfl, h0, hb⟩
      go_wp2_with fail
      refine hK.out _ _ (KS.out _ (KB.out.trans (hb.mono KB.out.size))) (fun hH => ?_)
      clear hK K
      replace X3 := mkHid (X3.out.below hb)
      replace X4 := mkHid (X4.out.below hb)
      replace F1 := mkHid (F1.out.below hb)
      have F2 := mkHid h0
      clear h0
      replace KB := mkHid (KB.out.trans (hb.mono KB.out.size))
      clear hb
      refine wpAnyH_ready (rs := [8]) (by kernel_rfl) (by simp) ?_
      refine AllReadyH.cons rfl (fun K hK => ?_) AllReadyH.nil
      ·have q0 : W4.cell? ⟨W0.heap.size, 0, none⟩ = some (.slice none 0 0) := (cell_of_block X3.out.2 0).trans rfl
       have y0 := unfrozen_of_block X3.out.2 0
       go_simp
       refine hK.out _ _ (KS.out _ (below_set KB.out ⟨W0.heap.size, 0, none⟩ (.slice q1 n1 d1) X3.out.1)) (fun hH => ?_)
       clear hK K q0 y0
       replace X4 := mkHid (X4.out.other (v := .slice q1 n1 d1) (o := 0) NE43)
       replace F1 := mkHid (F1.out.set (v := .slice q1 n1 d1) (o := 0) X3.out (fun _ _ h => by cases h))
       replace F2 := mkHid (F2.out.set (v := .slice q1 n1 d1) (o := 0) X3.out (fun _ _ h => by cases h))
       replace X3 : Hid (BoxAt w0 (W4.setCell ⟨W0.heap.size, 0, none⟩ (.slice q1 n1 d1)) W0.heap.size (.cells #[.slice q1 n1 d1] 30 (0, 0))) := mkHid ⟨X3.out.1, heap_set_in X3.out.2⟩
       replace KB := mkHid (below_set KB.out ⟨W0.heap.size, 0, none⟩ (.slice q1 n1 d1) X3.out.1)
       generalize W4.setCell ⟨W0.heap.size, 0, none⟩ (.slice q1 n1 d1) = W5 at KB X3 X4 F1 F2 hH ⊢
       refine wpAnyH_ready (rs := [9]) (by kernel_rfl) (by simp) ?_
       refine AllReadyH.cons rfl (fun K hK => ?_) AllReadyH.nil
       ·have q0 : W5.cell? ⟨W1.heap.size, 0, none⟩ = some (.slice none 0 0) := (cell_of_block X4.out.2 0).trans rfl
        have y0 := unfrozen_of_block X4.out.2 0
        go_simp
        refine hK.out _ _ (KS.out _ (below_set KB.out ⟨W1.heap.size, 0, none⟩ (.slice q2 n2 d2) X4.out.1)) (fun hH => ?_)
        clear hK K q0 y0
        replace X3 := mkHid (X3.out.other (v := .slice q2 n2 d2) (o := 0) NE34)
        replace F1 := mkHid (F1.out.set (v := .slice q2 n2 d2) (o := 0) X4.out (fun _ _ h => by cases h))
        replace F2 := mkHid (F2.out.set (v := .slice q2 n2 d2) (o := 0) X4.out (fun _ _ h => by cases h))
        replace X4 : Hid (BoxAt w0 (W5.setCell ⟨W1.heap.size, 0, none⟩ (.slice q2 n2 d2)) W1.heap.size (.cells #[.slice q2 n2 d2] 30 (0, 0))) := mkHid ⟨X4.out.1, heap_set_in X4.out.2⟩
        replace KB := mkHid (below_set KB.out ⟨W1.heap.size, 0, none⟩ (.slice q2 n2 d2) X4.out.1)
        generalize W5.setCell ⟨W1.heap.size, 0, none⟩ (.slice q2 n2 d2) = W6 at KB X3 X4 F1 F2 hH ⊢
        refine wpAnyH_done (by kernel_rfl) ?_ _
        refine NoPanic.normal ?_
        exact ⟨rfl, _, _, _, _, _, _, rfl, X3.out, X4.out, F1.out, F2.out, KB.out⟩
  ·go_simp
   refine hK.out _ _ (KS.out _ (KB.out.alloc KB.out.size _)) (fun hH => ?_)
   clear hK K
   have hb := (Below.refl W0.heap.size W0).alloc (Nat.le_refl _) (.cells #[.slice none 0 0] 30)
   have X4 : Hid (BoxAt w0 (W0.alloc (.cells #[.slice none 0 0] 30)) W0.heap.size (.cells #[.slice none 0 0] 30 (0, 0))) := mkHid ⟨KB.out.size, heap_alloc_new _ _⟩
   replace KB := mkHid (KB.out.trans (hb.mono KB.out.size))
   clear hb
   generalize W0.alloc (.cells #[.slice none 0 0] 30) = W1 at KB X4 hH ⊢
   refine wpAnyH_ready (rs := [2, 6]) (by kernel_rfl) (by simp) ?_
   refine AllReadyH.cons rfl (fun K hK => ?_) (AllReadyH.cons rfl (fun K hK => ?_) AllReadyH.nil)
   ·go_simp
    go_at_call 41
    refine (CL1.out W1 KB.out).mono ?_
    rintro e W2 ⟨q1, d1, rfl, h0, hb⟩
    go_wp2_with fail
    refine hK.out _ _ (KS.out _ (KB.out.trans (hb.mono KB.out.size))) (fun hH => ?_)
    clear hK K
    replace X4 := mkHid (X4.out.below hb)
    have F1 := mkHid h0
    clear h0
    replace KB := mkHid (KB.out.trans (hb.mono KB.out.size))
    clear hb
    refine wpAnyH_ready (rs := [5, 6]) (by kernel_rfl) (by simp) ?_
    refine AllReadyH.cons rfl (fun K hK => ?_) (AllReadyH.cons rfl (fun K hK => ?_) AllReadyH.nil)
    ·go_simp
     go_at_call 41
     refine (CL2.out W2 KB.out).mono ?_
     rintro e W3 ⟨q2, d2, rfl, h0, hb⟩
     go_wp2_with fail
     refine hK.out _ _ (KS.out _ (KB.out.trans (hb.mono KB.out.size))) (fun hH => ?_)
     clear hK K
     replace X4 := mkHid (X4.out.below hb)
     replace F1 := mkHid (F1.out.below hb)
     have F2 := mkHid h0
     clear h0
     replace KB := mkHid (KB.out.trans (hb.mono KB.out.size))
     clear hb
     refine wpAnyH_ready (rs := [6]) (by kernel_rfl) (by simp) ?_
     refine AllReadyH.cons rfl (fun K hK => ?_) AllReadyH.nil
     ·go_simp
      refine hK.out _ _ (KS.out _ (KB.out.alloc KB.out.size _)) (fun hH => ?_)
      clear hK K
      have hb := (Below.refl W3.heap.size W3).alloc (Nat.le_refl _) (.cells #[.slice none 0 0] 30)
      have NE34 : W3.heap.size ≠ W0.heap.size := by have := lt_of_heap X4.out.2; omega
      have NE43 := NE34.symm
      replace X4 := mkHid (X4.out.below hb)
      replace F1 := mkHid (F1.out.below hb)
      replace F2 := mkHid (F2.out.below hb)
      have X3 : Hid (BoxAt w0 (W3.alloc (.cells #[.slice none 0 0] 30)) W3.heap.size (.cells #[.slice none 0 0] 30 (0, 0))) := mkHid ⟨KB.out.size, heap_alloc_new _ _⟩
      replace KB := mkHid (KB.out.trans (hb.mono KB.out.size))
      clear hb
      generalize W3.alloc (.cells #[.slice none 0 0] 30) = W4 at KB X4 F1 F2 X3 hH ⊢
      refine wpAnyH_ready (rs := [8]) (by kernel_rfl) (by simp) ?_
      refine AllReadyH.cons rfl (fun K hK => ?_) AllReadyH.nil
      ·have q0 : W4.cell? ⟨W3.heap.size, 0, none⟩ = some (.slice none 0 0) := (cell_of_block X3.out.2 0).trans rfl
       have y0 := unfrozen_of_block X3.out.2 0
       go_simp
       refine hK.out _ _ (KS.out _ (below_set KB.out ⟨W3.heap.size, 0, none⟩ (.slice q1 n1 d1) X3.out.1)) (fun hH => ?_)
       clear hK K q0 y0
       replace X4 := mkHid (X4.out.other (v := .slice q1 n1 d1) (o := 0) NE43)
       replace F1 := mkHid (F1.out.set (v := .slice q1 n1 d1) (o := 0) X3.out (fun _ _ h => by cases h))
       replace F2 := mkHid (F2.out.set (v := .slice q1 n1 d1) (o := 0) X3.out (fun _ _ h => by cases h))
       replace X3 : Hid (BoxAt w0 (W4.setCell ⟨W3.heap.size, 0, none⟩ (.slice q1 n1 d1)) W3.heap.size (.cells #[.slice q1 n1 d1] 30 (0, 0))) := mkHid ⟨X3.out.1, heap_set_in X3.out.2⟩
       replace KB := mkHid (below_set KB.out ⟨W3.heap.size, 0, none⟩ (.slice q1 n1 d1) X3.out.1)
       generalize W4.setCell ⟨W3.heap.size, 0, none⟩ (.slice q1 n1 d1) = W5 at KB X4 F1 F2 X3 hH ⊢
       refine wpAnyH_ready (rs := [9]) (by kernel_rfl) (by simp) ?_
       refine AllReadyH.cons rfl (fun K hK => ?_) AllReadyH.nil
       ·have q0 : W5.cell? ⟨W0.heap.size, 0, none⟩ = some (.slice none 0 0) := (cell_of_block X4.out.2 0).trans rfl
        have y0 := unfrozen_of_block X4.out.2 0
        go_simp
        refine hK.out _ _ (KS.out _ (below_set KB.out ⟨W0.heap.size, 0, none⟩ (.slice q2 n2 d2) X4.out.1)) (fun hH => ?_)
        clear hK K q0 y0
        replace F1 := mkHid (F1.out.set (v := .slice q2 n2 d2) (o := 0) X4.out (fun _ _ h => by cases h))
        replace F2 := mkHid (F2.out.set (v := .slice q2 n2 d2) (o := 0) X4.out (fun _ _ h => by cases h))
        replace X3 := mkHid (X3.out.other (v := .slice q2 n2 d2) (o := 0) NE34)
        replace X4 : Hid (BoxAt w0 (W5.setCell ⟨W0.heap.size, 0, none⟩ (.slice q2 n2 d2)) W0.heap.size (.cells #[.slice q2 n2 d2] 30 (0, 0))) := mkHid ⟨X4.out.1, heap_set_in X4.out.2⟩
        replace KB := mkHid (below_set KB.out ⟨W0.heap.size, 0, none⟩ (.slice q2 n2 d2) X4.out.1)
        generalize W5.setCell ⟨W0.heap.size, 0, none⟩ (.slice q2 n2 d2) = W6 at KB X4 F1 F2 X3 hH ⊢
        refine wpAnyH_done (by kernel_rfl) ?_ _
        refine NoPanic.normal ?_
        exact ⟨rfl, _, _, _, _, _, _, rfl, X3.out, X4.out, F1.out, F2.out, KB.out⟩
    ·go_simp
     refine hK.out _ _ (KS.out _ (KB.out.alloc KB.out.size _)) (fun hH => ?_)
     clear hK K
     have hb := (Below.refl W2.heap.size W2).alloc (Nat.le_refl _) (.cells #[.slice none 0 0] 30)
     have NE34 : W2.heap.size ≠ W0.heap.size := by have := lt_of_heap X4.out.2; omega
     have NE43 := NE34.symm
     replace X4 := mkHid (X4.out.below hb)
     replace F1 := mkHid (F1.out.below hb)
     have X3 : Hid (BoxAt w0 (W2.alloc (.cells #[.slice none 0 0] 30)) W2.heap.size (.cells #[.slice none 0 0] 30 (0, 0))) := mkHid ⟨KB.out.size, heap_alloc_new _ _⟩
     replace KB := mkHid (KB.out.trans (hb.mono KB.out.size))
     clear hb
     generalize W2.alloc (.cells #[.slice none 0 0] 30) = W3 at KB X4 F1 X3 hH ⊢
     refine wpAnyH_ready (rs := [5]) (by kernel_rfl) (by simp) ?_
     refine AllReadyH.cons rfl (fun K hK => ?_) AllReadyH.nil
     ·go_simp
      go_at_call 41
      refine (CL2.out W3 KB.out).mono ?_
      rintro e W4 ⟨q2, d2, rfl, h0, hb⟩
      go_wp2_with fail
      refine hK.out _ _ (KS.out _ (KB.out.trans (hb.mono KB.out.size))) (fun hH => ?_)
      clear hK K
      replace X4 := mkHid (X4.out.below hb)
      replace F1 := mkHid (F1.out.below hb)
      replace X3 := mkHid (X3.out.below hb)
      have F2 := mkHid h0
      clear h0
      replace KB := mkHid (KB.out.trans (hb.mono KB.out.size))
      clear hb
      refine wpAnyH_ready (rs := [8]) (by kernel_rfl) (by simp) ?_
      refine AllReadyH.cons rfl (fun K hK => ?_) AllReadyH.nil
      ·have q0 : W4.cell? ⟨W2.heap.size, 0, none⟩ = some (.slice none 0 0) := (cell_of_block X3.out.2 0).trans rfl
       have y0 := unfrozen_of_block X3.out.2 0
       go_simp
       refine hK.out _ _ (KS.out _ (below_set KB.out ⟨W2.heap.size, 0, none⟩ (.slice q1 n1 d1) X3.out.1)) (fun hH => ?_)
       clear hK K q0 y0
       replace X4 := mkHid (X4.out.other (v := .slice q1 n1 d1) (o := 0) NE43)
       replace F1 := mkHid (F1.out.set (v := .slice q1 n1 d1) (o := 0) X3.out (fun _ _ h => by cases h))
       replace F2 := mkHid (F2.out.set (v := .slice q1 n1 d1) (o := 0) X3.out (fun _ _ h => by cases h))
       replace X3 : Hid (BoxAt w0 (W4.setCell ⟨W2.heap.size, 0, none⟩ (.slice q1 n1 d1)) W2.heap.size (.cells #[.slice q1 n1 d1] 30 (0, 0))) := mkHid ⟨X3.out.1, heap_set_in X3.out.2⟩
       replace KB := mkHid (below_set KB.out ⟨W2.heap.size, 0, none⟩ (.slice q1 n1 d1) X3.out.1)
       generalize W4.setCell ⟨W2.heap.size, 0, none⟩ (.slice q1 n1 d1) = W5 at KB X4 F1 X3 F2 hH ⊢
       refine wpAnyH_ready (rs := [9]) (by kernel_rfl) (by simp) ?_
       refine AllReadyH.cons rfl (fun K hK => ?_) AllReadyH.nil
       ·have q0 : W5.cell? ⟨W0.heap.size, 0, none⟩ = some (.slice none 0 0) := (cell_of_block X4.out.2 0).trans rfl
        have y0 := unfrozen_of_block X4.out.2 0
        go_simp
        refine hK.out _ _ (KS.out _ (below_set KB.out ⟨W0.heap.size, 0, none⟩ (.slice q2 n2 d2) X4.out.1)) (fun hH => ?_)
        clear hK K q0 y0
        replace F1 := mkHid (F1.out.set (v := .slice q2 n2 d2) (o := 0) X4.out (fun _ _ h => by cases h))
        replace X3 := mkHid (X3.out.other (v := .slice q2 n2 d2) (o := 0) NE34)
        replace F2 := mkHid (F2.out.set (v := .slice q2 n2 d2) (o := 0) X4.out (fun _ _ h => by cases h))
        replace X4 : Hid (BoxAt w0 (W5.setCell ⟨W0.heap.size, 0, none⟩ (.slice q2 n2 d2)) W0.heap.size (.cells #[.slice q2 n2 d2] 30 (0, 0))) := mkHid ⟨X4.out.1, heap_set_in X4.out.2⟩
        replace KB := mkHid (below_set KB.out ⟨W0.heap.size, 0, none⟩ (.slice q2 n2 d2) X4.out.1)
        generalize W5.setCell ⟨W0.heap.size, 0, none⟩ (.slice q2 n2 d2) = W6 at KB X4 F1 X3 F2 hH ⊢
        refine wpAnyH_done (by kernel_rfl) ?_ _
        refine NoPanic.normal ?_
        exact ⟨rfl, _, _, _, _, _, _, rfl, X3.out, X4.out, F1.out, F2.out, KB.out⟩
   ·go_simp
    refine hK.out _ _ (KS.out _ (KB.out.alloc KB.out.size _)) (fun hH => ?_)
    clear hK K
    have hb := (Below.refl W1.heap.size W1).alloc (Nat.le_refl _) (.cells #[.slice none 0 0] 30)
    have NE34 : W1.heap.size ≠ W0.heap.size := by have := lt_of_heap X4.out.2; omega
    have NE43 := NE34.symm
    replace X4 := mkHid (X4.out.below hb)
    have X3 : Hid (BoxAt w0 (W1.alloc (.cells #[.slice none 0 0] 30)) W1.heap.size (.cells #[.slice none 0 0] 30 (0, 0))) := mkHid ⟨KB.out.size, heap_alloc_new _ _⟩
    replace KB := mkHid (KB.out.trans (hb.mono KB.out.size))
    clear hb
    generalize W1.alloc (.cells #[.slice none 0 0] 30) = W2 at KB X4 X3 hH ⊢
    refine wpAnyH_ready (rs := [2]) (by kernel_rfl) (by simp) ?_
    refine AllReadyH.cons rfl (fun K hK => ?_) AllReadyH.nil
    ·go_simp
     go_at_call 41
     refine (CL1.out W2 KB.out).mono ?_
     rintro e W3 ⟨q1, d1, rfl, h0, hb⟩
     go_wp2_with fail
     refine hK.out _ _ (KS.out _ (KB.out.trans (hb.mono KB.out.size))) (fun hH => ?_)
     clear hK K
     replace X4 := mkHid (X4.out.below hb)
     replace X3 := mkHid (X3.out.below hb)
     have F1 := mkHid h0
     clear h0
     replace KB := mkHid (KB.out.trans (hb.mono KB.out.size))
     clear hb
     refine wpAnyH_ready (rs := [5]) (by kernel_rfl) (by simp) ?_
     refine AllReadyH.cons rfl (fun K hK => ?_) AllReadyH.nil
     ·go_simp
      go_at_call 41
      refine (CL2.out W3 KB.out).mono ?_
      rintro e W4 ⟨q2, d2, rfl, h0, hb⟩
      go_wp2_with fail
      refine hK.out _ _ (KS.out _ (KB.out.trans (hb.mono KB.out.size))) (fun hH => ?_)
      clear hK K
      replace X4 := mkHid (X4.out.below hb)
      replace X3 := mkHid (X3.out.below hb)
      replace F1 := mkHid (F1.out.below hb)
      have F2 := mkHid h0
      clear h0
      replace KB := mkHid (KB.out.trans (hb.mono KB.out.size))
      clear hb
      refine wpAnyH_ready (rs := [8]) (by kernel_rfl) (by simp) ?_
      refine AllReadyH.cons rfl (fun K hK => ?_) AllReadyH.nil
      ·have q0 : W4.cell? ⟨W1.heap.size, 0, none⟩ = some (.slice none 0 0) := (cell_of_block X3.out.2 0).trans rfl
       have y0 := unfrozen_of_block X3.out.2 0
       go_simp
       refine hK.out _ _ (KS.out _ (below_set KB.out ⟨W1.heap.size, 0, none⟩ (.slice q1 n1 d1) X3.out.1)) (fun hH => ?_)
       clear hK K q0 y0
       replace X4 := mkHid (X4.out.other (v := .slice q1 n1 d1) (o := 0) NE43)
       replace F1 := mkHid (F1.out.set (v := .slice q1 n1 d1) (o := 0) X3.out (fun _ _ h => by cases h))
       replace F2 := mkHid (F2.out.set (v := .slice q1 n1 d1) (o := 0) X3.out (fun _ _ h => by cases h))
       replace X3 : Hid (BoxAt w0 (W4.setCell ⟨W1.heap.size, 0, none⟩ (.slice q1 n1 d1)) W1.heap.size (.cells #[.slice q1 n1 d1] 30 (0, 0))) := mkHid ⟨X3.out.1, heap_set_in X3.out.2⟩
       replace KB := mkHid (below_set KB.out ⟨W1.heap.size, 0, none⟩ (.slice q1 n1 d1) X3.out.1)
       generalize W4.setCell ⟨W1.heap.size, 0, none⟩ (.slice q1 n1 d1) = W5 at KB X4 X3 F1 F2 hH ⊢
       refine wpAnyH_ready (rs := [9]) (by kernel_rfl) (by simp) ?_
       refine AllReadyH.cons rfl (fun K hK => ?_) AllReadyH.nil
       ·have q0 : W5.cell? ⟨W0.heap.size, 0, none⟩ = some (.slice none 0 0) := (cell_of_block X4.out.2 0).trans rfl
        have y0 := unfrozen_of_block X4.out.2 0
        go_simp
        refine hK.out _ _ (KS.out _ (below_set KB.out ⟨W0.heap.size, 0, none⟩ (.slice q2 n2 d2) X4.out.1)) (fun hH => ?_)
        clear hK K q0 y0
        replace X3 := mkHid (X3.out.other (v := .slice q2 n2 d2) (o := 0) NE34)
        replace F1 := mkHid (F1.out.set (v := .slice q2 n2 d2) (o := 0) X4.out (fun _ _ h => by cases h))
        replace F2 := mkHid (F2.out.set (v := .slice q2 n2 d2) (o := 0) X4.out (fun _ _ h => by cases h))
        replace X4 : Hid (BoxAt w0 (W5.setCell ⟨W0.heap.size, 0, none⟩ (.slice q2 n2 d2)) W0.heap.size (.cells #[.slice q2 n2 d2] 30 (0, 0))) := mkHid ⟨X4.out.1, heap_set_in X4.out.2⟩
        replace KB := mkHid (below_set KB.out ⟨W0.heap.size, 0, none⟩ (.slice q2 n2 d2) X4.out.1)
        generalize W5.setCell ⟨W0.heap.size, 0, none⟩ (.slice q2 n2 d2) = W6 at KB X4 X3 F1 F2 hH ⊢
        refine wpAnyH_done (by kernel_rfl) ?_ _
        refine NoPanic.normal ?_
        exact ⟨rfl, _, _, _, _, _, _, rfl, X3.out, X4.out, F1.out, F2.out, KB.out⟩
 rintro e a' w1 ⟨rfl, b3, b4, q1, d1, q2, d2, rfl, x3, x4, f1, f2, kb⟩
 have X3 := mkHid x3
 have X4 := mkHid x4
 have F1 := mkHid f1
 have F2 := mkHid f2
 have KB0 := mkHid kb
 clear x3 x4 f1 f2 kb
 go_wp2_with fail
 refine wp_mono (Q := fun e a' w' => e = .normal ∧ ∃ b5 b6, a' = { tmps := #[.agg #[.slice P1 n1 C1, .slice P2 n2 C2, .bool li, .bool hi], .pointer (some ⟨w.heap.size, 0, none⟩), .pointer (some ⟨w.heap.size + 1, 0, none⟩), .pointer (some ⟨b3, 0, none⟩), .pointer (some ⟨b4, 0, none⟩), .pointer (some ⟨b5, 0, none⟩), .pointer (some ⟨b6, 0, none⟩), .pointer (some ⟨w.heap.size, 0, none⟩), .slice P1 n1 C1, .slice q1 n1 d1, .pointer (some ⟨w.heap.size, 1, none⟩), .slice P2 n2 C2, .slice q2 n2 d2, .pointer (some ⟨w.heap.size, 2, none⟩), .bool li, .pointer (some ⟨w.heap.size, 3, none⟩), .bool hi, undef, undef, undef], defers := [] } ∧ BoxAt w0 w' b5 (.cells #[.bool li] 4 (0, 0)) ∧ BoxAt w0 w' b6 (.cells #[.bool hi] 4 (0, 0)) ∧ BoxAt w0 w' b3 (.cells #[.slice q1 n1 d1] 30 (0, 0)) ∧ BoxAt w0 w' b4 (.cells #[.slice q2 n2 d2] 30 (0, 0)) ∧ RowF w0 w' q1 low ∧ RowF w0 w' q2 high ∧ Below w0.heap.size w0 w') ?_ ?_
 ·have KB := mkHid (KB0.out.drew)
  replace X3 := mkHid (X3.out.below (Below.refl _ w1).drew)
  replace X4 := mkHid (X4.out.below (Below.refl _ w1).drew)
  replace F1 := mkHid (F1.out.below (Below.refl _ w1).drew)
  replace F2 := mkHid (F2.out.below (Below.refl _ w1).drew)
  refine wp_region_noPanic ?_
  refine wp_region_held_drew (S := fun w' : World => w'.cell? ⟨w.heap.size, 0, none⟩ = some (.slice P1 n1 C1) ∧ w'.cell? ⟨w.heap.size, 1, none⟩ = some (.slice P2 n2 C2) ∧ w'.cell? ⟨w.heap.size, 2, none⟩ = some (.bool li) ∧ w'.cell? ⟨w.heap.size, 3, none⟩ = some (.bool hi)) (by kernel_rfl) (KS.out _ KB.out) (fun hH => ?_)
  refine tKx (i := 0) (v := .pointer (some ⟨w.heap.size, 2, none⟩)) rfl rfl (by kernel_rfl) (fun _ _ _ h => h) ?_ hH ?_
  ·intro w5 hSw; obtain ⟨s0, s1, s2, s3⟩ := hSw; go_simp
  simp only [zA9, zB9, zC9]
  refine tKx (i := 1) (v := .bool li) rfl rfl (by kernel_rfl) (fun _ _ _ h => h) ?_ hH ?_
  ·intro w5 hSw; obtain ⟨s0, s1, s2, s3⟩ := hSw; go_simp
  simp only [zA9, zB9, zC9]
  refine tKx (i := 2) (v := .pointer (some ⟨w.heap.size, 3, none⟩)) rfl rfl (by kernel_rfl) (fun _ _ _ h => h) ?_ hH ?_
  ·intro w5 hSw; obtain ⟨s0, s1, s2, s3⟩ := hSw; go_simp
  simp only [zA9, zB9, zC9]
  refine tKx (i := 3) (v := .bool hi) rfl rfl (by kernel_rfl) (fun _ _ _ h => h) ?_ hH ?_
  ·intro w5 hSw; obtain ⟨s0, s1, s2, s3⟩ := hSw; go_simp
  simp only [zA9, zB9, zC9]

  generalize hW0 : w1.drew = W0 at KB X3 X4 F1 F2 hH ⊢
  refine wpAnyH_ready (rs := [4, 5]) (by kernel_rfl) (by simp) ?_
  refine AllReadyH.cons rfl (fun K hK => ?_) (AllReadyH.cons rfl (fun K hK => ?_) AllReadyH.nil)
  ·go_simp
   refine hK.out _ _ (KS.out _ (KB.out.alloc KB.out.size _)) (fun hH => ?_)
   clear hK K
   have hb := (Below.refl W0.heap.size W0).alloc (Nat.le_refl _) (.cells #[.bool false] 4)
   have NE53 : W0.heap.size ≠ b3 := by have := lt_of_heap X3.out.2; omega
   have NE35 := NE53.symm
   have NE54 : W0.heap.size ≠ b4 := by have := lt_of_heap X4.out.2; omega
   have NE45 := NE54.symm
   replace X3 := mkHid (X3.out.below hb)
   replace X4 := mkHid (X4.out.below hb)
   replace F1 := mkHid (F1.out.below hb)
   replace F2 := mkHid (F2.out.below hb)
   have X5 : Hid (BoxAt w0 (W0.alloc (.cells #[.bool false] 4)) W0.heap.size (.cells #[.bool false] 4 (0, 0))) := mkHid ⟨KB.out.size, heap_alloc_new _ _⟩
   replace KB := mkHid (KB.out.trans (hb.mono KB.out.size))
   clear hb
   generalize W0.alloc (.cells #[.bool false] 4) = W1 at KB X3 X4 F1 F2 X5 hH ⊢
   refine wpAnyH_ready (rs := [5]) (by kernel_rfl) (by simp) ?_
   refine AllReadyH.cons rfl (fun K hK => ?_) AllReadyH.nil
   ·go_simp
    refine hK.out _ _ (KS.out _ (KB.out.alloc KB.out.size _)) (fun hH => ?_)
    clear hK K
    have hb := (Below.refl W1.heap.size W1).alloc (Nat.le_refl _) (.cells #[.bool false] 4)
    have NE63 : W1.heap.size ≠ b3 := by have := lt_of_heap X3.out.2; omega
    have NE36 := NE63.symm
    have NE64 : W1.heap.size ≠ b4 := by have := lt_of_heap X4.out.2; omega
    have NE46 := NE64.symm
    have NE65 : W1.heap.size ≠ W0.heap.size := by have := lt_of_heap X5.out.2; omega
    have NE56 := NE65.symm
    replace X3 := mkHid (X3.out.below hb)
    replace X4 := mkHid (X4.out.below hb)
    replace F1 := mkHid (F1.out.below hb)
    replace F2 := mkHid (F2.out.below hb)
    replace X5 := mkHid (X5.out.below hb)
    have X6 : Hid (BoxAt w0 (W1.alloc (.cells #[.bool false] 4)) W1.heap.size (.cells #[.bool false] 4 (0, 0))) := mkHid ⟨KB.out.size, heap_alloc_new _ _⟩
    replace KB := mkHid (KB.out.trans (hb.mono KB.out.size))
    clear hb
    generalize W1.alloc (.cells #[.bool false] 4) = W2 at KB X3 X4 F1 F2 X5 X6 hH ⊢
    refine wpAnyH_ready (rs := [6]) (by kernel_rfl) (by simp) ?_
    refine AllReadyH.cons rfl (fun K hK => ?_) AllReadyH.nil
    ·have q0 : W2.cell? ⟨W0.heap.size, 0, none⟩ = some (.bool false) := (cell_of_block X5.out.2 0).trans rfl
     have y0 := unfrozen_of_block X5.out.2 0
     go_simp
     refine hK.out _ _ (KS.out _ (below_set KB.out ⟨W0.heap.size, 0, none⟩ (.bool li) X5.out.1)) (fun hH => ?_)
     clear hK K q0 y0
     replace X3 := mkHid (X3.out.other (v := .bool li) (o := 0) NE35)
     replace X4 := mkHid (X4.out.other (v := .bool li) (o := 0) NE45)
     replace F1 := mkHid (F1.out.set (v := .bool li) (o := 0) X5.out (fun _ _ h => by cases h))
     replace F2 := mkHid (F2.out.set (v := .bool li) (o := 0) X5.out (fun _ _ h => by cases h))
     replace X6 := mkHid (X6.out.other (v := .bool li) (o := 0) NE65)
     replace X5 : Hid (BoxAt w0 (W2.setCell ⟨W0.heap.size, 0, none⟩ (.bool li)) W0.heap.size (.cells #[.bool li] 4 (0, 0))) := mkHid ⟨X5.out.1, heap_set_in X5.out.2⟩
     replace KB := mkHid (below_set KB.out ⟨W0.heap.size, 0, none⟩ (.bool li) X5.out.1)
     generalize W2.setCell ⟨W0.heap.size, 0, none⟩ (.bool li) = W3 at KB X3 X4 F1 F2 X5 X6 hH ⊢
     refine wpAnyH_ready (rs := [7]) (by kernel_rfl) (by simp) ?_
     refine AllReadyH.cons rfl (fun K hK => ?_) AllReadyH.nil
     ·have q0 : W3.cell? ⟨W1.heap.size, 0, none⟩ = some (.bool false) := (cell_of_block X6.out.2 0).trans rfl
      have y0 := unfrozen_of_block X6.out.2 0
      go_simp
      refine hK.out _ _ (KS.out _ (below_set KB.out ⟨W1.heap.size, 0, none⟩ (.bool hi) X6.out.1)) (fun hH => ?_)
      clear hK K q0 y0
      replace X3 := mkHid (X3.out.other (v := .bool hi) (o := 0) NE36)
      replace X4 := mkHid (X4.out.other (v := .bool hi) (o := 0) NE46)
      replace F1 := mkHid (F1.out.set (v := .bool hi) (o := 0) X6.out (fun _ _ h => by cases h))
      replace F2 := mkHid (F2.out.set (v := .bool hi) (o := 0) X6.out (fun _ _ h => by cases h))
      replace X5 := mkHid (X5.out.other (v := .bool hi) (o := 0) NE56)
      replace X6 : Hid (BoxAt w0 (W3.setCell ⟨W1.heap.size, 0, none⟩ (.bool hi)) W1.heap.size (.cells #[.bool hi] 4 (0, 0))) := mkHid ⟨X6.out.1, heap_set_in X6.out.2⟩
      replace KB := mkHid (below_set KB.out ⟨W1.heap.size, 0, none⟩ (.bool hi) X6.out.1)
      generalize W3.setCell ⟨W1.heap.size, 0, none⟩ (.bool hi) = W4 at KB X3 X4 F1 F2 X5 X6 hH ⊢
      refine wpAnyH_done (by kernel_rfl) ?_ _
      refine NoPanic.normal ?_
      exact ⟨rfl, _, _, rfl, X5.out, X6.out, X3.out, X4.out, F1.out, F2.out, KB.out⟩
  ·go_simp
   refine hK.out _ _ (KS.out _ (KB.out.alloc KB.out.size _)) (fun hH => ?_)
   clear hK K
   have hb := (Below.refl W0.heap.size W0).alloc (Nat.le_refl _) (.cells #[.bool false] 4)
   have NE63 : W0.heap.size ≠ b3 := by have := lt_of_heap X3.out.2; omega
   have NE36 := NE63.symm
   have NE64 : W0.heap.size ≠ b4 := by have := lt_of_heap X4.out.2; omega
   have NE46 := NE64.symm
   replace X3 := mkHid (X3.out.below hb)
   replace X4 := mkHid (X4.out.below hb)
   replace F1 := mkHid (F1.out.below hb)
   replace F2 := mkHid (F2.out.below hb)
   have X6 : Hid (BoxAt w0 (W0.alloc (.cells #[.bool false] 4)) W0.heap.size (.cells #[.bool false] 4 (0, 0))) := mkHid ⟨KB.out.size, heap_alloc_new _ _⟩
   replace KB := mkHid (KB.out.trans (hb.mono KB.out.size))
   clear hb
   generalize W0.alloc (.cells #[.bool false] 4) = W1 at KB X3 X4 F1 F2 X6 hH ⊢
   refine wpAnyH_ready (rs := [4]) (by kernel_rfl) (by simp) ?_
   refine AllReadyH.cons rfl (fun K hK => ?_) AllReadyH.nil
   ·go_simp
    refine hK.out _ _ (KS.out _ (KB.out.alloc KB.out.size _)) (fun hH => ?_)
    clear hK K
    have hb := (Below.refl W1.heap.size W1).alloc (Nat.le_refl _) (.cells #[.bool false] 4)
    have NE53 : W1.heap.size ≠ b3 := by have := lt_of_heap X3.out.2; omega
    have NE35 := NE53.symm
    have NE54 : W1.heap.size ≠ b4 := by have := lt_of_heap X4.out.2; omega
    have NE45 := NE54.symm
    have NE56 : W1.heap.size ≠ W0.heap.size := by have := lt_of_heap X6.out.2; omega
    have NE65 := NE56.symm
    replace X3 := mkHid (X3.out.below hb)
    replace X4 := mkHid (X4.out.below hb)
    replace F1 := mkHid (F1.out.below hb)
    replace F2 := mkHid (F2.out.below hb)
    replace X6 := mkHid (X6.out.below hb)
    have X5 : Hid (BoxAt w0 (W1.alloc (.cells #[.bool false] 4)) W1.heap.size (.cells #[.bool false] 4 (0, 0))) := mkHid ⟨KB.out.size, heap_alloc_new _ _⟩
    replace KB := mkHid (KB.out.trans (hb.mono KB.out.size))
    clear hb
    generalize W1.alloc (.cells #[.bool false] 4) = W2 at KB X3 X4 F1 F2 X6 X5 hH ⊢
    refine wpAnyH_ready (rs := [6]) (by kernel_rfl) (by simp) ?_
    refine AllReadyH.cons rfl (fun K hK => ?_) AllReadyH.nil
    ·have q0 : W2.cell? ⟨W1.heap.size, 0, none⟩ = some (.bool false) := (cell_of_block X5.out.2 0).trans rfl
     have y0 := unfrozen_of_block X5.out.2 0
     go_simp
     refine hK.out _ _ (KS.out _ (below_set KB.out ⟨W1.heap.size, 0, none⟩ (.bool li) X5.out.1)) (fun hH => ?_)
     clear hK K q0 y0
     replace X3 := mkHid (X3.out.other (v := .bool li) (o := 0) NE35)
     replace X4 := mkHid (X4.out.other (v := .bool li) (o := 0) NE45)
     replace F1 := mkHid (F1.out.set (v := .bool li) (o := 0) X5.out (fun _ _ h => by cases h))
     replace F2 := mkHid (F2.out.set (v := .bool li) (o := 0) X5.out (fun _ _ h => by cases h))
     replace X6 := mkHid (X6.out.other (v := .bool li) (o := 0) NE65)
     replace X5 : Hid (BoxAt w0 (W2.setCell ⟨W1.heap.size, 0, none⟩ (.bool li)) W1.heap.size (.cells #[.bool li] 4 (0, 0))) := mkHid ⟨X5.out.1, heap_set_in X5.out.2⟩
     replace KB := mkHid (below_set KB.out ⟨W1.heap.size, 0, none⟩ (.bool li) X5.out.1)
     generalize W2.setCell ⟨W1.heap.size, 0, none⟩ (.bool li) = W3 at KB X3 X4 F1 F2 X6 X5 hH ⊢
     refine wpAnyH_ready (rs := [7]) (by kernel_rfl) (by simp) ?_
     refine AllReadyH.cons rfl (fun K hK => ?_) AllReadyH.nil
     ·have q0 : W3.cell? ⟨W0.heap.size, 0, none⟩ = some (.bool false) := (cell_of_block X6.out.2 0).trans rfl
      have y0 := unfrozen_of_block X6.out.2 0
      go_simp
      refine hK.out _ _ (KS.out _ (below_set KB.out ⟨W0.heap.size, 0, none⟩ (.bool hi) X6.out.1)) (fun hH => ?_)
      clear hK K q0 y0
      replace X3 := mkHid (X3.out.other (v := .bool hi) (o := 0) NE36)
      replace X4 := mkHid (X4.out.other (v := .bool hi) (o := 0) NE46)
      replace F1 := mkHid (F1.out.set (v := .bool hi) (o := 0) X6.out (fun _ _ h => by cases h))
      replace F2 := mkHid (F2.out.set (v := .bool hi) (o := 0) X6.out (fun _ _ h => by cases h))
      replace X5 := mkHid (X5.out.other (v := .bool hi) (o := 0) NE56)
      replace X6 : Hid (BoxAt w0 (W3.setCell ⟨W0.heap.size, 0, none⟩ (.bool hi)) W0.heap.size (.cells #[.bool hi] 4 (0, 0))) := mkHid ⟨X6.out.1, heap_set_in X6.out.2⟩
      replace KB := mkHid (below_set KB.out ⟨W0.heap.size, 0, none⟩ (.bool hi) X6.out.1)
      generalize W3.setCell ⟨W0.heap.size, 0, none⟩ (.bool hi) = W4 at KB X3 X4 F1 F2 X6 X5 hH ⊢
      refine wpAnyH_done (by kernel_rfl) ?_ _
      refine NoPanic.normal ?_
      exact ⟨rfl, _, _, rfl, X5.out, X6.out, X3.out, X4.out, F1.out, F2.out, KB.out⟩
 rintro e a' w2 ⟨rfl, b5, b6, rfl, x5, x6, x3, x4, f1, f2, kb⟩
 have lt0 : w.heap.size + 1 < w0.heap.size := lt_of_heap D1.out
 have le0 := BB.out.size
 have FN : Hid (∀ a b, BtwQ w low high li hi (.returned (.agg #[.func (.func 65) #[] #[.pointer (some ⟨b3, 0, none⟩), .pointer (some ⟨b5, 0, none⟩)], .func (.func 67) #[] #[.pointer (some ⟨b4, 0, none⟩), .pointer (some ⟨b6, 0, none⟩)]])) ((w2.setCell ⟨w.heap.size + 1, 0, none⟩ a).setCell ⟨w.heap.size + 1, 1, none⟩ b)) := fun a b => by
  unfold BtwQ
  rw [← HL1.out, ← HL2.out]
  exact ⟨b3, b4, b5, b6, q1, d1, q2, d2, rfl, ((x3.far lt0).far lt0).down le0, ((x4.far lt0).far lt0).down le0, ((x5.far lt0).far lt0).down le0, ((x6.far lt0).far lt0).down le0, ((f1.far lt0).far lt0).down le0, ((f2.far lt0).far lt0).down le0, below_set (below_set (BB.out.trans (kb.mono le0)) _ _ (by show w.heap.size ≤ w.heap.size + 1; omega)) _ _ (by show w.heap.size ≤ w.heap.size + 1; omega)⟩
 have dd := (kb.block _ lt0).trans D1.out
 have g0 : w2.cell? ⟨w.heap.size + 1, 0, none⟩ = some .nilFunc := (cell_of_block dd 0).trans rfl
 have g1 : w2.cell? ⟨w.heap.size + 1, 1, none⟩ = some .nilFunc := (cell_of_block dd 1).trans rfl
 have y0 := unfrozen_of_block dd 0
 have y1 := unfrozen_of_block dd 1
 have sf : ∀ (a : Addr) (f : Fn) (x y : Array Value) (w : World) (m : Mode), (store a (.func f x y) m).run Tryz.prog w = stored Tryz.prog w a (.func f x y) m := fun a f x y w m => run_store _ _ _ _ _ rfl
 clear x3 x4 x5 x6 f1 f2 kb dd X3 X4 F1 F2 KB0 KS CL1 CL2 BB D1 lt0 le0 HL1 HL2 bs
 go_wp2_with fail
 refine bodyPost_ret (v := .agg #[.func (.func 65) #[] #[.pointer (some ⟨b3, 0, none⟩), .pointer (some ⟨b5, 0, none⟩)], .func (.func 67) #[] #[.pointer (some ⟨b4, 0, none⟩), .pointer (some ⟨b6, 0, none⟩)]]) (by simp [results, Tryz.results39, go_sem, g0, g1]) rfl ?_
 exact FN.out _ _
end Go.Proofs.YtclcajnodoifjaaGreatDoor

