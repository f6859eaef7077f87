/-
  The law's bounds of rows that stand at any place.
-/
import Derived.Test.YtclcajnodoifjaaGreatDoorGAQ
namespace Go.Proofs.YtclcajnodoifjaaGreatDoor
open Go.RowKit Go.Shelf Go.Joins Go.Maps
set_option maxRecDepth 100000

set_option maxHeartbeats 8000000 in
set_option maxRecDepth 1000000 in
theorem bounds_off (P1 P2 : Option Addr) (C1 C2 : Nat) (low high : List Va) (li hi : Bool) (w : World) (h1 : rowOff w P1 low) (h2 : rowOff w P2 high) (z1 : low.length ≤ 1000000000) (z2 : high.length ≤ 1000000000) :
    Calls Tryz.prog 31 #[.agg #[.slice P1 low.length C1, .slice P2 high.length C2, .bool li, .bool hi]] w fun e w' => ∃ q1 d1 q2 d2, e = .returned (.agg #[.slice (some q1) low.length d1, .slice (some q2) high.length d2, .bool li, .bool hi]) ∧ RowF w w' (some q1) low ∧ RowF w w' (some q2) high ∧ Below w.heap.size w w' := by
  obtain ⟨w0, hw0⟩ : ∃ w0, w0 = (w.alloc (.cells #[.slice P1 low.length C1, .slice P2 high.length C2, .bool li, .bool hi] 33)).alloc (.cells #[.slice none 0 0, .slice none 0 0, .bool false, .bool false] 33) := ⟨_, rfl⟩
  obtain ⟨d0, d1, bb, bs⟩ := bx2 w (.cells #[.slice P1 low.length C1, .slice P2 high.length C2, .bool li, .bool hi] 33) (.cells #[.slice none 0 0, .slice none 0 0, .bool false, .bool false] 33)
  rw [← hw0] at d0 d1 bb bs
  have CL1 : Hid (∀ W, Below w0.heap.size w0 W → Calls Tryz.prog 15 #[.slice P1 low.length C1] W fun e w' => ∃ p d, e = .returned (.slice (some p) low.length d) ∧ RowF w0 w' (some p) low ∧ Below W.heap.size W w') := fun W hW => (copied_off P1 C1 low W ((h1.below bb).below hW) z1).mono (fun e w' h => by obtain ⟨g, d, e1, e2, e3, _, e4⟩ := h; exact ⟨_, d, e1, ⟨e3, fun g hg => by cases hg; exact Nat.le_trans hW.size e2⟩, e4⟩)
  have CL2 : Hid (∀ W, Below w0.heap.size w0 W → Calls Tryz.prog 15 #[.slice P2 high.length C2] W fun e w' => ∃ p d, e = .returned (.slice (some p) high.length d) ∧ RowF w0 w' (some p) high ∧ Below W.heap.size W w') := fun W hW => (copied_off P2 C2 high W ((h2.below bb).below hW) z2).mono (fun e w' h => by obtain ⟨g, d, e1, e2, e3, _, e4⟩ := h; exact ⟨_, d, e1, ⟨e3, fun g hg => by cases hg; exact Nat.le_trans hW.size e2⟩, e4⟩)
  generalize hn1 : low.length = n1 at *
  generalize hn2 : high.length = n2 at *
  have MW : Hid (w.heap.size < w0.heap.size) := by rw [bs]; exact Nat.lt_succ_of_lt (Nat.lt_succ_self _)
  have M2 : Hid (w.heap.size + 1 < w0.heap.size) := by rw [bs]; exact Nat.lt_succ_self _
  have D0 := mkHid d0
  have D1 := mkHid d1
  have BB := mkHid bb
  clear h1 h2 z1 z2 hn1 hn2 d0 d1 bb bs
  go_enter Tryz.func31, Tryz.ntmps31
  go_wp2_with fail
  rw [← hw0]
  clear hw0
  refine wp_mono (Q := fun e a' w' => e = .normal ∧ ∃ q1 d1 q2 d2, a' = { tmps := #[.agg #[.slice P1 n1 C1, .slice P2 n2 C2, .bool li, .bool hi], .pointer (some ⟨w.heap.size, 0, none⟩), .pointer (some ⟨w.heap.size + 1, 0, none⟩), .pointer (some ⟨w.heap.size, 0, none⟩), .slice P1 n1 C1, .slice (some q1) n1 d1, .pointer (some ⟨w.heap.size, 1, none⟩), .slice P2 n2 C2, .slice (some q2) n2 d2, .pointer (some ⟨w.heap.size, 0, none⟩), .pointer (some ⟨w.heap.size, 1, none⟩), undef], defers := [] } ∧ w'.heap[w.heap.size]? = some (.cells #[.slice (some q1) n1 d1, .slice (some q2) n2 d2, .bool li, .bool hi] 33 (0, 0)) ∧ RowF w0 w' (some q1) low ∧ RowF w0 w' (some q2) high ∧ (Below w.heap.size w w' ∧ w'.heap[w.heap.size + 1]? = some (.cells #[.slice none 0 0, .slice none 0 0, .bool false, .bool false] 33 (0, 0)))) ?_ ?_
  · have KB := mkHid ((Below.refl w0.heap.size w0).drew)
    have RC : Hid (w0.drew.heap[w.heap.size]? = some (.cells #[.slice P1 n1 C1, .slice P2 n2 C2, .bool li, .bool hi] 33 (0, 0))) := D0.out
    refine wp_region_noPanic ?_
    refine wp_region_held_drew (S := fun _ : World => True) (by kernel_rfl) trivial (fun hH => ?_)
    refine tKx (i := 0) (v := .pointer (some ⟨w.heap.size, 0, none⟩)) rfl rfl (by kernel_rfl) (fun _ _ _ h => h) ?_ hH ?_
    · intro w5 hSw; go_simp
    simp only [zA9, zB9, zC9]
    refine tKx (i := 3) (v := .pointer (some ⟨w.heap.size, 1, none⟩)) rfl rfl (by kernel_rfl) (fun _ _ _ h => h) ?_ hH ?_
    · intro w5 hSw; go_simp
    simp only [zA9, zB9, zC9]
    replace D1 : Hid (w0.drew.heap[w.heap.size + 1]? = some (.cells #[.slice none 0 0, .slice none 0 0, .bool false, .bool false] 33 (0, 0))) := D1.out
    generalize hW0 : w0.drew = W0 at KB RC D1 hH ⊢
    refine wpAnyH_ready (rs := [1, 4]) (by kernel_rfl) (by simp) ?_
    refine AllReadyH.cons rfl (fun K hK => ?_) (AllReadyH.cons rfl (fun K hK => ?_) AllReadyH.nil)
    · have q0 : W0.cell? ⟨w.heap.size, 0, none⟩ = some (.slice P1 n1 C1) := (cell_of_block RC.out 0).trans rfl
      go_simp
      refine hK.out _ _ trivial (fun hH => ?_)
      clear hK K q0
      refine wpAnyH_ready (rs := [2, 4]) (by kernel_rfl) (by simp) ?_
      refine AllReadyH.cons rfl (fun K hK => ?_) (AllReadyH.cons rfl (fun K hK => ?_) AllReadyH.nil)
      · go_simp
        go_at_call 15
        refine (CL1.out W0 KB.out).mono ?_
        rintro e W1 ⟨q1, d1, rfl, h0, hb⟩
        go_wp2_with fail
        refine hK.out _ _ trivial (fun hH => ?_)
        clear hK K
        replace RC := mkHid ((hb.block _ (lt_of_heap RC.out)).trans RC.out)
        replace D1 := mkHid ((hb.block _ (lt_of_heap D1.out)).trans D1.out)
        have F1 := mkHid h0
        clear h0
        replace KB := mkHid (KB.out.trans (hb.mono KB.out.size))
        clear hb
        refine wpAnyH_ready (rs := [4]) (by kernel_rfl) (by simp) ?_
        refine AllReadyH.cons rfl (fun K hK => ?_) AllReadyH.nil
        · have q0 : W1.cell? ⟨w.heap.size, 1, none⟩ = some (.slice P2 n2 C2) := (cell_of_block RC.out 1).trans rfl
          go_simp
          refine hK.out _ _ trivial (fun hH => ?_)
          clear hK K q0
          refine tKx (i := 6) (v := .pointer (some ⟨w.heap.size, 0, none⟩)) rfl rfl (by kernel_rfl) (fun _ _ _ h => h) ?_ hH ?_
          · intro w5 hSw; go_simp
          simp only [zA9, zB9, zC9]
          refine wpAnyH_ready (rs := [5]) (by kernel_rfl) (by simp) ?_
          refine AllReadyH.cons rfl (fun K hK => ?_) AllReadyH.nil
          · go_simp
            go_at_call 15
            refine (CL2.out W1 KB.out).mono ?_
            rintro e W2 ⟨q2, d2, rfl, h0, hb⟩
            go_wp2_with fail
            refine hK.out _ _ trivial (fun hH => ?_)
            clear hK K
            replace F1 := mkHid (F1.out.below hb)
            replace RC := mkHid ((hb.block _ (lt_of_heap RC.out)).trans RC.out)
            replace D1 := mkHid ((hb.block _ (lt_of_heap D1.out)).trans D1.out)
            have F2 := mkHid h0
            clear h0
            replace KB := mkHid (KB.out.trans (hb.mono KB.out.size))
            clear hb
            refine wpAnyH_ready (rs := [7]) (by kernel_rfl) (by simp) ?_
            refine AllReadyH.cons rfl (fun K hK => ?_) AllReadyH.nil
            · have KW : Hid (Below w.heap.size w W2) := mkHid (BB.out.trans (KB.out.mono BB.out.size))
              clear KB
              have q0 : W2.cell? ⟨w.heap.size, 0, none⟩ = some (.slice P1 n1 C1) := (cell_of_block RC.out 0).trans rfl
              have y0 := unfrozen_of_block RC.out 0
              go_simp
              refine hK.out _ _ trivial (fun hH => ?_)
              clear hK K q0 y0
              replace F1 := mkHid (F1.out.far (o := 0) (v := .slice (some q1) n1 d1) MW.out)
              replace F2 := mkHid (F2.out.far (o := 0) (v := .slice (some q1) n1 d1) MW.out)
              replace RC : Hid ((W2.setCell ⟨w.heap.size, 0, none⟩ (.slice (some q1) n1 d1)).heap[w.heap.size]? = some (.cells #[.slice (some q1) n1 d1, .slice P2 n2 C2, .bool li, .bool hi] 33 (0, 0))) := mkHid (heap_set_in RC.out)
              replace D1 := mkHid ((heap_setCell_other W2 ⟨w.heap.size, 0, none⟩ (w.heap.size + 1) (.slice (some q1) n1 d1) (by show w.heap.size + 1 ≠ w.heap.size; omega)).trans D1.out)
              replace KW := mkHid (below_set KW.out ⟨w.heap.size, 0, none⟩ (.slice (some q1) n1 d1) (Nat.le_refl _))
              generalize W2.setCell ⟨w.heap.size, 0, none⟩ (.slice (some q1) n1 d1) = W3 at KW RC D1 F1 F2 hH ⊢
              refine tKx (i := 8) (v := .pointer (some ⟨w.heap.size, 1, none⟩)) rfl rfl (by kernel_rfl) (fun _ _ _ h => h) ?_ hH ?_
              · intro w5 hSw; go_simp
              simp only [zA9, zB9, zC9]
              refine wpAnyH_ready (rs := [9]) (by kernel_rfl) (by simp) ?_
              refine AllReadyH.cons rfl (fun K hK => ?_) AllReadyH.nil
              · have q0 : W3.cell? ⟨w.heap.size, 1, none⟩ = some (.slice P2 n2 C2) := (cell_of_block RC.out 1).trans rfl
                have y0 := unfrozen_of_block RC.out 1
                go_simp
                refine hK.out _ _ trivial (fun hH => ?_)
                clear hK K q0 y0
                replace F1 := mkHid (F1.out.far (o := 1) (v := .slice (some q2) n2 d2) MW.out)
                replace F2 := mkHid (F2.out.far (o := 1) (v := .slice (some q2) n2 d2) MW.out)
                replace RC : Hid ((W3.setCell ⟨w.heap.size, 1, none⟩ (.slice (some q2) n2 d2)).heap[w.heap.size]? = some (.cells #[.slice (some q1) n1 d1, .slice (some q2) n2 d2, .bool li, .bool hi] 33 (0, 0))) := mkHid (heap_set_in RC.out)
                replace D1 := mkHid ((heap_setCell_other W3 ⟨w.heap.size, 1, none⟩ (w.heap.size + 1) (.slice (some q2) n2 d2) (by show w.heap.size + 1 ≠ w.heap.size; omega)).trans D1.out)
                replace KW := mkHid (below_set KW.out ⟨w.heap.size, 1, none⟩ (.slice (some q2) n2 d2) (Nat.le_refl _))
                generalize W3.setCell ⟨w.heap.size, 1, none⟩ (.slice (some q2) n2 d2) = W4 at KW RC D1 F1 F2 hH ⊢
                refine wpAnyH_done (by kernel_rfl) ?_ _
                refine NoPanic.normal ?_
                exact ⟨rfl, q1, d1, q2, d2, rfl, RC.out, F1.out, F2.out, KW.out, D1.out⟩
      · have q0 : W0.cell? ⟨w.heap.size, 1, none⟩ = some (.slice P2 n2 C2) := (cell_of_block RC.out 1).trans rfl
        go_simp
        refine hK.out _ _ trivial (fun hH => ?_)
        clear hK K q0
        refine wpAnyH_ready (rs := [2]) (by kernel_rfl) (by simp) ?_
        refine AllReadyH.cons rfl (fun K hK => ?_) AllReadyH.nil
        · go_simp
          go_at_call 15
          refine (CL1.out W0 KB.out).mono ?_
          rintro e W1 ⟨q1, d1, rfl, h0, hb⟩
          go_wp2_with fail
          refine hK.out _ _ trivial (fun hH => ?_)
          clear hK K
          replace RC := mkHid ((hb.block _ (lt_of_heap RC.out)).trans RC.out)
          replace D1 := mkHid ((hb.block _ (lt_of_heap D1.out)).trans D1.out)
          have F1 := mkHid h0
          clear h0
          replace KB := mkHid (KB.out.trans (hb.mono KB.out.size))
          clear hb
          refine tKx (i := 6) (v := .pointer (some ⟨w.heap.size, 0, none⟩)) rfl rfl (by kernel_rfl) (fun _ _ _ h => h) ?_ hH ?_
          · intro w5 hSw; go_simp
          simp only [zA9, zB9, zC9]
          refine wpAnyH_ready (rs := [5]) (by kernel_rfl) (by simp) ?_
          refine AllReadyH.cons rfl (fun K hK => ?_) AllReadyH.nil
          · go_simp
            go_at_call 15
            refine (CL2.out W1 KB.out).mono ?_
            rintro e W2 ⟨q2, d2, rfl, h0, hb⟩
            go_wp2_with fail
            refine hK.out _ _ trivial (fun hH => ?_)
            clear hK K
            replace F1 := mkHid (F1.out.below hb)
            replace RC := mkHid ((hb.block _ (lt_of_heap RC.out)).trans RC.out)
            replace D1 := mkHid ((hb.block _ (lt_of_heap D1.out)).trans D1.out)
            have F2 := mkHid h0
            clear h0
            replace KB := mkHid (KB.out.trans (hb.mono KB.out.size))
            clear hb
            refine wpAnyH_ready (rs := [7]) (by kernel_rfl) (by simp) ?_
            refine AllReadyH.cons rfl (fun K hK => ?_) AllReadyH.nil
            · have KW : Hid (Below w.heap.size w W2) := mkHid (BB.out.trans (KB.out.mono BB.out.size))
              clear KB
              have q0 : W2.cell? ⟨w.heap.size, 0, none⟩ = some (.slice P1 n1 C1) := (cell_of_block RC.out 0).trans rfl
              have y0 := unfrozen_of_block RC.out 0
              go_simp
              refine hK.out _ _ trivial (fun hH => ?_)
              clear hK K q0 y0
              replace F1 := mkHid (F1.out.far (o := 0) (v := .slice (some q1) n1 d1) MW.out)
              replace F2 := mkHid (F2.out.far (o := 0) (v := .slice (some q1) n1 d1) MW.out)
              replace RC : Hid ((W2.setCell ⟨w.heap.size, 0, none⟩ (.slice (some q1) n1 d1)).heap[w.heap.size]? = some (.cells #[.slice (some q1) n1 d1, .slice P2 n2 C2, .bool li, .bool hi] 33 (0, 0))) := mkHid (heap_set_in RC.out)
              replace D1 := mkHid ((heap_setCell_other W2 ⟨w.heap.size, 0, none⟩ (w.heap.size + 1) (.slice (some q1) n1 d1) (by show w.heap.size + 1 ≠ w.heap.size; omega)).trans D1.out)
              replace KW := mkHid (below_set KW.out ⟨w.heap.size, 0, none⟩ (.slice (some q1) n1 d1) (Nat.le_refl _))
              generalize W2.setCell ⟨w.heap.size, 0, none⟩ (.slice (some q1) n1 d1) = W3 at KW RC D1 F1 F2 hH ⊢
              refine tKx (i := 8) (v := .pointer (some ⟨w.heap.size, 1, none⟩)) rfl rfl (by kernel_rfl) (fun _ _ _ h => h) ?_ hH ?_
              · intro w5 hSw; go_simp
              simp only [zA9, zB9, zC9]
              refine wpAnyH_ready (rs := [9]) (by kernel_rfl) (by simp) ?_
              refine AllReadyH.cons rfl (fun K hK => ?_) AllReadyH.nil
              · have q0 : W3.cell? ⟨w.heap.size, 1, none⟩ = some (.slice P2 n2 C2) := (cell_of_block RC.out 1).trans rfl
                have y0 := unfrozen_of_block RC.out 1
                go_simp
                refine hK.out _ _ trivial (fun hH => ?_)
                clear hK K q0 y0
                replace F1 := mkHid (F1.out.far (o := 1) (v := .slice (some q2) n2 d2) MW.out)
                replace F2 := mkHid (F2.out.far (o := 1) (v := .slice (some q2) n2 d2) MW.out)
                replace RC : Hid ((W3.setCell ⟨w.heap.size, 1, none⟩ (.slice (some q2) n2 d2)).heap[w.heap.size]? = some (.cells #[.slice (some q1) n1 d1, .slice (some q2) n2 d2, .bool li, .bool hi] 33 (0, 0))) := mkHid (heap_set_in RC.out)
                replace D1 := mkHid ((heap_setCell_other W3 ⟨w.heap.size, 1, none⟩ (w.heap.size + 1) (.slice (some q2) n2 d2) (by show w.heap.size + 1 ≠ w.heap.size; omega)).trans D1.out)
                replace KW := mkHid (below_set KW.out ⟨w.heap.size, 1, none⟩ (.slice (some q2) n2 d2) (Nat.le_refl _))
                generalize W3.setCell ⟨w.heap.size, 1, none⟩ (.slice (some q2) n2 d2) = W4 at KW RC D1 F1 F2 hH ⊢
                refine wpAnyH_done (by kernel_rfl) ?_ _
                refine NoPanic.normal ?_
                exact ⟨rfl, q1, d1, q2, d2, rfl, RC.out, F1.out, F2.out, KW.out, D1.out⟩
    · have q0 : W0.cell? ⟨w.heap.size, 1, none⟩ = some (.slice P2 n2 C2) := (cell_of_block RC.out 1).trans rfl
      go_simp
      refine hK.out _ _ trivial (fun hH => ?_)
      clear hK K q0
      refine wpAnyH_ready (rs := [1]) (by kernel_rfl) (by simp) ?_
      refine AllReadyH.cons rfl (fun K hK => ?_) AllReadyH.nil
      · have q0 : W0.cell? ⟨w.heap.size, 0, none⟩ = some (.slice P1 n1 C1) := (cell_of_block RC.out 0).trans rfl
        go_simp
        refine hK.out _ _ trivial (fun hH => ?_)
        clear hK K q0
        refine wpAnyH_ready (rs := [2]) (by kernel_rfl) (by simp) ?_
        refine AllReadyH.cons rfl (fun K hK => ?_) AllReadyH.nil
        · go_simp
          go_at_call 15
          refine (CL1.out W0 KB.out).mono ?_
          rintro e W1 ⟨q1, d1, rfl, h0, hb⟩
          go_wp2_with fail
          refine hK.out _ _ trivial (fun hH => ?_)
          clear hK K
          replace RC := mkHid ((hb.block _ (lt_of_heap RC.out)).trans RC.out)
          replace D1 := mkHid ((hb.block _ (lt_of_heap D1.out)).trans D1.out)
          have F1 := mkHid h0
          clear h0
          replace KB := mkHid (KB.out.trans (hb.mono KB.out.size))
          clear hb
          refine tKx (i := 6) (v := .pointer (some ⟨w.heap.size, 0, none⟩)) rfl rfl (by kernel_rfl) (fun _ _ _ h => h) ?_ hH ?_
          · intro w5 hSw; go_simp
          simp only [zA9, zB9, zC9]
          refine wpAnyH_ready (rs := [5]) (by kernel_rfl) (by simp) ?_
          refine AllReadyH.cons rfl (fun K hK => ?_) AllReadyH.nil
          · go_simp
            go_at_call 15
            refine (CL2.out W1 KB.out).mono ?_
            rintro e W2 ⟨q2, d2, rfl, h0, hb⟩
            go_wp2_with fail
            refine hK.out _ _ trivial (fun hH => ?_)
            clear hK K
            replace F1 := mkHid (F1.out.below hb)
            replace RC := mkHid ((hb.block _ (lt_of_heap RC.out)).trans RC.out)
            replace D1 := mkHid ((hb.block _ (lt_of_heap D1.out)).trans D1.out)
            have F2 := mkHid h0
            clear h0
            replace KB := mkHid (KB.out.trans (hb.mono KB.out.size))
            clear hb
            refine wpAnyH_ready (rs := [7]) (by kernel_rfl) (by simp) ?_
            refine AllReadyH.cons rfl (fun K hK => ?_) AllReadyH.nil
            · have KW : Hid (Below w.heap.size w W2) := mkHid (BB.out.trans (KB.out.mono BB.out.size))
              clear KB
              have q0 : W2.cell? ⟨w.heap.size, 0, none⟩ = some (.slice P1 n1 C1) := (cell_of_block RC.out 0).trans rfl
              have y0 := unfrozen_of_block RC.out 0
              go_simp
              refine hK.out _ _ trivial (fun hH => ?_)
              clear hK K q0 y0
              replace F1 := mkHid (F1.out.far (o := 0) (v := .slice (some q1) n1 d1) MW.out)
              replace F2 := mkHid (F2.out.far (o := 0) (v := .slice (some q1) n1 d1) MW.out)
              replace RC : Hid ((W2.setCell ⟨w.heap.size, 0, none⟩ (.slice (some q1) n1 d1)).heap[w.heap.size]? = some (.cells #[.slice (some q1) n1 d1, .slice P2 n2 C2, .bool li, .bool hi] 33 (0, 0))) := mkHid (heap_set_in RC.out)
              replace D1 := mkHid ((heap_setCell_other W2 ⟨w.heap.size, 0, none⟩ (w.heap.size + 1) (.slice (some q1) n1 d1) (by show w.heap.size + 1 ≠ w.heap.size; omega)).trans D1.out)
              replace KW := mkHid (below_set KW.out ⟨w.heap.size, 0, none⟩ (.slice (some q1) n1 d1) (Nat.le_refl _))
              generalize W2.setCell ⟨w.heap.size, 0, none⟩ (.slice (some q1) n1 d1) = W3 at KW RC D1 F1 F2 hH ⊢
              refine tKx (i := 8) (v := .pointer (some ⟨w.heap.size, 1, none⟩)) rfl rfl (by kernel_rfl) (fun _ _ _ h => h) ?_ hH ?_
              · intro w5 hSw; go_simp
              simp only [zA9, zB9, zC9]
              refine wpAnyH_ready (rs := [9]) (by kernel_rfl) (by simp) ?_
              refine AllReadyH.cons rfl (fun K hK => ?_) AllReadyH.nil
              · have q0 : W3.cell? ⟨w.heap.size, 1, none⟩ = some (.slice P2 n2 C2) := (cell_of_block RC.out 1).trans rfl
                have y0 := unfrozen_of_block RC.out 1
                go_simp
                refine hK.out _ _ trivial (fun hH => ?_)
                clear hK K q0 y0
                replace F1 := mkHid (F1.out.far (o := 1) (v := .slice (some q2) n2 d2) MW.out)
                replace F2 := mkHid (F2.out.far (o := 1) (v := .slice (some q2) n2 d2) MW.out)
                replace RC : Hid ((W3.setCell ⟨w.heap.size, 1, none⟩ (.slice (some q2) n2 d2)).heap[w.heap.size]? = some (.cells #[.slice (some q1) n1 d1, .slice (some q2) n2 d2, .bool li, .bool hi] 33 (0, 0))) := mkHid (heap_set_in RC.out)
                replace D1 := mkHid ((heap_setCell_other W3 ⟨w.heap.size, 1, none⟩ (w.heap.size + 1) (.slice (some q2) n2 d2) (by show w.heap.size + 1 ≠ w.heap.size; omega)).trans D1.out)
                replace KW := mkHid (below_set KW.out ⟨w.heap.size, 1, none⟩ (.slice (some q2) n2 d2) (Nat.le_refl _))
                generalize W3.setCell ⟨w.heap.size, 1, none⟩ (.slice (some q2) n2 d2) = W4 at KW RC D1 F1 F2 hH ⊢
                refine wpAnyH_done (by kernel_rfl) ?_ _
                refine NoPanic.normal ?_
                exact ⟨rfl, q1, d1, q2, d2, rfl, RC.out, F1.out, F2.out, KW.out, D1.out⟩
  rintro e a' w1 ⟨rfl, q1, d1, q2, d2, rfl, rc, f1, f2, kb, dd⟩
  have u0 : w1.cell? ⟨w.heap.size, 0, none⟩ = some (.slice (some q1) n1 d1) := (cell_of_block rc 0).trans rfl
  have u1 : w1.cell? ⟨w.heap.size, 1, none⟩ = some (.slice (some q2) n2 d2) := (cell_of_block rc 1).trans rfl
  have u2 : w1.cell? ⟨w.heap.size, 2, none⟩ = some (.bool li) := (cell_of_block rc 2).trans rfl
  have u3 : w1.cell? ⟨w.heap.size, 3, none⟩ = some (.bool hi) := (cell_of_block rc 3).trans rfl
  have g0 : w1.cell? ⟨w.heap.size + 1, 0, none⟩ = some (.slice none 0 0) := (cell_of_block dd 0).trans rfl
  have g1 : w1.cell? ⟨w.heap.size + 1, 1, none⟩ = some (.slice none 0 0) := (cell_of_block dd 1).trans rfl
  have g2 : w1.cell? ⟨w.heap.size + 1, 2, none⟩ = some (.bool false) := (cell_of_block dd 2).trans rfl
  have g3 : w1.cell? ⟨w.heap.size + 1, 3, none⟩ = some (.bool false) := (cell_of_block dd 3).trans rfl
  have y0 := unfrozen_of_block dd 0
  have y1 := unfrozen_of_block dd 1
  have y2 := unfrozen_of_block dd 2
  have y3 := unfrozen_of_block dd 3
  have FN : Hid (∀ a b c d, RowF w ((((w1.setCell ⟨w.heap.size + 1, 0, none⟩ a).setCell ⟨w.heap.size + 1, 1, none⟩ b).setCell ⟨w.heap.size + 1, 2, none⟩ c).setCell ⟨w.heap.size + 1, 3, none⟩ d) (some q1) low ∧ RowF w ((((w1.setCell ⟨w.heap.size + 1, 0, none⟩ a).setCell ⟨w.heap.size + 1, 1, none⟩ b).setCell ⟨w.heap.size + 1, 2, none⟩ c).setCell ⟨w.heap.size + 1, 3, none⟩ d) (some q2) high ∧ Below w.heap.size w ((((w1.setCell ⟨w.heap.size + 1, 0, none⟩ a).setCell ⟨w.heap.size + 1, 1, none⟩ b).setCell ⟨w.heap.size + 1, 2, none⟩ c).setCell ⟨w.heap.size + 1, 3, none⟩ d)) := fun a b c d => by
    have l2 := M2.out
    have ls : w.heap.size ≤ w.heap.size + 1 := by omega
    exact ⟨((((f1.far l2).far l2).far l2).far l2).down BB.out.size, ((((f2.far l2).far l2).far l2).far l2).down BB.out.size, below_set (below_set (below_set (below_set kb _ _ ls) _ _ ls) _ _ ls) _ _ ls⟩
  clear rc f1 f2 kb dd CL1 CL2 BB D0 D1 MW M2
  go_wp2_with fail
  refine bodyPost_ret (v := .agg #[.slice (some q1) n1 d1, .slice (some q2) n2 d2, .bool li, .bool hi]) (by simp [results, Tryz.results31, go_sem, g0, g1, g2, g3]) rfl ?_
  exact ⟨_, _, _, _, rfl, FN.out _ _ _ _⟩
end Go.Proofs.YtclcajnodoifjaaGreatDoor

