/-
  The walk of expr.All of some.
-/
import Derived.Test.YtokppkinhlcafaaGreatDoorExO
namespace Go.Proofs.YtokppkinhlcafaaGreatDoor
open Go.RowKit Go.Joins
set_option maxRecDepth 100000

theorem AlI.below {w wr w1 : World} {n b i : Nat} {l : List Ex} (h : AlI w wr n b i l) (hb : Below wr.heap.size wr w1) : AlI w w1 n b i l := by
  obtain ⟨h1, h2, h3, h4, Pe, Ce, h5, h6⟩ := h
  have s := hb.size
  exact ⟨h1.trans (hb.mono h1.size), (hb.block _ (lt_of_some h2)).trans h2, by omega, h4, Pe, Ce, (hb.block _ h3).trans h5, (h6.below hb).more (fun q hq => ⟨hq.1, hq.2.1, by omega⟩)⟩
theorem AlI.lt {w wr : World} {n b i : Nat} {l : List Ex} (h : AlI w wr n b i l) : b < wr.heap.size := h.2.2.1
theorem AlI.zlt {w wr : World} {n b i : Nat} {l : List Ex} (h : AlI w wr n b i l) : w.heap.size < wr.heap.size := Nat.lt_trans h.2.2.2.1 h.2.2.1
theorem box_same {w : World} {b : Nat} {e : Ex} {P P2 : Option Addr} {C C2 : Nat} (h : w.heap[b]? = some (.cells (exC e P C).toArray 26 (0, 0))) (k : w.heap[b]? = some (.cells (exC e P2 C2).toArray 26 (0, 0))) : P = P2 ∧ C = C2 := by
  have c1 := cell_of_block h 1
  rw [cell_of_block k 1] at c1
  simp [exC] at c1
  exact ⟨c1.1.symm, c1.2.symm⟩
set_option maxHeartbeats 4000000 in
set_option maxRecDepth 1000000 in
theorem All_some (n : Nat) (S : Nat → Prop) (l : List Ex) (g o C : Nat) (w : World) (h0 : 0 < l.length) (hl : l.length ≤ 100000000) (hS : ∀ q, S q → q < w.heap.size) (hc : ∀ i p, l[i]? = some p → ∃ Pp Cp, exIn w S n p (exC p Pp Cp) ∧ ∀ (r : Nat) (u : Value), (exC p Pp Cp)[r]? = some u → w.cell? ⟨g, o + i * 9 + r, none⟩ = some u) :
    Calls Tryz.prog 9 #[.slice (some ⟨g, o, none⟩) l.length C] w fun e w' => ∃ P' C', e = .returned (exV (exAll l) P' C') ∧ exIn w' (fun q => q < w'.heap.size) (n + l.length) (exAll l) (exC (exAll l) P' C') ∧ Below w.heap.size w w' := by
  obtain ⟨x0, hx0⟩ : ∃ x, l[0]? = some x := ⟨_, List.getElem?_eq_getElem h0⟩
  obtain ⟨Px, Cx, ix, cx⟩ := hc 0 x0 hx0
  have ng : g < w.heap.size := World.block_lt_of_cell? _ _ (cx 0 _ rfl)
  have nh : g ≠ w.heap.size := by omega
  obtain ⟨WA, hWA⟩ : ∃ W, W = w.alloc (.cells #[.string ⟨#[]⟩, .slice none 0 0, .int .i64 0, .int .i64 0, .string ⟨#[]⟩, .string ⟨#[]⟩, .string ⟨#[]⟩, .int .i64 0, .int .i64 0] 26) := ⟨_, rfl⟩
  have bA : Below w.heap.size w WA := by rw [hWA]; exact (Below.refl _ w).alloc (Nat.le_refl _) _
  have sA : WA.heap.size = w.heap.size + 1 := by rw [hWA]; simp
  have hZA : WA.heap[w.heap.size]? = some (.cells #[.string ⟨#[]⟩, .slice none 0 0, .int .i64 0, .int .i64 0, .string ⟨#[]⟩, .string ⟨#[]⟩, .string ⟨#[]⟩, .int .i64 0, .int .i64 0] 26 (0, 0)) := by rw [hWA]; exact heap_alloc_new _ _
  have O0 := mkHid (copied_ex n S x0 g o Px Cx WA (((nine_of (fun r u hr => by have := cx r u hr; simpa using this))).next bA) (ix.below bA) (fun q hq => by have := hS q hq; omega))
  obtain ⟨NL, hNL⟩ : ∃ N, N = l.length := ⟨_, rfl⟩
  have HC := mkHid hc
  have HX := mkHid hx0
  have HS := mkHid hS
  have BA := mkHid bA
  have HWA := mkHid hWA
  have HZA := mkHid hZA
  have SA := mkHid sA
  rw [← hNL] at h0 hl ⊢
  have HN := mkHid hNL
  have z1 : ((NL : Int) == 0) = false := by rw [beq_eq_false_iff_ne]; omega
  have z2 : (0 : Int) < (NL : Int) := by omega
  clear hc hx0 ix cx hS hNL bA hWA sA hZA
  go_enter Tryz.func9, Tryz.ntmps9
  go_wp2_with (go_at_call 15; rw [← HWA.out]; refine O0.out.mono ?_; rintro e wX ⟨P1, C1, rfl, i1, b1⟩; have I1 := mkHid i1; have B1 := mkHid b1; clear i1 b1)
  have I0 : Hid (AlI w (wX.alloc (.cells #[.string x0.op, .slice P1 x0.parts.length C1, .int .i64 x0.vt, .int .i64 x0.vn, .string x0.vs, .string x0.nm, .string x0.of, .int .i64 x0.ty, .int .i64 x0.at_] 26)) n wX.heap.size 1 l) := by
    have b1 := B1.out
    have s1 := b1.size
    have s2 := SA.out
    have b2 := b1.alloc b1.size (.cells #[.string x0.op, .slice P1 x0.parts.length C1, .int .i64 x0.vt, .int .i64 x0.vn, .string x0.vs, .string x0.nm, .string x0.of, .int .i64 x0.ty, .int .i64 x0.at_] 26)
    refine ⟨BA.out.trans (b2.mono (by omega)), (b2.block _ (by omega)).trans HZA.out, by simp, by omega, P1, C1, ?_, ?_⟩
    · rw [exUpto_one HX.out]; exact heap_alloc_new _ _
    · rw [exUpto_one HX.out]
      exact ((I1.out.below ((Below.refl wX.heap.size wX).alloc (Nat.le_refl _) _)).more (fun q hq => ⟨by omega, by omega, by simp; omega⟩)).le (by omega)
  have wb : w.heap.size < wX.heap.size := by have := B1.out.size; have := SA.out; omega
  obtain ⟨W2, hW2⟩ : ∃ W, W = wX.alloc (.cells #[.string x0.op, .slice P1 x0.parts.length C1, .int .i64 x0.vt, .int .i64 x0.vn, .string x0.vs, .string x0.nm, .string x0.of, .int .i64 x0.ty, .int .i64 x0.at_] 26) := ⟨_, rfl⟩
  obtain ⟨b, hb⟩ : ∃ b, b = wX.heap.size := ⟨_, rfl⟩
  rw [← hW2, ← hb] at I0 ⊢
  rw [← hb] at wb
  clear hW2 hb I1 B1 O0 HWA HZA nh
  go_loopw [4] (fun s4 wr => ∃ i : Nat, s4 = .int .i64 i ∧ 1 ≤ i ∧ i ≤ NL ∧ Hid (AlI w wr n b i l)) (fun s4 _ => NL - (intOf s4).toNat)
  case atStart => exact ⟨1, rfl, Nat.le_refl _, by omega, I0⟩
  case round =>
    obtain ⟨i, rfl, hi1, hi, hI⟩ := hrel
    clear I0 z1 z2
    by_cases hlt : i < NL
    · obtain ⟨y, hy⟩ : ∃ x, l[i]? = some x := ⟨_, List.getElem?_eq_getElem (by have := HN.out; omega)⟩
      obtain ⟨Pq, Cq, iq, cq⟩ := HC.out i y hy
      replace hI := mkHid hI.out.drew
      obtain ⟨hb, hZ, lb, wb2, Pe, Ce, hB, ie⟩ := hI.out
      obtain ⟨e, he⟩ : ∃ e, e = exUpto l i := ⟨_, rfl⟩
      rw [← he] at hB ie
      have HE := mkHid he
      have HY := mkHid hy
      have HB := mkHid hB
      have IE := mkHid ie
      have i1 : (i : Int) < (NL : Int) := by omega
      have i2 : (0 : Int) ≤ (i : Int) := by omega
      have OO := mkHid (copied_ex n S y g (o + i * 9) Pq Cq wr.drew ((nine_of cq).next hb) (iq.below hb) (fun q hq => by have := HS.out q hq; have := hb.size; omega))
      clear hy iq cq he hB ie hb hZ lb
      go_wp2_with fail
      refine wp_region_noPanic ?_
      refine wp_region_held_drew (S := (fun _ : World => True)) (by kernel_rfl) trivial (fun hH => ?_)
      refine take_at (i := 1) (v := .slice (some ⟨g, o, none⟩) NL C) rfl rfl (by kernel_rfl) (by kernel_rfl) (by kernel_rfl) (fun _ _ _ h => h) (Or.inl ⟨by rfl, ?_⟩) hH ?_
      · intro w5 hSw; go_simp
      simp only [List.setIfInBounds_toArray, List.set_cons_zero, List.set_cons_succ]
      refine take_at (i := 2) (v := .int .i64 i) rfl rfl (by kernel_rfl) (by kernel_rfl) (by kernel_rfl) (fun _ _ _ h => h) (Or.inl ⟨by rfl, ?_⟩) hH ?_
      · intro w5 hSw; go_simp
      simp only [List.setIfInBounds_toArray, List.set_cons_zero, List.set_cons_succ]
      refine take_at (i := 3) (v := .pointer (some ⟨g, o + i * 9, none⟩)) rfl rfl (by kernel_rfl) (by kernel_rfl) (by kernel_rfl) (fun _ _ _ h => h) (Or.inl ⟨by rfl, ?_⟩) hH ?_
      · intro w5 hSw; go_simp
      simp only [List.setIfInBounds_toArray, List.set_cons_zero, List.set_cons_succ]
      generalize hW0 : wr.drew = W0 at hI HB OO hH ⊢
      refine wpAnyH_ready (rs := [0, 4]) (by kernel_rfl) (by simp) ?_
      refine AllReadyH.cons rfl (fun K hK => ?_) (AllReadyH.cons rfl (fun K hK => ?_) AllReadyH.nil)
      · have y0 : W0.cell? ⟨b, 0, none⟩ = some (.string e.op) := (cell_of_block HB.out 0).trans rfl
        have y1 : W0.cell? ⟨b, 1, none⟩ = some (.slice Pe e.parts.length Ce) := (cell_of_block HB.out 1).trans rfl
        have y2 : W0.cell? ⟨b, 2, none⟩ = some (.int .i64 e.vt) := (cell_of_block HB.out 2).trans rfl
        have y3 : W0.cell? ⟨b, 3, none⟩ = some (.int .i64 e.vn) := (cell_of_block HB.out 3).trans rfl
        have y4 : W0.cell? ⟨b, 4, none⟩ = some (.string e.vs) := (cell_of_block HB.out 4).trans rfl
        have y5 : W0.cell? ⟨b, 5, none⟩ = some (.string e.nm) := (cell_of_block HB.out 5).trans rfl
        have y6 : W0.cell? ⟨b, 6, none⟩ = some (.string e.of) := (cell_of_block HB.out 6).trans rfl
        have y7 : W0.cell? ⟨b, 7, none⟩ = some (.int .i64 e.ty) := (cell_of_block HB.out 7).trans rfl
        have y8 : W0.cell? ⟨b, 8, none⟩ = some (.int .i64 e.at_) := (cell_of_block HB.out 8).trans rfl
        go_simp
        clear y0 y1 y2 y3 y4 y5 y6 y7 y8
        refine hK.out _ _ trivial (fun hH => ?_)
        clear hK K
        refine wpAnyH_ready (rs := [4]) (by kernel_rfl) (by simp) ?_
        refine AllReadyH.cons rfl (fun K hK => ?_) AllReadyH.nil
        go_simp
        go_at_call 15
        refine OO.out.mono ?_
        rintro e1 w1 ⟨Py, Cy, rfl, iy, b1⟩
        have I1 := mkHid (AlI.below hI.out b1)
        have IY := mkHid iy
        have B1 := mkHid b1
        replace HB := mkHid ((b1.block _ (lt_of_some HB.out)).trans HB.out)
        clear iy b1
        go_wp2_with fail
        refine hK.out _ _ trivial (fun hH => ?_)
        clear hK K
        refine wpAnyH_ready (rs := [5]) (by kernel_rfl) (by simp) ?_
        refine AllReadyH.cons rfl (fun K hK => ?_) AllReadyH.nil
        go_simp
        refine hK.out _ _ trivial (fun hH => ?_)
        clear hK K
        refine take_at (i := 6) (v := .agg #[.string ⟨#[97, 110, 100]⟩, .slice (some ⟨w1.heap.size, 0, none⟩) 2 2, .int .i64 0, .int .i64 0, .string ⟨#[]⟩, .string ⟨#[]⟩, .string ⟨#[]⟩, .int .i64 0, .int .i64 0]) rfl rfl (by kernel_rfl) (by kernel_rfl) (by kernel_rfl) (fun _ _ _ h => h) (Or.inl ⟨by rfl, ?_⟩) hH ?_
        · intro w5 hSw; go_simp
        simp only [List.setIfInBounds_toArray, List.set_cons_zero, List.set_cons_succ]
        refine wpAnyH_ready (rs := [7]) (by kernel_rfl) (by simp) ?_
        refine AllReadyH.cons rfl (fun K hK => ?_) AllReadyH.nil
        obtain ⟨W1, hW1⟩ : ∃ W, W = w1.alloc (.cells #[.string e.op, .slice Pe e.parts.length Ce, .int .i64 e.vt, .int .i64 e.vn, .string e.vs, .string e.nm, .string e.of, .int .i64 e.ty, .int .i64 e.at_, .string y.op, .slice Py y.parts.length Cy, .int .i64 y.vt, .int .i64 y.vn, .string y.vs, .string y.nm, .string y.of, .int .i64 y.ty, .int .i64 y.at_] 26) := ⟨_, rfl⟩
        have HW1 := mkHid hW1
        have HB1 : Hid (W1.heap[b]? = some (.cells (exC e Pe Ce).toArray 26 (0, 0))) := by
          rw [hW1]
          exact mkHid ((((Below.refl w1.heap.size w1).alloc (Nat.le_refl _) _).block _ (lt_of_some HB.out)).trans HB.out)
        rw [← hW1]
        clear hW1
        have y0 : W1.cell? ⟨b, 0, none⟩ = some (.string e.op) := (cell_of_block HB1.out 0).trans rfl
        have y1 : W1.cell? ⟨b, 1, none⟩ = some (.slice Pe e.parts.length Ce) := (cell_of_block HB1.out 1).trans rfl
        have y2 : W1.cell? ⟨b, 2, none⟩ = some (.int .i64 e.vt) := (cell_of_block HB1.out 2).trans rfl
        have y3 : W1.cell? ⟨b, 3, none⟩ = some (.int .i64 e.vn) := (cell_of_block HB1.out 3).trans rfl
        have y4 : W1.cell? ⟨b, 4, none⟩ = some (.string e.vs) := (cell_of_block HB1.out 4).trans rfl
        have y5 : W1.cell? ⟨b, 5, none⟩ = some (.string e.nm) := (cell_of_block HB1.out 5).trans rfl
        have y6 : W1.cell? ⟨b, 6, none⟩ = some (.string e.of) := (cell_of_block HB1.out 6).trans rfl
        have y7 : W1.cell? ⟨b, 7, none⟩ = some (.int .i64 e.ty) := (cell_of_block HB1.out 7).trans rfl
        have y8 : W1.cell? ⟨b, 8, none⟩ = some (.int .i64 e.at_) := (cell_of_block HB1.out 8).trans rfl
        have f0 := unfrozen_of_block HB1.out 0
        have f1 := unfrozen_of_block HB1.out 1
        have f2 := unfrozen_of_block HB1.out 2
        have f3 := unfrozen_of_block HB1.out 3
        have f4 := unfrozen_of_block HB1.out 4
        have f5 := unfrozen_of_block HB1.out 5
        have f6 := unfrozen_of_block HB1.out 6
        have f7 := unfrozen_of_block HB1.out 7
        have f8 := unfrozen_of_block HB1.out 8
        go_simp
        obtain ⟨W3, hW3⟩ : ∃ W, W = (((((((((W1.setCell ⟨b, 0, none⟩ (.string ⟨#[97, 110, 100]⟩)).setCell ⟨b, 1, none⟩ (.slice (some ⟨w1.heap.size, 0, none⟩) 2 2)).setCell ⟨b, 2, none⟩ (.int .i64 0)).setCell ⟨b, 3, none⟩ (.int .i64 0)).setCell ⟨b, 4, none⟩ (.string ⟨#[]⟩)).setCell ⟨b, 5, none⟩ (.string ⟨#[]⟩)).setCell ⟨b, 6, none⟩ (.string ⟨#[]⟩)).setCell ⟨b, 7, none⟩ (.int .i64 0)).setCell ⟨b, 8, none⟩ (.int .i64 0)) := ⟨_, rfl⟩
        have I3 : Hid (AlI w W3 n b (i + 1) l) := by
          rw [hW3]
          obtain ⟨hb, hZ, lb, wb, Pe2, Ce2, hB, ie⟩ := I1.out
          rw [← HE.out] at hB ie
          obtain ⟨rfl, rfl⟩ := box_same hB HB.out
          exact AlI.step3 hi1 hb hZ lb wb hB ie HE.out HY.out (fun q hq => by have := (AlI.lt hI.out); have := B1.out.size; have := (AlI.zlt hI.out); exact ⟨by omega, by omega, by omega⟩) IY.out HW1.out
        rw [← hW3]
        refine hK.out _ _ trivial (fun hH => ?_)
        clear hK K
        refine wpAnyH_done (by kernel_rfl) ?_ _
        refine NoPanic.normal ?_
        clear hH hW3 y0 y1 y2 y3 y4 y5 y6 y7 y8 f0 f1 f2 f3 f4 f5 f6 f7 f8 HB1 HW1 HB I1 IY B1 HE HY IE OO hI
        go_wp2_with fail
        go_roundw
        case rel => exact ⟨i + 1, by go_num, by omega, hlt, I3⟩
        case measure => simp [intOf]; omega
      · go_simp
        go_at_call 15
        refine OO.out.mono ?_
        rintro e1 w1 ⟨Py, Cy, rfl, iy, b1⟩
        have I1 := mkHid (AlI.below hI.out b1)
        have IY := mkHid iy
        have B1 := mkHid b1
        replace HB := mkHid ((b1.block _ (lt_of_some HB.out)).trans HB.out)
        clear iy b1
        go_wp2_with fail
        refine hK.out _ _ trivial (fun hH => ?_)
        clear hK K
        refine wpAnyH_ready (rs := [0]) (by kernel_rfl) (by simp) ?_
        refine AllReadyH.cons rfl (fun K hK => ?_) AllReadyH.nil
        have y0 : w1.cell? ⟨b, 0, none⟩ = some (.string e.op) := (cell_of_block HB.out 0).trans rfl
        have y1 : w1.cell? ⟨b, 1, none⟩ = some (.slice Pe e.parts.length Ce) := (cell_of_block HB.out 1).trans rfl
        have y2 : w1.cell? ⟨b, 2, none⟩ = some (.int .i64 e.vt) := (cell_of_block HB.out 2).trans rfl
        have y3 : w1.cell? ⟨b, 3, none⟩ = some (.int .i64 e.vn) := (cell_of_block HB.out 3).trans rfl
        have y4 : w1.cell? ⟨b, 4, none⟩ = some (.string e.vs) := (cell_of_block HB.out 4).trans rfl
        have y5 : w1.cell? ⟨b, 5, none⟩ = some (.string e.nm) := (cell_of_block HB.out 5).trans rfl
        have y6 : w1.cell? ⟨b, 6, none⟩ = some (.string e.of) := (cell_of_block HB.out 6).trans rfl
        have y7 : w1.cell? ⟨b, 7, none⟩ = some (.int .i64 e.ty) := (cell_of_block HB.out 7).trans rfl
        have y8 : w1.cell? ⟨b, 8, none⟩ = some (.int .i64 e.at_) := (cell_of_block HB.out 8).trans rfl
        go_simp
        clear y0 y1 y2 y3 y4 y5 y6 y7 y8
        refine hK.out _ _ trivial (fun hH => ?_)
        clear hK K
        refine wpAnyH_ready (rs := [5]) (by kernel_rfl) (by simp) ?_
        refine AllReadyH.cons rfl (fun K hK => ?_) AllReadyH.nil
        go_simp
        refine hK.out _ _ trivial (fun hH => ?_)
        clear hK K
        refine take_at (i := 6) (v := .agg #[.string ⟨#[97, 110, 100]⟩, .slice (some ⟨w1.heap.size, 0, none⟩) 2 2, .int .i64 0, .int .i64 0, .string ⟨#[]⟩, .string ⟨#[]⟩, .string ⟨#[]⟩, .int .i64 0, .int .i64 0]) rfl rfl (by kernel_rfl) (by kernel_rfl) (by kernel_rfl) (fun _ _ _ h => h) (Or.inl ⟨by rfl, ?_⟩) hH ?_
        · intro w5 hSw; go_simp
        simp only [List.setIfInBounds_toArray, List.set_cons_zero, List.set_cons_succ]
        refine wpAnyH_ready (rs := [7]) (by kernel_rfl) (by simp) ?_
        refine AllReadyH.cons rfl (fun K hK => ?_) AllReadyH.nil
        obtain ⟨W1, hW1⟩ : ∃ W, W = w1.alloc (.cells #[.string e.op, .slice Pe e.parts.length Ce, .int .i64 e.vt, .int .i64 e.vn, .string e.vs, .string e.nm, .string e.of, .int .i64 e.ty, .int .i64 e.at_, .string y.op, .slice Py y.parts.length Cy, .int .i64 y.vt, .int .i64 y.vn, .string y.vs, .string y.nm, .string y.of, .int .i64 y.ty, .int .i64 y.at_] 26) := ⟨_, rfl⟩
        have HW1 := mkHid hW1
        have HB1 : Hid (W1.heap[b]? = some (.cells (exC e Pe Ce).toArray 26 (0, 0))) := by
          rw [hW1]
          exact mkHid ((((Below.refl w1.heap.size w1).alloc (Nat.le_refl _) _).block _ (lt_of_some HB.out)).trans HB.out)
        rw [← hW1]
        clear hW1
        have y0 : W1.cell? ⟨b, 0, none⟩ = some (.string e.op) := (cell_of_block HB1.out 0).trans rfl
        have y1 : W1.cell? ⟨b, 1, none⟩ = some (.slice Pe e.parts.length Ce) := (cell_of_block HB1.out 1).trans rfl
        have y2 : W1.cell? ⟨b, 2, none⟩ = some (.int .i64 e.vt) := (cell_of_block HB1.out 2).trans rfl
        have y3 : W1.cell? ⟨b, 3, none⟩ = some (.int .i64 e.vn) := (cell_of_block HB1.out 3).trans rfl
        have y4 : W1.cell? ⟨b, 4, none⟩ = some (.string e.vs) := (cell_of_block HB1.out 4).trans rfl
        have y5 : W1.cell? ⟨b, 5, none⟩ = some (.string e.nm) := (cell_of_block HB1.out 5).trans rfl
        have y6 : W1.cell? ⟨b, 6, none⟩ = some (.string e.of) := (cell_of_block HB1.out 6).trans rfl
        have y7 : W1.cell? ⟨b, 7, none⟩ = some (.int .i64 e.ty) := (cell_of_block HB1.out 7).trans rfl
        have y8 : W1.cell? ⟨b, 8, none⟩ = some (.int .i64 e.at_) := (cell_of_block HB1.out 8).trans rfl
        have f0 := unfrozen_of_block HB1.out 0
        have f1 := unfrozen_of_block HB1.out 1
        have f2 := unfrozen_of_block HB1.out 2
        have f3 := unfrozen_of_block HB1.out 3
        have f4 := unfrozen_of_block HB1.out 4
        have f5 := unfrozen_of_block HB1.out 5
        have f6 := unfrozen_of_block HB1.out 6
        have f7 := unfrozen_of_block HB1.out 7
        have f8 := unfrozen_of_block HB1.out 8
        go_simp
        obtain ⟨W3, hW3⟩ : ∃ W, W = (((((((((W1.setCell ⟨b, 0, none⟩ (.string ⟨#[97, 110, 100]⟩)).setCell ⟨b, 1, none⟩ (.slice (some ⟨w1.heap.size, 0, none⟩) 2 2)).setCell ⟨b, 2, none⟩ (.int .i64 0)).setCell ⟨b, 3, none⟩ (.int .i64 0)).setCell ⟨b, 4, none⟩ (.string ⟨#[]⟩)).setCell ⟨b, 5, none⟩ (.string ⟨#[]⟩)).setCell ⟨b, 6, none⟩ (.string ⟨#[]⟩)).setCell ⟨b, 7, none⟩ (.int .i64 0)).setCell ⟨b, 8, none⟩ (.int .i64 0)) := ⟨_, rfl⟩
        have I3 : Hid (AlI w W3 n b (i + 1) l) := by
          rw [hW3]
          obtain ⟨hb, hZ, lb, wb, Pe2, Ce2, hB, ie⟩ := I1.out
          rw [← HE.out] at hB ie
          obtain ⟨rfl, rfl⟩ := box_same hB HB.out
          exact AlI.step3 hi1 hb hZ lb wb hB ie HE.out HY.out (fun q hq => by have := (AlI.lt hI.out); have := B1.out.size; have := (AlI.zlt hI.out); exact ⟨by omega, by omega, by omega⟩) IY.out HW1.out
        rw [← hW3]
        refine hK.out _ _ trivial (fun hH => ?_)
        clear hK K
        refine wpAnyH_done (by kernel_rfl) ?_ _
        refine NoPanic.normal ?_
        clear hH hW3 y0 y1 y2 y3 y4 y5 y6 y7 y8 f0 f1 f2 f3 f4 f5 f6 f7 f8 HB1 HW1 HB I1 IY B1 HE HY IE OO hI
        go_wp2_with fail
        go_roundw
        case rel => exact ⟨i + 1, by go_num, by omega, hlt, I3⟩
        case measure => simp [intOf]; omega
    · obtain rfl : NL = i := by omega
      obtain ⟨hb, hZ, lb, wb, Pe, Ce, hB, ie⟩ := hI.out
      have hall : exUpto l NL = exAll l := by rw [HN.out]; exact exUpto_all
      rw [hall] at hB ie
      obtain ⟨e, he⟩ : ∃ e, e = exAll l := ⟨_, rfl⟩
      rw [← he] at hB ie
      have HE := mkHid he
      have y0 : wr.cell? ⟨b, 0, none⟩ = some (.string e.op) := (cell_of_block hB 0).trans rfl
      have r0 : wr.cell? ⟨w.heap.size, 0, none⟩ = some (.string ⟨#[]⟩) := (cell_of_block hZ 0).trans rfl
      have f0 := unfrozen_of_block hZ 0
      have y1 : wr.cell? ⟨b, 1, none⟩ = some (.slice Pe e.parts.length Ce) := (cell_of_block hB 1).trans rfl
      have r1 : wr.cell? ⟨w.heap.size, 1, none⟩ = some (.slice none 0 0) := (cell_of_block hZ 1).trans rfl
      have f1 := unfrozen_of_block hZ 1
      have y2 : wr.cell? ⟨b, 2, none⟩ = some (.int .i64 e.vt) := (cell_of_block hB 2).trans rfl
      have r2 : wr.cell? ⟨w.heap.size, 2, none⟩ = some (.int .i64 0) := (cell_of_block hZ 2).trans rfl
      have f2 := unfrozen_of_block hZ 2
      have y3 : wr.cell? ⟨b, 3, none⟩ = some (.int .i64 e.vn) := (cell_of_block hB 3).trans rfl
      have r3 : wr.cell? ⟨w.heap.size, 3, none⟩ = some (.int .i64 0) := (cell_of_block hZ 3).trans rfl
      have f3 := unfrozen_of_block hZ 3
      have y4 : wr.cell? ⟨b, 4, none⟩ = some (.string e.vs) := (cell_of_block hB 4).trans rfl
      have r4 : wr.cell? ⟨w.heap.size, 4, none⟩ = some (.string ⟨#[]⟩) := (cell_of_block hZ 4).trans rfl
      have f4 := unfrozen_of_block hZ 4
      have y5 : wr.cell? ⟨b, 5, none⟩ = some (.string e.nm) := (cell_of_block hB 5).trans rfl
      have r5 : wr.cell? ⟨w.heap.size, 5, none⟩ = some (.string ⟨#[]⟩) := (cell_of_block hZ 5).trans rfl
      have f5 := unfrozen_of_block hZ 5
      have y6 : wr.cell? ⟨b, 6, none⟩ = some (.string e.of) := (cell_of_block hB 6).trans rfl
      have r6 : wr.cell? ⟨w.heap.size, 6, none⟩ = some (.string ⟨#[]⟩) := (cell_of_block hZ 6).trans rfl
      have f6 := unfrozen_of_block hZ 6
      have y7 : wr.cell? ⟨b, 7, none⟩ = some (.int .i64 e.ty) := (cell_of_block hB 7).trans rfl
      have r7 : wr.cell? ⟨w.heap.size, 7, none⟩ = some (.int .i64 0) := (cell_of_block hZ 7).trans rfl
      have f7 := unfrozen_of_block hZ 7
      have y8 : wr.cell? ⟨b, 8, none⟩ = some (.int .i64 e.at_) := (cell_of_block hB 8).trans rfl
      have r8 : wr.cell? ⟨w.heap.size, 8, none⟩ = some (.int .i64 0) := (cell_of_block hZ 8).trans rfl
      have f8 := unfrozen_of_block hZ 8
      have IE := mkHid ie
      have BB := mkHid hb
      have nw : b ≠ w.heap.size := by omega
      clear hb hZ hB ie he hall hI
      go_wp2_with fail
      refine bodyPost_ret (v := exV e Pe Ce) (by simp [results, Tryz.results9, go_sem, r0, r1, r2, r3, r4, r5, r6, r7, r8]) rfl ?_
      have fin : ∀ V, Off w.heap.size w.heap.size wr V → exIn V (fun q => q < V.heap.size) (n + NL) e (exC e Pe Ce) ∧ Below w.heap.size w V := fun V ho => ⟨exIn.map (fun q o u hq hc => ho.cell hq.1 hq.1 hc) (fun q hq => by rw [ho.size]; exact hq.2.2) IE.out, BB.out.trans (ho.below (Nat.le_refl _) (Nat.le_refl _))⟩
      rw [← HE.out]
      have := fin _ ((((((((((Off.refl w.heap.size w.heap.size wr).set (a := ⟨w.heap.size, 0, none⟩) (Or.inl rfl) (.string e.op)).set (a := ⟨w.heap.size, 1, none⟩) (Or.inl rfl) (.slice Pe e.parts.length Ce)).set (a := ⟨w.heap.size, 2, none⟩) (Or.inl rfl) (.int .i64 e.vt)).set (a := ⟨w.heap.size, 3, none⟩) (Or.inl rfl) (.int .i64 e.vn)).set (a := ⟨w.heap.size, 4, none⟩) (Or.inl rfl) (.string e.vs)).set (a := ⟨w.heap.size, 5, none⟩) (Or.inl rfl) (.string e.nm)).set (a := ⟨w.heap.size, 6, none⟩) (Or.inl rfl) (.string e.of)).set (a := ⟨w.heap.size, 7, none⟩) (Or.inl rfl) (.int .i64 e.ty)).set (a := ⟨w.heap.size, 8, none⟩) (Or.inl rfl) (.int .i64 e.at_))
      exact ⟨Pe, Ce, rfl, this.1, this.2⟩
end Go.Proofs.YtokppkinhlcafaaGreatDoor
