/-
  The walk of expr.copied.
-/
import Derived.Test.YtokppkinhlcafaaGreatDoorExM
namespace Go.Proofs.YtokppkinhlcafaaGreatDoor
open Go.RowKit Go.Joins
set_option maxRecDepth 100000

theorem CoI.box1 {w wr : World} {S : Nat → Prop} {n i : Nat} {a : Ex} {P2 : Option Addr} {C2 : Nat} (h : CoI w wr S n i a P2 C2) : wr.cell? ⟨w.heap.size + 1, 1, none⟩ = some (.slice P2 a.parts.length C2) := by
  obtain ⟨_, _, h3, _⟩ := h
  exact (cell_of_block h3 1).trans rfl
set_option maxHeartbeats 4000000 in
set_option maxRecDepth 1000000 in
theorem copied_step (n : Nat) (S : Nat → Prop) (a : Ex) (p s : Nat) (P : Option Addr) (C : Nat) (w : World) (c : nine w p s a P C) (ha : exIn w S (n + 1) a (exC a P C)) (hS : ∀ g, S g → g < w.heap.size)
    (IH : ∀ (S : Nat → Prop) (x : Ex) (p s : Nat) (P : Option Addr) (C : Nat) (w : World), nine w p s x P C → exIn w S n x (exC x P C) → (∀ g, S g → g < w.heap.size) → Calls Tryz.prog 15 #[.pointer (some ⟨p, s, none⟩)] w fun e w' => CpQ w n x e w') :
    Calls Tryz.prog 15 #[.pointer (some ⟨p, s, none⟩)] w fun e w' => CpQ w (n + 1) a e w' := by
  have hG := ha.good
  obtain ⟨W, hW⟩ : ∃ W, W = (w.alloc (.cells #[.string ⟨#[]⟩, .slice none 0 0, .int .i64 0, .int .i64 0, .string ⟨#[]⟩, .string ⟨#[]⟩, .string ⟨#[]⟩, .int .i64 0, .int .i64 0] 26)).alloc (.cells #[.string a.op, .slice P a.parts.length C, .int .i64 a.vt, .int .i64 a.vn, .string a.vs, .string a.nm, .string a.of, .int .i64 a.ty, .int .i64 a.at_] 26) := ⟨_, rfl⟩
  have bW : Below w.heap.size w W := by rw [hW]; exact ((Below.refl _ w).alloc (Nat.le_refl _) _).alloc (by simp) _
  have sW : W.heap.size = w.heap.size + 2 := by rw [hW]; simp
  have CL := mkHid (CloneEx_any S n a P C W (ha.below bW))
  have hB : W.heap[w.heap.size + 1]? = some (.cells #[.string a.op, .slice P a.parts.length C, .int .i64 a.vt, .int .i64 a.vn, .string a.vs, .string a.nm, .string a.of, .int .i64 a.ty, .int .i64 a.at_] 26 (0, 0)) := by
    rw [hW]
    have := heap_alloc_new (w.alloc (.cells #[.string ⟨#[]⟩, .slice none 0 0, .int .i64 0, .int .i64 0, .string ⟨#[]⟩, .string ⟨#[]⟩, .string ⟨#[]⟩, .int .i64 0, .int .i64 0] 26)) (.cells #[.string a.op, .slice P a.parts.length C, .int .i64 a.vt, .int .i64 a.vn, .string a.vs, .string a.nm, .string a.of, .int .i64 a.ty, .int .i64 a.at_] 26)
    rw [World.size_alloc] at this
    exact this
  have HB := mkHid hB
  have HW := mkHid hW
  have HS := mkHid hS
  have HG := mkHid hG
  have SW := mkHid sW
  have HI := mkHid IH
  have hsm := hG.1
  obtain ⟨c0, c1, c2, c3, c4, c5, c6, c7, c8⟩ := c
  have np : p < w.heap.size := World.block_lt_of_cell? _ _ c0
  have np1 : p ≠ w.heap.size := by omega
  have np2 : p ≠ w.heap.size + 1 := by omega
  clear hB hW bW sW hS hG ha IH
  go_enter Tryz.func15, Tryz.ntmps15
  go_wp2_with (go_at_call 21; rw [← HW.out]; refine CL.out.mono ?_; rintro e w1 ⟨P2, C2, ys, rfl, ho, he, hb1⟩; have BB := (hb1.block _ (lt_of_some HB.out)).trans HB.out; have y1 := (cell_of_block BB 1).trans rfl; have g1 := unfrozen_of_block BB 1; have C0 := mkHid (CoI.start HS.out HW.out ho he hb1); clear ho he hb1 BB)
  obtain ⟨W2, hW2⟩ : ∃ W, W = w1.setCell ⟨w.heap.size + 1, 1, none⟩ (.slice P2 a.parts.length C2) := ⟨_, rfl⟩
  rw [← hW2] at C0 ⊢
  clear hW2 y1 g1 c0 c1 c2 c3 c4 c5 c6 c7 c8 np np1 np2 CL HB HW SW
  go_loopw [17] (fun s17 wr => ∃ i : Nat, s17 = .int .i64 i ∧ i ≤ a.parts.length ∧ Hid (CoI w wr S n i a P2 C2)) (fun s17 _ => a.parts.length - (intOf s17).toNat)
  case atStart => exact ⟨0, rfl, Nat.zero_le _, C0⟩
  case round =>
    obtain ⟨i, rfl, hi, HD⟩ := hrel
    clear C0
    by_cases hlt : i < a.parts.length
    · obtain ⟨x, hx⟩ : ∃ x, a.parts[i]? = some x := ⟨_, List.getElem?_eq_getElem hlt⟩
      have bc := CoI.box1 HD.out
      obtain ⟨hb, hZ, hBx, ys, ho, hels⟩ := HD.out
      obtain ⟨R, rfl⟩ : ∃ R, P2 = some ⟨R, 0, none⟩ := by
        rcases ho.2 with ⟨e, e2⟩ | ⟨g, cap, cur, e, _⟩
        · omega
        · cases e; exact ⟨g, rfl⟩
      obtain ⟨Px, Cx, ix, hy⟩ := hels i x hx
      have OY := mkHid ho
      have HY := mkHid hy
      have HX := mkHid hx
      have i1 : (i : Int) < (a.parts.length : Int) := by omega
      have i2 : (0 : Int) ≤ (i : Int) := by omega
      have OO := mkHid (HI.out (fun g => g < wr.heap.size) x R (i * 9) Px Cx wr.drew ⟨(ho.cellAt (i * 9) (by omega)).trans (hy 0 _ rfl), (ho.cellAt (i * 9 + 1) (by omega)).trans (hy 1 _ rfl), (ho.cellAt (i * 9 + 2) (by omega)).trans (hy 2 _ rfl), (ho.cellAt (i * 9 + 3) (by omega)).trans (hy 3 _ rfl), (ho.cellAt (i * 9 + 4) (by omega)).trans (hy 4 _ rfl), (ho.cellAt (i * 9 + 5) (by omega)).trans (hy 5 _ rfl), (ho.cellAt (i * 9 + 6) (by omega)).trans (hy 6 _ rfl), (ho.cellAt (i * 9 + 7) (by omega)).trans (hy 7 _ rfl), (ho.cellAt (i * 9 + 8) (by omega)).trans (hy 8 _ rfl)⟩ (exIn.map (w := wr) (w' := wr.drew) (fun _ _ _ _ hc => hc) (fun g hg => by
        simp only [Nat.lt_irrefl, if_false] at hg
        have := HS.out g hg; have := hb.size; omega) ix) (fun g hg => hg))
      have OD := mkHid (ho.drew)
      replace OY := OD
      replace HD := mkHid HD.out.drew
      replace bc : wr.drew.cell? ⟨w.heap.size + 1, 1, none⟩ = some (.slice (some ⟨R, 0, none⟩) a.parts.length C2) := bc
      clear OD hb hZ hBx ho hels ix hy hx
      go_wp2_with fail
      refine wp_region_noPanic ?_
      refine wp_region_held_drew (S := (fun w' : World => w'.cell? ⟨w.heap.size + 1, 1, none⟩ = some (.slice (some ⟨R, 0, none⟩) a.parts.length C2))) (by kernel_rfl) bc (fun hH => ?_)
      refine take_at (i := 0) (v := .pointer (some ⟨w.heap.size + 1, 1, none⟩)) rfl rfl (by kernel_rfl) (by kernel_rfl) (by kernel_rfl) (fun _ _ _ h => h) (Or.inl ⟨by rfl, ?_⟩) hH ?_
      · intro w5 hSw; go_simp
      simp only [List.setIfInBounds_toArray, List.set_cons_zero, List.set_cons_succ]
      refine take_at (i := 1) (v := .slice (some ⟨R, 0, none⟩) a.parts.length C2) rfl rfl (by kernel_rfl) (by kernel_rfl) (by kernel_rfl) (fun _ _ _ h => h) (Or.inl ⟨by rfl, ?_⟩) hH ?_
      · intro w5 hSw; go_simp
      simp only [List.setIfInBounds_toArray, List.set_cons_zero, List.set_cons_succ]
      refine take_at (i := 2) (v := .int .i64 i) rfl rfl (by kernel_rfl) (by kernel_rfl) (by kernel_rfl) (fun _ _ _ h => h) (Or.inl ⟨by rfl, ?_⟩) hH ?_
      · intro w5 hSw; go_simp
      simp only [List.setIfInBounds_toArray, List.set_cons_zero, List.set_cons_succ]
      refine take_at (i := 3) (v := .pointer (some ⟨w.heap.size + 1, 1, none⟩)) rfl rfl (by kernel_rfl) (by kernel_rfl) (by kernel_rfl) (fun _ _ _ h => h) (Or.inl ⟨by rfl, ?_⟩) hH ?_
      · intro w5 hSw; go_simp
      simp only [List.setIfInBounds_toArray, List.set_cons_zero, List.set_cons_succ]
      refine take_at (i := 4) (v := .slice (some ⟨R, 0, none⟩) a.parts.length C2) rfl rfl (by kernel_rfl) (by kernel_rfl) (by kernel_rfl) (fun _ _ _ h => h) (Or.inl ⟨by rfl, ?_⟩) hH ?_
      · intro w5 hSw; go_simp
      simp only [List.setIfInBounds_toArray, List.set_cons_zero, List.set_cons_succ]
      refine take_at (i := 5) (v := .int .i64 i) rfl rfl (by kernel_rfl) (by kernel_rfl) (by kernel_rfl) (fun _ _ _ h => h) (Or.inl ⟨by rfl, ?_⟩) hH ?_
      · intro w5 hSw; go_simp
      simp only [List.setIfInBounds_toArray, List.set_cons_zero, List.set_cons_succ]
      refine take_at (i := 6) (v := .pointer (some ⟨R, i * 9, none⟩)) rfl rfl (by kernel_rfl) (by kernel_rfl) (by kernel_rfl) (fun _ _ _ h => h) (Or.inl ⟨by rfl, ?_⟩) hH ?_
      · intro w5 hSw; go_simp
      simp only [List.setIfInBounds_toArray, List.set_cons_zero, List.set_cons_succ]
      refine wpAnyH_ready (rs := [7]) (by kernel_rfl) (by simp) ?_
      refine AllReadyH.cons rfl (fun K hK => ?_) AllReadyH.nil
      go_simp
      go_at_call 15
      refine OO.out.mono ?_
      rintro e w1 ⟨P1, C1, rfl, i1, b1⟩
      have bc1 := cellNext b1 bc
      have o1 := mkHid (own_belowX OY.out b1)
      have I1 := mkHid i1
      have B1 := mkHid b1
      clear i1 b1
      go_wp2_with fail
      refine hK.out _ _ bc1 (fun hH => ?_)
      clear hK K
      refine take_at (i := 8) (v := .pointer (some ⟨R, i * 9, none⟩)) rfl rfl (by kernel_rfl) (by kernel_rfl) (by kernel_rfl) (fun _ _ _ h => h) (Or.inl ⟨by rfl, ?_⟩) hH ?_
      · intro w5 hSw; go_simp
      simp only [List.setIfInBounds_toArray, List.set_cons_zero, List.set_cons_succ]
      refine wpAnyH_ready (rs := [9]) (by kernel_rfl) (by simp) ?_
      refine AllReadyH.cons rfl (fun K hK => ?_) AllReadyH.nil
      have q0 : w1.cell? ⟨R, i * 9, none⟩ = some _ := (o1.out.cellAt (i * 9 + 0) (by omega)).trans (HY.out 0 _ rfl)
      have f0 : w1.frozen? ⟨R, i * 9, none⟩ = false := o1.out.frozenAt (i * 9 + 0)
      have q1 : w1.cell? ⟨R, i * 9 + 1, none⟩ = some _ := (o1.out.cellAt (i * 9 + 1) (by omega)).trans (HY.out 1 _ rfl)
      have f1 : w1.frozen? ⟨R, i * 9 + 1, none⟩ = false := o1.out.frozenAt (i * 9 + 1)
      have q2 : w1.cell? ⟨R, i * 9 + 2, none⟩ = some _ := (o1.out.cellAt (i * 9 + 2) (by omega)).trans (HY.out 2 _ rfl)
      have f2 : w1.frozen? ⟨R, i * 9 + 2, none⟩ = false := o1.out.frozenAt (i * 9 + 2)
      have q3 : w1.cell? ⟨R, i * 9 + 3, none⟩ = some _ := (o1.out.cellAt (i * 9 + 3) (by omega)).trans (HY.out 3 _ rfl)
      have f3 : w1.frozen? ⟨R, i * 9 + 3, none⟩ = false := o1.out.frozenAt (i * 9 + 3)
      have q4 : w1.cell? ⟨R, i * 9 + 4, none⟩ = some _ := (o1.out.cellAt (i * 9 + 4) (by omega)).trans (HY.out 4 _ rfl)
      have f4 : w1.frozen? ⟨R, i * 9 + 4, none⟩ = false := o1.out.frozenAt (i * 9 + 4)
      have q5 : w1.cell? ⟨R, i * 9 + 5, none⟩ = some _ := (o1.out.cellAt (i * 9 + 5) (by omega)).trans (HY.out 5 _ rfl)
      have f5 : w1.frozen? ⟨R, i * 9 + 5, none⟩ = false := o1.out.frozenAt (i * 9 + 5)
      have q6 : w1.cell? ⟨R, i * 9 + 6, none⟩ = some _ := (o1.out.cellAt (i * 9 + 6) (by omega)).trans (HY.out 6 _ rfl)
      have f6 : w1.frozen? ⟨R, i * 9 + 6, none⟩ = false := o1.out.frozenAt (i * 9 + 6)
      have q7 : w1.cell? ⟨R, i * 9 + 7, none⟩ = some _ := (o1.out.cellAt (i * 9 + 7) (by omega)).trans (HY.out 7 _ rfl)
      have f7 : w1.frozen? ⟨R, i * 9 + 7, none⟩ = false := o1.out.frozenAt (i * 9 + 7)
      have q8 : w1.cell? ⟨R, i * 9 + 8, none⟩ = some _ := (o1.out.cellAt (i * 9 + 8) (by omega)).trans (HY.out 8 _ rfl)
      have f8 : w1.frozen? ⟨R, i * 9 + 8, none⟩ = false := o1.out.frozenAt (i * 9 + 8)
      go_simp
      have C3 : Hid (CoI w (((((((((w1.setCell ⟨R, i * 9, none⟩ (.string x.op)).setCell ⟨R, i * 9 + 1, none⟩ (.slice P1 x.parts.length C1)).setCell ⟨R, i * 9 + 2, none⟩ (.int .i64 x.vt)).setCell ⟨R, i * 9 + 3, none⟩ (.int .i64 x.vn)).setCell ⟨R, i * 9 + 4, none⟩ (.string x.vs)).setCell ⟨R, i * 9 + 5, none⟩ (.string x.nm)).setCell ⟨R, i * 9 + 6, none⟩ (.string x.of)).setCell ⟨R, i * 9 + 7, none⟩ (.int .i64 x.ty)).setCell ⟨R, i * 9 + 8, none⟩ (.int .i64 x.at_)) S n (i + 1) a (some ⟨R, 0, none⟩) C2) := mkHid (CoI.step HD.out HS.out HX.out B1.out I1.out)
      obtain ⟨W3, hW3⟩ : ∃ W, W = (((((((((w1.setCell ⟨R, i * 9, none⟩ (.string x.op)).setCell ⟨R, i * 9 + 1, none⟩ (.slice P1 x.parts.length C1)).setCell ⟨R, i * 9 + 2, none⟩ (.int .i64 x.vt)).setCell ⟨R, i * 9 + 3, none⟩ (.int .i64 x.vn)).setCell ⟨R, i * 9 + 4, none⟩ (.string x.vs)).setCell ⟨R, i * 9 + 5, none⟩ (.string x.nm)).setCell ⟨R, i * 9 + 6, none⟩ (.string x.of)).setCell ⟨R, i * 9 + 7, none⟩ (.int .i64 x.ty)).setCell ⟨R, i * 9 + 8, none⟩ (.int .i64 x.at_)) := ⟨_, rfl⟩
      rw [← hW3] at C3 ⊢
      have bc3 : W3.cell? ⟨w.heap.size + 1, 1, none⟩ = some (.slice (some ⟨R, 0, none⟩) a.parts.length C2) := CoI.box1 C3.out
      clear hW3
      refine hK.out _ _ bc3 (fun hH => ?_)
      clear hK K
      refine wpAnyH_done (by kernel_rfl) ?_ _
      refine NoPanic.normal ?_
      clear hH q0 q1 q2 q3 q4 q5 q6 q7 q8 f0 f1 f2 f3 f4 f5 f6 f7 f8 o1 I1 B1 bc1 bc3 bc OO OY HY HD
      go_wp2_with fail
      go_roundw
      case rel => exact ⟨i + 1, by go_num, by omega, C3⟩
      case measure => simp [intOf]; omega
    · obtain rfl : i = a.parts.length := by omega
      obtain ⟨hb, hZ, hBx, _⟩ := HD.out
      have y0 : wr.cell? ⟨w.heap.size + 1, 0, none⟩ = some (.string a.op) := (cell_of_block hBx 0).trans rfl
      have r0 := (cell_of_block hZ 0).trans rfl
      have f0 := unfrozen_of_block hZ 0
      have y1 : wr.cell? ⟨w.heap.size + 1, 1, none⟩ = some (.slice P2 a.parts.length C2) := (cell_of_block hBx 1).trans rfl
      have r1 := (cell_of_block hZ 1).trans rfl
      have f1 := unfrozen_of_block hZ 1
      have y2 : wr.cell? ⟨w.heap.size + 1, 2, none⟩ = some (.int .i64 a.vt) := (cell_of_block hBx 2).trans rfl
      have r2 := (cell_of_block hZ 2).trans rfl
      have f2 := unfrozen_of_block hZ 2
      have y3 : wr.cell? ⟨w.heap.size + 1, 3, none⟩ = some (.int .i64 a.vn) := (cell_of_block hBx 3).trans rfl
      have r3 := (cell_of_block hZ 3).trans rfl
      have f3 := unfrozen_of_block hZ 3
      have y4 : wr.cell? ⟨w.heap.size + 1, 4, none⟩ = some (.string a.vs) := (cell_of_block hBx 4).trans rfl
      have r4 := (cell_of_block hZ 4).trans rfl
      have f4 := unfrozen_of_block hZ 4
      have y5 : wr.cell? ⟨w.heap.size + 1, 5, none⟩ = some (.string a.nm) := (cell_of_block hBx 5).trans rfl
      have r5 := (cell_of_block hZ 5).trans rfl
      have f5 := unfrozen_of_block hZ 5
      have y6 : wr.cell? ⟨w.heap.size + 1, 6, none⟩ = some (.string a.of) := (cell_of_block hBx 6).trans rfl
      have r6 := (cell_of_block hZ 6).trans rfl
      have f6 := unfrozen_of_block hZ 6
      have y7 : wr.cell? ⟨w.heap.size + 1, 7, none⟩ = some (.int .i64 a.ty) := (cell_of_block hBx 7).trans rfl
      have r7 := (cell_of_block hZ 7).trans rfl
      have f7 := unfrozen_of_block hZ 7
      have y8 : wr.cell? ⟨w.heap.size + 1, 8, none⟩ = some (.int .i64 a.at_) := (cell_of_block hBx 8).trans rfl
      have r8 := (cell_of_block hZ 8).trans rfl
      have f8 := unfrozen_of_block hZ 8
      clear hb hZ hBx
      go_wp2_with fail
      refine bodyPost_ret (v := exV a P2 C2) (by simp [results, Tryz.results15, go_sem, r0, r1, r2, r3, r4, r5, r6, r7, r8]) rfl ?_
      exact CoI.done HD.out HG.out ((((((((((Off.refl w.heap.size w.heap.size wr).set (Or.inl rfl) _).set (Or.inl rfl) _).set (Or.inl rfl) _).set (Or.inl rfl) _).set (Or.inl rfl) _).set (Or.inl rfl) _).set (Or.inl rfl) _).set (Or.inl rfl) _).set (Or.inl rfl) _)
theorem copied_ex : ∀ (n : Nat) (S : Nat → Prop) (x : Ex) (p s : Nat) (P : Option Addr) (C : Nat) (w : World), nine w p s x P C → exIn w S n x (exC x P C) → (∀ g, S g → g < w.heap.size) → Calls Tryz.prog 15 #[.pointer (some ⟨p, s, none⟩)] w fun e w' => CpQ w n x e w' := by
  intro n
  induction n with
  | zero => intro S x p s P C w _ ha; exact ha.elim
  | succ n ih => intro S x p s P C w c ha hS; exact copied_step n S x p s P C w c ha hS ih
end Go.Proofs.YtokppkinhlcafaaGreatDoor
