/-
 The walk of the law's does: gone through, on and back, and counted.
-/
import Derived.Test.YtclcajnodoifjaaGreatDoorIAY
namespace Go.Proofs.YtclcajnodoifjaaGreatDoor
open Go.RowKit Go.Shelf Go.Joins Go.Maps
set_option maxRecDepth 100000

set_option maxHeartbeats 4000000 in
set_option maxRecDepth 1000000 in
theorem does_range_u (u : Bool) (T : Nat → Prop) (bt dd : Nat) (L D : List Em) (k low high : List Va) (id stop : Int) (q P1 P2 : Option Addr) (c C1 C2 : Nat) (li hi : Bool) (w : World) (h : PrU u T w bt dd L D) (hT : ∀ b, w.heap.size ≤ b → T b) (hk : rowOff w q k) (hl : k.length ≤ 1000000000) (h1 : rowOff w P1 low) (h2 : rowOff w P2 high) (z1 : low.length ≤ 1000000000) (z2 : high.length ≤ 1000000000) (y1 : ∀ v ∈ low, fit v.n) (y2 : ∀ v ∈ high, fit v.n) :
  Calls Tryz.prog 10 #[.pointer (some ⟨bt, 0, none⟩), .pointer (some ⟨dd, 0, none⟩), .agg #[.int .i64 3, .int .i64 stop, .slice q k.length c, .int .u64 id, .slice P1 low.length C1, .slice P2 high.length C2, .bool li, .bool hi]] w fun e w' => e = .returned (.bool true) ∧ Below w.heap.size w w' := by
 obtain ⟨w0, hw0⟩ : ∃ w0, w0 = w.alloc (.cells #[.int .i64 3, .int .i64 stop, .slice q k.length c, .int .u64 id, .slice P1 low.length C1, .slice P2 high.length C2, .bool li, .bool hi] 35) := ⟨_, rfl⟩
 have b0 : Below w.heap.size w w0 := by rw [hw0]; exact (Below.refl _ w).alloc (Nat.le_refl _) _
 have d0 : w0.heap[w.heap.size]? = some (.cells #[.int .i64 3, .int .i64 stop, .slice q k.length c, .int .u64 id, .slice P1 low.length C1, .slice P2 high.length C2, .bool li, .bool hi] 35 (0, 0)) := by rw [hw0]; exact heap_alloc_new _ _
 have CP := mkHid (copied_off q c k w0 (hk.below b0) hl)
 obtain ⟨E, hE⟩ : ∃ E, E = D.filter (holB low high li hi) := ⟨_, rfl⟩
 have few := h.few
 have ag : AgL (btw low high li hi L) E := by rw [hE]; exact agl_btw h.ag
 have zE : E.length ≤ D.length := by rw [hE]; exact List.length_filter_le _ _
 have inE : ∀ x ∈ E, x ∈ D := fun x hx => by rw [hE] at hx; exact (List.mem_filter.1 hx).1
 obtain ⟨NE, hNE⟩ : ∃ NE, NE = E.length := ⟨_, rfl⟩
 obtain ⟨N, hN⟩ : ∃ N, N = k.length := ⟨_, rfl⟩
 obtain ⟨N1, hN1⟩ : ∃ N1, N1 = low.length := ⟨_, rfl⟩
 obtain ⟨N2, hN2⟩ : ∃ N2, N2 = high.length := ⟨_, rfl⟩
 have RG : Hid (∀ W, Below w.heap.size w W → Calls Tryz.prog 30 #[.pointer (some ⟨dd, 0, none⟩), .agg #[.slice P1 N1 C1, .slice P2 N2 C2, .bool li, .bool hi]] W fun e w' => ∃ p c, e = .returned (.slice p NE c) ∧ Below W.heap.size W w' ∧ rowT T w' 54 2 (.slice p NE c) NE (fl emE E)) := fun W hW => by
  obtain ⟨PD, CD, hd⟩ := (h.below hW).dc
  rw [hN1, hN2]
  refine (docRange_any T u dd D PD D.length CD P1 P2 C1 C2 low high li hi W hd (h1.below hW) (h2.below hW) y1 y2 (by have := h.ag.1; omega)).mono (fun e w' hq => ?_)
  obtain ⟨p, n, c, rfl, g1, g2, g3, g4⟩ := hq
  rw [← hE] at g1 g2
  rw [g1, ← hNE] at g2 g3
  refine ⟨p, c, by rw [g1, hNE], g4, g2, fun g hg => hT g (Nat.le_trans hW.size (g3 g hg))⟩
 have GO : Hid (∀ p c back W, Below w.heap.size w W → rowT T W 54 2 (.slice p NE c) NE (fl emE E) → Calls Tryz.prog 13 #[.pointer (some ⟨bt, 0, none⟩), .agg #[.slice P1 N1 C1, .slice P2 N2 C2, .bool li, .bool hi], .bool back, .slice p NE c, .int .i64 stop] W fun e w' => e = .returned (.bool true) ∧ Below W.heap.size W w') := fun p c back W hW hr => by
  rw [hNE] at hr
  rw [hN1, hN2, hNE]
  exact pr_goes_u (h.below hW) back P1 P2 C1 C2 low high li hi E p c stop (h1.below hW) (h2.below hW) z1 z2 y1 y2 hr inE zE ag
 have BN : Hid (∀ W, Below w.heap.size w W → Calls Tryz.prog 31 #[.agg #[.slice P1 N1 C1, .slice P2 N2 C2, .bool li, .bool hi]] W fun e w' => ∃ q1 d1 q2 d2, e = .returned (.agg #[.slice (some q1) N1 d1, .slice (some q2) N2 d2, .bool li, .bool hi]) ∧ RowF W w' (some q1) low ∧ RowF W w' (some q2) high ∧ Below W.heap.size W w') := fun W hW => by
  rw [hN1, hN2]
  exact bounds_off P1 P2 C1 C2 low high li hi W (h1.below hW) (h2.below hW) z1 z2
 have CT : Hid (∀ W q1 q2 d1 d2, Below w.heap.size w W → rowAt W (some q1) low → rowAt W (some q2) high → Calls Tryz.prog 14 #[.pointer (some ⟨bt, 0, none⟩), .agg #[.slice (some q1) N1 d1, .slice (some q2) N2 d2, .bool li, .bool hi]] W fun e w' => e = .returned (.int .i64 (NE : Int)) ∧ Below W.heap.size W w') := fun W q1 q2 d1 d2 hW g1 g2 => by
  rw [hN1, hN2, hNE, ← ag.1]
  exact pr_count_u (h.below hW) (some q1) (some q2) d1 d2 low high li hi g1 g2 (fun e => by cases e) (fun e => by cases e) z1 z2 y1 y2
 have B0 := mkHid b0
 have D0 := mkHid d0
 rw [← hN, ← hN1, ← hN2] at D0 hw0 ⊢
 rw [← hN] at CP
 have HW := mkHid hw0
 have nn : ((NE : Int) == (NE : Int)) = true := by rw [beq_iff_eq]
 clear h hk hl b0 d0 hN hN1 hN2 hNE hw0 hE few ag zE inE hT h1 h2 z1 z2 y1 y2
 go_enter Tryz.func10, Tryz.ntmps10
 go_wp2_with fail
 rw [← HW.out]
 clear HW
 go_wp2_with (first | (go_at_call 15; refine CP.out.mono ?_; rintro e w1 ⟨g, d, rfl, hg1, hr, hblk, b1⟩; have D1 := mkHid ((b1.block _ (lt_of_heap D0.out)).trans D0.out); have BW1 : Hid (Below w.heap.size w w1) := B0.out.trans (b1.mono B0.out.size); have c0 : w1.cell? ⟨w.heap.size, 0, none⟩ = some (.int .i64 3) := (cell_of_block D1.out 0).trans rfl; have c1 : w1.cell? ⟨w.heap.size, 1, none⟩ = some (.int .i64 stop) := (cell_of_block D1.out 1).trans rfl; have c4 : w1.cell? ⟨w.heap.size, 4, none⟩ = some (.slice P1 N1 C1) := (cell_of_block D1.out 4).trans rfl; have c5 : w1.cell? ⟨w.heap.size, 5, none⟩ = some (.slice P2 N2 C2) := (cell_of_block D1.out 5).trans rfl; have c6 : w1.cell? ⟨w.heap.size, 6, none⟩ = some (.bool li) := (cell_of_block D1.out 6).trans rfl; have c7 : w1.cell? ⟨w.heap.size, 7, none⟩ = some (.bool hi) := (cell_of_block D1.out 7).trans rfl; clear hg1 hr hblk CP) | (go_at_call 30; refine (RG.out _ BW1.out).mono ?_; rintro e w2 ⟨p, cE, rfl, b2, hrE⟩; have D2 := mkHid ((b2.block _ (lt_of_heap D1.out)).trans D1.out); have BW2 : Hid (Below w.heap.size w w2) := BW1.out.trans (b2.mono BW1.out.size); have RE := mkHid hrE; clear c0 c1 c4 c5 c6 c7 b1 b2 hrE D1 RG; have c1 : w2.cell? ⟨w.heap.size, 1, none⟩ = some (.int .i64 stop) := (cell_of_block D2.out 1).trans rfl; have c4 : w2.cell? ⟨w.heap.size, 4, none⟩ = some (.slice P1 N1 C1) := (cell_of_block D2.out 4).trans rfl; have c5 : w2.cell? ⟨w.heap.size, 5, none⟩ = some (.slice P2 N2 C2) := (cell_of_block D2.out 5).trans rfl; have c6 : w2.cell? ⟨w.heap.size, 6, none⟩ = some (.bool li) := (cell_of_block D2.out 6).trans rfl; have c7 : w2.cell? ⟨w.heap.size, 7, none⟩ = some (.bool hi) := (cell_of_block D2.out 7).trans rfl) | (go_at_call 13; refine (GO.out p cE false _ BW2.out RE.out).mono ?_; rintro e wA ⟨rfl, bA⟩; have DA := mkHid ((bA.block _ (lt_of_heap D2.out)).trans D2.out); have BA : Hid (Below w.heap.size w wA) := BW2.out.trans (bA.mono BW2.out.size); have RA := mkHid (RE.out.keeps (Keeps.of_below bA)); clear c1 c4 c5 c6 c7 bA BW2 RE; have c1 : wA.cell? ⟨w.heap.size, 1, none⟩ = some (.int .i64 stop) := (cell_of_block DA.out 1).trans rfl; have c4 : wA.cell? ⟨w.heap.size, 4, none⟩ = some (.slice P1 N1 C1) := (cell_of_block DA.out 4).trans rfl; have c5 : wA.cell? ⟨w.heap.size, 5, none⟩ = some (.slice P2 N2 C2) := (cell_of_block DA.out 5).trans rfl; have c6 : wA.cell? ⟨w.heap.size, 6, none⟩ = some (.bool li) := (cell_of_block DA.out 6).trans rfl; have c7 : wA.cell? ⟨w.heap.size, 7, none⟩ = some (.bool hi) := (cell_of_block DA.out 7).trans rfl) | (go_at_call 13; refine (GO.out p cE true _ BA.out RA.out).mono ?_; rintro e wB ⟨rfl, bB⟩; have DB := mkHid ((bB.block _ (lt_of_heap DA.out)).trans DA.out); have BB : Hid (Below w.heap.size w wB) := BA.out.trans (bB.mono BA.out.size); clear c1 c4 c5 c6 c7 bB; have c1 : wB.cell? ⟨w.heap.size, 1, none⟩ = some (.int .i64 stop) := (cell_of_block DB.out 1).trans rfl; have c4 : wB.cell? ⟨w.heap.size, 4, none⟩ = some (.slice P1 N1 C1) := (cell_of_block DB.out 4).trans rfl; have c5 : wB.cell? ⟨w.heap.size, 5, none⟩ = some (.slice P2 N2 C2) := (cell_of_block DB.out 5).trans rfl; have c6 : wB.cell? ⟨w.heap.size, 6, none⟩ = some (.bool li) := (cell_of_block DB.out 6).trans rfl; have c7 : wB.cell? ⟨w.heap.size, 7, none⟩ = some (.bool hi) := (cell_of_block DB.out 7).trans rfl) | (go_at_call 31; refine (BN.out _ BB.out).mono ?_; rintro e wC ⟨q1, d1, q2, d2, rfl, f1, f2, bC⟩; have BC : Hid (Below w.heap.size w wC) := BB.out.trans (bC.mono BB.out.size); have F1 := mkHid f1; have F2 := mkHid f2; clear bC f1 f2 c1 c4 c5 c6 c7) | (go_at_call 14; refine (CT.out _ q1 q2 d1 d2 BC.out F1.out.1 F2.out.1).mono ?_; rintro e wD ⟨rfl, bD⟩; have FX : Hid (Below w.heap.size w wD) := BC.out.trans (bD.mono BC.out.size); clear bD))
 go_ret
 exact ⟨rfl, FX.out⟩

end Go.Proofs.YtclcajnodoifjaaGreatDoor

