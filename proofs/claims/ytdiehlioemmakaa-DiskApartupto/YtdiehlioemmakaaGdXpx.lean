/-
  One call on both disks.
-/
import Derived.Test.YtdiehlioemmakaaUL
namespace Go.Proofs.Ytdiehlioemmakaa
open Go.RowKit Go.Maps Go.Joins

def DoesQ (P : Nat → Prop) (w : World) (base fp fr pr N : Nat) (w' : World) : Prop := ∃ P' s', Both P' w' base fp fr pr s' N ∧ Below base w w' ∧ Chg (fun i => P i ∨ i = fr) w w' ∧ ∀ i, P' i → P i ∨ w.heap.size ≤ i
theorem does_chg1 {P O : Nat → Prop} {fr : Nat} {w W w2 w3 w4 : World} (hg : w.grownBy W none) (hc : Chg P W w2) (ho : Chg O w2 w3) (hO : ∀ i, O i → w.heap.size ≤ i) (hk : Keep fr w3 w4) : Chg (fun i => P i ∨ i = fr) w w4 :=
  ⟨hk.os.trans (ho.os.trans (hc.os.trans hg.os)), hk.tape.trans (ho.tape.trans (hc.tape.trans hg.tape)), hk.output.trans (ho.output.trans (hc.output.trans hg.output)), Nat.le_trans hg.size (Nat.le_trans hc.size (Nat.le_trans ho.size hk.size)), fun k hk2 hn => by
    have s1 := hg.size
    have s2 := hc.size
    have s3 := ho.size
    exact (hk.block k (by omega) (fun e => hn (Or.inr e))).trans ((ho.block k (by omega) (fun e => by have := hO k e; omega)).trans ((hc.block k (by omega) (fun e => hn (Or.inl e))).trans (hg.block k hk2 (by simp))))⟩
theorem does_chg {P : Nat → Prop} {fr : Nat} {w W w2 w3 : World} (hg : w.grownBy W none) (hc : Chg P W w2) (hk : Keep fr w2 w3) : Chg (fun i => P i ∨ i = fr) w w3 := does_chg1 hg hc (Chg.refl (fun _ => False) w2) (fun _ e => e.elim) hk
theorem does_sub {P Q : Nat → Prop} {w W : World} (hs : w.heap.size ≤ W.heap.size) (hq : ∀ i, Q i → P i ∨ W.heap.size ≤ i) : ∀ i, Q i → P i ∨ w.heap.size ≤ i := fun i hi => by
  rcases hq i hi with h | h
  · exact Or.inl h
  · exact Or.inr (by omega)
theorem gr_box (w : World) (o : Obj) : w.grownBy (w.alloc o).drew none := by
  have h := World.grownBy_alloc w o none
  exact ⟨h.os, h.tape, h.output, h.size, h.block⟩
/-- the pair and the call's box -/
def BxS (b fp fr pr : Nat) (k m : Int) (n t : List UInt8) (B K : Value) (w : World) : Prop := w.heap[pr]? = some (.cells #[.pointer (some ⟨fp, 0, none⟩), .pointer (some ⟨fr, 0, none⟩)] 34 (0, 0)) ∧ w.heap[b]? = some (.cells #[.int .i64 k, .string ⟨n.toArray⟩, .string ⟨t.toArray⟩, B, .int .i64 m, K] 30 (0, 0))
theorem BxS.cells {b fp fr pr : Nat} {k m : Int} {n t : List UInt8} {B K : Value} {w : World} (h : BxS b fp fr pr k m n t B K w) : w.cell? ⟨pr, 0, none⟩ = some (.pointer (some ⟨fp, 0, none⟩)) ∧ w.cell? ⟨pr, 1, none⟩ = some (.pointer (some ⟨fr, 0, none⟩)) ∧ w.cell? ⟨b, 1, none⟩ = some (.string ⟨n.toArray⟩) ∧ w.cell? ⟨b, 2, none⟩ = some (.string ⟨t.toArray⟩) ∧ w.cell? ⟨b, 3, none⟩ = some B ∧ w.cell? ⟨b, 4, none⟩ = some (.int .i64 m) ∧ w.cell? ⟨b, 5, none⟩ = some K :=
  ⟨(cell_of_block h.1 0).trans rfl, (cell_of_block h.1 1).trans rfl, (cell_of_block h.2 1).trans rfl, (cell_of_block h.2 2).trans rfl, (cell_of_block h.2 3).trans rfl, (cell_of_block h.2 4).trans rfl, (cell_of_block h.2 5).trans rfl⟩
theorem Both.lt {P : Nat → Prop} {w : World} {base fp fr pr N : Nat} {s : St} (h : Both P w base fp fr pr s N) : fr < w.heap.size ∧ pr < w.heap.size ∧ base ≤ w.heap.size ∧ ∀ i, P i → i < w.heap.size := by
  obtain ⟨st, mo, xs, us, d, j⟩ := h.d
  obtain ⟨vF, vW, h1, _, _⟩ := h.r.fs
  exact ⟨lt_of_heap h1, lt_of_heap h.p, d.bs, fun i hi => (d.pb i hi).2⟩
/-- the call's box has come up -/
theorem Both.box {P : Nat → Prop} {w : World} {base fp fr pr N : Nat} {s : St} (h : Both P w base fp fr pr s N) (k m : Int) (n t : List UInt8) (B K : Value) {W : World} (hW : W = w.alloc (.cells #[.int .i64 k, .string ⟨n.toArray⟩, .string ⟨t.toArray⟩, B, .int .i64 m, K] 30)) : Both P W base fp fr pr s N ∧ BxS w.heap.size fp fr pr k m n t B K W ∧ Below base w W ∧ fr ≠ w.heap.size ∧ ¬ P w.heap.size := by
  have hl := h.lt
  subst hW
  have g := World.grownBy_alloc w (.cells #[.int .i64 k, .string ⟨n.toArray⟩, .string ⟨t.toArray⟩, B, .int .i64 m, K] 30 (0, 0)) none
  exact ⟨h.grow g, ⟨(g.block pr hl.2.1 (by simp)).trans h.p, heap_alloc_new _ _⟩, ⟨g.os, g.tape, g.output, g.size, fun k hk => g.block k (by omega) (by simp)⟩, by omega, fun hp => by have := hl.2.2.2 _ hp; omega⟩
theorem Both.drew {P : Nat → Prop} {w : World} {base fp fr pr N : Nat} {s : St} (h : Both P w base fp fr pr s N) : Both P w.drew base fp fr pr s N := h.grow ⟨rfl, rfl, rfl, Nat.le_refl _, fun _ _ _ => rfl⟩
theorem BxS.half {b fp fr pr : Nat} {k m : Int} {n t : List UInt8} {B K : Value} {w w' : World} {P Q : Nat → Prop} {base : Nat} {s s' : St} (h : BxS b fp fr pr k m n t B K w) (hf : Half Q w w' base fp fr pr s s') (hc : Chg P w w') (hb : ¬ P b) : BxS b fp fr pr k m n t B K w' := ⟨hf.p, hc.at_ h.2 hb⟩
theorem BxS.both {b fp fr pr N : Nat} {k m : Int} {n t : List UInt8} {B K : Value} {w w' : World} {Q : Nat → Prop} {base : Nat} {s : St} (h : BxS b fp fr pr k m n t B K w) (hb : Both Q w' base fp fr pr s N) (hk : Keep fr w w') (hne : fr ≠ b) : BxS b fp fr pr k m n t B K w' := ⟨hb.p, hk.at_ h.2 (fun e => hne e.symm)⟩
set_option maxHeartbeats 8000000 in
set_option maxRecDepth 1000000 in
theorem Does_0 {P : Nat → Prop} {w : World} {base fp fr pr N : Nat} {s : St} (h : Both P w base fp fr pr s N) (hN : N < 2000000) (n t : List UInt8) (B K : Value) (m : Int) (hll : n.length ≤ 1000000000) :
    Calls Try.prog 10 #[.pointer (some ⟨pr, 0, none⟩), .agg #[.int .i64 0, .string ⟨n.toArray⟩, .string ⟨t.toArray⟩, B, .int .i64 m, K]] w fun e w' => e = .returned (.bool true) ∧ DoesQ P w base fp fr pr (N + 1) w' := by
  obtain ⟨W, hW⟩ : ∃ W, W = w.alloc (.cells #[.int .i64 0, .string ⟨n.toArray⟩, .string ⟨t.toArray⟩, B, .int .i64 m, K] 30) := ⟨_, rfl⟩
  obtain ⟨h1, h2, h3, h4, h5⟩ := h.box 0 m n t B K hW
  have CP := mkHid (pCreate h1.drew hN n hll)
  have HB := mkHid h1.drew
  have HX : Hid (BxS w.heap.size fp fr pr 0 m n t B K W.drew) := h2
  have HL : Hid (Below base w W.drew) := h3.trans ⟨rfl, rfl, rfl, Nat.le_refl _, fun _ _ => rfl⟩
  have HGW : Hid (w.grownBy W.drew none) := by rw [hW]; exact gr_box w _
  obtain ⟨f0, f1, f2, f3, f4, f5, f6⟩ := h2.cells
  clear h h1 h2 h3
  go_enter Try.func10, Try.ntmps10
  go_wp2_with fail
  rw [← hW]
  clear hW
  refine wp_region_noPanic ?_
  refine wp_region_held_drew (S := BxS w.heap.size fp fr pr 0 m n t B K) (by kernel_rfl) (HX.out) (fun hH => ?_)
  refine tKx (i := 0) (v := .pointer (some ⟨pr, 0, none⟩)) rfl rfl (by kernel_rfl) (fun _ _ _ h => h) ?_ hH ?_
  · intro w5 hSw; obtain ⟨c0, c1, d1, d2, d3, d4, d5⟩ := hSw.cells; go_simp
  simp only [zA9, zB9, zC9]
  refine tKx (i := 1) (v := .pointer (some ⟨pr, 0, none⟩)) rfl rfl (by kernel_rfl) (fun _ _ _ h => h) ?_ hH ?_
  · intro w5 hSw; obtain ⟨c0, c1, d1, d2, d3, d4, d5⟩ := hSw.cells; go_simp
  simp only [zA9, zB9, zC9]
  refine tKx (i := 2) (v := .pointer (some ⟨pr, 0, none⟩)) rfl rfl (by kernel_rfl) (fun _ _ _ h => h) ?_ hH ?_
  · intro w5 hSw; obtain ⟨c0, c1, d1, d2, d3, d4, d5⟩ := hSw.cells; go_simp
  simp only [zA9, zB9, zC9]
  refine tKx (i := 3) (v := .pointer (some ⟨fp, 0, none⟩)) rfl rfl (by kernel_rfl) (fun _ _ _ h => h) ?_ hH ?_
  · intro w5 hSw; obtain ⟨c0, c1, d1, d2, d3, d4, d5⟩ := hSw.cells; go_simp
  simp only [zA9, zB9, zC9]
  refine tKx (i := 4) (v := .pointer (some ⟨w.heap.size, 1, none⟩)) rfl rfl (by kernel_rfl) (fun _ _ _ h => h) ?_ hH ?_
  · intro w5 hSw; obtain ⟨c0, c1, d1, d2, d3, d4, d5⟩ := hSw.cells; go_simp
  simp only [zA9, zB9, zC9]
  refine tKx (i := 5) (v := .string ⟨n.toArray⟩) rfl rfl (by kernel_rfl) (fun _ _ _ h => h) ?_ hH ?_
  · intro w5 hSw; obtain ⟨c0, c1, d1, d2, d3, d4, d5⟩ := hSw.cells; go_simp
  simp only [zA9, zB9, zC9]
  refine tKx (i := 7) (v := .pointer (some ⟨pr, 0, none⟩)) rfl rfl (by kernel_rfl) (fun _ _ _ h => h) ?_ hH ?_
  · intro w5 hSw; obtain ⟨c0, c1, d1, d2, d3, d4, d5⟩ := hSw.cells; go_simp
  simp only [zA9, zB9, zC9]
  refine tKx (i := 8) (v := .pointer (some ⟨pr, 0, none⟩)) rfl rfl (by kernel_rfl) (fun _ _ _ h => h) ?_ hH ?_
  · intro w5 hSw; obtain ⟨c0, c1, d1, d2, d3, d4, d5⟩ := hSw.cells; go_simp
  simp only [zA9, zB9, zC9]
  refine tKx (i := 9) (v := .pointer (some ⟨pr, 1, none⟩)) rfl rfl (by kernel_rfl) (fun _ _ _ h => h) ?_ hH ?_
  · intro w5 hSw; obtain ⟨c0, c1, d1, d2, d3, d4, d5⟩ := hSw.cells; go_simp
  simp only [zA9, zB9, zC9]
  refine tKx (i := 10) (v := .pointer (some ⟨fr, 0, none⟩)) rfl rfl (by kernel_rfl) (fun _ _ _ h => h) ?_ hH ?_
  · intro w5 hSw; obtain ⟨c0, c1, d1, d2, d3, d4, d5⟩ := hSw.cells; go_simp
  simp only [zA9, zB9, zC9]
  refine tKx (i := 11) (v := .pointer (some ⟨w.heap.size, 1, none⟩)) rfl rfl (by kernel_rfl) (fun _ _ _ h => h) ?_ hH ?_
  · intro w5 hSw; obtain ⟨c0, c1, d1, d2, d3, d4, d5⟩ := hSw.cells; go_simp
  simp only [zA9, zB9, zC9]
  refine tKx (i := 12) (v := .string ⟨n.toArray⟩) rfl rfl (by kernel_rfl) (fun _ _ _ h => h) ?_ hH ?_
  · intro w5 hSw; obtain ⟨c0, c1, d1, d2, d3, d4, d5⟩ := hSw.cells; go_simp
  simp only [zA9, zB9, zC9]
  refine wpAnyH_ready (rs := [6]) (by kernel_rfl) (by simp) ?_
  refine AllReadyH.cons rfl (fun K hK => ?_) AllReadyH.nil
  go_simp
  go_at_call 29
  refine CP.out.mono ?_
  rintro e w2 ⟨rfl, Q, hf, hc, hq2⟩
  have HC2 := mkHid hc
  have HQ2 := mkHid hq2
  clear hq2
  have CR := mkHid (rCreate HB.out hN n hf)
  have HX2 := mkHid (BxS.half HX.out hf hc h5)
  clear hf hc CP
  go_wp2_with fail
  refine hK.out _ _ HX2.out (fun hH => ?_)
  clear hK K
  refine wpAnyH_ready (rs := [13]) (by kernel_rfl) (by simp) ?_
  refine AllReadyH.cons rfl (fun K hK => ?_) AllReadyH.nil
  go_simp
  go_at_call 30
  refine CR.out.mono ?_
  rintro e w3 ⟨rfl, B3, L3, K3⟩
  have HX3 := mkHid (BxS.both HX2.out B3 K3 h4)
  have R := mkHid (⟨Q, _, B3, HL.out.trans L3, does_chg HGW.out HC2.out K3, does_sub HGW.out.size HQ2.out⟩ : DoesQ P w base fp fr pr (N + 1) w3)
  clear B3 L3 K3
  go_wp2_with fail
  refine hK.out _ _ HX3.out (fun hH => ?_)
  clear hK K
  refine tKx (i := 14) (v := .bool true) rfl rfl (by kernel_rfl) (fun _ _ _ h => h) ?_ hH ?_
  · intro w5 hSw; obtain ⟨c0, c1, d1, d2, d3, d4, d5⟩ := hSw.cells; go_simp
  simp only [zA9, zB9, zC9]
  refine tKx (i := 15) (v := .bool true) rfl rfl (by kernel_rfl) (fun _ _ _ h => h) ?_ hH ?_
  · intro w5 hSw; obtain ⟨c0, c1, d1, d2, d3, d4, d5⟩ := hSw.cells; go_simp
  simp only [zA9, zB9, zC9]
  refine wpAnyH_done (by kernel_rfl) ?_ _
  refine NoPanic.normal ?_
  go_wp2_with fail
  go_ret
  exact ⟨rfl, R.out⟩
set_option maxHeartbeats 8000000 in
set_option maxRecDepth 1000000 in
theorem Does_2 {P : Nat → Prop} {w : World} {base fp fr pr N : Nat} {s : St} (h : Both P w base fp fr pr s N) (hN : N < 2000000) (n t : List UInt8) (B K : Value) (m : Int) (hll : n.length ≤ 1000000000) :
    Calls Try.prog 10 #[.pointer (some ⟨pr, 0, none⟩), .agg #[.int .i64 2, .string ⟨n.toArray⟩, .string ⟨t.toArray⟩, B, .int .i64 m, K]] w fun e w' => e = .returned (.bool true) ∧ DoesQ P w base fp fr pr (N + 1) w' := by
  obtain ⟨W, hW⟩ : ∃ W, W = w.alloc (.cells #[.int .i64 2, .string ⟨n.toArray⟩, .string ⟨t.toArray⟩, B, .int .i64 m, K] 30) := ⟨_, rfl⟩
  obtain ⟨h1, h2, h3, h4, h5⟩ := h.box 2 m n t B K hW
  have CP := mkHid (pCut h1.drew hN n m hll)
  have HB := mkHid h1.drew
  have HX : Hid (BxS w.heap.size fp fr pr 2 m n t B K W.drew) := h2
  have HL : Hid (Below base w W.drew) := h3.trans ⟨rfl, rfl, rfl, Nat.le_refl _, fun _ _ => rfl⟩
  have HGW : Hid (w.grownBy W.drew none) := by rw [hW]; exact gr_box w _
  obtain ⟨f0, f1, f2, f3, f4, f5, f6⟩ := h2.cells
  clear h h1 h2 h3
  go_enter Try.func10, Try.ntmps10
  go_wp2_with fail
  rw [← hW]
  clear hW
  refine wp_region_noPanic ?_
  refine wp_region_held_drew (S := BxS w.heap.size fp fr pr 2 m n t B K) (by kernel_rfl) (HX.out) (fun hH => ?_)
  refine tKx (i := 0) (v := .pointer (some ⟨pr, 0, none⟩)) rfl rfl (by kernel_rfl) (fun _ _ _ h => h) ?_ hH ?_
  · intro w5 hSw; obtain ⟨c0, c1, d1, d2, d3, d4, d5⟩ := hSw.cells; go_simp
  simp only [zA9, zB9, zC9]
  refine tKx (i := 1) (v := .pointer (some ⟨pr, 0, none⟩)) rfl rfl (by kernel_rfl) (fun _ _ _ h => h) ?_ hH ?_
  · intro w5 hSw; obtain ⟨c0, c1, d1, d2, d3, d4, d5⟩ := hSw.cells; go_simp
  simp only [zA9, zB9, zC9]
  refine tKx (i := 2) (v := .pointer (some ⟨pr, 0, none⟩)) rfl rfl (by kernel_rfl) (fun _ _ _ h => h) ?_ hH ?_
  · intro w5 hSw; obtain ⟨c0, c1, d1, d2, d3, d4, d5⟩ := hSw.cells; go_simp
  simp only [zA9, zB9, zC9]
  refine tKx (i := 3) (v := .pointer (some ⟨fp, 0, none⟩)) rfl rfl (by kernel_rfl) (fun _ _ _ h => h) ?_ hH ?_
  · intro w5 hSw; obtain ⟨c0, c1, d1, d2, d3, d4, d5⟩ := hSw.cells; go_simp
  simp only [zA9, zB9, zC9]
  refine tKx (i := 4) (v := .pointer (some ⟨w.heap.size, 1, none⟩)) rfl rfl (by kernel_rfl) (fun _ _ _ h => h) ?_ hH ?_
  · intro w5 hSw; obtain ⟨c0, c1, d1, d2, d3, d4, d5⟩ := hSw.cells; go_simp
  simp only [zA9, zB9, zC9]
  refine tKx (i := 5) (v := .string ⟨n.toArray⟩) rfl rfl (by kernel_rfl) (fun _ _ _ h => h) ?_ hH ?_
  · intro w5 hSw; obtain ⟨c0, c1, d1, d2, d3, d4, d5⟩ := hSw.cells; go_simp
  simp only [zA9, zB9, zC9]
  refine tKx (i := 6) (v := .pointer (some ⟨w.heap.size, 4, none⟩)) rfl rfl (by kernel_rfl) (fun _ _ _ h => h) ?_ hH ?_
  · intro w5 hSw; obtain ⟨c0, c1, d1, d2, d3, d4, d5⟩ := hSw.cells; go_simp
  simp only [zA9, zB9, zC9]
  refine tKx (i := 7) (v := .int .i64 m) rfl rfl (by kernel_rfl) (fun _ _ _ h => h) ?_ hH ?_
  · intro w5 hSw; obtain ⟨c0, c1, d1, d2, d3, d4, d5⟩ := hSw.cells; go_simp
  simp only [zA9, zB9, zC9]
  refine tKx (i := 9) (v := .pointer (some ⟨pr, 0, none⟩)) rfl rfl (by kernel_rfl) (fun _ _ _ h => h) ?_ hH ?_
  · intro w5 hSw; obtain ⟨c0, c1, d1, d2, d3, d4, d5⟩ := hSw.cells; go_simp
  simp only [zA9, zB9, zC9]
  refine tKx (i := 10) (v := .pointer (some ⟨pr, 0, none⟩)) rfl rfl (by kernel_rfl) (fun _ _ _ h => h) ?_ hH ?_
  · intro w5 hSw; obtain ⟨c0, c1, d1, d2, d3, d4, d5⟩ := hSw.cells; go_simp
  simp only [zA9, zB9, zC9]
  refine tKx (i := 11) (v := .pointer (some ⟨pr, 1, none⟩)) rfl rfl (by kernel_rfl) (fun _ _ _ h => h) ?_ hH ?_
  · intro w5 hSw; obtain ⟨c0, c1, d1, d2, d3, d4, d5⟩ := hSw.cells; go_simp
  simp only [zA9, zB9, zC9]
  refine tKx (i := 12) (v := .pointer (some ⟨fr, 0, none⟩)) rfl rfl (by kernel_rfl) (fun _ _ _ h => h) ?_ hH ?_
  · intro w5 hSw; obtain ⟨c0, c1, d1, d2, d3, d4, d5⟩ := hSw.cells; go_simp
  simp only [zA9, zB9, zC9]
  refine tKx (i := 13) (v := .pointer (some ⟨w.heap.size, 1, none⟩)) rfl rfl (by kernel_rfl) (fun _ _ _ h => h) ?_ hH ?_
  · intro w5 hSw; obtain ⟨c0, c1, d1, d2, d3, d4, d5⟩ := hSw.cells; go_simp
  simp only [zA9, zB9, zC9]
  refine tKx (i := 14) (v := .string ⟨n.toArray⟩) rfl rfl (by kernel_rfl) (fun _ _ _ h => h) ?_ hH ?_
  · intro w5 hSw; obtain ⟨c0, c1, d1, d2, d3, d4, d5⟩ := hSw.cells; go_simp
  simp only [zA9, zB9, zC9]
  refine tKx (i := 15) (v := .pointer (some ⟨w.heap.size, 4, none⟩)) rfl rfl (by kernel_rfl) (fun _ _ _ h => h) ?_ hH ?_
  · intro w5 hSw; obtain ⟨c0, c1, d1, d2, d3, d4, d5⟩ := hSw.cells; go_simp
  simp only [zA9, zB9, zC9]
  refine tKx (i := 16) (v := .int .i64 m) rfl rfl (by kernel_rfl) (fun _ _ _ h => h) ?_ hH ?_
  · intro w5 hSw; obtain ⟨c0, c1, d1, d2, d3, d4, d5⟩ := hSw.cells; go_simp
  simp only [zA9, zB9, zC9]
  refine wpAnyH_ready (rs := [8]) (by kernel_rfl) (by simp) ?_
  refine AllReadyH.cons rfl (fun K hK => ?_) AllReadyH.nil
  go_simp
  go_at_call 34
  refine CP.out.mono ?_
  rintro e w2 ⟨rfl, Q, hf, hc, hq2⟩
  have HC2 := mkHid hc
  have HQ2 := mkHid hq2
  clear hq2
  have CR := mkHid (rCut HB.out hN n m hf)
  have HX2 := mkHid (BxS.half HX.out hf hc h5)
  clear hf hc CP
  go_wp2_with fail
  refine hK.out _ _ HX2.out (fun hH => ?_)
  clear hK K
  refine wpAnyH_ready (rs := [17]) (by kernel_rfl) (by simp) ?_
  refine AllReadyH.cons rfl (fun K hK => ?_) AllReadyH.nil
  go_simp
  go_at_call 35
  refine CR.out.mono ?_
  rintro e w3 ⟨rfl, B3, L3, K3⟩
  have HX3 := mkHid (BxS.both HX2.out B3 K3 h4)
  have R := mkHid (⟨Q, _, B3, HL.out.trans L3, does_chg HGW.out HC2.out K3, does_sub HGW.out.size HQ2.out⟩ : DoesQ P w base fp fr pr (N + 1) w3)
  clear B3 L3 K3
  go_wp2_with fail
  refine hK.out _ _ HX3.out (fun hH => ?_)
  clear hK K
  refine tKx (i := 18) (v := .bool true) rfl rfl (by kernel_rfl) (fun _ _ _ h => h) ?_ hH ?_
  · intro w5 hSw; obtain ⟨c0, c1, d1, d2, d3, d4, d5⟩ := hSw.cells; go_simp
  simp only [zA9, zB9, zC9]
  refine tKx (i := 19) (v := .bool true) rfl rfl (by kernel_rfl) (fun _ _ _ h => h) ?_ hH ?_
  · intro w5 hSw; obtain ⟨c0, c1, d1, d2, d3, d4, d5⟩ := hSw.cells; go_simp
  simp only [zA9, zB9, zC9]
  refine wpAnyH_done (by kernel_rfl) ?_ _
  refine NoPanic.normal ?_
  go_wp2_with fail
  go_ret
  exact ⟨rfl, R.out⟩
set_option maxHeartbeats 8000000 in
set_option maxRecDepth 1000000 in
theorem Does_3 {P : Nat → Prop} {w : World} {base fp fr pr N : Nat} {s : St} (h : Both P w base fp fr pr s N) (hN : N < 2000000) (n t : List UInt8) (B K : Value) (m : Int) (hll : n.length ≤ 1000000000) (hlt : t.length ≤ 1000000000) :
    Calls Try.prog 10 #[.pointer (some ⟨pr, 0, none⟩), .agg #[.int .i64 3, .string ⟨n.toArray⟩, .string ⟨t.toArray⟩, B, .int .i64 m, K]] w fun e w' => e = .returned (.bool true) ∧ DoesQ P w base fp fr pr (N + 1) w' := by
  obtain ⟨W, hW⟩ : ∃ W, W = w.alloc (.cells #[.int .i64 3, .string ⟨n.toArray⟩, .string ⟨t.toArray⟩, B, .int .i64 m, K] 30) := ⟨_, rfl⟩
  obtain ⟨h1, h2, h3, h4, h5⟩ := h.box 3 m n t B K hW
  have CP := mkHid (pRename h1.drew hN n t hll hlt)
  have HB := mkHid h1.drew
  have HX : Hid (BxS w.heap.size fp fr pr 3 m n t B K W.drew) := h2
  have HL : Hid (Below base w W.drew) := h3.trans ⟨rfl, rfl, rfl, Nat.le_refl _, fun _ _ => rfl⟩
  have HGW : Hid (w.grownBy W.drew none) := by rw [hW]; exact gr_box w _
  obtain ⟨f0, f1, f2, f3, f4, f5, f6⟩ := h2.cells
  clear h h1 h2 h3
  go_enter Try.func10, Try.ntmps10
  go_wp2_with fail
  rw [← hW]
  clear hW
  refine wp_region_noPanic ?_
  refine wp_region_held_drew (S := BxS w.heap.size fp fr pr 3 m n t B K) (by kernel_rfl) (HX.out) (fun hH => ?_)
  refine tKx (i := 0) (v := .pointer (some ⟨pr, 0, none⟩)) rfl rfl (by kernel_rfl) (fun _ _ _ h => h) ?_ hH ?_
  · intro w5 hSw; obtain ⟨c0, c1, d1, d2, d3, d4, d5⟩ := hSw.cells; go_simp
  simp only [zA9, zB9, zC9]
  refine tKx (i := 1) (v := .pointer (some ⟨pr, 0, none⟩)) rfl rfl (by kernel_rfl) (fun _ _ _ h => h) ?_ hH ?_
  · intro w5 hSw; obtain ⟨c0, c1, d1, d2, d3, d4, d5⟩ := hSw.cells; go_simp
  simp only [zA9, zB9, zC9]
  refine tKx (i := 2) (v := .pointer (some ⟨pr, 0, none⟩)) rfl rfl (by kernel_rfl) (fun _ _ _ h => h) ?_ hH ?_
  · intro w5 hSw; obtain ⟨c0, c1, d1, d2, d3, d4, d5⟩ := hSw.cells; go_simp
  simp only [zA9, zB9, zC9]
  refine tKx (i := 3) (v := .pointer (some ⟨fp, 0, none⟩)) rfl rfl (by kernel_rfl) (fun _ _ _ h => h) ?_ hH ?_
  · intro w5 hSw; obtain ⟨c0, c1, d1, d2, d3, d4, d5⟩ := hSw.cells; go_simp
  simp only [zA9, zB9, zC9]
  refine tKx (i := 4) (v := .pointer (some ⟨w.heap.size, 1, none⟩)) rfl rfl (by kernel_rfl) (fun _ _ _ h => h) ?_ hH ?_
  · intro w5 hSw; obtain ⟨c0, c1, d1, d2, d3, d4, d5⟩ := hSw.cells; go_simp
  simp only [zA9, zB9, zC9]
  refine tKx (i := 5) (v := .string ⟨n.toArray⟩) rfl rfl (by kernel_rfl) (fun _ _ _ h => h) ?_ hH ?_
  · intro w5 hSw; obtain ⟨c0, c1, d1, d2, d3, d4, d5⟩ := hSw.cells; go_simp
  simp only [zA9, zB9, zC9]
  refine tKx (i := 6) (v := .pointer (some ⟨w.heap.size, 2, none⟩)) rfl rfl (by kernel_rfl) (fun _ _ _ h => h) ?_ hH ?_
  · intro w5 hSw; obtain ⟨c0, c1, d1, d2, d3, d4, d5⟩ := hSw.cells; go_simp
  simp only [zA9, zB9, zC9]
  refine tKx (i := 7) (v := .string ⟨t.toArray⟩) rfl rfl (by kernel_rfl) (fun _ _ _ h => h) ?_ hH ?_
  · intro w5 hSw; obtain ⟨c0, c1, d1, d2, d3, d4, d5⟩ := hSw.cells; go_simp
  simp only [zA9, zB9, zC9]
  refine tKx (i := 9) (v := .pointer (some ⟨pr, 0, none⟩)) rfl rfl (by kernel_rfl) (fun _ _ _ h => h) ?_ hH ?_
  · intro w5 hSw; obtain ⟨c0, c1, d1, d2, d3, d4, d5⟩ := hSw.cells; go_simp
  simp only [zA9, zB9, zC9]
  refine tKx (i := 10) (v := .pointer (some ⟨pr, 0, none⟩)) rfl rfl (by kernel_rfl) (fun _ _ _ h => h) ?_ hH ?_
  · intro w5 hSw; obtain ⟨c0, c1, d1, d2, d3, d4, d5⟩ := hSw.cells; go_simp
  simp only [zA9, zB9, zC9]
  refine tKx (i := 11) (v := .pointer (some ⟨pr, 1, none⟩)) rfl rfl (by kernel_rfl) (fun _ _ _ h => h) ?_ hH ?_
  · intro w5 hSw; obtain ⟨c0, c1, d1, d2, d3, d4, d5⟩ := hSw.cells; go_simp
  simp only [zA9, zB9, zC9]
  refine tKx (i := 12) (v := .pointer (some ⟨fr, 0, none⟩)) rfl rfl (by kernel_rfl) (fun _ _ _ h => h) ?_ hH ?_
  · intro w5 hSw; obtain ⟨c0, c1, d1, d2, d3, d4, d5⟩ := hSw.cells; go_simp
  simp only [zA9, zB9, zC9]
  refine tKx (i := 13) (v := .pointer (some ⟨w.heap.size, 1, none⟩)) rfl rfl (by kernel_rfl) (fun _ _ _ h => h) ?_ hH ?_
  · intro w5 hSw; obtain ⟨c0, c1, d1, d2, d3, d4, d5⟩ := hSw.cells; go_simp
  simp only [zA9, zB9, zC9]
  refine tKx (i := 14) (v := .string ⟨n.toArray⟩) rfl rfl (by kernel_rfl) (fun _ _ _ h => h) ?_ hH ?_
  · intro w5 hSw; obtain ⟨c0, c1, d1, d2, d3, d4, d5⟩ := hSw.cells; go_simp
  simp only [zA9, zB9, zC9]
  refine tKx (i := 15) (v := .pointer (some ⟨w.heap.size, 2, none⟩)) rfl rfl (by kernel_rfl) (fun _ _ _ h => h) ?_ hH ?_
  · intro w5 hSw; obtain ⟨c0, c1, d1, d2, d3, d4, d5⟩ := hSw.cells; go_simp
  simp only [zA9, zB9, zC9]
  refine tKx (i := 16) (v := .string ⟨t.toArray⟩) rfl rfl (by kernel_rfl) (fun _ _ _ h => h) ?_ hH ?_
  · intro w5 hSw; obtain ⟨c0, c1, d1, d2, d3, d4, d5⟩ := hSw.cells; go_simp
  simp only [zA9, zB9, zC9]
  refine wpAnyH_ready (rs := [8]) (by kernel_rfl) (by simp) ?_
  refine AllReadyH.cons rfl (fun K hK => ?_) AllReadyH.nil
  go_simp
  go_at_call 36
  refine CP.out.mono ?_
  rintro e w2 ⟨rfl, Q, hf, hc, hq2⟩
  have HC2 := mkHid hc
  have HQ2 := mkHid hq2
  clear hq2
  have CR := mkHid (rRename HB.out hN n t hf)
  have HX2 := mkHid (BxS.half HX.out hf hc h5)
  clear hf hc CP
  go_wp2_with fail
  refine hK.out _ _ HX2.out (fun hH => ?_)
  clear hK K
  refine wpAnyH_ready (rs := [17]) (by kernel_rfl) (by simp) ?_
  refine AllReadyH.cons rfl (fun K hK => ?_) AllReadyH.nil
  go_simp
  go_at_call 37
  refine CR.out.mono ?_
  rintro e w3 ⟨rfl, B3, L3, K3⟩
  have HX3 := mkHid (BxS.both HX2.out B3 K3 h4)
  have R := mkHid (⟨Q, _, B3, HL.out.trans L3, does_chg HGW.out HC2.out K3, does_sub HGW.out.size HQ2.out⟩ : DoesQ P w base fp fr pr (N + 1) w3)
  clear B3 L3 K3
  go_wp2_with fail
  refine hK.out _ _ HX3.out (fun hH => ?_)
  clear hK K
  refine tKx (i := 18) (v := .bool true) rfl rfl (by kernel_rfl) (fun _ _ _ h => h) ?_ hH ?_
  · intro w5 hSw; obtain ⟨c0, c1, d1, d2, d3, d4, d5⟩ := hSw.cells; go_simp
  simp only [zA9, zB9, zC9]
  refine tKx (i := 19) (v := .bool true) rfl rfl (by kernel_rfl) (fun _ _ _ h => h) ?_ hH ?_
  · intro w5 hSw; obtain ⟨c0, c1, d1, d2, d3, d4, d5⟩ := hSw.cells; go_simp
  simp only [zA9, zB9, zC9]
  refine wpAnyH_done (by kernel_rfl) ?_ _
  refine NoPanic.normal ?_
  go_wp2_with fail
  go_ret
  exact ⟨rfl, R.out⟩
set_option maxHeartbeats 8000000 in
set_option maxRecDepth 1000000 in
theorem Does_4 {P : Nat → Prop} {w : World} {base fp fr pr N : Nat} {s : St} (h : Both P w base fp fr pr s N) (hN : N < 2000000) (n t : List UInt8) (B K : Value) (m : Int) (hll : n.length ≤ 1000000000) :
    Calls Try.prog 10 #[.pointer (some ⟨pr, 0, none⟩), .agg #[.int .i64 4, .string ⟨n.toArray⟩, .string ⟨t.toArray⟩, B, .int .i64 m, K]] w fun e w' => e = .returned (.bool true) ∧ DoesQ P w base fp fr pr (N + 1) w' := by
  obtain ⟨W, hW⟩ : ∃ W, W = w.alloc (.cells #[.int .i64 4, .string ⟨n.toArray⟩, .string ⟨t.toArray⟩, B, .int .i64 m, K] 30) := ⟨_, rfl⟩
  obtain ⟨h1, h2, h3, h4, h5⟩ := h.box 4 m n t B K hW
  have CP := mkHid (pRemove h1.drew hN n hll)
  have HB := mkHid h1.drew
  have HX : Hid (BxS w.heap.size fp fr pr 4 m n t B K W.drew) := h2
  have HL : Hid (Below base w W.drew) := h3.trans ⟨rfl, rfl, rfl, Nat.le_refl _, fun _ _ => rfl⟩
  have HGW : Hid (w.grownBy W.drew none) := by rw [hW]; exact gr_box w _
  obtain ⟨f0, f1, f2, f3, f4, f5, f6⟩ := h2.cells
  clear h h1 h2 h3
  go_enter Try.func10, Try.ntmps10
  go_wp2_with fail
  rw [← hW]
  clear hW
  refine wp_region_noPanic ?_
  refine wp_region_held_drew (S := BxS w.heap.size fp fr pr 4 m n t B K) (by kernel_rfl) (HX.out) (fun hH => ?_)
  refine tKx (i := 0) (v := .pointer (some ⟨pr, 0, none⟩)) rfl rfl (by kernel_rfl) (fun _ _ _ h => h) ?_ hH ?_
  · intro w5 hSw; obtain ⟨c0, c1, d1, d2, d3, d4, d5⟩ := hSw.cells; go_simp
  simp only [zA9, zB9, zC9]
  refine tKx (i := 1) (v := .pointer (some ⟨pr, 0, none⟩)) rfl rfl (by kernel_rfl) (fun _ _ _ h => h) ?_ hH ?_
  · intro w5 hSw; obtain ⟨c0, c1, d1, d2, d3, d4, d5⟩ := hSw.cells; go_simp
  simp only [zA9, zB9, zC9]
  refine tKx (i := 2) (v := .pointer (some ⟨pr, 0, none⟩)) rfl rfl (by kernel_rfl) (fun _ _ _ h => h) ?_ hH ?_
  · intro w5 hSw; obtain ⟨c0, c1, d1, d2, d3, d4, d5⟩ := hSw.cells; go_simp
  simp only [zA9, zB9, zC9]
  refine tKx (i := 3) (v := .pointer (some ⟨fp, 0, none⟩)) rfl rfl (by kernel_rfl) (fun _ _ _ h => h) ?_ hH ?_
  · intro w5 hSw; obtain ⟨c0, c1, d1, d2, d3, d4, d5⟩ := hSw.cells; go_simp
  simp only [zA9, zB9, zC9]
  refine tKx (i := 4) (v := .pointer (some ⟨w.heap.size, 1, none⟩)) rfl rfl (by kernel_rfl) (fun _ _ _ h => h) ?_ hH ?_
  · intro w5 hSw; obtain ⟨c0, c1, d1, d2, d3, d4, d5⟩ := hSw.cells; go_simp
  simp only [zA9, zB9, zC9]
  refine tKx (i := 5) (v := .string ⟨n.toArray⟩) rfl rfl (by kernel_rfl) (fun _ _ _ h => h) ?_ hH ?_
  · intro w5 hSw; obtain ⟨c0, c1, d1, d2, d3, d4, d5⟩ := hSw.cells; go_simp
  simp only [zA9, zB9, zC9]
  refine tKx (i := 7) (v := .pointer (some ⟨pr, 0, none⟩)) rfl rfl (by kernel_rfl) (fun _ _ _ h => h) ?_ hH ?_
  · intro w5 hSw; obtain ⟨c0, c1, d1, d2, d3, d4, d5⟩ := hSw.cells; go_simp
  simp only [zA9, zB9, zC9]
  refine tKx (i := 8) (v := .pointer (some ⟨pr, 0, none⟩)) rfl rfl (by kernel_rfl) (fun _ _ _ h => h) ?_ hH ?_
  · intro w5 hSw; obtain ⟨c0, c1, d1, d2, d3, d4, d5⟩ := hSw.cells; go_simp
  simp only [zA9, zB9, zC9]
  refine tKx (i := 9) (v := .pointer (some ⟨pr, 1, none⟩)) rfl rfl (by kernel_rfl) (fun _ _ _ h => h) ?_ hH ?_
  · intro w5 hSw; obtain ⟨c0, c1, d1, d2, d3, d4, d5⟩ := hSw.cells; go_simp
  simp only [zA9, zB9, zC9]
  refine tKx (i := 10) (v := .pointer (some ⟨fr, 0, none⟩)) rfl rfl (by kernel_rfl) (fun _ _ _ h => h) ?_ hH ?_
  · intro w5 hSw; obtain ⟨c0, c1, d1, d2, d3, d4, d5⟩ := hSw.cells; go_simp
  simp only [zA9, zB9, zC9]
  refine tKx (i := 11) (v := .pointer (some ⟨w.heap.size, 1, none⟩)) rfl rfl (by kernel_rfl) (fun _ _ _ h => h) ?_ hH ?_
  · intro w5 hSw; obtain ⟨c0, c1, d1, d2, d3, d4, d5⟩ := hSw.cells; go_simp
  simp only [zA9, zB9, zC9]
  refine tKx (i := 12) (v := .string ⟨n.toArray⟩) rfl rfl (by kernel_rfl) (fun _ _ _ h => h) ?_ hH ?_
  · intro w5 hSw; obtain ⟨c0, c1, d1, d2, d3, d4, d5⟩ := hSw.cells; go_simp
  simp only [zA9, zB9, zC9]
  refine wpAnyH_ready (rs := [6]) (by kernel_rfl) (by simp) ?_
  refine AllReadyH.cons rfl (fun K hK => ?_) AllReadyH.nil
  go_simp
  go_at_call 38
  refine CP.out.mono ?_
  rintro e w2 ⟨rfl, Q, hf, hc, hq2⟩
  have HC2 := mkHid hc
  have HQ2 := mkHid hq2
  clear hq2
  have CR := mkHid (rRemove HB.out hN n hf)
  have HX2 := mkHid (BxS.half HX.out hf hc h5)
  clear hf hc CP
  go_wp2_with fail
  refine hK.out _ _ HX2.out (fun hH => ?_)
  clear hK K
  refine wpAnyH_ready (rs := [13]) (by kernel_rfl) (by simp) ?_
  refine AllReadyH.cons rfl (fun K hK => ?_) AllReadyH.nil
  go_simp
  go_at_call 39
  refine CR.out.mono ?_
  rintro e w3 ⟨rfl, B3, L3, K3⟩
  have HX3 := mkHid (BxS.both HX2.out B3 K3 h4)
  have R := mkHid (⟨Q, _, B3, HL.out.trans L3, does_chg HGW.out HC2.out K3, does_sub HGW.out.size HQ2.out⟩ : DoesQ P w base fp fr pr (N + 1) w3)
  clear B3 L3 K3
  go_wp2_with fail
  refine hK.out _ _ HX3.out (fun hH => ?_)
  clear hK K
  refine tKx (i := 14) (v := .bool true) rfl rfl (by kernel_rfl) (fun _ _ _ h => h) ?_ hH ?_
  · intro w5 hSw; obtain ⟨c0, c1, d1, d2, d3, d4, d5⟩ := hSw.cells; go_simp
  simp only [zA9, zB9, zC9]
  refine tKx (i := 15) (v := .bool true) rfl rfl (by kernel_rfl) (fun _ _ _ h => h) ?_ hH ?_
  · intro w5 hSw; obtain ⟨c0, c1, d1, d2, d3, d4, d5⟩ := hSw.cells; go_simp
  simp only [zA9, zB9, zC9]
  refine wpAnyH_done (by kernel_rfl) ?_ _
  refine NoPanic.normal ?_
  go_wp2_with fail
  go_ret
  exact ⟨rfl, R.out⟩
set_option maxHeartbeats 8000000 in
set_option maxRecDepth 1000000 in
theorem Does_5 {P : Nat → Prop} {w : World} {base fp fr pr N : Nat} {s : St} (h : Both P w base fp fr pr s N) (hN : N < 2000000) (n t : List UInt8) (B K : Value) (m : Int) (hll : n.length ≤ 1000000000) :
    Calls Try.prog 10 #[.pointer (some ⟨pr, 0, none⟩), .agg #[.int .i64 5, .string ⟨n.toArray⟩, .string ⟨t.toArray⟩, B, .int .i64 m, K]] w fun e w' => e = .returned (.bool true) ∧ DoesQ P w base fp fr pr (N + 1) w' := by
  obtain ⟨W, hW⟩ : ∃ W, W = w.alloc (.cells #[.int .i64 5, .string ⟨n.toArray⟩, .string ⟨t.toArray⟩, B, .int .i64 m, K] 30) := ⟨_, rfl⟩
  obtain ⟨h1, h2, h3, h4, h5⟩ := h.box 5 m n t B K hW
  have CP := mkHid (pSync h1.drew hN n hll)
  have HB := mkHid h1.drew
  have HX : Hid (BxS w.heap.size fp fr pr 5 m n t B K W.drew) := h2
  have HL : Hid (Below base w W.drew) := h3.trans ⟨rfl, rfl, rfl, Nat.le_refl _, fun _ _ => rfl⟩
  have HGW : Hid (w.grownBy W.drew none) := by rw [hW]; exact gr_box w _
  obtain ⟨f0, f1, f2, f3, f4, f5, f6⟩ := h2.cells
  clear h h1 h2 h3
  go_enter Try.func10, Try.ntmps10
  go_wp2_with fail
  rw [← hW]
  clear hW
  refine wp_region_noPanic ?_
  refine wp_region_held_drew (S := BxS w.heap.size fp fr pr 5 m n t B K) (by kernel_rfl) (HX.out) (fun hH => ?_)
  refine tKx (i := 0) (v := .pointer (some ⟨pr, 0, none⟩)) rfl rfl (by kernel_rfl) (fun _ _ _ h => h) ?_ hH ?_
  · intro w5 hSw; obtain ⟨c0, c1, d1, d2, d3, d4, d5⟩ := hSw.cells; go_simp
  simp only [zA9, zB9, zC9]
  refine tKx (i := 1) (v := .pointer (some ⟨pr, 0, none⟩)) rfl rfl (by kernel_rfl) (fun _ _ _ h => h) ?_ hH ?_
  · intro w5 hSw; obtain ⟨c0, c1, d1, d2, d3, d4, d5⟩ := hSw.cells; go_simp
  simp only [zA9, zB9, zC9]
  refine tKx (i := 2) (v := .pointer (some ⟨pr, 0, none⟩)) rfl rfl (by kernel_rfl) (fun _ _ _ h => h) ?_ hH ?_
  · intro w5 hSw; obtain ⟨c0, c1, d1, d2, d3, d4, d5⟩ := hSw.cells; go_simp
  simp only [zA9, zB9, zC9]
  refine tKx (i := 3) (v := .pointer (some ⟨fp, 0, none⟩)) rfl rfl (by kernel_rfl) (fun _ _ _ h => h) ?_ hH ?_
  · intro w5 hSw; obtain ⟨c0, c1, d1, d2, d3, d4, d5⟩ := hSw.cells; go_simp
  simp only [zA9, zB9, zC9]
  refine tKx (i := 4) (v := .pointer (some ⟨w.heap.size, 1, none⟩)) rfl rfl (by kernel_rfl) (fun _ _ _ h => h) ?_ hH ?_
  · intro w5 hSw; obtain ⟨c0, c1, d1, d2, d3, d4, d5⟩ := hSw.cells; go_simp
  simp only [zA9, zB9, zC9]
  refine tKx (i := 5) (v := .string ⟨n.toArray⟩) rfl rfl (by kernel_rfl) (fun _ _ _ h => h) ?_ hH ?_
  · intro w5 hSw; obtain ⟨c0, c1, d1, d2, d3, d4, d5⟩ := hSw.cells; go_simp
  simp only [zA9, zB9, zC9]
  refine tKx (i := 7) (v := .pointer (some ⟨pr, 0, none⟩)) rfl rfl (by kernel_rfl) (fun _ _ _ h => h) ?_ hH ?_
  · intro w5 hSw; obtain ⟨c0, c1, d1, d2, d3, d4, d5⟩ := hSw.cells; go_simp
  simp only [zA9, zB9, zC9]
  refine tKx (i := 8) (v := .pointer (some ⟨pr, 0, none⟩)) rfl rfl (by kernel_rfl) (fun _ _ _ h => h) ?_ hH ?_
  · intro w5 hSw; obtain ⟨c0, c1, d1, d2, d3, d4, d5⟩ := hSw.cells; go_simp
  simp only [zA9, zB9, zC9]
  refine tKx (i := 9) (v := .pointer (some ⟨pr, 1, none⟩)) rfl rfl (by kernel_rfl) (fun _ _ _ h => h) ?_ hH ?_
  · intro w5 hSw; obtain ⟨c0, c1, d1, d2, d3, d4, d5⟩ := hSw.cells; go_simp
  simp only [zA9, zB9, zC9]
  refine tKx (i := 10) (v := .pointer (some ⟨fr, 0, none⟩)) rfl rfl (by kernel_rfl) (fun _ _ _ h => h) ?_ hH ?_
  · intro w5 hSw; obtain ⟨c0, c1, d1, d2, d3, d4, d5⟩ := hSw.cells; go_simp
  simp only [zA9, zB9, zC9]
  refine tKx (i := 11) (v := .pointer (some ⟨w.heap.size, 1, none⟩)) rfl rfl (by kernel_rfl) (fun _ _ _ h => h) ?_ hH ?_
  · intro w5 hSw; obtain ⟨c0, c1, d1, d2, d3, d4, d5⟩ := hSw.cells; go_simp
  simp only [zA9, zB9, zC9]
  refine tKx (i := 12) (v := .string ⟨n.toArray⟩) rfl rfl (by kernel_rfl) (fun _ _ _ h => h) ?_ hH ?_
  · intro w5 hSw; obtain ⟨c0, c1, d1, d2, d3, d4, d5⟩ := hSw.cells; go_simp
  simp only [zA9, zB9, zC9]
  refine wpAnyH_ready (rs := [6]) (by kernel_rfl) (by simp) ?_
  refine AllReadyH.cons rfl (fun K hK => ?_) AllReadyH.nil
  go_simp
  go_at_call 23
  refine CP.out.mono ?_
  rintro e w2 ⟨rfl, Q, hf, hc, hq2⟩
  have HC2 := mkHid hc
  have HQ2 := mkHid hq2
  clear hq2
  have CR := mkHid (rSync HB.out hN n hf)
  have HX2 := mkHid (BxS.half HX.out hf hc h5)
  clear hf hc CP
  go_wp2_with fail
  refine hK.out _ _ HX2.out (fun hH => ?_)
  clear hK K
  refine wpAnyH_ready (rs := [13]) (by kernel_rfl) (by simp) ?_
  refine AllReadyH.cons rfl (fun K hK => ?_) AllReadyH.nil
  go_simp
  go_at_call 40
  refine CR.out.mono ?_
  rintro e w3 ⟨rfl, B3, L3, K3⟩
  have HX3 := mkHid (BxS.both HX2.out B3 K3 h4)
  have R := mkHid (⟨Q, _, B3, HL.out.trans L3, does_chg HGW.out HC2.out K3, does_sub HGW.out.size HQ2.out⟩ : DoesQ P w base fp fr pr (N + 1) w3)
  clear B3 L3 K3
  go_wp2_with fail
  refine hK.out _ _ HX3.out (fun hH => ?_)
  clear hK K
  refine tKx (i := 14) (v := .bool true) rfl rfl (by kernel_rfl) (fun _ _ _ h => h) ?_ hH ?_
  · intro w5 hSw; obtain ⟨c0, c1, d1, d2, d3, d4, d5⟩ := hSw.cells; go_simp
  simp only [zA9, zB9, zC9]
  refine tKx (i := 15) (v := .bool true) rfl rfl (by kernel_rfl) (fun _ _ _ h => h) ?_ hH ?_
  · intro w5 hSw; obtain ⟨c0, c1, d1, d2, d3, d4, d5⟩ := hSw.cells; go_simp
  simp only [zA9, zB9, zC9]
  refine wpAnyH_done (by kernel_rfl) ?_ _
  refine NoPanic.normal ?_
  go_wp2_with fail
  go_ret
  exact ⟨rfl, R.out⟩
set_option maxHeartbeats 8000000 in
set_option maxRecDepth 1000000 in
theorem Does_6 {P : Nat → Prop} {w : World} {base fp fr pr N : Nat} {s : St} (h : Both P w base fp fr pr s N) (hN : N < 2000000) (n t : List UInt8) (B K : Value) (m : Int)  :
    Calls Try.prog 10 #[.pointer (some ⟨pr, 0, none⟩), .agg #[.int .i64 6, .string ⟨n.toArray⟩, .string ⟨t.toArray⟩, B, .int .i64 m, K]] w fun e w' => e = .returned (.bool true) ∧ DoesQ P w base fp fr pr (N + 1) w' := by
  obtain ⟨W, hW⟩ : ∃ W, W = w.alloc (.cells #[.int .i64 6, .string ⟨n.toArray⟩, .string ⟨t.toArray⟩, B, .int .i64 m, K] 30) := ⟨_, rfl⟩
  obtain ⟨h1, h2, h3, h4, h5⟩ := h.box 6 m n t B K hW
  have CP := mkHid (pSyncNames h1.drew hN )
  have HB := mkHid h1.drew
  have HX : Hid (BxS w.heap.size fp fr pr 6 m n t B K W.drew) := h2
  have HL : Hid (Below base w W.drew) := h3.trans ⟨rfl, rfl, rfl, Nat.le_refl _, fun _ _ => rfl⟩
  have HGW : Hid (w.grownBy W.drew none) := by rw [hW]; exact gr_box w _
  obtain ⟨f0, f1, f2, f3, f4, f5, f6⟩ := h2.cells
  clear h h1 h2 h3
  go_enter Try.func10, Try.ntmps10
  go_wp2_with fail
  rw [← hW]
  clear hW
  refine wp_region_noPanic ?_
  refine wp_region_held_drew (S := BxS w.heap.size fp fr pr 6 m n t B K) (by kernel_rfl) (HX.out) (fun hH => ?_)
  refine tKx (i := 0) (v := .pointer (some ⟨pr, 0, none⟩)) rfl rfl (by kernel_rfl) (fun _ _ _ h => h) ?_ hH ?_
  · intro w5 hSw; obtain ⟨c0, c1, d1, d2, d3, d4, d5⟩ := hSw.cells; go_simp
  simp only [zA9, zB9, zC9]
  refine tKx (i := 1) (v := .pointer (some ⟨pr, 0, none⟩)) rfl rfl (by kernel_rfl) (fun _ _ _ h => h) ?_ hH ?_
  · intro w5 hSw; obtain ⟨c0, c1, d1, d2, d3, d4, d5⟩ := hSw.cells; go_simp
  simp only [zA9, zB9, zC9]
  refine tKx (i := 2) (v := .pointer (some ⟨pr, 0, none⟩)) rfl rfl (by kernel_rfl) (fun _ _ _ h => h) ?_ hH ?_
  · intro w5 hSw; obtain ⟨c0, c1, d1, d2, d3, d4, d5⟩ := hSw.cells; go_simp
  simp only [zA9, zB9, zC9]
  refine tKx (i := 3) (v := .pointer (some ⟨fp, 0, none⟩)) rfl rfl (by kernel_rfl) (fun _ _ _ h => h) ?_ hH ?_
  · intro w5 hSw; obtain ⟨c0, c1, d1, d2, d3, d4, d5⟩ := hSw.cells; go_simp
  simp only [zA9, zB9, zC9]
  refine tKx (i := 5) (v := .pointer (some ⟨pr, 0, none⟩)) rfl rfl (by kernel_rfl) (fun _ _ _ h => h) ?_ hH ?_
  · intro w5 hSw; obtain ⟨c0, c1, d1, d2, d3, d4, d5⟩ := hSw.cells; go_simp
  simp only [zA9, zB9, zC9]
  refine tKx (i := 6) (v := .pointer (some ⟨pr, 0, none⟩)) rfl rfl (by kernel_rfl) (fun _ _ _ h => h) ?_ hH ?_
  · intro w5 hSw; obtain ⟨c0, c1, d1, d2, d3, d4, d5⟩ := hSw.cells; go_simp
  simp only [zA9, zB9, zC9]
  refine tKx (i := 7) (v := .pointer (some ⟨pr, 1, none⟩)) rfl rfl (by kernel_rfl) (fun _ _ _ h => h) ?_ hH ?_
  · intro w5 hSw; obtain ⟨c0, c1, d1, d2, d3, d4, d5⟩ := hSw.cells; go_simp
  simp only [zA9, zB9, zC9]
  refine tKx (i := 8) (v := .pointer (some ⟨fr, 0, none⟩)) rfl rfl (by kernel_rfl) (fun _ _ _ h => h) ?_ hH ?_
  · intro w5 hSw; obtain ⟨c0, c1, d1, d2, d3, d4, d5⟩ := hSw.cells; go_simp
  simp only [zA9, zB9, zC9]
  refine wpAnyH_ready (rs := [4]) (by kernel_rfl) (by simp) ?_
  refine AllReadyH.cons rfl (fun K hK => ?_) AllReadyH.nil
  go_simp
  go_at_call 15
  refine CP.out.mono ?_
  rintro e w2 ⟨rfl, Q, hf, hc, hq2⟩
  have HC2 := mkHid hc
  have HQ2 := mkHid hq2
  clear hq2
  have CR := mkHid (rSyncNames HB.out hN  hf)
  have HX2 := mkHid (BxS.half HX.out hf hc h5)
  clear hf hc CP
  go_wp2_with fail
  refine hK.out _ _ HX2.out (fun hH => ?_)
  clear hK K
  refine wpAnyH_ready (rs := [9]) (by kernel_rfl) (by simp) ?_
  refine AllReadyH.cons rfl (fun K hK => ?_) AllReadyH.nil
  go_simp
  go_at_call 41
  refine CR.out.mono ?_
  rintro e w3 ⟨rfl, B3, L3, K3⟩
  have HX3 := mkHid (BxS.both HX2.out B3 K3 h4)
  have R := mkHid (⟨Q, _, B3, HL.out.trans L3, does_chg HGW.out HC2.out K3, does_sub HGW.out.size HQ2.out⟩ : DoesQ P w base fp fr pr (N + 1) w3)
  clear B3 L3 K3
  go_wp2_with fail
  refine hK.out _ _ HX3.out (fun hH => ?_)
  clear hK K
  refine tKx (i := 10) (v := .bool true) rfl rfl (by kernel_rfl) (fun _ _ _ h => h) ?_ hH ?_
  · intro w5 hSw; obtain ⟨c0, c1, d1, d2, d3, d4, d5⟩ := hSw.cells; go_simp
  simp only [zA9, zB9, zC9]
  refine tKx (i := 11) (v := .bool true) rfl rfl (by kernel_rfl) (fun _ _ _ h => h) ?_ hH ?_
  · intro w5 hSw; obtain ⟨c0, c1, d1, d2, d3, d4, d5⟩ := hSw.cells; go_simp
  simp only [zA9, zB9, zC9]
  refine wpAnyH_done (by kernel_rfl) ?_ _
  refine NoPanic.normal ?_
  go_wp2_with fail
  go_ret
  exact ⟨rfl, R.out⟩
end Go.Proofs.Ytdiehlioemmakaa

