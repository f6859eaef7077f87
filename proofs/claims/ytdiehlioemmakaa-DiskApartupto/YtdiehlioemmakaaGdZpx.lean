/-
  One call on both disks: what is read; and all calls.
-/
import Derived.Test.YtdiehlioemmakaaGdYpx
namespace Go.Proofs.Ytdiehlioemmakaa
open Go.RowKit Go.Maps Go.Joins

theorem ownG {w w' : World} {base : Nat} {v : Value} {l : List UInt8} (h : ownsB w base v l) (hg : w.grownBy w' none) : ownsB w' base v l := World.ownsRow.kept h hg (by cases v.ownBlock <;> simp)
theorem gr_refl (w : World) : w.grownBy w none := ⟨rfl, rfl, rfl, Nat.le_refl _, fun _ _ _ => rfl⟩
set_option maxHeartbeats 8000000 in
set_option maxRecDepth 1000000 in
theorem Does_8 {P : Nat → Prop} {w : World} {base fp fr pr N : Nat} {s : St} (h : Both P w base fp fr pr s N) (hN : N < 2000000) (n t : List UInt8) (B K : Value) (m : Int) (hll : n.length ≤ 1000000000) :
    Calls Try.prog 10 #[.pointer (some ⟨pr, 0, none⟩), .agg #[.int .i64 8, .string ⟨n.toArray⟩, .string ⟨t.toArray⟩, B, .int .i64 m, K]] w fun e w' => e = .returned (.bool true) ∧ DoesQ P w base fp fr pr (N + 1) w' := by
  obtain ⟨W, hW⟩ : ∃ W, W = w.alloc (.cells #[.int .i64 8, .string ⟨n.toArray⟩, .string ⟨t.toArray⟩, B, .int .i64 m, K] 30) := ⟨_, rfl⟩
  obtain ⟨h1, h2, h3, h4, h5⟩ := h.box 8 m n t (B) (K) hW
  have HB := mkHid h1.drew
  have HX : Hid (BxS w.heap.size fp fr pr 8 m n t (B) (K) W.drew) := h2
  have HL : Hid (Below base w W.drew) := h3.trans ⟨rfl, rfl, rfl, Nat.le_refl _, fun _ _ => rfl⟩
  have HGW : Hid (w.grownBy W.drew none) := by rw [hW]; exact gr_box w _
  have hbs := mkHid h1.lt.2.2.1
  have HB0 := mkHid h1
  have HL0 := mkHid h3
  have HGW0 : Hid (w.grownBy W none) := by rw [hW]; exact World.grownBy_alloc w _ none
  obtain ⟨R, hR⟩ : ∃ R, R = rdB n s := ⟨_, rfl⟩
  obtain ⟨E, hE⟩ : ∃ E, E = atE n s.now := ⟨_, rfl⟩
  obtain ⟨Fa, hFa⟩ : ∃ F, F = rdF n s := ⟨_, rfl⟩
  have hRl : R.length ≤ 100000000 := by rw [hR]; obtain ⟨_, _, _, _, _, j⟩ := h1.d; exact (j.read n).2.2.2.2
  have HC1 : Hid (∀ w', W.grownBy w' none → Calls Try.prog 43 #[.pointer (some ⟨fp, 0, none⟩), .string ⟨n.toArray⟩] w' fun e w2 => ∃ v', e = .returned (.tuple #[v', .int .i64 E]) ∧ ownsB w2 w'.heap.size v' R ∧ w'.grownBy w2 none) := fun w' g => by rw [hE, hR]; exact pRead (HB0.out.grow g) n hll
  have HC2 : Hid (∀ w', W.grownBy w' none → Calls Try.prog 44 #[.pointer (some ⟨fr, 0, none⟩), .string ⟨n.toArray⟩] w' fun e w2 => ∃ p c, e = .returned (.tuple #[.slice p R.length c, .int .i64 E]) ∧ byIn w2 p R ∧ (p = none → c = 0) ∧ R.length ≤ c ∧ c ≤ 9223372036854775807 ∧ w'.grownBy w2 none) := fun w' g => by rw [hE, hR]; exact rRead (HB0.out.grow g) n
  have HC3 : Hid (∀ w', W.grownBy w' none → Calls Try.prog 45 #[.pointer (some ⟨fp, 0, none⟩), .string ⟨n.toArray⟩] w' fun e w2 => e = .returned (.tuple #[.int .i64 (R.length : Int), .int .i64 E]) ∧ w'.grownBy w2 none) := fun w' g => by rw [hE, hR]; exact (pSize (HB0.out.grow g) n hll).mono (fun e w2 h => ⟨h.1, by rw [h.2]; exact gr_refl _⟩)
  have HC4 : Hid (∀ w', W.grownBy w' none → Calls Try.prog 46 #[.pointer (some ⟨fp, 0, none⟩), .string ⟨n.toArray⟩] w' fun e w2 => e = .returned (.tuple #[.int .i64 (Fa : Int), .int .i64 E]) ∧ w'.grownBy w2 none) := fun w' g => by rw [hE, hFa]; exact (pFast (HB0.out.grow g) n hll).mono (fun e w2 h => ⟨h.1, by rw [h.2]; exact gr_refl _⟩)
  have HC5 : Hid (∀ w', W.grownBy w' none → Calls Try.prog 47 #[.pointer (some ⟨fr, 0, none⟩), .string ⟨n.toArray⟩] w' fun e w2 => e = .returned (.tuple #[.int .i64 (Fa : Int), .int .i64 E]) ∧ w'.grownBy w2 none) := fun w' g => by rw [hE, hFa]; exact rFast (HB0.out.grow g) n
  have HXW := mkHid h2
  clear hR hE hFa HB HL HGW
  obtain ⟨f0, f1, f2, f3, f4, f5, f6⟩ := h2.cells
  clear h h1 h2 h3
  go_enter Try.func10, Try.ntmps10
  go_wp2_with fail
  rw [← hW]
  clear hW HX
  have G1d := mkHid (grTrans (gr_refl W) (gr_drew _))
  refine wp_region_noPanic ?_
  refine wp_region_held_drew (S := BxS w.heap.size fp fr pr 8 m n t B K) (by kernel_rfl) (HXW.out.grow G1d.out) (fun hH => ?_)
  refine tKx (i := 0) (v := .pointer (some ⟨pr, 0, none⟩)) rfl rfl (by kernel_rfl) (fun _ _ _ h => h) ?_ hH ?_
  · intro w5 hSw; obtain ⟨c0, c1, d1, d2, d3, d4, d5⟩ := hSw.cells; go_simp
  simp only [zA9, zB9, zC9]
  refine tKx (i := 1) (v := .pointer (some ⟨pr, 0, none⟩)) rfl rfl (by kernel_rfl) (fun _ _ _ h => h) ?_ hH ?_
  · intro w5 hSw; obtain ⟨c0, c1, d1, d2, d3, d4, d5⟩ := hSw.cells; go_simp
  simp only [zA9, zB9, zC9]
  refine tKx (i := 2) (v := .pointer (some ⟨pr, 0, none⟩)) rfl rfl (by kernel_rfl) (fun _ _ _ h => h) ?_ hH ?_
  · intro w5 hSw; obtain ⟨c0, c1, d1, d2, d3, d4, d5⟩ := hSw.cells; go_simp
  simp only [zA9, zB9, zC9]
  refine tKx (i := 3) (v := .pointer (some ⟨fp, 0, none⟩)) rfl rfl (by kernel_rfl) (fun _ _ _ h => h) ?_ hH ?_
  · intro w5 hSw; obtain ⟨c0, c1, d1, d2, d3, d4, d5⟩ := hSw.cells; go_simp
  simp only [zA9, zB9, zC9]
  refine tKx (i := 4) (v := .pointer (some ⟨w.heap.size, 1, none⟩)) rfl rfl (by kernel_rfl) (fun _ _ _ h => h) ?_ hH ?_
  · intro w5 hSw; obtain ⟨c0, c1, d1, d2, d3, d4, d5⟩ := hSw.cells; go_simp
  simp only [zA9, zB9, zC9]
  refine tKx (i := 5) (v := .string ⟨n.toArray⟩) rfl rfl (by kernel_rfl) (fun _ _ _ h => h) ?_ hH ?_
  · intro w5 hSw; obtain ⟨c0, c1, d1, d2, d3, d4, d5⟩ := hSw.cells; go_simp
  simp only [zA9, zB9, zC9]
  refine wpAnyH_ready (rs := [6]) (by kernel_rfl) (by simp) ?_
  refine AllReadyH.cons rfl (fun K hK => ?_) AllReadyH.nil
  go_simp
  go_at_call 43
  refine (HC1.out _ G1d.out).mono ?_
  rintro e w1 ⟨v1, rfl, o1, g1⟩
  obtain ⟨P1, C1, rfl⟩ := own_form o1
  have G1 := mkHid (grTrans G1d.out g1)
  have O1 := mkHid o1
  clear o1
  clear g1
  go_wp2_with fail
  refine hK.out _ _ (HXW.out.grow G1.out) (fun hH => ?_)
  clear hK K
  refine tKx (i := 7) (v := .tuple #[.slice P1 R.length C1, .int .i64 E]) rfl rfl (by kernel_rfl) (fun _ _ _ h => h) ?_ hH ?_
  · intro w5 hSw; obtain ⟨c0, c1, d1, d2, d3, d4, d5⟩ := hSw.cells; go_simp
  simp only [zA9, zB9, zC9]
  refine tKx (i := 8) (v := .slice P1 R.length C1) rfl rfl (by kernel_rfl) (fun _ _ _ h => h) ?_ hH ?_
  · intro w5 hSw; obtain ⟨c0, c1, d1, d2, d3, d4, d5⟩ := hSw.cells; go_simp
  simp only [zA9, zB9, zC9]
  refine tKx (i := 9) (v := .int .i64 E) rfl rfl (by kernel_rfl) (fun _ _ _ h => h) ?_ hH ?_
  · intro w5 hSw; obtain ⟨c0, c1, d1, d2, d3, d4, d5⟩ := hSw.cells; go_simp
  simp only [zA9, zB9, zC9]
  refine tKx (i := 10) (v := .slice P1 R.length C1) rfl rfl (by kernel_rfl) (fun _ _ _ h => h) ?_ hH ?_
  · intro w5 hSw; obtain ⟨c0, c1, d1, d2, d3, d4, d5⟩ := hSw.cells; go_simp
  simp only [zA9, zB9, zC9]
  refine tKx (i := 11) (v := .int .i64 E) rfl rfl (by kernel_rfl) (fun _ _ _ h => h) ?_ hH ?_
  · intro w5 hSw; obtain ⟨c0, c1, d1, d2, d3, d4, d5⟩ := hSw.cells; go_simp
  simp only [zA9, zB9, zC9]
  refine wpAnyH_done (by kernel_rfl) ?_ _
  refine NoPanic.normal ?_
  clear hH G1d
  go_wp2_with fail
  have G2d := mkHid (grTrans G1.out (gr_drew _))
  refine wp_region_noPanic ?_
  refine wp_region_held_drew (S := BxS w.heap.size fp fr pr 8 m n t B K) (by kernel_rfl) (HXW.out.grow G2d.out) (fun hH => ?_)
  refine tKx (i := 0) (v := .pointer (some ⟨pr, 0, none⟩)) rfl rfl (by kernel_rfl) (fun _ _ _ h => h) ?_ hH ?_
  · intro w5 hSw; obtain ⟨c0, c1, d1, d2, d3, d4, d5⟩ := hSw.cells; go_simp
  simp only [zA9, zB9, zC9]
  refine tKx (i := 1) (v := .pointer (some ⟨pr, 0, none⟩)) rfl rfl (by kernel_rfl) (fun _ _ _ h => h) ?_ hH ?_
  · intro w5 hSw; obtain ⟨c0, c1, d1, d2, d3, d4, d5⟩ := hSw.cells; go_simp
  simp only [zA9, zB9, zC9]
  refine tKx (i := 2) (v := .pointer (some ⟨pr, 1, none⟩)) rfl rfl (by kernel_rfl) (fun _ _ _ h => h) ?_ hH ?_
  · intro w5 hSw; obtain ⟨c0, c1, d1, d2, d3, d4, d5⟩ := hSw.cells; go_simp
  simp only [zA9, zB9, zC9]
  refine tKx (i := 3) (v := .pointer (some ⟨fr, 0, none⟩)) rfl rfl (by kernel_rfl) (fun _ _ _ h => h) ?_ hH ?_
  · intro w5 hSw; obtain ⟨c0, c1, d1, d2, d3, d4, d5⟩ := hSw.cells; go_simp
  simp only [zA9, zB9, zC9]
  refine tKx (i := 4) (v := .pointer (some ⟨w.heap.size, 1, none⟩)) rfl rfl (by kernel_rfl) (fun _ _ _ h => h) ?_ hH ?_
  · intro w5 hSw; obtain ⟨c0, c1, d1, d2, d3, d4, d5⟩ := hSw.cells; go_simp
  simp only [zA9, zB9, zC9]
  refine tKx (i := 5) (v := .string ⟨n.toArray⟩) rfl rfl (by kernel_rfl) (fun _ _ _ h => h) ?_ hH ?_
  · intro w5 hSw; obtain ⟨c0, c1, d1, d2, d3, d4, d5⟩ := hSw.cells; go_simp
  simp only [zA9, zB9, zC9]
  refine wpAnyH_ready (rs := [6]) (by kernel_rfl) (by simp) ?_
  refine AllReadyH.cons rfl (fun K hK => ?_) AllReadyH.nil
  go_simp
  go_at_call 44
  refine (HC2.out _ G2d.out).mono ?_
  rintro e w2 ⟨p2, c2, rfl, y2, n2, _, _, g2⟩
  have G2 := mkHid (grTrans G2d.out g2)
  have Y2 := mkHid y2
  have N2 := mkHid n2
  have A2 := mkHid (grTrans (gr_drew w1) g2)
  clear y2 n2
  clear g2
  go_wp2_with fail
  refine hK.out _ _ (HXW.out.grow G2.out) (fun hH => ?_)
  clear hK K
  refine tKx (i := 7) (v := .tuple #[.slice p2 R.length c2, .int .i64 E]) rfl rfl (by kernel_rfl) (fun _ _ _ h => h) ?_ hH ?_
  · intro w5 hSw; obtain ⟨c0, c1, d1, d2, d3, d4, d5⟩ := hSw.cells; go_simp
  simp only [zA9, zB9, zC9]
  refine tKx (i := 8) (v := .slice p2 R.length c2) rfl rfl (by kernel_rfl) (fun _ _ _ h => h) ?_ hH ?_
  · intro w5 hSw; obtain ⟨c0, c1, d1, d2, d3, d4, d5⟩ := hSw.cells; go_simp
  simp only [zA9, zB9, zC9]
  refine tKx (i := 9) (v := .int .i64 E) rfl rfl (by kernel_rfl) (fun _ _ _ h => h) ?_ hH ?_
  · intro w5 hSw; obtain ⟨c0, c1, d1, d2, d3, d4, d5⟩ := hSw.cells; go_simp
  simp only [zA9, zB9, zC9]
  refine tKx (i := 10) (v := .slice p2 R.length c2) rfl rfl (by kernel_rfl) (fun _ _ _ h => h) ?_ hH ?_
  · intro w5 hSw; obtain ⟨c0, c1, d1, d2, d3, d4, d5⟩ := hSw.cells; go_simp
  simp only [zA9, zB9, zC9]
  refine tKx (i := 11) (v := .int .i64 E) rfl rfl (by kernel_rfl) (fun _ _ _ h => h) ?_ hH ?_
  · intro w5 hSw; obtain ⟨c0, c1, d1, d2, d3, d4, d5⟩ := hSw.cells; go_simp
  simp only [zA9, zB9, zC9]
  refine wpAnyH_done (by kernel_rfl) ?_ _
  refine NoPanic.normal ?_
  clear hH G2d
  go_wp2_with fail
  have G3d := mkHid (grTrans G2.out (gr_drew _))
  refine wp_region_noPanic ?_
  refine wp_region_held_drew (S := BxS w.heap.size fp fr pr 8 m n t B K) (by kernel_rfl) (HXW.out.grow G3d.out) (fun hH => ?_)
  refine tKx (i := 0) (v := .pointer (some ⟨pr, 0, none⟩)) rfl rfl (by kernel_rfl) (fun _ _ _ h => h) ?_ hH ?_
  · intro w5 hSw; obtain ⟨c0, c1, d1, d2, d3, d4, d5⟩ := hSw.cells; go_simp
  simp only [zA9, zB9, zC9]
  refine tKx (i := 1) (v := .pointer (some ⟨pr, 0, none⟩)) rfl rfl (by kernel_rfl) (fun _ _ _ h => h) ?_ hH ?_
  · intro w5 hSw; obtain ⟨c0, c1, d1, d2, d3, d4, d5⟩ := hSw.cells; go_simp
  simp only [zA9, zB9, zC9]
  refine tKx (i := 2) (v := .pointer (some ⟨pr, 0, none⟩)) rfl rfl (by kernel_rfl) (fun _ _ _ h => h) ?_ hH ?_
  · intro w5 hSw; obtain ⟨c0, c1, d1, d2, d3, d4, d5⟩ := hSw.cells; go_simp
  simp only [zA9, zB9, zC9]
  refine tKx (i := 3) (v := .pointer (some ⟨fp, 0, none⟩)) rfl rfl (by kernel_rfl) (fun _ _ _ h => h) ?_ hH ?_
  · intro w5 hSw; obtain ⟨c0, c1, d1, d2, d3, d4, d5⟩ := hSw.cells; go_simp
  simp only [zA9, zB9, zC9]
  refine tKx (i := 4) (v := .pointer (some ⟨w.heap.size, 1, none⟩)) rfl rfl (by kernel_rfl) (fun _ _ _ h => h) ?_ hH ?_
  · intro w5 hSw; obtain ⟨c0, c1, d1, d2, d3, d4, d5⟩ := hSw.cells; go_simp
  simp only [zA9, zB9, zC9]
  refine tKx (i := 5) (v := .string ⟨n.toArray⟩) rfl rfl (by kernel_rfl) (fun _ _ _ h => h) ?_ hH ?_
  · intro w5 hSw; obtain ⟨c0, c1, d1, d2, d3, d4, d5⟩ := hSw.cells; go_simp
  simp only [zA9, zB9, zC9]
  refine wpAnyH_ready (rs := [6]) (by kernel_rfl) (by simp) ?_
  refine AllReadyH.cons rfl (fun K hK => ?_) AllReadyH.nil
  go_simp
  go_at_call 45
  refine (HC3.out _ G3d.out).mono ?_
  rintro e w3 ⟨rfl, g3⟩
  have G3 := mkHid (grTrans G3d.out g3)
  have A3 := mkHid (grTrans (gr_drew w2) g3)
  clear g3
  go_wp2_with fail
  refine hK.out _ _ (HXW.out.grow G3.out) (fun hH => ?_)
  clear hK K
  refine tKx (i := 7) (v := .tuple #[.int .i64 (R.length : Int), .int .i64 E]) rfl rfl (by kernel_rfl) (fun _ _ _ h => h) ?_ hH ?_
  · intro w5 hSw; obtain ⟨c0, c1, d1, d2, d3, d4, d5⟩ := hSw.cells; go_simp
  simp only [zA9, zB9, zC9]
  refine tKx (i := 8) (v := .int .i64 (R.length : Int)) rfl rfl (by kernel_rfl) (fun _ _ _ h => h) ?_ hH ?_
  · intro w5 hSw; obtain ⟨c0, c1, d1, d2, d3, d4, d5⟩ := hSw.cells; go_simp
  simp only [zA9, zB9, zC9]
  refine tKx (i := 9) (v := .int .i64 E) rfl rfl (by kernel_rfl) (fun _ _ _ h => h) ?_ hH ?_
  · intro w5 hSw; obtain ⟨c0, c1, d1, d2, d3, d4, d5⟩ := hSw.cells; go_simp
  simp only [zA9, zB9, zC9]
  refine tKx (i := 10) (v := .int .i64 (R.length : Int)) rfl rfl (by kernel_rfl) (fun _ _ _ h => h) ?_ hH ?_
  · intro w5 hSw; obtain ⟨c0, c1, d1, d2, d3, d4, d5⟩ := hSw.cells; go_simp
  simp only [zA9, zB9, zC9]
  refine tKx (i := 11) (v := .int .i64 E) rfl rfl (by kernel_rfl) (fun _ _ _ h => h) ?_ hH ?_
  · intro w5 hSw; obtain ⟨c0, c1, d1, d2, d3, d4, d5⟩ := hSw.cells; go_simp
  simp only [zA9, zB9, zC9]
  refine wpAnyH_done (by kernel_rfl) ?_ _
  refine NoPanic.normal ?_
  clear hH G3d
  go_wp2_with fail
  have G4d := mkHid (grTrans G3.out (gr_drew _))
  refine wp_region_noPanic ?_
  refine wp_region_held_drew (S := BxS w.heap.size fp fr pr 8 m n t B K) (by kernel_rfl) (HXW.out.grow G4d.out) (fun hH => ?_)
  refine tKx (i := 0) (v := .pointer (some ⟨pr, 0, none⟩)) rfl rfl (by kernel_rfl) (fun _ _ _ h => h) ?_ hH ?_
  · intro w5 hSw; obtain ⟨c0, c1, d1, d2, d3, d4, d5⟩ := hSw.cells; go_simp
  simp only [zA9, zB9, zC9]
  refine tKx (i := 1) (v := .pointer (some ⟨pr, 0, none⟩)) rfl rfl (by kernel_rfl) (fun _ _ _ h => h) ?_ hH ?_
  · intro w5 hSw; obtain ⟨c0, c1, d1, d2, d3, d4, d5⟩ := hSw.cells; go_simp
  simp only [zA9, zB9, zC9]
  refine tKx (i := 2) (v := .pointer (some ⟨pr, 0, none⟩)) rfl rfl (by kernel_rfl) (fun _ _ _ h => h) ?_ hH ?_
  · intro w5 hSw; obtain ⟨c0, c1, d1, d2, d3, d4, d5⟩ := hSw.cells; go_simp
  simp only [zA9, zB9, zC9]
  refine tKx (i := 3) (v := .pointer (some ⟨fp, 0, none⟩)) rfl rfl (by kernel_rfl) (fun _ _ _ h => h) ?_ hH ?_
  · intro w5 hSw; obtain ⟨c0, c1, d1, d2, d3, d4, d5⟩ := hSw.cells; go_simp
  simp only [zA9, zB9, zC9]
  refine tKx (i := 4) (v := .pointer (some ⟨w.heap.size, 1, none⟩)) rfl rfl (by kernel_rfl) (fun _ _ _ h => h) ?_ hH ?_
  · intro w5 hSw; obtain ⟨c0, c1, d1, d2, d3, d4, d5⟩ := hSw.cells; go_simp
  simp only [zA9, zB9, zC9]
  refine tKx (i := 5) (v := .string ⟨n.toArray⟩) rfl rfl (by kernel_rfl) (fun _ _ _ h => h) ?_ hH ?_
  · intro w5 hSw; obtain ⟨c0, c1, d1, d2, d3, d4, d5⟩ := hSw.cells; go_simp
  simp only [zA9, zB9, zC9]
  refine wpAnyH_ready (rs := [6]) (by kernel_rfl) (by simp) ?_
  refine AllReadyH.cons rfl (fun K hK => ?_) AllReadyH.nil
  go_simp
  go_at_call 46
  refine (HC4.out _ G4d.out).mono ?_
  rintro e w4 ⟨rfl, g4⟩
  have G4 := mkHid (grTrans G4d.out g4)
  have A4 := mkHid (grTrans A3.out (grTrans (gr_drew w3) g4))
  clear g4
  go_wp2_with fail
  refine hK.out _ _ (HXW.out.grow G4.out) (fun hH => ?_)
  clear hK K
  refine tKx (i := 7) (v := .tuple #[.int .i64 (Fa : Int), .int .i64 E]) rfl rfl (by kernel_rfl) (fun _ _ _ h => h) ?_ hH ?_
  · intro w5 hSw; obtain ⟨c0, c1, d1, d2, d3, d4, d5⟩ := hSw.cells; go_simp
  simp only [zA9, zB9, zC9]
  refine tKx (i := 8) (v := .int .i64 (Fa : Int)) rfl rfl (by kernel_rfl) (fun _ _ _ h => h) ?_ hH ?_
  · intro w5 hSw; obtain ⟨c0, c1, d1, d2, d3, d4, d5⟩ := hSw.cells; go_simp
  simp only [zA9, zB9, zC9]
  refine tKx (i := 9) (v := .int .i64 E) rfl rfl (by kernel_rfl) (fun _ _ _ h => h) ?_ hH ?_
  · intro w5 hSw; obtain ⟨c0, c1, d1, d2, d3, d4, d5⟩ := hSw.cells; go_simp
  simp only [zA9, zB9, zC9]
  refine tKx (i := 10) (v := .int .i64 (Fa : Int)) rfl rfl (by kernel_rfl) (fun _ _ _ h => h) ?_ hH ?_
  · intro w5 hSw; obtain ⟨c0, c1, d1, d2, d3, d4, d5⟩ := hSw.cells; go_simp
  simp only [zA9, zB9, zC9]
  refine tKx (i := 11) (v := .int .i64 E) rfl rfl (by kernel_rfl) (fun _ _ _ h => h) ?_ hH ?_
  · intro w5 hSw; obtain ⟨c0, c1, d1, d2, d3, d4, d5⟩ := hSw.cells; go_simp
  simp only [zA9, zB9, zC9]
  refine wpAnyH_done (by kernel_rfl) ?_ _
  refine NoPanic.normal ?_
  clear hH G4d
  go_wp2_with fail
  have G5d := mkHid (grTrans G4.out (gr_drew _))
  refine wp_region_noPanic ?_
  refine wp_region_held_drew (S := BxS w.heap.size fp fr pr 8 m n t B K) (by kernel_rfl) (HXW.out.grow G5d.out) (fun hH => ?_)
  refine tKx (i := 0) (v := .pointer (some ⟨pr, 0, none⟩)) rfl rfl (by kernel_rfl) (fun _ _ _ h => h) ?_ hH ?_
  · intro w5 hSw; obtain ⟨c0, c1, d1, d2, d3, d4, d5⟩ := hSw.cells; go_simp
  simp only [zA9, zB9, zC9]
  refine tKx (i := 1) (v := .pointer (some ⟨pr, 0, none⟩)) rfl rfl (by kernel_rfl) (fun _ _ _ h => h) ?_ hH ?_
  · intro w5 hSw; obtain ⟨c0, c1, d1, d2, d3, d4, d5⟩ := hSw.cells; go_simp
  simp only [zA9, zB9, zC9]
  refine tKx (i := 2) (v := .pointer (some ⟨pr, 1, none⟩)) rfl rfl (by kernel_rfl) (fun _ _ _ h => h) ?_ hH ?_
  · intro w5 hSw; obtain ⟨c0, c1, d1, d2, d3, d4, d5⟩ := hSw.cells; go_simp
  simp only [zA9, zB9, zC9]
  refine tKx (i := 3) (v := .pointer (some ⟨fr, 0, none⟩)) rfl rfl (by kernel_rfl) (fun _ _ _ h => h) ?_ hH ?_
  · intro w5 hSw; obtain ⟨c0, c1, d1, d2, d3, d4, d5⟩ := hSw.cells; go_simp
  simp only [zA9, zB9, zC9]
  refine tKx (i := 4) (v := .pointer (some ⟨w.heap.size, 1, none⟩)) rfl rfl (by kernel_rfl) (fun _ _ _ h => h) ?_ hH ?_
  · intro w5 hSw; obtain ⟨c0, c1, d1, d2, d3, d4, d5⟩ := hSw.cells; go_simp
  simp only [zA9, zB9, zC9]
  refine tKx (i := 5) (v := .string ⟨n.toArray⟩) rfl rfl (by kernel_rfl) (fun _ _ _ h => h) ?_ hH ?_
  · intro w5 hSw; obtain ⟨c0, c1, d1, d2, d3, d4, d5⟩ := hSw.cells; go_simp
  simp only [zA9, zB9, zC9]
  refine wpAnyH_ready (rs := [6]) (by kernel_rfl) (by simp) ?_
  refine AllReadyH.cons rfl (fun K hK => ?_) AllReadyH.nil
  go_simp
  go_at_call 47
  refine (HC5.out _ G5d.out).mono ?_
  rintro e w5 ⟨rfl, g5⟩
  have G5 := mkHid (grTrans G5d.out g5)
  have A5 := mkHid (grTrans A4.out (grTrans (gr_drew w4) g5))
  have cv1 := conv_own (ownG O1.out (grTrans A2.out A5.out))
  have cv2 := conv_by (Y2.out.kept A5.out) N2.out
  clear g5
  go_wp2_with fail
  refine hK.out _ _ (HXW.out.grow G5.out) (fun hH => ?_)
  clear hK K
  refine tKx (i := 7) (v := .tuple #[.int .i64 (Fa : Int), .int .i64 E]) rfl rfl (by kernel_rfl) (fun _ _ _ h => h) ?_ hH ?_
  · intro w5 hSw; obtain ⟨c0, c1, d1, d2, d3, d4, d5⟩ := hSw.cells; go_simp
  simp only [zA9, zB9, zC9]
  refine tKx (i := 8) (v := .int .i64 (Fa : Int)) rfl rfl (by kernel_rfl) (fun _ _ _ h => h) ?_ hH ?_
  · intro w5 hSw; obtain ⟨c0, c1, d1, d2, d3, d4, d5⟩ := hSw.cells; go_simp
  simp only [zA9, zB9, zC9]
  refine tKx (i := 9) (v := .int .i64 E) rfl rfl (by kernel_rfl) (fun _ _ _ h => h) ?_ hH ?_
  · intro w5 hSw; obtain ⟨c0, c1, d1, d2, d3, d4, d5⟩ := hSw.cells; go_simp
  simp only [zA9, zB9, zC9]
  refine tKx (i := 10) (v := .int .i64 (Fa : Int)) rfl rfl (by kernel_rfl) (fun _ _ _ h => h) ?_ hH ?_
  · intro w5 hSw; obtain ⟨c0, c1, d1, d2, d3, d4, d5⟩ := hSw.cells; go_simp
  simp only [zA9, zB9, zC9]
  refine tKx (i := 11) (v := .int .i64 E) rfl rfl (by kernel_rfl) (fun _ _ _ h => h) ?_ hH ?_
  · intro w5 hSw; obtain ⟨c0, c1, d1, d2, d3, d4, d5⟩ := hSw.cells; go_simp
  simp only [zA9, zB9, zC9]
  refine wpAnyH_done (by kernel_rfl) ?_ _
  refine NoPanic.normal ?_
  clear hH G5d
  go_wp2_with fail
  have SP := mkHid (spoil_any W.drew.heap.size (.slice P1 R.length C1) R w5 (ownG O1.out (grTrans A2.out A5.out)) hRl G5.out.size)
  refine SP.out.mono ?_
  rintro e w6 ⟨rfl, hk6⟩
  have SB := Both.spoilt HB0.out G5.out hk6 (fun i hi => by
    cases P1 with
    | none => cases hi
    | some a => cases hi; exact ((own_by O1.out).2.2.2 a rfl).1)
  have RR : Hid (DoesQ P w base fp fr pr (N + 1) w6) := ⟨P, s, SB.1.more (by omega) (by omega), HL0.out.trans SB.2, does_chg1 (grTrans HGW0.out G5.out) (Chg.refl P w5) hk6 (fun i hi => by
    cases P1 with
    | none => cases hi
    | some a => cases hi; exact Nat.le_trans HGW0.out.size ((own_by O1.out).2.2.2 a rfl).1) (Keep.refl fr w6), fun i hi => Or.inl hi⟩
  clear SB hk6 SP
  go_wp2_with fail
  go_ret
  exact ⟨rfl, RR.out⟩
/-- a call, as it lies in memory -/
structure AcV where
  k : Int
  m : Int
  n : List UInt8
  t : List UInt8
  b : List UInt8
  pb : Option Addr
  cb : Nat
  ks : List Int
  pk : Option Addr
  ck : Nat
def AcV.val (a : AcV) : Value := .agg #[.int .i64 a.k, .string ⟨a.n.toArray⟩, .string ⟨a.t.toArray⟩, .slice a.pb a.b.length a.cb, .int .i64 a.m, .slice a.pk a.ks.length a.ck]
structure AcV.ok (a : AcV) (w : World) (base : Nat) : Prop where
  m : -9223372036854775808 ≤ a.m ∧ a.m ≤ 9223372036854775807
  n : a.n.length ≤ 1000000000
  t : a.t.length ≤ 1000000000
  b : byIn w a.pb a.b
  bb : a.b ≠ [] → ∀ x, a.pb = some x → x.block < base
  bc : a.pb = none → a.cb = 0
  bl : a.b.length ≤ a.cb
  bm : a.b.length ≤ 10000000
  k : intIn w a.pk a.ks
  kb : a.ks ≠ [] → ∀ x, a.pk = some x → x.block < base
  kc : a.pk = none → a.ck = 0 ∧ a.ks = []
  kr : ∀ x ∈ a.ks, -9223372036854775808 ≤ x ∧ x ≤ 9223372036854775807
  kl : a.ks.length ≤ 1000000000
theorem Does_any {P : Nat → Prop} {w : World} {base fp fr pr N : Nat} {s : St} (h : Both P w base fp fr pr s N) (hN : N < 2000000) (a : AcV) (ha : a.ok w base) :
    Calls Try.prog 10 #[.pointer (some ⟨pr, 0, none⟩), a.val] w fun e w' => e = .returned (.bool true) ∧ DoesQ P w base fp fr pr (N + 1) w' := by
  obtain ⟨k, m, n, t, b, pb, cb, ks, pk, ck⟩ := a
  obtain ⟨hm, hn, ht, hb, hbb, hbc, hbl, hbm, hk, hkb, hkc, hkr, hkl⟩ := ha
  unfold AcV.val
  by_cases k0 : k = 0
  · subst k0; exact Does_0 h hN n t _ _ m hn
  by_cases k1 : k = 1
  · subst k1; exact Does_1 h hN n t _ m b pb cb hn hb hbb hbc hbl hbm
  by_cases k2 : k = 2
  · subst k2; exact Does_2 h hN n t _ _ m hn
  by_cases k3 : k = 3
  · subst k3; exact Does_3 h hN n t _ _ m hn ht
  by_cases k4 : k = 4
  · subst k4; exact Does_4 h hN n t _ _ m hn
  by_cases k5 : k = 5
  · subst k5; exact Does_5 h hN n t _ _ m hn
  by_cases k6 : k = 6
  · subst k6; exact Does_6 h hN n t _ _ m
  by_cases k7 : k = 7
  · subst k7; exact Does_7 h hN n t _ m hm ks pk ck hk hkb hkc hkr hkl
  by_cases k8 : k = 8
  · subst k8; exact Does_8 h hN n t _ _ m hn
  by_cases k10 : k = 10
  · subst k10; exact Does_10 h hN n t _ _ m hm
  exact Does_else h hN n t _ _ m k k0 k1 k2 k3 k4 k5 k6 k7 k8 k10
end Go.Proofs.Ytdiehlioemmakaa

