/-
 The document's Holds and Range.
-/
import Derived.Test.YtclcajnodoifjaaGreatDoorIAV
namespace Go.Proofs.YtclcajnodoifjaaGreatDoor
open Go.RowKit Go.Shelf Go.Joins Go.Maps
set_option maxRecDepth 100000

/-- whether a key lies between two ends, by how it stands to them -/
def hol (L1 L2 : Nat) (B1 B2 : Int) (li hi : Bool) : Bool := (decide (L1 = 0) || decide (0 < B1) || (li && decide (B1 = 0))) && (decide (L2 = 0) || decide (B2 < 0) || (hi && decide (B2 = 0)))
set_option maxHeartbeats 8000000 in
set_option maxRecDepth 1000000 in
theorem Holds_off (P1 P2 : Option Addr) (C1 C2 : Nat) (low high : List Va) (li hi : Bool) (e : En) (g c : Nat) (w : World) (h1 : rowOff w P1 low) (h2 : rowOff w P2 high) (y1 : ∀ v ∈ low, fit v.n) (y2 : ∀ v ∈ high, fit v.n) (hk : rowAt w (some ⟨g, 0, none⟩) e.key) (hl : e.key.length ≤ 1000) (hc : e.key.length ≤ c) (fk : ∀ v ∈ e.key, fit v.n) :
  Calls Tryz.prog 59 #[.agg #[.slice P1 low.length C1, .slice P2 high.length C2, .bool li, .bool hi], .slice (some ⟨g, 0, none⟩) e.key.length c] w fun r w' => r = .returned (.bool (loB low li e && hiB high hi e)) ∧ Below w.heap.size w w' := by
 obtain ⟨L1, hL1⟩ : ∃ L1, L1 = low.length := ⟨_, rfl⟩
 obtain ⟨L2, hL2⟩ : ∃ L2, L2 = high.length := ⟨_, rfl⟩
 obtain ⟨K, hK⟩ : ∃ K, K = e.key.length := ⟨_, rfl⟩
 obtain ⟨w0, hw0⟩ : ∃ w0, w0 = w.alloc (.cells #[.slice P1 L1 C1, .slice P2 L2 C2, .bool li, .bool hi] 33) := ⟨_, rfl⟩
 have d0 : w0.heap[w.heap.size]? = some (.cells #[.slice P1 L1 C1, .slice P2 L2 C2, .bool li, .bool hi] 33 (0, 0)) := by rw [hw0]; exact heap_alloc_new _ _
 have bb : Below w.heap.size w w0 := by rw [hw0]; exact (Below.refl _ w).alloc (Nat.le_refl _) _
 have KS : Hid (∀ W, Below w0.heap.size w0 W → (fun w' : World => w'.cell? ⟨w.heap.size, 0, none⟩ = some (.slice P1 L1 C1) ∧ w'.cell? ⟨w.heap.size, 1, none⟩ = some (.slice P2 L2 C2) ∧ w'.cell? ⟨w.heap.size, 2, none⟩ = some (.bool li) ∧ w'.cell? ⟨w.heap.size, 3, none⟩ = some (.bool hi)) W) := fun W hW => by
  have d := (hW.block _ (lt_of_heap d0)).trans d0
  exact ⟨(cell_of_block d 0).trans rfl, (cell_of_block d 1).trans rfl, (cell_of_block d 2).trans rfl, (cell_of_block d 3).trans rfl⟩
 have HD : Hid (∀ p n d w, Calls Tryz.prog 83 #[.slice (some ⟨g, 0, none⟩) K c, .slice p n d] w fun e w' => e = .returned (.slice (some ⟨g, 0, none⟩) (min n K) c) ∧ w' = w) := fun p n d w => head_any g K c p n d w (by omega)
 have RW1 : Hid (∀ W, Below w0.heap.size w0 W → Calls Tryz.prog 18 #[.slice (some ⟨g, 0, none⟩) (min L1 K) c, .slice P1 L1 C1] W fun r w' => r = .returned (.int .i64 (begV e.key low)) ∧ Below W.heap.size W w') := fun W hW => by
  have := refRows_off (some ⟨g, 0, none⟩) P1 c C1 (e.key.take low.length) low W (by rw [List.length_take]; omega) (((hk.below bb).below hW).take _) ((h1.below bb).below hW) (fun v hv => fk v (List.mem_of_mem_take hv)) y1
  rw [List.length_take, ← hL1, ← hK] at this
  unfold begV
  rw [← hL1]
  exact this
 have RW2 : Hid (∀ W, Below w0.heap.size w0 W → Calls Tryz.prog 18 #[.slice (some ⟨g, 0, none⟩) (min L2 K) c, .slice P2 L2 C2] W fun r w' => r = .returned (.int .i64 (begV e.key high)) ∧ Below W.heap.size W w') := fun W hW => by
  have := refRows_off (some ⟨g, 0, none⟩) P2 c C2 (e.key.take high.length) high W (by rw [List.length_take]; omega) (((hk.below bb).below hW).take _) ((h2.below bb).below hW) (fun v hv => fk v (List.mem_of_mem_take hv)) y2
  rw [List.length_take, ← hL2, ← hK] at this
  unfold begV
  rw [← hL2]
  exact this
 obtain ⟨E, hE⟩ : ∃ E, E = (loB low li e && hiB high hi e) := ⟨_, rfl⟩
 obtain ⟨B1, hB1⟩ : ∃ B, B = begV e.key low := ⟨_, rfl⟩
 obtain ⟨B2, hB2⟩ : ∃ B, B = begV e.key high := ⟨_, rfl⟩
 have HE : Hid (E = hol L1 L2 B1 B2 li hi) := by
  show _ = _
  rw [hE, hL1, hL2, hB1, hB2]
  rfl
 rw [← hB1] at RW1
 rw [← hB2] at RW2
 rw [← hE, ← hL1, ← hL2, ← hK]
 have BB := mkHid bb
 have HW0 := mkHid hw0
 have B0 : Hid (Below w0.heap.size w0 w0) := Below.refl _ _
 clear h1 h2 y1 y2 hk hl hc fk hL1 hL2 hK d0 bb hE hB1 hB2 hw0
 go_enter Tryz.func59, Tryz.ntmps59
 go_upto_region 1 with fail
 rw [← HW0.out]
 clear HW0
 by_cases z1 : L1 = 0
 ·have zn1 : ¬ ((L1 : Int) > 0) := by omega
  have DZ1 : Hid (decide (L1 = 0) = true) := decide_eq_true z1
  clear z1
  obtain ⟨q0, q1, q2, q3⟩ := KS.out _ B0.out
  by_cases z2 : L2 = 0
  ·have zn2 : ¬ ((L2 : Int) > 0) := by omega
   have DZ2 : Hid (decide (L2 = 0) = true) := decide_eq_true z2
   clear z2
   obtain ⟨q0, q1, q2, q3⟩ := KS.out _ B0.out
   have FX : Hid (E = true) := by show E = _; rw [HE.out]; unfold hol; simp [DZ1.out, DZ2.out]
   go_wp2_with fail
   go_ret
   exact ⟨by rw [FX.out]; rfl, BB.out.trans (B0.out.mono BB.out.size)⟩
  ·have zp2 : (L2 : Int) > 0 := by omega
   have DZ2 : Hid (decide (L2 = 0) = false) := decide_eq_false z2
   clear z2
   obtain ⟨q0, q1, q2, q3⟩ := KS.out _ B0.out
   go_wp2_with fail
   refine wp_region_noPanic ?_
   refine wp_region_held_drew (S := fun w' : World => w'.cell? ⟨w.heap.size, 0, none⟩ = some (.slice P1 L1 C1) ∧ w'.cell? ⟨w.heap.size, 1, none⟩ = some (.slice P2 L2 C2) ∧ w'.cell? ⟨w.heap.size, 2, none⟩ = some (.bool li) ∧ w'.cell? ⟨w.heap.size, 3, none⟩ = some (.bool hi)) (by kernel_rfl) (KS.out _ B0.out.drew) (fun hH => ?_)
   refine tKx (i := 0) (v := .slice (some ⟨g, 0, none⟩) K c) rfl rfl (by kernel_rfl) (fun _ _ _ h => h) ?_ hH ?_
   ·intro w5 hSw; obtain ⟨s0, s1, s2, s3⟩ := hSw; go_simp
   simp only [zA9, zB9, zC9]
   refine tKx (i := 1) (v := .pointer (some ⟨w.heap.size, 1, none⟩)) rfl rfl (by kernel_rfl) (fun _ _ _ h => h) ?_ hH ?_
   ·intro w5 hSw; obtain ⟨s0, s1, s2, s3⟩ := hSw; go_simp
   simp only [zA9, zB9, zC9]
   refine tKx (i := 2) (v := .slice P2 L2 C2) rfl rfl (by kernel_rfl) (fun _ _ _ h => h) ?_ hH ?_
   ·intro w5 hSw; obtain ⟨s0, s1, s2, s3⟩ := hSw; go_simp
   simp only [zA9, zB9, zC9]
   refine tKx (i := 4) (v := .pointer (some ⟨w.heap.size, 1, none⟩)) rfl rfl (by kernel_rfl) (fun _ _ _ h => h) ?_ hH ?_
   ·intro w5 hSw; obtain ⟨s0, s1, s2, s3⟩ := hSw; go_simp
   simp only [zA9, zB9, zC9]
   refine tKx (i := 5) (v := .slice P2 L2 C2) rfl rfl (by kernel_rfl) (fun _ _ _ h => h) ?_ hH ?_
   ·intro w5 hSw; obtain ⟨s0, s1, s2, s3⟩ := hSw; go_simp
   simp only [zA9, zB9, zC9]
   refine wpAnyH_ready (rs := [3]) (by kernel_rfl) (by simp) ?_
   refine AllReadyH.cons rfl (fun K hK => ?_) AllReadyH.nil
   go_simp
   go_at_call 83
   refine (HD.out P2 L2 C2 _).mono ?_
   rintro e v9 ⟨rfl, hv9⟩
   subst hv9
   go_wp2_with fail
   refine hK.out _ _ hH (fun hH => ?_)
   clear hK K
   refine wpAnyH_ready (rs := [6]) (by kernel_rfl) (by simp) ?_
   refine AllReadyH.cons rfl (fun K hK => ?_) AllReadyH.nil
   go_simp
   go_at_call 18
   refine (RW2.out _ (B0.out.drew)).mono ?_
   rintro e wc ⟨rfl, b9⟩
   have Bwc : Hid (Below w0.heap.size w0 wc) := (B0.out.drew).trans (b9.mono (B0.out.drew).size)
   clear b9
   go_wp2_with fail
   refine hK.out _ _ (KS.out _ Bwc.out) (fun hH => ?_)
   clear hK K
   refine tKx (i := 7) (v := .int .i64 B2) rfl rfl (by kernel_rfl) (fun _ _ _ h => h) ?_ hH ?_
   ·intro w5 hSw; obtain ⟨s0, s1, s2, s3⟩ := hSw; go_simp
   simp only [zA9, zB9, zC9]
   refine wpAnyH_done (by kernel_rfl) ?_ _
   refine NoPanic.normal ?_
   clear hH
   obtain ⟨q0, q1, q2, q3⟩ := KS.out _ Bwc.out
   by_cases s2 : B2 > 0
   ·have DP2 : Hid (decide (B2 < 0) = false) := decide_eq_false (by omega)
    have DE2 : Hid (decide (B2 = 0) = false) := decide_eq_false (by omega)
    have FX : Hid (E = false) := by show E = _; rw [HE.out]; unfold hol; simp [DZ1.out, DZ2.out, DP2.out, DE2.out]
    go_wp2_with fail
    go_ret
    exact ⟨by rw [FX.out]; rfl, BB.out.trans (Bwc.out.mono BB.out.size)⟩
   ·by_cases e2 : B2 = 0
    ·have u2 : (B2 == 0) = true := by rw [beq_iff_eq]; exact e2
     have DP2 : Hid (decide (B2 < 0) = false) := decide_eq_false (by omega)
     have DE2 : Hid (decide (B2 = 0) = true) := decide_eq_true (by omega)
     clear e2
     rcases Bool.eq_false_or_eq_true hi with hb2 | hb2
     ·rw [hb2] at q3
      have DI2 : Hid (hi = true) := hb2
      clear hb2
      have FX : Hid (E = true) := by show E = _; rw [HE.out]; unfold hol; simp [DZ1.out, DZ2.out, DP2.out, DE2.out, DI2.out]
      go_wp2_with fail
      go_ret
      exact ⟨by rw [FX.out]; rfl, BB.out.trans (Bwc.out.mono BB.out.size)⟩
     ·rw [hb2] at q3
      have DI2 : Hid (hi = false) := hb2
      clear hb2
      have FX : Hid (E = false) := by show E = _; rw [HE.out]; unfold hol; simp [DZ1.out, DZ2.out, DP2.out, DE2.out, DI2.out]
      go_wp2_with fail
      go_ret
      exact ⟨by rw [FX.out]; rfl, BB.out.trans (Bwc.out.mono BB.out.size)⟩
    ·have u2 : (B2 == 0) = false := by rw [beq_eq_false_iff_ne]; exact e2
     have DP2 : Hid (decide (B2 < 0) = true) := decide_eq_true (by omega)
     have DE2 : Hid (decide (B2 = 0) = false) := decide_eq_false (by omega)
     clear e2
     have FX : Hid (E = true) := by show E = _; rw [HE.out]; unfold hol; simp [DZ1.out, DZ2.out, DP2.out, DE2.out]
     go_wp2_with fail
     go_ret
     exact ⟨by rw [FX.out]; rfl, BB.out.trans (Bwc.out.mono BB.out.size)⟩
 ·have zp1 : (L1 : Int) > 0 := by omega
  have DZ1 : Hid (decide (L1 = 0) = false) := decide_eq_false z1
  clear z1
  obtain ⟨q0, q1, q2, q3⟩ := KS.out _ B0.out
  go_wp2_with fail
  refine wp_region_noPanic ?_
  refine wp_region_held_drew (S := fun w' : World => w'.cell? ⟨w.heap.size, 0, none⟩ = some (.slice P1 L1 C1) ∧ w'.cell? ⟨w.heap.size, 1, none⟩ = some (.slice P2 L2 C2) ∧ w'.cell? ⟨w.heap.size, 2, none⟩ = some (.bool li) ∧ w'.cell? ⟨w.heap.size, 3, none⟩ = some (.bool hi)) (by kernel_rfl) (KS.out _ B0.out.drew) (fun hH => ?_)
  refine tKx (i := 0) (v := .slice (some ⟨g, 0, none⟩) K c) rfl rfl (by kernel_rfl) (fun _ _ _ h => h) ?_ hH ?_
  ·intro w5 hSw; obtain ⟨s0, s1, s2, s3⟩ := hSw; go_simp
  simp only [zA9, zB9, zC9]
  refine tKx (i := 1) (v := .pointer (some ⟨w.heap.size, 0, none⟩)) rfl rfl (by kernel_rfl) (fun _ _ _ h => h) ?_ hH ?_
  ·intro w5 hSw; obtain ⟨s0, s1, s2, s3⟩ := hSw; go_simp
  simp only [zA9, zB9, zC9]
  refine tKx (i := 2) (v := .slice P1 L1 C1) rfl rfl (by kernel_rfl) (fun _ _ _ h => h) ?_ hH ?_
  ·intro w5 hSw; obtain ⟨s0, s1, s2, s3⟩ := hSw; go_simp
  simp only [zA9, zB9, zC9]
  refine tKx (i := 4) (v := .pointer (some ⟨w.heap.size, 0, none⟩)) rfl rfl (by kernel_rfl) (fun _ _ _ h => h) ?_ hH ?_
  ·intro w5 hSw; obtain ⟨s0, s1, s2, s3⟩ := hSw; go_simp
  simp only [zA9, zB9, zC9]
  refine tKx (i := 5) (v := .slice P1 L1 C1) rfl rfl (by kernel_rfl) (fun _ _ _ h => h) ?_ hH ?_
  ·intro w5 hSw; obtain ⟨s0, s1, s2, s3⟩ := hSw; go_simp
  simp only [zA9, zB9, zC9]
  refine wpAnyH_ready (rs := [3]) (by kernel_rfl) (by simp) ?_
  refine AllReadyH.cons rfl (fun K hK => ?_) AllReadyH.nil
  go_simp
  go_at_call 83
  refine (HD.out P1 L1 C1 _).mono ?_
  rintro e v9 ⟨rfl, hv9⟩
  subst hv9
  go_wp2_with fail
  refine hK.out _ _ hH (fun hH => ?_)
  clear hK K
  refine wpAnyH_ready (rs := [6]) (by kernel_rfl) (by simp) ?_
  refine AllReadyH.cons rfl (fun K hK => ?_) AllReadyH.nil
  go_simp
  go_at_call 18
  refine (RW1.out _ (B0.out.drew)).mono ?_
  rintro e wb ⟨rfl, b9⟩
  have Bwb : Hid (Below w0.heap.size w0 wb) := (B0.out.drew).trans (b9.mono (B0.out.drew).size)
  clear b9
  go_wp2_with fail
  refine hK.out _ _ (KS.out _ Bwb.out) (fun hH => ?_)
  clear hK K
  refine tKx (i := 7) (v := .int .i64 B1) rfl rfl (by kernel_rfl) (fun _ _ _ h => h) ?_ hH ?_
  ·intro w5 hSw; obtain ⟨s0, s1, s2, s3⟩ := hSw; go_simp
  simp only [zA9, zB9, zC9]
  refine wpAnyH_done (by kernel_rfl) ?_ _
  refine NoPanic.normal ?_
  clear hH
  obtain ⟨q0, q1, q2, q3⟩ := KS.out _ Bwb.out
  by_cases s1 : B1 < 0
  ·have DP1 : Hid (decide (0 < B1) = false) := decide_eq_false (by omega)
   have DE1 : Hid (decide (B1 = 0) = false) := decide_eq_false (by omega)
   have FX : Hid (E = false) := by show E = _; rw [HE.out]; unfold hol; simp [DZ1.out, DP1.out, DE1.out]
   go_wp2_with fail
   go_ret
   exact ⟨by rw [FX.out]; rfl, BB.out.trans (Bwb.out.mono BB.out.size)⟩
  ·by_cases e1 : B1 = 0
   ·have u1 : (B1 == 0) = true := by rw [beq_iff_eq]; exact e1
    have DP1 : Hid (decide (0 < B1) = false) := decide_eq_false (by omega)
    have DE1 : Hid (decide (B1 = 0) = true) := decide_eq_true (by omega)
    clear e1
    rcases Bool.eq_false_or_eq_true li with hb1 | hb1
    ·rw [hb1] at q2
     have DI1 : Hid (li = true) := hb1
     clear hb1
     by_cases z2 : L2 = 0
     ·have zn2 : ¬ ((L2 : Int) > 0) := by omega
      have DZ2 : Hid (decide (L2 = 0) = true) := decide_eq_true z2
      clear z2
      obtain ⟨q0, q1, q2, q3⟩ := KS.out _ Bwb.out
      have FX : Hid (E = true) := by show E = _; rw [HE.out]; unfold hol; simp [DZ1.out, DP1.out, DE1.out, DI1.out, DZ2.out]
      go_wp2_with fail
      go_ret
      exact ⟨by rw [FX.out]; rfl, BB.out.trans (Bwb.out.mono BB.out.size)⟩
     ·have zp2 : (L2 : Int) > 0 := by omega
      have DZ2 : Hid (decide (L2 = 0) = false) := decide_eq_false z2
      clear z2
      obtain ⟨q0, q1, q2, q3⟩ := KS.out _ Bwb.out
      go_wp2_with fail
      refine wp_region_noPanic ?_
      refine wp_region_held_drew (S := fun w' : World => w'.cell? ⟨w.heap.size, 0, none⟩ = some (.slice P1 L1 C1) ∧ w'.cell? ⟨w.heap.size, 1, none⟩ = some (.slice P2 L2 C2) ∧ w'.cell? ⟨w.heap.size, 2, none⟩ = some (.bool li) ∧ w'.cell? ⟨w.heap.size, 3, none⟩ = some (.bool hi)) (by kernel_rfl) (KS.out _ Bwb.out.drew) (fun hH => ?_)
      refine tKx (i := 0) (v := .slice (some ⟨g, 0, none⟩) K c) rfl rfl (by kernel_rfl) (fun _ _ _ h => h) ?_ hH ?_
      ·intro w5 hSw; obtain ⟨s0, s1, s2, s3⟩ := hSw; go_simp
      simp only [zA9, zB9, zC9]
      refine tKx (i := 1) (v := .pointer (some ⟨w.heap.size, 1, none⟩)) rfl rfl (by kernel_rfl) (fun _ _ _ h => h) ?_ hH ?_
      ·intro w5 hSw; obtain ⟨s0, s1, s2, s3⟩ := hSw; go_simp
      simp only [zA9, zB9, zC9]
      refine tKx (i := 2) (v := .slice P2 L2 C2) rfl rfl (by kernel_rfl) (fun _ _ _ h => h) ?_ hH ?_
      ·intro w5 hSw; obtain ⟨s0, s1, s2, s3⟩ := hSw; go_simp
      simp only [zA9, zB9, zC9]
      refine tKx (i := 4) (v := .pointer (some ⟨w.heap.size, 1, none⟩)) rfl rfl (by kernel_rfl) (fun _ _ _ h => h) ?_ hH ?_
      ·intro w5 hSw; obtain ⟨s0, s1, s2, s3⟩ := hSw; go_simp
      simp only [zA9, zB9, zC9]
      refine tKx (i := 5) (v := .slice P2 L2 C2) rfl rfl (by kernel_rfl) (fun _ _ _ h => h) ?_ hH ?_
      ·intro w5 hSw; obtain ⟨s0, s1, s2, s3⟩ := hSw; go_simp
      simp only [zA9, zB9, zC9]
      refine wpAnyH_ready (rs := [3]) (by kernel_rfl) (by simp) ?_
      refine AllReadyH.cons rfl (fun K hK => ?_) AllReadyH.nil
      go_simp
      go_at_call 83
      refine (HD.out P2 L2 C2 _).mono ?_
      rintro e v9 ⟨rfl, hv9⟩
      subst hv9
      go_wp2_with fail
      refine hK.out _ _ hH (fun hH => ?_)
      clear hK K
      refine wpAnyH_ready (rs := [6]) (by kernel_rfl) (by simp) ?_
      refine AllReadyH.cons rfl (fun K hK => ?_) AllReadyH.nil
      go_simp
      go_at_call 18
      refine (RW2.out _ (Bwb.out.drew)).mono ?_
      rintro e wc ⟨rfl, b9⟩
      have Bwc : Hid (Below w0.heap.size w0 wc) := (Bwb.out.drew).trans (b9.mono (Bwb.out.drew).size)
      clear b9
      go_wp2_with fail
      refine hK.out _ _ (KS.out _ Bwc.out) (fun hH => ?_)
      clear hK K
      refine tKx (i := 7) (v := .int .i64 B2) rfl rfl (by kernel_rfl) (fun _ _ _ h => h) ?_ hH ?_
      ·intro w5 hSw; obtain ⟨s0, s1, s2, s3⟩ := hSw; go_simp
      simp only [zA9, zB9, zC9]
      refine wpAnyH_done (by kernel_rfl) ?_ _
      refine NoPanic.normal ?_
      clear hH
      obtain ⟨q0, q1, q2, q3⟩ := KS.out _ Bwc.out
      by_cases s2 : B2 > 0
      ·have DP2 : Hid (decide (B2 < 0) = false) := decide_eq_false (by omega)
       have DE2 : Hid (decide (B2 = 0) = false) := decide_eq_false (by omega)
       have FX : Hid (E = false) := by show E = _; rw [HE.out]; unfold hol; simp [DZ1.out, DP1.out, DE1.out, DI1.out, DZ2.out, DP2.out, DE2.out]
       go_wp2_with fail
       go_ret
       exact ⟨by rw [FX.out]; rfl, BB.out.trans (Bwc.out.mono BB.out.size)⟩
      ·by_cases e2 : B2 = 0
       ·have u2 : (B2 == 0) = true := by rw [beq_iff_eq]; exact e2
        have DP2 : Hid (decide (B2 < 0) = false) := decide_eq_false (by omega)
        have DE2 : Hid (decide (B2 = 0) = true) := decide_eq_true (by omega)
        clear e2
        rcases Bool.eq_false_or_eq_true hi with hb2 | hb2
        ·rw [hb2] at q3
         have DI2 : Hid (hi = true) := hb2
         clear hb2
         have FX : Hid (E = true) := by show E = _; rw [HE.out]; unfold hol; simp [DZ1.out, DP1.out, DE1.out, DI1.out, DZ2.out, DP2.out, DE2.out, DI2.out]
         go_wp2_with fail
         go_ret
         exact ⟨by rw [FX.out]; rfl, BB.out.trans (Bwc.out.mono BB.out.size)⟩
        ·rw [hb2] at q3
         have DI2 : Hid (hi = false) := hb2
         clear hb2
         have FX : Hid (E = false) := by show E = _; rw [HE.out]; unfold hol; simp [DZ1.out, DP1.out, DE1.out, DI1.out, DZ2.out, DP2.out, DE2.out, DI2.out]
         go_wp2_with fail
         go_ret
         exact ⟨by rw [FX.out]; rfl, BB.out.trans (Bwc.out.mono BB.out.size)⟩
       ·have u2 : (B2 == 0) = false := by rw [beq_eq_false_iff_ne]; exact e2
        have DP2 : Hid (decide (B2 < 0) = true) := decide_eq_true (by omega)
        have DE2 : Hid (decide (B2 = 0) = false) := decide_eq_false (by omega)
        clear e2
        have FX : Hid (E = true) := by show E = _; rw [HE.out]; unfold hol; simp [DZ1.out, DP1.out, DE1.out, DI1.out, DZ2.out, DP2.out, DE2.out]
        go_wp2_with fail
        go_ret
        exact ⟨by rw [FX.out]; rfl, BB.out.trans (Bwc.out.mono BB.out.size)⟩
    ·rw [hb1] at q2
     have DI1 : Hid (li = false) := hb1
     clear hb1
     have FX : Hid (E = false) := by show E = _; rw [HE.out]; unfold hol; simp [DZ1.out, DP1.out, DE1.out, DI1.out]
     go_wp2_with fail
     go_ret
     exact ⟨by rw [FX.out]; rfl, BB.out.trans (Bwb.out.mono BB.out.size)⟩
   ·have u1 : (B1 == 0) = false := by rw [beq_eq_false_iff_ne]; exact e1
    have DP1 : Hid (decide (0 < B1) = true) := decide_eq_true (by omega)
    have DE1 : Hid (decide (B1 = 0) = false) := decide_eq_false (by omega)
    clear e1
    by_cases z2 : L2 = 0
    ·have zn2 : ¬ ((L2 : Int) > 0) := by omega
     have DZ2 : Hid (decide (L2 = 0) = true) := decide_eq_true z2
     clear z2
     obtain ⟨q0, q1, q2, q3⟩ := KS.out _ Bwb.out
     have FX : Hid (E = true) := by show E = _; rw [HE.out]; unfold hol; simp [DZ1.out, DP1.out, DE1.out, DZ2.out]
     go_wp2_with fail
     go_ret
     exact ⟨by rw [FX.out]; rfl, BB.out.trans (Bwb.out.mono BB.out.size)⟩
    ·have zp2 : (L2 : Int) > 0 := by omega
     have DZ2 : Hid (decide (L2 = 0) = false) := decide_eq_false z2
     clear z2
     obtain ⟨q0, q1, q2, q3⟩ := KS.out _ Bwb.out
     go_wp2_with fail
     refine wp_region_noPanic ?_
     refine wp_region_held_drew (S := fun w' : World => w'.cell? ⟨w.heap.size, 0, none⟩ = some (.slice P1 L1 C1) ∧ w'.cell? ⟨w.heap.size, 1, none⟩ = some (.slice P2 L2 C2) ∧ w'.cell? ⟨w.heap.size, 2, none⟩ = some (.bool li) ∧ w'.cell? ⟨w.heap.size, 3, none⟩ = some (.bool hi)) (by kernel_rfl) (KS.out _ Bwb.out.drew) (fun hH => ?_)
     refine tKx (i := 0) (v := .slice (some ⟨g, 0, none⟩) K c) rfl rfl (by kernel_rfl) (fun _ _ _ h => h) ?_ hH ?_
     ·intro w5 hSw; obtain ⟨s0, s1, s2, s3⟩ := hSw; go_simp
     simp only [zA9, zB9, zC9]
     refine tKx (i := 1) (v := .pointer (some ⟨w.heap.size, 1, none⟩)) rfl rfl (by kernel_rfl) (fun _ _ _ h => h) ?_ hH ?_
     ·intro w5 hSw; obtain ⟨s0, s1, s2, s3⟩ := hSw; go_simp
     simp only [zA9, zB9, zC9]
     refine tKx (i := 2) (v := .slice P2 L2 C2) rfl rfl (by kernel_rfl) (fun _ _ _ h => h) ?_ hH ?_
     ·intro w5 hSw; obtain ⟨s0, s1, s2, s3⟩ := hSw; go_simp
     simp only [zA9, zB9, zC9]
     refine tKx (i := 4) (v := .pointer (some ⟨w.heap.size, 1, none⟩)) rfl rfl (by kernel_rfl) (fun _ _ _ h => h) ?_ hH ?_
     ·intro w5 hSw; obtain ⟨s0, s1, s2, s3⟩ := hSw; go_simp
     simp only [zA9, zB9, zC9]
     refine tKx (i := 5) (v := .slice P2 L2 C2) rfl rfl (by kernel_rfl) (fun _ _ _ h => h) ?_ hH ?_
     ·intro w5 hSw; obtain ⟨s0, s1, s2, s3⟩ := hSw; go_simp
     simp only [zA9, zB9, zC9]
     refine wpAnyH_ready (rs := [3]) (by kernel_rfl) (by simp) ?_
     refine AllReadyH.cons rfl (fun K hK => ?_) AllReadyH.nil
     go_simp
     go_at_call 83
     refine (HD.out P2 L2 C2 _).mono ?_
     rintro e v9 ⟨rfl, hv9⟩
     subst hv9
     go_wp2_with fail
     refine hK.out _ _ hH (fun hH => ?_)
     clear hK K
     refine wpAnyH_ready (rs := [6]) (by kernel_rfl) (by simp) ?_
     refine AllReadyH.cons rfl (fun K hK => ?_) AllReadyH.nil
     go_simp
     go_at_call 18
     refine (RW2.out _ (Bwb.out.drew)).mono ?_
     rintro e wc ⟨rfl, b9⟩
     have Bwc : Hid (Below w0.heap.size w0 wc) := (Bwb.out.drew).trans (b9.mono (Bwb.out.drew).size)
     clear b9
     go_wp2_with fail
     refine hK.out _ _ (KS.out _ Bwc.out) (fun hH => ?_)
     clear hK K
     refine tKx (i := 7) (v := .int .i64 B2) rfl rfl (by kernel_rfl) (fun _ _ _ h => h) ?_ hH ?_
     ·intro w5 hSw; obtain ⟨s0, s1, s2, s3⟩ := hSw; go_simp
     simp only [zA9, zB9, zC9]
     refine wpAnyH_done (by kernel_rfl) ?_ _
     refine NoPanic.normal ?_
     clear hH
     obtain ⟨q0, q1, q2, q3⟩ := KS.out _ Bwc.out
     by_cases s2 : B2 > 0
     ·have DP2 : Hid (decide (B2 < 0) = false) := decide_eq_false (by omega)
      have DE2 : Hid (decide (B2 = 0) = false) := decide_eq_false (by omega)
      have FX : Hid (E = false) := by show E = _; rw [HE.out]; unfold hol; simp [DZ1.out, DP1.out, DE1.out, DZ2.out, DP2.out, DE2.out]
      go_wp2_with fail
      go_ret
      exact ⟨by rw [FX.out]; rfl, BB.out.trans (Bwc.out.mono BB.out.size)⟩
     ·by_cases e2 : B2 = 0
      ·have u2 : (B2 == 0) = true := by rw [beq_iff_eq]; exact e2
       have DP2 : Hid (decide (B2 < 0) = false) := decide_eq_false (by omega)
       have DE2 : Hid (decide (B2 = 0) = true) := decide_eq_true (by omega)
       clear e2
       rcases Bool.eq_false_or_eq_true hi with hb2 | hb2
       ·rw [hb2] at q3
        have DI2 : Hid (hi = true) := hb2
        clear hb2
        have FX : Hid (E = true) := by show E = _; rw [HE.out]; unfold hol; simp [DZ1.out, DP1.out, DE1.out, DZ2.out, DP2.out, DE2.out, DI2.out]
        go_wp2_with fail
        go_ret
        exact ⟨by rw [FX.out]; rfl, BB.out.trans (Bwc.out.mono BB.out.size)⟩
       ·rw [hb2] at q3
        have DI2 : Hid (hi = false) := hb2
        clear hb2
        have FX : Hid (E = false) := by show E = _; rw [HE.out]; unfold hol; simp [DZ1.out, DP1.out, DE1.out, DZ2.out, DP2.out, DE2.out, DI2.out]
        go_wp2_with fail
        go_ret
        exact ⟨by rw [FX.out]; rfl, BB.out.trans (Bwc.out.mono BB.out.size)⟩
      ·have u2 : (B2 == 0) = false := by rw [beq_eq_false_iff_ne]; exact e2
       have DP2 : Hid (decide (B2 < 0) = true) := decide_eq_true (by omega)
       have DE2 : Hid (decide (B2 = 0) = false) := decide_eq_false (by omega)
       clear e2
       have FX : Hid (E = true) := by show E = _; rw [HE.out]; unfold hol; simp [DZ1.out, DP1.out, DE1.out, DZ2.out, DP2.out, DE2.out]
       go_wp2_with fail
       go_ret
       exact ⟨by rw [FX.out]; rfl, BB.out.trans (Bwc.out.mono BB.out.size)⟩
end Go.Proofs.YtclcajnodoifjaaGreatDoor

namespace Go.Proofs.YtclcajnodoifjaaGreatDoor
open Go.RowKit Go.Shelf Go.Joins Go.Maps
set_option maxRecDepth 100000

/-- which entries lie between two bounds -/
def holB (low high : List Va) (li hi : Bool) (m : Em) : Bool := loB low li m.e && hiB high hi m.e
set_option maxHeartbeats 8000000 in
set_option maxRecDepth 1000000 in
theorem docRange_any (T : Nat → Prop) (u : Bool) (dd : Nat) (D : List Em) (PD : Option Addr) (ND CD : Nat) (P1 P2 : Option Addr) (C1 C2 : Nat) (low high : List Va) (li hi : Bool) (w : World) (hd : DocIn T w dd u D (.slice PD ND CD)) (h1 : rowOff w P1 low) (h2 : rowOff w P2 high) (y1 : ∀ v ∈ low, fit v.n) (y2 : ∀ v ∈ high, fit v.n) (zD : ND ≤ 100000) :
  Calls Tryz.prog 30 #[.pointer (some ⟨dd, 0, none⟩), .agg #[.slice P1 low.length C1, .slice P2 high.length C2, .bool li, .bool hi]] w fun e w' => ∃ p n c, e = .returned (.slice p n c) ∧ GrE w w' p n c (D.filter (holB low high li hi)) := by
 obtain ⟨hND, hNC, hP0, hPs⟩ := doc_row hd
 obtain ⟨L1, hL1⟩ : ∃ L1, L1 = low.length := ⟨_, rfl⟩
 obtain ⟨L2, hL2⟩ : ∃ L2, L2 = high.length := ⟨_, rfl⟩
 rw [← hL1, ← hL2]
 obtain ⟨wb, hwb⟩ : ∃ wb, wb = w.alloc (.cells #[.slice P1 L1 C1, .slice P2 L2 C2, .bool li, .bool hi] 33) := ⟨_, rfl⟩
 have d0 : wb.heap[w.heap.size]? = some (.cells #[.slice P1 L1 C1, .slice P2 L2 C2, .bool li, .bool hi] 33 (0, 0)) := by rw [hwb]; exact heap_alloc_new _ _
 have bb : Below w.heap.size w wb := by rw [hwb]; exact (Below.refl _ w).alloc (Nat.le_refl _) _
 have bs : wb.heap.size = w.heap.size + 1 := by rw [hwb, World.size_alloc]
 have RW : Hid (∀ (i : Nat) (m : Em) W, D[i]? = some m → Below w.heap.size w W → Calls Tryz.prog 59 #[.agg #[.slice P1 L1 C1, .slice P2 L2 C2, .bool li, .bool hi], .slice (some ⟨m.g, 0, none⟩) m.e.key.length m.c] W fun e w' => e = .returned (.bool (holB low high li hi m)) ∧ Below W.heap.size W w') := fun i m W hi' hW => by
  have km := (hd.keys m (List.mem_of_getElem? hi')).keeps (Keeps.of_below hW)
  rw [hL1, hL2]
  exact Holds_off P1 P2 C1 C2 low high li hi m.e m.g m.c W (h1.below hW) (h2.below hW) y1 y2 (Or.inr ⟨_, rfl, km.vals⟩) (by have := km.few; omega) km.cap km.fits
 have EN : Hid (∀ (i : Nat) W, i < ND → Below w.heap.size w W → ∃ m gx ox, D[i]? = some m ∧ PD = some ⟨gx, ox, none⟩ ∧ W.cell? ⟨gx, ox + i * 2, none⟩ = some (.slice (some ⟨m.g, 0, none⟩) m.e.key.length m.c) ∧ W.cell? ⟨gx, ox + i * 2 + 1, none⟩ = some (.int .u64 m.e.id)) := fun i W hi hW => by
  obtain ⟨m, hm⟩ : ∃ m, D[i]? = some m := ⟨_, List.getElem?_eq_getElem (by omega)⟩
  cases hP : PD with
  | none => have := (hP0 hP).1; omega
  | some ad =>
   obtain ⟨gx, ox, rfl, _, _⟩ := hPs ad hP
   rw [hP] at hd
   obtain ⟨a1, a2, _, _⟩ := (hd.below hW).entry hm
   exact ⟨m, gx, ox, hm, rfl, a1, a2⟩
 have TB : Hid (∀ W, Below w.heap.size w W → W.cell? ⟨dd, 1, none⟩ = some (.slice PD ND CD)) := fun W hW => (cell_of_block (hd.below hW).box 1).trans rfl
 have HND := mkHid hND
 have G0 : Hid (GrE wb (wb.alloc (.cells #[] 54)) (some ⟨wb.heap.size, 0, none⟩) 0 0 ((D.take 0).filter (holB low high li hi))) := ⟨rfl, ⟨rfl, Or.inr ⟨wb.heap.size, 0, 0, #[], rfl, heap_alloc_new _ _, Nat.le_refl _, Nat.zero_le _, Or.inl rfl, fun j u hj => by simp [fl] at hj⟩⟩, fun g hg => by cases hg; exact Nat.le_refl _, (Below.refl _ _).alloc (Nat.le_refl _) _⟩
 have BX0 : Hid (∀ W, Below wb.heap.size wb W → (fun w' : World => w'.cell? ⟨w.heap.size, 0, none⟩ = some (.slice P1 L1 C1) ∧ w'.cell? ⟨w.heap.size, 1, none⟩ = some (.slice P2 L2 C2) ∧ w'.cell? ⟨w.heap.size, 2, none⟩ = some (.bool li) ∧ w'.cell? ⟨w.heap.size, 3, none⟩ = some (.bool hi)) W) := fun W hW => by
  have d := (hW.block _ (lt_of_heap d0)).trans d0
  exact ⟨(cell_of_block d 0).trans rfl, (cell_of_block d 1).trans rfl, (cell_of_block d 2).trans rfl, (cell_of_block d 3).trans rfl⟩
 have FL : Hid (∀ i, ((D.take i).filter (holB low high li hi)).length ≤ i) := fun i => Nat.le_trans (List.length_filter_le _ _) (by rw [List.length_take]; omega)
 have HW0 := mkHid hwb
 have BB := mkHid bb
 have BS := mkHid bs
 clear bb bs
 clear hd h1 h2 y1 y2 hND hNC hP0 hPs hL1 hL2 d0 hwb
 go_enter Tryz.func30, Tryz.ntmps30
 go_wp2_with fail
 rw [← HW0.out, ← BS.out]
 clear HW0
 go_loopw [5, 6] (fun s5 s6 wr => ∃ (i : Nat) (p : Option Addr) (n c : Nat), s6 = .int .i64 i ∧ s5 = .slice p n c ∧ i ≤ ND ∧ Hid (GrE wb wr p n c ((D.take i).filter (holB low high li hi)))) (fun _ s6 _ => ND - (intOf s6).toNat)
 case atStart => exact ⟨0, _, _, _, rfl, rfl, Nat.zero_le _, G0⟩
 case round =>
  obtain ⟨i, p, n, c, rfl, rfl, hi', hG⟩ := hrel
  clear G0
  have hB0 := mkHid hG.out.2.2.2
  have hB : Hid (Below w.heap.size w wr) := BB.out.trans (hB0.out.mono BB.out.size)
  have t1 := TB.out wr hB.out
  by_cases hlt : i < ND
  ·obtain ⟨m, gx, ox, hm, rfl, c0, c1⟩ := EN.out i wr hlt hB.out
   have i1 : (i : Int) < (ND : Int) := by omega
   have i2 : (0 : Int) ≤ (i : Int) := by omega
   have HM := mkHid hm
   have RWm := mkHid (RW.out i m wr.drew hm hB.out.drew)
   have KS : Hid (∀ W, Below wr.heap.size wr W → (fun w' : World => w'.cell? ⟨w.heap.size, 0, none⟩ = some (.slice P1 L1 C1) ∧ w'.cell? ⟨w.heap.size, 1, none⟩ = some (.slice P2 L2 C2) ∧ w'.cell? ⟨w.heap.size, 2, none⟩ = some (.bool li) ∧ w'.cell? ⟨w.heap.size, 3, none⟩ = some (.bool hi) ∧ w'.cell? ⟨dd, 1, none⟩ = some (.slice (some ⟨gx, ox, none⟩) ND CD) ∧ w'.cell? ⟨gx, ox + i * 2, none⟩ = some (.slice (some ⟨m.g, 0, none⟩) m.e.key.length m.c) ∧ w'.cell? ⟨gx, ox + i * 2 + 1, none⟩ = some (.int .u64 m.e.id)) W) := fun W hW => by
    obtain ⟨q0, q1, q2, q3⟩ := BX0.out W (hB0.out.trans (hW.mono hB0.out.size))
    exact ⟨q0, q1, q2, q3, (hW.cell (World.block_lt_of_cell? _ _ t1)).trans t1, (hW.cell (World.block_lt_of_cell? _ _ c0)).trans c0, (hW.cell (World.block_lt_of_cell? _ _ c1)).trans c1⟩
   have hn : n ≤ 100000 := by have := FL.out i; have := hG.out.1; omega
   obtain ⟨HB, hHB⟩ : ∃ b, b = holB low high li hi m := ⟨_, rfl⟩
   rw [← hHB] at RWm
   have HHB := mkHid hHB
   clear hHB
   clear hm c0 c1
   go_wp2_with fail
   clear t1
   refine wp_region_noPanic ?_
   refine wp_region_held_drew (S := fun w' : World => w'.cell? ⟨w.heap.size, 0, none⟩ = some (.slice P1 L1 C1) ∧ w'.cell? ⟨w.heap.size, 1, none⟩ = some (.slice P2 L2 C2) ∧ w'.cell? ⟨w.heap.size, 2, none⟩ = some (.bool li) ∧ w'.cell? ⟨w.heap.size, 3, none⟩ = some (.bool hi) ∧ w'.cell? ⟨dd, 1, none⟩ = some (.slice (some ⟨gx, ox, none⟩) ND CD) ∧ w'.cell? ⟨gx, ox + i * 2, none⟩ = some (.slice (some ⟨m.g, 0, none⟩) m.e.key.length m.c) ∧ w'.cell? ⟨gx, ox + i * 2 + 1, none⟩ = some (.int .u64 m.e.id)) (by kernel_rfl) (KS.out _ (Below.refl _ _).drew) (fun hH => ?_)
   refine tKx (i := 0) (v := .agg #[.slice P1 L1 C1, .slice P2 L2 C2, .bool li, .bool hi]) rfl rfl (by kernel_rfl) (fun _ _ _ h => h) ?_ hH ?_
   ·intro w5 hSw; obtain ⟨s0, s1, s2, s3, s4, s5, s6⟩ := hSw; go_simp
   simp only [zA9, zB9, zC9]
   refine tKx (i := 1) (v := .pointer (some ⟨dd, 0, none⟩)) rfl rfl (by kernel_rfl) (fun _ _ _ h => h) ?_ hH ?_
   ·intro w5 hSw; obtain ⟨s0, s1, s2, s3, s4, s5, s6⟩ := hSw; go_simp
   simp only [zA9, zB9, zC9]
   refine tKx (i := 2) (v := .pointer (some ⟨dd, 0, none⟩)) rfl rfl (by kernel_rfl) (fun _ _ _ h => h) ?_ hH ?_
   ·intro w5 hSw; obtain ⟨s0, s1, s2, s3, s4, s5, s6⟩ := hSw; go_simp
   simp only [zA9, zB9, zC9]
   refine tKx (i := 3) (v := .pointer (some ⟨dd, 1, none⟩)) rfl rfl (by kernel_rfl) (fun _ _ _ h => h) ?_ hH ?_
   ·intro w5 hSw; obtain ⟨s0, s1, s2, s3, s4, s5, s6⟩ := hSw; go_simp
   simp only [zA9, zB9, zC9]
   refine tKx (i := 4) (v := .slice (some ⟨gx, ox, none⟩) ND CD) rfl rfl (by kernel_rfl) (fun _ _ _ h => h) ?_ hH ?_
   ·intro w5 hSw; obtain ⟨s0, s1, s2, s3, s4, s5, s6⟩ := hSw; go_simp
   simp only [zA9, zB9, zC9]
   refine tKx (i := 5) (v := .int .i64 (i : Int)) rfl rfl (by kernel_rfl) (fun _ _ _ h => h) ?_ hH ?_
   ·intro w5 hSw; obtain ⟨s0, s1, s2, s3, s4, s5, s6⟩ := hSw; go_simp
   simp only [zA9, zB9, zC9]
   refine tKx (i := 6) (v := .pointer (some ⟨gx, ox + i * 2, none⟩)) rfl rfl (by kernel_rfl) (fun _ _ _ h => h) ?_ hH ?_
   ·intro w5 hSw; obtain ⟨s0, s1, s2, s3, s4, s5, s6⟩ := hSw; go_simp
   simp only [zA9, zB9, zC9]
   refine tKx (i := 7) (v := .pointer (some ⟨gx, ox + i * 2, none⟩)) rfl rfl (by kernel_rfl) (fun _ _ _ h => h) ?_ hH ?_
   ·intro w5 hSw; obtain ⟨s0, s1, s2, s3, s4, s5, s6⟩ := hSw; go_simp
   simp only [zA9, zB9, zC9]
   refine tKx (i := 8) (v := .slice (some ⟨m.g, 0, none⟩) m.e.key.length m.c) rfl rfl (by kernel_rfl) (fun _ _ _ h => h) ?_ hH ?_
   ·intro w5 hSw; obtain ⟨s0, s1, s2, s3, s4, s5, s6⟩ := hSw; go_simp
   simp only [zA9, zB9, zC9]
   refine wpAnyH_ready (rs := [9]) (by kernel_rfl) (by simp) ?_
   refine AllReadyH.cons rfl (fun K hK => ?_) AllReadyH.nil
   go_simp
   go_at_call 59
   refine RWm.out.mono ?_
   rintro e w2 ⟨rfl, b2⟩
   have B2 : Hid (Below wr.heap.size wr w2) := (Below.refl _ wr).drew.trans b2
   clear b2 RWm
   go_wp2_with fail
   refine hK.out _ _ (KS.out _ B2.out) (fun hH => ?_)
   clear hK K
   refine wpAnyH_done (by kernel_rfl) ?_ _
   refine NoPanic.normal ?_
   clear hH
   cases HB with
   | true =>
    obtain ⟨p', c', w3, hr, hG3⟩ := hG.out.step B2.out m hn
    have G3 : Hid (GrE wb w3 p' (n + 1) c' ((D.take (i + 1)).filter (holB low high li hi))) := by rw [filter_step HM.out, if_pos HHB.out.symm]; exact hG3
    obtain ⟨_, _, _, _, k4, k5, k6⟩ := KS.out _ B2.out
    clear hG hG3 KS HHB
    go_wp2_with (at_builtin; refine wp_app 26 rfl (.tmp 27) (.tmp 35) rfl rfl rfl hr ?_)
    go_roundw
    case rel => exact ⟨i + 1, _, _, _, by go_num, rfl, hlt, G3⟩
    case measure => simp [intOf]; omega
   | false =>
    have SM : Hid ((D.take (i + 1)).filter (holB low high li hi) = (D.take i).filter (holB low high li hi)) := by
     show _ = _
     rw [filter_step HM.out, ← HHB.out, if_neg (by simp), List.append_nil]
    obtain ⟨_, _, _, _, k4, k5, k6⟩ := KS.out _ B2.out
    clear KS HHB
    go_wp2_with fail
    go_roundw
    case rel => exact ⟨i + 1, p, n, c, by go_num, rfl, hlt, by rw [SM.out]; exact hG.out.below B2.out⟩
    case measure => simp [intOf]; omega
  ·obtain rfl : ND = i := by omega
   have HG2 : Hid (GrE w wr p n c (D.filter (holB low high li hi))) := by
    have := hG.out
    rw [HND.out, List.take_length] at this
    exact ⟨this.1, this.2.1, fun g hg => Nat.le_trans BB.out.size (this.2.2.1 g hg), BB.out.trans (this.2.2.2.mono BB.out.size)⟩
   clear hG
   go_wp2_with fail
   go_ret
   exact ⟨_, _, _, rfl, HG2.out⟩
end Go.Proofs.YtclcajnodoifjaaGreatDoor

