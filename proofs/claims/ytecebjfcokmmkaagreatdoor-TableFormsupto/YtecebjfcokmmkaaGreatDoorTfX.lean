/-
  The walk of table.empty, itself.
-/
import Derived.Test.YtecebjfcokmmkaaGreatDoorTfW
namespace Go.Proofs.YtecebjfcokmmkaaGreatDoor
open Go.RowKit Go.Shelf Go.Joins Go.Maps
set_option maxRecDepth 100000

/-- what comes of it: a table of none -/
def TxQ (w : World) (t : Tb) (e : Ending) (w' : World) : Prop := ∃ gx gm gc cc gk ck L vt, e = .returned (.pointer (some ⟨gx, 0, none⟩)) ∧ Tx w' w.heap.size gx gm t gc cc gk ck L vt ∧ Below w.heap.size w w'
/-- a table with k trees -/
def TI (w wr : World) (gx gm : Nat) (t : Tb) (gc cc gk ck : Nat) (L : List Kq) (k : Nat) (vt : Value) (xs : List Value) : Prop := Tx wr w.heap.size gx gm t gc cc gk ck L vt ∧ shr wr 96 1 vt k xs ∧ Below w.heap.size w wr ∧ ∀ g, vt.ownBlock = some g → w.heap.size ≤ g
theorem tyKR : 46 + 2 ≠ 96 + 2 := by decide
theorem tyXR : 62 + 2 ≠ 96 + 2 := by decide
theorem TI.step {w wr WB : World} {gx gm gc cc gk ck k : Nat} {t : Tb} {L : List Kq} {vt : Value} {xs : List Value} {ky : Ky} {Pk : Option Addr} {Ck : Nat} (h : TI w wr gx gm t gc cc gk ck L k vt xs) (hWB : WB = wr.alloc (.cells #[.string ky.nm, .slice Pk ky.cs.length Ck, .bool ky.uq] 46)) (hk : k ≤ 100000000) (w5 : World) (g5 : Nat) (h5 : WB.drew.grownBy w5 none) :
    ∃ v6 w6, (∀ ty, (Builtin.append_ #[59, 59] ty #[vt, .slice (some ⟨w5.heap.size, 0, none⟩) 1 1]).run Tryz.prog (w5.alloc (.cells #[.pointer (some ⟨g5, 0, none⟩)] 96)) = .ok v6 w6) ∧
      w5.cell? ⟨wr.heap.size, 2, none⟩ = some (.bool ky.uq) ∧ (w5.alloc (.cells #[.pointer (some ⟨g5, 0, none⟩)] 96)).cell? ⟨wr.heap.size, 2, none⟩ = some (.bool ky.uq) ∧ w6.cell? ⟨wr.heap.size, 2, none⟩ = some (.bool ky.uq) ∧
      w5.cell? ⟨gx, 6, none⟩ = some vt ∧ (w5.alloc (.cells #[.pointer (some ⟨g5, 0, none⟩)] 96)).cell? ⟨gx, 6, none⟩ = some vt ∧ (∃ v, w6.cell? ⟨gx, 6, none⟩ = some v) ∧ w6.frozen? ⟨gx, 6, none⟩ = false ∧ (∃ p c, v6 = .slice p (k + 1) c) ∧
      ∃ xs', TI w (w6.setCell ⟨gx, 6, none⟩ v6) gx gm t gc cc gk ck L (k + 1) v6 xs' := by
  obtain ⟨hT, hs, hb, hlo5⟩ := h
  have bB : Below wr.heap.size wr WB := by rw [hWB]; exact (Below.refl _ wr).alloc (Nat.le_refl _) _
  have oB : WB.heap[wr.heap.size]? = some (.cells #[.string ky.nm, .slice Pk ky.cs.length Ck, .bool ky.uq] 46 (0, 0)) := by rw [hWB]; exact at_alloc _ _ _
  have h5' : WB.grownBy w5 none := ⟨h5.os, h5.tape, h5.output, h5.size, h5.block⟩
  have b5 : Below wr.heap.size wr w5 := bB.trans (below_grown h5' bB.size)
  have o5 : w5.heap[wr.heap.size]? = _ := (h5'.block _ (lt_of_heap oB) (by simp)).trans oB
  obtain ⟨W6, hW6⟩ : ∃ W6, W6 = w5.alloc (.cells #[.pointer (some ⟨g5, 0, none⟩)] 96) := ⟨_, rfl⟩
  have b6 : Below w5.heap.size w5 W6 := by rw [hW6]; exact (Below.refl _ w5).alloc (Nat.le_refl _) _
  have o6 : W6.heap[wr.heap.size]? = _ := (b6.block _ (lt_of_heap o5)).trans o5
  have n6 : W6.heap[w5.heap.size]? = some (.cells #[.pointer (some ⟨g5, 0, none⟩)] 96 (0, 0)) := by rw [hW6]; exact at_alloc _ _ _
  have b56 : Below wr.heap.size wr W6 := b5.trans (b6.mono b5.size)
  have T6 := hT.below b56
  have s6 := hs.kept (chgBl b56) (fun g hg => by have := (hs.kd g hg).2; show ¬ wr.heap.size ≤ g; omega)
  obtain ⟨v6, w6, hr, hs6, hg6, ho6⟩ := rwTr.app s6 (m := 1) (c := 1) (ad := ⟨w5.heap.size, 0, none⟩) (news := [.pointer (some ⟨g5, 0, none⟩)]) rfl (fun j u hj => by
    have hj0 : j = 0 := by have := (List.getElem?_eq_some_iff.1 hj).1; simp at this; exact this
    subst hj0
    rw [add_plain]
    exact (cell_of_block n6 0).trans hj) (fun u hu => by simp at hu; subst hu; rfl) (by omega) (by decide)
  obtain ⟨Tn, hc6, hf6⟩ := T6.tree (v6 := v6) s6 hg6
  have c6 := Chg.of_grown hg6
  have o7 : w6.heap[wr.heap.size]? = _ := c6.at_ o6 (fun e => by have := (s6.kd _ e).1; rw [kd_cells o6] at this; exact tyKR this)
  have cs : Chg (fun i => i = gx) w6 (w6.setCell ⟨gx, 6, none⟩ v6) := Chg.of_cell w6 ⟨gx, 6, none⟩ v6
  obtain ⟨p6, cp6, e6, _⟩ := hs6.form
  have ox6 : w6.heap[gx]? = _ := c6.at_ T6.obj (fun e => by have := (s6.kd _ e).1; rw [kd_cells T6.obj] at this; exact tyXR this)
  refine ⟨v6, w6, by rw [← hW6]; exact hr, (cell_of_block o5 2).trans rfl, by rw [← hW6]; exact (cell_of_block o6 2).trans rfl, (cell_of_block o7 2).trans rfl, (hT.below b5).cell6, by rw [← hW6]; exact T6.cell6, hc6, hf6, ⟨p6, cp6, e6⟩, _, Tn, hs6.kept cs (fun g hg e => ?_), ?_, fun g hg => ?_⟩
  · have e : g = gx := e
    have := (hs6.kd _ hg).1
    rw [e, kd_cells ox6] at this
    exact tyXR this
  · have hlo := hT.lox
    have b7 : Below w.heap.size W6 w6 := ⟨hg6.os, hg6.tape, hg6.output, hg6.size, fun i hi => hg6.block i (by have := (hb.trans (b56.mono hb.size)).size; omega) (fun e => by have := hlo5 i e.symm; omega)⟩
    exact ((hb.trans (b56.mono hb.size)).trans b7).trans (cs.below (by have := (hb.trans (b56.mono hb.size)).size; have := hg6.size; omega) (fun i e => by omega))
  · rcases ho6 with e | ⟨g', e, h1, _⟩
    · exact hlo5 g (by rw [← e]; exact hg)
    · rw [e] at hg; cases hg
      have := (hb.trans (b56.mono hb.size)).size
      omega
set_option maxHeartbeats 8000000 in
set_option maxRecDepth 1000000 in
theorem empty_any (t : Tb) (P Q : Option Addr) (C D : Nat) (w : World) (hin : tbIn w t P Q) (hG : tbG t) (hc0 : t.cs ≠ []) (hk0 : t.ks ≠ []) (hi0 : ∀ k ∈ t.ks, k.cs ≠ []) :
    Calls Tryz.prog 46 #[tbV t P Q C D, .int .u64 1] w fun e w' => TxQ w (plT t) e w' := by
  obtain ⟨W0, hW0⟩ : ∃ W0, W0 = w.alloc (.cells #[.string t.nm, .slice P t.cs.length C, .slice Q t.ks.length D, .int .i64 t.pa, .int .i64 t.mo] 25) := ⟨_, rfl⟩
  have b0 : Below w.heap.size w W0 := by rw [hW0]; exact (Below.refl _ w).alloc (Nat.le_refl _) _
  have s0 : W0.heap.size = w.heap.size + 1 := by rw [hW0]; simp
  have k2 : W0.cell? ⟨w.heap.size, 2, none⟩ = some (.slice Q t.ks.length D) := by rw [hW0]; simp
  have KF := mkHid (keptForm_any t P Q C D W0 (hin.below b0) hG hc0 hk0 hi0)
  have HIN := mkHid hin
  have Hb0 := mkHid b0
  have HS0 := mkHid s0
  have hmk := mkRows
  have hln := hG.2.2.1
  have HTN : Hid (∀ (u : Bool) (w : World), Calls Tryz.prog 62 #[.bool u] w fun e w' => ∃ g, e = .returned (.pointer (some ⟨g, 0, none⟩)) ∧ w.grownBy w' none) := fun u w => treeNew_any u w
  clear hin hG hc0 hk0 hi0 b0 s0
  subst hW0
  go_enter Tryz.func46, Tryz.ntmps46
  go_wp2_with fail
  refine KF.out.mono ?_
  rintro e w1 ⟨gc, cc, gk, ck, L, rfl, F1, b1⟩
  have l2 : w1.cell? ⟨w.heap.size, 2, none⟩ = some (.slice Q t.ks.length D) := (b1.cell (p := ⟨w.heap.size, 2, none⟩) (by rw [HS0.out]; show w.heap.size < _; omega)).trans k2
  have bw1 : Below w.heap.size w w1 := Hb0.out.trans (b1.mono Hb0.out.size)
  have HF1 := mkHid (F1.lower Hb0.out.size)
  have hs1 : w.heap.size < w1.heap.size := by have := b1.size; rw [HS0.out] at this; omega
  have Hbw1 := mkHid bw1
  obtain ⟨W3, hW3⟩ : ∃ W3, W3 = (w1.alloc (.map #[] 0)).alloc (.cells #[.string (plT t).nm, .slice (some ⟨gc, 0, none⟩) (plT t).cs.length cc, .slice (some ⟨gk, 0, none⟩) (plT t).ks.length ck, .int .i64 (plT t).pa, .int .i64 (plT t).mo, .map (some w1.heap.size), .slice none 0 0, .int .u64 1, .slice none 0 0] 62) := ⟨_, rfl⟩
  have b3 : Below w1.heap.size w1 W3 := by rw [hW3]; exact ((Below.refl _ w1).alloc (Nat.le_refl _) _).alloc (by simp) _
  have s3 : W3.heap.size = w1.heap.size + 1 + 1 := by rw [hW3]; simp
  have T3 : Tx W3 w.heap.size (w1.heap.size + 1) w1.heap.size (plT t) gc cc gk ck L (.slice none 0 0) := by
    refine ⟨HF1.out.below b3, ?_, ?_, by omega, by omega⟩
    · rw [hW3]
      have := at_alloc (w1.alloc (.map #[] 0)) #[.string (plT t).nm, .slice (some ⟨gc, 0, none⟩) (plT t).cs.length cc, .slice (some ⟨gk, 0, none⟩) (plT t).ks.length ck, .int .i64 (plT t).pa, .int .i64 (plT t).mo, .map (some w1.heap.size), .slice none 0 0, .int .u64 1, .slice none 0 0] 62
      simpa using this
    · rw [hW3, heap_alloc_old _ _ (by simp)]; exact heap_alloc_new _ _
  have m2 : W3.cell? ⟨w.heap.size, 2, none⟩ = some (.slice Q t.ks.length D) := (b3.cell (p := ⟨w.heap.size, 2, none⟩) hs1).trans l2
  have m2' := m2
  rw [hW3] at m2'
  have HT3 := mkHid T3
  have Hbw3 := mkHid (bw1.trans (b3.mono bw1.size))
  have HW3 := mkHid hW3
  clear F1 b1 l2 bw1 b3 T3 KF k2 HF1 Hbw1 Hb0 HS0 hW3
  go_wp2_with fail
  rw [← HW3.out]
  clear m2' HW3
  go_loopw [7, 17] (fun _ s wr => ∃ (k : Nat) (vt : Value) (xs : List Value), s = .int .i64 k ∧ k ≤ t.ks.length ∧ Hid (TI w wr (w1.heap.size + 1) w1.heap.size (plT t) gc cc gk ck L k vt xs)) (fun _ s _ => t.ks.length - (intOf s).toNat)
  case atStart => exact ⟨0, _, _, rfl, Nat.zero_le _, ⟨HT3.out, shr_nil _ _ _, Hbw3.out, (by intro g hg; cases hg)⟩⟩
  case round =>
    obtain ⟨k, vt, xs, rfl, hk, hd⟩ := hrel
    by_cases hkl : k < t.ks.length
    · obtain ⟨ky, hky⟩ : ∃ x, t.ks[k]? = some x := ⟨t.ks[k], List.getElem?_eq_getElem hkl⟩
      have hI := (HIN.out.below hd.out.2.2.1).2
      rcases hI with h | ⟨g, o, rfl, hg, hcs⟩
      · rw [h] at hky; simp at hky
      obtain ⟨Pk, Ck, d0, d1, d2, _⟩ := hcs k ky hky
      obtain ⟨WB, hWB⟩ : ∃ WB, WB = wr.alloc (.cells #[.string ky.nm, .slice Pk ky.cs.length Ck, .bool ky.uq] 46) := ⟨_, rfl⟩
      have HST : Hid _ := hd.out.step hWB (by omega)
      have hx := lt_of_heap hd.out.1.obj
      have bB : Below wr.heap.size wr WB := by rw [hWB]; exact (Below.refl _ wr).alloc (Nat.le_refl _) _
      have y4 : WB.cell? ⟨w1.heap.size + 1, 6, none⟩ = some vt := (bB.cell (p := ⟨w1.heap.size + 1, 6, none⟩) hx).trans hd.out.1.cell6
      have xb : WB.drew.cell? ⟨wr.heap.size, 2, none⟩ = some (.bool ky.uq) := by rw [hWB]; simp
      obtain ⟨pv, cv, ev, _⟩ := hd.out.2.1.form
      subst ev
      clear hd hcs hky bB hg
      subst hWB
      go_wp2_with fail
      refine wp_region_noPanic ?_
      refine wp_region_held_drew (S := fun w' => w'.cell? ⟨wr.heap.size, 2, none⟩ = some (.bool ky.uq)) (by kernel_rfl) (xb) (fun hH => ?_)
      refine take_at (i := 0) (v := .pointer (some ⟨w1.heap.size + 1, 0, none⟩)) rfl rfl (by kernel_rfl) (by kernel_rfl) (by kernel_rfl) (fun _ _ _ h => h) (Or.inl ⟨by rfl, ?_⟩) hH ?_
      · intro w5 hSw; obtain q1 := hSw; go_simp
      simp only [List.setIfInBounds_toArray, List.set_cons_zero, List.set_cons_succ]
      refine take_at (i := 1) (v := .pointer (some ⟨w1.heap.size + 1, 0, none⟩)) rfl rfl (by kernel_rfl) (by kernel_rfl) (by kernel_rfl) (fun _ _ _ h => h) (Or.inl ⟨by rfl, ?_⟩) hH ?_
      · intro w5 hSw; obtain q1 := hSw; go_simp
      simp only [List.setIfInBounds_toArray, List.set_cons_zero, List.set_cons_succ]
      refine take_at (i := 2) (v := .pointer (some ⟨w1.heap.size + 1, 0, none⟩)) rfl rfl (by kernel_rfl) (by kernel_rfl) (by kernel_rfl) (fun _ _ _ h => h) (Or.inl ⟨by rfl, ?_⟩) hH ?_
      · intro w5 hSw; obtain q1 := hSw; go_simp
      simp only [List.setIfInBounds_toArray, List.set_cons_zero, List.set_cons_succ]
      refine take_at (i := 3) (v := .pointer (some ⟨w1.heap.size + 1, 6, none⟩)) rfl rfl (by kernel_rfl) (by kernel_rfl) (by kernel_rfl) (fun _ _ _ h => h) (Or.inl ⟨by rfl, ?_⟩) hH ?_
      · intro w5 hSw; obtain q1 := hSw; go_simp
      simp only [List.setIfInBounds_toArray, List.set_cons_zero, List.set_cons_succ]
      refine take_at (i := 5) (v := .pointer (some ⟨wr.heap.size, 2, none⟩)) rfl rfl (by kernel_rfl) (by kernel_rfl) (by kernel_rfl) (fun _ _ _ h => h) (Or.inl ⟨by rfl, ?_⟩) hH ?_
      · intro w5 hSw; obtain q1 := hSw; go_simp
      simp only [List.setIfInBounds_toArray, List.set_cons_zero, List.set_cons_succ]
      refine take_at (i := 6) (v := .bool ky.uq) rfl rfl (by kernel_rfl) (by kernel_rfl) (by kernel_rfl) (fun _ _ _ h => h) (Or.inl ⟨by rfl, ?_⟩) hH ?_
      · intro w5 hSw; obtain q1 := hSw; go_simp
      simp only [List.setIfInBounds_toArray, List.set_cons_zero, List.set_cons_succ]
      refine wpAnyH_ready (rs := [4, 7]) (by kernel_rfl) (by simp) ?_
      refine AllReadyH.cons rfl (fun K hK => ?_) (AllReadyH.cons rfl (fun K hK => ?_) AllReadyH.nil)
      · go_simp
        have hH9 := hH
        clear hH
        refine hK.out _ _ (xb) (fun hH => ?_)
        clear hK K
        try simp only [Act.put, List.setIfInBounds_toArray, List.set_cons_zero, List.set_cons_succ]
        refine wpAnyH_ready (rs := [7]) (by kernel_rfl) (by simp) ?_
        refine AllReadyH.cons rfl (fun K hK => ?_) AllReadyH.nil
        go_simp
        refine (HTN.out ky.uq _).mono ?_
        rintro e w5 ⟨g5, rfl, y5⟩
        obtain ⟨v6, w6, r6, l2, l2a, l2b, l4, l4a, ⟨v7, l6⟩, l7, ⟨p6, c6, rfl⟩, xs6, NX⟩ := HST.out w5 g5 y5
        have HNX := mkHid NX
        clear NX y5
        have hH9 := hH
        clear hH
        refine hK.out _ _ (l2) (fun hH => ?_)
        clear hK K
        try simp only [Act.put, List.setIfInBounds_toArray, List.set_cons_zero, List.set_cons_succ]
        refine wpAnyH_ready (rs := [8]) (by kernel_rfl) (by simp) ?_
        refine AllReadyH.cons rfl (fun K hK => ?_) AllReadyH.nil
        go_simp
        have hH9 := hH
        clear hH
        refine hK.out _ _ (l2a) (fun hH => ?_)
        clear hK K
        try simp only [Act.put, List.setIfInBounds_toArray, List.set_cons_zero, List.set_cons_succ]
        refine wpAnyH_ready (rs := [9]) (by kernel_rfl) (by simp) ?_
        refine AllReadyH.cons rfl (fun K hK => ?_) AllReadyH.nil
        refine step_app 59 rfl (.tmp 25) (.tmp 29) rfl rfl rfl r6 ?_
        have hH9 := hH
        clear hH
        refine hK.out _ _ (l2b) (fun hH => ?_)
        clear hK K
        try simp only [Act.put, List.setIfInBounds_toArray]
        refine take_at (i := 10) (v := .pointer (some ⟨w1.heap.size + 1, 0, none⟩)) rfl rfl (by kernel_rfl) (by kernel_rfl) (by kernel_rfl) (fun _ _ _ h => h) (Or.inl ⟨by rfl, ?_⟩) hH ?_
        · intro w5 hSw; obtain q1 := hSw; go_simp
        simp only [List.setIfInBounds_toArray, List.set_cons_zero, List.set_cons_succ]
        refine take_at (i := 11) (v := .pointer (some ⟨w1.heap.size + 1, 6, none⟩)) rfl rfl (by kernel_rfl) (by kernel_rfl) (by kernel_rfl) (fun _ _ _ h => h) (Or.inl ⟨by rfl, ?_⟩) hH ?_
        · intro w5 hSw; obtain q1 := hSw; go_simp
        simp only [List.setIfInBounds_toArray, List.set_cons_zero, List.set_cons_succ]
        refine wpAnyH_ready (rs := [12]) (by kernel_rfl) (by simp) ?_
        refine AllReadyH.cons rfl (fun K hK => ?_) AllReadyH.nil
        go_simp
        have hH9 := hH
        clear hH
        refine hK.out _ _ ((cell_set_ne l2b (by show wr.heap.size ≠ w1.heap.size + 1; omega))) (fun hH => ?_)
        clear hK K
        try simp only [Act.put, List.setIfInBounds_toArray, List.set_cons_zero, List.set_cons_succ]
        refine wpAnyH_done (by kernel_rfl) ?_ _
        refine NoPanic.normal ?_
        go_wp2_with fail
        go_roundw
        case rel => exact ⟨k + 1, _, _, by go_num, hkl, HNX⟩
        case measure => simp [intOf]; omega
      · go_simp
        refine (HTN.out ky.uq _).mono ?_
        rintro e w5 ⟨g5, rfl, y5⟩
        obtain ⟨v6, w6, r6, l2, l2a, l2b, l4, l4a, ⟨v7, l6⟩, l7, ⟨p6, c6, rfl⟩, xs6, NX⟩ := HST.out w5 g5 y5
        have HNX := mkHid NX
        clear NX y5
        have hH9 := hH
        clear hH
        refine hK.out _ _ (l2) (fun hH => ?_)
        clear hK K
        try simp only [Act.put, List.setIfInBounds_toArray, List.set_cons_zero, List.set_cons_succ]
        refine wpAnyH_ready (rs := [4, 8]) (by kernel_rfl) (by simp) ?_
        refine AllReadyH.cons rfl (fun K hK => ?_) (AllReadyH.cons rfl (fun K hK => ?_) AllReadyH.nil)
        · go_simp
          have hH9 := hH
          clear hH
          refine hK.out _ _ (l2) (fun hH => ?_)
          clear hK K
          try simp only [Act.put, List.setIfInBounds_toArray, List.set_cons_zero, List.set_cons_succ]
          refine wpAnyH_ready (rs := [8]) (by kernel_rfl) (by simp) ?_
          refine AllReadyH.cons rfl (fun K hK => ?_) AllReadyH.nil
          go_simp
          have hH9 := hH
          clear hH
          refine hK.out _ _ (l2a) (fun hH => ?_)
          clear hK K
          try simp only [Act.put, List.setIfInBounds_toArray, List.set_cons_zero, List.set_cons_succ]
          refine wpAnyH_ready (rs := [9]) (by kernel_rfl) (by simp) ?_
          refine AllReadyH.cons rfl (fun K hK => ?_) AllReadyH.nil
          refine step_app 59 rfl (.tmp 25) (.tmp 29) rfl rfl rfl r6 ?_
          have hH9 := hH
          clear hH
          refine hK.out _ _ (l2b) (fun hH => ?_)
          clear hK K
          try simp only [Act.put, List.setIfInBounds_toArray]
          refine take_at (i := 10) (v := .pointer (some ⟨w1.heap.size + 1, 0, none⟩)) rfl rfl (by kernel_rfl) (by kernel_rfl) (by kernel_rfl) (fun _ _ _ h => h) (Or.inl ⟨by rfl, ?_⟩) hH ?_
          · intro w5 hSw; obtain q1 := hSw; go_simp
          simp only [List.setIfInBounds_toArray, List.set_cons_zero, List.set_cons_succ]
          refine take_at (i := 11) (v := .pointer (some ⟨w1.heap.size + 1, 6, none⟩)) rfl rfl (by kernel_rfl) (by kernel_rfl) (by kernel_rfl) (fun _ _ _ h => h) (Or.inl ⟨by rfl, ?_⟩) hH ?_
          · intro w5 hSw; obtain q1 := hSw; go_simp
          simp only [List.setIfInBounds_toArray, List.set_cons_zero, List.set_cons_succ]
          refine wpAnyH_ready (rs := [12]) (by kernel_rfl) (by simp) ?_
          refine AllReadyH.cons rfl (fun K hK => ?_) AllReadyH.nil
          go_simp
          have hH9 := hH
          clear hH
          refine hK.out _ _ ((cell_set_ne l2b (by show wr.heap.size ≠ w1.heap.size + 1; omega))) (fun hH => ?_)
          clear hK K
          try simp only [Act.put, List.setIfInBounds_toArray, List.set_cons_zero, List.set_cons_succ]
          refine wpAnyH_done (by kernel_rfl) ?_ _
          refine NoPanic.normal ?_
          go_wp2_with fail
          go_roundw
          case rel => exact ⟨k + 1, _, _, by go_num, hkl, HNX⟩
          case measure => simp [intOf]; omega
        · go_simp
          have hH9 := hH
          clear hH
          refine hK.out _ _ (l2a) (fun hH => ?_)
          clear hK K
          try simp only [Act.put, List.setIfInBounds_toArray, List.set_cons_zero, List.set_cons_succ]
          refine wpAnyH_ready (rs := [4]) (by kernel_rfl) (by simp) ?_
          refine AllReadyH.cons rfl (fun K hK => ?_) AllReadyH.nil
          go_simp
          have hH9 := hH
          clear hH
          refine hK.out _ _ (l2a) (fun hH => ?_)
          clear hK K
          try simp only [Act.put, List.setIfInBounds_toArray, List.set_cons_zero, List.set_cons_succ]
          refine wpAnyH_ready (rs := [9]) (by kernel_rfl) (by simp) ?_
          refine AllReadyH.cons rfl (fun K hK => ?_) AllReadyH.nil
          refine step_app 59 rfl (.tmp 25) (.tmp 29) rfl rfl rfl r6 ?_
          have hH9 := hH
          clear hH
          refine hK.out _ _ (l2b) (fun hH => ?_)
          clear hK K
          try simp only [Act.put, List.setIfInBounds_toArray]
          refine take_at (i := 10) (v := .pointer (some ⟨w1.heap.size + 1, 0, none⟩)) rfl rfl (by kernel_rfl) (by kernel_rfl) (by kernel_rfl) (fun _ _ _ h => h) (Or.inl ⟨by rfl, ?_⟩) hH ?_
          · intro w5 hSw; obtain q1 := hSw; go_simp
          simp only [List.setIfInBounds_toArray, List.set_cons_zero, List.set_cons_succ]
          refine take_at (i := 11) (v := .pointer (some ⟨w1.heap.size + 1, 6, none⟩)) rfl rfl (by kernel_rfl) (by kernel_rfl) (by kernel_rfl) (fun _ _ _ h => h) (Or.inl ⟨by rfl, ?_⟩) hH ?_
          · intro w5 hSw; obtain q1 := hSw; go_simp
          simp only [List.setIfInBounds_toArray, List.set_cons_zero, List.set_cons_succ]
          refine wpAnyH_ready (rs := [12]) (by kernel_rfl) (by simp) ?_
          refine AllReadyH.cons rfl (fun K hK => ?_) AllReadyH.nil
          go_simp
          have hH9 := hH
          clear hH
          refine hK.out _ _ ((cell_set_ne l2b (by show wr.heap.size ≠ w1.heap.size + 1; omega))) (fun hH => ?_)
          clear hK K
          try simp only [Act.put, List.setIfInBounds_toArray, List.set_cons_zero, List.set_cons_succ]
          refine wpAnyH_done (by kernel_rfl) ?_ _
          refine NoPanic.normal ?_
          go_wp2_with fail
          go_roundw
          case rel => exact ⟨k + 1, _, _, by go_num, hkl, HNX⟩
          case measure => simp [intOf]; omega
    · have HE : Hid (TxQ w (plT t) (.returned (.pointer (some ⟨w1.heap.size + 1, 0, none⟩))) wr) := ⟨_, _, _, _, _, _, _, _, rfl, hd.out.1, hd.out.2.2.1⟩
      clear hd
      go_wp2_with fail
      exact bodyPost_ret (v := .pointer (some ⟨w1.heap.size + 1, 0, none⟩)) (by simp [results, Tryz.results46, go_sem]) rfl HE.out
end Go.Proofs.YtecebjfcokmmkaaGreatDoor
