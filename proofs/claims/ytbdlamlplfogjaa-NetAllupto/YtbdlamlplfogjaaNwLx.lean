/-
  Walks: the document's net: a message received, walked.
-/
import Derived.Test.YtbdlamlplfogjaaGD
namespace Go.Proofs.Ytbdlamlplfogjaa
open Go.RowKit Go.Maps Go.Joins
variable {Q : Nat → Prop} {w w' : World} {d : Nat} {S : St} {T : Nat → Nat → List ByteArray} {R : Lr}

set_option maxHeartbeats 4000000 in
set_option maxRecDepth 100000 in
theorem rRecv_some (h : RL Q w d S T R) {i : Nat} (hs : isS S (i : Int) = true) {m : Nat × ByteArray} {rest : List (Nat × ByteArray)} (hm : S.ms i = m :: rest) (hl : rest.length ≤ 10000000) : Calls Try.prog 32 #[.pointer (some ⟨d, 0, none⟩), .int .i64 (i : Int)] w (RrQ Q w d S T (i : Int)) := by
  have IS : Hid (∀ W, w.grownBy W none → Calls Try.prog 44 #[.pointer (some ⟨d, 0, none⟩), .int .i64 (i : Int)] W fun e w' => e = .returned (.bool true) ∧ w' = W) := fun W g => by have := rIs_any (h.kept g) (i : Int); rw [hs] at this; exact this
  obtain ⟨i', hi', hi, _⟩ := isS_in hs
  obtain rfl : i = i' := by omega
  obtain ⟨c0, c1, c2, c3, _⟩ := h.cs
  obtain ⟨m0, _⟩ := h.mcell hi
  have hlen : (S.ms i).length = rest.length + 1 := by rw [hm]; rfl
  obtain ⟨g, o, c, ys, hv, hnc, hR, hc, hg, _⟩ := (h.mr i hi).cells (k := 0) (by omega)
  obtain ⟨bv, hy, hb⟩ := hR m (by rw [hm]; rfl)
  subst hy
  have HB := hb
  obtain ⟨pb, cb, rfl, _⟩ := hb
  obtain ⟨lb, hlb⟩ : ∃ lb, lb = m.2.data.toList.length := ⟨_, rfl⟩
  rw [← hlb] at hc HB
  have q0 := hc 0 _ rfl
  have q1 := hc 1 _ rfl
  rw [Nat.zero_mul, Nat.add_zero] at q0 q1
  rw [hlen] at hv hnc
  have hd := h.pb _ h.qd
  have hmg := h.pb _ h.qm
  obtain ⟨w2, hw2⟩ : ∃ w2, w2 = (w.alloc (.cells #[.int .i64 0, .slice none 0 0] 51)).alloc (.cells #[.int .i64 (m.1 : Int), .slice pb lb cb] 51) := ⟨_, rfl⟩
  have g2 : w.grownBy w2 none := by rw [hw2]; exact grown_al (grown_al (grown_refl _) _) _
  have s2 : w2.heap.size = w.heap.size + 2 := by rw [hw2]; simp
  have x1 : w2.heap[w.heap.size]? = some (.cells #[.int .i64 0, .slice none 0 0] 51 (0, 0)) := by rw [hw2]; exact al2_fst w _ _
  have x2 : w2.heap[w.heap.size + 1]? = some (.cells #[.int .i64 (m.1 : Int), .slice pb lb cb] 51 (0, 0)) := by rw [hw2]; exact al2_snd w _ _
  obtain ⟨p4, c4, W4, r4, gA, kb, U⟩ := (h.kept g2).recv_lay hi hm hl hv (W := w2.drew.alloc (.cells #[] 51)) (grown_al (grown_drew (grown_refl _)) _) (B := w2.heap.size) (heap_alloc_new w2.drew _) (Nat.le_refl _)
  have sz3 : (w2.drew.alloc (.cells #[] 51)).heap.size = w.heap.size + 3 := by simp [s2]
  have m1' := (kb w.heap.size (by omega) (by omega)).trans ((heap_alloc_old w2.drew _ (show w.heap.size < w2.heap.size by omega)).trans x1)
  have m2' := (kb (w.heap.size + 1) (by omega) (by omega)).trans ((heap_alloc_old w2.drew _ (show w.heap.size + 1 < w2.heap.size by omega)).trans x2)
  obtain ⟨a0, a1, af⟩ := cells2 ((heap_setCell_other W4 ⟨R.mg, i, none⟩ w.heap.size (.slice p4 rest.length c4) (show w.heap.size ≠ R.mg by omega)).trans m1')
  obtain ⟨b0, b1, _⟩ := cells2 ((heap_setCell_other W4 ⟨R.mg, i, none⟩ (w.heap.size + 1) (.slice p4 rest.length c4) (show w.heap.size + 1 ≠ R.mg by omega)).trans m2')
  have af0 := af 0
  have af1 := af 1
  obtain ⟨n4, f4⟩ := ((h.kept g2).kept gA).mcell hi
  have nd : d ≠ R.mg := fun e => by have := h.kb.1; rw [e, h.kb.2.2.2.1] at this; simp at this
  have x3 : (w2.alloc (.cells #[] 51)).cell? ⟨R.mg, i, none⟩ = some (R.mv i) := ((grown_al g2 _)).cell m0 (by simp)
  have x3' : w2.cell? ⟨R.mg, i, none⟩ = some (R.mv i) := g2.cell m0 (by simp)
  have K2 : Hid ((fun w' : World => w'.cell? ⟨d, 2, none⟩ = some (.slice (some ⟨R.mg, 0, none⟩) S.N R.mc)) w2.drew) := g2.cell c2 (by simp)
  have K3 : Hid ((fun w' : World => w'.cell? ⟨d, 2, none⟩ = some (.slice (some ⟨R.mg, 0, none⟩) S.N R.mc)) (w2.drew.alloc (.cells #[] 51))) := (grown_al (grown_drew g2) _).cell c2 (by simp)
  have K4 : Hid ((fun w' : World => w'.cell? ⟨d, 2, none⟩ = some (.slice (some ⟨R.mg, 0, none⟩) S.N R.mc)) W4) := gA.cell (g2.cell c2 (by simp)) (by simp)
  have K5 : Hid ((fun w' : World => w'.cell? ⟨d, 2, none⟩ = some (.slice (some ⟨R.mg, 0, none⟩) S.N R.mc)) (W4.setCell ⟨R.mg, i, none⟩ (.slice p4 rest.length c4))) := nSt1 nd K4.out
  have YY : Hid (∀ W7, Chg (fun x => x = w.heap.size) (W4.setCell ⟨R.mg, i, none⟩ (.slice p4 rest.length c4)) W7 → RrQ Q w d S T (i : Int) (.returned (.tuple #[.agg #[.int .i64 (m.1 : Int), .slice pb lb cb], .bool true, .int .i64 0])) W7) := fun W7 C => by
    have C0 : Chg (fun x => x = R.mg ∨ x = w.heap.size) w W7 := ((Chg.of_none (grown_none_trans g2 gA) _).set ⟨R.mg, i, none⟩ (.slice p4 rest.length c4) (Or.inl rfl)).trans (C.mono (fun x _ e => Or.inr e))
    have HB7 : byV W7 (ext Q w W7) (.slice pb lb cb) m.2 := HB.mv C0 (fun b hk hQ e => by
      rcases e with e | e
      · rw [e, h.kb.2.2.2.1] at hk; simp at hk
      · have := h.pb b hQ; omega) h.pb (fun _ => ext_le)
    refine Or.inr (Or.inr ⟨i, m, rest, pb, cb, rfl, hs, hm, by rw [← hlb]; rfl, by rw [← hlb]; exact HB7, U.box h.pb g2 C (Nat.le_refl _) (by omega)⟩)
  obtain ⟨RL1, hR1⟩ : ∃ RL1, RL1 = rest.length := ⟨_, rfl⟩
  rw [hv] at m0 n4 x3 x3'
  rw [← hR1] at m0 n4 x3 x3' r4 K5 YY a0 a1 b0 b1 af0 af1 hnc
  rw [s2] at r4
  have ii : (i : Int) < (S.N : Int) := by omega
  have i1 : (0 : Int) < ((RL1 + 1 : Nat) : Int) := by omega
  have i2 : (((RL1 + 1 : Nat) : Int) == 0) = false := by rw [beq_eq_false_iff_ne]; omega
  have i3 : 1 ≤ c := by omega
  have i5 : ¬ ((RL1 : Int) + 1 < 1) := by omega
  have i6 : (RL1 : Int) + 1 ≤ (c : Int) := by omega
  have i7 : (1 : Int) ≤ (RL1 : Int) + 1 := by omega
  have i4 : ((RL1 + 1 : Nat) : Int) ≤ (c : Int) := by omega
  subst hw2
  clear h hs hR hc hlb hR1 hv hm HB kb U m1' m2' x1 x2 g2 gA sz3 s2 af hl hlen nd
  by_cases hcc : c = 1
  · rw [if_pos hcc] at r4
    go_enter Try.func32, Try.ntmps32
    go_wp2_with fail
    refine (IS.out _ (grown_al (grown_refl _) _)).mono ?_
    rintro e w1 ⟨rfl, hwx⟩; have hwx2 := hwx.symm; subst hwx2; clear hwx
    go_wp2_with fail
    refine wp_region_noPanic ?_
    refine wp_region_held_drew (S := fun w' : World => w'.cell? ⟨d, 2, none⟩ = some (.slice (some ⟨R.mg, 0, none⟩) S.N R.mc)) (by kernel_rfl) K2.out (fun hH => ?_)
    refine take_at (i := 0) (v := .pointer (some ⟨d, 0, none⟩)) rfl rfl (by kernel_rfl) (by kernel_rfl) (by kernel_rfl) (fun _ _ _ h => h) (Or.inl ⟨by rfl, ?_⟩) hH ?_
    · intro w5 hSw; have s0 := hSw; go_simp
    simp only [List.setIfInBounds_toArray, List.set_cons_zero, List.set_cons_succ]
    refine take_at (i := 1) (v := .pointer (some ⟨d, 0, none⟩)) rfl rfl (by kernel_rfl) (by kernel_rfl) (by kernel_rfl) (fun _ _ _ h => h) (Or.inl ⟨by rfl, ?_⟩) hH ?_
    · intro w5 hSw; have s0 := hSw; go_simp
    simp only [List.setIfInBounds_toArray, List.set_cons_zero, List.set_cons_succ]
    refine take_at (i := 2) (v := .pointer (some ⟨d, 2, none⟩)) rfl rfl (by kernel_rfl) (by kernel_rfl) (by kernel_rfl) (fun _ _ _ h => h) (Or.inl ⟨by rfl, ?_⟩) hH ?_
    · intro w5 hSw; have s0 := hSw; go_simp
    simp only [List.setIfInBounds_toArray, List.set_cons_zero, List.set_cons_succ]
    refine take_at (i := 3) (v := .slice (some ⟨R.mg, 0, none⟩) S.N R.mc) rfl rfl (by kernel_rfl) (by kernel_rfl) (by kernel_rfl) (fun _ _ _ h => h) (Or.inl ⟨by rfl, ?_⟩) hH ?_
    · intro w5 hSw; have s0 := hSw; go_simp
    simp only [List.setIfInBounds_toArray, List.set_cons_zero, List.set_cons_succ]
    refine take_at (i := 4) (v := .int .i64 (i : Int)) rfl rfl (by kernel_rfl) (by kernel_rfl) (by kernel_rfl) (fun _ _ _ h => h) (Or.inl ⟨by rfl, ?_⟩) hH ?_
    · intro w5 hSw; have s0 := hSw; go_simp
    simp only [List.setIfInBounds_toArray, List.set_cons_zero, List.set_cons_succ]
    refine take_at (i := 6) (v := .pointer (some ⟨d, 0, none⟩)) rfl rfl (by kernel_rfl) (by kernel_rfl) (by kernel_rfl) (fun _ _ _ h => h) (Or.inl ⟨by rfl, ?_⟩) hH ?_
    · intro w5 hSw; have s0 := hSw; go_simp
    simp only [List.setIfInBounds_toArray, List.set_cons_zero, List.set_cons_succ]
    refine take_at (i := 7) (v := .pointer (some ⟨d, 0, none⟩)) rfl rfl (by kernel_rfl) (by kernel_rfl) (by kernel_rfl) (fun _ _ _ h => h) (Or.inl ⟨by rfl, ?_⟩) hH ?_
    · intro w5 hSw; have s0 := hSw; go_simp
    simp only [List.setIfInBounds_toArray, List.set_cons_zero, List.set_cons_succ]
    refine take_at (i := 8) (v := .pointer (some ⟨d, 2, none⟩)) rfl rfl (by kernel_rfl) (by kernel_rfl) (by kernel_rfl) (fun _ _ _ h => h) (Or.inl ⟨by rfl, ?_⟩) hH ?_
    · intro w5 hSw; have s0 := hSw; go_simp
    simp only [List.setIfInBounds_toArray, List.set_cons_zero, List.set_cons_succ]
    refine take_at (i := 9) (v := .slice (some ⟨R.mg, 0, none⟩) S.N R.mc) rfl rfl (by kernel_rfl) (by kernel_rfl) (by kernel_rfl) (fun _ _ _ h => h) (Or.inl ⟨by rfl, ?_⟩) hH ?_
    · intro w5 hSw; have s0 := hSw; go_simp
    simp only [List.setIfInBounds_toArray, List.set_cons_zero, List.set_cons_succ]
    refine take_at (i := 10) (v := .int .i64 (i : Int)) rfl rfl (by kernel_rfl) (by kernel_rfl) (by kernel_rfl) (fun _ _ _ h => h) (Or.inl ⟨by rfl, ?_⟩) hH ?_
    · intro w5 hSw; have s0 := hSw; go_simp
    simp only [List.setIfInBounds_toArray, List.set_cons_zero, List.set_cons_succ]
    refine take_at (i := 11) (v := .pointer (some ⟨R.mg, i, none⟩)) rfl rfl (by kernel_rfl) (by kernel_rfl) (by kernel_rfl) (fun _ _ _ h => h) (Or.inl ⟨by rfl, ?_⟩) hH ?_
    · intro w5 hSw; have s0 := hSw; go_simp
    simp only [List.setIfInBounds_toArray, List.set_cons_zero, List.set_cons_succ]
    refine wpAnyH_ready (rs := [5, 12]) (by kernel_rfl) (by simp) ?_
    refine AllReadyH.cons rfl (fun K hK => ?_) (AllReadyH.cons rfl (fun K hK => ?_) AllReadyH.nil)
    · go_simp
      refine hK.out _ _ K3.out (fun hH => ?_)
      clear hK K
      refine wpAnyH_ready (rs := [12]) (by kernel_rfl) (by simp) ?_
      refine AllReadyH.cons rfl (fun K hK => ?_) AllReadyH.nil
      · go_simp
        refine hK.out _ _ K3.out (fun hH => ?_)
        clear hK K
        refine take_at (i := 13) (v := .slice (some ⟨g, o, none⟩) RL1 0) rfl rfl (by kernel_rfl) (by kernel_rfl) (by kernel_rfl) (fun _ _ _ h => h) (Or.inl ⟨by rfl, ?_⟩) hH ?_
        · intro w5 hSw; have s0 := hSw; go_simp
        simp only [List.setIfInBounds_toArray, List.set_cons_zero, List.set_cons_succ]
        refine wpAnyH_ready (rs := [14]) (by kernel_rfl) (by simp) ?_
        refine AllReadyH.cons rfl (fun K hK => ?_) AllReadyH.nil
        · refine step_app 94 rfl (.tmp 37) (.tmp 45) rfl rfl rfl r4 ?_
          refine hK.out _ _ K4.out (fun hH => ?_)
          clear hK K
          go_simp
          refine take_at (i := 15) (v := .pointer (some ⟨R.mg, i, none⟩)) rfl rfl (by kernel_rfl) (by kernel_rfl) (by kernel_rfl) (fun _ _ _ h => h) (Or.inl ⟨by rfl, ?_⟩) hH ?_
          · intro w5 hSw; have s0 := hSw; go_simp
          simp only [List.setIfInBounds_toArray, List.set_cons_zero, List.set_cons_succ]
          refine wpAnyH_ready (rs := [16]) (by kernel_rfl) (by simp) ?_
          refine AllReadyH.cons rfl (fun K hK => ?_) AllReadyH.nil
          · go_simp
            refine hK.out _ _ K5.out (fun hH => ?_)
            clear hK K
            refine wpAnyH_done (by kernel_rfl) ?_ _
            refine NoPanic.normal ?_
            go_wp2_with fail
            refine bodyPost_ret (v := .tuple #[.agg #[.int .i64 (m.1 : Int), .slice pb lb cb], .bool true, .int .i64 0]) (by unfold results; rw [Try.results32]; go_simp) rfl ?_
            exact YY.out _ (((Chg.refl (fun x => x = w.heap.size) (W4.setCell ⟨R.mg, i, none⟩ (.slice p4 RL1 c4))).set ⟨w.heap.size, 0, none⟩ (.int .i64 (m.1 : Int)) rfl).set ⟨w.heap.size, 1, none⟩ (.slice pb lb cb) rfl)
    · go_simp
      refine hK.out _ _ K2.out (fun hH => ?_)
      clear hK K
      refine take_at (i := 13) (v := .slice (some ⟨g, o, none⟩) RL1 0) rfl rfl (by kernel_rfl) (by kernel_rfl) (by kernel_rfl) (fun _ _ _ h => h) (Or.inl ⟨by rfl, ?_⟩) hH ?_
      · intro w5 hSw; have s0 := hSw; go_simp
      simp only [List.setIfInBounds_toArray, List.set_cons_zero, List.set_cons_succ]
      refine wpAnyH_ready (rs := [5]) (by kernel_rfl) (by simp) ?_
      refine AllReadyH.cons rfl (fun K hK => ?_) AllReadyH.nil
      · go_simp
        refine hK.out _ _ K3.out (fun hH => ?_)
        clear hK K
        refine wpAnyH_ready (rs := [14]) (by kernel_rfl) (by simp) ?_
        refine AllReadyH.cons rfl (fun K hK => ?_) AllReadyH.nil
        · refine step_app 94 rfl (.tmp 37) (.tmp 45) rfl rfl rfl r4 ?_
          refine hK.out _ _ K4.out (fun hH => ?_)
          clear hK K
          go_simp
          refine take_at (i := 15) (v := .pointer (some ⟨R.mg, i, none⟩)) rfl rfl (by kernel_rfl) (by kernel_rfl) (by kernel_rfl) (fun _ _ _ h => h) (Or.inl ⟨by rfl, ?_⟩) hH ?_
          · intro w5 hSw; have s0 := hSw; go_simp
          simp only [List.setIfInBounds_toArray, List.set_cons_zero, List.set_cons_succ]
          refine wpAnyH_ready (rs := [16]) (by kernel_rfl) (by simp) ?_
          refine AllReadyH.cons rfl (fun K hK => ?_) AllReadyH.nil
          · go_simp
            refine hK.out _ _ K5.out (fun hH => ?_)
            clear hK K
            refine wpAnyH_done (by kernel_rfl) ?_ _
            refine NoPanic.normal ?_
            go_wp2_with fail
            refine bodyPost_ret (v := .tuple #[.agg #[.int .i64 (m.1 : Int), .slice pb lb cb], .bool true, .int .i64 0]) (by unfold results; rw [Try.results32]; go_simp) rfl ?_
            exact YY.out _ (((Chg.refl (fun x => x = w.heap.size) (W4.setCell ⟨R.mg, i, none⟩ (.slice p4 RL1 c4))).set ⟨w.heap.size, 0, none⟩ (.int .i64 (m.1 : Int)) rfl).set ⟨w.heap.size, 1, none⟩ (.slice pb lb cb) rfl)
  · rw [if_neg hcc] at r4
    go_enter Try.func32, Try.ntmps32
    go_wp2_with fail
    refine (IS.out _ (grown_al (grown_refl _) _)).mono ?_
    rintro e w1 ⟨rfl, hwx⟩; have hwx2 := hwx.symm; subst hwx2; clear hwx
    go_wp2_with fail
    refine wp_region_noPanic ?_
    refine wp_region_held_drew (S := fun w' : World => w'.cell? ⟨d, 2, none⟩ = some (.slice (some ⟨R.mg, 0, none⟩) S.N R.mc)) (by kernel_rfl) K2.out (fun hH => ?_)
    refine take_at (i := 0) (v := .pointer (some ⟨d, 0, none⟩)) rfl rfl (by kernel_rfl) (by kernel_rfl) (by kernel_rfl) (fun _ _ _ h => h) (Or.inl ⟨by rfl, ?_⟩) hH ?_
    · intro w5 hSw; have s0 := hSw; go_simp
    simp only [List.setIfInBounds_toArray, List.set_cons_zero, List.set_cons_succ]
    refine take_at (i := 1) (v := .pointer (some ⟨d, 0, none⟩)) rfl rfl (by kernel_rfl) (by kernel_rfl) (by kernel_rfl) (fun _ _ _ h => h) (Or.inl ⟨by rfl, ?_⟩) hH ?_
    · intro w5 hSw; have s0 := hSw; go_simp
    simp only [List.setIfInBounds_toArray, List.set_cons_zero, List.set_cons_succ]
    refine take_at (i := 2) (v := .pointer (some ⟨d, 2, none⟩)) rfl rfl (by kernel_rfl) (by kernel_rfl) (by kernel_rfl) (fun _ _ _ h => h) (Or.inl ⟨by rfl, ?_⟩) hH ?_
    · intro w5 hSw; have s0 := hSw; go_simp
    simp only [List.setIfInBounds_toArray, List.set_cons_zero, List.set_cons_succ]
    refine take_at (i := 3) (v := .slice (some ⟨R.mg, 0, none⟩) S.N R.mc) rfl rfl (by kernel_rfl) (by kernel_rfl) (by kernel_rfl) (fun _ _ _ h => h) (Or.inl ⟨by rfl, ?_⟩) hH ?_
    · intro w5 hSw; have s0 := hSw; go_simp
    simp only [List.setIfInBounds_toArray, List.set_cons_zero, List.set_cons_succ]
    refine take_at (i := 4) (v := .int .i64 (i : Int)) rfl rfl (by kernel_rfl) (by kernel_rfl) (by kernel_rfl) (fun _ _ _ h => h) (Or.inl ⟨by rfl, ?_⟩) hH ?_
    · intro w5 hSw; have s0 := hSw; go_simp
    simp only [List.setIfInBounds_toArray, List.set_cons_zero, List.set_cons_succ]
    refine take_at (i := 6) (v := .pointer (some ⟨d, 0, none⟩)) rfl rfl (by kernel_rfl) (by kernel_rfl) (by kernel_rfl) (fun _ _ _ h => h) (Or.inl ⟨by rfl, ?_⟩) hH ?_
    · intro w5 hSw; have s0 := hSw; go_simp
    simp only [List.setIfInBounds_toArray, List.set_cons_zero, List.set_cons_succ]
    refine take_at (i := 7) (v := .pointer (some ⟨d, 0, none⟩)) rfl rfl (by kernel_rfl) (by kernel_rfl) (by kernel_rfl) (fun _ _ _ h => h) (Or.inl ⟨by rfl, ?_⟩) hH ?_
    · intro w5 hSw; have s0 := hSw; go_simp
    simp only [List.setIfInBounds_toArray, List.set_cons_zero, List.set_cons_succ]
    refine take_at (i := 8) (v := .pointer (some ⟨d, 2, none⟩)) rfl rfl (by kernel_rfl) (by kernel_rfl) (by kernel_rfl) (fun _ _ _ h => h) (Or.inl ⟨by rfl, ?_⟩) hH ?_
    · intro w5 hSw; have s0 := hSw; go_simp
    simp only [List.setIfInBounds_toArray, List.set_cons_zero, List.set_cons_succ]
    refine take_at (i := 9) (v := .slice (some ⟨R.mg, 0, none⟩) S.N R.mc) rfl rfl (by kernel_rfl) (by kernel_rfl) (by kernel_rfl) (fun _ _ _ h => h) (Or.inl ⟨by rfl, ?_⟩) hH ?_
    · intro w5 hSw; have s0 := hSw; go_simp
    simp only [List.setIfInBounds_toArray, List.set_cons_zero, List.set_cons_succ]
    refine take_at (i := 10) (v := .int .i64 (i : Int)) rfl rfl (by kernel_rfl) (by kernel_rfl) (by kernel_rfl) (fun _ _ _ h => h) (Or.inl ⟨by rfl, ?_⟩) hH ?_
    · intro w5 hSw; have s0 := hSw; go_simp
    simp only [List.setIfInBounds_toArray, List.set_cons_zero, List.set_cons_succ]
    refine take_at (i := 11) (v := .pointer (some ⟨R.mg, i, none⟩)) rfl rfl (by kernel_rfl) (by kernel_rfl) (by kernel_rfl) (fun _ _ _ h => h) (Or.inl ⟨by rfl, ?_⟩) hH ?_
    · intro w5 hSw; have s0 := hSw; go_simp
    simp only [List.setIfInBounds_toArray, List.set_cons_zero, List.set_cons_succ]
    refine wpAnyH_ready (rs := [5, 12]) (by kernel_rfl) (by simp) ?_
    refine AllReadyH.cons rfl (fun K hK => ?_) (AllReadyH.cons rfl (fun K hK => ?_) AllReadyH.nil)
    · go_simp
      refine hK.out _ _ K3.out (fun hH => ?_)
      clear hK K
      refine wpAnyH_ready (rs := [12]) (by kernel_rfl) (by simp) ?_
      refine AllReadyH.cons rfl (fun K hK => ?_) AllReadyH.nil
      · go_simp
        refine hK.out _ _ K3.out (fun hH => ?_)
        clear hK K
        refine take_at (i := 13) (v := .slice (some ⟨g, o + 2, none⟩) RL1 (c - 1)) rfl rfl (by kernel_rfl) (by kernel_rfl) (by kernel_rfl) (fun _ _ _ h => h) (Or.inl ⟨by rfl, ?_⟩) hH ?_
        · intro w5 hSw; have s0 := hSw; go_simp
        simp only [List.setIfInBounds_toArray, List.set_cons_zero, List.set_cons_succ]
        refine wpAnyH_ready (rs := [14]) (by kernel_rfl) (by simp) ?_
        refine AllReadyH.cons rfl (fun K hK => ?_) AllReadyH.nil
        · refine step_app 94 rfl (.tmp 37) (.tmp 45) rfl rfl rfl r4 ?_
          refine hK.out _ _ K4.out (fun hH => ?_)
          clear hK K
          go_simp
          refine take_at (i := 15) (v := .pointer (some ⟨R.mg, i, none⟩)) rfl rfl (by kernel_rfl) (by kernel_rfl) (by kernel_rfl) (fun _ _ _ h => h) (Or.inl ⟨by rfl, ?_⟩) hH ?_
          · intro w5 hSw; have s0 := hSw; go_simp
          simp only [List.setIfInBounds_toArray, List.set_cons_zero, List.set_cons_succ]
          refine wpAnyH_ready (rs := [16]) (by kernel_rfl) (by simp) ?_
          refine AllReadyH.cons rfl (fun K hK => ?_) AllReadyH.nil
          · go_simp
            refine hK.out _ _ K5.out (fun hH => ?_)
            clear hK K
            refine wpAnyH_done (by kernel_rfl) ?_ _
            refine NoPanic.normal ?_
            go_wp2_with fail
            refine bodyPost_ret (v := .tuple #[.agg #[.int .i64 (m.1 : Int), .slice pb lb cb], .bool true, .int .i64 0]) (by unfold results; rw [Try.results32]; go_simp) rfl ?_
            exact YY.out _ (((Chg.refl (fun x => x = w.heap.size) (W4.setCell ⟨R.mg, i, none⟩ (.slice p4 RL1 c4))).set ⟨w.heap.size, 0, none⟩ (.int .i64 (m.1 : Int)) rfl).set ⟨w.heap.size, 1, none⟩ (.slice pb lb cb) rfl)
    · go_simp
      refine hK.out _ _ K2.out (fun hH => ?_)
      clear hK K
      refine take_at (i := 13) (v := .slice (some ⟨g, o + 2, none⟩) RL1 (c - 1)) rfl rfl (by kernel_rfl) (by kernel_rfl) (by kernel_rfl) (fun _ _ _ h => h) (Or.inl ⟨by rfl, ?_⟩) hH ?_
      · intro w5 hSw; have s0 := hSw; go_simp
      simp only [List.setIfInBounds_toArray, List.set_cons_zero, List.set_cons_succ]
      refine wpAnyH_ready (rs := [5]) (by kernel_rfl) (by simp) ?_
      refine AllReadyH.cons rfl (fun K hK => ?_) AllReadyH.nil
      · go_simp
        refine hK.out _ _ K3.out (fun hH => ?_)
        clear hK K
        refine wpAnyH_ready (rs := [14]) (by kernel_rfl) (by simp) ?_
        refine AllReadyH.cons rfl (fun K hK => ?_) AllReadyH.nil
        · refine step_app 94 rfl (.tmp 37) (.tmp 45) rfl rfl rfl r4 ?_
          refine hK.out _ _ K4.out (fun hH => ?_)
          clear hK K
          go_simp
          refine take_at (i := 15) (v := .pointer (some ⟨R.mg, i, none⟩)) rfl rfl (by kernel_rfl) (by kernel_rfl) (by kernel_rfl) (fun _ _ _ h => h) (Or.inl ⟨by rfl, ?_⟩) hH ?_
          · intro w5 hSw; have s0 := hSw; go_simp
          simp only [List.setIfInBounds_toArray, List.set_cons_zero, List.set_cons_succ]
          refine wpAnyH_ready (rs := [16]) (by kernel_rfl) (by simp) ?_
          refine AllReadyH.cons rfl (fun K hK => ?_) AllReadyH.nil
          · go_simp
            refine hK.out _ _ K5.out (fun hH => ?_)
            clear hK K
            refine wpAnyH_done (by kernel_rfl) ?_ _
            refine NoPanic.normal ?_
            go_wp2_with fail
            refine bodyPost_ret (v := .tuple #[.agg #[.int .i64 (m.1 : Int), .slice pb lb cb], .bool true, .int .i64 0]) (by unfold results; rw [Try.results32]; go_simp) rfl ?_
            exact YY.out _ (((Chg.refl (fun x => x = w.heap.size) (W4.setCell ⟨R.mg, i, none⟩ (.slice p4 RL1 c4))).set ⟨w.heap.size, 0, none⟩ (.int .i64 (m.1 : Int)) rfl).set ⟨w.heap.size, 1, none⟩ (.slice pb lb cb) rfl)
theorem rRecv_any (h : RL Q w d S T R) (k : Int) (hl : ∀ i, (S.ms i).length ≤ 10000000) : Calls Try.prog 32 #[.pointer (some ⟨d, 0, none⟩), .int .i64 k] w (RrQ Q w d S T k) := by
  cases hs : isS S k with
  | false => exact rRecv_no h k hs
  | true =>
    obtain ⟨i, rfl, _, _⟩ := isS_in hs
    cases hm : S.ms i with
    | nil => exact rRecv_none h hs hm
    | cons m rest => exact rRecv_some h hs hm (by have := hl i; rw [hm] at this; simp at this; omega)
end Go.Proofs.Ytbdlamlplfogjaa
