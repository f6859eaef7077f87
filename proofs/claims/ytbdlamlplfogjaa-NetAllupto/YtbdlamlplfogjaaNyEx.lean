/-
  Walks: the document's net copied.
-/
import Derived.Test.YtbdlamlplfogjaaGP
namespace Go.Proofs.Ytbdlamlplfogjaa
open Go.RowKit Go.Maps Go.Joins
variable {Q : Nat → Prop} {w w' wr W : World} {d : Nat} {S : St} {T : Nat → Nat → List ByteArray} {R : Lr}

theorem CpF_start {N n4 : Nat} {v1 v3 v4 : Value} {l1 l3 l4 : List Value} {ys : Nat → List Value} (g : w.grownBy W none) (h1 : xRow w 4 1 N v1 l1 W) (h3 : xRow w 94 1 N v3 l3 W) (h4 : xRow w 97 6 n4 v4 l4 W) : CpF w N n4 W.heap.size 0 v1 (.slice none 0 0) v3 v4 l1 l3 l4 ys [] (W.alloc (.cells #[v1, .slice none 0 0, v3, v4] 90)) := by
  have ga := grown_al (grown_refl W) (.cells #[v1, .slice none 0 0, v3, v4] 90)
  have C := Chg.of_none ga (fun _ => False)
  exact ⟨grown_none_trans g ga, g.size, heap_alloc_new _ _, h1.kept C (fun _ _ e => e), xRow_nil _ _ _ _, h3.kept C (fun _ _ e => e), h4.kept C (fun _ _ e => e), fun j u hj => by simp at hj, fun i j u u' _ hi => by simp at hi⟩
/-- what Copy answers -/
def CyQ (Q : Nat → Prop) (w : World) (S : St) (T : Nat → Nat → List ByteArray) (r : Ending) (w' : World) : Prop := ∃ cb R', r = .returned (.pointer (some ⟨cb, 0, none⟩)) ∧ RL (ext Q w w') w' cb S T R' ∧ w.grownBy w' none ∧ w.heap.size ≤ cb ∧ NewR w S.N R'
set_option maxHeartbeats 8000000 in
set_option maxRecDepth 100000 in
theorem rCopy_any (h : RL Q w d S T R) (hfl : S.fl.length ≤ 4096) : Calls Try.prog 8 #[.pointer (some ⟨d, 0, none⟩)] w (CyQ Q w S T) := by
  obtain ⟨c0, c1, c2, c3, _⟩ := h.cs
  obtain ⟨pa, ca, hav, _⟩ := h.ar.form
  obtain ⟨cT, bT, sT, yT⟩ := h.th
  obtain ⟨cM, bM, sM, yM⟩ := h.mo
  obtain ⟨xs4, q1, q2, q3, q4⟩ := h.ar
  have n64 := h.n64
  have cp := h.cp
  obtain ⟨N, hN⟩ : ∃ N, N = S.N := ⟨_, rfl⟩
  obtain ⟨n4, hn4⟩ : ∃ n4, n4 = S.fl.length := ⟨_, rfl⟩
  have one : ∀ i, i < S.N → (R.mv i).oneCell' = true := fun i hi => by obtain ⟨p, c, e, _⟩ := (h.mr i hi).form; rw [e]; rfl
  have onS : ∀ i j, i < S.N → j < S.N → (R.sv i j).oneCell' = true := fun i j hi hj => by obtain ⟨p, c, e, _⟩ := (h.sr i j hi hj).form; rw [e]; rfl
  have SRC1 : Hid (srcS w 1 (some ⟨R.tg, 0, none⟩) N R.tc (cT.toList.take (N * 1))) := by
    rw [hN]
    exact src_row R.tc bT (by omega) (fun j hj => ⟨_, yT j (by omega), rfl⟩)
  have SRC3 : Hid (srcS w 1 (some ⟨R.mg, 0, none⟩) N R.mc (cM.toList.take (N * 1))) := by
    rw [hN]
    exact src_row R.mc bM (by omega) (fun j hj => ⟨_, yM j (by omega), one j (by omega)⟩)
  have SRC4 : Hid (srcS w 6 pa n4 ca xs4) := by
    rw [hn4]
    rw [hav] at q1
    exact q1.src q3
  have ex : ∀ i, i < S.N → ∃ cur : Array Value, w.heap[R.yb i]? = some (.cells cur 108 (0, 0)) ∧ cur.size = R.yk i * 4 ∧ ∀ j, j < S.N → cur[j * 4]? = some (.int .u64 (((S.wy i j).b + 1 : Nat) : Int)) ∧ cur[j * 4 + 1]? = some (R.sv i j) ∧ cur[j * 4 + 2]? = some (.int .i64 ((S.wy i j).t : Int)) ∧ cur[j * 4 + 3]? = some (.int .i64 ((S.wy i j).c : Int)) := h.yr
  obtain ⟨cW, hW⟩ := choose_below ex
  obtain ⟨ys, hys⟩ : ∃ ys : Nat → List Value, ys = fun i => (cW i).toList.take (N * 4) := ⟨_, rfl⟩
  have SRW : Hid (∀ i, i < N → srcS w 4 (some ⟨R.yb i, 0, none⟩) N (R.yk i) (ys i)) := fun i hi => by
    rw [hys]
    have hi' : i < S.N := by omega
    obtain ⟨k1, k2, k3⟩ := hW i hi'
    have hk := (cp.2.2.2.2.2.2 i hi').1
    refine src_row (R.yk i) k1 (by rw [k2, hN]; exact Nat.mul_le_mul_right _ hk) (fun j hj => ?_)
    have hq : j / 4 < S.N := by omega
    obtain ⟨a0, a1, a2, a3⟩ := k3 (j / 4) hq
    have hm : j = j / 4 * 4 + j % 4 := by omega
    have hr : j % 4 = 0 ∨ j % 4 = 1 ∨ j % 4 = 2 ∨ j % 4 = 3 := by omega
    rcases hr with e | e | e | e
    · rw [hm, e, Nat.add_zero]; exact ⟨_, a0, rfl⟩
    · rw [hm, e]; exact ⟨_, a1, onS _ _ hi' hq⟩
    · rw [hm, e]; exact ⟨_, a2, rfl⟩
    · rw [hm, e]; exact ⟨_, a3, rfl⟩
  have FN : Hid (∀ cb v1 v2 v3 v4 x2 wr, CpF w N n4 cb N v1 v2 v3 v4 (cT.toList.take (N * 1)) (cM.toList.take (N * 1)) xs4 ys x2 wr → CyQ Q w S T (.returned (.pointer (some ⟨cb, 0, none⟩))) wr) := fun cb v1 v2 v3 v4 x2 wr F => by
    have F' := F
    rw [hN, hn4] at F'
    obtain ⟨R', hR', hnew⟩ := CpF.fin h F' (fun i hi => by rw [take_get (by omega)]; exact yT i hi) (fun i hi => by rw [take_get (by omega)]; exact yM i hi) q4 q3 (fun i j hi hj => by
      obtain ⟨a0, a1, a2, a3⟩ := (hW i hi).2.2 j hj
      rw [hys]
      show ((cW i).toList.take (N * 4))[j * 4]? = _ ∧ ((cW i).toList.take (N * 4))[j * 4 + 1]? = _ ∧ ((cW i).toList.take (N * 4))[j * 4 + 2]? = _ ∧ ((cW i).toList.take (N * 4))[j * 4 + 3]? = _
      rw [take_get (by omega), take_get (by omega), take_get (by omega), take_get (by omega)]
      exact ⟨a0, a1, a2, a3⟩)
    exact ⟨cb, R', rfl, hR', F.gr, F.od, hnew⟩
  have YC : Hid (∀ i, i < N → w.cell? ⟨R.yg, i, none⟩ = some (.slice (some ⟨R.yb i, 0, none⟩) N (R.yk i))) := fun i hi => by
    have := (h.ycell (i := i) (j := i) (by omega) (by omega)).1
    rw [hN]; exact this
  have hdl := h.pb _ h.qd
  have hgl := h.pb _ h.qy
  rw [hav] at c3
  rw [← hN] at c0 c1 c2 n64
  rw [← hn4] at c3 hfl
  have KS : Hid (∀ W, w.grownBy W none → (fun w' : World => w'.cell? ⟨d, 0, none⟩ = some (.slice (some ⟨R.tg, 0, none⟩) N R.tc) ∧ w'.cell? ⟨d, 2, none⟩ = some (.slice (some ⟨R.mg, 0, none⟩) N R.mc) ∧ w'.cell? ⟨d, 3, none⟩ = some (.slice pa n4 ca)) W) := fun W g => ⟨g.cell c0 (by simp), g.cell c2 (by simp), g.cell c3 (by simp)⟩
  have C1 := mkHid c1
  clear h hav bT sT yT bM sM yM q1 q2 q3 q4 cp one onS ex hW hys hN hn4 c0 c1 c2 c3
  go_enter Try.func8, Try.ntmps8
  go_upto_region 1 with fail
  go_cut [3] from 5 to 24 (fun s3 wz => ∃ (cb : Nat) (v1 v3 v4 : Value), s3 = .pointer (some ⟨cb, 0, none⟩) ∧ Hid (CpF w N n4 cb 0 v1 (.slice none 0 0) v3 v4 (cT.toList.take (N * 1)) (cM.toList.take (N * 1)) xs4 ys [] wz))
  case first =>
    refine wp_region_noPanic ?_
    refine wp_region_held_drew (S := fun w' : World => w'.cell? ⟨d, 0, none⟩ = some (.slice (some ⟨R.tg, 0, none⟩) N R.tc) ∧ w'.cell? ⟨d, 2, none⟩ = some (.slice (some ⟨R.mg, 0, none⟩) N R.mc) ∧ w'.cell? ⟨d, 3, none⟩ = some (.slice pa n4 ca)) (by kernel_rfl) (KS.out _ (grown_drew (grown_refl _))) (fun hH => ?_)
    refine take_at (i := 1) (v := .pointer (some ⟨d, 0, none⟩)) rfl rfl (by kernel_rfl) (by kernel_rfl) (by kernel_rfl) (fun _ _ _ h => h) (Or.inl ⟨by rfl, ?_⟩) hH ?_
    · intro w5 hSw; obtain ⟨s0, s1, s2⟩ := hSw; go_simp
    simp only [List.setIfInBounds_toArray, List.set_cons_zero, List.set_cons_succ]
    refine take_at (i := 2) (v := .pointer (some ⟨d, 0, none⟩)) rfl rfl (by kernel_rfl) (by kernel_rfl) (by kernel_rfl) (fun _ _ _ h => h) (Or.inl ⟨by rfl, ?_⟩) hH ?_
    · intro w5 hSw; obtain ⟨s0, s1, s2⟩ := hSw; go_simp
    simp only [List.setIfInBounds_toArray, List.set_cons_zero, List.set_cons_succ]
    refine take_at (i := 3) (v := .pointer (some ⟨d, 0, none⟩)) rfl rfl (by kernel_rfl) (by kernel_rfl) (by kernel_rfl) (fun _ _ _ h => h) (Or.inl ⟨by rfl, ?_⟩) hH ?_
    · intro w5 hSw; obtain ⟨s0, s1, s2⟩ := hSw; go_simp
    simp only [List.setIfInBounds_toArray, List.set_cons_zero, List.set_cons_succ]
    refine take_at (i := 4) (v := .slice (some ⟨R.tg, 0, none⟩) N R.tc) rfl rfl (by kernel_rfl) (by kernel_rfl) (by kernel_rfl) (fun _ _ _ h => h) (Or.inl ⟨by rfl, ?_⟩) hH ?_
    · intro w5 hSw; obtain ⟨s0, s1, s2⟩ := hSw; go_simp
    simp only [List.setIfInBounds_toArray, List.set_cons_zero, List.set_cons_succ]
    refine take_at (i := 7) (v := .pointer (some ⟨d, 0, none⟩)) rfl rfl (by kernel_rfl) (by kernel_rfl) (by kernel_rfl) (fun _ _ _ h => h) (Or.inl ⟨by rfl, ?_⟩) hH ?_
    · intro w5 hSw; obtain ⟨s0, s1, s2⟩ := hSw; go_simp
    simp only [List.setIfInBounds_toArray, List.set_cons_zero, List.set_cons_succ]
    refine take_at (i := 8) (v := .pointer (some ⟨d, 0, none⟩)) rfl rfl (by kernel_rfl) (by kernel_rfl) (by kernel_rfl) (fun _ _ _ h => h) (Or.inl ⟨by rfl, ?_⟩) hH ?_
    · intro w5 hSw; obtain ⟨s0, s1, s2⟩ := hSw; go_simp
    simp only [List.setIfInBounds_toArray, List.set_cons_zero, List.set_cons_succ]
    refine take_at (i := 9) (v := .pointer (some ⟨d, 2, none⟩)) rfl rfl (by kernel_rfl) (by kernel_rfl) (by kernel_rfl) (fun _ _ _ h => h) (Or.inl ⟨by rfl, ?_⟩) hH ?_
    · intro w5 hSw; obtain ⟨s0, s1, s2⟩ := hSw; go_simp
    simp only [List.setIfInBounds_toArray, List.set_cons_zero, List.set_cons_succ]
    refine take_at (i := 10) (v := .slice (some ⟨R.mg, 0, none⟩) N R.mc) rfl rfl (by kernel_rfl) (by kernel_rfl) (by kernel_rfl) (fun _ _ _ h => h) (Or.inl ⟨by rfl, ?_⟩) hH ?_
    · intro w5 hSw; obtain ⟨s0, s1, s2⟩ := hSw; go_simp
    simp only [List.setIfInBounds_toArray, List.set_cons_zero, List.set_cons_succ]
    refine take_at (i := 13) (v := .pointer (some ⟨d, 0, none⟩)) rfl rfl (by kernel_rfl) (by kernel_rfl) (by kernel_rfl) (fun _ _ _ h => h) (Or.inl ⟨by rfl, ?_⟩) hH ?_
    · intro w5 hSw; obtain ⟨s0, s1, s2⟩ := hSw; go_simp
    simp only [List.setIfInBounds_toArray, List.set_cons_zero, List.set_cons_succ]
    refine take_at (i := 14) (v := .pointer (some ⟨d, 0, none⟩)) rfl rfl (by kernel_rfl) (by kernel_rfl) (by kernel_rfl) (fun _ _ _ h => h) (Or.inl ⟨by rfl, ?_⟩) hH ?_
    · intro w5 hSw; obtain ⟨s0, s1, s2⟩ := hSw; go_simp
    simp only [List.setIfInBounds_toArray, List.set_cons_zero, List.set_cons_succ]
    refine take_at (i := 15) (v := .pointer (some ⟨d, 3, none⟩)) rfl rfl (by kernel_rfl) (by kernel_rfl) (by kernel_rfl) (fun _ _ _ h => h) (Or.inl ⟨by rfl, ?_⟩) hH ?_
    · intro w5 hSw; obtain ⟨s0, s1, s2⟩ := hSw; go_simp
    simp only [List.setIfInBounds_toArray, List.set_cons_zero, List.set_cons_succ]
    refine take_at (i := 16) (v := .slice pa n4 ca) rfl rfl (by kernel_rfl) (by kernel_rfl) (by kernel_rfl) (fun _ _ _ h => h) (Or.inl ⟨by rfl, ?_⟩) hH ?_
    · intro w5 hSw; obtain ⟨s0, s1, s2⟩ := hSw; go_simp
    simp only [List.setIfInBounds_toArray, List.set_cons_zero, List.set_cons_succ]
    have GW := mkHid (grown_drew (grown_refl w))
    generalize w.drew = W0 at GW hH ⊢
    refine wpAnyH_ready (rs := [0, 6, 12]) (by kernel_rfl) (by simp) ?_
    refine AllReadyH.cons rfl (fun K hK => ?_) (AllReadyH.cons rfl (fun K hK => ?_) (AllReadyH.cons rfl (fun K hK => ?_) AllReadyH.nil))
    · go_simp
      refine hK.out _ _ (KS.out _ (grown_al GW.out _)) (fun hH => ?_)
      clear hK K
      have BL1 := mkHid (And.intro (heap_alloc_new W0 (.cells #[] 4)) GW.out.size)
      replace GW := mkHid (grown_al GW.out (.cells #[] 4))
      generalize W0.alloc (.cells #[] 4) = W1 at GW BL1 hH ⊢
      refine wpAnyH_ready (rs := [5, 6, 12]) (by kernel_rfl) (by simp) ?_
      refine AllReadyH.cons rfl (fun K hK => ?_) (AllReadyH.cons rfl (fun K hK => ?_) (AllReadyH.cons rfl (fun K hK => ?_) AllReadyH.nil))
      · obtain ⟨p1, c1, W2, hr, xx, gg, CC, _⟩ := rwBo.copyX SRC1.out GW.out BL1.out.1 BL1.out.2 (by omega)
        refine step_app 86 rfl (.tmp 5) (.tmp 9) rfl rfl rfl hr ?_
        refine hK.out _ _ (KS.out _ gg) (fun hH => ?_)
        clear hK K
        have XR1 := mkHid xx
        replace GW := mkHid gg
        clear BL1 hr xx gg CC
        go_simp
        refine wpAnyH_ready (rs := [6, 12]) (by kernel_rfl) (by simp) ?_
        refine AllReadyH.cons rfl (fun K hK => ?_) (AllReadyH.cons rfl (fun K hK => ?_) AllReadyH.nil)
        · go_simp
          refine hK.out _ _ (KS.out _ (grown_al GW.out _)) (fun hH => ?_)
          clear hK K
          replace XR1 := mkHid (XR1.out.kept (Chg.of_none (grown_al (grown_refl W2) (.cells #[] 94)) (fun _ => False)) (fun _ _ e => e))
          have BL3 := mkHid (And.intro (heap_alloc_new W2 (.cells #[] 94)) GW.out.size)
          replace GW := mkHid (grown_al GW.out (.cells #[] 94))
          generalize W2.alloc (.cells #[] 94) = W3 at GW BL3 XR1 hH ⊢
          refine wpAnyH_ready (rs := [11, 12]) (by kernel_rfl) (by simp) ?_
          refine AllReadyH.cons rfl (fun K hK => ?_) (AllReadyH.cons rfl (fun K hK => ?_) AllReadyH.nil)
          · obtain ⟨p3, c3, W4, hr, xx, gg, CC, _⟩ := rwMM.copyX SRC3.out GW.out BL3.out.1 BL3.out.2 (by omega)
            refine step_app 88 rfl (.tmp 11) (.tmp 15) rfl rfl rfl hr ?_
            refine hK.out _ _ (KS.out _ gg) (fun hH => ?_)
            clear hK K
            replace XR1 := mkHid (XR1.out.kept CC (fun b hb e => by have k1 := (XR1.out.kd b hb).1; rw [e, kd_cells BL3.out.1] at k1; simp at k1))
            have XR3 := mkHid xx
            replace GW := mkHid gg
            clear BL3 hr xx gg CC
            go_simp
            refine wpAnyH_ready (rs := [12]) (by kernel_rfl) (by simp) ?_
            refine AllReadyH.cons rfl (fun K hK => ?_) AllReadyH.nil
            · go_simp
              refine hK.out _ _ (KS.out _ (grown_al GW.out _)) (fun hH => ?_)
              clear hK K
              replace XR1 := mkHid (XR1.out.kept (Chg.of_none (grown_al (grown_refl W4) (.cells #[] 97)) (fun _ => False)) (fun _ _ e => e))
              replace XR3 := mkHid (XR3.out.kept (Chg.of_none (grown_al (grown_refl W4) (.cells #[] 97)) (fun _ => False)) (fun _ _ e => e))
              have BL4 := mkHid (And.intro (heap_alloc_new W4 (.cells #[] 97)) GW.out.size)
              replace GW := mkHid (grown_al GW.out (.cells #[] 97))
              generalize W4.alloc (.cells #[] 97) = W5 at GW BL4 XR1 XR3 hH ⊢
              refine wpAnyH_ready (rs := [17]) (by kernel_rfl) (by simp) ?_
              refine AllReadyH.cons rfl (fun K hK => ?_) AllReadyH.nil
              · obtain ⟨p4, c4, W6, hr, xx, gg, CC, _⟩ := rwA.copyX SRC4.out GW.out BL4.out.1 BL4.out.2 (by omega)
                refine step_app 44 rfl (.tmp 17) (.tmp 21) rfl rfl rfl hr ?_
                refine hK.out _ _ (KS.out _ gg) (fun hH => ?_)
                clear hK K
                replace XR1 := mkHid (XR1.out.kept CC (fun b hb e => by have k1 := (XR1.out.kd b hb).1; rw [e, kd_cells BL4.out.1] at k1; simp at k1))
                replace XR3 := mkHid (XR3.out.kept CC (fun b hb e => by have k1 := (XR3.out.kd b hb).1; rw [e, kd_cells BL4.out.1] at k1; simp at k1))
                have XR4 := mkHid xx
                replace GW := mkHid gg
                clear BL4 hr xx gg CC
                go_simp
                refine take_at (i := 18) (v := .agg #[.slice p1 N c1, .slice none 0 0, .slice p3 N c3, .slice p4 n4 c4]) rfl rfl (by kernel_rfl) (by kernel_rfl) (by kernel_rfl) (fun _ _ _ h => h) (Or.inl ⟨by rfl, ?_⟩) hH ?_
                · intro w5 hSw; obtain ⟨s0, s1, s2⟩ := hSw; go_simp
                simp only [List.setIfInBounds_toArray, List.set_cons_zero, List.set_cons_succ]
                refine wpAnyH_ready (rs := [19]) (by kernel_rfl) (by simp) ?_
                refine AllReadyH.cons rfl (fun K hK => ?_) AllReadyH.nil
                go_simp
                refine hK.out _ _ (KS.out _ (grown_al GW.out _)) (fun hH => ?_)
                clear hK K
                refine take_at (i := 20) (v := .pointer (some ⟨W6.heap.size, 0, none⟩)) rfl rfl (by kernel_rfl) (by kernel_rfl) (by kernel_rfl) (fun _ _ _ h => h) (Or.inl ⟨by rfl, ?_⟩) hH ?_
                · intro w5 hSw; obtain ⟨s0, s1, s2⟩ := hSw; go_simp
                simp only [List.setIfInBounds_toArray, List.set_cons_zero, List.set_cons_succ]
                refine wpAnyH_done (by kernel_rfl) ?_ _
                refine NoPanic.normal ?_
                have F0 := mkHid (CpF_start (ys := ys) GW.out XR1.out XR3.out XR4.out)
                clear GW XR1 XR3 XR4 hH
                go_wp2_with fail
                go_meet
                case rel => exact ⟨_, _, _, _, rfl, F0⟩
          · go_simp
            refine hK.out _ _ (KS.out _ (grown_al GW.out _)) (fun hH => ?_)
            clear hK K
            replace BL3 := mkHid (And.intro (box_keep BL3.out.1 (grown_al (grown_refl W3) (.cells #[] 97)) (by simp)) BL3.out.2)
            replace XR1 := mkHid (XR1.out.kept (Chg.of_none (grown_al (grown_refl W3) (.cells #[] 97)) (fun _ => False)) (fun _ _ e => e))
            have BL4 := mkHid (And.intro (heap_alloc_new W3 (.cells #[] 97)) GW.out.size)
            replace GW := mkHid (grown_al GW.out (.cells #[] 97))
            generalize W3.alloc (.cells #[] 97) = W4 at GW BL3 BL4 XR1 hH ⊢
            refine wpAnyH_ready (rs := [11]) (by kernel_rfl) (by simp) ?_
            refine AllReadyH.cons rfl (fun K hK => ?_) AllReadyH.nil
            · obtain ⟨p3, c3, W5, hr, xx, gg, CC, _⟩ := rwMM.copyX SRC3.out GW.out BL3.out.1 BL3.out.2 (by omega)
              refine step_app 88 rfl (.tmp 11) (.tmp 15) rfl rfl rfl hr ?_
              refine hK.out _ _ (KS.out _ gg) (fun hH => ?_)
              clear hK K
              replace BL4 := mkHid (And.intro (CC.at_ BL4.out.1 (fun e => by have h1 := BL4.out.1; rw [e, BL3.out.1] at h1; simp at h1)) BL4.out.2)
              replace XR1 := mkHid (XR1.out.kept CC (fun b hb e => by have k1 := (XR1.out.kd b hb).1; rw [e, kd_cells BL3.out.1] at k1; simp at k1))
              have XR3 := mkHid xx
              replace GW := mkHid gg
              clear BL3 hr xx gg CC
              go_simp
              refine wpAnyH_ready (rs := [17]) (by kernel_rfl) (by simp) ?_
              refine AllReadyH.cons rfl (fun K hK => ?_) AllReadyH.nil
              · obtain ⟨p4, c4, W6, hr, xx, gg, CC, _⟩ := rwA.copyX SRC4.out GW.out BL4.out.1 BL4.out.2 (by omega)
                refine step_app 44 rfl (.tmp 17) (.tmp 21) rfl rfl rfl hr ?_
                refine hK.out _ _ (KS.out _ gg) (fun hH => ?_)
                clear hK K
                replace XR1 := mkHid (XR1.out.kept CC (fun b hb e => by have k1 := (XR1.out.kd b hb).1; rw [e, kd_cells BL4.out.1] at k1; simp at k1))
                replace XR3 := mkHid (XR3.out.kept CC (fun b hb e => by have k1 := (XR3.out.kd b hb).1; rw [e, kd_cells BL4.out.1] at k1; simp at k1))
                have XR4 := mkHid xx
                replace GW := mkHid gg
                clear BL4 hr xx gg CC
                go_simp
                refine take_at (i := 18) (v := .agg #[.slice p1 N c1, .slice none 0 0, .slice p3 N c3, .slice p4 n4 c4]) rfl rfl (by kernel_rfl) (by kernel_rfl) (by kernel_rfl) (fun _ _ _ h => h) (Or.inl ⟨by rfl, ?_⟩) hH ?_
                · intro w5 hSw; obtain ⟨s0, s1, s2⟩ := hSw; go_simp
                simp only [List.setIfInBounds_toArray, List.set_cons_zero, List.set_cons_succ]
                refine wpAnyH_ready (rs := [19]) (by kernel_rfl) (by simp) ?_
                refine AllReadyH.cons rfl (fun K hK => ?_) AllReadyH.nil
                go_simp
                refine hK.out _ _ (KS.out _ (grown_al GW.out _)) (fun hH => ?_)
                clear hK K
                refine take_at (i := 20) (v := .pointer (some ⟨W6.heap.size, 0, none⟩)) rfl rfl (by kernel_rfl) (by kernel_rfl) (by kernel_rfl) (fun _ _ _ h => h) (Or.inl ⟨by rfl, ?_⟩) hH ?_
                · intro w5 hSw; obtain ⟨s0, s1, s2⟩ := hSw; go_simp
                simp only [List.setIfInBounds_toArray, List.set_cons_zero, List.set_cons_succ]
                refine wpAnyH_done (by kernel_rfl) ?_ _
                refine NoPanic.normal ?_
                have F0 := mkHid (CpF_start (ys := ys) GW.out XR1.out XR3.out XR4.out)
                clear GW XR1 XR3 XR4 hH
                go_wp2_with fail
                go_meet
                case rel => exact ⟨_, _, _, _, rfl, F0⟩
        · go_simp
          refine hK.out _ _ (KS.out _ (grown_al GW.out _)) (fun hH => ?_)
          clear hK K
          replace XR1 := mkHid (XR1.out.kept (Chg.of_none (grown_al (grown_refl W2) (.cells #[] 97)) (fun _ => False)) (fun _ _ e => e))
          have BL4 := mkHid (And.intro (heap_alloc_new W2 (.cells #[] 97)) GW.out.size)
          replace GW := mkHid (grown_al GW.out (.cells #[] 97))
          generalize W2.alloc (.cells #[] 97) = W3 at GW BL4 XR1 hH ⊢
          refine wpAnyH_ready (rs := [6]) (by kernel_rfl) (by simp) ?_
          refine AllReadyH.cons rfl (fun K hK => ?_) AllReadyH.nil
          · go_simp
            refine hK.out _ _ (KS.out _ (grown_al GW.out _)) (fun hH => ?_)
            clear hK K
            replace BL4 := mkHid (And.intro (box_keep BL4.out.1 (grown_al (grown_refl W3) (.cells #[] 94)) (by simp)) BL4.out.2)
            replace XR1 := mkHid (XR1.out.kept (Chg.of_none (grown_al (grown_refl W3) (.cells #[] 94)) (fun _ => False)) (fun _ _ e => e))
            have BL3 := mkHid (And.intro (heap_alloc_new W3 (.cells #[] 94)) GW.out.size)
            replace GW := mkHid (grown_al GW.out (.cells #[] 94))
            generalize W3.alloc (.cells #[] 94) = W4 at GW BL3 BL4 XR1 hH ⊢
            refine wpAnyH_ready (rs := [11]) (by kernel_rfl) (by simp) ?_
            refine AllReadyH.cons rfl (fun K hK => ?_) AllReadyH.nil
            · obtain ⟨p3, c3, W5, hr, xx, gg, CC, _⟩ := rwMM.copyX SRC3.out GW.out BL3.out.1 BL3.out.2 (by omega)
              refine step_app 88 rfl (.tmp 11) (.tmp 15) rfl rfl rfl hr ?_
              refine hK.out _ _ (KS.out _ gg) (fun hH => ?_)
              clear hK K
              replace BL4 := mkHid (And.intro (CC.at_ BL4.out.1 (fun e => by have h1 := BL4.out.1; rw [e, BL3.out.1] at h1; simp at h1)) BL4.out.2)
              replace XR1 := mkHid (XR1.out.kept CC (fun b hb e => by have k1 := (XR1.out.kd b hb).1; rw [e, kd_cells BL3.out.1] at k1; simp at k1))
              have XR3 := mkHid xx
              replace GW := mkHid gg
              clear BL3 hr xx gg CC
              go_simp
              refine wpAnyH_ready (rs := [17]) (by kernel_rfl) (by simp) ?_
              refine AllReadyH.cons rfl (fun K hK => ?_) AllReadyH.nil
              · obtain ⟨p4, c4, W6, hr, xx, gg, CC, _⟩ := rwA.copyX SRC4.out GW.out BL4.out.1 BL4.out.2 (by omega)
                refine step_app 44 rfl (.tmp 17) (.tmp 21) rfl rfl rfl hr ?_
                refine hK.out _ _ (KS.out _ gg) (fun hH => ?_)
                clear hK K
                replace XR1 := mkHid (XR1.out.kept CC (fun b hb e => by have k1 := (XR1.out.kd b hb).1; rw [e, kd_cells BL4.out.1] at k1; simp at k1))
                replace XR3 := mkHid (XR3.out.kept CC (fun b hb e => by have k1 := (XR3.out.kd b hb).1; rw [e, kd_cells BL4.out.1] at k1; simp at k1))
                have XR4 := mkHid xx
                replace GW := mkHid gg
                clear BL4 hr xx gg CC
                go_simp
                refine take_at (i := 18) (v := .agg #[.slice p1 N c1, .slice none 0 0, .slice p3 N c3, .slice p4 n4 c4]) rfl rfl (by kernel_rfl) (by kernel_rfl) (by kernel_rfl) (fun _ _ _ h => h) (Or.inl ⟨by rfl, ?_⟩) hH ?_
                · intro w5 hSw; obtain ⟨s0, s1, s2⟩ := hSw; go_simp
                simp only [List.setIfInBounds_toArray, List.set_cons_zero, List.set_cons_succ]
                refine wpAnyH_ready (rs := [19]) (by kernel_rfl) (by simp) ?_
                refine AllReadyH.cons rfl (fun K hK => ?_) AllReadyH.nil
                go_simp
                refine hK.out _ _ (KS.out _ (grown_al GW.out _)) (fun hH => ?_)
                clear hK K
                refine take_at (i := 20) (v := .pointer (some ⟨W6.heap.size, 0, none⟩)) rfl rfl (by kernel_rfl) (by kernel_rfl) (by kernel_rfl) (fun _ _ _ h => h) (Or.inl ⟨by rfl, ?_⟩) hH ?_
                · intro w5 hSw; obtain ⟨s0, s1, s2⟩ := hSw; go_simp
                simp only [List.setIfInBounds_toArray, List.set_cons_zero, List.set_cons_succ]
                refine wpAnyH_done (by kernel_rfl) ?_ _
                refine NoPanic.normal ?_
                have F0 := mkHid (CpF_start (ys := ys) GW.out XR1.out XR3.out XR4.out)
                clear GW XR1 XR3 XR4 hH
                go_wp2_with fail
                go_meet
                case rel => exact ⟨_, _, _, _, rfl, F0⟩
      · go_simp
        refine hK.out _ _ (KS.out _ (grown_al GW.out _)) (fun hH => ?_)
        clear hK K
        replace BL1 := mkHid (And.intro (box_keep BL1.out.1 (grown_al (grown_refl W1) (.cells #[] 94)) (by simp)) BL1.out.2)
        have BL3 := mkHid (And.intro (heap_alloc_new W1 (.cells #[] 94)) GW.out.size)
        replace GW := mkHid (grown_al GW.out (.cells #[] 94))
        generalize W1.alloc (.cells #[] 94) = W2 at GW BL1 BL3 hH ⊢
        refine wpAnyH_ready (rs := [5, 12]) (by kernel_rfl) (by simp) ?_
        refine AllReadyH.cons rfl (fun K hK => ?_) (AllReadyH.cons rfl (fun K hK => ?_) AllReadyH.nil)
        · obtain ⟨p1, c1, W3, hr, xx, gg, CC, _⟩ := rwBo.copyX SRC1.out GW.out BL1.out.1 BL1.out.2 (by omega)
          refine step_app 86 rfl (.tmp 5) (.tmp 9) rfl rfl rfl hr ?_
          refine hK.out _ _ (KS.out _ gg) (fun hH => ?_)
          clear hK K
          replace BL3 := mkHid (And.intro (CC.at_ BL3.out.1 (fun e => by have h1 := BL3.out.1; rw [e, BL1.out.1] at h1; simp at h1)) BL3.out.2)
          have XR1 := mkHid xx
          replace GW := mkHid gg
          clear BL1 hr xx gg CC
          go_simp
          refine wpAnyH_ready (rs := [11, 12]) (by kernel_rfl) (by simp) ?_
          refine AllReadyH.cons rfl (fun K hK => ?_) (AllReadyH.cons rfl (fun K hK => ?_) AllReadyH.nil)
          · obtain ⟨p3, c3, W4, hr, xx, gg, CC, _⟩ := rwMM.copyX SRC3.out GW.out BL3.out.1 BL3.out.2 (by omega)
            refine step_app 88 rfl (.tmp 11) (.tmp 15) rfl rfl rfl hr ?_
            refine hK.out _ _ (KS.out _ gg) (fun hH => ?_)
            clear hK K
            replace XR1 := mkHid (XR1.out.kept CC (fun b hb e => by have k1 := (XR1.out.kd b hb).1; rw [e, kd_cells BL3.out.1] at k1; simp at k1))
            have XR3 := mkHid xx
            replace GW := mkHid gg
            clear BL3 hr xx gg CC
            go_simp
            refine wpAnyH_ready (rs := [12]) (by kernel_rfl) (by simp) ?_
            refine AllReadyH.cons rfl (fun K hK => ?_) AllReadyH.nil
            · go_simp
              refine hK.out _ _ (KS.out _ (grown_al GW.out _)) (fun hH => ?_)
              clear hK K
              replace XR1 := mkHid (XR1.out.kept (Chg.of_none (grown_al (grown_refl W4) (.cells #[] 97)) (fun _ => False)) (fun _ _ e => e))
              replace XR3 := mkHid (XR3.out.kept (Chg.of_none (grown_al (grown_refl W4) (.cells #[] 97)) (fun _ => False)) (fun _ _ e => e))
              have BL4 := mkHid (And.intro (heap_alloc_new W4 (.cells #[] 97)) GW.out.size)
              replace GW := mkHid (grown_al GW.out (.cells #[] 97))
              generalize W4.alloc (.cells #[] 97) = W5 at GW BL4 XR1 XR3 hH ⊢
              refine wpAnyH_ready (rs := [17]) (by kernel_rfl) (by simp) ?_
              refine AllReadyH.cons rfl (fun K hK => ?_) AllReadyH.nil
              · obtain ⟨p4, c4, W6, hr, xx, gg, CC, _⟩ := rwA.copyX SRC4.out GW.out BL4.out.1 BL4.out.2 (by omega)
                refine step_app 44 rfl (.tmp 17) (.tmp 21) rfl rfl rfl hr ?_
                refine hK.out _ _ (KS.out _ gg) (fun hH => ?_)
                clear hK K
                replace XR1 := mkHid (XR1.out.kept CC (fun b hb e => by have k1 := (XR1.out.kd b hb).1; rw [e, kd_cells BL4.out.1] at k1; simp at k1))
                replace XR3 := mkHid (XR3.out.kept CC (fun b hb e => by have k1 := (XR3.out.kd b hb).1; rw [e, kd_cells BL4.out.1] at k1; simp at k1))
                have XR4 := mkHid xx
                replace GW := mkHid gg
                clear BL4 hr xx gg CC
                go_simp
                refine take_at (i := 18) (v := .agg #[.slice p1 N c1, .slice none 0 0, .slice p3 N c3, .slice p4 n4 c4]) rfl rfl (by kernel_rfl) (by kernel_rfl) (by kernel_rfl) (fun _ _ _ h => h) (Or.inl ⟨by rfl, ?_⟩) hH ?_
                · intro w5 hSw; obtain ⟨s0, s1, s2⟩ := hSw; go_simp
                simp only [List.setIfInBounds_toArray, List.set_cons_zero, List.set_cons_succ]
                refine wpAnyH_ready (rs := [19]) (by kernel_rfl) (by simp) ?_
                refine AllReadyH.cons rfl (fun K hK => ?_) AllReadyH.nil
                go_simp
                refine hK.out _ _ (KS.out _ (grown_al GW.out _)) (fun hH => ?_)
                clear hK K
                refine take_at (i := 20) (v := .pointer (some ⟨W6.heap.size, 0, none⟩)) rfl rfl (by kernel_rfl) (by kernel_rfl) (by kernel_rfl) (fun _ _ _ h => h) (Or.inl ⟨by rfl, ?_⟩) hH ?_
                · intro w5 hSw; obtain ⟨s0, s1, s2⟩ := hSw; go_simp
                simp only [List.setIfInBounds_toArray, List.set_cons_zero, List.set_cons_succ]
                refine wpAnyH_done (by kernel_rfl) ?_ _
                refine NoPanic.normal ?_
                have F0 := mkHid (CpF_start (ys := ys) GW.out XR1.out XR3.out XR4.out)
                clear GW XR1 XR3 XR4 hH
                go_wp2_with fail
                go_meet
                case rel => exact ⟨_, _, _, _, rfl, F0⟩
          · go_simp
            refine hK.out _ _ (KS.out _ (grown_al GW.out _)) (fun hH => ?_)
            clear hK K
            replace BL3 := mkHid (And.intro (box_keep BL3.out.1 (grown_al (grown_refl W3) (.cells #[] 97)) (by simp)) BL3.out.2)
            replace XR1 := mkHid (XR1.out.kept (Chg.of_none (grown_al (grown_refl W3) (.cells #[] 97)) (fun _ => False)) (fun _ _ e => e))
            have BL4 := mkHid (And.intro (heap_alloc_new W3 (.cells #[] 97)) GW.out.size)
            replace GW := mkHid (grown_al GW.out (.cells #[] 97))
            generalize W3.alloc (.cells #[] 97) = W4 at GW BL3 BL4 XR1 hH ⊢
            refine wpAnyH_ready (rs := [11]) (by kernel_rfl) (by simp) ?_
            refine AllReadyH.cons rfl (fun K hK => ?_) AllReadyH.nil
            · obtain ⟨p3, c3, W5, hr, xx, gg, CC, _⟩ := rwMM.copyX SRC3.out GW.out BL3.out.1 BL3.out.2 (by omega)
              refine step_app 88 rfl (.tmp 11) (.tmp 15) rfl rfl rfl hr ?_
              refine hK.out _ _ (KS.out _ gg) (fun hH => ?_)
              clear hK K
              replace BL4 := mkHid (And.intro (CC.at_ BL4.out.1 (fun e => by have h1 := BL4.out.1; rw [e, BL3.out.1] at h1; simp at h1)) BL4.out.2)
              replace XR1 := mkHid (XR1.out.kept CC (fun b hb e => by have k1 := (XR1.out.kd b hb).1; rw [e, kd_cells BL3.out.1] at k1; simp at k1))
              have XR3 := mkHid xx
              replace GW := mkHid gg
              clear BL3 hr xx gg CC
              go_simp
              refine wpAnyH_ready (rs := [17]) (by kernel_rfl) (by simp) ?_
              refine AllReadyH.cons rfl (fun K hK => ?_) AllReadyH.nil
              · obtain ⟨p4, c4, W6, hr, xx, gg, CC, _⟩ := rwA.copyX SRC4.out GW.out BL4.out.1 BL4.out.2 (by omega)
                refine step_app 44 rfl (.tmp 17) (.tmp 21) rfl rfl rfl hr ?_
                refine hK.out _ _ (KS.out _ gg) (fun hH => ?_)
                clear hK K
                replace XR1 := mkHid (XR1.out.kept CC (fun b hb e => by have k1 := (XR1.out.kd b hb).1; rw [e, kd_cells BL4.out.1] at k1; simp at k1))
                replace XR3 := mkHid (XR3.out.kept CC (fun b hb e => by have k1 := (XR3.out.kd b hb).1; rw [e, kd_cells BL4.out.1] at k1; simp at k1))
                have XR4 := mkHid xx
                replace GW := mkHid gg
                clear BL4 hr xx gg CC
                go_simp
                refine take_at (i := 18) (v := .agg #[.slice p1 N c1, .slice none 0 0, .slice p3 N c3, .slice p4 n4 c4]) rfl rfl (by kernel_rfl) (by kernel_rfl) (by kernel_rfl) (fun _ _ _ h => h) (Or.inl ⟨by rfl, ?_⟩) hH ?_
                · intro w5 hSw; obtain ⟨s0, s1, s2⟩ := hSw; go_simp
                simp only [List.setIfInBounds_toArray, List.set_cons_zero, List.set_cons_succ]
                refine wpAnyH_ready (rs := [19]) (by kernel_rfl) (by simp) ?_
                refine AllReadyH.cons rfl (fun K hK => ?_) AllReadyH.nil
                go_simp
                refine hK.out _ _ (KS.out _ (grown_al GW.out _)) (fun hH => ?_)
                clear hK K
                refine take_at (i := 20) (v := .pointer (some ⟨W6.heap.size, 0, none⟩)) rfl rfl (by kernel_rfl) (by kernel_rfl) (by kernel_rfl) (fun _ _ _ h => h) (Or.inl ⟨by rfl, ?_⟩) hH ?_
                · intro w5 hSw; obtain ⟨s0, s1, s2⟩ := hSw; go_simp
                simp only [List.setIfInBounds_toArray, List.set_cons_zero, List.set_cons_succ]
                refine wpAnyH_done (by kernel_rfl) ?_ _
                refine NoPanic.normal ?_
                have F0 := mkHid (CpF_start (ys := ys) GW.out XR1.out XR3.out XR4.out)
                clear GW XR1 XR3 XR4 hH
                go_wp2_with fail
                go_meet
                case rel => exact ⟨_, _, _, _, rfl, F0⟩
        · go_simp
          refine hK.out _ _ (KS.out _ (grown_al GW.out _)) (fun hH => ?_)
          clear hK K
          replace BL1 := mkHid (And.intro (box_keep BL1.out.1 (grown_al (grown_refl W2) (.cells #[] 97)) (by simp)) BL1.out.2)
          replace BL3 := mkHid (And.intro (box_keep BL3.out.1 (grown_al (grown_refl W2) (.cells #[] 97)) (by simp)) BL3.out.2)
          have BL4 := mkHid (And.intro (heap_alloc_new W2 (.cells #[] 97)) GW.out.size)
          replace GW := mkHid (grown_al GW.out (.cells #[] 97))
          generalize W2.alloc (.cells #[] 97) = W3 at GW BL1 BL3 BL4 hH ⊢
          refine wpAnyH_ready (rs := [5]) (by kernel_rfl) (by simp) ?_
          refine AllReadyH.cons rfl (fun K hK => ?_) AllReadyH.nil
          · obtain ⟨p1, c1, W4, hr, xx, gg, CC, _⟩ := rwBo.copyX SRC1.out GW.out BL1.out.1 BL1.out.2 (by omega)
            refine step_app 86 rfl (.tmp 5) (.tmp 9) rfl rfl rfl hr ?_
            refine hK.out _ _ (KS.out _ gg) (fun hH => ?_)
            clear hK K
            replace BL3 := mkHid (And.intro (CC.at_ BL3.out.1 (fun e => by have h1 := BL3.out.1; rw [e, BL1.out.1] at h1; simp at h1)) BL3.out.2)
            replace BL4 := mkHid (And.intro (CC.at_ BL4.out.1 (fun e => by have h1 := BL4.out.1; rw [e, BL1.out.1] at h1; simp at h1)) BL4.out.2)
            have XR1 := mkHid xx
            replace GW := mkHid gg
            clear BL1 hr xx gg CC
            go_simp
            refine wpAnyH_ready (rs := [11]) (by kernel_rfl) (by simp) ?_
            refine AllReadyH.cons rfl (fun K hK => ?_) AllReadyH.nil
            · obtain ⟨p3, c3, W5, hr, xx, gg, CC, _⟩ := rwMM.copyX SRC3.out GW.out BL3.out.1 BL3.out.2 (by omega)
              refine step_app 88 rfl (.tmp 11) (.tmp 15) rfl rfl rfl hr ?_
              refine hK.out _ _ (KS.out _ gg) (fun hH => ?_)
              clear hK K
              replace BL4 := mkHid (And.intro (CC.at_ BL4.out.1 (fun e => by have h1 := BL4.out.1; rw [e, BL3.out.1] at h1; simp at h1)) BL4.out.2)
              replace XR1 := mkHid (XR1.out.kept CC (fun b hb e => by have k1 := (XR1.out.kd b hb).1; rw [e, kd_cells BL3.out.1] at k1; simp at k1))
              have XR3 := mkHid xx
              replace GW := mkHid gg
              clear BL3 hr xx gg CC
              go_simp
              refine wpAnyH_ready (rs := [17]) (by kernel_rfl) (by simp) ?_
              refine AllReadyH.cons rfl (fun K hK => ?_) AllReadyH.nil
              · obtain ⟨p4, c4, W6, hr, xx, gg, CC, _⟩ := rwA.copyX SRC4.out GW.out BL4.out.1 BL4.out.2 (by omega)
                refine step_app 44 rfl (.tmp 17) (.tmp 21) rfl rfl rfl hr ?_
                refine hK.out _ _ (KS.out _ gg) (fun hH => ?_)
                clear hK K
                replace XR1 := mkHid (XR1.out.kept CC (fun b hb e => by have k1 := (XR1.out.kd b hb).1; rw [e, kd_cells BL4.out.1] at k1; simp at k1))
                replace XR3 := mkHid (XR3.out.kept CC (fun b hb e => by have k1 := (XR3.out.kd b hb).1; rw [e, kd_cells BL4.out.1] at k1; simp at k1))
                have XR4 := mkHid xx
                replace GW := mkHid gg
                clear BL4 hr xx gg CC
                go_simp
                refine take_at (i := 18) (v := .agg #[.slice p1 N c1, .slice none 0 0, .slice p3 N c3, .slice p4 n4 c4]) rfl rfl (by kernel_rfl) (by kernel_rfl) (by kernel_rfl) (fun _ _ _ h => h) (Or.inl ⟨by rfl, ?_⟩) hH ?_
                · intro w5 hSw; obtain ⟨s0, s1, s2⟩ := hSw; go_simp
                simp only [List.setIfInBounds_toArray, List.set_cons_zero, List.set_cons_succ]
                refine wpAnyH_ready (rs := [19]) (by kernel_rfl) (by simp) ?_
                refine AllReadyH.cons rfl (fun K hK => ?_) AllReadyH.nil
                go_simp
                refine hK.out _ _ (KS.out _ (grown_al GW.out _)) (fun hH => ?_)
                clear hK K
                refine take_at (i := 20) (v := .pointer (some ⟨W6.heap.size, 0, none⟩)) rfl rfl (by kernel_rfl) (by kernel_rfl) (by kernel_rfl) (fun _ _ _ h => h) (Or.inl ⟨by rfl, ?_⟩) hH ?_
                · intro w5 hSw; obtain ⟨s0, s1, s2⟩ := hSw; go_simp
                simp only [List.setIfInBounds_toArray, List.set_cons_zero, List.set_cons_succ]
                refine wpAnyH_done (by kernel_rfl) ?_ _
                refine NoPanic.normal ?_
                have F0 := mkHid (CpF_start (ys := ys) GW.out XR1.out XR3.out XR4.out)
                clear GW XR1 XR3 XR4 hH
                go_wp2_with fail
                go_meet
                case rel => exact ⟨_, _, _, _, rfl, F0⟩
      · go_simp
        refine hK.out _ _ (KS.out _ (grown_al GW.out _)) (fun hH => ?_)
        clear hK K
        replace BL1 := mkHid (And.intro (box_keep BL1.out.1 (grown_al (grown_refl W1) (.cells #[] 97)) (by simp)) BL1.out.2)
        have BL4 := mkHid (And.intro (heap_alloc_new W1 (.cells #[] 97)) GW.out.size)
        replace GW := mkHid (grown_al GW.out (.cells #[] 97))
        generalize W1.alloc (.cells #[] 97) = W2 at GW BL1 BL4 hH ⊢
        refine wpAnyH_ready (rs := [5, 6]) (by kernel_rfl) (by simp) ?_
        refine AllReadyH.cons rfl (fun K hK => ?_) (AllReadyH.cons rfl (fun K hK => ?_) AllReadyH.nil)
        · obtain ⟨p1, c1, W3, hr, xx, gg, CC, _⟩ := rwBo.copyX SRC1.out GW.out BL1.out.1 BL1.out.2 (by omega)
          refine step_app 86 rfl (.tmp 5) (.tmp 9) rfl rfl rfl hr ?_
          refine hK.out _ _ (KS.out _ gg) (fun hH => ?_)
          clear hK K
          replace BL4 := mkHid (And.intro (CC.at_ BL4.out.1 (fun e => by have h1 := BL4.out.1; rw [e, BL1.out.1] at h1; simp at h1)) BL4.out.2)
          have XR1 := mkHid xx
          replace GW := mkHid gg
          clear BL1 hr xx gg CC
          go_simp
          refine wpAnyH_ready (rs := [6]) (by kernel_rfl) (by simp) ?_
          refine AllReadyH.cons rfl (fun K hK => ?_) AllReadyH.nil
          · go_simp
            refine hK.out _ _ (KS.out _ (grown_al GW.out _)) (fun hH => ?_)
            clear hK K
            replace BL4 := mkHid (And.intro (box_keep BL4.out.1 (grown_al (grown_refl W3) (.cells #[] 94)) (by simp)) BL4.out.2)
            replace XR1 := mkHid (XR1.out.kept (Chg.of_none (grown_al (grown_refl W3) (.cells #[] 94)) (fun _ => False)) (fun _ _ e => e))
            have BL3 := mkHid (And.intro (heap_alloc_new W3 (.cells #[] 94)) GW.out.size)
            replace GW := mkHid (grown_al GW.out (.cells #[] 94))
            generalize W3.alloc (.cells #[] 94) = W4 at GW BL3 BL4 XR1 hH ⊢
            refine wpAnyH_ready (rs := [11]) (by kernel_rfl) (by simp) ?_
            refine AllReadyH.cons rfl (fun K hK => ?_) AllReadyH.nil
            · obtain ⟨p3, c3, W5, hr, xx, gg, CC, _⟩ := rwMM.copyX SRC3.out GW.out BL3.out.1 BL3.out.2 (by omega)
              refine step_app 88 rfl (.tmp 11) (.tmp 15) rfl rfl rfl hr ?_
              refine hK.out _ _ (KS.out _ gg) (fun hH => ?_)
              clear hK K
              replace BL4 := mkHid (And.intro (CC.at_ BL4.out.1 (fun e => by have h1 := BL4.out.1; rw [e, BL3.out.1] at h1; simp at h1)) BL4.out.2)
              replace XR1 := mkHid (XR1.out.kept CC (fun b hb e => by have k1 := (XR1.out.kd b hb).1; rw [e, kd_cells BL3.out.1] at k1; simp at k1))
              have XR3 := mkHid xx
              replace GW := mkHid gg
              clear BL3 hr xx gg CC
              go_simp
              refine wpAnyH_ready (rs := [17]) (by kernel_rfl) (by simp) ?_
              refine AllReadyH.cons rfl (fun K hK => ?_) AllReadyH.nil
              · obtain ⟨p4, c4, W6, hr, xx, gg, CC, _⟩ := rwA.copyX SRC4.out GW.out BL4.out.1 BL4.out.2 (by omega)
                refine step_app 44 rfl (.tmp 17) (.tmp 21) rfl rfl rfl hr ?_
                refine hK.out _ _ (KS.out _ gg) (fun hH => ?_)
                clear hK K
                replace XR1 := mkHid (XR1.out.kept CC (fun b hb e => by have k1 := (XR1.out.kd b hb).1; rw [e, kd_cells BL4.out.1] at k1; simp at k1))
                replace XR3 := mkHid (XR3.out.kept CC (fun b hb e => by have k1 := (XR3.out.kd b hb).1; rw [e, kd_cells BL4.out.1] at k1; simp at k1))
                have XR4 := mkHid xx
                replace GW := mkHid gg
                clear BL4 hr xx gg CC
                go_simp
                refine take_at (i := 18) (v := .agg #[.slice p1 N c1, .slice none 0 0, .slice p3 N c3, .slice p4 n4 c4]) rfl rfl (by kernel_rfl) (by kernel_rfl) (by kernel_rfl) (fun _ _ _ h => h) (Or.inl ⟨by rfl, ?_⟩) hH ?_
                · intro w5 hSw; obtain ⟨s0, s1, s2⟩ := hSw; go_simp
                simp only [List.setIfInBounds_toArray, List.set_cons_zero, List.set_cons_succ]
                refine wpAnyH_ready (rs := [19]) (by kernel_rfl) (by simp) ?_
                refine AllReadyH.cons rfl (fun K hK => ?_) AllReadyH.nil
                go_simp
                refine hK.out _ _ (KS.out _ (grown_al GW.out _)) (fun hH => ?_)
                clear hK K
                refine take_at (i := 20) (v := .pointer (some ⟨W6.heap.size, 0, none⟩)) rfl rfl (by kernel_rfl) (by kernel_rfl) (by kernel_rfl) (fun _ _ _ h => h) (Or.inl ⟨by rfl, ?_⟩) hH ?_
                · intro w5 hSw; obtain ⟨s0, s1, s2⟩ := hSw; go_simp
                simp only [List.setIfInBounds_toArray, List.set_cons_zero, List.set_cons_succ]
                refine wpAnyH_done (by kernel_rfl) ?_ _
                refine NoPanic.normal ?_
                have F0 := mkHid (CpF_start (ys := ys) GW.out XR1.out XR3.out XR4.out)
                clear GW XR1 XR3 XR4 hH
                go_wp2_with fail
                go_meet
                case rel => exact ⟨_, _, _, _, rfl, F0⟩
        · go_simp
          refine hK.out _ _ (KS.out _ (grown_al GW.out _)) (fun hH => ?_)
          clear hK K
          replace BL1 := mkHid (And.intro (box_keep BL1.out.1 (grown_al (grown_refl W2) (.cells #[] 94)) (by simp)) BL1.out.2)
          replace BL4 := mkHid (And.intro (box_keep BL4.out.1 (grown_al (grown_refl W2) (.cells #[] 94)) (by simp)) BL4.out.2)
          have BL3 := mkHid (And.intro (heap_alloc_new W2 (.cells #[] 94)) GW.out.size)
          replace GW := mkHid (grown_al GW.out (.cells #[] 94))
          generalize W2.alloc (.cells #[] 94) = W3 at GW BL1 BL3 BL4 hH ⊢
          refine wpAnyH_ready (rs := [5]) (by kernel_rfl) (by simp) ?_
          refine AllReadyH.cons rfl (fun K hK => ?_) AllReadyH.nil
          · obtain ⟨p1, c1, W4, hr, xx, gg, CC, _⟩ := rwBo.copyX SRC1.out GW.out BL1.out.1 BL1.out.2 (by omega)
            refine step_app 86 rfl (.tmp 5) (.tmp 9) rfl rfl rfl hr ?_
            refine hK.out _ _ (KS.out _ gg) (fun hH => ?_)
            clear hK K
            replace BL3 := mkHid (And.intro (CC.at_ BL3.out.1 (fun e => by have h1 := BL3.out.1; rw [e, BL1.out.1] at h1; simp at h1)) BL3.out.2)
            replace BL4 := mkHid (And.intro (CC.at_ BL4.out.1 (fun e => by have h1 := BL4.out.1; rw [e, BL1.out.1] at h1; simp at h1)) BL4.out.2)
            have XR1 := mkHid xx
            replace GW := mkHid gg
            clear BL1 hr xx gg CC
            go_simp
            refine wpAnyH_ready (rs := [11]) (by kernel_rfl) (by simp) ?_
            refine AllReadyH.cons rfl (fun K hK => ?_) AllReadyH.nil
            · obtain ⟨p3, c3, W5, hr, xx, gg, CC, _⟩ := rwMM.copyX SRC3.out GW.out BL3.out.1 BL3.out.2 (by omega)
              refine step_app 88 rfl (.tmp 11) (.tmp 15) rfl rfl rfl hr ?_
              refine hK.out _ _ (KS.out _ gg) (fun hH => ?_)
              clear hK K
              replace BL4 := mkHid (And.intro (CC.at_ BL4.out.1 (fun e => by have h1 := BL4.out.1; rw [e, BL3.out.1] at h1; simp at h1)) BL4.out.2)
              replace XR1 := mkHid (XR1.out.kept CC (fun b hb e => by have k1 := (XR1.out.kd b hb).1; rw [e, kd_cells BL3.out.1] at k1; simp at k1))
              have XR3 := mkHid xx
              replace GW := mkHid gg
              clear BL3 hr xx gg CC
              go_simp
              refine wpAnyH_ready (rs := [17]) (by kernel_rfl) (by simp) ?_
              refine AllReadyH.cons rfl (fun K hK => ?_) AllReadyH.nil
              · obtain ⟨p4, c4, W6, hr, xx, gg, CC, _⟩ := rwA.copyX SRC4.out GW.out BL4.out.1 BL4.out.2 (by omega)
                refine step_app 44 rfl (.tmp 17) (.tmp 21) rfl rfl rfl hr ?_
                refine hK.out _ _ (KS.out _ gg) (fun hH => ?_)
                clear hK K
                replace XR1 := mkHid (XR1.out.kept CC (fun b hb e => by have k1 := (XR1.out.kd b hb).1; rw [e, kd_cells BL4.out.1] at k1; simp at k1))
                replace XR3 := mkHid (XR3.out.kept CC (fun b hb e => by have k1 := (XR3.out.kd b hb).1; rw [e, kd_cells BL4.out.1] at k1; simp at k1))
                have XR4 := mkHid xx
                replace GW := mkHid gg
                clear BL4 hr xx gg CC
                go_simp
                refine take_at (i := 18) (v := .agg #[.slice p1 N c1, .slice none 0 0, .slice p3 N c3, .slice p4 n4 c4]) rfl rfl (by kernel_rfl) (by kernel_rfl) (by kernel_rfl) (fun _ _ _ h => h) (Or.inl ⟨by rfl, ?_⟩) hH ?_
                · intro w5 hSw; obtain ⟨s0, s1, s2⟩ := hSw; go_simp
                simp only [List.setIfInBounds_toArray, List.set_cons_zero, List.set_cons_succ]
                refine wpAnyH_ready (rs := [19]) (by kernel_rfl) (by simp) ?_
                refine AllReadyH.cons rfl (fun K hK => ?_) AllReadyH.nil
                go_simp
                refine hK.out _ _ (KS.out _ (grown_al GW.out _)) (fun hH => ?_)
                clear hK K
                refine take_at (i := 20) (v := .pointer (some ⟨W6.heap.size, 0, none⟩)) rfl rfl (by kernel_rfl) (by kernel_rfl) (by kernel_rfl) (fun _ _ _ h => h) (Or.inl ⟨by rfl, ?_⟩) hH ?_
                · intro w5 hSw; obtain ⟨s0, s1, s2⟩ := hSw; go_simp
                simp only [List.setIfInBounds_toArray, List.set_cons_zero, List.set_cons_succ]
                refine wpAnyH_done (by kernel_rfl) ?_ _
                refine NoPanic.normal ?_
                have F0 := mkHid (CpF_start (ys := ys) GW.out XR1.out XR3.out XR4.out)
                clear GW XR1 XR3 XR4 hH
                go_wp2_with fail
                go_meet
                case rel => exact ⟨_, _, _, _, rfl, F0⟩
    · go_simp
      refine hK.out _ _ (KS.out _ (grown_al GW.out _)) (fun hH => ?_)
      clear hK K
      have BL3 := mkHid (And.intro (heap_alloc_new W0 (.cells #[] 94)) GW.out.size)
      replace GW := mkHid (grown_al GW.out (.cells #[] 94))
      generalize W0.alloc (.cells #[] 94) = W1 at GW BL3 hH ⊢
      refine wpAnyH_ready (rs := [0, 12]) (by kernel_rfl) (by simp) ?_
      refine AllReadyH.cons rfl (fun K hK => ?_) (AllReadyH.cons rfl (fun K hK => ?_) AllReadyH.nil)
      · go_simp
        refine hK.out _ _ (KS.out _ (grown_al GW.out _)) (fun hH => ?_)
        clear hK K
        replace BL3 := mkHid (And.intro (box_keep BL3.out.1 (grown_al (grown_refl W1) (.cells #[] 4)) (by simp)) BL3.out.2)
        have BL1 := mkHid (And.intro (heap_alloc_new W1 (.cells #[] 4)) GW.out.size)
        replace GW := mkHid (grown_al GW.out (.cells #[] 4))
        generalize W1.alloc (.cells #[] 4) = W2 at GW BL1 BL3 hH ⊢
        refine wpAnyH_ready (rs := [5, 12]) (by kernel_rfl) (by simp) ?_
        refine AllReadyH.cons rfl (fun K hK => ?_) (AllReadyH.cons rfl (fun K hK => ?_) AllReadyH.nil)
        · obtain ⟨p1, c1, W3, hr, xx, gg, CC, _⟩ := rwBo.copyX SRC1.out GW.out BL1.out.1 BL1.out.2 (by omega)
          refine step_app 86 rfl (.tmp 5) (.tmp 9) rfl rfl rfl hr ?_
          refine hK.out _ _ (KS.out _ gg) (fun hH => ?_)
          clear hK K
          replace BL3 := mkHid (And.intro (CC.at_ BL3.out.1 (fun e => by have h1 := BL3.out.1; rw [e, BL1.out.1] at h1; simp at h1)) BL3.out.2)
          have XR1 := mkHid xx
          replace GW := mkHid gg
          clear BL1 hr xx gg CC
          go_simp
          refine wpAnyH_ready (rs := [11, 12]) (by kernel_rfl) (by simp) ?_
          refine AllReadyH.cons rfl (fun K hK => ?_) (AllReadyH.cons rfl (fun K hK => ?_) AllReadyH.nil)
          · obtain ⟨p3, c3, W4, hr, xx, gg, CC, _⟩ := rwMM.copyX SRC3.out GW.out BL3.out.1 BL3.out.2 (by omega)
            refine step_app 88 rfl (.tmp 11) (.tmp 15) rfl rfl rfl hr ?_
            refine hK.out _ _ (KS.out _ gg) (fun hH => ?_)
            clear hK K
            replace XR1 := mkHid (XR1.out.kept CC (fun b hb e => by have k1 := (XR1.out.kd b hb).1; rw [e, kd_cells BL3.out.1] at k1; simp at k1))
            have XR3 := mkHid xx
            replace GW := mkHid gg
            clear BL3 hr xx gg CC
            go_simp
            refine wpAnyH_ready (rs := [12]) (by kernel_rfl) (by simp) ?_
            refine AllReadyH.cons rfl (fun K hK => ?_) AllReadyH.nil
            · go_simp
              refine hK.out _ _ (KS.out _ (grown_al GW.out _)) (fun hH => ?_)
              clear hK K
              replace XR1 := mkHid (XR1.out.kept (Chg.of_none (grown_al (grown_refl W4) (.cells #[] 97)) (fun _ => False)) (fun _ _ e => e))
              replace XR3 := mkHid (XR3.out.kept (Chg.of_none (grown_al (grown_refl W4) (.cells #[] 97)) (fun _ => False)) (fun _ _ e => e))
              have BL4 := mkHid (And.intro (heap_alloc_new W4 (.cells #[] 97)) GW.out.size)
              replace GW := mkHid (grown_al GW.out (.cells #[] 97))
              generalize W4.alloc (.cells #[] 97) = W5 at GW BL4 XR1 XR3 hH ⊢
              refine wpAnyH_ready (rs := [17]) (by kernel_rfl) (by simp) ?_
              refine AllReadyH.cons rfl (fun K hK => ?_) AllReadyH.nil
              · obtain ⟨p4, c4, W6, hr, xx, gg, CC, _⟩ := rwA.copyX SRC4.out GW.out BL4.out.1 BL4.out.2 (by omega)
                refine step_app 44 rfl (.tmp 17) (.tmp 21) rfl rfl rfl hr ?_
                refine hK.out _ _ (KS.out _ gg) (fun hH => ?_)
                clear hK K
                replace XR1 := mkHid (XR1.out.kept CC (fun b hb e => by have k1 := (XR1.out.kd b hb).1; rw [e, kd_cells BL4.out.1] at k1; simp at k1))
                replace XR3 := mkHid (XR3.out.kept CC (fun b hb e => by have k1 := (XR3.out.kd b hb).1; rw [e, kd_cells BL4.out.1] at k1; simp at k1))
                have XR4 := mkHid xx
                replace GW := mkHid gg
                clear BL4 hr xx gg CC
                go_simp
                refine take_at (i := 18) (v := .agg #[.slice p1 N c1, .slice none 0 0, .slice p3 N c3, .slice p4 n4 c4]) rfl rfl (by kernel_rfl) (by kernel_rfl) (by kernel_rfl) (fun _ _ _ h => h) (Or.inl ⟨by rfl, ?_⟩) hH ?_
                · intro w5 hSw; obtain ⟨s0, s1, s2⟩ := hSw; go_simp
                simp only [List.setIfInBounds_toArray, List.set_cons_zero, List.set_cons_succ]
                refine wpAnyH_ready (rs := [19]) (by kernel_rfl) (by simp) ?_
                refine AllReadyH.cons rfl (fun K hK => ?_) AllReadyH.nil
                go_simp
                refine hK.out _ _ (KS.out _ (grown_al GW.out _)) (fun hH => ?_)
                clear hK K
                refine take_at (i := 20) (v := .pointer (some ⟨W6.heap.size, 0, none⟩)) rfl rfl (by kernel_rfl) (by kernel_rfl) (by kernel_rfl) (fun _ _ _ h => h) (Or.inl ⟨by rfl, ?_⟩) hH ?_
                · intro w5 hSw; obtain ⟨s0, s1, s2⟩ := hSw; go_simp
                simp only [List.setIfInBounds_toArray, List.set_cons_zero, List.set_cons_succ]
                refine wpAnyH_done (by kernel_rfl) ?_ _
                refine NoPanic.normal ?_
                have F0 := mkHid (CpF_start (ys := ys) GW.out XR1.out XR3.out XR4.out)
                clear GW XR1 XR3 XR4 hH
                go_wp2_with fail
                go_meet
                case rel => exact ⟨_, _, _, _, rfl, F0⟩
          · go_simp
            refine hK.out _ _ (KS.out _ (grown_al GW.out _)) (fun hH => ?_)
            clear hK K
            replace BL3 := mkHid (And.intro (box_keep BL3.out.1 (grown_al (grown_refl W3) (.cells #[] 97)) (by simp)) BL3.out.2)
            replace XR1 := mkHid (XR1.out.kept (Chg.of_none (grown_al (grown_refl W3) (.cells #[] 97)) (fun _ => False)) (fun _ _ e => e))
            have BL4 := mkHid (And.intro (heap_alloc_new W3 (.cells #[] 97)) GW.out.size)
            replace GW := mkHid (grown_al GW.out (.cells #[] 97))
            generalize W3.alloc (.cells #[] 97) = W4 at GW BL3 BL4 XR1 hH ⊢
            refine wpAnyH_ready (rs := [11]) (by kernel_rfl) (by simp) ?_
            refine AllReadyH.cons rfl (fun K hK => ?_) AllReadyH.nil
            · obtain ⟨p3, c3, W5, hr, xx, gg, CC, _⟩ := rwMM.copyX SRC3.out GW.out BL3.out.1 BL3.out.2 (by omega)
              refine step_app 88 rfl (.tmp 11) (.tmp 15) rfl rfl rfl hr ?_
              refine hK.out _ _ (KS.out _ gg) (fun hH => ?_)
              clear hK K
              replace BL4 := mkHid (And.intro (CC.at_ BL4.out.1 (fun e => by have h1 := BL4.out.1; rw [e, BL3.out.1] at h1; simp at h1)) BL4.out.2)
              replace XR1 := mkHid (XR1.out.kept CC (fun b hb e => by have k1 := (XR1.out.kd b hb).1; rw [e, kd_cells BL3.out.1] at k1; simp at k1))
              have XR3 := mkHid xx
              replace GW := mkHid gg
              clear BL3 hr xx gg CC
              go_simp
              refine wpAnyH_ready (rs := [17]) (by kernel_rfl) (by simp) ?_
              refine AllReadyH.cons rfl (fun K hK => ?_) AllReadyH.nil
              · obtain ⟨p4, c4, W6, hr, xx, gg, CC, _⟩ := rwA.copyX SRC4.out GW.out BL4.out.1 BL4.out.2 (by omega)
                refine step_app 44 rfl (.tmp 17) (.tmp 21) rfl rfl rfl hr ?_
                refine hK.out _ _ (KS.out _ gg) (fun hH => ?_)
                clear hK K
                replace XR1 := mkHid (XR1.out.kept CC (fun b hb e => by have k1 := (XR1.out.kd b hb).1; rw [e, kd_cells BL4.out.1] at k1; simp at k1))
                replace XR3 := mkHid (XR3.out.kept CC (fun b hb e => by have k1 := (XR3.out.kd b hb).1; rw [e, kd_cells BL4.out.1] at k1; simp at k1))
                have XR4 := mkHid xx
                replace GW := mkHid gg
                clear BL4 hr xx gg CC
                go_simp
                refine take_at (i := 18) (v := .agg #[.slice p1 N c1, .slice none 0 0, .slice p3 N c3, .slice p4 n4 c4]) rfl rfl (by kernel_rfl) (by kernel_rfl) (by kernel_rfl) (fun _ _ _ h => h) (Or.inl ⟨by rfl, ?_⟩) hH ?_
                · intro w5 hSw; obtain ⟨s0, s1, s2⟩ := hSw; go_simp
                simp only [List.setIfInBounds_toArray, List.set_cons_zero, List.set_cons_succ]
                refine wpAnyH_ready (rs := [19]) (by kernel_rfl) (by simp) ?_
                refine AllReadyH.cons rfl (fun K hK => ?_) AllReadyH.nil
                go_simp
                refine hK.out _ _ (KS.out _ (grown_al GW.out _)) (fun hH => ?_)
                clear hK K
                refine take_at (i := 20) (v := .pointer (some ⟨W6.heap.size, 0, none⟩)) rfl rfl (by kernel_rfl) (by kernel_rfl) (by kernel_rfl) (fun _ _ _ h => h) (Or.inl ⟨by rfl, ?_⟩) hH ?_
                · intro w5 hSw; obtain ⟨s0, s1, s2⟩ := hSw; go_simp
                simp only [List.setIfInBounds_toArray, List.set_cons_zero, List.set_cons_succ]
                refine wpAnyH_done (by kernel_rfl) ?_ _
                refine NoPanic.normal ?_
                have F0 := mkHid (CpF_start (ys := ys) GW.out XR1.out XR3.out XR4.out)
                clear GW XR1 XR3 XR4 hH
                go_wp2_with fail
                go_meet
                case rel => exact ⟨_, _, _, _, rfl, F0⟩
        · go_simp
          refine hK.out _ _ (KS.out _ (grown_al GW.out _)) (fun hH => ?_)
          clear hK K
          replace BL1 := mkHid (And.intro (box_keep BL1.out.1 (grown_al (grown_refl W2) (.cells #[] 97)) (by simp)) BL1.out.2)
          replace BL3 := mkHid (And.intro (box_keep BL3.out.1 (grown_al (grown_refl W2) (.cells #[] 97)) (by simp)) BL3.out.2)
          have BL4 := mkHid (And.intro (heap_alloc_new W2 (.cells #[] 97)) GW.out.size)
          replace GW := mkHid (grown_al GW.out (.cells #[] 97))
          generalize W2.alloc (.cells #[] 97) = W3 at GW BL1 BL3 BL4 hH ⊢
          refine wpAnyH_ready (rs := [5]) (by kernel_rfl) (by simp) ?_
          refine AllReadyH.cons rfl (fun K hK => ?_) AllReadyH.nil
          · obtain ⟨p1, c1, W4, hr, xx, gg, CC, _⟩ := rwBo.copyX SRC1.out GW.out BL1.out.1 BL1.out.2 (by omega)
            refine step_app 86 rfl (.tmp 5) (.tmp 9) rfl rfl rfl hr ?_
            refine hK.out _ _ (KS.out _ gg) (fun hH => ?_)
            clear hK K
            replace BL3 := mkHid (And.intro (CC.at_ BL3.out.1 (fun e => by have h1 := BL3.out.1; rw [e, BL1.out.1] at h1; simp at h1)) BL3.out.2)
            replace BL4 := mkHid (And.intro (CC.at_ BL4.out.1 (fun e => by have h1 := BL4.out.1; rw [e, BL1.out.1] at h1; simp at h1)) BL4.out.2)
            have XR1 := mkHid xx
            replace GW := mkHid gg
            clear BL1 hr xx gg CC
            go_simp
            refine wpAnyH_ready (rs := [11]) (by kernel_rfl) (by simp) ?_
            refine AllReadyH.cons rfl (fun K hK => ?_) AllReadyH.nil
            · obtain ⟨p3, c3, W5, hr, xx, gg, CC, _⟩ := rwMM.copyX SRC3.out GW.out BL3.out.1 BL3.out.2 (by omega)
              refine step_app 88 rfl (.tmp 11) (.tmp 15) rfl rfl rfl hr ?_
              refine hK.out _ _ (KS.out _ gg) (fun hH => ?_)
              clear hK K
              replace BL4 := mkHid (And.intro (CC.at_ BL4.out.1 (fun e => by have h1 := BL4.out.1; rw [e, BL3.out.1] at h1; simp at h1)) BL4.out.2)
              replace XR1 := mkHid (XR1.out.kept CC (fun b hb e => by have k1 := (XR1.out.kd b hb).1; rw [e, kd_cells BL3.out.1] at k1; simp at k1))
              have XR3 := mkHid xx
              replace GW := mkHid gg
              clear BL3 hr xx gg CC
              go_simp
              refine wpAnyH_ready (rs := [17]) (by kernel_rfl) (by simp) ?_
              refine AllReadyH.cons rfl (fun K hK => ?_) AllReadyH.nil
              · obtain ⟨p4, c4, W6, hr, xx, gg, CC, _⟩ := rwA.copyX SRC4.out GW.out BL4.out.1 BL4.out.2 (by omega)
                refine step_app 44 rfl (.tmp 17) (.tmp 21) rfl rfl rfl hr ?_
                refine hK.out _ _ (KS.out _ gg) (fun hH => ?_)
                clear hK K
                replace XR1 := mkHid (XR1.out.kept CC (fun b hb e => by have k1 := (XR1.out.kd b hb).1; rw [e, kd_cells BL4.out.1] at k1; simp at k1))
                replace XR3 := mkHid (XR3.out.kept CC (fun b hb e => by have k1 := (XR3.out.kd b hb).1; rw [e, kd_cells BL4.out.1] at k1; simp at k1))
                have XR4 := mkHid xx
                replace GW := mkHid gg
                clear BL4 hr xx gg CC
                go_simp
                refine take_at (i := 18) (v := .agg #[.slice p1 N c1, .slice none 0 0, .slice p3 N c3, .slice p4 n4 c4]) rfl rfl (by kernel_rfl) (by kernel_rfl) (by kernel_rfl) (fun _ _ _ h => h) (Or.inl ⟨by rfl, ?_⟩) hH ?_
                · intro w5 hSw; obtain ⟨s0, s1, s2⟩ := hSw; go_simp
                simp only [List.setIfInBounds_toArray, List.set_cons_zero, List.set_cons_succ]
                refine wpAnyH_ready (rs := [19]) (by kernel_rfl) (by simp) ?_
                refine AllReadyH.cons rfl (fun K hK => ?_) AllReadyH.nil
                go_simp
                refine hK.out _ _ (KS.out _ (grown_al GW.out _)) (fun hH => ?_)
                clear hK K
                refine take_at (i := 20) (v := .pointer (some ⟨W6.heap.size, 0, none⟩)) rfl rfl (by kernel_rfl) (by kernel_rfl) (by kernel_rfl) (fun _ _ _ h => h) (Or.inl ⟨by rfl, ?_⟩) hH ?_
                · intro w5 hSw; obtain ⟨s0, s1, s2⟩ := hSw; go_simp
                simp only [List.setIfInBounds_toArray, List.set_cons_zero, List.set_cons_succ]
                refine wpAnyH_done (by kernel_rfl) ?_ _
                refine NoPanic.normal ?_
                have F0 := mkHid (CpF_start (ys := ys) GW.out XR1.out XR3.out XR4.out)
                clear GW XR1 XR3 XR4 hH
                go_wp2_with fail
                go_meet
                case rel => exact ⟨_, _, _, _, rfl, F0⟩
      · go_simp
        refine hK.out _ _ (KS.out _ (grown_al GW.out _)) (fun hH => ?_)
        clear hK K
        replace BL3 := mkHid (And.intro (box_keep BL3.out.1 (grown_al (grown_refl W1) (.cells #[] 97)) (by simp)) BL3.out.2)
        have BL4 := mkHid (And.intro (heap_alloc_new W1 (.cells #[] 97)) GW.out.size)
        replace GW := mkHid (grown_al GW.out (.cells #[] 97))
        generalize W1.alloc (.cells #[] 97) = W2 at GW BL3 BL4 hH ⊢
        refine wpAnyH_ready (rs := [0]) (by kernel_rfl) (by simp) ?_
        refine AllReadyH.cons rfl (fun K hK => ?_) AllReadyH.nil
        · go_simp
          refine hK.out _ _ (KS.out _ (grown_al GW.out _)) (fun hH => ?_)
          clear hK K
          replace BL3 := mkHid (And.intro (box_keep BL3.out.1 (grown_al (grown_refl W2) (.cells #[] 4)) (by simp)) BL3.out.2)
          replace BL4 := mkHid (And.intro (box_keep BL4.out.1 (grown_al (grown_refl W2) (.cells #[] 4)) (by simp)) BL4.out.2)
          have BL1 := mkHid (And.intro (heap_alloc_new W2 (.cells #[] 4)) GW.out.size)
          replace GW := mkHid (grown_al GW.out (.cells #[] 4))
          generalize W2.alloc (.cells #[] 4) = W3 at GW BL1 BL3 BL4 hH ⊢
          refine wpAnyH_ready (rs := [5]) (by kernel_rfl) (by simp) ?_
          refine AllReadyH.cons rfl (fun K hK => ?_) AllReadyH.nil
          · obtain ⟨p1, c1, W4, hr, xx, gg, CC, _⟩ := rwBo.copyX SRC1.out GW.out BL1.out.1 BL1.out.2 (by omega)
            refine step_app 86 rfl (.tmp 5) (.tmp 9) rfl rfl rfl hr ?_
            refine hK.out _ _ (KS.out _ gg) (fun hH => ?_)
            clear hK K
            replace BL3 := mkHid (And.intro (CC.at_ BL3.out.1 (fun e => by have h1 := BL3.out.1; rw [e, BL1.out.1] at h1; simp at h1)) BL3.out.2)
            replace BL4 := mkHid (And.intro (CC.at_ BL4.out.1 (fun e => by have h1 := BL4.out.1; rw [e, BL1.out.1] at h1; simp at h1)) BL4.out.2)
            have XR1 := mkHid xx
            replace GW := mkHid gg
            clear BL1 hr xx gg CC
            go_simp
            refine wpAnyH_ready (rs := [11]) (by kernel_rfl) (by simp) ?_
            refine AllReadyH.cons rfl (fun K hK => ?_) AllReadyH.nil
            · obtain ⟨p3, c3, W5, hr, xx, gg, CC, _⟩ := rwMM.copyX SRC3.out GW.out BL3.out.1 BL3.out.2 (by omega)
              refine step_app 88 rfl (.tmp 11) (.tmp 15) rfl rfl rfl hr ?_
              refine hK.out _ _ (KS.out _ gg) (fun hH => ?_)
              clear hK K
              replace BL4 := mkHid (And.intro (CC.at_ BL4.out.1 (fun e => by have h1 := BL4.out.1; rw [e, BL3.out.1] at h1; simp at h1)) BL4.out.2)
              replace XR1 := mkHid (XR1.out.kept CC (fun b hb e => by have k1 := (XR1.out.kd b hb).1; rw [e, kd_cells BL3.out.1] at k1; simp at k1))
              have XR3 := mkHid xx
              replace GW := mkHid gg
              clear BL3 hr xx gg CC
              go_simp
              refine wpAnyH_ready (rs := [17]) (by kernel_rfl) (by simp) ?_
              refine AllReadyH.cons rfl (fun K hK => ?_) AllReadyH.nil
              · obtain ⟨p4, c4, W6, hr, xx, gg, CC, _⟩ := rwA.copyX SRC4.out GW.out BL4.out.1 BL4.out.2 (by omega)
                refine step_app 44 rfl (.tmp 17) (.tmp 21) rfl rfl rfl hr ?_
                refine hK.out _ _ (KS.out _ gg) (fun hH => ?_)
                clear hK K
                replace XR1 := mkHid (XR1.out.kept CC (fun b hb e => by have k1 := (XR1.out.kd b hb).1; rw [e, kd_cells BL4.out.1] at k1; simp at k1))
                replace XR3 := mkHid (XR3.out.kept CC (fun b hb e => by have k1 := (XR3.out.kd b hb).1; rw [e, kd_cells BL4.out.1] at k1; simp at k1))
                have XR4 := mkHid xx
                replace GW := mkHid gg
                clear BL4 hr xx gg CC
                go_simp
                refine take_at (i := 18) (v := .agg #[.slice p1 N c1, .slice none 0 0, .slice p3 N c3, .slice p4 n4 c4]) rfl rfl (by kernel_rfl) (by kernel_rfl) (by kernel_rfl) (fun _ _ _ h => h) (Or.inl ⟨by rfl, ?_⟩) hH ?_
                · intro w5 hSw; obtain ⟨s0, s1, s2⟩ := hSw; go_simp
                simp only [List.setIfInBounds_toArray, List.set_cons_zero, List.set_cons_succ]
                refine wpAnyH_ready (rs := [19]) (by kernel_rfl) (by simp) ?_
                refine AllReadyH.cons rfl (fun K hK => ?_) AllReadyH.nil
                go_simp
                refine hK.out _ _ (KS.out _ (grown_al GW.out _)) (fun hH => ?_)
                clear hK K
                refine take_at (i := 20) (v := .pointer (some ⟨W6.heap.size, 0, none⟩)) rfl rfl (by kernel_rfl) (by kernel_rfl) (by kernel_rfl) (fun _ _ _ h => h) (Or.inl ⟨by rfl, ?_⟩) hH ?_
                · intro w5 hSw; obtain ⟨s0, s1, s2⟩ := hSw; go_simp
                simp only [List.setIfInBounds_toArray, List.set_cons_zero, List.set_cons_succ]
                refine wpAnyH_done (by kernel_rfl) ?_ _
                refine NoPanic.normal ?_
                have F0 := mkHid (CpF_start (ys := ys) GW.out XR1.out XR3.out XR4.out)
                clear GW XR1 XR3 XR4 hH
                go_wp2_with fail
                go_meet
                case rel => exact ⟨_, _, _, _, rfl, F0⟩
    · go_simp
      refine hK.out _ _ (KS.out _ (grown_al GW.out _)) (fun hH => ?_)
      clear hK K
      have BL4 := mkHid (And.intro (heap_alloc_new W0 (.cells #[] 97)) GW.out.size)
      replace GW := mkHid (grown_al GW.out (.cells #[] 97))
      generalize W0.alloc (.cells #[] 97) = W1 at GW BL4 hH ⊢
      refine wpAnyH_ready (rs := [0, 6]) (by kernel_rfl) (by simp) ?_
      refine AllReadyH.cons rfl (fun K hK => ?_) (AllReadyH.cons rfl (fun K hK => ?_) AllReadyH.nil)
      · go_simp
        refine hK.out _ _ (KS.out _ (grown_al GW.out _)) (fun hH => ?_)
        clear hK K
        replace BL4 := mkHid (And.intro (box_keep BL4.out.1 (grown_al (grown_refl W1) (.cells #[] 4)) (by simp)) BL4.out.2)
        have BL1 := mkHid (And.intro (heap_alloc_new W1 (.cells #[] 4)) GW.out.size)
        replace GW := mkHid (grown_al GW.out (.cells #[] 4))
        generalize W1.alloc (.cells #[] 4) = W2 at GW BL1 BL4 hH ⊢
        refine wpAnyH_ready (rs := [5, 6]) (by kernel_rfl) (by simp) ?_
        refine AllReadyH.cons rfl (fun K hK => ?_) (AllReadyH.cons rfl (fun K hK => ?_) AllReadyH.nil)
        · obtain ⟨p1, c1, W3, hr, xx, gg, CC, _⟩ := rwBo.copyX SRC1.out GW.out BL1.out.1 BL1.out.2 (by omega)
          refine step_app 86 rfl (.tmp 5) (.tmp 9) rfl rfl rfl hr ?_
          refine hK.out _ _ (KS.out _ gg) (fun hH => ?_)
          clear hK K
          replace BL4 := mkHid (And.intro (CC.at_ BL4.out.1 (fun e => by have h1 := BL4.out.1; rw [e, BL1.out.1] at h1; simp at h1)) BL4.out.2)
          have XR1 := mkHid xx
          replace GW := mkHid gg
          clear BL1 hr xx gg CC
          go_simp
          refine wpAnyH_ready (rs := [6]) (by kernel_rfl) (by simp) ?_
          refine AllReadyH.cons rfl (fun K hK => ?_) AllReadyH.nil
          · go_simp
            refine hK.out _ _ (KS.out _ (grown_al GW.out _)) (fun hH => ?_)
            clear hK K
            replace BL4 := mkHid (And.intro (box_keep BL4.out.1 (grown_al (grown_refl W3) (.cells #[] 94)) (by simp)) BL4.out.2)
            replace XR1 := mkHid (XR1.out.kept (Chg.of_none (grown_al (grown_refl W3) (.cells #[] 94)) (fun _ => False)) (fun _ _ e => e))
            have BL3 := mkHid (And.intro (heap_alloc_new W3 (.cells #[] 94)) GW.out.size)
            replace GW := mkHid (grown_al GW.out (.cells #[] 94))
            generalize W3.alloc (.cells #[] 94) = W4 at GW BL3 BL4 XR1 hH ⊢
            refine wpAnyH_ready (rs := [11]) (by kernel_rfl) (by simp) ?_
            refine AllReadyH.cons rfl (fun K hK => ?_) AllReadyH.nil
            · obtain ⟨p3, c3, W5, hr, xx, gg, CC, _⟩ := rwMM.copyX SRC3.out GW.out BL3.out.1 BL3.out.2 (by omega)
              refine step_app 88 rfl (.tmp 11) (.tmp 15) rfl rfl rfl hr ?_
              refine hK.out _ _ (KS.out _ gg) (fun hH => ?_)
              clear hK K
              replace BL4 := mkHid (And.intro (CC.at_ BL4.out.1 (fun e => by have h1 := BL4.out.1; rw [e, BL3.out.1] at h1; simp at h1)) BL4.out.2)
              replace XR1 := mkHid (XR1.out.kept CC (fun b hb e => by have k1 := (XR1.out.kd b hb).1; rw [e, kd_cells BL3.out.1] at k1; simp at k1))
              have XR3 := mkHid xx
              replace GW := mkHid gg
              clear BL3 hr xx gg CC
              go_simp
              refine wpAnyH_ready (rs := [17]) (by kernel_rfl) (by simp) ?_
              refine AllReadyH.cons rfl (fun K hK => ?_) AllReadyH.nil
              · obtain ⟨p4, c4, W6, hr, xx, gg, CC, _⟩ := rwA.copyX SRC4.out GW.out BL4.out.1 BL4.out.2 (by omega)
                refine step_app 44 rfl (.tmp 17) (.tmp 21) rfl rfl rfl hr ?_
                refine hK.out _ _ (KS.out _ gg) (fun hH => ?_)
                clear hK K
                replace XR1 := mkHid (XR1.out.kept CC (fun b hb e => by have k1 := (XR1.out.kd b hb).1; rw [e, kd_cells BL4.out.1] at k1; simp at k1))
                replace XR3 := mkHid (XR3.out.kept CC (fun b hb e => by have k1 := (XR3.out.kd b hb).1; rw [e, kd_cells BL4.out.1] at k1; simp at k1))
                have XR4 := mkHid xx
                replace GW := mkHid gg
                clear BL4 hr xx gg CC
                go_simp
                refine take_at (i := 18) (v := .agg #[.slice p1 N c1, .slice none 0 0, .slice p3 N c3, .slice p4 n4 c4]) rfl rfl (by kernel_rfl) (by kernel_rfl) (by kernel_rfl) (fun _ _ _ h => h) (Or.inl ⟨by rfl, ?_⟩) hH ?_
                · intro w5 hSw; obtain ⟨s0, s1, s2⟩ := hSw; go_simp
                simp only [List.setIfInBounds_toArray, List.set_cons_zero, List.set_cons_succ]
                refine wpAnyH_ready (rs := [19]) (by kernel_rfl) (by simp) ?_
                refine AllReadyH.cons rfl (fun K hK => ?_) AllReadyH.nil
                go_simp
                refine hK.out _ _ (KS.out _ (grown_al GW.out _)) (fun hH => ?_)
                clear hK K
                refine take_at (i := 20) (v := .pointer (some ⟨W6.heap.size, 0, none⟩)) rfl rfl (by kernel_rfl) (by kernel_rfl) (by kernel_rfl) (fun _ _ _ h => h) (Or.inl ⟨by rfl, ?_⟩) hH ?_
                · intro w5 hSw; obtain ⟨s0, s1, s2⟩ := hSw; go_simp
                simp only [List.setIfInBounds_toArray, List.set_cons_zero, List.set_cons_succ]
                refine wpAnyH_done (by kernel_rfl) ?_ _
                refine NoPanic.normal ?_
                have F0 := mkHid (CpF_start (ys := ys) GW.out XR1.out XR3.out XR4.out)
                clear GW XR1 XR3 XR4 hH
                go_wp2_with fail
                go_meet
                case rel => exact ⟨_, _, _, _, rfl, F0⟩
        · go_simp
          refine hK.out _ _ (KS.out _ (grown_al GW.out _)) (fun hH => ?_)
          clear hK K
          replace BL1 := mkHid (And.intro (box_keep BL1.out.1 (grown_al (grown_refl W2) (.cells #[] 94)) (by simp)) BL1.out.2)
          replace BL4 := mkHid (And.intro (box_keep BL4.out.1 (grown_al (grown_refl W2) (.cells #[] 94)) (by simp)) BL4.out.2)
          have BL3 := mkHid (And.intro (heap_alloc_new W2 (.cells #[] 94)) GW.out.size)
          replace GW := mkHid (grown_al GW.out (.cells #[] 94))
          generalize W2.alloc (.cells #[] 94) = W3 at GW BL1 BL3 BL4 hH ⊢
          refine wpAnyH_ready (rs := [5]) (by kernel_rfl) (by simp) ?_
          refine AllReadyH.cons rfl (fun K hK => ?_) AllReadyH.nil
          · obtain ⟨p1, c1, W4, hr, xx, gg, CC, _⟩ := rwBo.copyX SRC1.out GW.out BL1.out.1 BL1.out.2 (by omega)
            refine step_app 86 rfl (.tmp 5) (.tmp 9) rfl rfl rfl hr ?_
            refine hK.out _ _ (KS.out _ gg) (fun hH => ?_)
            clear hK K
            replace BL3 := mkHid (And.intro (CC.at_ BL3.out.1 (fun e => by have h1 := BL3.out.1; rw [e, BL1.out.1] at h1; simp at h1)) BL3.out.2)
            replace BL4 := mkHid (And.intro (CC.at_ BL4.out.1 (fun e => by have h1 := BL4.out.1; rw [e, BL1.out.1] at h1; simp at h1)) BL4.out.2)
            have XR1 := mkHid xx
            replace GW := mkHid gg
            clear BL1 hr xx gg CC
            go_simp
            refine wpAnyH_ready (rs := [11]) (by kernel_rfl) (by simp) ?_
            refine AllReadyH.cons rfl (fun K hK => ?_) AllReadyH.nil
            · obtain ⟨p3, c3, W5, hr, xx, gg, CC, _⟩ := rwMM.copyX SRC3.out GW.out BL3.out.1 BL3.out.2 (by omega)
              refine step_app 88 rfl (.tmp 11) (.tmp 15) rfl rfl rfl hr ?_
              refine hK.out _ _ (KS.out _ gg) (fun hH => ?_)
              clear hK K
              replace BL4 := mkHid (And.intro (CC.at_ BL4.out.1 (fun e => by have h1 := BL4.out.1; rw [e, BL3.out.1] at h1; simp at h1)) BL4.out.2)
              replace XR1 := mkHid (XR1.out.kept CC (fun b hb e => by have k1 := (XR1.out.kd b hb).1; rw [e, kd_cells BL3.out.1] at k1; simp at k1))
              have XR3 := mkHid xx
              replace GW := mkHid gg
              clear BL3 hr xx gg CC
              go_simp
              refine wpAnyH_ready (rs := [17]) (by kernel_rfl) (by simp) ?_
              refine AllReadyH.cons rfl (fun K hK => ?_) AllReadyH.nil
              · obtain ⟨p4, c4, W6, hr, xx, gg, CC, _⟩ := rwA.copyX SRC4.out GW.out BL4.out.1 BL4.out.2 (by omega)
                refine step_app 44 rfl (.tmp 17) (.tmp 21) rfl rfl rfl hr ?_
                refine hK.out _ _ (KS.out _ gg) (fun hH => ?_)
                clear hK K
                replace XR1 := mkHid (XR1.out.kept CC (fun b hb e => by have k1 := (XR1.out.kd b hb).1; rw [e, kd_cells BL4.out.1] at k1; simp at k1))
                replace XR3 := mkHid (XR3.out.kept CC (fun b hb e => by have k1 := (XR3.out.kd b hb).1; rw [e, kd_cells BL4.out.1] at k1; simp at k1))
                have XR4 := mkHid xx
                replace GW := mkHid gg
                clear BL4 hr xx gg CC
                go_simp
                refine take_at (i := 18) (v := .agg #[.slice p1 N c1, .slice none 0 0, .slice p3 N c3, .slice p4 n4 c4]) rfl rfl (by kernel_rfl) (by kernel_rfl) (by kernel_rfl) (fun _ _ _ h => h) (Or.inl ⟨by rfl, ?_⟩) hH ?_
                · intro w5 hSw; obtain ⟨s0, s1, s2⟩ := hSw; go_simp
                simp only [List.setIfInBounds_toArray, List.set_cons_zero, List.set_cons_succ]
                refine wpAnyH_ready (rs := [19]) (by kernel_rfl) (by simp) ?_
                refine AllReadyH.cons rfl (fun K hK => ?_) AllReadyH.nil
                go_simp
                refine hK.out _ _ (KS.out _ (grown_al GW.out _)) (fun hH => ?_)
                clear hK K
                refine take_at (i := 20) (v := .pointer (some ⟨W6.heap.size, 0, none⟩)) rfl rfl (by kernel_rfl) (by kernel_rfl) (by kernel_rfl) (fun _ _ _ h => h) (Or.inl ⟨by rfl, ?_⟩) hH ?_
                · intro w5 hSw; obtain ⟨s0, s1, s2⟩ := hSw; go_simp
                simp only [List.setIfInBounds_toArray, List.set_cons_zero, List.set_cons_succ]
                refine wpAnyH_done (by kernel_rfl) ?_ _
                refine NoPanic.normal ?_
                have F0 := mkHid (CpF_start (ys := ys) GW.out XR1.out XR3.out XR4.out)
                clear GW XR1 XR3 XR4 hH
                go_wp2_with fail
                go_meet
                case rel => exact ⟨_, _, _, _, rfl, F0⟩
      · go_simp
        refine hK.out _ _ (KS.out _ (grown_al GW.out _)) (fun hH => ?_)
        clear hK K
        replace BL4 := mkHid (And.intro (box_keep BL4.out.1 (grown_al (grown_refl W1) (.cells #[] 94)) (by simp)) BL4.out.2)
        have BL3 := mkHid (And.intro (heap_alloc_new W1 (.cells #[] 94)) GW.out.size)
        replace GW := mkHid (grown_al GW.out (.cells #[] 94))
        generalize W1.alloc (.cells #[] 94) = W2 at GW BL3 BL4 hH ⊢
        refine wpAnyH_ready (rs := [0]) (by kernel_rfl) (by simp) ?_
        refine AllReadyH.cons rfl (fun K hK => ?_) AllReadyH.nil
        · go_simp
          refine hK.out _ _ (KS.out _ (grown_al GW.out _)) (fun hH => ?_)
          clear hK K
          replace BL3 := mkHid (And.intro (box_keep BL3.out.1 (grown_al (grown_refl W2) (.cells #[] 4)) (by simp)) BL3.out.2)
          replace BL4 := mkHid (And.intro (box_keep BL4.out.1 (grown_al (grown_refl W2) (.cells #[] 4)) (by simp)) BL4.out.2)
          have BL1 := mkHid (And.intro (heap_alloc_new W2 (.cells #[] 4)) GW.out.size)
          replace GW := mkHid (grown_al GW.out (.cells #[] 4))
          generalize W2.alloc (.cells #[] 4) = W3 at GW BL1 BL3 BL4 hH ⊢
          refine wpAnyH_ready (rs := [5]) (by kernel_rfl) (by simp) ?_
          refine AllReadyH.cons rfl (fun K hK => ?_) AllReadyH.nil
          · obtain ⟨p1, c1, W4, hr, xx, gg, CC, _⟩ := rwBo.copyX SRC1.out GW.out BL1.out.1 BL1.out.2 (by omega)
            refine step_app 86 rfl (.tmp 5) (.tmp 9) rfl rfl rfl hr ?_
            refine hK.out _ _ (KS.out _ gg) (fun hH => ?_)
            clear hK K
            replace BL3 := mkHid (And.intro (CC.at_ BL3.out.1 (fun e => by have h1 := BL3.out.1; rw [e, BL1.out.1] at h1; simp at h1)) BL3.out.2)
            replace BL4 := mkHid (And.intro (CC.at_ BL4.out.1 (fun e => by have h1 := BL4.out.1; rw [e, BL1.out.1] at h1; simp at h1)) BL4.out.2)
            have XR1 := mkHid xx
            replace GW := mkHid gg
            clear BL1 hr xx gg CC
            go_simp
            refine wpAnyH_ready (rs := [11]) (by kernel_rfl) (by simp) ?_
            refine AllReadyH.cons rfl (fun K hK => ?_) AllReadyH.nil
            · obtain ⟨p3, c3, W5, hr, xx, gg, CC, _⟩ := rwMM.copyX SRC3.out GW.out BL3.out.1 BL3.out.2 (by omega)
              refine step_app 88 rfl (.tmp 11) (.tmp 15) rfl rfl rfl hr ?_
              refine hK.out _ _ (KS.out _ gg) (fun hH => ?_)
              clear hK K
              replace BL4 := mkHid (And.intro (CC.at_ BL4.out.1 (fun e => by have h1 := BL4.out.1; rw [e, BL3.out.1] at h1; simp at h1)) BL4.out.2)
              replace XR1 := mkHid (XR1.out.kept CC (fun b hb e => by have k1 := (XR1.out.kd b hb).1; rw [e, kd_cells BL3.out.1] at k1; simp at k1))
              have XR3 := mkHid xx
              replace GW := mkHid gg
              clear BL3 hr xx gg CC
              go_simp
              refine wpAnyH_ready (rs := [17]) (by kernel_rfl) (by simp) ?_
              refine AllReadyH.cons rfl (fun K hK => ?_) AllReadyH.nil
              · obtain ⟨p4, c4, W6, hr, xx, gg, CC, _⟩ := rwA.copyX SRC4.out GW.out BL4.out.1 BL4.out.2 (by omega)
                refine step_app 44 rfl (.tmp 17) (.tmp 21) rfl rfl rfl hr ?_
                refine hK.out _ _ (KS.out _ gg) (fun hH => ?_)
                clear hK K
                replace XR1 := mkHid (XR1.out.kept CC (fun b hb e => by have k1 := (XR1.out.kd b hb).1; rw [e, kd_cells BL4.out.1] at k1; simp at k1))
                replace XR3 := mkHid (XR3.out.kept CC (fun b hb e => by have k1 := (XR3.out.kd b hb).1; rw [e, kd_cells BL4.out.1] at k1; simp at k1))
                have XR4 := mkHid xx
                replace GW := mkHid gg
                clear BL4 hr xx gg CC
                go_simp
                refine take_at (i := 18) (v := .agg #[.slice p1 N c1, .slice none 0 0, .slice p3 N c3, .slice p4 n4 c4]) rfl rfl (by kernel_rfl) (by kernel_rfl) (by kernel_rfl) (fun _ _ _ h => h) (Or.inl ⟨by rfl, ?_⟩) hH ?_
                · intro w5 hSw; obtain ⟨s0, s1, s2⟩ := hSw; go_simp
                simp only [List.setIfInBounds_toArray, List.set_cons_zero, List.set_cons_succ]
                refine wpAnyH_ready (rs := [19]) (by kernel_rfl) (by simp) ?_
                refine AllReadyH.cons rfl (fun K hK => ?_) AllReadyH.nil
                go_simp
                refine hK.out _ _ (KS.out _ (grown_al GW.out _)) (fun hH => ?_)
                clear hK K
                refine take_at (i := 20) (v := .pointer (some ⟨W6.heap.size, 0, none⟩)) rfl rfl (by kernel_rfl) (by kernel_rfl) (by kernel_rfl) (fun _ _ _ h => h) (Or.inl ⟨by rfl, ?_⟩) hH ?_
                · intro w5 hSw; obtain ⟨s0, s1, s2⟩ := hSw; go_simp
                simp only [List.setIfInBounds_toArray, List.set_cons_zero, List.set_cons_succ]
                refine wpAnyH_done (by kernel_rfl) ?_ _
                refine NoPanic.normal ?_
                have F0 := mkHid (CpF_start (ys := ys) GW.out XR1.out XR3.out XR4.out)
                clear GW XR1 XR3 XR4 hH
                go_wp2_with fail
                go_meet
                case rel => exact ⟨_, _, _, _, rfl, F0⟩
  case rest =>
    obtain ⟨cb, v1, v3, v4, rfl, F0⟩ := hcut
    clear SRC1 SRC3 SRC4 KS
    go_wp2_with fail
    go_loopw [4] (fun s4 wr => ∃ (k : Nat) (v2 : Value) (x2 : List Value), s4 = .int .i64 (k : Int) ∧ k ≤ N ∧ Hid (CpF w N n4 cb k v1 v2 v3 v4 (cT.toList.take (N * 1)) (cM.toList.take (N * 1)) xs4 ys x2 wr)) (fun s4 _ => N - (intOf s4).toNat)
    case atStart => exact ⟨0, _, _, rfl, Nat.zero_le _, F0⟩
    case round =>
      obtain ⟨k, v2, x2, rfl, hk, FK⟩ := hrel
      have d1 := FK.out.gr.cell C1.out (by simp)
      by_cases hlt : k < N
      · have hlti : (k : Int) < (N : Int) := by omega
        obtain ⟨p1, c1, W1, p2, c2, W2, hr1, hr2, gA, gB, nt, F1'⟩ := FK.out.way (by omega) (by omega) (SRW.out k hlt)
        have F1 := mkHid F1'
        obtain ⟨pv, qv, hv2⟩ := FK.out.r2.form
        have hcb := lt_of_heap FK.out.net
        have gr := FK.out.gr
        have od := FK.out.od
        have KL : Hid (∀ W, w.grownBy W none → (fun w' : World => w'.cell? ⟨d, 1, none⟩ = some (.slice (some ⟨R.yg, 0, none⟩) N R.yc) ∧ w'.cell? ⟨R.yg, k, none⟩ = some (.slice (some ⟨R.yb k, 0, none⟩) N (R.yk k))) W) := fun W g => ⟨g.cell C1.out (by simp), g.cell (YC.out k hlt) (by simp)⟩
        have GR0 := mkHid (grown_drew gr)
        have GR1 := mkHid (grown_al (grown_drew gr) (.cells #[] 108))
        have GR2 := mkHid (grown_none_trans gr gA)
        have GR3 := mkHid (grown_al (grown_none_trans gr gA) (.cells #[.slice p1 N c1] 91))
        have GR4 := mkHid gB
        have KE : Hid ((fun w' : World => w'.cell? ⟨d, 1, none⟩ = some (.slice (some ⟨R.yg, 0, none⟩) N R.yc) ∧ w'.cell? ⟨R.yg, k, none⟩ = some (.slice (some ⟨R.yb k, 0, none⟩) N (R.yk k))) (W2.setCell ⟨cb, 1, none⟩ (.slice p2 (k + 1) c2))) := by
          obtain ⟨r0, r1⟩ := KL.out _ gB
          exact ⟨nSt1 (by omega) r0, nSt1 (by omega) r1⟩
        obtain ⟨x0, x1, xx2, x3, _⟩ := cells4 FK.out.net
        have y1 := (cells4 (box_keep FK.out.net gA (by simp))).2.1
        have z1 := (cells4 (box_keep FK.out.net (grown_al gA (.cells #[.slice p1 N c1] 91)) (by simp))).2.1
        have v1' := (cells4 (box_keep FK.out.net (grown_al (grown_refl wr) (.cells #[] 108)) (by simp))).2.1
        obtain ⟨t0, t1, t2, t3, tf⟩ := cells4 nt
        have tf1 := tf 1
        subst hv2
        clear F1' gA gB nt tf gr x0 xx2 x3 t0 t2 t3 FK
        go_wp2_with fail
        refine wp_region_noPanic ?_
        refine wp_region_held_drew (S := fun w' : World => w'.cell? ⟨d, 1, none⟩ = some (.slice (some ⟨R.yg, 0, none⟩) N R.yc) ∧ w'.cell? ⟨R.yg, k, none⟩ = some (.slice (some ⟨R.yb k, 0, none⟩) N (R.yk k))) (by kernel_rfl) (KL.out _ GR0.out) (fun hH => ?_)
        refine take_at (i := 0) (v := .pointer (some ⟨cb, 0, none⟩)) rfl rfl (by kernel_rfl) (by kernel_rfl) (by kernel_rfl) (fun _ _ _ h => h) (Or.inl ⟨by rfl, ?_⟩) hH ?_
        · intro w5 hSw; obtain ⟨s0, s1⟩ := hSw; go_simp
        simp only [List.setIfInBounds_toArray, List.set_cons_zero, List.set_cons_succ]
        refine take_at (i := 1) (v := .pointer (some ⟨cb, 0, none⟩)) rfl rfl (by kernel_rfl) (by kernel_rfl) (by kernel_rfl) (fun _ _ _ h => h) (Or.inl ⟨by rfl, ?_⟩) hH ?_
        · intro w5 hSw; obtain ⟨s0, s1⟩ := hSw; go_simp
        simp only [List.setIfInBounds_toArray, List.set_cons_zero, List.set_cons_succ]
        refine take_at (i := 2) (v := .pointer (some ⟨cb, 0, none⟩)) rfl rfl (by kernel_rfl) (by kernel_rfl) (by kernel_rfl) (fun _ _ _ h => h) (Or.inl ⟨by rfl, ?_⟩) hH ?_
        · intro w5 hSw; obtain ⟨s0, s1⟩ := hSw; go_simp
        simp only [List.setIfInBounds_toArray, List.set_cons_zero, List.set_cons_succ]
        refine take_at (i := 3) (v := .pointer (some ⟨cb, 1, none⟩)) rfl rfl (by kernel_rfl) (by kernel_rfl) (by kernel_rfl) (fun _ _ _ h => h) (Or.inl ⟨by rfl, ?_⟩) hH ?_
        · intro w5 hSw; obtain ⟨s0, s1⟩ := hSw; go_simp
        simp only [List.setIfInBounds_toArray, List.set_cons_zero, List.set_cons_succ]
        refine take_at (i := 6) (v := .pointer (some ⟨d, 0, none⟩)) rfl rfl (by kernel_rfl) (by kernel_rfl) (by kernel_rfl) (fun _ _ _ h => h) (Or.inl ⟨by rfl, ?_⟩) hH ?_
        · intro w5 hSw; obtain ⟨s0, s1⟩ := hSw; go_simp
        simp only [List.setIfInBounds_toArray, List.set_cons_zero, List.set_cons_succ]
        refine take_at (i := 7) (v := .pointer (some ⟨d, 0, none⟩)) rfl rfl (by kernel_rfl) (by kernel_rfl) (by kernel_rfl) (fun _ _ _ h => h) (Or.inl ⟨by rfl, ?_⟩) hH ?_
        · intro w5 hSw; obtain ⟨s0, s1⟩ := hSw; go_simp
        simp only [List.setIfInBounds_toArray, List.set_cons_zero, List.set_cons_succ]
        refine take_at (i := 8) (v := .pointer (some ⟨d, 1, none⟩)) rfl rfl (by kernel_rfl) (by kernel_rfl) (by kernel_rfl) (fun _ _ _ h => h) (Or.inl ⟨by rfl, ?_⟩) hH ?_
        · intro w5 hSw; obtain ⟨s0, s1⟩ := hSw; go_simp
        simp only [List.setIfInBounds_toArray, List.set_cons_zero, List.set_cons_succ]
        refine take_at (i := 9) (v := .slice (some ⟨R.yg, 0, none⟩) N R.yc) rfl rfl (by kernel_rfl) (by kernel_rfl) (by kernel_rfl) (fun _ _ _ h => h) (Or.inl ⟨by rfl, ?_⟩) hH ?_
        · intro w5 hSw; obtain ⟨s0, s1⟩ := hSw; go_simp
        simp only [List.setIfInBounds_toArray, List.set_cons_zero, List.set_cons_succ]
        refine take_at (i := 10) (v := .int .i64 (k : Int)) rfl rfl (by kernel_rfl) (by kernel_rfl) (by kernel_rfl) (fun _ _ _ h => h) (Or.inl ⟨by rfl, ?_⟩) hH ?_
        · intro w5 hSw; obtain ⟨s0, s1⟩ := hSw; go_simp
        simp only [List.setIfInBounds_toArray, List.set_cons_zero, List.set_cons_succ]
        refine take_at (i := 11) (v := .pointer (some ⟨R.yg, k, none⟩)) rfl rfl (by kernel_rfl) (by kernel_rfl) (by kernel_rfl) (fun _ _ _ h => h) (Or.inl ⟨by rfl, ?_⟩) hH ?_
        · intro w5 hSw; obtain ⟨s0, s1⟩ := hSw; go_simp
        simp only [List.setIfInBounds_toArray, List.set_cons_zero, List.set_cons_succ]
        refine take_at (i := 12) (v := .slice (some ⟨R.yb k, 0, none⟩) N (R.yk k)) rfl rfl (by kernel_rfl) (by kernel_rfl) (by kernel_rfl) (fun _ _ _ h => h) (Or.inl ⟨by rfl, ?_⟩) hH ?_
        · intro w5 hSw; obtain ⟨s0, s1⟩ := hSw; go_simp
        simp only [List.setIfInBounds_toArray, List.set_cons_zero, List.set_cons_succ]
        refine wpAnyH_ready (rs := [4, 5]) (by kernel_rfl) (by simp) ?_
        refine AllReadyH.cons rfl (fun K hK => ?_) (AllReadyH.cons rfl (fun K hK => ?_) AllReadyH.nil)
        · go_simp
          refine hK.out _ _ (KL.out _ GR0.out) (fun hH => ?_)
          clear hK K
          refine wpAnyH_ready (rs := [5]) (by kernel_rfl) (by simp) ?_
          refine AllReadyH.cons rfl (fun K hK => ?_) AllReadyH.nil
          · go_simp
            refine hK.out _ _ (KL.out _ GR1.out) (fun hH => ?_)
            clear hK K
            refine wpAnyH_ready (rs := [13]) (by kernel_rfl) (by simp) ?_
            refine AllReadyH.cons rfl (fun K hK => ?_) AllReadyH.nil
            · refine step_app 91 rfl (.tmp 39) (.tmp 46) rfl rfl rfl hr1 ?_
              refine hK.out _ _ (KL.out _ GR2.out) (fun hH => ?_)
              clear hK K
              go_simp
              refine wpAnyH_ready (rs := [14]) (by kernel_rfl) (by simp) ?_
              refine AllReadyH.cons rfl (fun K hK => ?_) AllReadyH.nil
              · go_simp
                refine hK.out _ _ (KL.out _ GR3.out) (fun hH => ?_)
                clear hK K
                refine wpAnyH_ready (rs := [15]) (by kernel_rfl) (by simp) ?_
                refine AllReadyH.cons rfl (fun K hK => ?_) AllReadyH.nil
                · refine step_app 87 rfl (.tmp 38) (.tmp 48) rfl rfl rfl hr2 ?_
                  refine hK.out _ _ (KL.out _ GR4.out) (fun hH => ?_)
                  clear hK K
                  go_simp
                  refine take_at (i := 16) (v := .pointer (some ⟨cb, 0, none⟩)) rfl rfl (by kernel_rfl) (by kernel_rfl) (by kernel_rfl) (fun _ _ _ h => h) (Or.inl ⟨by rfl, ?_⟩) hH ?_
                  · intro w5 hSw; obtain ⟨s0, s1⟩ := hSw; go_simp
                  simp only [List.setIfInBounds_toArray, List.set_cons_zero, List.set_cons_succ]
                  refine take_at (i := 17) (v := .pointer (some ⟨cb, 1, none⟩)) rfl rfl (by kernel_rfl) (by kernel_rfl) (by kernel_rfl) (fun _ _ _ h => h) (Or.inl ⟨by rfl, ?_⟩) hH ?_
                  · intro w5 hSw; obtain ⟨s0, s1⟩ := hSw; go_simp
                  simp only [List.setIfInBounds_toArray, List.set_cons_zero, List.set_cons_succ]
                  refine wpAnyH_ready (rs := [18]) (by kernel_rfl) (by simp) ?_
                  refine AllReadyH.cons rfl (fun K hK => ?_) AllReadyH.nil
                  · go_simp
                    refine hK.out _ _ KE.out (fun hH => ?_)
                    clear hK K
                    refine wpAnyH_done (by kernel_rfl) ?_ _
                    refine NoPanic.normal ?_
                    go_wp2_with fail
                    go_roundw
                    case rel => exact ⟨k + 1, _, _, by go_num, hlt, F1⟩
                    case measure => simp [intOf]; omega
        · go_simp
          refine hK.out _ _ (KL.out _ GR1.out) (fun hH => ?_)
          clear hK K
          refine wpAnyH_ready (rs := [4, 13]) (by kernel_rfl) (by simp) ?_
          refine AllReadyH.cons rfl (fun K hK => ?_) (AllReadyH.cons rfl (fun K hK => ?_) AllReadyH.nil)
          · go_simp
            refine hK.out _ _ (KL.out _ GR1.out) (fun hH => ?_)
            clear hK K
            refine wpAnyH_ready (rs := [13]) (by kernel_rfl) (by simp) ?_
            refine AllReadyH.cons rfl (fun K hK => ?_) AllReadyH.nil
            · refine step_app 91 rfl (.tmp 39) (.tmp 46) rfl rfl rfl hr1 ?_
              refine hK.out _ _ (KL.out _ GR2.out) (fun hH => ?_)
              clear hK K
              go_simp
              refine wpAnyH_ready (rs := [14]) (by kernel_rfl) (by simp) ?_
              refine AllReadyH.cons rfl (fun K hK => ?_) AllReadyH.nil
              · go_simp
                refine hK.out _ _ (KL.out _ GR3.out) (fun hH => ?_)
                clear hK K
                refine wpAnyH_ready (rs := [15]) (by kernel_rfl) (by simp) ?_
                refine AllReadyH.cons rfl (fun K hK => ?_) AllReadyH.nil
                · refine step_app 87 rfl (.tmp 38) (.tmp 48) rfl rfl rfl hr2 ?_
                  refine hK.out _ _ (KL.out _ GR4.out) (fun hH => ?_)
                  clear hK K
                  go_simp
                  refine take_at (i := 16) (v := .pointer (some ⟨cb, 0, none⟩)) rfl rfl (by kernel_rfl) (by kernel_rfl) (by kernel_rfl) (fun _ _ _ h => h) (Or.inl ⟨by rfl, ?_⟩) hH ?_
                  · intro w5 hSw; obtain ⟨s0, s1⟩ := hSw; go_simp
                  simp only [List.setIfInBounds_toArray, List.set_cons_zero, List.set_cons_succ]
                  refine take_at (i := 17) (v := .pointer (some ⟨cb, 1, none⟩)) rfl rfl (by kernel_rfl) (by kernel_rfl) (by kernel_rfl) (fun _ _ _ h => h) (Or.inl ⟨by rfl, ?_⟩) hH ?_
                  · intro w5 hSw; obtain ⟨s0, s1⟩ := hSw; go_simp
                  simp only [List.setIfInBounds_toArray, List.set_cons_zero, List.set_cons_succ]
                  refine wpAnyH_ready (rs := [18]) (by kernel_rfl) (by simp) ?_
                  refine AllReadyH.cons rfl (fun K hK => ?_) AllReadyH.nil
                  · go_simp
                    refine hK.out _ _ KE.out (fun hH => ?_)
                    clear hK K
                    refine wpAnyH_done (by kernel_rfl) ?_ _
                    refine NoPanic.normal ?_
                    go_wp2_with fail
                    go_roundw
                    case rel => exact ⟨k + 1, _, _, by go_num, hlt, F1⟩
                    case measure => simp [intOf]; omega
          · refine step_app 91 rfl (.tmp 39) (.tmp 46) rfl rfl rfl hr1 ?_
            refine hK.out _ _ (KL.out _ GR2.out) (fun hH => ?_)
            clear hK K
            go_simp
            refine wpAnyH_ready (rs := [4, 14]) (by kernel_rfl) (by simp) ?_
            refine AllReadyH.cons rfl (fun K hK => ?_) (AllReadyH.cons rfl (fun K hK => ?_) AllReadyH.nil)
            · go_simp
              refine hK.out _ _ (KL.out _ GR2.out) (fun hH => ?_)
              clear hK K
              refine wpAnyH_ready (rs := [14]) (by kernel_rfl) (by simp) ?_
              refine AllReadyH.cons rfl (fun K hK => ?_) AllReadyH.nil
              · go_simp
                refine hK.out _ _ (KL.out _ GR3.out) (fun hH => ?_)
                clear hK K
                refine wpAnyH_ready (rs := [15]) (by kernel_rfl) (by simp) ?_
                refine AllReadyH.cons rfl (fun K hK => ?_) AllReadyH.nil
                · refine step_app 87 rfl (.tmp 38) (.tmp 48) rfl rfl rfl hr2 ?_
                  refine hK.out _ _ (KL.out _ GR4.out) (fun hH => ?_)
                  clear hK K
                  go_simp
                  refine take_at (i := 16) (v := .pointer (some ⟨cb, 0, none⟩)) rfl rfl (by kernel_rfl) (by kernel_rfl) (by kernel_rfl) (fun _ _ _ h => h) (Or.inl ⟨by rfl, ?_⟩) hH ?_
                  · intro w5 hSw; obtain ⟨s0, s1⟩ := hSw; go_simp
                  simp only [List.setIfInBounds_toArray, List.set_cons_zero, List.set_cons_succ]
                  refine take_at (i := 17) (v := .pointer (some ⟨cb, 1, none⟩)) rfl rfl (by kernel_rfl) (by kernel_rfl) (by kernel_rfl) (fun _ _ _ h => h) (Or.inl ⟨by rfl, ?_⟩) hH ?_
                  · intro w5 hSw; obtain ⟨s0, s1⟩ := hSw; go_simp
                  simp only [List.setIfInBounds_toArray, List.set_cons_zero, List.set_cons_succ]
                  refine wpAnyH_ready (rs := [18]) (by kernel_rfl) (by simp) ?_
                  refine AllReadyH.cons rfl (fun K hK => ?_) AllReadyH.nil
                  · go_simp
                    refine hK.out _ _ KE.out (fun hH => ?_)
                    clear hK K
                    refine wpAnyH_done (by kernel_rfl) ?_ _
                    refine NoPanic.normal ?_
                    go_wp2_with fail
                    go_roundw
                    case rel => exact ⟨k + 1, _, _, by go_num, hlt, F1⟩
                    case measure => simp [intOf]; omega
            · go_simp
              refine hK.out _ _ (KL.out _ GR3.out) (fun hH => ?_)
              clear hK K
              refine wpAnyH_ready (rs := [4]) (by kernel_rfl) (by simp) ?_
              refine AllReadyH.cons rfl (fun K hK => ?_) AllReadyH.nil
              · go_simp
                refine hK.out _ _ (KL.out _ GR3.out) (fun hH => ?_)
                clear hK K
                refine wpAnyH_ready (rs := [15]) (by kernel_rfl) (by simp) ?_
                refine AllReadyH.cons rfl (fun K hK => ?_) AllReadyH.nil
                · refine step_app 87 rfl (.tmp 38) (.tmp 48) rfl rfl rfl hr2 ?_
                  refine hK.out _ _ (KL.out _ GR4.out) (fun hH => ?_)
                  clear hK K
                  go_simp
                  refine take_at (i := 16) (v := .pointer (some ⟨cb, 0, none⟩)) rfl rfl (by kernel_rfl) (by kernel_rfl) (by kernel_rfl) (fun _ _ _ h => h) (Or.inl ⟨by rfl, ?_⟩) hH ?_
                  · intro w5 hSw; obtain ⟨s0, s1⟩ := hSw; go_simp
                  simp only [List.setIfInBounds_toArray, List.set_cons_zero, List.set_cons_succ]
                  refine take_at (i := 17) (v := .pointer (some ⟨cb, 1, none⟩)) rfl rfl (by kernel_rfl) (by kernel_rfl) (by kernel_rfl) (fun _ _ _ h => h) (Or.inl ⟨by rfl, ?_⟩) hH ?_
                  · intro w5 hSw; obtain ⟨s0, s1⟩ := hSw; go_simp
                  simp only [List.setIfInBounds_toArray, List.set_cons_zero, List.set_cons_succ]
                  refine wpAnyH_ready (rs := [18]) (by kernel_rfl) (by simp) ?_
                  refine AllReadyH.cons rfl (fun K hK => ?_) AllReadyH.nil
                  · go_simp
                    refine hK.out _ _ KE.out (fun hH => ?_)
                    clear hK K
                    refine wpAnyH_done (by kernel_rfl) ?_ _
                    refine NoPanic.normal ?_
                    go_wp2_with fail
                    go_roundw
                    case rel => exact ⟨k + 1, _, _, by go_num, hlt, F1⟩
                    case measure => simp [intOf]; omega
      · obtain rfl : k = N := by omega
        have hkk : ¬ (k : Int) < (k : Int) := by omega
        have FF := mkHid (FN.out _ _ _ _ _ _ _ FK.out)
        clear FK FN
        go_wp2_with fail
        go_ret
        exact FF.out
end Go.Proofs.Ytbdlamlplfogjaa
