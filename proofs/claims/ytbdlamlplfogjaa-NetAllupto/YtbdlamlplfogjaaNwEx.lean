/-
  Walks: the document's net: a packet goes.
-/
import Derived.Test.YtbdlamlplfogjaaGB
import Derived.Deep.RegionHeld3
namespace Go.Proofs.Ytbdlamlplfogjaa
open Go.RowKit Go.Maps Go.Joins
variable {Q : Nat → Prop} {w w' : World} {d : Nat} {S : St} {T : Nat → Nat → List ByteArray} {R : Lr}

theorem RU.base {w1 : World} (hb : ∀ i, Q i → i < w.heap.size) (g : w.grownBy w1 none) (h : RU Q w1 d S T w') : RU Q w d S T w' := by
  obtain ⟨R, h1, h2⟩ := h
  refine ⟨R, h1.away (Chg.refl (fun _ => False) _) (fun _ _ e => e) (fun x hx => ?_) (ext_pb hb (Nat.le_trans g.size h2.size)), hb_trans (Chg.of_none g _) h2 (fun _ => ext_le)⟩
  rcases hx with e | e
  · exact Or.inl e
  · exact Or.inr ⟨Nat.le_trans g.size e.1, e.2⟩
/-- what a call with no answer leaves -/
def RCQ (Q : Nat → Prop) (w : World) (d : Nat) (S : St) (T : Nat → Nat → List ByteArray) (r : Ending) (w' : World) : Prop := r = .returned (.tuple #[]) ∧ RU Q w d S T w'
theorem nSt1 {w : World} {x y j o : Nat} {u t : Value} (hn : x ≠ y) (h : w.cell? ⟨x, o, none⟩ = some t) : (w.setCell ⟨y, j, none⟩ u).cell? ⟨x, o, none⟩ = some t := by
  have e1 := heap_setCell_other w ⟨y, j, none⟩ x u hn
  rw [← h]; unfold World.cell?; simp only; rw [e1]
set_option maxHeartbeats 2000000 in
set_option maxRecDepth 100000 in
theorem rFly_full (h : RL Q w d S T R) (p : Pk) {bv : Value} (hl : ¬ S.fl.length < 4096) (hv : byV w Q bv p.x) : Calls Try.prog 58 #[.pointer (some ⟨d, 0, none⟩), .agg (rpL p bv).toArray] w (RCQ Q w d (flyS S p) T) := by
  have e1 : flyS S p = S := by unfold flyS; rw [if_neg hl]
  rw [e1]
  obtain ⟨c0, c1, c2, c3, _⟩ := h.cs
  obtain ⟨pa, ca, ha, _⟩ := h.ar.form
  rw [ha] at c3
  have hd := h.pb _ h.qd
  have hl2 : ¬ (S.fl.length : Int) < 4096 := by omega
  have U : Hid (∀ o, RU Q w d S T (w.alloc o)) := fun o => h.up (grown_al (grown_refl _) _)
  obtain ⟨pb, cb, rfl, _⟩ := hv
  clear h e1 ha
  unfold rpL
  go_enter Try.func58, Try.ntmps58
  go_wp2_with fail
  go_end0
  exact ⟨rfl, U.out _⟩
set_option maxHeartbeats 4000000 in
set_option maxRecDepth 100000 in
theorem rFly_room (h : RL Q w d S T R) (p : Pk) {bv : Value} (hl : S.fl.length < 4096) (hv : byV w Q bv p.x) : Calls Try.prog 58 #[.pointer (some ⟨d, 0, none⟩), .agg (rpL p bv).toArray] w (RCQ Q w d (flyS S p) T) := by
  have e1 : flyS S p = { S with fl := S.fl ++ [p] } := by unfold flyS; rw [if_pos hl]
  rw [e1]
  have hd := h.pb _ h.qd
  have hl2 : (S.fl.length : Int) < 4096 := by omega
  obtain ⟨pb, cb, hbv, hyy, hkk⟩ := hv
  obtain ⟨lb, hlb⟩ : ∃ lb, lb = p.x.data.toList.length := ⟨_, rfl⟩
  rw [← hlb] at hbv
  subst hbv
  have hv : byV w Q (.slice pb lb cb) p.x := ⟨pb, cb, by rw [hlb], hyy, hkk⟩
  obtain ⟨w1, hw1⟩ : ∃ w1, w1 = w.alloc (.cells (rpL p (.slice pb lb cb)).toArray 97) := ⟨_, rfl⟩
  have g1 : w.grownBy w1 none := by rw [hw1]; exact grown_al (grown_refl _) _
  have s1 : w1.heap.size = w.heap.size + 1 := by rw [hw1]; simp
  have h1 := h.kept g1
  have hv1 := hv.kept h.pb g1 (fun _ e => e)
  have hbx : w1.heap[w.heap.size]? = some (.cells (rpL p (.slice pb lb cb)).toArray 97 (0, 0)) := by rw [hw1]; exact heap_alloc_new _ _
  obtain ⟨p6A, c6A, W6A, hrA6, gA1, gA2, kA⟩ := h1.fly_lay p hv1 hl (W := w1.drew.alloc (.cells #[] 97)) (grown_al (grown_drew (grown_refl _)) _) (B := w1.heap.size) (heap_alloc_new w1.drew _) (Nat.le_refl _)
  obtain ⟨p9A, c9A, W9A, hrA9, gA3, yA⟩ := kA (W6A.alloc (.cells (rpL p (.slice pb lb cb)).toArray 97)) W6A.heap.size (grown_al (grown_refl _) _) (heap_alloc_new _ _)
  obtain ⟨p6B, c6B, W6B, hrB6, gB1, gB2, kB⟩ := h1.fly_lay p hv1 hl (W := (w1.drew.alloc (.cells #[] 97)).alloc (.cells (rpL p (.slice pb lb cb)).toArray 97)) (grown_al (grown_al (grown_drew (grown_refl _)) _) _) (B := w1.heap.size) (al2_fst w1.drew _ _) (Nat.le_refl _)
  obtain ⟨p9B, c9B, W9B, hrB9, gB3, yB⟩ := kB W6B (w1.heap.size + 1) (grown_refl _) (box_keep (al2_snd w1.drew _ _) gB2 (by simp))
  obtain ⟨p6C, c6C, W6C, hrC6, gC1, gC2, kC⟩ := h1.fly_lay p hv1 hl (W := (w1.drew.alloc (.cells (rpL p (.slice pb lb cb)).toArray 97)).alloc (.cells #[] 97)) (grown_al (grown_al (grown_drew (grown_refl _)) _) _) (B := w1.heap.size + 1) (al2_snd w1.drew _ _) (by omega)
  obtain ⟨p9C, c9C, W9C, hrC9, gC3, yC⟩ := kC W6C w1.heap.size (grown_refl _) (box_keep (al2_fst w1.drew _ _) gC2 (by simp))
  have YA := mkHid (yA.base h.pb g1)
  have YB := mkHid (yB.base h.pb g1)
  have YC := mkHid (yC.base h.pb g1)
  obtain ⟨c0, c1, c2, c3, _⟩ := h1.cs
  obtain ⟨pa, ca, ha, _⟩ := h.ar.form
  have yd3A : W9A.cell? ⟨d, 3, none⟩ = some R.av := gA3.cell c3 (by simp)
  have yd3B : W9B.cell? ⟨d, 3, none⟩ = some R.av := gB3.cell c3 (by simp)
  have yd3C : W9C.cell? ⟨d, 3, none⟩ = some R.av := gC3.cell c3 (by simp)
  have fA := unfrozen_of_block (box_keep h1.net gA3 (by simp)) 3
  have fB := unfrozen_of_block (box_keep h1.net gB3 (by simp)) 3
  have fC := unfrozen_of_block (box_keep h1.net gC3 (by simp)) 3
  have GA6 := mkHid gA1
  have GB6 := mkHid gB1
  have GC6 := mkHid gC1
  have GA9 := mkHid gA3
  have GB9 := mkHid gB3
  have GC9 := mkHid gC3
  have xB : ((w1.alloc (.cells #[] 97)).alloc (.cells (rpL p (.slice pb lb cb)).toArray 97)).cell? ⟨d, 3, none⟩ = some R.av := (grown_al (grown_al (grown_refl w1) _) _).cell c3 (by simp)
  have xC : ((w1.alloc (.cells (rpL p (.slice pb lb cb)).toArray 97)).alloc (.cells #[] 97)).cell? ⟨d, 3, none⟩ = some R.av := (grown_al (grown_al (grown_refl w1) _) _).cell c3 (by simp)
  rw [ha] at c3 hrA6 hrB6 hrC6 yd3A yd3B yd3C xB xC
  rw [s1] at hrA6 hrB6 hrB9 hrC6 hrC9
  obtain ⟨_, _, _, c3w, _⟩ := h.cs
  rw [ha] at c3w
  have KS : Hid (∀ W, w1.grownBy W none → (fun w' : World => w'.cell? ⟨w.heap.size, 0, none⟩ = some (.int .i64 (pkFr p : Int)) ∧ w'.cell? ⟨w.heap.size, 1, none⟩ = some (.int .i64 (pkTo p : Int)) ∧ w'.cell? ⟨w.heap.size, 2, none⟩ = some (.bool p.ack) ∧ w'.cell? ⟨w.heap.size, 3, none⟩ = some (.int .u64 (p.s : Int)) ∧ w'.cell? ⟨w.heap.size, 4, none⟩ = some (.int .u64 (p.e : Int)) ∧ w'.cell? ⟨w.heap.size, 5, none⟩ = some (.slice pb lb cb)) W) := fun W gW => by
    obtain ⟨q0, q1, q2, q3, q4, q5, _⟩ := cells6 (box_keep hbx gW (by simp))
    exact ⟨q0, q1, q2, q3, q4, q5⟩
  have KE : Hid (∀ W v, w1.grownBy W none → (fun w' : World => w'.cell? ⟨w.heap.size, 0, none⟩ = some (.int .i64 (pkFr p : Int)) ∧ w'.cell? ⟨w.heap.size, 1, none⟩ = some (.int .i64 (pkTo p : Int)) ∧ w'.cell? ⟨w.heap.size, 2, none⟩ = some (.bool p.ack) ∧ w'.cell? ⟨w.heap.size, 3, none⟩ = some (.int .u64 (p.s : Int)) ∧ w'.cell? ⟨w.heap.size, 4, none⟩ = some (.int .u64 (p.e : Int)) ∧ w'.cell? ⟨w.heap.size, 5, none⟩ = some (.slice pb lb cb)) (W.setCell ⟨d, 3, none⟩ v)) := fun W v gW => by
    have hne : w.heap.size ≠ d := by omega
    obtain ⟨q0, q1, q2, q3, q4, q5⟩ := KS.out W gW
    exact ⟨nSt1 hne q0, nSt1 hne q1, nSt1 hne q2, nSt1 hne q3, nSt1 hne q4, nSt1 hne q5⟩
  have hd1 : d < w1.heap.size := by omega
  unfold rpL at *
  obtain ⟨b0, b1, b2, b3, b4, b5, _⟩ := cells6 hbx
  clear h h1 hv1 e1 ha hbx kA kB kC yA yB yC gA1 gA2 gA3 gB1 gB2 gB3 gC1 gC2 gC3 g1 hlb hyy hkk hv
  subst hw1
  go_enter Try.func58, Try.ntmps58
  go_wp2_with fail
  refine wp_region_noPanic ?_
  refine wp_region_held_drew (S := fun w' : World => w'.cell? ⟨w.heap.size, 0, none⟩ = some (.int .i64 (pkFr p : Int)) ∧ w'.cell? ⟨w.heap.size, 1, none⟩ = some (.int .i64 (pkTo p : Int)) ∧ w'.cell? ⟨w.heap.size, 2, none⟩ = some (.bool p.ack) ∧ w'.cell? ⟨w.heap.size, 3, none⟩ = some (.int .u64 (p.s : Int)) ∧ w'.cell? ⟨w.heap.size, 4, none⟩ = some (.int .u64 (p.e : Int)) ∧ w'.cell? ⟨w.heap.size, 5, none⟩ = some (.slice pb lb cb)) (by kernel_rfl) (KS.out _ (grown_drew (grown_refl _))) (fun hH => ?_)
  refine take_at (i := 0) (v := .pointer (some ⟨d, 0, none⟩)) rfl rfl (by kernel_rfl) (by kernel_rfl) (by kernel_rfl) (fun _ _ _ h => h) (Or.inl ⟨by rfl, ?_⟩) hH ?_
  · intro w5 hSw; obtain ⟨s0, s1, s2, s3, s4, s5⟩ := hSw; go_simp
  simp only [List.setIfInBounds_toArray, List.set_cons_zero, List.set_cons_succ]
  refine take_at (i := 2) (v := .pointer (some ⟨d, 0, none⟩)) rfl rfl (by kernel_rfl) (by kernel_rfl) (by kernel_rfl) (fun _ _ _ h => h) (Or.inl ⟨by rfl, ?_⟩) hH ?_
  · intro w5 hSw; obtain ⟨s0, s1, s2, s3, s4, s5⟩ := hSw; go_simp
  simp only [List.setIfInBounds_toArray, List.set_cons_zero, List.set_cons_succ]
  refine take_at (i := 3) (v := .pointer (some ⟨d, 0, none⟩)) rfl rfl (by kernel_rfl) (by kernel_rfl) (by kernel_rfl) (fun _ _ _ h => h) (Or.inl ⟨by rfl, ?_⟩) hH ?_
  · intro w5 hSw; obtain ⟨s0, s1, s2, s3, s4, s5⟩ := hSw; go_simp
  simp only [List.setIfInBounds_toArray, List.set_cons_zero, List.set_cons_succ]
  refine take_at (i := 4) (v := .pointer (some ⟨d, 3, none⟩)) rfl rfl (by kernel_rfl) (by kernel_rfl) (by kernel_rfl) (fun _ _ _ h => h) (Or.inl ⟨by rfl, ?_⟩) hH ?_
  · intro w5 hSw; obtain ⟨s0, s1, s2, s3, s4, s5⟩ := hSw; go_simp
  simp only [List.setIfInBounds_toArray, List.set_cons_zero, List.set_cons_succ]
  refine take_at (i := 7) (v := .agg #[.int .i64 (pkFr p : Int), .int .i64 (pkTo p : Int), .bool p.ack, .int .u64 (p.s : Int), .int .u64 (p.e : Int), .slice pb lb cb]) rfl rfl (by kernel_rfl) (by kernel_rfl) (by kernel_rfl) (fun _ _ _ h => h) (Or.inl ⟨by rfl, ?_⟩) hH ?_
  · intro w5 hSw; obtain ⟨s0, s1, s2, s3, s4, s5⟩ := hSw; go_simp
  simp only [List.setIfInBounds_toArray, List.set_cons_zero, List.set_cons_succ]
  refine wpAnyH_ready (rs := [1, 5, 8]) (by kernel_rfl) (by simp) ?_
  refine AllReadyH.cons rfl (fun K hK => ?_) (AllReadyH.cons rfl (fun K hK => ?_) (AllReadyH.cons rfl (fun K hK => ?_) AllReadyH.nil))
  · go_simp
    refine hK.out _ _ ?_ (fun hH => ?_)
    · exact KS.out _ (by repeat (first | exact grown_refl _ | refine grown_drew ?_ | refine grown_al ?_ _))
    clear hK K
    refine wpAnyH_ready (rs := [5, 8]) (by kernel_rfl) (by simp) ?_
    refine AllReadyH.cons rfl (fun K hK => ?_) (AllReadyH.cons rfl (fun K hK => ?_) AllReadyH.nil)
    · go_simp
      refine hK.out _ _ ?_ (fun hH => ?_)
      · exact KS.out _ (by repeat (first | exact grown_refl _ | refine grown_drew ?_ | refine grown_al ?_ _))
      clear hK K
      refine wpAnyH_ready (rs := [6, 8]) (by kernel_rfl) (by simp) ?_
      refine AllReadyH.cons rfl (fun K hK => ?_) (AllReadyH.cons rfl (fun K hK => ?_) AllReadyH.nil)
      · refine step_app 44 rfl (.tmp 11) (.tmp 15) rfl rfl rfl hrA6 ?_
        refine hK.out _ _ (KS.out _ GA6.out) (fun hH => ?_)
        clear hK K
        go_simp
        refine wpAnyH_ready (rs := [8]) (by kernel_rfl) (by simp) ?_
        refine AllReadyH.cons rfl (fun K hK => ?_) AllReadyH.nil
        · go_simp
          refine hK.out _ _ (KS.out _ (grown_al GA6.out _)) (fun hH => ?_)
          clear hK K
          refine wpAnyH_ready (rs := [9]) (by kernel_rfl) (by simp) ?_
          refine AllReadyH.cons rfl (fun K hK => ?_) AllReadyH.nil
          · refine step_app 44 rfl (.tmp 16) (.tmp 18) rfl rfl rfl hrA9 ?_
            refine hK.out _ _ (KS.out _ GA9.out) (fun hH => ?_)
            clear hK K
            go_simp
            refine take_at (i := 10) (v := .pointer (some ⟨d, 0, none⟩)) rfl rfl (by kernel_rfl) (by kernel_rfl) (by kernel_rfl) (fun _ _ _ h => h) (Or.inl ⟨by rfl, ?_⟩) hH ?_
            · intro w5 hSw; obtain ⟨s0, s1, s2, s3, s4, s5⟩ := hSw; go_simp
            simp only [List.setIfInBounds_toArray, List.set_cons_zero, List.set_cons_succ]
            refine take_at (i := 11) (v := .pointer (some ⟨d, 3, none⟩)) rfl rfl (by kernel_rfl) (by kernel_rfl) (by kernel_rfl) (fun _ _ _ h => h) (Or.inl ⟨by rfl, ?_⟩) hH ?_
            · intro w5 hSw; obtain ⟨s0, s1, s2, s3, s4, s5⟩ := hSw; go_simp
            simp only [List.setIfInBounds_toArray, List.set_cons_zero, List.set_cons_succ]
            refine wpAnyH_ready (rs := [12]) (by kernel_rfl) (by simp) ?_
            refine AllReadyH.cons rfl (fun K hK => ?_) AllReadyH.nil
            · go_simp
              refine hK.out _ _ (KE.out _ _ GA9.out) (fun hH => ?_)
              clear hK K
              refine wpAnyH_done (by kernel_rfl) ?_ _
              refine NoPanic.normal ?_
              go_wp2_with fail
              go_end0
              exact ⟨rfl, YA.out⟩
      · go_simp
        refine hK.out _ _ ?_ (fun hH => ?_)
        · exact KS.out _ (by repeat (first | exact grown_refl _ | refine grown_drew ?_ | refine grown_al ?_ _))
        clear hK K
        refine wpAnyH_ready (rs := [6]) (by kernel_rfl) (by simp) ?_
        refine AllReadyH.cons rfl (fun K hK => ?_) AllReadyH.nil
        · refine step_app 44 rfl (.tmp 11) (.tmp 15) rfl rfl rfl hrB6 ?_
          refine hK.out _ _ (KS.out _ GB6.out) (fun hH => ?_)
          clear hK K
          go_simp
          refine wpAnyH_ready (rs := [9]) (by kernel_rfl) (by simp) ?_
          refine AllReadyH.cons rfl (fun K hK => ?_) AllReadyH.nil
          · refine step_app 44 rfl (.tmp 16) (.tmp 18) rfl rfl rfl hrB9 ?_
            refine hK.out _ _ (KS.out _ GB9.out) (fun hH => ?_)
            clear hK K
            go_simp
            refine take_at (i := 10) (v := .pointer (some ⟨d, 0, none⟩)) rfl rfl (by kernel_rfl) (by kernel_rfl) (by kernel_rfl) (fun _ _ _ h => h) (Or.inl ⟨by rfl, ?_⟩) hH ?_
            · intro w5 hSw; obtain ⟨s0, s1, s2, s3, s4, s5⟩ := hSw; go_simp
            simp only [List.setIfInBounds_toArray, List.set_cons_zero, List.set_cons_succ]
            refine take_at (i := 11) (v := .pointer (some ⟨d, 3, none⟩)) rfl rfl (by kernel_rfl) (by kernel_rfl) (by kernel_rfl) (fun _ _ _ h => h) (Or.inl ⟨by rfl, ?_⟩) hH ?_
            · intro w5 hSw; obtain ⟨s0, s1, s2, s3, s4, s5⟩ := hSw; go_simp
            simp only [List.setIfInBounds_toArray, List.set_cons_zero, List.set_cons_succ]
            refine wpAnyH_ready (rs := [12]) (by kernel_rfl) (by simp) ?_
            refine AllReadyH.cons rfl (fun K hK => ?_) AllReadyH.nil
            · go_simp
              refine hK.out _ _ (KE.out _ _ GB9.out) (fun hH => ?_)
              clear hK K
              refine wpAnyH_done (by kernel_rfl) ?_ _
              refine NoPanic.normal ?_
              go_wp2_with fail
              go_end0
              exact ⟨rfl, YB.out⟩
    · go_simp
      refine hK.out _ _ ?_ (fun hH => ?_)
      · exact KS.out _ (by repeat (first | exact grown_refl _ | refine grown_drew ?_ | refine grown_al ?_ _))
      clear hK K
      refine wpAnyH_ready (rs := [5]) (by kernel_rfl) (by simp) ?_
      refine AllReadyH.cons rfl (fun K hK => ?_) AllReadyH.nil
      · go_simp
        refine hK.out _ _ ?_ (fun hH => ?_)
        · exact KS.out _ (by repeat (first | exact grown_refl _ | refine grown_drew ?_ | refine grown_al ?_ _))
        clear hK K
        refine wpAnyH_ready (rs := [6]) (by kernel_rfl) (by simp) ?_
        refine AllReadyH.cons rfl (fun K hK => ?_) AllReadyH.nil
        · refine step_app 44 rfl (.tmp 11) (.tmp 15) rfl rfl rfl hrB6 ?_
          refine hK.out _ _ (KS.out _ GB6.out) (fun hH => ?_)
          clear hK K
          go_simp
          refine wpAnyH_ready (rs := [9]) (by kernel_rfl) (by simp) ?_
          refine AllReadyH.cons rfl (fun K hK => ?_) AllReadyH.nil
          · refine step_app 44 rfl (.tmp 16) (.tmp 18) rfl rfl rfl hrB9 ?_
            refine hK.out _ _ (KS.out _ GB9.out) (fun hH => ?_)
            clear hK K
            go_simp
            refine take_at (i := 10) (v := .pointer (some ⟨d, 0, none⟩)) rfl rfl (by kernel_rfl) (by kernel_rfl) (by kernel_rfl) (fun _ _ _ h => h) (Or.inl ⟨by rfl, ?_⟩) hH ?_
            · intro w5 hSw; obtain ⟨s0, s1, s2, s3, s4, s5⟩ := hSw; go_simp
            simp only [List.setIfInBounds_toArray, List.set_cons_zero, List.set_cons_succ]
            refine take_at (i := 11) (v := .pointer (some ⟨d, 3, none⟩)) rfl rfl (by kernel_rfl) (by kernel_rfl) (by kernel_rfl) (fun _ _ _ h => h) (Or.inl ⟨by rfl, ?_⟩) hH ?_
            · intro w5 hSw; obtain ⟨s0, s1, s2, s3, s4, s5⟩ := hSw; go_simp
            simp only [List.setIfInBounds_toArray, List.set_cons_zero, List.set_cons_succ]
            refine wpAnyH_ready (rs := [12]) (by kernel_rfl) (by simp) ?_
            refine AllReadyH.cons rfl (fun K hK => ?_) AllReadyH.nil
            · go_simp
              refine hK.out _ _ (KE.out _ _ GB9.out) (fun hH => ?_)
              clear hK K
              refine wpAnyH_done (by kernel_rfl) ?_ _
              refine NoPanic.normal ?_
              go_wp2_with fail
              go_end0
              exact ⟨rfl, YB.out⟩
  · go_simp
    refine hK.out _ _ ?_ (fun hH => ?_)
    · exact KS.out _ (by repeat (first | exact grown_refl _ | refine grown_drew ?_ | refine grown_al ?_ _))
    clear hK K
    refine wpAnyH_ready (rs := [1, 8]) (by kernel_rfl) (by simp) ?_
    refine AllReadyH.cons rfl (fun K hK => ?_) (AllReadyH.cons rfl (fun K hK => ?_) AllReadyH.nil)
    · go_simp
      refine hK.out _ _ ?_ (fun hH => ?_)
      · exact KS.out _ (by repeat (first | exact grown_refl _ | refine grown_drew ?_ | refine grown_al ?_ _))
      clear hK K
      refine wpAnyH_ready (rs := [6, 8]) (by kernel_rfl) (by simp) ?_
      refine AllReadyH.cons rfl (fun K hK => ?_) (AllReadyH.cons rfl (fun K hK => ?_) AllReadyH.nil)
      · refine step_app 44 rfl (.tmp 11) (.tmp 15) rfl rfl rfl hrA6 ?_
        refine hK.out _ _ (KS.out _ GA6.out) (fun hH => ?_)
        clear hK K
        go_simp
        refine wpAnyH_ready (rs := [8]) (by kernel_rfl) (by simp) ?_
        refine AllReadyH.cons rfl (fun K hK => ?_) AllReadyH.nil
        · go_simp
          refine hK.out _ _ (KS.out _ (grown_al GA6.out _)) (fun hH => ?_)
          clear hK K
          refine wpAnyH_ready (rs := [9]) (by kernel_rfl) (by simp) ?_
          refine AllReadyH.cons rfl (fun K hK => ?_) AllReadyH.nil
          · refine step_app 44 rfl (.tmp 16) (.tmp 18) rfl rfl rfl hrA9 ?_
            refine hK.out _ _ (KS.out _ GA9.out) (fun hH => ?_)
            clear hK K
            go_simp
            refine take_at (i := 10) (v := .pointer (some ⟨d, 0, none⟩)) rfl rfl (by kernel_rfl) (by kernel_rfl) (by kernel_rfl) (fun _ _ _ h => h) (Or.inl ⟨by rfl, ?_⟩) hH ?_
            · intro w5 hSw; obtain ⟨s0, s1, s2, s3, s4, s5⟩ := hSw; go_simp
            simp only [List.setIfInBounds_toArray, List.set_cons_zero, List.set_cons_succ]
            refine take_at (i := 11) (v := .pointer (some ⟨d, 3, none⟩)) rfl rfl (by kernel_rfl) (by kernel_rfl) (by kernel_rfl) (fun _ _ _ h => h) (Or.inl ⟨by rfl, ?_⟩) hH ?_
            · intro w5 hSw; obtain ⟨s0, s1, s2, s3, s4, s5⟩ := hSw; go_simp
            simp only [List.setIfInBounds_toArray, List.set_cons_zero, List.set_cons_succ]
            refine wpAnyH_ready (rs := [12]) (by kernel_rfl) (by simp) ?_
            refine AllReadyH.cons rfl (fun K hK => ?_) AllReadyH.nil
            · go_simp
              refine hK.out _ _ (KE.out _ _ GA9.out) (fun hH => ?_)
              clear hK K
              refine wpAnyH_done (by kernel_rfl) ?_ _
              refine NoPanic.normal ?_
              go_wp2_with fail
              go_end0
              exact ⟨rfl, YA.out⟩
      · go_simp
        refine hK.out _ _ ?_ (fun hH => ?_)
        · exact KS.out _ (by repeat (first | exact grown_refl _ | refine grown_drew ?_ | refine grown_al ?_ _))
        clear hK K
        refine wpAnyH_ready (rs := [6]) (by kernel_rfl) (by simp) ?_
        refine AllReadyH.cons rfl (fun K hK => ?_) AllReadyH.nil
        · refine step_app 44 rfl (.tmp 11) (.tmp 15) rfl rfl rfl hrB6 ?_
          refine hK.out _ _ (KS.out _ GB6.out) (fun hH => ?_)
          clear hK K
          go_simp
          refine wpAnyH_ready (rs := [9]) (by kernel_rfl) (by simp) ?_
          refine AllReadyH.cons rfl (fun K hK => ?_) AllReadyH.nil
          · refine step_app 44 rfl (.tmp 16) (.tmp 18) rfl rfl rfl hrB9 ?_
            refine hK.out _ _ (KS.out _ GB9.out) (fun hH => ?_)
            clear hK K
            go_simp
            refine take_at (i := 10) (v := .pointer (some ⟨d, 0, none⟩)) rfl rfl (by kernel_rfl) (by kernel_rfl) (by kernel_rfl) (fun _ _ _ h => h) (Or.inl ⟨by rfl, ?_⟩) hH ?_
            · intro w5 hSw; obtain ⟨s0, s1, s2, s3, s4, s5⟩ := hSw; go_simp
            simp only [List.setIfInBounds_toArray, List.set_cons_zero, List.set_cons_succ]
            refine take_at (i := 11) (v := .pointer (some ⟨d, 3, none⟩)) rfl rfl (by kernel_rfl) (by kernel_rfl) (by kernel_rfl) (fun _ _ _ h => h) (Or.inl ⟨by rfl, ?_⟩) hH ?_
            · intro w5 hSw; obtain ⟨s0, s1, s2, s3, s4, s5⟩ := hSw; go_simp
            simp only [List.setIfInBounds_toArray, List.set_cons_zero, List.set_cons_succ]
            refine wpAnyH_ready (rs := [12]) (by kernel_rfl) (by simp) ?_
            refine AllReadyH.cons rfl (fun K hK => ?_) AllReadyH.nil
            · go_simp
              refine hK.out _ _ (KE.out _ _ GB9.out) (fun hH => ?_)
              clear hK K
              refine wpAnyH_done (by kernel_rfl) ?_ _
              refine NoPanic.normal ?_
              go_wp2_with fail
              go_end0
              exact ⟨rfl, YB.out⟩
    · go_simp
      refine hK.out _ _ ?_ (fun hH => ?_)
      · exact KS.out _ (by repeat (first | exact grown_refl _ | refine grown_drew ?_ | refine grown_al ?_ _))
      clear hK K
      refine wpAnyH_ready (rs := [1]) (by kernel_rfl) (by simp) ?_
      refine AllReadyH.cons rfl (fun K hK => ?_) AllReadyH.nil
      · go_simp
        refine hK.out _ _ ?_ (fun hH => ?_)
        · exact KS.out _ (by repeat (first | exact grown_refl _ | refine grown_drew ?_ | refine grown_al ?_ _))
        clear hK K
        refine wpAnyH_ready (rs := [6]) (by kernel_rfl) (by simp) ?_
        refine AllReadyH.cons rfl (fun K hK => ?_) AllReadyH.nil
        · refine step_app 44 rfl (.tmp 11) (.tmp 15) rfl rfl rfl hrC6 ?_
          refine hK.out _ _ (KS.out _ GC6.out) (fun hH => ?_)
          clear hK K
          go_simp
          refine wpAnyH_ready (rs := [9]) (by kernel_rfl) (by simp) ?_
          refine AllReadyH.cons rfl (fun K hK => ?_) AllReadyH.nil
          · refine step_app 44 rfl (.tmp 16) (.tmp 18) rfl rfl rfl hrC9 ?_
            refine hK.out _ _ (KS.out _ GC9.out) (fun hH => ?_)
            clear hK K
            go_simp
            refine take_at (i := 10) (v := .pointer (some ⟨d, 0, none⟩)) rfl rfl (by kernel_rfl) (by kernel_rfl) (by kernel_rfl) (fun _ _ _ h => h) (Or.inl ⟨by rfl, ?_⟩) hH ?_
            · intro w5 hSw; obtain ⟨s0, s1, s2, s3, s4, s5⟩ := hSw; go_simp
            simp only [List.setIfInBounds_toArray, List.set_cons_zero, List.set_cons_succ]
            refine take_at (i := 11) (v := .pointer (some ⟨d, 3, none⟩)) rfl rfl (by kernel_rfl) (by kernel_rfl) (by kernel_rfl) (fun _ _ _ h => h) (Or.inl ⟨by rfl, ?_⟩) hH ?_
            · intro w5 hSw; obtain ⟨s0, s1, s2, s3, s4, s5⟩ := hSw; go_simp
            simp only [List.setIfInBounds_toArray, List.set_cons_zero, List.set_cons_succ]
            refine wpAnyH_ready (rs := [12]) (by kernel_rfl) (by simp) ?_
            refine AllReadyH.cons rfl (fun K hK => ?_) AllReadyH.nil
            · go_simp
              refine hK.out _ _ (KE.out _ _ GC9.out) (fun hH => ?_)
              clear hK K
              refine wpAnyH_done (by kernel_rfl) ?_ _
              refine NoPanic.normal ?_
              go_wp2_with fail
              go_end0
              exact ⟨rfl, YC.out⟩
  · go_simp
    refine hK.out _ _ ?_ (fun hH => ?_)
    · exact KS.out _ (by repeat (first | exact grown_refl _ | refine grown_drew ?_ | refine grown_al ?_ _))
    clear hK K
    refine wpAnyH_ready (rs := [1, 5]) (by kernel_rfl) (by simp) ?_
    refine AllReadyH.cons rfl (fun K hK => ?_) (AllReadyH.cons rfl (fun K hK => ?_) AllReadyH.nil)
    · go_simp
      refine hK.out _ _ ?_ (fun hH => ?_)
      · exact KS.out _ (by repeat (first | exact grown_refl _ | refine grown_drew ?_ | refine grown_al ?_ _))
      clear hK K
      refine wpAnyH_ready (rs := [5]) (by kernel_rfl) (by simp) ?_
      refine AllReadyH.cons rfl (fun K hK => ?_) AllReadyH.nil
      · go_simp
        refine hK.out _ _ ?_ (fun hH => ?_)
        · exact KS.out _ (by repeat (first | exact grown_refl _ | refine grown_drew ?_ | refine grown_al ?_ _))
        clear hK K
        refine wpAnyH_ready (rs := [6]) (by kernel_rfl) (by simp) ?_
        refine AllReadyH.cons rfl (fun K hK => ?_) AllReadyH.nil
        · refine step_app 44 rfl (.tmp 11) (.tmp 15) rfl rfl rfl hrC6 ?_
          refine hK.out _ _ (KS.out _ GC6.out) (fun hH => ?_)
          clear hK K
          go_simp
          refine wpAnyH_ready (rs := [9]) (by kernel_rfl) (by simp) ?_
          refine AllReadyH.cons rfl (fun K hK => ?_) AllReadyH.nil
          · refine step_app 44 rfl (.tmp 16) (.tmp 18) rfl rfl rfl hrC9 ?_
            refine hK.out _ _ (KS.out _ GC9.out) (fun hH => ?_)
            clear hK K
            go_simp
            refine take_at (i := 10) (v := .pointer (some ⟨d, 0, none⟩)) rfl rfl (by kernel_rfl) (by kernel_rfl) (by kernel_rfl) (fun _ _ _ h => h) (Or.inl ⟨by rfl, ?_⟩) hH ?_
            · intro w5 hSw; obtain ⟨s0, s1, s2, s3, s4, s5⟩ := hSw; go_simp
            simp only [List.setIfInBounds_toArray, List.set_cons_zero, List.set_cons_succ]
            refine take_at (i := 11) (v := .pointer (some ⟨d, 3, none⟩)) rfl rfl (by kernel_rfl) (by kernel_rfl) (by kernel_rfl) (fun _ _ _ h => h) (Or.inl ⟨by rfl, ?_⟩) hH ?_
            · intro w5 hSw; obtain ⟨s0, s1, s2, s3, s4, s5⟩ := hSw; go_simp
            simp only [List.setIfInBounds_toArray, List.set_cons_zero, List.set_cons_succ]
            refine wpAnyH_ready (rs := [12]) (by kernel_rfl) (by simp) ?_
            refine AllReadyH.cons rfl (fun K hK => ?_) AllReadyH.nil
            · go_simp
              refine hK.out _ _ (KE.out _ _ GC9.out) (fun hH => ?_)
              clear hK K
              refine wpAnyH_done (by kernel_rfl) ?_ _
              refine NoPanic.normal ?_
              go_wp2_with fail
              go_end0
              exact ⟨rfl, YC.out⟩
    · go_simp
      refine hK.out _ _ ?_ (fun hH => ?_)
      · exact KS.out _ (by repeat (first | exact grown_refl _ | refine grown_drew ?_ | refine grown_al ?_ _))
      clear hK K
      refine wpAnyH_ready (rs := [1]) (by kernel_rfl) (by simp) ?_
      refine AllReadyH.cons rfl (fun K hK => ?_) AllReadyH.nil
      · go_simp
        refine hK.out _ _ ?_ (fun hH => ?_)
        · exact KS.out _ (by repeat (first | exact grown_refl _ | refine grown_drew ?_ | refine grown_al ?_ _))
        clear hK K
        refine wpAnyH_ready (rs := [6]) (by kernel_rfl) (by simp) ?_
        refine AllReadyH.cons rfl (fun K hK => ?_) AllReadyH.nil
        · refine step_app 44 rfl (.tmp 11) (.tmp 15) rfl rfl rfl hrC6 ?_
          refine hK.out _ _ (KS.out _ GC6.out) (fun hH => ?_)
          clear hK K
          go_simp
          refine wpAnyH_ready (rs := [9]) (by kernel_rfl) (by simp) ?_
          refine AllReadyH.cons rfl (fun K hK => ?_) AllReadyH.nil
          · refine step_app 44 rfl (.tmp 16) (.tmp 18) rfl rfl rfl hrC9 ?_
            refine hK.out _ _ (KS.out _ GC9.out) (fun hH => ?_)
            clear hK K
            go_simp
            refine take_at (i := 10) (v := .pointer (some ⟨d, 0, none⟩)) rfl rfl (by kernel_rfl) (by kernel_rfl) (by kernel_rfl) (fun _ _ _ h => h) (Or.inl ⟨by rfl, ?_⟩) hH ?_
            · intro w5 hSw; obtain ⟨s0, s1, s2, s3, s4, s5⟩ := hSw; go_simp
            simp only [List.setIfInBounds_toArray, List.set_cons_zero, List.set_cons_succ]
            refine take_at (i := 11) (v := .pointer (some ⟨d, 3, none⟩)) rfl rfl (by kernel_rfl) (by kernel_rfl) (by kernel_rfl) (fun _ _ _ h => h) (Or.inl ⟨by rfl, ?_⟩) hH ?_
            · intro w5 hSw; obtain ⟨s0, s1, s2, s3, s4, s5⟩ := hSw; go_simp
            simp only [List.setIfInBounds_toArray, List.set_cons_zero, List.set_cons_succ]
            refine wpAnyH_ready (rs := [12]) (by kernel_rfl) (by simp) ?_
            refine AllReadyH.cons rfl (fun K hK => ?_) AllReadyH.nil
            · go_simp
              refine hK.out _ _ (KE.out _ _ GC9.out) (fun hH => ?_)
              clear hK K
              refine wpAnyH_done (by kernel_rfl) ?_ _
              refine NoPanic.normal ?_
              go_wp2_with fail
              go_end0
              exact ⟨rfl, YC.out⟩
theorem rFly_any (h : RL Q w d S T R) (p : Pk) {bv : Value} (hv : byV w Q bv p.x) : Calls Try.prog 58 #[.pointer (some ⟨d, 0, none⟩), .agg (rpL p bv).toArray] w (RCQ Q w d (flyS S p) T) := by
  by_cases hl : S.fl.length < 4096
  · exact rFly_room h p hl hv
  · exact rFly_full h p hl hv
end Go.Proofs.Ytbdlamlplfogjaa
