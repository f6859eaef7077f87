/-
 The walk of btree.put: a leaf of none, an inner node, any.
-/
import Derived.Test.YtclcajnodoifjaaGreatDoorIAJ
namespace Go.Proofs.YtclcajnodoifjaaGreatDoor
open Go.RowKit Go.Shelf Go.Joins Go.Maps
set_option maxRecDepth 100000

set_option maxHeartbeats 8000000 in
set_option maxRecDepth 1000000 in
theorem put_nil (T : Nat → Prop) (n : Nd Em) (m : Em) (w : World) (hT : ∀ b, w.heap.size ≤ b → T b) (hn : ndIn T w 0 n (.slice none 0 0) (.slice none 0 0)) (hmk : KeyOk T w m) (z0 : n.es = []) :
  Calls Tryz.prog 24 #[.agg #[.slice none 0 0, .slice none 0 0], emV m] w fun en w' => NdQ T w 0 (n.putN ltM 0 m) en w' := by
 have hm := hmk.at_
 have z1 : n.es.length ≤ 40 := by rw [z0]; simp
 have hri : Rise ltM n.es := by rw [z0]; exact List.Pairwise.nil
 obtain ⟨w0, hw0⟩ : ∃ w0, w0 = ((w.alloc (.cells #[.slice none 0 0, .slice none 0 0] 60)).alloc (.cells #[.slice (some ⟨m.g, 0, none⟩) m.e.key.length m.c, .int .u64 m.e.id] 65)).alloc (.cells #[.slice none 0 0, .slice none 0 0] 60) := ⟨_, rfl⟩
 obtain ⟨d0, d1, d2, bb, bs⟩ := bx3 w (.cells #[.slice none 0 0, .slice none 0 0] 60) (.cells #[.slice (some ⟨m.g, 0, none⟩) m.e.key.length m.c, .int .u64 m.e.id] 65) (.cells #[.slice none 0 0, .slice none 0 0] 60)
 rw [← hw0] at d0 d1 d2 bb bs
 obtain ⟨A, hA⟩ : ∃ A, A = place ltM m n.es := ⟨_, rfl⟩
 have hAl : A ≤ n.es.length := by rw [hA]; exact place_le _ _ _
 obtain ⟨HE, hHE⟩ : ∃ HE, HE = hereB m.e n.es := ⟨_, rfl⟩
 have BSF : Hid (Calls Tryz.prog 50 #[.slice none 0 0, .agg #[.slice (some ⟨m.g, 0, none⟩) m.e.key.length m.c, .int .u64 m.e.id], .func (.func 51) #[] #[]] w0 fun en w' => en = .returned (.tuple #[.int .i64 (A : Int), .bool HE]) ∧ Below w0.heap.size w0 w') := by
  rw [hA, hHE]
  exact bsf_any T n.es _ m.e _ m.c w0 (hn.ent.keeps (Keeps.of_below bb)) (hm.below bb) hri (by omega)
 have BB := mkHid bb
 have BX := mkHid (And.intro d0 (And.intro d1 d2))
 have BSZ := mkHid bs
 have hA0 : A = 0 := by rw [hA, z0]; rfl
 have HPN : Hid (n.putN ltM 0 m = .mk [m] []) := by
  show Nd.mk (n.es.take (place ltM m n.es) ++ m :: n.es.drop (place ltM m n.es)) [] = _
  rw [z0]; rfl
 have HKY := mkHid hmk
 have HTT := mkHid hT
 have HW0 := mkHid hw0
 rw [hA0] at BSF
 unfold emV enV
 clear hT hn hmk z0 z1 hri hm d0 d1 d2 bb bs hw0 hA hAl hHE hA0
 go_enter Tryz.func24, Tryz.ntmps24
 go_wp2_with fail
 rw [← HW0.out]
 clear HW0
 refine BSF.out.mono ?_
 rintro en w1 ⟨rfl, hb1⟩
 have BW : Hid (Below w.heap.size w w1) := BB.out.trans (hb1.mono BB.out.size)
 have RC : Hid (w1.heap[(w.heap.size + 1 + 1)]? = some (.cells #[.slice none 0 0, .slice none 0 0] 60 (0, 0))) := (hb1.block _ (lt_of_heap BX.out.2.2)).trans BX.out.2.2
 have KM : Hid ((w.heap.size + 1 + 1) ≤ w1.heap.size) := by have := BSZ.out; have := hb1.size; show _ ≤ _; omega
 have KF : Hid (Kept w1 w1) := Below.refl _ _
 have UP : Hid (∀ W, Below (w.heap.size + 1 + 1) w1 W → Below w.heap.size w W) := fun W hb => BW.out.trans (hb.mono (by omega))
 have KS : Hid (∀ w', Below (w.heap.size + 1 + 1) w1 w' → w'.cell? ⟨w.heap.size, 0, none⟩ = some (.slice none 0 0) ∧ w'.cell? ⟨w.heap.size, 1, none⟩ = some (.slice none 0 0) ∧ w'.cell? ⟨w.heap.size + 1, 0, none⟩ = some (.slice (some ⟨m.g, 0, none⟩) m.e.key.length m.c) ∧ w'.cell? ⟨w.heap.size + 1, 1, none⟩ = some (.int .u64 m.e.id)) := fun w' hb => by
  have e0 : w1.heap[w.heap.size]? = _ := (hb1.block _ (lt_of_heap BX.out.1)).trans BX.out.1
  have e1 : w1.heap[w.heap.size + 1]? = _ := (hb1.block _ (lt_of_heap BX.out.2.1)).trans BX.out.2.1
  have c0 : ∀ o, w'.cell? ⟨w.heap.size, o, none⟩ = w1.cell? ⟨w.heap.size, o, none⟩ := fun o => hb.cell (p := ⟨w.heap.size, o, none⟩) (by show w.heap.size < _; omega)
  have c1 : ∀ o, w'.cell? ⟨w.heap.size + 1, o, none⟩ = w1.cell? ⟨w.heap.size + 1, o, none⟩ := fun o => hb.cell (p := ⟨w.heap.size + 1, o, none⟩) (by show w.heap.size + 1 < _; omega)
  exact ⟨(c0 0).trans ((cell_of_block e0 0).trans rfl), (c0 1).trans ((cell_of_block e0 1).trans rfl), (c1 0).trans ((cell_of_block e1 0).trans rfl), (c1 1).trans ((cell_of_block e1 1).trans rfl)⟩
 have CE : Hid (∀ W G g, Below (w.heap.size + 1 + 1) w1 W → pcsAt W G [⟨none, 0, 0, []⟩, ⟨some ⟨g, 0, none⟩, 1, 1, emE m⟩, ⟨none, 0, 0, []⟩] → Pc.ok 2 W ⟨some ⟨g, 0, none⟩, 1, 1, emE m⟩ → Calls Tryz.prog 52 #[.slice (some ⟨G, 0, none⟩) 3 3] W fun en w' => CcN W 65 2 1 (fl emE [m]) en w') := fun W G g hW hp ho => (ConcatEn G 3 _ W (by simp) hp (fun x hx => by
   simp only [List.mem_cons, List.not_mem_nil, or_false] at hx
   rcases hx with rfl | rfl | rfl
   ·exact pc_nil 2 W
   ·exact ho
   ·exact pc_nil 2 W) (by simp [sumN])).mono (fun en w' h => cc_nw h (by simp [sumN]) (by simp [catX, fl]))
 have FIN : Hid (∀ W p1 c1, Below (w.heap.size + 1 + 1) w1 W → Nw w1 W 65 2 (.slice p1 1 c1) 1 (fl emE [m]) → NdQ T w 0 (n.putN ltM 0 m) (.returned (.agg #[.slice p1 1 c1, .slice none 0 0])) ((W.setCell ⟨(w.heap.size + 1 + 1), 0, none⟩ (.slice p1 1 c1)).setCell ⟨(w.heap.size + 1 + 1), 1, none⟩ (.slice none 0 0))) := fun W p1 c1 hW q1 => by
  rw [HPN.out]
  have z := BSZ.out
  have z1 := hb1.size
  refine fin_node (wm := w) (hs := []) (by omega) (UP.out W hW) (UP.out W hW) (fun q hq => ?_) KidsH.nil (fun _ => rfl) (fun b hb => ⟨HTT.out b (by omega), by omega⟩) q1 (nw_nil _ _ _ _) (fun _ => rfl)
  simp only [List.mem_cons, List.not_mem_nil, or_false] at hq
  subst hq
  exact HKY.out.off (by omega)
 clear hb1 BSF
 have f1 := (KS.out w1 (Below.refl _ _)).2.1
 go_wp2_with fail
 clear f1
 refine wp_region_noPanic ?_
 refine wp_region_held_drew (S := fun w' : World => w'.cell? ⟨w.heap.size, 0, none⟩ = some (.slice none 0 0) ∧ w'.cell? ⟨w.heap.size, 1, none⟩ = some (.slice none 0 0) ∧ w'.cell? ⟨w.heap.size + 1, 0, none⟩ = some (.slice (some ⟨m.g, 0, none⟩) m.e.key.length m.c) ∧ w'.cell? ⟨w.heap.size + 1, 1, none⟩ = some (.int .u64 m.e.id)) (by kernel_rfl) (KS.out _ (Below.refl _ _).drew) (fun hH => ?_)
 refine tKx (i := 0) (v := .pointer (some ⟨w.heap.size, 0, none⟩)) rfl rfl (by kernel_rfl) (fun _ _ _ h => h) ?_ hH ?_
 ·intro w5 hSw; obtain ⟨s0, s1, s2, s3⟩ := hSw; go_simp
 simp only [zA9, zB9, zC9]
 refine tKx (i := 1) (v := .slice none 0 0) rfl rfl (by kernel_rfl) (fun _ _ _ h => h) ?_ hH ?_
 ·intro w5 hSw; obtain ⟨s0, s1, s2, s3⟩ := hSw; go_simp
 simp only [zA9, zB9, zC9]
 refine tKx (i := 2) (v := .int .i64 (0)) rfl rfl (by kernel_rfl) (fun _ _ _ h => h) ?_ hH ?_
 ·intro w5 hSw; obtain ⟨s0, s1, s2, s3⟩ := hSw; go_simp
 simp only [zA9, zB9, zC9]
 refine tKx (i := 3) (v := .slice none 0 0) rfl rfl (by kernel_rfl) (fun _ _ _ h => h) ?_ hH ?_
 ·intro w5 hSw; obtain ⟨s0, s1, s2, s3⟩ := hSw; go_simp
 simp only [zA9, zB9, zC9]
 refine tKx (i := 4) (v := .agg #[.slice (some ⟨m.g, 0, none⟩) m.e.key.length m.c, .int .u64 m.e.id]) rfl rfl (by kernel_rfl) (fun _ _ _ h => h) ?_ hH ?_
 ·intro w5 hSw; obtain ⟨s0, s1, s2, s3⟩ := hSw; go_simp
 simp only [zA9, zB9, zC9]
 refine tKx (i := 6) (v := .pointer (some ⟨w.heap.size, 0, none⟩)) rfl rfl (by kernel_rfl) (fun _ _ _ h => h) ?_ hH ?_
 ·intro w5 hSw; obtain ⟨s0, s1, s2, s3⟩ := hSw; go_simp
 simp only [zA9, zB9, zC9]
 refine tKx (i := 7) (v := .slice none 0 0) rfl rfl (by kernel_rfl) (fun _ _ _ h => h) ?_ hH ?_
 ·intro w5 hSw; obtain ⟨s0, s1, s2, s3⟩ := hSw; go_simp
 simp only [zA9, zB9, zC9]
 refine tKx (i := 8) (v := .int .i64 (0)) rfl rfl (by kernel_rfl) (fun _ _ _ h => h) ?_ hH ?_
 ·intro w5 hSw; obtain ⟨s0, s1, s2, s3⟩ := hSw; go_simp
 simp only [zA9, zB9, zC9]
 refine tKx (i := 9) (v := .slice none 0 0) rfl rfl (by kernel_rfl) (fun _ _ _ h => h) ?_ hH ?_
 ·intro w5 hSw; obtain ⟨s0, s1, s2, s3⟩ := hSw; go_simp
 simp only [zA9, zB9, zC9]
 have KB := mkHid ((Below.refl (w.heap.size + 1 + 1) w1).drew)
 replace KF := mkHid (KF.out.below (Below.refl _ w1).drew)
 replace RC := mkHid (show w1.drew.heap[(w.heap.size + 1 + 1)]? = _ from RC.out)
 generalize hW0 : w1.drew = W0 at KB KF RC hH ⊢
 refine wpAnyH_ready (rs := [5]) (by kernel_rfl) (by simp) ?_
 refine AllReadyH.cons rfl (fun K hK => ?_) AllReadyH.nil
 ·go_simp
  refine hK.out _ _ (KS.out _ (KB.out.alloc (Nat.le_trans KM.out KB.out.size) _)) (fun hH => ?_)
  clear hK K
  have hb := (Below.refl W0.heap.size W0).alloc (Nat.le_refl _) (.cells #[.slice (some ⟨m.g, 0, none⟩) m.e.key.length m.c, .int .u64 m.e.id] 65)
  replace KF := mkHid (KF.out.below hb)
  replace RC := mkHid ((hb.block _ (lt_of_heap RC.out)).trans RC.out)
  have EO : Hid (Pc.ok 2 (W0.alloc (.cells #[.slice (some ⟨m.g, 0, none⟩) m.e.key.length m.c, .int .u64 m.e.id] 65)) ⟨some ⟨W0.heap.size, 0, none⟩, 1, 1, emE m⟩) := mkHid (pc_new W0 1 (emE m) 65 2 rfl (emE_one m))
  replace KB := mkHid (KB.out.trans (hb.mono (Nat.le_trans KM.out KB.out.size)))
  clear hb
  generalize W0.alloc (.cells #[.slice (some ⟨m.g, 0, none⟩) m.e.key.length m.c, .int .u64 m.e.id] 65) = W1 at KB KF EO RC hH ⊢
  refine wpAnyH_ready (rs := [10]) (by kernel_rfl) (by simp) ?_
  refine AllReadyH.cons rfl (fun K hK => ?_) AllReadyH.nil
  ·go_simp
   refine hK.out _ _ (KS.out _ (KB.out.alloc (Nat.le_trans KM.out KB.out.size) _)) (fun hH => ?_)
   clear hK K
   have hb := (Below.refl W1.heap.size W1).alloc (Nat.le_refl _) (.cells #[.slice none 0 0, .slice (some ⟨W0.heap.size, 0, none⟩) 1 1, .slice none 0 0] 57)
   replace KF := mkHid (KF.out.below hb)
   replace EO := mkHid (EO.out.below hb)
   replace RC := mkHid ((hb.block _ (lt_of_heap RC.out)).trans RC.out)
   have P1 : Hid (pcsAt (W1.alloc (.cells #[.slice none 0 0, .slice (some ⟨W0.heap.size, 0, none⟩) 1 1, .slice none 0 0] 57)) W1.heap.size [⟨none, 0, 0, []⟩, ⟨some ⟨W0.heap.size, 0, none⟩, 1, 1, emE m⟩, ⟨none, 0, 0, []⟩]) := mkHid (pcs_new W1 [⟨none, 0, 0, []⟩, ⟨some ⟨W0.heap.size, 0, none⟩, 1, 1, emE m⟩, ⟨none, 0, 0, []⟩] 57)
   replace KB := mkHid (KB.out.trans (hb.mono (Nat.le_trans KM.out KB.out.size)))
   clear hb
   generalize W1.alloc (.cells #[.slice none 0 0, .slice (some ⟨W0.heap.size, 0, none⟩) 1 1, .slice none 0 0] 57) = W2 at KB KF EO P1 RC hH ⊢
   refine wpAnyH_ready (rs := [11]) (by kernel_rfl) (by simp) ?_
   refine AllReadyH.cons rfl (fun K hK => ?_) AllReadyH.nil
   ·go_simp
    go_at_call 52
    refine (CE.out _ _ _ KB.out P1.out EO.out).mono ?_
    rintro e W3 ⟨p1, c1, rfl, k1, _, hb⟩
    go_wp2_with fail
    refine hK.out _ _ (KS.out _ (KB.out.trans (hb.mono (Nat.le_trans KM.out KB.out.size)))) (fun hH => ?_)
    clear hK K
    clear P1
    clear EO
    replace KF := mkHid (KF.out.below hb)
    replace RC := mkHid ((hb.block _ (lt_of_heap RC.out)).trans RC.out)
    have N1 := mkHid (k1.lower KB.out.size)
    replace KB := mkHid (KB.out.trans (hb.mono (Nat.le_trans KM.out KB.out.size)))
    clear hb
    refine tKx (i := 12) (v := .agg #[.slice p1 1 c1, .slice none 0 0]) rfl rfl (by kernel_rfl) (fun _ _ _ h => h) ?_ hH ?_
    ·intro w5 hSw; obtain ⟨s0, s1, s2, s3⟩ := hSw; go_simp
    simp only [zA9, zB9, zC9]
    refine wpAnyH_ready (rs := [13]) (by kernel_rfl) (by simp) ?_
    refine AllReadyH.cons rfl (fun K hK => ?_) AllReadyH.nil
    ·have q0 : W3.cell? ⟨(w.heap.size + 1 + 1), 0, none⟩ = some (.slice none 0 0) := (cell_of_block RC.out 0).trans rfl
     have q1 : W3.cell? ⟨(w.heap.size + 1 + 1), 1, none⟩ = some (.slice none 0 0) := (cell_of_block RC.out 1).trans rfl
     have y0 := unfrozen_of_block RC.out 0
     have y1 := unfrozen_of_block RC.out 1
     go_simp
     refine hK.out _ _ (KS.out _ (below_set (below_set KB.out ⟨(w.heap.size + 1 + 1), 0, none⟩ (.slice p1 1 c1) (Nat.le_refl _)) ⟨(w.heap.size + 1 + 1), 1, none⟩ (.slice none 0 0) (Nat.le_refl _))) (fun hH => ?_)
     clear hK K
     refine wpAnyH_done (by kernel_rfl) ?_ _
     refine NoPanic.normal ?_
     have FN := FIN.out W3 _ _ KB.out N1.out
     clear N1 KB RC KS hH KF
     go_wp2_with fail
     refine bodyPost_ret (v := .agg #[.slice p1 1 c1, .slice none 0 0]) (by simp [results, Tryz.results24, go_sem, q0, q1]) rfl ?_
     exact FN
set_option maxHeartbeats 8000000 in
set_option maxRecDepth 1000000 in
theorem put_inner (T : Nat → Prop) (d : Nat) (n k k' : Nd Em) (m : Em) (lo hi : Nat) (v1 v2 : Value) (w : World) (hT : ∀ b, w.heap.size ≤ b → T b) (hn : ndIn T w (d + 1) n v1 v2) (hmk : KeyOk T w m) (hw : n.wf (d + 1) lo hi) (z0 : 1 ≤ n.es.length) (z1 : n.es.length ≤ 40) (hri : Rise ltM n.es) (hk : n.ks[place ltM m n.es]? = some k) (hwk : k'.wf d 8 17)
  (IH : ∀ (T : Nat → Prop) (w : World) (h1 h2 : Value), (∀ b, w.heap.size ≤ b → T b) → ndIn T w d k h1 h2 → KeyOk T w m → Calls Tryz.prog 24 #[.agg #[h1, h2], emV m] w fun en w' => NdQ T w d k' en w') :
  Calls Tryz.prog 24 #[.agg #[v1, v2], emV m] w fun en w' => NdQ T w (d + 1) (n.withK (place ltM m n.es) (place ltM m n.es + 1) k') en w' := by
 have hm := hmk.at_
 have zk := wf_klen hw
 obtain ⟨gx, ox, c, rfl, hc⟩ := hn.some.1 (by omega)
 obtain ⟨gy, oy, e, rfl, he⟩ := hn.some.2 (by omega)
 obtain ⟨a1, a2, a3, b1, b2, b3, q1, q2, q3, q4⟩ := hn.kid hk
 obtain ⟨N, hN⟩ : ∃ N, N = n.es.length := ⟨_, rfl⟩
 obtain ⟨K, hK⟩ : ∃ K, K = n.ks.length := ⟨_, rfl⟩
 rw [← hN, ← hK] at hn ⊢
 obtain ⟨w0, hw0⟩ : ∃ w0, w0 = ((w.alloc (.cells #[.slice (some ⟨gx, ox, none⟩) N c, .slice (some ⟨gy, oy, none⟩) K e] 60)).alloc (.cells #[.slice (some ⟨m.g, 0, none⟩) m.e.key.length m.c, .int .u64 m.e.id] 65)).alloc (.cells #[.slice none 0 0, .slice none 0 0] 60) := ⟨_, rfl⟩
 obtain ⟨d0, d1, d2, bb, bs⟩ := bx3 w (.cells #[.slice (some ⟨gx, ox, none⟩) N c, .slice (some ⟨gy, oy, none⟩) K e] 60) (.cells #[.slice (some ⟨m.g, 0, none⟩) m.e.key.length m.c, .int .u64 m.e.id] 65) (.cells #[.slice none 0 0, .slice none 0 0] 60)
 rw [← hw0] at d0 d1 d2 bb bs
 obtain ⟨A, hA⟩ : ∃ A, A = place ltM m n.es := ⟨_, rfl⟩
 have hAl : A ≤ n.es.length := by rw [hA]; exact place_le _ _ _
 obtain ⟨HE, hHE⟩ : ∃ HE, HE = hereB m.e n.es := ⟨_, rfl⟩
 have BSF : Hid (Calls Tryz.prog 50 #[.slice (some ⟨gx, ox, none⟩) N c, .agg #[.slice (some ⟨m.g, 0, none⟩) m.e.key.length m.c, .int .u64 m.e.id], .func (.func 51) #[] #[]] w0 fun en w' => en = .returned (.tuple #[.int .i64 (A : Int), .bool HE]) ∧ Below w0.heap.size w0 w') := by
  rw [hA, hHE]
  exact bsf_any T n.es _ m.e _ m.c w0 (hn.ent.keeps (Keeps.of_below bb)) (hm.below bb) hri (by omega)
 have BB := mkHid bb
 have BX := mkHid (And.intro d0 (And.intro d1 d2))
 have BSZ := mkHid bs
 rw [← hA] at q1 q2 hk ⊢
 have Q := mkHid (And.intro q1 (And.intro q2 q4))
 have hkl := wf_len hwk
 have PC : Hid (∀ W, Below w.heap.size w W → w0.heap.size ≤ W.heap.size → Calls Tryz.prog 24 #[.agg #[.slice a1 a2 a3, .slice b1 b2 b3], .agg #[.slice (some ⟨m.g, 0, none⟩) m.e.key.length m.c, .int .u64 m.e.id]] W fun en w' => NdS (fun b => T b ∧ b ≠ (w.heap.size + 1 + 1)) W d k' en w') := fun W hW hs => (IH (fun b => T b ∧ b ≠ (w.heap.size + 1 + 1)) W _ _ (fun b hb => ⟨hT b (by omega), by omega⟩) ((q3.off (by omega)).below hW) ((hmk.off (by omega)).keeps (Keeps.of_below hW))).mono (fun _ _ h => h.toS)
 have WC : Hid (∀ W p1 n1 c1 p2 n2 c2, Below w.heap.size w W → w0.heap.size ≤ W.heap.size → ndIn (fun b => T b ∧ b ≠ (w.heap.size + 1 + 1)) W d k' (.slice p1 n1 c1) (.slice p2 n2 c2) → Calls Tryz.prog 53 #[.agg #[.slice (some ⟨gx, ox, none⟩) N c, .slice (some ⟨gy, oy, none⟩) K e], .int .i64 (A : Int), .int .i64 ((A : Int) + 1), .agg #[.slice p1 n1 c1, .slice p2 n2 c2]] W fun en w' => NdS (fun b => T b ∧ b ≠ (w.heap.size + 1 + 1)) W (d + 1) (n.withK A (A + 1) k') en w') := fun W p1 n1 c1 p2 n2 c2 hW hs hj =>
  (with_any (fun b => T b ∧ b ≠ (w.heap.size + 1 + 1)) d n k' A A _ _ _ _ _ _ _ _ W (fun b hb => ⟨hT b (by omega), by omega⟩) ((hn.off (by omega)).below hW) hj hw hwk z0 (by omega) (by omega) (Nat.le_refl _) hAl).mono (fun _ _ h => h.toS)
 have HM : Hid (w.heap.size ≤ (w.heap.size + 1 + 1)) := by show _ ≤ _; omega
 have i1 : (0 : Int) ≤ (A : Int) := by omega
 have i2 : (A : Int) < (K : Int) := by omega
 have i5 : A ≤ 100 := by omega
 have i6 : ¬ K = 0 := by omega
 have i8 : IntKind.i64.wrap ((A : Int) + 1) = (A : Int) + 1 := by simp [IntKind.wrap, IntKind.bits, IntKind.signed]; omega
 have i7 : ((K : Int) == 0) = false := by rw [beq_eq_false_iff_ne]; omega
 have HW0 := mkHid hw0
 unfold emV enV
 clear hT hn hmk z0 z1 hri hm hw hk hwk IH zk hc he q1 q2 q3 q4 hN hK d0 d1 d2 bb bs hw0 hA hAl hHE hkl
 go_enter Tryz.func24, Tryz.ntmps24
 go_wp2_with fail
 rw [← HW0.out]
 clear HW0
 refine BSF.out.mono ?_
 rintro en w1 ⟨rfl, hb1⟩
 have BW : Hid (Below w.heap.size w w1) := BB.out.trans (hb1.mono BB.out.size)
 have RC : Hid (w1.heap[(w.heap.size + 1 + 1)]? = some (.cells #[.slice none 0 0, .slice none 0 0] 60 (0, 0))) := (hb1.block _ (lt_of_heap BX.out.2.2)).trans BX.out.2.2
 have KM : Hid ((w.heap.size + 1 + 1) ≤ w1.heap.size) := by have := BSZ.out; have := hb1.size; show _ ≤ _; omega
 have KF : Hid (Kept w1 w1) := Below.refl _ _
 have UP : Hid (∀ W, Below (w.heap.size + 1 + 1) w1 W → Below w.heap.size w W) := fun W hb => BW.out.trans (hb.mono (by omega))
 have KS : Hid (∀ w', Below (w.heap.size + 1 + 1) w1 w' → w'.cell? ⟨w.heap.size, 0, none⟩ = some (.slice (some ⟨gx, ox, none⟩) N c) ∧ w'.cell? ⟨w.heap.size, 1, none⟩ = some (.slice (some ⟨gy, oy, none⟩) K e) ∧ w'.cell? ⟨w.heap.size + 1, 0, none⟩ = some (.slice (some ⟨m.g, 0, none⟩) m.e.key.length m.c) ∧ w'.cell? ⟨w.heap.size + 1, 1, none⟩ = some (.int .u64 m.e.id) ∧ w'.cell? ⟨gy, oy + A * 2, none⟩ = some (.slice a1 a2 a3) ∧ w'.cell? ⟨gy, oy + A * 2 + 1, none⟩ = some (.slice b1 b2 b3)) := fun w' hb => by
  have e0 : w1.heap[w.heap.size]? = _ := (hb1.block _ (lt_of_heap BX.out.1)).trans BX.out.1
  have e1 : w1.heap[w.heap.size + 1]? = _ := (hb1.block _ (lt_of_heap BX.out.2.1)).trans BX.out.2.1
  have c0 : ∀ o, w'.cell? ⟨w.heap.size, o, none⟩ = w1.cell? ⟨w.heap.size, o, none⟩ := fun o => hb.cell (p := ⟨w.heap.size, o, none⟩) (by show w.heap.size < _; omega)
  have c1 : ∀ o, w'.cell? ⟨w.heap.size + 1, o, none⟩ = w1.cell? ⟨w.heap.size + 1, o, none⟩ := fun o => hb.cell (p := ⟨w.heap.size + 1, o, none⟩) (by show w.heap.size + 1 < _; omega)
  have c2 : ∀ o, w'.cell? ⟨gy, o, none⟩ = w.cell? ⟨gy, o, none⟩ := fun o => (UP.out w' hb).cell (p := ⟨gy, o, none⟩) Q.out.2.2
  have q1 := Q.out.1
  have q2 := Q.out.2.1
  exact ⟨(c0 0).trans ((cell_of_block e0 0).trans rfl), (c0 1).trans ((cell_of_block e0 1).trans rfl), (c1 0).trans ((cell_of_block e1 0).trans rfl), (c1 1).trans ((cell_of_block e1 1).trans rfl), (c2 _).trans q1, (c2 _).trans q2⟩
 replace PC : Hid (∀ W, Below (w.heap.size + 1 + 1) w1 W → Calls Tryz.prog 24 #[.agg #[.slice a1 a2 a3, .slice b1 b2 b3], .agg #[.slice (some ⟨m.g, 0, none⟩) m.e.key.length m.c, .int .u64 m.e.id]] W fun en w' => NdS (fun b => T b ∧ b ≠ (w.heap.size + 1 + 1)) W d k' en w') := fun W hW => PC.out W (UP.out W hW) (Nat.le_trans hb1.size hW.size)
 replace WC : Hid (∀ W p1 n1 c1 p2 n2 c2, Below (w.heap.size + 1 + 1) w1 W → ndIn (fun b => T b ∧ b ≠ (w.heap.size + 1 + 1)) W d k' (.slice p1 n1 c1) (.slice p2 n2 c2) → Calls Tryz.prog 53 #[.agg #[.slice (some ⟨gx, ox, none⟩) N c, .slice (some ⟨gy, oy, none⟩) K e], .int .i64 (A : Int), .int .i64 ((A : Int) + 1), .agg #[.slice p1 n1 c1, .slice p2 n2 c2]] W fun en w' => NdS (fun b => T b ∧ b ≠ (w.heap.size + 1 + 1)) W (d + 1) (n.withK A (A + 1) k') en w') := fun W p1 n1 c1 p2 n2 c2 hW hj => WC.out W p1 n1 c1 p2 n2 c2 (UP.out W hW) (Nat.le_trans hb1.size hW.size) hj
 clear hb1 BSF
 have f1 := (KS.out w1 (Below.refl _ _)).2.1
 go_wp2_with fail
 clear f1
 refine wp_region_noPanic ?_
 refine wp_region_held_drew (S := fun w' : World => w'.cell? ⟨w.heap.size, 0, none⟩ = some (.slice (some ⟨gx, ox, none⟩) N c) ∧ w'.cell? ⟨w.heap.size, 1, none⟩ = some (.slice (some ⟨gy, oy, none⟩) K e) ∧ w'.cell? ⟨w.heap.size + 1, 0, none⟩ = some (.slice (some ⟨m.g, 0, none⟩) m.e.key.length m.c) ∧ w'.cell? ⟨w.heap.size + 1, 1, none⟩ = some (.int .u64 m.e.id) ∧ w'.cell? ⟨gy, oy + A * 2, none⟩ = some (.slice a1 a2 a3) ∧ w'.cell? ⟨gy, oy + A * 2 + 1, none⟩ = some (.slice b1 b2 b3)) (by kernel_rfl) (KS.out _ (Below.refl _ _).drew) (fun hH => ?_)
 refine tKx (i := 0) (v := .agg #[.slice (some ⟨gx, ox, none⟩) N c, .slice (some ⟨gy, oy, none⟩) K e]) rfl rfl (by kernel_rfl) (fun _ _ _ h => h) ?_ hH ?_
 ·intro w5 hSw; obtain ⟨s0, s1, s2, s3, s4, s5⟩ := hSw; go_simp
 simp only [zA9, zB9, zC9]
 refine tKx (i := 1) (v := .int .i64 ((A : Int))) rfl rfl (by kernel_rfl) (fun _ _ _ h => h) ?_ hH ?_
 ·intro w5 hSw; obtain ⟨s0, s1, s2, s3, s4, s5⟩ := hSw; go_simp
 simp only [zA9, zB9, zC9]
 refine tKx (i := 2) (v := .int .i64 ((A : Int))) rfl rfl (by kernel_rfl) (fun _ _ _ h => h) ?_ hH ?_
 ·intro w5 hSw; obtain ⟨s0, s1, s2, s3, s4, s5⟩ := hSw; go_simp
 simp only [zA9, zB9, zC9]
 refine tKx (i := 3) (v := .int .i64 ((A : Int) + 1)) rfl rfl (by kernel_rfl) (fun _ _ _ h => h) ?_ hH ?_
 ·intro w5 hSw; obtain ⟨s0, s1, s2, s3, s4, s5⟩ := hSw; go_simp
 simp only [zA9, zB9, zC9]
 refine tKx (i := 4) (v := .pointer (some ⟨w.heap.size, 1, none⟩)) rfl rfl (by kernel_rfl) (fun _ _ _ h => h) ?_ hH ?_
 ·intro w5 hSw; obtain ⟨s0, s1, s2, s3, s4, s5⟩ := hSw; go_simp
 simp only [zA9, zB9, zC9]
 refine tKx (i := 5) (v := .slice (some ⟨gy, oy, none⟩) K e) rfl rfl (by kernel_rfl) (fun _ _ _ h => h) ?_ hH ?_
 ·intro w5 hSw; obtain ⟨s0, s1, s2, s3, s4, s5⟩ := hSw; go_simp
 simp only [zA9, zB9, zC9]
 refine tKx (i := 6) (v := .int .i64 ((A : Int))) rfl rfl (by kernel_rfl) (fun _ _ _ h => h) ?_ hH ?_
 ·intro w5 hSw; obtain ⟨s0, s1, s2, s3, s4, s5⟩ := hSw; go_simp
 simp only [zA9, zB9, zC9]
 refine tKx (i := 7) (v := .pointer (some ⟨gy, oy + A * 2, none⟩)) rfl rfl (by kernel_rfl) (fun _ _ _ h => h) ?_ hH ?_
 ·intro w5 hSw; obtain ⟨s0, s1, s2, s3, s4, s5⟩ := hSw; go_simp
 simp only [zA9, zB9, zC9]
 refine tKx (i := 8) (v := .agg #[.slice a1 a2 a3, .slice b1 b2 b3]) rfl rfl (by kernel_rfl) (fun _ _ _ h => h) ?_ hH ?_
 ·intro w5 hSw; obtain ⟨s0, s1, s2, s3, s4, s5⟩ := hSw; go_simp
 simp only [zA9, zB9, zC9]
 refine tKx (i := 9) (v := .agg #[.slice (some ⟨m.g, 0, none⟩) m.e.key.length m.c, .int .u64 m.e.id]) rfl rfl (by kernel_rfl) (fun _ _ _ h => h) ?_ hH ?_
 ·intro w5 hSw; obtain ⟨s0, s1, s2, s3, s4, s5⟩ := hSw; go_simp
 simp only [zA9, zB9, zC9]
 have KB := mkHid ((Below.refl (w.heap.size + 1 + 1) w1).drew)
 replace KF := mkHid (KF.out.below (Below.refl _ w1).drew)
 replace RC := mkHid (show w1.drew.heap[(w.heap.size + 1 + 1)]? = _ from RC.out)
 generalize hW0 : w1.drew = W0 at KB KF RC hH ⊢
 refine wpAnyH_ready (rs := [10]) (by kernel_rfl) (by simp) ?_
 refine AllReadyH.cons rfl (fun K hK => ?_) AllReadyH.nil
 ·go_simp
  go_at_call 24
  refine (PC.out _ KB.out).mono ?_
  rintro e W1 ⟨p1, n1, c1, p2, n2, c2, rfl, k1, hb⟩
  go_wp2_with fail
  refine hK.out _ _ (KS.out _ (KB.out.trans (hb.mono (Nat.le_trans KM.out KB.out.size)))) (fun hH => ?_)
  clear hK K
  replace KF := mkHid (KF.out.below hb)
  replace RC := mkHid ((hb.block _ (lt_of_heap RC.out)).trans RC.out)
  have JN := mkHid (k1)
  replace KB := mkHid (KB.out.trans (hb.mono (Nat.le_trans KM.out KB.out.size)))
  clear hb
  refine wpAnyH_ready (rs := [11]) (by kernel_rfl) (by simp) ?_
  refine AllReadyH.cons rfl (fun K hK => ?_) AllReadyH.nil
  ·go_simp
   go_at_call 53
   refine (WC.out _ _ _ _ _ _ _ KB.out JN.out).mono ?_
   rintro e W2 ⟨p3, n3, c3, p4, n4, c4, rfl, k2, hb⟩
   go_wp2_with fail
   refine hK.out _ _ (KS.out _ (KB.out.trans (hb.mono (Nat.le_trans KM.out KB.out.size)))) (fun hH => ?_)
   clear hK K
   clear JN
   replace KF := mkHid (KF.out.below hb)
   replace RC := mkHid ((hb.block _ (lt_of_heap RC.out)).trans RC.out)
   have WN := mkHid (k2)
   replace KB := mkHid (KB.out.trans (hb.mono (Nat.le_trans KM.out KB.out.size)))
   clear hb
   refine wpAnyH_ready (rs := [12]) (by kernel_rfl) (by simp) ?_
   refine AllReadyH.cons rfl (fun K hK => ?_) AllReadyH.nil
   ·have q0 : W2.cell? ⟨(w.heap.size + 1 + 1), 0, none⟩ = some (.slice none 0 0) := (cell_of_block RC.out 0).trans rfl
    have q1 : W2.cell? ⟨(w.heap.size + 1 + 1), 1, none⟩ = some (.slice none 0 0) := (cell_of_block RC.out 1).trans rfl
    have y0 := unfrozen_of_block RC.out 0
    have y1 := unfrozen_of_block RC.out 1
    go_simp
    refine hK.out _ _ (KS.out _ (below_set (below_set KB.out ⟨(w.heap.size + 1 + 1), 0, none⟩ (.slice p3 n3 c3) (Nat.le_refl _)) ⟨(w.heap.size + 1 + 1), 1, none⟩ (.slice p4 n4 c4) (Nat.le_refl _))) (fun hH => ?_)
    clear hK K
    refine wpAnyH_done (by kernel_rfl) ?_ _
    refine NoPanic.normal ?_
    have FN := NdQ.ret (T := T) (w := w) HM.out WN.out (UP.out _ KB.out)
    clear WN KB RC KS hH KF
    go_wp2_with fail
    refine bodyPost_ret (v := .agg #[.slice p3 n3 c3, .slice p4 n4 c4]) (by simp [results, Tryz.results24, go_sem, q0, q1]) rfl ?_
    exact FN
/-- an entry put in -/
theorem put_any : ∀ (d : Nat) (T : Nat → Prop) (n : Nd Em) (m : Em) (lo : Nat) (v1 v2 : Value) (w : World), (∀ b, w.heap.size ≤ b → T b) → ndIn T w d n v1 v2 → KeyOk T w m → n.wf d lo 16 → (d ≠ 0 → 1 ≤ n.es.length) → Rise ltM n.fl →
  Calls Tryz.prog 24 #[.agg #[v1, v2], emV m] w fun en w' => NdQ T w d (n.putN ltM d m) en w'
 | 0, T, n, m, lo, v1, v2, w, hT, hn, hm, hw, _, hr => by
  have hl := wf_len hw
  have hes : Rise ltM n.es := by rw [← fl_zero hw]; exact hr
  obtain ⟨⟨p, N, c, xs⟩, e1, e2, e3, e4, e5⟩ := hn.ent.pc
  have hv2 := hn.2.2
  subst hv2
  simp only [Pc.v] at e1 e2 e5
  subst e1
  cases p with
  | none =>
   have := e4.nil rfl
   simp only at this
   obtain ⟨rfl, rfl⟩ := this
   exact put_nil T n m w hT hn hm (List.eq_nil_of_length_eq_zero e2.symm)
  | some ad =>
   obtain ⟨g, o, rfl, _, _⟩ := e4.at_ ad rfl
   exact put_leaf T n m g o N c w hT hn hm (by omega) hes
 | d + 1, T, n, m, lo, v1, v2, w, hT, hn, hm, hw, h0, hr => by
  have hl := wf_len hw
  have hkl := wf_klen hw
  have hes := es_rise (Or.inr hkl) hr
  obtain ⟨k, hk⟩ : ∃ k, n.ks[place ltM m n.es]? = some k := ⟨_, List.getElem?_eq_getElem (by have := place_le ltM m n.es; omega)⟩
  have hkw := wf_kid hw hk
  have hkr := (around ord3M hkl hr hk).1
  have hp := (put_ok ord3M d hkw hkr (e := m)).2
  have hkn := wf_len hkw
  have hpn := wf_len hp
  show Calls _ _ _ _ (fun en w' => NdQ T w (d + 1) (n.putN ltM (d + 1) m) en w')
  unfold Nd.putN
  rw [hk]
  exact put_inner T d n k _ m lo 16 v1 v2 w hT hn hm hw (h0 (by omega)) (by omega) hes hk (wf_mono hp (by omega) (by omega)) (fun T w h1 h2 hT hk2 hm2 => put_any d T k m 8 h1 h2 w hT hk2 hm2 hkw (fun _ => by omega) hkr)
end Go.Proofs.YtclcajnodoifjaaGreatDoor

namespace Go.Proofs.YtclcajnodoifjaaGreatDoor
open Go.RowKit Go.Shelf Go.Joins Go.Maps
set_option maxRecDepth 100000

end Go.Proofs.YtclcajnodoifjaaGreatDoor

namespace Go.Proofs.YtclcajnodoifjaaGreatDoor
open Go.RowKit Go.Shelf Go.Joins Go.Maps
set_option maxRecDepth 100000

theorem chg_bl {X : Nat → Prop} {w w' : World} (h : Below w.heap.size w w') : Chg X w w' := ⟨h.os, h.tape, h.output, h.size, fun k hk _ => h.block k hk⟩
/-- an entry written over -/
theorem shr_set {w : World} {g o n c A : Nat} {es : List Em} {up : Em} (h : shr w 65 2 (.slice (some ⟨g, o, none⟩) n c) n (fl emE es)) (hA : A < es.length) :
  shr ((w.setCell ⟨g, o + A * 2, none⟩ (.slice (some ⟨up.g, 0, none⟩) up.e.key.length up.c)).setCell ⟨g, o + A * 2 + 1, none⟩ (.int .u64 up.e.id)) 65 2 (.slice (some ⟨g, o, none⟩) n c) n (fl emE (es.set A up)) := by
 have hlen := h.1
 rcases h.2 with ⟨e, _⟩ | ⟨g', off, cap, cur, e, hg, h1, h2, h3, h4⟩
 ·cases e
 cases e
 refine ⟨by rw [fl_len emE_len, List.length_set, ← fl_len emE_len]; exact hlen, Or.inr ⟨g, o, c, _, rfl, block_setCell (block_setCell hg _) _, h1, h2, by simpa using h3, fun j u hj => ?_⟩⟩
 have k0 := h4 _ _ ((fl_get emE_len es A es[A] 0 (List.getElem?_eq_getElem hA) (by omega)).trans rfl)
 have k1 := h4 _ _ ((fl_get emE_len es A es[A] 1 (List.getElem?_eq_getElem hA) (by omega)).trans rfl)
 have s0 := (Array.getElem?_eq_some_iff.1 k0).1
 have s1 := (Array.getElem?_eq_some_iff.1 k1).1
 obtain ⟨v, hv, hu⟩ := fl_at emE_len (by omega) hj
 rw [Array.getElem?_setIfInBounds, Array.size_setIfInBounds, Array.getElem?_setIfInBounds]
 by_cases hjA : j / 2 = A
 ·rw [hjA, List.getElem?_set_self hA] at hv
  cases hv
  rcases (show j % 2 = 0 ∨ j % 2 = 1 by omega) with hr | hr
  ·rw [hr] at hu
   have hj0 : j = A * 2 := by omega
   subst hj0
   rw [if_neg (by omega), if_pos rfl, if_pos (by omega)]
   simpa [emE] using hu
  ·rw [hr] at hu
   have hj0 : j = A * 2 + 1 := by omega
   subst hj0
   rw [if_pos (by omega), if_pos (by omega)]
   simpa [emE] using hu
 ·rw [List.getElem?_set_ne (by omega)] at hv
  rw [if_neg (by omega), if_neg (by omega)]
  refine h4 j u ?_
  have := fl_get emE_len es (j / 2) v (j % 2) hv (Nat.mod_lt _ (by omega))
  rw [Nat.mul_comm, Nat.div_add_mod] at this
  rw [this]; exact hu
theorem dropN_no {lt : Em → Em → Bool} {d : Nat} {n k : Nd Em} {e : Em} (hk : n.ks[place lt e n.es]? = some k) (h : ∀ y, n.es[place lt e n.es]? = some y → lt e y = true) : n.dropN lt (d + 1) e = n.lessK (place lt e n.es) (k.dropN lt d e) := by
 rw [Nd.dropN, hk]
 cases hq : n.es[place lt e n.es]? with
 | none => simp
 | some y => simp [h y hq]
theorem dropN_yes {lt : Em → Em → Bool} {d : Nat} {n k : Nd Em} {e y up : Em} (hk : n.ks[place lt e n.es]? = some k) (hy : n.es[place lt e n.es]? = some y) (h : lt e y = false) (hl : k.lastN d = some up) : n.dropN lt (d + 1) e = (n.setE (place lt e n.es) up).lessK (place lt e n.es) (k.dropN lt d up) := by
 rw [Nd.dropN, hk, hy]
 simp [h, hl]
end Go.Proofs.YtclcajnodoifjaaGreatDoor

