/-
 The walk of drop: a leaf, a node that passes it on.
-/
import Derived.Test.YtclcajnodoifjaaGreatDoorCaASx
import Derived.Test.YtclcajnodoifjaaGreatDoorIAK
namespace Go.Proofs.YtclcajnodoifjaaGreatDoor
open Go.RowKit Go.Shelf Go.Joins Go.Maps
set_option maxRecDepth 100000

set_option maxHeartbeats 8000000 in
set_option maxRecDepth 1000000 in
theorem drop_leaf_off (T : Nat → Prop) (n : Nd Em) (m : Em) (px : Option Addr) (cx gx ox N c : Nat) (w : World) (hT : ∀ b, w.heap.size ≤ b → T b) (hn : ndIn T w 0 n (.slice (some ⟨gx, ox, none⟩) N c) (.slice none 0 0)) (hm : EnOff w px m.e) (z1 : n.es.length ≤ 40) (hri : Rise ltM n.es) (hpl : place ltM m n.es < n.es.length) :
  Calls Tryz.prog 27 #[.agg #[.slice (some ⟨gx, ox, none⟩) N c, .slice none 0 0], enV px cx m.e] w fun en w' => NdQ T w 0 (n.dropN ltM 0 m) en w' := by
 obtain ⟨⟨p', N', c', xs⟩, e1, e2, e3, e4, e5⟩ := hn.ent.pc
 simp only [Pc.v, Value.slice.injEq] at e1
 obtain ⟨rfl, rfl, rfl⟩ := e1
 simp only at e2 e3 e5
 subst e3
 obtain ⟨lx, hlx⟩ : ∃ lx, lx = m.e.key.length := ⟨_, rfl⟩
 obtain ⟨ix, hix⟩ : ∃ ix, ix = m.e.id := ⟨_, rfl⟩
 unfold enV
 rw [← hlx, ← hix]
 obtain ⟨w0, hw0⟩ : ∃ w0, w0 = ((w.alloc (.cells #[.slice (some ⟨gx, ox, none⟩) N c, .slice none 0 0] 60)).alloc (.cells #[.slice px lx cx, .int .u64 ix] 65)).alloc (.cells #[.slice none 0 0, .slice none 0 0] 60) := ⟨_, rfl⟩
 obtain ⟨d0, d1, d2, bb, bs⟩ := bx3 w (.cells #[.slice (some ⟨gx, ox, none⟩) N c, .slice none 0 0] 60) (.cells #[.slice px lx cx, .int .u64 ix] 65) (.cells #[.slice none 0 0, .slice none 0 0] 60)
 rw [← hw0] at d0 d1 d2 bb bs
 obtain ⟨A, hA⟩ : ∃ A, A = place ltM m n.es := ⟨_, rfl⟩
 have hAl : A ≤ n.es.length := by rw [hA]; exact place_le _ _ _
 obtain ⟨HE, hHE⟩ : ∃ HE, HE = hereB m.e n.es := ⟨_, rfl⟩
 have BSF : Hid (Calls Tryz.prog 50 #[.slice (some ⟨gx, ox, none⟩) N c, .agg #[.slice px lx cx, .int .u64 ix], .func (.func 51) #[] #[]] w0 fun en w' => en = .returned (.tuple #[.int .i64 (A : Int), .bool HE]) ∧ Below w0.heap.size w0 w') := by
  rw [hA, hHE, hlx, hix]
  exact bsf_off T n.es _ m.e _ cx w0 (hn.ent.keeps (Keeps.of_below bb)) (hm.below bb) hri (by omega)
 have BB := mkHid bb
 have BX := mkHid (And.intro d0 (And.intro d1 d2))
 have BSZ := mkHid bs
 rw [← hA] at hpl
 obtain ⟨VX, hVX⟩ : ∃ V, V = if c = A + 1 then some (⟨gx, ox, none⟩ : Addr) else some ⟨gx, ox + (A + 1) * 2, none⟩ := ⟨_, rfl⟩
 have HVX := mkHid hVX
 have X1 := mkHid (e4.fst (a := A) (by simp only; omega))
 have X2 := mkHid (lst_ok (b := A + 1) e4 e5 hVX)
 have HEN := mkHid hn.ent.2
 have HTT := mkHid hT
 have HA := mkHid hA
 have HN2 : Hid (A + 1 ≤ N ∧ N = n.es.length ∧ N ≤ 40) := by show _ ∧ _; omega
 have i1 : (0 : Int) ≤ (A : Int) := by omega
 have i2 : (A : Int) ≤ (c : Int) := by omega
 have i3 : (A : Int) + 1 ≤ (N : Int) := by omega
 have i4 : (N : Int) ≤ (c : Int) := by omega
 have i5 : A ≤ 1000 := by omega
 have i6 : (0 : Int) ≤ (A : Int) + 1 := by omega
 have i8 : IntKind.i64.wrap ((A : Int) + 1) = (A : Int) + 1 := by simp [IntKind.wrap, IntKind.bits, IntKind.signed]; omega
 have HW0 := mkHid hw0
 clear hT hn hm z1 hri hpl e2 e4 e5 d0 d1 d2 bb bs hw0 hA hAl hHE hVX hlx hix
 go_enter Tryz.func27, Tryz.ntmps27
 go_wp2_with fail
 rw [← HW0.out]
 clear HW0
 refine BSF.out.mono ?_
 rintro en w1 ⟨rfl, hb1⟩
 have BW : Hid (Below w.heap.size w w1) := BB.out.trans (hb1.mono BB.out.size)
 have RC : Hid (w1.heap[(w.heap.size + 1 + 1)]? = some (.cells #[.slice none 0 0, .slice none 0 0] 60 (0, 0))) := (hb1.block _ (lt_of_heap BX.out.2.2)).trans BX.out.2.2
 have KM : Hid ((w.heap.size + 1 + 1) ≤ w1.heap.size) := by have := BSZ.out; have := hb1.size; show _ ≤ _; omega
 have KF : Hid (Kept w1 w1) := Below.refl _ _
 have UP : Hid (∀ W, Below (w.heap.size + 1 + 1) w1 W → Below w.heap.size w W) := fun W hb => BW.out.trans (hb.mono (by omega))
 have KS : Hid (∀ w', Below (w.heap.size + 1 + 1) w1 w' → w'.cell? ⟨w.heap.size, 0, none⟩ = some (.slice (some ⟨gx, ox, none⟩) N c) ∧ w'.cell? ⟨w.heap.size, 1, none⟩ = some (.slice none 0 0) ∧ w'.cell? ⟨w.heap.size + 1, 0, none⟩ = some (.slice px lx cx) ∧ w'.cell? ⟨w.heap.size + 1, 1, none⟩ = some (.int .u64 ix)) := fun w' hb => by
  have e0 : w1.heap[w.heap.size]? = _ := (hb1.block _ (lt_of_heap BX.out.1)).trans BX.out.1
  have e1 : w1.heap[w.heap.size + 1]? = _ := (hb1.block _ (lt_of_heap BX.out.2.1)).trans BX.out.2.1
  have c0 : ∀ o, w'.cell? ⟨w.heap.size, o, none⟩ = w1.cell? ⟨w.heap.size, o, none⟩ := fun o => hb.cell (p := ⟨w.heap.size, o, none⟩) (by show w.heap.size < _; omega)
  have c1 : ∀ o, w'.cell? ⟨w.heap.size + 1, o, none⟩ = w1.cell? ⟨w.heap.size + 1, o, none⟩ := fun o => hb.cell (p := ⟨w.heap.size + 1, o, none⟩) (by show w.heap.size + 1 < _; omega)
  exact ⟨(c0 0).trans ((cell_of_block e0 0).trans rfl), (c0 1).trans ((cell_of_block e0 1).trans rfl), (c1 0).trans ((cell_of_block e1 0).trans rfl), (c1 1).trans ((cell_of_block e1 1).trans rfl)⟩
 obtain ⟨n1, hn1⟩ : ∃ n1, n1 = (n.es.take A ++ n.es.drop (A + 1)).length := ⟨_, rfl⟩
 have CE : Hid (∀ W G, Below (w.heap.size + 1 + 1) w1 W → pcsAt W G [⟨some ⟨gx, ox, none⟩, A, c, (fl emE n.es).take (A * 2)⟩, ⟨VX, N - (A + 1), c - (A + 1), (fl emE n.es).drop ((A + 1) * 2)⟩] → Calls Tryz.prog 52 #[.slice (some ⟨G, 0, none⟩) 2 2] W fun en w' => CcN W 65 2 n1 (fl emE (n.es.take A ++ n.es.drop (A + 1))) en w') := fun W G hW hp => (ConcatEn G 2 _ W (by simp) hp (fun x hx => by
   simp only [List.mem_cons, List.not_mem_nil, or_false] at hx
   rcases hx with rfl | rfl
   ·exact X1.out.below (UP.out W hW)
   ·exact X2.out.below (UP.out W hW)) (by have := HN2.out; simp [sumN]; omega)).mono (fun en w' h => cc_nw h (by have := HN2.out; rw [hn1, List.length_append, List.length_take, List.length_drop]; simp [sumN]; omega) (by simp [catX, fl_take emE_len, fl_drop emE_len, fl_app]))
 have FIN : Hid (∀ W p1 c1, Below (w.heap.size + 1 + 1) w1 W → Nw w1 W 65 2 (.slice p1 n1 c1) n1 (fl emE (n.es.take A ++ n.es.drop (A + 1))) → NdQ T w 0 (n.dropN ltM 0 m) (.returned (.agg #[.slice p1 n1 c1, .slice none 0 0])) ((W.setCell ⟨(w.heap.size + 1 + 1), 0, none⟩ (.slice p1 n1 c1)).setCell ⟨(w.heap.size + 1 + 1), 1, none⟩ (.slice none 0 0))) := fun W p1 c1 hW q1 => by
  subst hn1
  show NdQ T w 0 (.mk (n.es.take (place ltM m n.es) ++ n.es.drop (place ltM m n.es + 1)) []) _ _
  rw [← HA.out]
  have z := BSZ.out
  have z1 := hb1.size
  refine fin_node (wm := w) (hs := []) (by omega) (UP.out W hW) (UP.out W hW) (fun q hq => ?_) KidsH.nil (fun _ => rfl) (fun b hb => ⟨HTT.out b (by omega), by omega⟩) q1 (nw_nil _ _ _ _) (fun _ => rfl)
  rcases List.mem_append.1 hq with hq | hq
  ·exact (HEN.out q (List.mem_of_mem_take hq)).off (by omega)
  ·exact (HEN.out q (List.mem_of_mem_drop hq)).off (by omega)
 clear hb1 BSF hn1
 have f1 := (KS.out w1 (Below.refl _ _)).2.1
 go_wp2_with fail
 clear f1
 refine wp_region_noPanic ?_
 refine wp_region_held_drew (S := fun w' : World => w'.cell? ⟨w.heap.size, 0, none⟩ = some (.slice (some ⟨gx, ox, none⟩) N c) ∧ w'.cell? ⟨w.heap.size, 1, none⟩ = some (.slice none 0 0) ∧ w'.cell? ⟨w.heap.size + 1, 0, none⟩ = some (.slice px lx cx) ∧ w'.cell? ⟨w.heap.size + 1, 1, none⟩ = some (.int .u64 ix)) (by kernel_rfl) (KS.out _ (Below.refl _ _).drew) (fun hH => ?_)
 refine tKx (i := 0) (v := .pointer (some ⟨w.heap.size, 0, none⟩)) rfl rfl (by kernel_rfl) (fun _ _ _ h => h) ?_ hH ?_
 ·intro w5 hSw; obtain ⟨s0, s1, s2, s3⟩ := hSw; go_simp
 simp only [zA9, zB9, zC9]
 refine tKx (i := 1) (v := .slice (some ⟨gx, ox, none⟩) N c) rfl rfl (by kernel_rfl) (fun _ _ _ h => h) ?_ hH ?_
 ·intro w5 hSw; obtain ⟨s0, s1, s2, s3⟩ := hSw; go_simp
 simp only [zA9, zB9, zC9]
 refine tKx (i := 2) (v := .int .i64 ((A : Int))) rfl rfl (by kernel_rfl) (fun _ _ _ h => h) ?_ hH ?_
 ·intro w5 hSw; obtain ⟨s0, s1, s2, s3⟩ := hSw; go_simp
 simp only [zA9, zB9, zC9]
 refine tKx (i := 3) (v := .slice (some ⟨gx, ox, none⟩) A c) rfl rfl (by kernel_rfl) (fun _ _ _ h => h) ?_ hH ?_
 ·intro w5 hSw; obtain ⟨s0, s1, s2, s3⟩ := hSw; go_simp
 simp only [zA9, zB9, zC9]
 refine tKx (i := 4) (v := .pointer (some ⟨w.heap.size, 0, none⟩)) rfl rfl (by kernel_rfl) (fun _ _ _ h => h) ?_ hH ?_
 ·intro w5 hSw; obtain ⟨s0, s1, s2, s3⟩ := hSw; go_simp
 simp only [zA9, zB9, zC9]
 refine tKx (i := 5) (v := .slice (some ⟨gx, ox, none⟩) N c) rfl rfl (by kernel_rfl) (fun _ _ _ h => h) ?_ hH ?_
 ·intro w5 hSw; obtain ⟨s0, s1, s2, s3⟩ := hSw; go_simp
 simp only [zA9, zB9, zC9]
 refine tKx (i := 6) (v := .int .i64 ((A : Int))) rfl rfl (by kernel_rfl) (fun _ _ _ h => h) ?_ hH ?_
 ·intro w5 hSw; obtain ⟨s0, s1, s2, s3⟩ := hSw; go_simp
 simp only [zA9, zB9, zC9]
 refine tKx (i := 7) (v := .int .i64 ((A : Int) + 1)) rfl rfl (by kernel_rfl) (fun _ _ _ h => h) ?_ hH ?_
 ·intro w5 hSw; obtain ⟨s0, s1, s2, s3⟩ := hSw; go_simp
 simp only [zA9, zB9, zC9]
 refine tKx (i := 8) (v := .slice VX (N - (A + 1)) (c - (A + 1))) rfl rfl (by kernel_rfl) (fun _ _ _ h => h) ?_ hH ?_
 ·intro w5 hSw
  obtain ⟨s0, s1, s2, s3⟩ := hSw
  have hv := HVX.out
  by_cases hcb : c = A + 1
  ·rw [if_pos hcb] at hv; rw [hv]; go_simp
  ·rw [if_neg hcb] at hv; rw [hv]; go_simp
 simp only [zA9, zB9, zC9]
 have KB := mkHid ((Below.refl (w.heap.size + 1 + 1) w1).drew)
 replace KF := mkHid (KF.out.below (Below.refl _ w1).drew)
 replace RC := mkHid (show w1.drew.heap[(w.heap.size + 1 + 1)]? = _ from RC.out)
 generalize hW0 : w1.drew = W0 at KB KF RC hH ⊢
 refine wpAnyH_ready (rs := [9]) (by kernel_rfl) (by simp) ?_
 refine AllReadyH.cons rfl (fun K hK => ?_) AllReadyH.nil
 ·go_simp
  refine hK.out _ _ (KS.out _ (KB.out.alloc (Nat.le_trans KM.out KB.out.size) _)) (fun hH => ?_)
  clear hK K
  have hb := (Below.refl W0.heap.size W0).alloc (Nat.le_refl _) (.cells #[.slice (some ⟨gx, ox, none⟩) A c, .slice VX (N - (A + 1)) (c - (A + 1))] 57)
  replace KF := mkHid (KF.out.below hb)
  replace RC := mkHid ((hb.block _ (lt_of_heap RC.out)).trans RC.out)
  have P1 : Hid (pcsAt (W0.alloc (.cells #[.slice (some ⟨gx, ox, none⟩) A c, .slice VX (N - (A + 1)) (c - (A + 1))] 57)) W0.heap.size [⟨some ⟨gx, ox, none⟩, A, c, (fl emE n.es).take (A * 2)⟩, ⟨VX, N - (A + 1), c - (A + 1), (fl emE n.es).drop ((A + 1) * 2)⟩]) := mkHid (pcs_new W0 [⟨some ⟨gx, ox, none⟩, A, c, (fl emE n.es).take (A * 2)⟩, ⟨VX, N - (A + 1), c - (A + 1), (fl emE n.es).drop ((A + 1) * 2)⟩] 57)
  replace KB := mkHid (KB.out.trans (hb.mono (Nat.le_trans KM.out KB.out.size)))
  clear hb
  generalize W0.alloc (.cells #[.slice (some ⟨gx, ox, none⟩) A c, .slice VX (N - (A + 1)) (c - (A + 1))] 57) = W1 at KB KF P1 RC hH ⊢
  refine wpAnyH_ready (rs := [10]) (by kernel_rfl) (by simp) ?_
  refine AllReadyH.cons rfl (fun K hK => ?_) AllReadyH.nil
  ·go_simp
   go_at_call 52
   refine (CE.out _ _ KB.out P1.out).mono ?_
   rintro e W2 ⟨p1, c1, rfl, k1, _, hb⟩
   go_wp2_with fail
   refine hK.out _ _ (KS.out _ (KB.out.trans (hb.mono (Nat.le_trans KM.out KB.out.size)))) (fun hH => ?_)
   clear hK K
   clear P1
   replace KF := mkHid (KF.out.below hb)
   replace RC := mkHid ((hb.block _ (lt_of_heap RC.out)).trans RC.out)
   have N1 := mkHid (k1.lower KB.out.size)
   replace KB := mkHid (KB.out.trans (hb.mono (Nat.le_trans KM.out KB.out.size)))
   clear hb
   refine tKx (i := 11) (v := .agg #[.slice p1 n1 c1, .slice none 0 0]) rfl rfl (by kernel_rfl) (fun _ _ _ h => h) ?_ hH ?_
   ·intro w5 hSw; obtain ⟨s0, s1, s2, s3⟩ := hSw; go_simp
   simp only [zA9, zB9, zC9]
   refine wpAnyH_ready (rs := [12]) (by kernel_rfl) (by simp) ?_
   refine AllReadyH.cons rfl (fun K hK => ?_) AllReadyH.nil
   ·have q0 : W2.cell? ⟨(w.heap.size + 1 + 1), 0, none⟩ = some (.slice none 0 0) := (cell_of_block RC.out 0).trans rfl
    have q1 : W2.cell? ⟨(w.heap.size + 1 + 1), 1, none⟩ = some (.slice none 0 0) := (cell_of_block RC.out 1).trans rfl
    have y0 := unfrozen_of_block RC.out 0
    have y1 := unfrozen_of_block RC.out 1
    go_simp
    refine hK.out _ _ (KS.out _ (below_set (below_set KB.out ⟨(w.heap.size + 1 + 1), 0, none⟩ (.slice p1 n1 c1) (Nat.le_refl _)) ⟨(w.heap.size + 1 + 1), 1, none⟩ (.slice none 0 0) (Nat.le_refl _))) (fun hH => ?_)
    clear hK K
    refine wpAnyH_done (by kernel_rfl) ?_ _
    refine NoPanic.normal ?_
    have FN := FIN.out W2 _ _ KB.out N1.out
    clear N1 KB RC KS hH KF
    go_wp2_with fail
    refine bodyPost_ret (v := .agg #[.slice p1 n1 c1, .slice none 0 0]) (by simp [results, Tryz.results27, go_sem, q0, q1]) rfl ?_
    exact FN
set_option maxHeartbeats 8000000 in
set_option maxRecDepth 1000000 in
theorem drop_inner_off (T : Nat → Prop) (d : Nat) (n k k' : Nd Em) (m : Em) (px : Option Addr) (cx lo hi : Nat) (v1 v2 : Value) (w : World) (hT : ∀ b, w.heap.size ≤ b → T b) (hn : ndIn T w (d + 1) n v1 v2) (hm : EnOff w px m.e) (hw : n.wf (d + 1) lo hi) (z0 : 1 ≤ n.es.length) (z1 : n.es.length ≤ 40) (hri : Rise ltM n.es) (hk : n.ks[place ltM m n.es]? = some k) (hwk : k'.wf d 7 16) (hno : hereB m.e n.es = false)
  (IH : ∀ (T : Nat → Prop) (w : World) (h1 h2 : Value), (∀ b, w.heap.size ≤ b → T b) → ndIn T w d k h1 h2 → EnOff w px m.e → Calls Tryz.prog 27 #[.agg #[h1, h2], enV px cx m.e] w fun en w' => NdQ T w d k' en w') :
  Calls Tryz.prog 27 #[.agg #[v1, v2], enV px cx m.e] w fun en w' => NdQ T w (d + 1) (n.lessK (place ltM m n.es) k') en w' := by
 have zk := wf_klen hw
 obtain ⟨gx, ox, c, rfl, hc⟩ := hn.some.1 (by omega)
 obtain ⟨gy, oy, e, rfl, he⟩ := hn.some.2 (by omega)
 obtain ⟨a1, a2, a3, b1, b2, b3, q1, q2, q3, q4⟩ := hn.kid hk
 obtain ⟨N, hN⟩ : ∃ N, N = n.es.length := ⟨_, rfl⟩
 obtain ⟨K, hK⟩ : ∃ K, K = n.ks.length := ⟨_, rfl⟩
 rw [← hN, ← hK] at hn ⊢
 obtain ⟨lx, hlx⟩ : ∃ lx, lx = m.e.key.length := ⟨_, rfl⟩
 obtain ⟨ix, hix⟩ : ∃ ix, ix = m.e.id := ⟨_, rfl⟩
 unfold enV
 rw [← hlx, ← hix]
 obtain ⟨w0, hw0⟩ : ∃ w0, w0 = ((w.alloc (.cells #[.slice (some ⟨gx, ox, none⟩) N c, .slice (some ⟨gy, oy, none⟩) K e] 60)).alloc (.cells #[.slice px lx cx, .int .u64 ix] 65)).alloc (.cells #[.slice none 0 0, .slice none 0 0] 60) := ⟨_, rfl⟩
 obtain ⟨d0, d1, d2, bb, bs⟩ := bx3 w (.cells #[.slice (some ⟨gx, ox, none⟩) N c, .slice (some ⟨gy, oy, none⟩) K e] 60) (.cells #[.slice px lx cx, .int .u64 ix] 65) (.cells #[.slice none 0 0, .slice none 0 0] 60)
 rw [← hw0] at d0 d1 d2 bb bs
 obtain ⟨A, hA⟩ : ∃ A, A = place ltM m n.es := ⟨_, rfl⟩
 have hAl : A ≤ n.es.length := by rw [hA]; exact place_le _ _ _
 obtain ⟨HE, hHE⟩ : ∃ HE, HE = hereB m.e n.es := ⟨_, rfl⟩
 have BSF : Hid (Calls Tryz.prog 50 #[.slice (some ⟨gx, ox, none⟩) N c, .agg #[.slice px lx cx, .int .u64 ix], .func (.func 51) #[] #[]] w0 fun en w' => en = .returned (.tuple #[.int .i64 (A : Int), .bool HE]) ∧ Below w0.heap.size w0 w') := by
  rw [hA, hHE, hlx, hix]
  exact bsf_off T n.es _ m.e _ cx w0 (hn.ent.keeps (Keeps.of_below bb)) (hm.below bb) hri (by omega)
 have BB := mkHid bb
 have BX := mkHid (And.intro d0 (And.intro d1 d2))
 have BSZ := mkHid bs
 rw [← hA] at q1 q2 hk ⊢
 have hH0 : HE = false := hHE.trans hno
 subst hH0
 have Q := mkHid (And.intro q1 (And.intro q2 q4))
 have hkl := wf_len hwk
 have PC : Hid (∀ W, Below w.heap.size w W → w0.heap.size ≤ W.heap.size → Calls Tryz.prog 27 #[.agg #[.slice a1 a2 a3, .slice b1 b2 b3], .agg #[.slice px lx cx, .int .u64 ix]] W fun en w' => NdS (fun b => T b ∧ b ≠ (w.heap.size + 1 + 1)) W d k' en w') := fun W hW hs => by
  have := (IH (fun b => T b ∧ b ≠ (w.heap.size + 1 + 1)) W _ _ (fun b hb => ⟨hT b (by omega), by omega⟩) ((q3.off (by omega)).below hW) (hm.below hW)).mono (fun _ _ h => h.toS)
  unfold enV at this
  rw [← hlx, ← hix] at this
  exact this
 have WC : Hid (∀ W p1 n1 c1 p2 n2 c2, Below w.heap.size w W → w0.heap.size ≤ W.heap.size → ndIn (fun b => T b ∧ b ≠ (w.heap.size + 1 + 1)) W d k' (.slice p1 n1 c1) (.slice p2 n2 c2) → Calls Tryz.prog 56 #[.agg #[.slice (some ⟨gx, ox, none⟩) N c, .slice (some ⟨gy, oy, none⟩) K e], .int .i64 (A : Int), .agg #[.slice p1 n1 c1, .slice p2 n2 c2]] W fun en w' => NdS (fun b => T b ∧ b ≠ (w.heap.size + 1 + 1)) W (d + 1) (n.lessK A k') en w') := fun W p1 n1 c1 p2 n2 c2 hW hs hj =>
  (withLess_any (fun b => T b ∧ b ≠ (w.heap.size + 1 + 1)) d n k' A _ _ _ _ _ _ _ _ W (fun b hb => ⟨hT b (by omega), by omega⟩) ((hn.off (by omega)).below hW) hj hw hwk z0 z1 (by omega) hAl).mono (fun _ _ h => h.toS)
 have HM : Hid (w.heap.size ≤ (w.heap.size + 1 + 1)) := by show _ ≤ _; omega
 have i1 : (0 : Int) ≤ (A : Int) := by omega
 have i2 : (A : Int) < (K : Int) := by omega
 have i5 : A ≤ 100 := by omega
 have i6 : ¬ K = 0 := by omega
 have i7 : ((K : Int) == 0) = false := by rw [beq_eq_false_iff_ne]; omega
 have HW0 := mkHid hw0
 clear hT hn z0 z1 hri hm hw hk hwk IH zk hc he q1 q2 q3 q4 hN hK d0 d1 d2 bb bs hw0 hA hAl hkl hlx hix hno hHE
 go_enter Tryz.func27, Tryz.ntmps27
 go_wp2_with fail
 rw [← HW0.out]
 clear HW0
 refine BSF.out.mono ?_
 rintro en w1 ⟨rfl, hb1⟩
 have BW : Hid (Below w.heap.size w w1) := BB.out.trans (hb1.mono BB.out.size)
 have RC : Hid (w1.heap[(w.heap.size + 1 + 1)]? = some (.cells #[.slice none 0 0, .slice none 0 0] 60 (0, 0))) := (hb1.block _ (lt_of_heap BX.out.2.2)).trans BX.out.2.2
 have KM : Hid ((w.heap.size + 1 + 1) ≤ w1.heap.size) := by have := BSZ.out; have := hb1.size; show _ ≤ _; omega
 have KF : Hid (Kept w1 w1) := Below.refl _ _
 have UP : Hid (∀ W, Below (w.heap.size + 1 + 1) w1 W → Below w.heap.size w W) := fun W hb => BW.out.trans (hb.mono (by omega))
 have KS : Hid (∀ w', Below (w.heap.size + 1 + 1) w1 w' → w'.cell? ⟨w.heap.size, 0, none⟩ = some (.slice (some ⟨gx, ox, none⟩) N c) ∧ w'.cell? ⟨w.heap.size, 1, none⟩ = some (.slice (some ⟨gy, oy, none⟩) K e) ∧ w'.cell? ⟨w.heap.size + 1, 0, none⟩ = some (.slice px lx cx) ∧ w'.cell? ⟨w.heap.size + 1, 1, none⟩ = some (.int .u64 ix) ∧ w'.cell? ⟨gy, oy + A * 2, none⟩ = some (.slice a1 a2 a3) ∧ w'.cell? ⟨gy, oy + A * 2 + 1, none⟩ = some (.slice b1 b2 b3)) := fun w' hb => by
  have e0 : w1.heap[w.heap.size]? = _ := (hb1.block _ (lt_of_heap BX.out.1)).trans BX.out.1
  have e1 : w1.heap[w.heap.size + 1]? = _ := (hb1.block _ (lt_of_heap BX.out.2.1)).trans BX.out.2.1
  have c0 : ∀ o, w'.cell? ⟨w.heap.size, o, none⟩ = w1.cell? ⟨w.heap.size, o, none⟩ := fun o => hb.cell (p := ⟨w.heap.size, o, none⟩) (by show w.heap.size < _; omega)
  have c1 : ∀ o, w'.cell? ⟨w.heap.size + 1, o, none⟩ = w1.cell? ⟨w.heap.size + 1, o, none⟩ := fun o => hb.cell (p := ⟨w.heap.size + 1, o, none⟩) (by show w.heap.size + 1 < _; omega)
  have c2 : ∀ o, w'.cell? ⟨gy, o, none⟩ = w.cell? ⟨gy, o, none⟩ := fun o => (UP.out w' hb).cell (p := ⟨gy, o, none⟩) Q.out.2.2
  have q1 := Q.out.1
  have q2 := Q.out.2.1
  exact ⟨(c0 0).trans ((cell_of_block e0 0).trans rfl), (c0 1).trans ((cell_of_block e0 1).trans rfl), (c1 0).trans ((cell_of_block e1 0).trans rfl), (c1 1).trans ((cell_of_block e1 1).trans rfl), (c2 _).trans q1, (c2 _).trans q2⟩
 replace PC : Hid (∀ W, Below (w.heap.size + 1 + 1) w1 W → Calls Tryz.prog 27 #[.agg #[.slice a1 a2 a3, .slice b1 b2 b3], .agg #[.slice px lx cx, .int .u64 ix]] W fun en w' => NdS (fun b => T b ∧ b ≠ (w.heap.size + 1 + 1)) W d k' en w') := fun W hW => PC.out W (UP.out W hW) (Nat.le_trans hb1.size hW.size)
 replace WC : Hid (∀ W p1 n1 c1 p2 n2 c2, Below (w.heap.size + 1 + 1) w1 W → ndIn (fun b => T b ∧ b ≠ (w.heap.size + 1 + 1)) W d k' (.slice p1 n1 c1) (.slice p2 n2 c2) → Calls Tryz.prog 56 #[.agg #[.slice (some ⟨gx, ox, none⟩) N c, .slice (some ⟨gy, oy, none⟩) K e], .int .i64 (A : Int), .agg #[.slice p1 n1 c1, .slice p2 n2 c2]] W fun en w' => NdS (fun b => T b ∧ b ≠ (w.heap.size + 1 + 1)) W (d + 1) (n.lessK A k') en w') := fun W p1 n1 c1 p2 n2 c2 hW hj => WC.out W p1 n1 c1 p2 n2 c2 (UP.out W hW) (Nat.le_trans hb1.size hW.size) hj
 clear hb1 BSF
 have f1 := (KS.out w1 (Below.refl _ _)).2.1
 go_wp2_with fail
 clear f1
 refine wp_region_noPanic ?_
 refine wp_region_held_drew (S := fun w' : World => w'.cell? ⟨w.heap.size, 0, none⟩ = some (.slice (some ⟨gx, ox, none⟩) N c) ∧ w'.cell? ⟨w.heap.size, 1, none⟩ = some (.slice (some ⟨gy, oy, none⟩) K e) ∧ w'.cell? ⟨w.heap.size + 1, 0, none⟩ = some (.slice px lx cx) ∧ w'.cell? ⟨w.heap.size + 1, 1, none⟩ = some (.int .u64 ix) ∧ w'.cell? ⟨gy, oy + A * 2, none⟩ = some (.slice a1 a2 a3) ∧ w'.cell? ⟨gy, oy + A * 2 + 1, none⟩ = some (.slice b1 b2 b3)) (by kernel_rfl) (KS.out _ (Below.refl _ _).drew) (fun hH => ?_)
 refine tKx (i := 0) (v := .agg #[.slice (some ⟨gx, ox, none⟩) N c, .slice (some ⟨gy, oy, none⟩) K e]) rfl rfl (by kernel_rfl) (fun _ _ _ h => h) ?_ hH ?_
 ·intro w5 hSw; obtain ⟨s0, s1, s2, s3, s4, s5⟩ := hSw; go_simp
 simp only [zA9, zB9, zC9]
 refine tKx (i := 1) (v := .int .i64 ((A : Int))) rfl rfl (by kernel_rfl) (fun _ _ _ h => h) ?_ hH ?_
 ·intro w5 hSw; obtain ⟨s0, s1, s2, s3, s4, s5⟩ := hSw; go_simp
 simp only [zA9, zB9, zC9]
 refine tKx (i := 2) (v := .pointer (some ⟨w.heap.size, 1, none⟩)) rfl rfl (by kernel_rfl) (fun _ _ _ h => h) ?_ hH ?_
 ·intro w5 hSw; obtain ⟨s0, s1, s2, s3, s4, s5⟩ := hSw; go_simp
 simp only [zA9, zB9, zC9]
 refine tKx (i := 3) (v := .slice (some ⟨gy, oy, none⟩) K e) rfl rfl (by kernel_rfl) (fun _ _ _ h => h) ?_ hH ?_
 ·intro w5 hSw; obtain ⟨s0, s1, s2, s3, s4, s5⟩ := hSw; go_simp
 simp only [zA9, zB9, zC9]
 refine tKx (i := 4) (v := .int .i64 ((A : Int))) rfl rfl (by kernel_rfl) (fun _ _ _ h => h) ?_ hH ?_
 ·intro w5 hSw; obtain ⟨s0, s1, s2, s3, s4, s5⟩ := hSw; go_simp
 simp only [zA9, zB9, zC9]
 refine tKx (i := 5) (v := .pointer (some ⟨gy, oy + A * 2, none⟩)) rfl rfl (by kernel_rfl) (fun _ _ _ h => h) ?_ hH ?_
 ·intro w5 hSw; obtain ⟨s0, s1, s2, s3, s4, s5⟩ := hSw; go_simp
 simp only [zA9, zB9, zC9]
 refine tKx (i := 6) (v := .agg #[.slice a1 a2 a3, .slice b1 b2 b3]) rfl rfl (by kernel_rfl) (fun _ _ _ h => h) ?_ hH ?_
 ·intro w5 hSw; obtain ⟨s0, s1, s2, s3, s4, s5⟩ := hSw; go_simp
 simp only [zA9, zB9, zC9]
 refine tKx (i := 7) (v := .agg #[.slice px lx cx, .int .u64 ix]) rfl rfl (by kernel_rfl) (fun _ _ _ h => h) ?_ hH ?_
 ·intro w5 hSw; obtain ⟨s0, s1, s2, s3, s4, s5⟩ := hSw; go_simp
 simp only [zA9, zB9, zC9]
 have KB := mkHid ((Below.refl (w.heap.size + 1 + 1) w1).drew)
 replace KF := mkHid (KF.out.below (Below.refl _ w1).drew)
 replace RC := mkHid (show w1.drew.heap[(w.heap.size + 1 + 1)]? = _ from RC.out)
 generalize hW0 : w1.drew = W0 at KB KF RC hH ⊢
 refine wpAnyH_ready (rs := [8]) (by kernel_rfl) (by simp) ?_
 refine AllReadyH.cons rfl (fun K hK => ?_) AllReadyH.nil
 ·go_simp
  go_at_call 27
  refine (PC.out _ KB.out).mono ?_
  rintro e W1 ⟨p1, n1, c1, p2, n2, c2, rfl, k1, hb⟩
  go_wp2_with fail
  refine hK.out _ _ (KS.out _ (KB.out.trans (hb.mono (Nat.le_trans KM.out KB.out.size)))) (fun hH => ?_)
  clear hK K
  replace KF := mkHid (KF.out.below hb)
  replace RC := mkHid ((hb.block _ (lt_of_heap RC.out)).trans RC.out)
  have JN := mkHid (k1)
  replace KB := mkHid (KB.out.trans (hb.mono (Nat.le_trans KM.out KB.out.size)))
  clear hb
  refine wpAnyH_ready (rs := [9]) (by kernel_rfl) (by simp) ?_
  refine AllReadyH.cons rfl (fun K hK => ?_) AllReadyH.nil
  ·go_simp
   go_at_call 56
   refine (WC.out _ _ _ _ _ _ _ KB.out JN.out).mono ?_
   rintro e W2 ⟨p3, n3, c3, p4, n4, c4, rfl, k2, hb⟩
   go_wp2_with fail
   refine hK.out _ _ (KS.out _ (KB.out.trans (hb.mono (Nat.le_trans KM.out KB.out.size)))) (fun hH => ?_)
   clear hK K
   clear JN
   replace KF := mkHid (KF.out.below hb)
   replace RC := mkHid ((hb.block _ (lt_of_heap RC.out)).trans RC.out)
   have WN := mkHid (k2)
   replace KB := mkHid (KB.out.trans (hb.mono (Nat.le_trans KM.out KB.out.size)))
   clear hb
   refine wpAnyH_ready (rs := [10]) (by kernel_rfl) (by simp) ?_
   refine AllReadyH.cons rfl (fun K hK => ?_) AllReadyH.nil
   ·have q0 : W2.cell? ⟨(w.heap.size + 1 + 1), 0, none⟩ = some (.slice none 0 0) := (cell_of_block RC.out 0).trans rfl
    have q1 : W2.cell? ⟨(w.heap.size + 1 + 1), 1, none⟩ = some (.slice none 0 0) := (cell_of_block RC.out 1).trans rfl
    have y0 := unfrozen_of_block RC.out 0
    have y1 := unfrozen_of_block RC.out 1
    go_simp
    refine hK.out _ _ (KS.out _ (below_set (below_set KB.out ⟨(w.heap.size + 1 + 1), 0, none⟩ (.slice p3 n3 c3) (Nat.le_refl _)) ⟨(w.heap.size + 1 + 1), 1, none⟩ (.slice p4 n4 c4) (Nat.le_refl _))) (fun hH => ?_)
    clear hK K
    refine wpAnyH_done (by kernel_rfl) ?_ _
    refine NoPanic.normal ?_
    have FN := NdQ.ret (T := T) (w := w) HM.out WN.out (UP.out _ KB.out)
    clear WN KB RC KS hH KF
    go_wp2_with fail
    refine bodyPost_ret (v := .agg #[.slice p3 n3 c3, .slice p4 n4 c4]) (by simp [results, Tryz.results27, go_sem, q0, q1]) rfl ?_
    exact FN
end Go.Proofs.YtclcajnodoifjaaGreatDoor

