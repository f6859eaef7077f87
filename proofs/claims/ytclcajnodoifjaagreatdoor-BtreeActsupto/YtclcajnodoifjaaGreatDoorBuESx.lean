/-
 The walk of btree.with: the kid goes in as one.
-/
import Derived.Test.YtclcajnodoifjaaGreatDoorBuDSx
namespace Go.Proofs.YtclcajnodoifjaaGreatDoor
open Go.RowKit Go.Shelf Go.Joins Go.Maps
set_option maxRecDepth 100000

/-- where the elements from one on begin -/
theorem lst_ok {sz b g o n c : Nat} {w : World} {xs : List Value} {V : Option Addr} (h : Pc.ok sz w ⟨some ⟨g, o, none⟩, n, c, xs⟩) (hn : n ≤ c) (hV : V = if c = b then some ⟨g, o, none⟩ else some ⟨g, o + b * sz, none⟩) : Pc.ok sz w ⟨V, n - b, c - b, xs.drop (b * sz)⟩ := by
 have hl := h.lst (b := b)
 by_cases hc : c = b
 ·rw [if_pos hc] at hV
  refine ⟨hl.len, (fun e => by rw [hV] at e; cases e), fun ad e => ?_, hl.one⟩
  simp only at e
  rw [hV] at e
  cases e
  obtain ⟨g', o', e1, h1, _⟩ := h.at_ _ rfl
  cases e1
  refine ⟨g, o, rfl, h1, fun j u hj => ?_⟩
  have hz : xs.drop (b * sz) = [] := List.eq_nil_of_length_eq_zero (by
   have := hl.len
   simp only [Pc.lst] at this
   rw [this, show n - b = 0 by omega, Nat.zero_mul])
  simp only at hj
  rw [hz] at hj
  simp at hj
 ·rw [if_neg hc] at hV
  have e : (Pc.lst sz b ⟨some ⟨g, o, none⟩, n, c, xs⟩) = ⟨V, n - b, c - b, xs.drop (b * sz)⟩ := by
   unfold Pc.lst
   rw [hV, Option.map_some, add_plain]
  rw [e] at hl
  exact hl
theorem pc_some {sz : Nat} {w : World} {p : Option Addr} {n c : Nat} {xs : List Value} (h : Pc.ok sz w ⟨p, n, c, xs⟩) (hn : 0 < n) : ∃ g o, p = some ⟨g, o, none⟩ := by
 cases p with
 | none => have := (h.nil rfl).1; simp at this; omega
 | some ad =>
  obtain ⟨g, off, rfl, _, _⟩ := h.at_ ad rfl
  exact ⟨g, off, rfl⟩
theorem pc_nil (sz : Nat) (w : World) : Pc.ok sz w ⟨none, 0, 0, []⟩ := ⟨by simp, fun _ => ⟨rfl, rfl⟩, (fun ad e => by cases e), (fun u hu => by cases hu)⟩
set_option maxHeartbeats 8000000 in
set_option maxRecDepth 1000000 in
theorem with_small (T : Nat → Prop) (d : Nat) (n kid : Nd Em) (a b : Nat) (v1 v2 k1 k2 : Value) (w : World) (hT : ∀ b, w.heap.size ≤ b → T b) (hn : ndIn T w (d + 1) n v1 v2) (hk : ndIn T w d kid k1 k2) (z0 : 1 ≤ n.es.length) (z1 : n.es.length ≤ 1000) (z3 : n.ks.length = n.es.length + 1) (hab : a ≤ b) (hbn : b ≤ n.es.length) (h16 : kid.es.length ≤ 16) :
  Calls Tryz.prog 53 #[.agg #[v1, v2], .int .i64 (a : Int), .int .i64 ((b : Int) + 1), .agg #[k1, k2]] w fun en w' => NdQ T w (d + 1) (n.with1 a (b + 1) kid) en w' := by
 obtain ⟨⟨p, N, c, xs⟩, e1, e2, e3, e4, e5⟩ := hn.ent.pc
 obtain ⟨⟨q, K, e, ys⟩, j, g1, g2, g3, g4, g5, g6, g7⟩ := hn.kids
 simp only at e2 e3 e5 g2 g3 g5
 subst e3 g3
 have hK : K = N + 1 := by rw [g2, e2]; exact z3
 subst hK
 obtain ⟨gx, ox, rfl⟩ := pc_some e4 (by omega)
 obtain ⟨gy, oy, rfl⟩ := pc_some g4 (by omega)
 obtain ⟨VX, hVX⟩ : ∃ V, V = if c = b then some (⟨gx, ox, none⟩ : Addr) else some ⟨gx, ox + b * 2, none⟩ := ⟨_, rfl⟩
 obtain ⟨VY, hVY⟩ : ∃ V, V = if e = b + 1 then some (⟨gy, oy, none⟩ : Addr) else some ⟨gy, oy + (b + 1) * 2, none⟩ := ⟨_, rfl⟩
 have HVX := mkHid hVX
 have HVY := mkHid hVY
 have x1 := e4.fst (a := a) (by simp only; omega)
 have x2 := lst_ok (b := b) e4 e5 hVX
 have y1 := g4.fst (a := a) (by simp only; omega)
 have y2 := lst_ok (b := b + 1) g4 g5 hVY
 rw [Nat.add_sub_add_right] at y2
 obtain ⟨⟨kp, kn, kc, kxs⟩, l1, l2, l3, l4, l5⟩ := hk.ent.pc
 obtain ⟨⟨kq, km, ke, kys⟩, kj, m1, m2, m3, m4, m5, m6, m7⟩ := hk.kids
 simp only [Pc.v] at l1 l2 m1
 subst l1 m1
 obtain ⟨w0, hw0⟩ : ∃ w0, w0 = (((w.alloc (.cells #[.slice (some ⟨gx, ox, none⟩) N c, .slice (some ⟨gy, oy, none⟩) (N + 1) e] 60)).alloc (.cells #[.slice kp kn kc, .slice kq km ke] 60)).alloc (.cells #[.slice none 0 0, .slice none 0 0] 60)).alloc (.cells #[.slice kp kn kc, .slice kq km ke] 60) := ⟨_, rfl⟩
 obtain ⟨b0, b1, b2, b3, bb, bs⟩ := bx4 w (.cells #[.slice (some ⟨gx, ox, none⟩) N c, .slice (some ⟨gy, oy, none⟩) (N + 1) e] 60) (.cells #[.slice kp kn kc, .slice kq km ke] 60) (.cells #[.slice none 0 0, .slice none 0 0] 60) (.cells #[.slice kp kn kc, .slice kq km ke] 60)
 rw [← hw0] at b0 b1 b2 b3 bb bs
 have KS : Hid (∀ w', Below (w.heap.size + 1 + 1) w0 w' → w'.cell? ⟨w.heap.size, 0, none⟩ = some (.slice (some ⟨gx, ox, none⟩) N c) ∧ w'.cell? ⟨w.heap.size, 1, none⟩ = some (.slice (some ⟨gy, oy, none⟩) (N + 1) e)) := fun w' hb => by
  have c0 : ∀ o, w'.cell? ⟨w.heap.size, o, none⟩ = w0.cell? ⟨w.heap.size, o, none⟩ := fun o => hb.cell (p := ⟨w.heap.size, o, none⟩) (by show w.heap.size < _; omega)
  exact ⟨(c0 0).trans ((cell_of_block b0 0).trans rfl), (c0 1).trans ((cell_of_block b0 1).trans rfl)⟩
 have RC := mkHid b2
 have KM : Hid ((w.heap.size + 1 + 1) ≤ w0.heap.size) := by show _ ≤ _; omega
 have PK : Hid (Pc.ok 2 w0 ⟨some ⟨w.heap.size + 1 + 1 + 1, 0, none⟩, 1, 1, [.slice kp kn kc, .slice kq km ke]⟩) := by
  have h1 : w0.heap[w.heap.size + 1 + 1 + 1]? = _ := b3
  refine ⟨rfl, (fun e => by cases e), fun ad he => ?_, (fun u hu => by simp only [List.mem_cons, List.not_mem_nil, or_false] at hu; rcases hu with rfl | rfl <;> rfl)⟩
  cases he
  exact ⟨_, _, rfl, lt_of_heap h1, fun i u hu => by rw [cell_of_block h1]; simpa using hu⟩
 have PP : Hid (Pc.ok 2 w0 ⟨none, 0, 0, []⟩) := pc_nil 2 w0
 have up : ∀ W, Below (w.heap.size + 1 + 1) w0 W → Below w.heap.size w W := fun W hb => bb.trans (hb.mono (by omega))
 obtain ⟨n1, hn1⟩ : ∃ n1, n1 = (n.es.take a ++ n.es.drop b).length := ⟨_, rfl⟩
 obtain ⟨n2, hn2⟩ : ∃ n2, n2 = (n.ks.take a ++ kid :: n.ks.drop (b + 1)).length := ⟨_, rfl⟩
 have CE : Hid (∀ W G, Below (w.heap.size + 1 + 1) w0 W → pcsAt W G [⟨some ⟨gx, ox, none⟩, a, c, (fl emE n.es).take (a * 2)⟩, ⟨none, 0, 0, []⟩, ⟨VX, N - b, c - b, (fl emE n.es).drop (b * 2)⟩] → Pc.ok 2 W ⟨none, 0, 0, []⟩ → Calls Tryz.prog 52 #[.slice (some ⟨G, 0, none⟩) 3 3] W fun en w' => CcN W 65 2 n1 (fl emE (n.es.take a ++ n.es.drop b)) en w') := fun W G hW hp ho => (ConcatEn G 3 _ W (by simp) hp (fun x hx => by
   simp only [List.mem_cons, List.not_mem_nil, or_false] at hx
   rcases hx with rfl | rfl | rfl
   ·exact x1.below (up W hW)
   ·exact ho
   ·exact x2.below (up W hW)) (by simp [sumN]; omega)).mono (fun en w' h => cc_nw h (by rw [hn1, List.length_append, List.length_take, List.length_drop]; simp [sumN]; omega) (by simp [catX, fl_take emE_len, fl_drop emE_len, fl_app]))
 have CN : Hid (∀ W G, Below (w.heap.size + 1 + 1) w0 W → pcsAt W G [⟨some ⟨gy, oy, none⟩, a, e, (fl hdE j).take (a * 2)⟩, ⟨some ⟨w.heap.size + 1 + 1 + 1, 0, none⟩, 1, 1, [.slice kp kn kc, .slice kq km ke]⟩, ⟨VY, N - b, e - (b + 1), (fl hdE j).drop ((b + 1) * 2)⟩] → Pc.ok 2 W ⟨some ⟨w.heap.size + 1 + 1 + 1, 0, none⟩, 1, 1, [.slice kp kn kc, .slice kq km ke]⟩ → Calls Tryz.prog 81 #[.slice (some ⟨G, 0, none⟩) 3 3] W fun en w' => CcN W 60 2 n2 (fl hdE (j.take a ++ (.slice kp kn kc, .slice kq km ke) :: j.drop (b + 1))) en w') := fun W G hW hp ho => (ConcatNd G 3 _ W (by simp) hp (fun x hx => by
   simp only [List.mem_cons, List.not_mem_nil, or_false] at hx
   rcases hx with rfl | rfl | rfl
   ·exact y1.below (up W hW)
   ·exact ho
   ·exact y2.below (up W hW)) (by simp [sumN]; omega)).mono (fun en w' h => cc_nw h (by rw [hn2, List.length_append, List.length_cons, List.length_take, List.length_drop]; simp [sumN]; omega) (by simp [catX, fl_take hdE_len, fl_drop hdE_len, fl_app, fl_cons, hdE]))
 have FIN : Hid (∀ W p1 c1 p2 c2, Below (w.heap.size + 1 + 1) w0 W → Nw w0 W 65 2 (.slice p1 n1 c1) n1 (fl emE (n.es.take a ++ n.es.drop b)) → Nw w0 W 60 2 (.slice p2 n2 c2) n2 (fl hdE (j.take a ++ (.slice kp kn kc, .slice kq km ke) :: j.drop (b + 1))) → (n2 = 0 → p2 = none ∧ c2 = 0) → NdQ T w (d + 1) (n.with1 a (b + 1) kid) (.returned (.agg #[.slice p1 n1 c1, .slice p2 n2 c2])) ((W.setCell ⟨(w.heap.size + 1 + 1), 0, none⟩ (.slice p1 n1 c1)).setCell ⟨(w.heap.size + 1 + 1), 1, none⟩ (.slice p2 n2 c2))) := fun W p1 c1 p2 c2 hW k1 k2 zz => by
  subst hn1 hn2
  refine fin_node (wm := w) (by omega) (up W hW) (up W hW) (fun q hq => ?_) (((g6.take a).app (KidsH.cons (x := (.slice kp kn kc, .slice kq km ke)) hk (g6.drop (b + 1)))).off (by omega)) (fun e => by omega) (fun b hb => ⟨hT b (by omega), by omega⟩) k1 k2 (fun e => by obtain ⟨rfl, rfl⟩ := zz e; rw [e])
  rcases List.mem_append.1 hq with hq | hq
  ·exact (hn.ent.2 q (List.mem_of_mem_take hq)).off (by omega)
  ·exact (hn.ent.2 q (List.mem_of_mem_drop hq)).off (by omega)
 have i1 : (0 : Int) ≤ (a : Int) := by omega
 have i2 : (a : Int) ≤ (c : Int) := by omega
 have i3 : (b : Int) ≤ (N : Int) := by omega
 have i4 : (N : Int) ≤ (c : Int) := by omega
 have i5 : (a : Int) ≤ (e : Int) := by omega
 have i6 : (b : Int) + 1 ≤ (N : Int) + 1 := by omega
 have i7 : (N : Int) + 1 ≤ (e : Int) := by omega
 have i8 : (0 : Int) ≤ (b : Int) := by omega
 have i9 : b ≤ 1000 := by omega
 have i10 : (0 : Int) ≤ (b : Int) + 1 := by omega
 have i11 : IntKind.i64.wrap (b : Int) = (b : Int) := by simp [IntKind.wrap, IntKind.bits, IntKind.signed]; omega
 have i16 : ¬ ((kn : Int) > 16) := by omega
 have HW0 := mkHid hw0
 rw [e1, g1]
 unfold Pc.v
 clear hn1 hn2 hT hn hk e1 e2 e4 e5 g1 g2 g4 g5 g6 g7 up b0 b1 b2 b3 bb bs z0 z1 z3 hw0 x1 x2 y1 y2 hVX hVY l2 l3 l4 l5 m2 m3 m4 m5 m6 m7 hab hbn h16
 go_enter Tryz.func53, Tryz.ntmps53
 go_wp2_with fail
 rw [← HW0.out]
 clear HW0
 refine wp_region_noPanic ?_
 refine wp_region_held_drew (S := fun w' : World => w'.cell? ⟨w.heap.size, 0, none⟩ = some (.slice (some ⟨gx, ox, none⟩) N c) ∧ w'.cell? ⟨w.heap.size, 1, none⟩ = some (.slice (some ⟨gy, oy, none⟩) (N + 1) e)) (by kernel_rfl) (KS.out _ (Below.refl _ _).drew) (fun hH => ?_)
 refine tKx (i := 0) (v := .pointer (some ⟨w.heap.size, 0, none⟩)) rfl rfl (by kernel_rfl) (fun _ _ _ h => h) ?_ hH ?_
 ·intro w5 hSw; obtain ⟨s0, s1⟩ := hSw; go_simp
 simp only [zA9, zB9, zC9]
 refine tKx (i := 1) (v := .slice (some ⟨gx, ox, none⟩) N c) rfl rfl (by kernel_rfl) (fun _ _ _ h => h) ?_ hH ?_
 ·intro w5 hSw; obtain ⟨s0, s1⟩ := hSw; go_simp
 simp only [zA9, zB9, zC9]
 refine tKx (i := 2) (v := .int .i64 ((a : Int))) rfl rfl (by kernel_rfl) (fun _ _ _ h => h) ?_ hH ?_
 ·intro w5 hSw; obtain ⟨s0, s1⟩ := hSw; go_simp
 simp only [zA9, zB9, zC9]
 refine tKx (i := 3) (v := .slice (some ⟨gx, ox, none⟩) a c) rfl rfl (by kernel_rfl) (fun _ _ _ h => h) ?_ hH ?_
 ·intro w5 hSw; obtain ⟨s0, s1⟩ := hSw; go_simp
 simp only [zA9, zB9, zC9]
 refine tKx (i := 4) (v := .slice none 0 0) rfl rfl (by kernel_rfl) (fun _ _ _ h => h) ?_ hH ?_
 ·intro w5 hSw; obtain ⟨s0, s1⟩ := hSw; go_simp
 simp only [zA9, zB9, zC9]
 refine tKx (i := 5) (v := .pointer (some ⟨w.heap.size, 0, none⟩)) rfl rfl (by kernel_rfl) (fun _ _ _ h => h) ?_ hH ?_
 ·intro w5 hSw; obtain ⟨s0, s1⟩ := hSw; go_simp
 simp only [zA9, zB9, zC9]
 refine tKx (i := 6) (v := .slice (some ⟨gx, ox, none⟩) N c) rfl rfl (by kernel_rfl) (fun _ _ _ h => h) ?_ hH ?_
 ·intro w5 hSw; obtain ⟨s0, s1⟩ := hSw; go_simp
 simp only [zA9, zB9, zC9]
 refine tKx (i := 7) (v := .int .i64 ((b : Int) + 1)) rfl rfl (by kernel_rfl) (fun _ _ _ h => h) ?_ hH ?_
 ·intro w5 hSw; obtain ⟨s0, s1⟩ := hSw; go_simp
 simp only [zA9, zB9, zC9]
 refine tKx (i := 8) (v := .int .i64 ((b : Int))) rfl rfl (by kernel_rfl) (fun _ _ _ h => h) ?_ hH ?_
 ·intro w5 hSw; obtain ⟨s0, s1⟩ := hSw; go_simp
 simp only [zA9, zB9, zC9]
 refine tKx (i := 9) (v := .slice VX (N - b) (c - b)) rfl rfl (by kernel_rfl) (fun _ _ _ h => h) ?_ hH ?_
 ·intro w5 hSw
  obtain ⟨s0, s1⟩ := hSw
  have hv := HVX.out
  by_cases hcb : c = b
  ·rw [if_pos hcb] at hv; rw [hv]; go_simp
  ·rw [if_neg hcb] at hv; rw [hv]; go_simp
 simp only [zA9, zB9, zC9]
 refine tKx (i := 12) (v := .pointer (some ⟨w.heap.size, 1, none⟩)) rfl rfl (by kernel_rfl) (fun _ _ _ h => h) ?_ hH ?_
 ·intro w5 hSw; obtain ⟨s0, s1⟩ := hSw; go_simp
 simp only [zA9, zB9, zC9]
 refine tKx (i := 13) (v := .slice (some ⟨gy, oy, none⟩) (N + 1) e) rfl rfl (by kernel_rfl) (fun _ _ _ h => h) ?_ hH ?_
 ·intro w5 hSw; obtain ⟨s0, s1⟩ := hSw; go_simp
 simp only [zA9, zB9, zC9]
 refine tKx (i := 14) (v := .int .i64 ((a : Int))) rfl rfl (by kernel_rfl) (fun _ _ _ h => h) ?_ hH ?_
 ·intro w5 hSw; obtain ⟨s0, s1⟩ := hSw; go_simp
 simp only [zA9, zB9, zC9]
 refine tKx (i := 15) (v := .slice (some ⟨gy, oy, none⟩) a e) rfl rfl (by kernel_rfl) (fun _ _ _ h => h) ?_ hH ?_
 ·intro w5 hSw; obtain ⟨s0, s1⟩ := hSw; go_simp
 simp only [zA9, zB9, zC9]
 refine tKx (i := 16) (v := .slice (some ⟨w.heap.size + 1 + 1 + 1, 0, none⟩) 1 1) rfl rfl (by kernel_rfl) (fun _ _ _ h => h) ?_ hH ?_
 ·intro w5 hSw; obtain ⟨s0, s1⟩ := hSw; go_simp
 simp only [zA9, zB9, zC9]
 refine tKx (i := 17) (v := .pointer (some ⟨w.heap.size, 1, none⟩)) rfl rfl (by kernel_rfl) (fun _ _ _ h => h) ?_ hH ?_
 ·intro w5 hSw; obtain ⟨s0, s1⟩ := hSw; go_simp
 simp only [zA9, zB9, zC9]
 refine tKx (i := 18) (v := .slice (some ⟨gy, oy, none⟩) (N + 1) e) rfl rfl (by kernel_rfl) (fun _ _ _ h => h) ?_ hH ?_
 ·intro w5 hSw; obtain ⟨s0, s1⟩ := hSw; go_simp
 simp only [zA9, zB9, zC9]
 refine tKx (i := 19) (v := .int .i64 ((b : Int) + 1)) rfl rfl (by kernel_rfl) (fun _ _ _ h => h) ?_ hH ?_
 ·intro w5 hSw; obtain ⟨s0, s1⟩ := hSw; go_simp
 simp only [zA9, zB9, zC9]
 refine tKx (i := 20) (v := .slice VY (N - b) (e - (b + 1))) rfl rfl (by kernel_rfl) (fun _ _ _ h => h) ?_ hH ?_
 ·intro w5 hSw
  obtain ⟨s0, s1⟩ := hSw
  have hv := HVY.out
  by_cases hcb : e = b + 1
  ·rw [if_pos hcb] at hv; rw [hv]; go_simp
  ·rw [if_neg hcb] at hv; rw [hv]; go_simp
 simp only [zA9, zB9, zC9]
 have KB := mkHid ((Below.refl (w.heap.size + 1 + 1) w0).drew)
 replace PK := mkHid (PK.out.below (Below.refl _ w0).drew)
 replace PP := mkHid (PP.out.below (Below.refl _ w0).drew)
 replace RC := mkHid (show w0.drew.heap[(w.heap.size + 1 + 1)]? = _ from RC.out)
 generalize hW0 : w0.drew = W0 at KB PK PP RC hH ⊢
 refine wpAnyH_ready (rs := [10, 21]) (by kernel_rfl) (by simp) ?_
 refine AllReadyH.cons rfl (fun K hK => ?_) (AllReadyH.cons rfl (fun K hK => ?_) AllReadyH.nil)
 ·go_simp
  refine hK.out _ _ (KS.out _ (KB.out.alloc (Nat.le_trans KM.out KB.out.size) _)) (fun hH => ?_)
  clear hK K
  have hb := (Below.refl W0.heap.size W0).alloc (Nat.le_refl _) (.cells #[.slice (some ⟨gx, ox, none⟩) a c, .slice none 0 0, .slice VX (N - b) (c - b)] 57)
  replace PK := mkHid (PK.out.below hb)
  replace PP := mkHid (PP.out.below hb)
  replace RC := mkHid ((hb.block _ (lt_of_heap RC.out)).trans RC.out)
  have P1 : Hid (pcsAt (W0.alloc (.cells #[.slice (some ⟨gx, ox, none⟩) a c, .slice none 0 0, .slice VX (N - b) (c - b)] 57)) W0.heap.size [⟨some ⟨gx, ox, none⟩, a, c, (fl emE n.es).take (a * 2)⟩, ⟨none, 0, 0, []⟩, ⟨VX, N - b, c - b, (fl emE n.es).drop (b * 2)⟩]) := mkHid (pcs_new W0 [⟨some ⟨gx, ox, none⟩, a, c, (fl emE n.es).take (a * 2)⟩, ⟨none, 0, 0, []⟩, ⟨VX, N - b, c - b, (fl emE n.es).drop (b * 2)⟩] 57)
  replace KB := mkHid (KB.out.trans (hb.mono (Nat.le_trans KM.out KB.out.size)))
  clear hb
  generalize W0.alloc (.cells #[.slice (some ⟨gx, ox, none⟩) a c, .slice none 0 0, .slice VX (N - b) (c - b)] 57) = W1 at KB PK PP P1 RC hH ⊢
  refine wpAnyH_ready (rs := [11, 21]) (by kernel_rfl) (by simp) ?_
  refine AllReadyH.cons rfl (fun K hK => ?_) (AllReadyH.cons rfl (fun K hK => ?_) AllReadyH.nil)
  ·go_simp
   go_at_call 52
   refine (CE.out _ _ KB.out P1.out PP.out).mono ?_
   rintro e W2 ⟨p1, c1, rfl, k1, _, hb⟩
   go_wp2_with fail
   refine hK.out _ _ (KS.out _ (KB.out.trans (hb.mono (Nat.le_trans KM.out KB.out.size)))) (fun hH => ?_)
   clear hK K
   clear P1
   clear PP
   replace PK := mkHid (PK.out.below hb)
   replace RC := mkHid ((hb.block _ (lt_of_heap RC.out)).trans RC.out)
   have N1 := mkHid (k1.lower KB.out.size)
   replace KB := mkHid (KB.out.trans (hb.mono (Nat.le_trans KM.out KB.out.size)))
   clear hb
   refine wpAnyH_ready (rs := [21]) (by kernel_rfl) (by simp) ?_
   refine AllReadyH.cons rfl (fun K hK => ?_) AllReadyH.nil
   ·go_simp
    refine hK.out _ _ (KS.out _ (KB.out.alloc (Nat.le_trans KM.out KB.out.size) _)) (fun hH => ?_)
    clear hK K
    have hb := (Below.refl W2.heap.size W2).alloc (Nat.le_refl _) (.cells #[.slice (some ⟨gy, oy, none⟩) a e, .slice (some ⟨w.heap.size + 1 + 1 + 1, 0, none⟩) 1 1, .slice VY (N - b) (e - (b + 1))] 58)
    replace PK := mkHid (PK.out.below hb)
    replace N1 := mkHid (N1.out.below hb)
    replace RC := mkHid ((hb.block _ (lt_of_heap RC.out)).trans RC.out)
    have P2 : Hid (pcsAt (W2.alloc (.cells #[.slice (some ⟨gy, oy, none⟩) a e, .slice (some ⟨w.heap.size + 1 + 1 + 1, 0, none⟩) 1 1, .slice VY (N - b) (e - (b + 1))] 58)) W2.heap.size [⟨some ⟨gy, oy, none⟩, a, e, (fl hdE j).take (a * 2)⟩, ⟨some ⟨w.heap.size + 1 + 1 + 1, 0, none⟩, 1, 1, [.slice kp kn kc, .slice kq km ke]⟩, ⟨VY, N - b, e - (b + 1), (fl hdE j).drop ((b + 1) * 2)⟩]) := mkHid (pcs_new W2 [⟨some ⟨gy, oy, none⟩, a, e, (fl hdE j).take (a * 2)⟩, ⟨some ⟨w.heap.size + 1 + 1 + 1, 0, none⟩, 1, 1, [.slice kp kn kc, .slice kq km ke]⟩, ⟨VY, N - b, e - (b + 1), (fl hdE j).drop ((b + 1) * 2)⟩] 58)
    replace KB := mkHid (KB.out.trans (hb.mono (Nat.le_trans KM.out KB.out.size)))
    clear hb
    generalize W2.alloc (.cells #[.slice (some ⟨gy, oy, none⟩) a e, .slice (some ⟨w.heap.size + 1 + 1 + 1, 0, none⟩) 1 1, .slice VY (N - b) (e - (b + 1))] 58) = W3 at KB PK N1 P2 RC hH ⊢
    refine wpAnyH_ready (rs := [22]) (by kernel_rfl) (by simp) ?_
    refine AllReadyH.cons rfl (fun K hK => ?_) AllReadyH.nil
    ·go_simp
     go_at_call 81
     refine (CN.out _ _ KB.out P2.out PK.out).mono ?_
     rintro e W4 ⟨p2, c2, rfl, k2, z2, hb⟩
     go_wp2_with fail
     refine hK.out _ _ (KS.out _ (KB.out.trans (hb.mono (Nat.le_trans KM.out KB.out.size)))) (fun hH => ?_)
     clear hK K
     clear P2
     clear PK
     replace N1 := mkHid (N1.out.below hb)
     replace RC := mkHid ((hb.block _ (lt_of_heap RC.out)).trans RC.out)
     have N2 := mkHid (k2.lower KB.out.size)
     replace KB := mkHid (KB.out.trans (hb.mono (Nat.le_trans KM.out KB.out.size)))
     clear hb
     refine tKx (i := 23) (v := .agg #[.slice p1 n1 c1, .slice p2 n2 c2]) rfl rfl (by kernel_rfl) (fun _ _ _ h => h) ?_ hH ?_
     ·intro w5 hSw; obtain ⟨s0, s1⟩ := hSw; go_simp
     simp only [zA9, zB9, zC9]
     refine wpAnyH_ready (rs := [24]) (by kernel_rfl) (by simp) ?_
     refine AllReadyH.cons rfl (fun K hK => ?_) AllReadyH.nil
     ·have q0 : W4.cell? ⟨(w.heap.size + 1 + 1), 0, none⟩ = some (.slice none 0 0) := (cell_of_block RC.out 0).trans rfl
      have q1 : W4.cell? ⟨(w.heap.size + 1 + 1), 1, none⟩ = some (.slice none 0 0) := (cell_of_block RC.out 1).trans rfl
      have y0 := unfrozen_of_block RC.out 0
      have y1 := unfrozen_of_block RC.out 1
      go_simp
      refine hK.out _ _ (KS.out _ (below_set (below_set KB.out ⟨(w.heap.size + 1 + 1), 0, none⟩ (.slice p1 n1 c1) (Nat.le_refl _)) ⟨(w.heap.size + 1 + 1), 1, none⟩ (.slice p2 n2 c2) (Nat.le_refl _))) (fun hH => ?_)
      clear hK K
      refine wpAnyH_done (by kernel_rfl) ?_ _
      refine NoPanic.normal ?_
      have FN := FIN.out W4 _ _ _ _ KB.out N1.out N2.out z2
      clear N1 N2 KB RC KS hH
      go_wp2_with fail
      refine bodyPost_ret (v := .agg #[.slice p1 n1 c1, .slice p2 n2 c2]) (by simp [results, Tryz.results53, go_sem, q0, q1]) rfl ?_
      exact FN
  ·go_simp
   refine hK.out _ _ (KS.out _ (KB.out.alloc (Nat.le_trans KM.out KB.out.size) _)) (fun hH => ?_)
   clear hK K
   have hb := (Below.refl W1.heap.size W1).alloc (Nat.le_refl _) (.cells #[.slice (some ⟨gy, oy, none⟩) a e, .slice (some ⟨w.heap.size + 1 + 1 + 1, 0, none⟩) 1 1, .slice VY (N - b) (e - (b + 1))] 58)
   replace PK := mkHid (PK.out.below hb)
   replace PP := mkHid (PP.out.below hb)
   replace P1 := mkHid (P1.out.below hb)
   replace RC := mkHid ((hb.block _ (lt_of_heap RC.out)).trans RC.out)
   have P2 : Hid (pcsAt (W1.alloc (.cells #[.slice (some ⟨gy, oy, none⟩) a e, .slice (some ⟨w.heap.size + 1 + 1 + 1, 0, none⟩) 1 1, .slice VY (N - b) (e - (b + 1))] 58)) W1.heap.size [⟨some ⟨gy, oy, none⟩, a, e, (fl hdE j).take (a * 2)⟩, ⟨some ⟨w.heap.size + 1 + 1 + 1, 0, none⟩, 1, 1, [.slice kp kn kc, .slice kq km ke]⟩, ⟨VY, N - b, e - (b + 1), (fl hdE j).drop ((b + 1) * 2)⟩]) := mkHid (pcs_new W1 [⟨some ⟨gy, oy, none⟩, a, e, (fl hdE j).take (a * 2)⟩, ⟨some ⟨w.heap.size + 1 + 1 + 1, 0, none⟩, 1, 1, [.slice kp kn kc, .slice kq km ke]⟩, ⟨VY, N - b, e - (b + 1), (fl hdE j).drop ((b + 1) * 2)⟩] 58)
   replace KB := mkHid (KB.out.trans (hb.mono (Nat.le_trans KM.out KB.out.size)))
   clear hb
   generalize W1.alloc (.cells #[.slice (some ⟨gy, oy, none⟩) a e, .slice (some ⟨w.heap.size + 1 + 1 + 1, 0, none⟩) 1 1, .slice VY (N - b) (e - (b + 1))] 58) = W2 at KB PK PP P1 P2 RC hH ⊢
   refine wpAnyH_ready (rs := [11]) (by kernel_rfl) (by simp) ?_
   refine AllReadyH.cons rfl (fun K hK => ?_) AllReadyH.nil
   ·go_simp
    go_at_call 52
    refine (CE.out _ _ KB.out P1.out PP.out).mono ?_
    rintro e W3 ⟨p1, c1, rfl, k1, _, hb⟩
    go_wp2_with fail
    refine hK.out _ _ (KS.out _ (KB.out.trans (hb.mono (Nat.le_trans KM.out KB.out.size)))) (fun hH => ?_)
    clear hK K
    clear P1
    clear PP
    replace PK := mkHid (PK.out.below hb)
    replace P2 := mkHid (P2.out.below hb)
    replace RC := mkHid ((hb.block _ (lt_of_heap RC.out)).trans RC.out)
    have N1 := mkHid (k1.lower KB.out.size)
    replace KB := mkHid (KB.out.trans (hb.mono (Nat.le_trans KM.out KB.out.size)))
    clear hb
    refine wpAnyH_ready (rs := [22]) (by kernel_rfl) (by simp) ?_
    refine AllReadyH.cons rfl (fun K hK => ?_) AllReadyH.nil
    ·go_simp
     go_at_call 81
     refine (CN.out _ _ KB.out P2.out PK.out).mono ?_
     rintro e W4 ⟨p2, c2, rfl, k2, z2, hb⟩
     go_wp2_with fail
     refine hK.out _ _ (KS.out _ (KB.out.trans (hb.mono (Nat.le_trans KM.out KB.out.size)))) (fun hH => ?_)
     clear hK K
     clear P2
     clear PK
     replace N1 := mkHid (N1.out.below hb)
     replace RC := mkHid ((hb.block _ (lt_of_heap RC.out)).trans RC.out)
     have N2 := mkHid (k2.lower KB.out.size)
     replace KB := mkHid (KB.out.trans (hb.mono (Nat.le_trans KM.out KB.out.size)))
     clear hb
     refine tKx (i := 23) (v := .agg #[.slice p1 n1 c1, .slice p2 n2 c2]) rfl rfl (by kernel_rfl) (fun _ _ _ h => h) ?_ hH ?_
     ·intro w5 hSw; obtain ⟨s0, s1⟩ := hSw; go_simp
     simp only [zA9, zB9, zC9]
     refine wpAnyH_ready (rs := [24]) (by kernel_rfl) (by simp) ?_
     refine AllReadyH.cons rfl (fun K hK => ?_) AllReadyH.nil
     ·have q0 : W4.cell? ⟨(w.heap.size + 1 + 1), 0, none⟩ = some (.slice none 0 0) := (cell_of_block RC.out 0).trans rfl
      have q1 : W4.cell? ⟨(w.heap.size + 1 + 1), 1, none⟩ = some (.slice none 0 0) := (cell_of_block RC.out 1).trans rfl
      have y0 := unfrozen_of_block RC.out 0
      have y1 := unfrozen_of_block RC.out 1
      go_simp
      refine hK.out _ _ (KS.out _ (below_set (below_set KB.out ⟨(w.heap.size + 1 + 1), 0, none⟩ (.slice p1 n1 c1) (Nat.le_refl _)) ⟨(w.heap.size + 1 + 1), 1, none⟩ (.slice p2 n2 c2) (Nat.le_refl _))) (fun hH => ?_)
      clear hK K
      refine wpAnyH_done (by kernel_rfl) ?_ _
      refine NoPanic.normal ?_
      have FN := FIN.out W4 _ _ _ _ KB.out N1.out N2.out z2
      clear N1 N2 KB RC KS hH
      go_wp2_with fail
      refine bodyPost_ret (v := .agg #[.slice p1 n1 c1, .slice p2 n2 c2]) (by simp [results, Tryz.results53, go_sem, q0, q1]) rfl ?_
      exact FN
 ·go_simp
  refine hK.out _ _ (KS.out _ (KB.out.alloc (Nat.le_trans KM.out KB.out.size) _)) (fun hH => ?_)
  clear hK K
  have hb := (Below.refl W0.heap.size W0).alloc (Nat.le_refl _) (.cells #[.slice (some ⟨gy, oy, none⟩) a e, .slice (some ⟨w.heap.size + 1 + 1 + 1, 0, none⟩) 1 1, .slice VY (N - b) (e - (b + 1))] 58)
  replace PK := mkHid (PK.out.below hb)
  replace PP := mkHid (PP.out.below hb)
  replace RC := mkHid ((hb.block _ (lt_of_heap RC.out)).trans RC.out)
  have P2 : Hid (pcsAt (W0.alloc (.cells #[.slice (some ⟨gy, oy, none⟩) a e, .slice (some ⟨w.heap.size + 1 + 1 + 1, 0, none⟩) 1 1, .slice VY (N - b) (e - (b + 1))] 58)) W0.heap.size [⟨some ⟨gy, oy, none⟩, a, e, (fl hdE j).take (a * 2)⟩, ⟨some ⟨w.heap.size + 1 + 1 + 1, 0, none⟩, 1, 1, [.slice kp kn kc, .slice kq km ke]⟩, ⟨VY, N - b, e - (b + 1), (fl hdE j).drop ((b + 1) * 2)⟩]) := mkHid (pcs_new W0 [⟨some ⟨gy, oy, none⟩, a, e, (fl hdE j).take (a * 2)⟩, ⟨some ⟨w.heap.size + 1 + 1 + 1, 0, none⟩, 1, 1, [.slice kp kn kc, .slice kq km ke]⟩, ⟨VY, N - b, e - (b + 1), (fl hdE j).drop ((b + 1) * 2)⟩] 58)
  replace KB := mkHid (KB.out.trans (hb.mono (Nat.le_trans KM.out KB.out.size)))
  clear hb
  generalize W0.alloc (.cells #[.slice (some ⟨gy, oy, none⟩) a e, .slice (some ⟨w.heap.size + 1 + 1 + 1, 0, none⟩) 1 1, .slice VY (N - b) (e - (b + 1))] 58) = W1 at KB PK PP P2 RC hH ⊢
  refine wpAnyH_ready (rs := [10]) (by kernel_rfl) (by simp) ?_
  refine AllReadyH.cons rfl (fun K hK => ?_) AllReadyH.nil
  ·go_simp
   refine hK.out _ _ (KS.out _ (KB.out.alloc (Nat.le_trans KM.out KB.out.size) _)) (fun hH => ?_)
   clear hK K
   have hb := (Below.refl W1.heap.size W1).alloc (Nat.le_refl _) (.cells #[.slice (some ⟨gx, ox, none⟩) a c, .slice none 0 0, .slice VX (N - b) (c - b)] 57)
   replace PK := mkHid (PK.out.below hb)
   replace PP := mkHid (PP.out.below hb)
   replace P2 := mkHid (P2.out.below hb)
   replace RC := mkHid ((hb.block _ (lt_of_heap RC.out)).trans RC.out)
   have P1 : Hid (pcsAt (W1.alloc (.cells #[.slice (some ⟨gx, ox, none⟩) a c, .slice none 0 0, .slice VX (N - b) (c - b)] 57)) W1.heap.size [⟨some ⟨gx, ox, none⟩, a, c, (fl emE n.es).take (a * 2)⟩, ⟨none, 0, 0, []⟩, ⟨VX, N - b, c - b, (fl emE n.es).drop (b * 2)⟩]) := mkHid (pcs_new W1 [⟨some ⟨gx, ox, none⟩, a, c, (fl emE n.es).take (a * 2)⟩, ⟨none, 0, 0, []⟩, ⟨VX, N - b, c - b, (fl emE n.es).drop (b * 2)⟩] 57)
   replace KB := mkHid (KB.out.trans (hb.mono (Nat.le_trans KM.out KB.out.size)))
   clear hb
   generalize W1.alloc (.cells #[.slice (some ⟨gx, ox, none⟩) a c, .slice none 0 0, .slice VX (N - b) (c - b)] 57) = W2 at KB PK PP P2 P1 RC hH ⊢
   refine wpAnyH_ready (rs := [11]) (by kernel_rfl) (by simp) ?_
   refine AllReadyH.cons rfl (fun K hK => ?_) AllReadyH.nil
   ·go_simp
    go_at_call 52
    refine (CE.out _ _ KB.out P1.out PP.out).mono ?_
    rintro e W3 ⟨p1, c1, rfl, k1, _, hb⟩
    go_wp2_with fail
    refine hK.out _ _ (KS.out _ (KB.out.trans (hb.mono (Nat.le_trans KM.out KB.out.size)))) (fun hH => ?_)
    clear hK K
    clear P1
    clear PP
    replace PK := mkHid (PK.out.below hb)
    replace P2 := mkHid (P2.out.below hb)
    replace RC := mkHid ((hb.block _ (lt_of_heap RC.out)).trans RC.out)
    have N1 := mkHid (k1.lower KB.out.size)
    replace KB := mkHid (KB.out.trans (hb.mono (Nat.le_trans KM.out KB.out.size)))
    clear hb
    refine wpAnyH_ready (rs := [22]) (by kernel_rfl) (by simp) ?_
    refine AllReadyH.cons rfl (fun K hK => ?_) AllReadyH.nil
    ·go_simp
     go_at_call 81
     refine (CN.out _ _ KB.out P2.out PK.out).mono ?_
     rintro e W4 ⟨p2, c2, rfl, k2, z2, hb⟩
     go_wp2_with fail
     refine hK.out _ _ (KS.out _ (KB.out.trans (hb.mono (Nat.le_trans KM.out KB.out.size)))) (fun hH => ?_)
     clear hK K
     clear P2
     clear PK
     replace N1 := mkHid (N1.out.below hb)
     replace RC := mkHid ((hb.block _ (lt_of_heap RC.out)).trans RC.out)
     have N2 := mkHid (k2.lower KB.out.size)
     replace KB := mkHid (KB.out.trans (hb.mono (Nat.le_trans KM.out KB.out.size)))
     clear hb
     refine tKx (i := 23) (v := .agg #[.slice p1 n1 c1, .slice p2 n2 c2]) rfl rfl (by kernel_rfl) (fun _ _ _ h => h) ?_ hH ?_
     ·intro w5 hSw; obtain ⟨s0, s1⟩ := hSw; go_simp
     simp only [zA9, zB9, zC9]
     refine wpAnyH_ready (rs := [24]) (by kernel_rfl) (by simp) ?_
     refine AllReadyH.cons rfl (fun K hK => ?_) AllReadyH.nil
     ·have q0 : W4.cell? ⟨(w.heap.size + 1 + 1), 0, none⟩ = some (.slice none 0 0) := (cell_of_block RC.out 0).trans rfl
      have q1 : W4.cell? ⟨(w.heap.size + 1 + 1), 1, none⟩ = some (.slice none 0 0) := (cell_of_block RC.out 1).trans rfl
      have y0 := unfrozen_of_block RC.out 0
      have y1 := unfrozen_of_block RC.out 1
      go_simp
      refine hK.out _ _ (KS.out _ (below_set (below_set KB.out ⟨(w.heap.size + 1 + 1), 0, none⟩ (.slice p1 n1 c1) (Nat.le_refl _)) ⟨(w.heap.size + 1 + 1), 1, none⟩ (.slice p2 n2 c2) (Nat.le_refl _))) (fun hH => ?_)
      clear hK K
      refine wpAnyH_done (by kernel_rfl) ?_ _
      refine NoPanic.normal ?_
      have FN := FIN.out W4 _ _ _ _ KB.out N1.out N2.out z2
      clear N1 N2 KB RC KS hH
      go_wp2_with fail
      refine bodyPost_ret (v := .agg #[.slice p1 n1 c1, .slice p2 n2 c2]) (by simp [results, Tryz.results53, go_sem, q0, q1]) rfl ?_
      exact FN
end Go.Proofs.YtclcajnodoifjaaGreatDoor

