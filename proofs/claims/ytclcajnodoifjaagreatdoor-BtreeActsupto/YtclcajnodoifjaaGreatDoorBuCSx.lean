/-
 The walk of btree.join.
-/
import Derived.Test.YtclcajnodoifjaaGreatDoorBuBSx
namespace Go.Proofs.YtclcajnodoifjaaGreatDoor
open Go.RowKit Go.Shelf Go.Joins Go.Maps
set_option maxRecDepth 100000

theorem zA9 {α : Type _} (l : List α) (i : Nat) (a : α) : l.toArray.setIfInBounds i a = (l.set i a).toArray := by simp
theorem zB9 {α : Type _} (x : α) (xs : List α) (a : α) : (x :: xs).set 0 a = a :: xs := rfl
theorem zC9 {α : Type _} (x : α) (xs : List α) (n : Nat) (a : α) : (x :: xs).set (n + 1) a = x :: xs.set n a := rfl
theorem take_at {P : Program} {ops : Array Oper} {Q : Exit → Act → World → Prop} {md : Region.Mode} {S : World → Prop} {i d : Nat} {oi : Oper} {v : Value} {fuel : Nat} {listed : Array Bool} {ts : Array Value} {df : List Deferred} {w : World} (hi : ops[i]? = some oi) (hd : oi.dst = some d)
  (hs : Region.noSelect ops = true) (hf : Region.free md ops listed i = true) (hr : (Region.ready md ops listed).contains i = true)
  (hQ : ∀ c a w, Q (.panic c) (a.put oi.dst v) w → Q (.panic c) a w) (hy : YieldsIf P ops S oi v ⟨ts, df⟩) (hS : S w)
  (h : wpAnyH P md ops Q S fuel (listed.setIfInBounds i true) ⟨ts.setIfInBounds d v, df⟩ w) : wpAnyH P md ops Q S (fuel + 1) listed ⟨ts, df⟩ w :=
 wpAnyH_take hi hs hf hr hQ hy hS (by rw [hd]; exact h)
theorem tKx {P : Program} {ops : Array Oper} {Q : Exit → Act → World → Prop} {md : Region.Mode} {S : World → Prop} {i d : Nat} {oi : Oper} {v : Value} {fuel : Nat} {listed : Array Bool} {ts : Array Value} {df : List Deferred} {w : World} (hi : ops[i]? = some oi) (hd : oi.dst = some d)
  (hk : (Region.noSelect ops && Region.free md ops listed i && (Region.ready md ops listed).contains i && Region.wanted oi (yielded ops ts)) = true)
  (hQ : ∀ c a w, Q (.panic c) (a.put oi.dst v) w → Q (.panic c) a w) (hy : ∀ w', S w' → (execOp (Act.eval ⟨ts, df⟩) oi).run P w' = .ok (.value v) w') (hS : S w)
  (h : wpAnyH P md ops Q S fuel (listed.setIfInBounds i true) ⟨ts.setIfInBounds d v, df⟩ w) : wpAnyH P md ops Q S (fuel + 1) listed ⟨ts, df⟩ w := by
 simp only [Bool.and_eq_true] at hk
 exact take_at hi hd hk.1.1.1 hk.1.1.2 hk.1.2 hQ (Or.inl ⟨hk.2, hy⟩) hS h
/-- two, three, four new blocks -/
theorem bx2 (w : World) (o0 o1 : Obj) : ((w.alloc o0).alloc o1).heap[w.heap.size]? = some o0 ∧ ((w.alloc o0).alloc o1).heap[w.heap.size + 1]? = some o1 ∧ Below w.heap.size w ((w.alloc o0).alloc o1) ∧ ((w.alloc o0).alloc o1).heap.size = w.heap.size + 1 + 1 := by
 refine ⟨?_, ?_, ((Below.refl _ w).alloc (Nat.le_refl _) _).alloc (by simp) _, by simp⟩
 ·rw [heap_alloc_old _ _ (by first | (simp; done) | (simp; omega))]; exact heap_alloc_new _ _
 ·have := heap_alloc_new (w.alloc o0) o1
  simpa using this
theorem bx3 (w : World) (o0 o1 o2 : Obj) : (((w.alloc o0).alloc o1).alloc o2).heap[w.heap.size]? = some o0 ∧ (((w.alloc o0).alloc o1).alloc o2).heap[w.heap.size + 1]? = some o1 ∧ (((w.alloc o0).alloc o1).alloc o2).heap[w.heap.size + 1 + 1]? = some o2 ∧ Below w.heap.size w (((w.alloc o0).alloc o1).alloc o2) ∧ (((w.alloc o0).alloc o1).alloc o2).heap.size = w.heap.size + 1 + 1 + 1 := by
 obtain ⟨h0, h1, h2, h3⟩ := bx2 w o0 o1
 refine ⟨?_, ?_, ?_, h2.alloc (by omega) _, by simp⟩
 ·rw [heap_alloc_old _ _ (by first | (simp; done) | (simp; omega))]; exact h0
 ·rw [heap_alloc_old _ _ (by first | (simp; done) | (simp; omega))]; exact h1
 ·have := heap_alloc_new ((w.alloc o0).alloc o1) o2
  simpa using this
theorem bx4 (w : World) (o0 o1 o2 o3 : Obj) : ((((w.alloc o0).alloc o1).alloc o2).alloc o3).heap[w.heap.size]? = some o0 ∧ ((((w.alloc o0).alloc o1).alloc o2).alloc o3).heap[w.heap.size + 1]? = some o1 ∧ ((((w.alloc o0).alloc o1).alloc o2).alloc o3).heap[w.heap.size + 1 + 1]? = some o2 ∧ ((((w.alloc o0).alloc o1).alloc o2).alloc o3).heap[w.heap.size + 1 + 1 + 1]? = some o3 ∧ Below w.heap.size w ((((w.alloc o0).alloc o1).alloc o2).alloc o3) ∧ ((((w.alloc o0).alloc o1).alloc o2).alloc o3).heap.size = w.heap.size + 1 + 1 + 1 + 1 := by
 obtain ⟨h0, h1, h2, h3, h4⟩ := bx3 w o0 o1 o2
 refine ⟨?_, ?_, ?_, ?_, h3.alloc (by omega) _, by simp⟩
 ·rw [heap_alloc_old _ _ (by first | (simp; done) | (simp; omega))]; exact h0
 ·rw [heap_alloc_old _ _ (by first | (simp; done) | (simp; omega))]; exact h1
 ·rw [heap_alloc_old _ _ (by first | (simp; done) | (simp; omega))]; exact h2
 ·have := heap_alloc_new (((w.alloc o0).alloc o1).alloc o2) o3
  simpa using this
set_option maxHeartbeats 8000000 in
set_option maxRecDepth 1000000 in
theorem join_any (T : Nat → Prop) (d : Nat) (l r : Nd Em) (m : Em) (l1 l2 r1 r2 : Value) (w : World) (hT : ∀ b, w.heap.size ≤ b → T b) (hl : ndIn T w d l l1 l2) (hr : ndIn T w d r r1 r2) (hm : KeyOk T w m) (z1 : l.es.length ≤ 1000) (z3 : r.es.length ≤ 1000) (z2 : l.ks.length ≤ 1001) (z4 : r.ks.length ≤ 1001) :
  Calls Tryz.prog 82 #[.agg #[l1, l2], emV m, .agg #[r1, r2]] w fun en w' => NdQ T w d (l.join m r) en w' := by
 obtain ⟨xl, e1, e2, e3, e4, e5⟩ := hl.ent.pc
 obtain ⟨xr, f1, f2, f3, f4, f5⟩ := hr.ent.pc
 obtain ⟨yl, jl, g1, g2, g3, g4, g5, g6, g7⟩ := hl.kids
 obtain ⟨yr, jr, h1, h2, h3, h4, h5, h6, h7⟩ := hr.kids
 obtain ⟨w0, hw0⟩ : ∃ w0, w0 = (((w.alloc (.cells #[.slice xl.p xl.n xl.c, .slice yl.p yl.n yl.c] 60)).alloc (.cells #[.slice (some ⟨m.g, 0, none⟩) m.e.key.length m.c, .int .u64 m.e.id] 65)).alloc (.cells #[.slice xr.p xr.n xr.c, .slice yr.p yr.n yr.c] 60)).alloc (.cells #[.slice none 0 0, .slice none 0 0] 60) := ⟨_, rfl⟩
 obtain ⟨b0, b1, b2, b3, bb, bs⟩ := bx4 w (.cells #[.slice xl.p xl.n xl.c, .slice yl.p yl.n yl.c] 60) (.cells #[.slice (some ⟨m.g, 0, none⟩) m.e.key.length m.c, .int .u64 m.e.id] 65) (.cells #[.slice xr.p xr.n xr.c, .slice yr.p yr.n yr.c] 60) (.cells #[.slice none 0 0, .slice none 0 0] 60)
 rw [← hw0] at b0 b1 b2 b3 bb bs
 have KS : Hid (∀ w', Below (w.heap.size + 1 + 1 + 1) w0 w' → w'.cell? ⟨w.heap.size, 0, none⟩ = some (.slice xl.p xl.n xl.c) ∧ w'.cell? ⟨w.heap.size, 1, none⟩ = some (.slice yl.p yl.n yl.c) ∧ w'.cell? ⟨w.heap.size + 1, 0, none⟩ = some (.slice (some ⟨m.g, 0, none⟩) m.e.key.length m.c) ∧ w'.cell? ⟨w.heap.size + 1, 1, none⟩ = some (.int .u64 m.e.id) ∧ w'.cell? ⟨w.heap.size + 1 + 1, 0, none⟩ = some (.slice xr.p xr.n xr.c) ∧ w'.cell? ⟨w.heap.size + 1 + 1, 1, none⟩ = some (.slice yr.p yr.n yr.c)) := fun w' hb => by
  have c0 : ∀ o, w'.cell? ⟨w.heap.size, o, none⟩ = w0.cell? ⟨w.heap.size, o, none⟩ := fun o => hb.cell (p := ⟨w.heap.size, o, none⟩) (by show w.heap.size < _; omega)
  have c1 : ∀ o, w'.cell? ⟨w.heap.size + 1, o, none⟩ = w0.cell? ⟨w.heap.size + 1, o, none⟩ := fun o => hb.cell (p := ⟨w.heap.size + 1, o, none⟩) (by show w.heap.size + 1 < _; omega)
  have c2 : ∀ o, w'.cell? ⟨w.heap.size + 1 + 1, o, none⟩ = w0.cell? ⟨w.heap.size + 1 + 1, o, none⟩ := fun o => hb.cell (p := ⟨w.heap.size + 1 + 1, o, none⟩) (by show w.heap.size + 1 + 1 < _; omega)
  exact ⟨(c0 0).trans ((cell_of_block b0 0).trans rfl), (c0 1).trans ((cell_of_block b0 1).trans rfl), (c1 0).trans ((cell_of_block b1 0).trans rfl), (c1 1).trans ((cell_of_block b1 1).trans rfl), (c2 0).trans ((cell_of_block b2 0).trans rfl), (c2 1).trans ((cell_of_block b2 1).trans rfl)⟩
 have RC := mkHid b3
 have KM : Hid ((w.heap.size + 1 + 1 + 1) ≤ w0.heap.size) := by show _ ≤ _; omega
 have up : ∀ W, Below (w.heap.size + 1 + 1 + 1) w0 W → Below w.heap.size w W := fun W hb => bb.trans (hb.mono (by omega))
 obtain ⟨n1, hn1⟩ : ∃ n1, n1 = (l.es ++ m :: r.es).length := ⟨_, rfl⟩
 obtain ⟨n2, hn2⟩ : ∃ n2, n2 = (l.ks ++ r.ks).length := ⟨_, rfl⟩
 have CE : Hid (∀ W G g, Below (w.heap.size + 1 + 1 + 1) w0 W → pcsAt W G [xl, ⟨some ⟨g, 0, none⟩, 1, 1, emE m⟩, xr] → Pc.ok 2 W ⟨some ⟨g, 0, none⟩, 1, 1, emE m⟩ → Calls Tryz.prog 52 #[.slice (some ⟨G, 0, none⟩) 3 3] W fun en w' => CcN W 65 2 n1 (fl emE (l.es ++ m :: r.es)) en w') := fun W G g hW hp ho => (ConcatEn G 3 _ W (by simp) hp (fun x hx => by
   simp only [List.mem_cons, List.not_mem_nil, or_false] at hx
   rcases hx with rfl | rfl | rfl
   ·exact e4.below (up W hW)
   ·exact ho
   ·exact f4.below (up W hW)) (by simp [sumN]; omega)).mono (fun en w' h => cc_nw h (by rw [hn1]; simp [sumN]; omega) (by simp [catX, e3, f3, fl_app, fl_cons]))
 have CN : Hid (∀ W G, Below (w.heap.size + 1 + 1 + 1) w0 W → pcsAt W G [yl, yr] → Calls Tryz.prog 81 #[.slice (some ⟨G, 0, none⟩) 2 2] W fun en w' => CcN W 60 2 n2 (fl hdE (jl ++ jr)) en w') := fun W G hW hp => (ConcatNd G 2 _ W (by simp) hp (fun x hx => by
   simp only [List.mem_cons, List.not_mem_nil, or_false] at hx
   rcases hx with rfl | rfl
   ·exact g4.below (up W hW)
   ·exact h4.below (up W hW)) (by simp [sumN]; omega)).mono (fun en w' h => cc_nw h (by rw [hn2]; simp [sumN]; omega) (by simp [catX, g3, h3, fl_app]))
 have FIN : Hid (∀ W p1 c1 p2 c2, Below (w.heap.size + 1 + 1 + 1) w0 W → Nw w0 W 65 2 (.slice p1 n1 c1) n1 (fl emE (l.es ++ m :: r.es)) → Nw w0 W 60 2 (.slice p2 n2 c2) n2 (fl hdE (jl ++ jr)) → (n2 = 0 → p2 = none ∧ c2 = 0) → NdQ T w d (l.join m r) (.returned (.agg #[.slice p1 n1 c1, .slice p2 n2 c2])) ((W.setCell ⟨(w.heap.size + 1 + 1 + 1), 0, none⟩ (.slice p1 n1 c1)).setCell ⟨(w.heap.size + 1 + 1 + 1), 1, none⟩ (.slice p2 n2 c2))) := fun W p1 c1 p2 c2 hW k1 k2 zz => by
  subst hn1 hn2
  refine fin_node (wm := w) (by omega) (up W hW) (up W hW) (fun q hq => ?_) ((g6.app h6).off (by omega)) (fun e => by rw [g7 e, h7 e]; rfl) (fun b hb => ⟨hT b (by omega), by omega⟩) k1 k2 (fun e => by obtain ⟨rfl, rfl⟩ := zz e; rw [e])
  rcases List.mem_append.1 hq with hq | hq
  ·exact (hl.ent.2 q hq).off (by omega)
  ·rcases List.mem_cons.1 hq with rfl | hq
   ·exact hm.off (by omega)
   ·exact (hr.ent.2 q hq).off (by omega)
 have HW0 := mkHid hw0
 rw [e1, f1, g1, h1]
 unfold Pc.v
 clear hn1 hn2 hT hl hr hm e1 e2 e3 e4 e5 f1 f2 f3 f4 f5 g1 g2 g3 g4 g5 g6 g7 h1 h2 h3 h4 h5 h6 h7 up b0 b1 b2 b3 bb bs z1 z2 z3 z4 hw0
 go_enter Tryz.func82, Tryz.ntmps82
 go_wp2_with fail
 rw [← HW0.out]
 clear HW0
 refine wp_region_noPanic ?_
 refine wp_region_held_drew (S := fun w' : World => w'.cell? ⟨w.heap.size, 0, none⟩ = some (.slice xl.p xl.n xl.c) ∧ w'.cell? ⟨w.heap.size, 1, none⟩ = some (.slice yl.p yl.n yl.c) ∧ w'.cell? ⟨w.heap.size + 1, 0, none⟩ = some (.slice (some ⟨m.g, 0, none⟩) m.e.key.length m.c) ∧ w'.cell? ⟨w.heap.size + 1, 1, none⟩ = some (.int .u64 m.e.id) ∧ w'.cell? ⟨w.heap.size + 1 + 1, 0, none⟩ = some (.slice xr.p xr.n xr.c) ∧ w'.cell? ⟨w.heap.size + 1 + 1, 1, none⟩ = some (.slice yr.p yr.n yr.c)) (by kernel_rfl) (KS.out _ (Below.refl _ _).drew) (fun hH => ?_)
 refine tKx (i := 0) (v := .pointer (some ⟨w.heap.size, 0, none⟩)) rfl rfl (by kernel_rfl) (fun _ _ _ h => h) ?_ hH ?_
 ·intro w5 hSw; obtain ⟨s0, s1, s2, s3, s4, s5⟩ := hSw; go_simp
 simp only [zA9, zB9, zC9]
 refine tKx (i := 1) (v := .slice xl.p xl.n xl.c) rfl rfl (by kernel_rfl) (fun _ _ _ h => h) ?_ hH ?_
 ·intro w5 hSw; obtain ⟨s0, s1, s2, s3, s4, s5⟩ := hSw; go_simp
 simp only [zA9, zB9, zC9]
 refine tKx (i := 2) (v := .agg #[.slice (some ⟨m.g, 0, none⟩) m.e.key.length m.c, .int .u64 m.e.id]) rfl rfl (by kernel_rfl) (fun _ _ _ h => h) ?_ hH ?_
 ·intro w5 hSw; obtain ⟨s0, s1, s2, s3, s4, s5⟩ := hSw; go_simp
 simp only [zA9, zB9, zC9]
 refine tKx (i := 4) (v := .pointer (some ⟨w.heap.size + 1 + 1, 0, none⟩)) rfl rfl (by kernel_rfl) (fun _ _ _ h => h) ?_ hH ?_
 ·intro w5 hSw; obtain ⟨s0, s1, s2, s3, s4, s5⟩ := hSw; go_simp
 simp only [zA9, zB9, zC9]
 refine tKx (i := 5) (v := .slice xr.p xr.n xr.c) rfl rfl (by kernel_rfl) (fun _ _ _ h => h) ?_ hH ?_
 ·intro w5 hSw; obtain ⟨s0, s1, s2, s3, s4, s5⟩ := hSw; go_simp
 simp only [zA9, zB9, zC9]
 refine tKx (i := 8) (v := .pointer (some ⟨w.heap.size, 1, none⟩)) rfl rfl (by kernel_rfl) (fun _ _ _ h => h) ?_ hH ?_
 ·intro w5 hSw; obtain ⟨s0, s1, s2, s3, s4, s5⟩ := hSw; go_simp
 simp only [zA9, zB9, zC9]
 refine tKx (i := 9) (v := .slice yl.p yl.n yl.c) rfl rfl (by kernel_rfl) (fun _ _ _ h => h) ?_ hH ?_
 ·intro w5 hSw; obtain ⟨s0, s1, s2, s3, s4, s5⟩ := hSw; go_simp
 simp only [zA9, zB9, zC9]
 refine tKx (i := 10) (v := .pointer (some ⟨w.heap.size + 1 + 1, 1, none⟩)) rfl rfl (by kernel_rfl) (fun _ _ _ h => h) ?_ hH ?_
 ·intro w5 hSw; obtain ⟨s0, s1, s2, s3, s4, s5⟩ := hSw; go_simp
 simp only [zA9, zB9, zC9]
 refine tKx (i := 11) (v := .slice yr.p yr.n yr.c) rfl rfl (by kernel_rfl) (fun _ _ _ h => h) ?_ hH ?_
 ·intro w5 hSw; obtain ⟨s0, s1, s2, s3, s4, s5⟩ := hSw; go_simp
 simp only [zA9, zB9, zC9]
 have KB := mkHid ((Below.refl (w.heap.size + 1 + 1 + 1) w0).drew)
 replace RC := mkHid (show w0.drew.heap[(w.heap.size + 1 + 1 + 1)]? = _ from RC.out)
 generalize hW0 : w0.drew = W0 at KB RC hH ⊢
 refine wpAnyH_ready (rs := [3, 12]) (by kernel_rfl) (by simp) ?_
 refine AllReadyH.cons rfl (fun K hK => ?_) (AllReadyH.cons rfl (fun K hK => ?_) AllReadyH.nil)
 ·go_simp
  refine hK.out _ _ (KS.out _ (KB.out.alloc (Nat.le_trans KM.out KB.out.size) _)) (fun hH => ?_)
  clear hK K
  have hb := (Below.refl W0.heap.size W0).alloc (Nat.le_refl _) (.cells #[.slice (some ⟨m.g, 0, none⟩) m.e.key.length m.c, .int .u64 m.e.id] 65)
  replace RC := mkHid ((hb.block _ (lt_of_heap RC.out)).trans RC.out)
  have EO : Hid (Pc.ok 2 (W0.alloc (.cells #[.slice (some ⟨m.g, 0, none⟩) m.e.key.length m.c, .int .u64 m.e.id] 65)) ⟨some ⟨W0.heap.size, 0, none⟩, 1, 1, emE m⟩) := mkHid (pc_new W0 1 (emE m) 65 2 rfl (emE_one m))
  replace KB := mkHid (KB.out.trans (hb.mono (Nat.le_trans KM.out KB.out.size)))
  clear hb
  generalize W0.alloc (.cells #[.slice (some ⟨m.g, 0, none⟩) m.e.key.length m.c, .int .u64 m.e.id] 65) = W1 at KB EO RC hH ⊢
  refine wpAnyH_ready (rs := [6, 12]) (by kernel_rfl) (by simp) ?_
  refine AllReadyH.cons rfl (fun K hK => ?_) (AllReadyH.cons rfl (fun K hK => ?_) AllReadyH.nil)
  ·go_simp
   refine hK.out _ _ (KS.out _ (KB.out.alloc (Nat.le_trans KM.out KB.out.size) _)) (fun hH => ?_)
   clear hK K
   have hb := (Below.refl W1.heap.size W1).alloc (Nat.le_refl _) (.cells #[.slice xl.p xl.n xl.c, .slice (some ⟨W0.heap.size, 0, none⟩) 1 1, .slice xr.p xr.n xr.c] 57)
   replace EO := mkHid (EO.out.below hb)
   replace RC := mkHid ((hb.block _ (lt_of_heap RC.out)).trans RC.out)
   have P1 : Hid (pcsAt (W1.alloc (.cells #[.slice xl.p xl.n xl.c, .slice (some ⟨W0.heap.size, 0, none⟩) 1 1, .slice xr.p xr.n xr.c] 57)) W1.heap.size [xl, ⟨some ⟨W0.heap.size, 0, none⟩, 1, 1, emE m⟩, xr]) := mkHid (pcs_new W1 [xl, ⟨some ⟨W0.heap.size, 0, none⟩, 1, 1, emE m⟩, xr] 57)
   replace KB := mkHid (KB.out.trans (hb.mono (Nat.le_trans KM.out KB.out.size)))
   clear hb
   generalize W1.alloc (.cells #[.slice xl.p xl.n xl.c, .slice (some ⟨W0.heap.size, 0, none⟩) 1 1, .slice xr.p xr.n xr.c] 57) = W2 at KB EO P1 RC hH ⊢
   refine wpAnyH_ready (rs := [7, 12]) (by kernel_rfl) (by simp) ?_
   refine AllReadyH.cons rfl (fun K hK => ?_) (AllReadyH.cons rfl (fun K hK => ?_) AllReadyH.nil)
   ·go_simp
    go_at_call 52
    refine (CE.out _ _ _ KB.out P1.out EO.out).mono ?_
    rintro e W3 ⟨p1, c1, rfl, k1, _, hb⟩
    go_wp2_with fail
    refine hK.out _ _ (KS.out _ (KB.out.trans (hb.mono (Nat.le_trans KM.out KB.out.size)))) (fun hH => ?_)
    clear hK K
    clear P1
    clear EO
    replace RC := mkHid ((hb.block _ (lt_of_heap RC.out)).trans RC.out)
    have N1 := mkHid (k1.lower KB.out.size)
    replace KB := mkHid (KB.out.trans (hb.mono (Nat.le_trans KM.out KB.out.size)))
    clear hb
    refine wpAnyH_ready (rs := [12]) (by kernel_rfl) (by simp) ?_
    refine AllReadyH.cons rfl (fun K hK => ?_) AllReadyH.nil
    ·go_simp
     refine hK.out _ _ (KS.out _ (KB.out.alloc (Nat.le_trans KM.out KB.out.size) _)) (fun hH => ?_)
     clear hK K
     have hb := (Below.refl W3.heap.size W3).alloc (Nat.le_refl _) (.cells #[.slice yl.p yl.n yl.c, .slice yr.p yr.n yr.c] 58)
     replace N1 := mkHid (N1.out.below hb)
     replace RC := mkHid ((hb.block _ (lt_of_heap RC.out)).trans RC.out)
     have P2 : Hid (pcsAt (W3.alloc (.cells #[.slice yl.p yl.n yl.c, .slice yr.p yr.n yr.c] 58)) W3.heap.size [yl, yr]) := mkHid (pcs_new W3 [yl, yr] 58)
     replace KB := mkHid (KB.out.trans (hb.mono (Nat.le_trans KM.out KB.out.size)))
     clear hb
     generalize W3.alloc (.cells #[.slice yl.p yl.n yl.c, .slice yr.p yr.n yr.c] 58) = W4 at KB N1 P2 RC hH ⊢
     refine wpAnyH_ready (rs := [13]) (by kernel_rfl) (by simp) ?_
     refine AllReadyH.cons rfl (fun K hK => ?_) AllReadyH.nil
     ·go_simp
      go_at_call 81
      refine (CN.out _ _ KB.out P2.out).mono ?_
      rintro e W5 ⟨p2, c2, rfl, k2, z2, hb⟩
      go_wp2_with fail
      refine hK.out _ _ (KS.out _ (KB.out.trans (hb.mono (Nat.le_trans KM.out KB.out.size)))) (fun hH => ?_)
      clear hK K
      clear P2
      replace N1 := mkHid (N1.out.below hb)
      replace RC := mkHid ((hb.block _ (lt_of_heap RC.out)).trans RC.out)
      have N2 := mkHid (k2.lower KB.out.size)
      replace KB := mkHid (KB.out.trans (hb.mono (Nat.le_trans KM.out KB.out.size)))
      clear hb
      refine tKx (i := 14) (v := .agg #[.slice p1 n1 c1, .slice p2 n2 c2]) rfl rfl (by kernel_rfl) (fun _ _ _ h => h) ?_ hH ?_
      ·intro w5 hSw; obtain ⟨s0, s1, s2, s3, s4, s5⟩ := hSw; go_simp
      simp only [zA9, zB9, zC9]
      refine wpAnyH_ready (rs := [15]) (by kernel_rfl) (by simp) ?_
      refine AllReadyH.cons rfl (fun K hK => ?_) AllReadyH.nil
      ·have q0 : W5.cell? ⟨(w.heap.size + 1 + 1 + 1), 0, none⟩ = some (.slice none 0 0) := (cell_of_block RC.out 0).trans rfl
       have q1 : W5.cell? ⟨(w.heap.size + 1 + 1 + 1), 1, none⟩ = some (.slice none 0 0) := (cell_of_block RC.out 1).trans rfl
       have y0 := unfrozen_of_block RC.out 0
       have y1 := unfrozen_of_block RC.out 1
       go_simp
       refine hK.out _ _ (KS.out _ (below_set (below_set KB.out ⟨(w.heap.size + 1 + 1 + 1), 0, none⟩ (.slice p1 n1 c1) (Nat.le_refl _)) ⟨(w.heap.size + 1 + 1 + 1), 1, none⟩ (.slice p2 n2 c2) (Nat.le_refl _))) (fun hH => ?_)
       clear hK K
       refine wpAnyH_done (by kernel_rfl) ?_ _
       refine NoPanic.normal ?_
       have FN := FIN.out W5 _ _ _ _ KB.out N1.out N2.out z2
       clear N1 N2 KB RC KS hH
       go_wp2_with fail
       refine bodyPost_ret (v := .agg #[.slice p1 n1 c1, .slice p2 n2 c2]) (by simp [results, Tryz.results82, go_sem, q0, q1]) rfl ?_
       exact FN
   ·go_simp
    refine hK.out _ _ (KS.out _ (KB.out.alloc (Nat.le_trans KM.out KB.out.size) _)) (fun hH => ?_)
    clear hK K
    have hb := (Below.refl W2.heap.size W2).alloc (Nat.le_refl _) (.cells #[.slice yl.p yl.n yl.c, .slice yr.p yr.n yr.c] 58)
    replace EO := mkHid (EO.out.below hb)
    replace P1 := mkHid (P1.out.below hb)
    replace RC := mkHid ((hb.block _ (lt_of_heap RC.out)).trans RC.out)
    have P2 : Hid (pcsAt (W2.alloc (.cells #[.slice yl.p yl.n yl.c, .slice yr.p yr.n yr.c] 58)) W2.heap.size [yl, yr]) := mkHid (pcs_new W2 [yl, yr] 58)
    replace KB := mkHid (KB.out.trans (hb.mono (Nat.le_trans KM.out KB.out.size)))
    clear hb
    generalize W2.alloc (.cells #[.slice yl.p yl.n yl.c, .slice yr.p yr.n yr.c] 58) = W3 at KB EO P1 P2 RC hH ⊢
    refine wpAnyH_ready (rs := [7]) (by kernel_rfl) (by simp) ?_
    refine AllReadyH.cons rfl (fun K hK => ?_) AllReadyH.nil
    ·go_simp
     go_at_call 52
     refine (CE.out _ _ _ KB.out P1.out EO.out).mono ?_
     rintro e W4 ⟨p1, c1, rfl, k1, _, hb⟩
     go_wp2_with fail
     refine hK.out _ _ (KS.out _ (KB.out.trans (hb.mono (Nat.le_trans KM.out KB.out.size)))) (fun hH => ?_)
     clear hK K
     clear P1
     clear EO
     replace P2 := mkHid (P2.out.below hb)
     replace RC := mkHid ((hb.block _ (lt_of_heap RC.out)).trans RC.out)
     have N1 := mkHid (k1.lower KB.out.size)
     replace KB := mkHid (KB.out.trans (hb.mono (Nat.le_trans KM.out KB.out.size)))
     clear hb
     refine wpAnyH_ready (rs := [13]) (by kernel_rfl) (by simp) ?_
     refine AllReadyH.cons rfl (fun K hK => ?_) AllReadyH.nil
     ·go_simp
      go_at_call 81
      refine (CN.out _ _ KB.out P2.out).mono ?_
      rintro e W5 ⟨p2, c2, rfl, k2, z2, hb⟩
      go_wp2_with fail
      refine hK.out _ _ (KS.out _ (KB.out.trans (hb.mono (Nat.le_trans KM.out KB.out.size)))) (fun hH => ?_)
      clear hK K
      clear P2
      replace N1 := mkHid (N1.out.below hb)
      replace RC := mkHid ((hb.block _ (lt_of_heap RC.out)).trans RC.out)
      have N2 := mkHid (k2.lower KB.out.size)
      replace KB := mkHid (KB.out.trans (hb.mono (Nat.le_trans KM.out KB.out.size)))
      clear hb
      refine tKx (i := 14) (v := .agg #[.slice p1 n1 c1, .slice p2 n2 c2]) rfl rfl (by kernel_rfl) (fun _ _ _ h => h) ?_ hH ?_
      ·intro w5 hSw; obtain ⟨s0, s1, s2, s3, s4, s5⟩ := hSw; go_simp
      simp only [zA9, zB9, zC9]
      refine wpAnyH_ready (rs := [15]) (by kernel_rfl) (by simp) ?_
      refine AllReadyH.cons rfl (fun K hK => ?_) AllReadyH.nil
      ·have q0 : W5.cell? ⟨(w.heap.size + 1 + 1 + 1), 0, none⟩ = some (.slice none 0 0) := (cell_of_block RC.out 0).trans rfl
       have q1 : W5.cell? ⟨(w.heap.size + 1 + 1 + 1), 1, none⟩ = some (.slice none 0 0) := (cell_of_block RC.out 1).trans rfl
       have y0 := unfrozen_of_block RC.out 0
       have y1 := unfrozen_of_block RC.out 1
       go_simp
       refine hK.out _ _ (KS.out _ (below_set (below_set KB.out ⟨(w.heap.size + 1 + 1 + 1), 0, none⟩ (.slice p1 n1 c1) (Nat.le_refl _)) ⟨(w.heap.size + 1 + 1 + 1), 1, none⟩ (.slice p2 n2 c2) (Nat.le_refl _))) (fun hH => ?_)
       clear hK K
       refine wpAnyH_done (by kernel_rfl) ?_ _
       refine NoPanic.normal ?_
       have FN := FIN.out W5 _ _ _ _ KB.out N1.out N2.out z2
       clear N1 N2 KB RC KS hH
       go_wp2_with fail
       refine bodyPost_ret (v := .agg #[.slice p1 n1 c1, .slice p2 n2 c2]) (by simp [results, Tryz.results82, go_sem, q0, q1]) rfl ?_
       exact FN
  ·go_simp
   refine hK.out _ _ (KS.out _ (KB.out.alloc (Nat.le_trans KM.out KB.out.size) _)) (fun hH => ?_)
   clear hK K
   have hb := (Below.refl W1.heap.size W1).alloc (Nat.le_refl _) (.cells #[.slice yl.p yl.n yl.c, .slice yr.p yr.n yr.c] 58)
   replace EO := mkHid (EO.out.below hb)
   replace RC := mkHid ((hb.block _ (lt_of_heap RC.out)).trans RC.out)
   have P2 : Hid (pcsAt (W1.alloc (.cells #[.slice yl.p yl.n yl.c, .slice yr.p yr.n yr.c] 58)) W1.heap.size [yl, yr]) := mkHid (pcs_new W1 [yl, yr] 58)
   replace KB := mkHid (KB.out.trans (hb.mono (Nat.le_trans KM.out KB.out.size)))
   clear hb
   generalize W1.alloc (.cells #[.slice yl.p yl.n yl.c, .slice yr.p yr.n yr.c] 58) = W2 at KB EO P2 RC hH ⊢
   refine wpAnyH_ready (rs := [6]) (by kernel_rfl) (by simp) ?_
   refine AllReadyH.cons rfl (fun K hK => ?_) AllReadyH.nil
   ·go_simp
    refine hK.out _ _ (KS.out _ (KB.out.alloc (Nat.le_trans KM.out KB.out.size) _)) (fun hH => ?_)
    clear hK K
    have hb := (Below.refl W2.heap.size W2).alloc (Nat.le_refl _) (.cells #[.slice xl.p xl.n xl.c, .slice (some ⟨W0.heap.size, 0, none⟩) 1 1, .slice xr.p xr.n xr.c] 57)
    replace EO := mkHid (EO.out.below hb)
    replace P2 := mkHid (P2.out.below hb)
    replace RC := mkHid ((hb.block _ (lt_of_heap RC.out)).trans RC.out)
    have P1 : Hid (pcsAt (W2.alloc (.cells #[.slice xl.p xl.n xl.c, .slice (some ⟨W0.heap.size, 0, none⟩) 1 1, .slice xr.p xr.n xr.c] 57)) W2.heap.size [xl, ⟨some ⟨W0.heap.size, 0, none⟩, 1, 1, emE m⟩, xr]) := mkHid (pcs_new W2 [xl, ⟨some ⟨W0.heap.size, 0, none⟩, 1, 1, emE m⟩, xr] 57)
    replace KB := mkHid (KB.out.trans (hb.mono (Nat.le_trans KM.out KB.out.size)))
    clear hb
    generalize W2.alloc (.cells #[.slice xl.p xl.n xl.c, .slice (some ⟨W0.heap.size, 0, none⟩) 1 1, .slice xr.p xr.n xr.c] 57) = W3 at KB EO P2 P1 RC hH ⊢
    refine wpAnyH_ready (rs := [7]) (by kernel_rfl) (by simp) ?_
    refine AllReadyH.cons rfl (fun K hK => ?_) AllReadyH.nil
    ·go_simp
     go_at_call 52
     refine (CE.out _ _ _ KB.out P1.out EO.out).mono ?_
     rintro e W4 ⟨p1, c1, rfl, k1, _, hb⟩
     go_wp2_with fail
     refine hK.out _ _ (KS.out _ (KB.out.trans (hb.mono (Nat.le_trans KM.out KB.out.size)))) (fun hH => ?_)
     clear hK K
     clear P1
     clear EO
     replace P2 := mkHid (P2.out.below hb)
     replace RC := mkHid ((hb.block _ (lt_of_heap RC.out)).trans RC.out)
     have N1 := mkHid (k1.lower KB.out.size)
     replace KB := mkHid (KB.out.trans (hb.mono (Nat.le_trans KM.out KB.out.size)))
     clear hb
     refine wpAnyH_ready (rs := [13]) (by kernel_rfl) (by simp) ?_
     refine AllReadyH.cons rfl (fun K hK => ?_) AllReadyH.nil
     ·go_simp
      go_at_call 81
      refine (CN.out _ _ KB.out P2.out).mono ?_
      rintro e W5 ⟨p2, c2, rfl, k2, z2, hb⟩
      go_wp2_with fail
      refine hK.out _ _ (KS.out _ (KB.out.trans (hb.mono (Nat.le_trans KM.out KB.out.size)))) (fun hH => ?_)
      clear hK K
      clear P2
      replace N1 := mkHid (N1.out.below hb)
      replace RC := mkHid ((hb.block _ (lt_of_heap RC.out)).trans RC.out)
      have N2 := mkHid (k2.lower KB.out.size)
      replace KB := mkHid (KB.out.trans (hb.mono (Nat.le_trans KM.out KB.out.size)))
      clear hb
      refine tKx (i := 14) (v := .agg #[.slice p1 n1 c1, .slice p2 n2 c2]) rfl rfl (by kernel_rfl) (fun _ _ _ h => h) ?_ hH ?_
      ·intro w5 hSw; obtain ⟨s0, s1, s2, s3, s4, s5⟩ := hSw; go_simp
      simp only [zA9, zB9, zC9]
      refine wpAnyH_ready (rs := [15]) (by kernel_rfl) (by simp) ?_
      refine AllReadyH.cons rfl (fun K hK => ?_) AllReadyH.nil
      ·have q0 : W5.cell? ⟨(w.heap.size + 1 + 1 + 1), 0, none⟩ = some (.slice none 0 0) := (cell_of_block RC.out 0).trans rfl
       have q1 : W5.cell? ⟨(w.heap.size + 1 + 1 + 1), 1, none⟩ = some (.slice none 0 0) := (cell_of_block RC.out 1).trans rfl
       have y0 := unfrozen_of_block RC.out 0
       have y1 := unfrozen_of_block RC.out 1
       go_simp
       refine hK.out _ _ (KS.out _ (below_set (below_set KB.out ⟨(w.heap.size + 1 + 1 + 1), 0, none⟩ (.slice p1 n1 c1) (Nat.le_refl _)) ⟨(w.heap.size + 1 + 1 + 1), 1, none⟩ (.slice p2 n2 c2) (Nat.le_refl _))) (fun hH => ?_)
       clear hK K
       refine wpAnyH_done (by kernel_rfl) ?_ _
       refine NoPanic.normal ?_
       have FN := FIN.out W5 _ _ _ _ KB.out N1.out N2.out z2
       clear N1 N2 KB RC KS hH
       go_wp2_with fail
       refine bodyPost_ret (v := .agg #[.slice p1 n1 c1, .slice p2 n2 c2]) (by simp [results, Tryz.results82, go_sem, q0, q1]) rfl ?_
       exact FN
 ·go_simp
  refine hK.out _ _ (KS.out _ (KB.out.alloc (Nat.le_trans KM.out KB.out.size) _)) (fun hH => ?_)
  clear hK K
  have hb := (Below.refl W0.heap.size W0).alloc (Nat.le_refl _) (.cells #[.slice yl.p yl.n yl.c, .slice yr.p yr.n yr.c] 58)
  replace RC := mkHid ((hb.block _ (lt_of_heap RC.out)).trans RC.out)
  have P2 : Hid (pcsAt (W0.alloc (.cells #[.slice yl.p yl.n yl.c, .slice yr.p yr.n yr.c] 58)) W0.heap.size [yl, yr]) := mkHid (pcs_new W0 [yl, yr] 58)
  replace KB := mkHid (KB.out.trans (hb.mono (Nat.le_trans KM.out KB.out.size)))
  clear hb
  generalize W0.alloc (.cells #[.slice yl.p yl.n yl.c, .slice yr.p yr.n yr.c] 58) = W1 at KB P2 RC hH ⊢
  refine wpAnyH_ready (rs := [3]) (by kernel_rfl) (by simp) ?_
  refine AllReadyH.cons rfl (fun K hK => ?_) AllReadyH.nil
  ·go_simp
   refine hK.out _ _ (KS.out _ (KB.out.alloc (Nat.le_trans KM.out KB.out.size) _)) (fun hH => ?_)
   clear hK K
   have hb := (Below.refl W1.heap.size W1).alloc (Nat.le_refl _) (.cells #[.slice (some ⟨m.g, 0, none⟩) m.e.key.length m.c, .int .u64 m.e.id] 65)
   replace P2 := mkHid (P2.out.below hb)
   replace RC := mkHid ((hb.block _ (lt_of_heap RC.out)).trans RC.out)
   have EO : Hid (Pc.ok 2 (W1.alloc (.cells #[.slice (some ⟨m.g, 0, none⟩) m.e.key.length m.c, .int .u64 m.e.id] 65)) ⟨some ⟨W1.heap.size, 0, none⟩, 1, 1, emE m⟩) := mkHid (pc_new W1 1 (emE m) 65 2 rfl (emE_one m))
   replace KB := mkHid (KB.out.trans (hb.mono (Nat.le_trans KM.out KB.out.size)))
   clear hb
   generalize W1.alloc (.cells #[.slice (some ⟨m.g, 0, none⟩) m.e.key.length m.c, .int .u64 m.e.id] 65) = W2 at KB P2 EO RC hH ⊢
   refine wpAnyH_ready (rs := [6]) (by kernel_rfl) (by simp) ?_
   refine AllReadyH.cons rfl (fun K hK => ?_) AllReadyH.nil
   ·go_simp
    refine hK.out _ _ (KS.out _ (KB.out.alloc (Nat.le_trans KM.out KB.out.size) _)) (fun hH => ?_)
    clear hK K
    have hb := (Below.refl W2.heap.size W2).alloc (Nat.le_refl _) (.cells #[.slice xl.p xl.n xl.c, .slice (some ⟨W1.heap.size, 0, none⟩) 1 1, .slice xr.p xr.n xr.c] 57)
    replace P2 := mkHid (P2.out.below hb)
    replace EO := mkHid (EO.out.below hb)
    replace RC := mkHid ((hb.block _ (lt_of_heap RC.out)).trans RC.out)
    have P1 : Hid (pcsAt (W2.alloc (.cells #[.slice xl.p xl.n xl.c, .slice (some ⟨W1.heap.size, 0, none⟩) 1 1, .slice xr.p xr.n xr.c] 57)) W2.heap.size [xl, ⟨some ⟨W1.heap.size, 0, none⟩, 1, 1, emE m⟩, xr]) := mkHid (pcs_new W2 [xl, ⟨some ⟨W1.heap.size, 0, none⟩, 1, 1, emE m⟩, xr] 57)
    replace KB := mkHid (KB.out.trans (hb.mono (Nat.le_trans KM.out KB.out.size)))
    clear hb
    generalize W2.alloc (.cells #[.slice xl.p xl.n xl.c, .slice (some ⟨W1.heap.size, 0, none⟩) 1 1, .slice xr.p xr.n xr.c] 57) = W3 at KB P2 EO P1 RC hH ⊢
    refine wpAnyH_ready (rs := [7]) (by kernel_rfl) (by simp) ?_
    refine AllReadyH.cons rfl (fun K hK => ?_) AllReadyH.nil
    ·go_simp
     go_at_call 52
     refine (CE.out _ _ _ KB.out P1.out EO.out).mono ?_
     rintro e W4 ⟨p1, c1, rfl, k1, _, hb⟩
     go_wp2_with fail
     refine hK.out _ _ (KS.out _ (KB.out.trans (hb.mono (Nat.le_trans KM.out KB.out.size)))) (fun hH => ?_)
     clear hK K
     clear P1
     clear EO
     replace P2 := mkHid (P2.out.below hb)
     replace RC := mkHid ((hb.block _ (lt_of_heap RC.out)).trans RC.out)
     have N1 := mkHid (k1.lower KB.out.size)
     replace KB := mkHid (KB.out.trans (hb.mono (Nat.le_trans KM.out KB.out.size)))
     clear hb
     refine wpAnyH_ready (rs := [13]) (by kernel_rfl) (by simp) ?_
     refine AllReadyH.cons rfl (fun K hK => ?_) AllReadyH.nil
     ·go_simp
      go_at_call 81
      refine (CN.out _ _ KB.out P2.out).mono ?_
      rintro e W5 ⟨p2, c2, rfl, k2, z2, hb⟩
      go_wp2_with fail
      refine hK.out _ _ (KS.out _ (KB.out.trans (hb.mono (Nat.le_trans KM.out KB.out.size)))) (fun hH => ?_)
      clear hK K
      clear P2
      replace N1 := mkHid (N1.out.below hb)
      replace RC := mkHid ((hb.block _ (lt_of_heap RC.out)).trans RC.out)
      have N2 := mkHid (k2.lower KB.out.size)
      replace KB := mkHid (KB.out.trans (hb.mono (Nat.le_trans KM.out KB.out.size)))
      clear hb
      refine tKx (i := 14) (v := .agg #[.slice p1 n1 c1, .slice p2 n2 c2]) rfl rfl (by kernel_rfl) (fun _ _ _ h => h) ?_ hH ?_
      ·intro w5 hSw; obtain ⟨s0, s1, s2, s3, s4, s5⟩ := hSw; go_simp
      simp only [zA9, zB9, zC9]
      refine wpAnyH_ready (rs := [15]) (by kernel_rfl) (by simp) ?_
      refine AllReadyH.cons rfl (fun K hK => ?_) AllReadyH.nil
      ·have q0 : W5.cell? ⟨(w.heap.size + 1 + 1 + 1), 0, none⟩ = some (.slice none 0 0) := (cell_of_block RC.out 0).trans rfl
       have q1 : W5.cell? ⟨(w.heap.size + 1 + 1 + 1), 1, none⟩ = some (.slice none 0 0) := (cell_of_block RC.out 1).trans rfl
       have y0 := unfrozen_of_block RC.out 0
       have y1 := unfrozen_of_block RC.out 1
       go_simp
       refine hK.out _ _ (KS.out _ (below_set (below_set KB.out ⟨(w.heap.size + 1 + 1 + 1), 0, none⟩ (.slice p1 n1 c1) (Nat.le_refl _)) ⟨(w.heap.size + 1 + 1 + 1), 1, none⟩ (.slice p2 n2 c2) (Nat.le_refl _))) (fun hH => ?_)
       clear hK K
       refine wpAnyH_done (by kernel_rfl) ?_ _
       refine NoPanic.normal ?_
       have FN := FIN.out W5 _ _ _ _ KB.out N1.out N2.out z2
       clear N1 N2 KB RC KS hH
       go_wp2_with fail
       refine bodyPost_ret (v := .agg #[.slice p1 n1 c1, .slice p2 n2 c2]) (by simp [results, Tryz.results82, go_sem, q0, q1]) rfl ?_
       exact FN
end Go.Proofs.YtclcajnodoifjaaGreatDoor

