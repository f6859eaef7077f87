/-
 The walk of Put.
-/
import Derived.Test.YtclcajnodoifjaaGreatDoorIAO
namespace Go.Proofs.YtclcajnodoifjaaGreatDoor
open Go.RowKit Go.Shelf Go.Joins Go.Maps
set_option maxRecDepth 100000

/-- what Put of an entry leaves -/
def PuQ (T : Nat → Prop) (w : World) (bt : Nat) (u : Bool) (sz : Int) (y : En) (L : List Em) (e : Ending) (w' : World) : Prop :=
 (clB u y L = true ∧ e = .returned (.int .i64 50) ∧ Below w.heap.size w w') ∨ (clB u y L = false ∧ 4096 ≤ sz ∧ e = .returned (.int .i64 2) ∧ Below w.heap.size w w') ∨ (clB u y L = false ∧ sz < 4096 ∧ e = .returned (.int .i64 0) ∧ ∃ m : Em, m.e = y ∧ TrQ T w bt u (sz + 1) (ins ltM m L) w')
theorem kepV_fit {v : Va} (h : fit v.n) : fit (kepV v).n := by
 unfold kepV
 split
 ·exact (⟨by decide, by decide⟩ : fit 0)
 ·split
  ·exact (⟨by decide, by decide⟩ : fit 0)
  ·exact h
theorem keyE_zero {k : List Va} (h : keyE k = 0) : 0 < k.length ∧ k.length ≤ 4 ∧ errs k = 0 := by
 unfold keyE at h
 split at h
 ·cases h
 ·rename_i hh
  exact ⟨by omega, by omega, h⟩
set_option maxHeartbeats 2000000 in
theorem Put_bad (k : List Va) (id : Int) (q : Option Addr) (cq bt : Nat) (w : World) (hl : k.length ≤ 1000000000) (hk : rowAt w q k) (hs : ∀ v ∈ k, v.s.size ≤ 9223372036854775807) (hT : Tabs w) (hE : keyE k ≠ 0) :
  Calls Tryz.prog 8 #[.pointer (some ⟨bt, 0, none⟩), .slice q k.length cq, .int .u64 id] w fun e w' => e = .returned (.int .i64 (keyE k)) ∧ Below w.heap.size w w' := by
 have CK := mkHid (checkKey_any q cq k w hl hk hs hT)
 generalize keyE k = E at *
 have hne : (E != 0) = true := by rw [bne_iff_ne]; exact hE
 clear hk hs
 go_enter Tryz.func8, Tryz.ntmps8
 go_wp2_with (go_at_call 20; refine CK.out.mono ?_; rintro e w1 ⟨rfl, b1⟩)
 go_ret
 exact ⟨rfl, b1⟩
set_option maxHeartbeats 4000000 in
theorem putted (T : Nat → Prop) (m : Em) (d : Nat) (n : Nd Em) (v1 v2 : Value) (w : World) (hT : ∀ b, w.heap.size ≤ b → T b) (hn : RtIn T w d (min d 1) n v1 v2) (hm : KeyOk T w m) :
  Calls Tryz.prog 24 #[.agg #[v1, v2], emV m] w (fun en w' => NdQ T w d (n.putN ltM d m) en w') := put_any d T n m (min d 1) v1 v2 w hT hn.nd hm hn.wf hn.ne hn.up
theorem putted2 {T : Nat → Prop} {m : Em} {d : Nat} {n : Nd Em} {v1 v2 : Value} {w : World} (hn : RtIn T w d (min d 1) n v1 v2) : (n.putN ltM d m).fl = ins ltM m n.fl ∧ (n.putN ltM d m).wf d 0 17 := by
 obtain ⟨e1, e2⟩ := put_ok (e := m) ord3M d hn.wf hn.up
 have h1 := wf_len e2
 have h2 := wf_len hn.wf
 exact ⟨e1, wf_mono e2 (by omega) (by omega)⟩
set_option maxHeartbeats 8000000 in
set_option maxRecDepth 1000000 in
theorem Put_ok (T : Nat → Prop) (k : List Va) (id : Int) (q : Option Addr) (cq d bt : Nat) (n : Nd Em) (p1 : Option Addr) (n1 c1 : Nat) (p2 : Option Addr) (n2 c2 : Nat) (u : Bool) (sz : Int) (w : World) (hn : RtIn T w d (min d 1) n (.slice p1 n1 c1) (.slice p2 n2 c2)) (ht : w.heap[bt]? = some (trO u (.slice p1 n1 c1) (.slice p2 n2 c2) sz)) (hk : rowAt w q k) (fk : ∀ v ∈ k, fit v.n) (hs : ∀ v ∈ k, v.s.size ≤ 9223372036854775807) (hTb : Tabs w) (hE : keyE k = 0) (hT : ∀ b, w.heap.size ≤ b → T b) (ho : ¬ T bt) (s1 : 0 ≤ sz) (s2 : sz ≤ 4611686018427387904) :
  Calls Tryz.prog 8 #[.pointer (some ⟨bt, 0, none⟩), .slice q k.length cq, .int .u64 id] w fun e w' => PuQ T w bt u sz ⟨k.map kepV, id⟩ n.fl e w' := by
 obtain ⟨l1, l2, _⟩ := keyE_zero hE
 have CK : Hid (Calls Tryz.prog 20 #[.slice q k.length cq] w fun e w' => e = .returned (.int .i64 0) ∧ Below w.heap.size w w') := by
  have := checkKey_any q cq k w (by omega) hk hs hTb
  rwa [hE] at this
 obtain ⟨g0, rfl, hv⟩ : ∃ g0, q = some ⟨g0, 0, none⟩ ∧ valsAt w g0 k := by
  rcases hk with h | h
  ·rw [h] at l1; cases l1
  ·exact h
 have KK : Hid (∀ W, Below w.heap.size w W → Calls Tryz.prog 21 #[.slice (some ⟨g0, 0, none⟩) k.length cq] W fun e w' => e = .returned (.slice (some ⟨W.heap.size, 0, none⟩) k.length k.length) ∧ valsAt w' W.heap.size (k.map kepV) ∧ Below W.heap.size W w') := fun W hb => keptKey_any g0 k cq W (hv.below hb) (by omega)
 have MO : Hid (∀ W g, w.heap.size ≤ g → valsAt W g (k.map kepV) → KeyOk T W ⟨⟨k.map kepV, id⟩, g, k.length⟩) := fun W g hg hw => ⟨hT g hg, hw, by simp; omega, by simp; omega, by simp, fun v hv => by obtain ⟨x, hx, rfl⟩ := List.mem_map.1 hv; exact kepV_fit (fk x hx)⟩
 have CL : Hid (∀ W g, w.heap.size ≤ g → Below w.heap.size w W → valsAt W g (k.map kepV) → Calls Tryz.prog 22 #[.pointer (some ⟨bt, 0, none⟩), .agg #[.slice (some ⟨g, 0, none⟩) k.length k.length, .int .u64 id]] W fun e w' => e = .returned (.bool (clB u ⟨k.map kepV, id⟩ n.fl)) ∧ Below W.heap.size W w') := fun W g hg hb hw => by
  have := clashes_any T ⟨k.map kepV, id⟩ (some ⟨g, 0, none⟩) k.length d (min d 1) bt n p1 n1 c1 p2 n2 c2 u sz W (hn.keeps (Keeps.of_below hb)) ((hb.block _ (lt_of_heap ht)).trans ht) (MO.out W g hg hw).at_ (by simp; omega)
  simp only [enV, List.length_map] at this
  exact this
 have lb := lt_of_heap ht
 have HY : Hid (∀ W, Below w.heap.size w W → W.heap[bt]? = some (trO u (.slice p1 n1 c1) (.slice p2 n2 c2) sz)) := fun W hb => (hb.block _ lb).trans ht
 have HN := mkHid hn
 have HO := mkHid ho
 have HTT := mkHid hT
 obtain ⟨N, hN⟩ : ∃ N, N = k.length := ⟨_, rfl⟩
 rw [← hN] at CK KK MO CL ⊢
 have HLN : Hid ((k.map kepV).length = N) := by rw [hN]; exact List.length_map _
 clear hn ht hk fk hs hTb hE hT ho hv l1 l2 hN
 obtain ⟨Y, hY⟩ : ∃ Y : En, Y = ⟨k.map kepV, id⟩ := ⟨_, rfl⟩
 obtain ⟨YK, hYK⟩ : ∃ YK : List Va, YK = k.map kepV := ⟨_, rfl⟩
 rw [← hYK] at KK MO CL hY HLN ⊢
 rw [← hY] at CL ⊢
 have HYY : Hid (Y = ⟨YK, id⟩) := hY
 clear hY hYK
 go_enter Tryz.func8, Tryz.ntmps8
 go_wp2_with (first | (go_at_call 20; refine CK.out.mono ?_; rintro e w1 ⟨rfl, b1⟩) | (go_at_call 21; refine (KK.out _ b1).mono ?_; rintro e w2 ⟨rfl, k2, b2⟩))
 obtain ⟨g, hg⟩ : ∃ g, g = w1.heap.size := ⟨_, rfl⟩
 rw [← hg] at k2 ⊢
 obtain ⟨M, hM⟩ : ∃ M, M = w2.heap.size := ⟨_, rfl⟩
 obtain ⟨w0, hw0⟩ : ∃ w0, w0 = w2.alloc (.cells #[.slice (some ⟨g, 0, none⟩) N N, .int .u64 id] 65) := ⟨_, rfl⟩
 rw [← hw0, ← hM]
 have gl : w.heap.size ≤ g := by rw [hg]; exact b1.size
 have d0 : w0.heap[M]? = some (.cells #[.slice (some ⟨g, 0, none⟩) N N, .int .u64 id] 65) := by rw [hw0, hM]; exact heap_alloc_new _ _
 have b12 : Below w.heap.size w w2 := b1.trans (b2.mono b1.size)
 have b20 : Below w2.heap.size w2 w0 := by rw [hw0]; exact (Below.refl _ w2).alloc (Nat.le_refl _) _
 have bw0 : Below w.heap.size w w0 := b12.trans (b20.mono b12.size)
 have k0 := k2.below b20
 have Mw : w.heap.size ≤ M := by rw [hM]; exact b12.size
 clear hw0 b1 b2 b12 b20 k2 hg hM CK KK
 have j0 : w0.cell? ⟨M, 0, none⟩ = some (.slice (some ⟨g, 0, none⟩) N N) := (cell_of_block d0 0).trans rfl
 have j1 : w0.cell? ⟨M, 1, none⟩ = some (.int .u64 id) := (cell_of_block d0 1).trans rfl
 have HK0 := mkHid k0
 have BW0 := mkHid bw0
 clear k0 bw0
 cases hc : clB u Y n.fl with
 | true =>
  rw [hc] at CL
  have HC := mkHid hc
  clear hc
  go_wp2_with (go_at_call 22; refine (CL.out _ g gl BW0.out HK0.out).mono ?_; rintro e w3 ⟨rfl, b3⟩)
  go_ret
  exact Or.inl ⟨HC.out, rfl, BW0.out.trans (b3.mono BW0.out.size)⟩
 | false =>
 rw [hc] at CL
 have HC := mkHid hc
 clear hc
 by_cases hsz : 4096 ≤ sz
 ·go_wp2_with (go_at_call 22; refine (CL.out _ g gl BW0.out HK0.out).mono ?_; rintro e w3 ⟨rfl, b3⟩; have z3 : w3.cell? ⟨bt, 3, none⟩ = some (.int .i64 sz) := (cell_of_block (HY.out w3 (BW0.out.trans (b3.mono BW0.out.size))) 3).trans rfl)
  go_ret
  exact Or.inr (Or.inl ⟨HC.out, hsz, rfl, BW0.out.trans (b3.mono BW0.out.size)⟩)
 go_wp2_with (go_at_call 22; refine (CL.out _ g gl BW0.out HK0.out).mono ?_; rintro e w3 ⟨rfl, b3⟩; have z3 : w3.cell? ⟨bt, 3, none⟩ = some (.int .i64 sz) := (cell_of_block (HY.out w3 (BW0.out.trans (b3.mono BW0.out.size))) 3).trans rfl)
 have DR : Hid (∀ W, Below w.heap.size w W → valsAt W g YK → Calls Tryz.prog 24 #[.agg #[.slice p1 n1 c1, .slice p2 n2 c2], .agg #[.slice (some ⟨g, 0, none⟩) N N, .int .u64 id]] W fun en w' => (∃ p3 n3 c3 p4 n4 c4, en = .returned (.agg #[.slice p3 n3 c3, .slice p4 n4 c4]) ∧ ndIn T w' d (n.putN ltM d ⟨⟨YK, id⟩, g, N⟩) (.slice p3 n3 c3) (.slice p4 n4 c4)) ∧ Below W.heap.size W w') := fun W hW hv => by
  have hm := MO.out W g gl hv
  have := putted T ⟨⟨YK, id⟩, g, N⟩ d n _ _ W (fun b hb => HTT.out b (Nat.le_trans hW.size hb)) (HN.out.keeps (Keeps.of_below hW)) hm
  have hlen : YK.length = N := HLN.out
  simp only [emV, enV, hlen] at this
  refine this.mono (fun en w' h => ?_)
  obtain ⟨r1, r2, e1, e2, e3⟩ := h
  obtain ⟨p3, c3, p4, c4, rfl, rfl⟩ := e2.slices
  exact ⟨⟨_, _, _, _, _, _, e1, e2⟩, e3⟩
 obtain ⟨RN, hRN⟩ : ∃ RN, RN = n.putN ltM d ⟨⟨YK, id⟩, g, N⟩ := ⟨_, rfl⟩
 rw [← hRN] at DR
 have FW : Hid (RN.fl = ins ltM ⟨⟨YK, id⟩, g, N⟩ n.fl ∧ RN.wf d 0 17) := by rw [hRN]; exact putted2 HN.out
 have AR : Hid (∀ W p3 n3 c3 p4 n4 c4, w.heap.size ≤ W.heap.size → ndIn T W d RN (.slice p3 n3 c3) (.slice p4 n4 c4) → Calls Tryz.prog 23 #[.agg #[.slice p3 n3 c3, .slice p4 n4 c4]] W fun en w' => (∃ p5 n5 c5 p6 n6 c6, en = .returned (.agg #[.slice p5 n5 c5, .slice p6 n6 c6]) ∧ ∃ d', ndIn T w' d' RN.rootN (.slice p5 n5 c5) (.slice p6 n6 c6) ∧ RN.rootN.tree d') ∧ Below W.heap.size W w') := fun W p3 n3 c3 p4 n4 c4 hW hd => by
  refine (asRoot_any T d _ _ _ W (fun b hb => HTT.out b (Nat.le_trans hW hb)) hd FW.out.2).mono (fun en w' h => ?_)
  obtain ⟨d', ⟨r1, r2, e1, e2, e3⟩, e4⟩ := h
  obtain ⟨p5, c5, p6, c6, rfl, rfl⟩ := e2.slices
  exact ⟨⟨_, _, _, _, _, _, e1, d', e2, e4⟩, e3⟩
 have FL : Hid (RN.rootN.fl = ins ltM ⟨⟨YK, id⟩, g, N⟩ n.fl) := (root_ok FW.out.2).1.trans FW.out.1
 have bw3 : Below w.heap.size w w3 := BW0.out.trans (b3.mono BW0.out.size)
 have bd : w3.heap[M]? = some (.cells #[.slice (some ⟨g, 0, none⟩) N N, .int .u64 id] 65) := (b3.block _ (lt_of_heap d0)).trans d0
 have kv3 : Hid (valsAt w3 g YK) := HK0.out.below b3
 have BT : Hid (∀ W, Below w3.heap.size w3 W → W.heap[bt]? = some (trO u (.slice p1 n1 c1) (.slice p2 n2 c2) sz)) := fun W hW => HY.out W (bw3.trans (hW.mono bw3.size))
 have KS : Hid (∀ w', Chg (fun b => b = bt) w3 w' → (fun w' : World => w'.cell? ⟨M, 0, none⟩ = some (.slice (some ⟨g, 0, none⟩) N N) ∧ w'.cell? ⟨M, 1, none⟩ = some (.int .u64 id)) w') := fun w' hc => by
  have := (hc.at_ bd (fun e => by omega))
  exact ⟨(cell_of_block this 0).trans rfl, (cell_of_block this 1).trans rfl⟩
 have BW := mkHid bw3
 clear j0 j1 d0 b3 bd bw3 HK0 BW0 CL MO HN HY HTT FW hRN z3
 refine wp_region_noPanic ?_
 refine wp_region_held_drew (S := fun w' : World => w'.cell? ⟨M, 0, none⟩ = some (.slice (some ⟨g, 0, none⟩) N N) ∧ w'.cell? ⟨M, 1, none⟩ = some (.int .u64 id)) (by kernel_rfl) (KS.out _ (Chg.refl _ _).drew) (fun hH => ?_)
 refine tKx (i := 0) (v := .pointer (some ⟨bt, 0, none⟩)) rfl rfl (by kernel_rfl) (fun _ _ _ h => h) ?_ hH ?_
 ·intro w5 hSw; obtain ⟨s0, s1⟩ := hSw; go_simp
 simp only [zA9, zB9, zC9]
 refine tKx (i := 1) (v := .pointer (some ⟨bt, 0, none⟩)) rfl rfl (by kernel_rfl) (fun _ _ _ h => h) ?_ hH ?_
 ·intro w5 hSw; obtain ⟨s0, s1⟩ := hSw; go_simp
 simp only [zA9, zB9, zC9]
 refine tKx (i := 2) (v := .pointer (some ⟨bt, 0, none⟩)) rfl rfl (by kernel_rfl) (fun _ _ _ h => h) ?_ hH ?_
 ·intro w5 hSw; obtain ⟨s0, s1⟩ := hSw; go_simp
 simp only [zA9, zB9, zC9]
 refine tKx (i := 3) (v := .pointer (some ⟨bt, 1, none⟩)) rfl rfl (by kernel_rfl) (fun _ _ _ h => h) ?_ hH ?_
 ·intro w5 hSw; obtain ⟨s0, s1⟩ := hSw; go_simp
 simp only [zA9, zB9, zC9]
 refine tKx (i := 5) (v := .agg #[.slice (some ⟨g, 0, none⟩) N N, .int .u64 id]) rfl rfl (by kernel_rfl) (fun _ _ _ h => h) ?_ hH ?_
 ·intro w5 hSw; obtain ⟨s0, s1⟩ := hSw; go_simp
 simp only [zA9, zB9, zC9]
 refine wpAnyH_ready (rs := [4]) (by kernel_rfl) (by simp) ?_
 refine AllReadyH.cons rfl (fun K hK => ?_) AllReadyH.nil
 have k1 : w3.drew.cell? ⟨bt, 1, none⟩ = some (.slice p1 n1 c1) := (cell_of_block (BT.out _ (Below.refl _ _).drew) 1).trans rfl
 have k2 : w3.drew.cell? ⟨bt, 2, none⟩ = some (.slice p2 n2 c2) := (cell_of_block (BT.out _ (Below.refl _ _).drew) 2).trans rfl
 go_simp
 refine hK.out _ _ (KS.out _ (Chg.refl _ _).drew) (fun hH => ?_)
 clear hK K k1 k2
 refine wpAnyH_ready (rs := [6]) (by kernel_rfl) (by simp) ?_
 refine AllReadyH.cons rfl (fun K hK => ?_) AllReadyH.nil
 go_simp
 go_at_call 24
 refine (DR.out _ (BW.out.trans ((Below.refl _ w3).drew.mono BW.out.size)) (kv3.out.below (Below.refl _ w3).drew)).mono ?_
 rintro e W1 ⟨⟨p3, n3, c3, p4, n4, c4, rfl, k3⟩, hb1⟩
 have HN3 := mkHid k3
 clear k3
 go_wp2_with fail
 have B1 : Hid (Below w3.heap.size w3 W1) := (Below.refl _ w3).drew.trans hb1
 clear hb1
 refine hK.out _ _ (KS.out _ (chg_bl B1.out)) (fun hH => ?_)
 clear hK K
 refine wpAnyH_ready (rs := [7]) (by kernel_rfl) (by simp) ?_
 refine AllReadyH.cons rfl (fun K hK => ?_) AllReadyH.nil
 go_simp
 go_at_call 23
 refine (AR.out _ _ _ _ _ _ _ (Nat.le_trans BW.out.size B1.out.size) HN3.out).mono ?_
 rintro e W2 ⟨⟨p5, n5, c5, p6, n6, c6, rfl, d5, k5, k6⟩, hb2⟩
 have HN5 := mkHid k5
 have HN6 := mkHid k6
 clear k5 k6
 go_wp2_with fail
 have B2 : Hid (Below w3.heap.size w3 W2) := B1.out.trans (hb2.mono B1.out.size)
 clear hb2
 refine hK.out _ _ (KS.out _ (chg_bl B2.out)) (fun hH => ?_)
 clear hK K
 refine tKx (i := 8) (v := .pointer (some ⟨bt, 0, none⟩)) rfl rfl (by kernel_rfl) (fun _ _ _ h => h) ?_ hH ?_
 ·intro w5 hSw; obtain ⟨s0, s1⟩ := hSw; go_simp
 simp only [zA9, zB9, zC9]
 refine tKx (i := 9) (v := .pointer (some ⟨bt, 1, none⟩)) rfl rfl (by kernel_rfl) (fun _ _ _ h => h) ?_ hH ?_
 ·intro w5 hSw; obtain ⟨s0, s1⟩ := hSw; go_simp
 simp only [zA9, zB9, zC9]
 have RC := BT.out _ B2.out
 refine wpAnyH_ready (rs := [10]) (by kernel_rfl) (by simp) ?_
 refine AllReadyH.cons rfl (fun K hK => ?_) AllReadyH.nil
 have q0 : W2.cell? ⟨bt, 1, none⟩ = some (.slice p1 n1 c1) := (cell_of_block RC 1).trans rfl
 have q1 : W2.cell? ⟨bt, 2, none⟩ = some (.slice p2 n2 c2) := (cell_of_block RC 2).trans rfl
 have y0 := unfrozen_of_block RC 1
 have y1 := unfrozen_of_block RC 2
 go_simp
 have CG : Hid (Chg (fun b => b = bt) w3 ((W2.setCell ⟨bt, 1, none⟩ (.slice p5 n5 c5)).setCell ⟨bt, 2, none⟩ (.slice p6 n6 c6))) := chg_set (X := fun b => b = bt) (chg_set (X := fun b => b = bt) (chg_bl B2.out) ⟨bt, 1, none⟩ (.slice p5 n5 c5) rfl) ⟨bt, 2, none⟩ (.slice p6 n6 c6) rfl
 refine hK.out _ _ (KS.out _ CG.out) (fun hH => ?_)
 clear hK K q0 q1 y0 y1
 refine wpAnyH_done (by kernel_rfl) ?_ _
 refine NoPanic.normal ?_
 have RD : ((W2.setCell ⟨bt, 1, none⟩ (.slice p5 n5 c5)).setCell ⟨bt, 2, none⟩ (.slice p6 n6 c6)).heap[bt]? = some (trO u (.slice p5 n5 c5) (.slice p6 n6 c6) sz) := heap_set_in (heap_set_in RC)
 have ND : Hid (ndIn T ((W2.setCell ⟨bt, 1, none⟩ (.slice p5 n5 c5)).setCell ⟨bt, 2, none⟩ (.slice p6 n6 c6)) d5 RN.rootN (.slice p5 n5 c5) (.slice p6 n6 c6)) := HN5.out.keeps ((Keeps.set _ HO.out).trans (Keeps.set _ HO.out))
 generalize (W2.setCell ⟨bt, 1, none⟩ (.slice p5 n5 c5)).setCell ⟨bt, 2, none⟩ (.slice p6 n6 c6) = w5 at RD ND CG hH ⊢
 have FN : Hid (PuQ T w bt u sz Y n.fl (.returned (.int .i64 0)) (w5.setCell ⟨bt, 3, none⟩ (.int .i64 (sz + 1)))) := Or.inr (Or.inr ⟨HC.out, by omega, rfl, ⟨⟨YK, id⟩, g, N⟩, HYY.out.symm, d5, _, _, _, _, _, _, _, heap_set_in RD, ND.out.keeps (Keeps.set _ HO.out), HN6.out, FL.out, chg_set ((show Chg (fun b => b = bt) w w3 from chg_bl BW.out).trans CG.out) ⟨bt, 3, none⟩ _ rfl⟩)
 have z3 : w5.cell? ⟨bt, 3, none⟩ = some (.int .i64 sz) := (cell_of_block RD 3).trans rfl
 have x3 := unfrozen_of_block RD 3
 have wr : IntKind.i64.wrap (sz + 1) = sz + 1 := by rw [IntKind.wrap_i64]; omega
 clear RD ND CG RC B1 B2 HN3 HN5 HN6 KS BT DR AR FL BW hH HC HYY
 go_wp2_with fail
 go_ret
 exact FN.out
end Go.Proofs.YtclcajnodoifjaaGreatDoor

