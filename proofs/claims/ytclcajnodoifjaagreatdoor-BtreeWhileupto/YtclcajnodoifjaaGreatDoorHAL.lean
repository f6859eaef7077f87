/-
  The walk of Drop where there is one.
-/
import Derived.Test.YtclcajnodoifjaaGreatDoorHAK
import Derived.Test.YtclcajnodoifjaaGreatDoorHAE
namespace Go.Proofs.YtclcajnodoifjaaGreatDoor
open Go.RowKit Go.Shelf Go.Joins Go.Maps
set_option maxRecDepth 100000

/-- a tree that was changed: what it holds now -/
def TrQ (T : Nat → Prop) (w : World) (bt : Nat) (u : Bool) (sz : Int) (L : List Em) (w' : World) : Prop := ∃ d n p1 n1 c1 p2 n2 c2, w'.heap[bt]? = some (trO u (.slice p1 n1 c1) (.slice p2 n2 c2) sz) ∧ ndIn T w' d n (.slice p1 n1 c1) (.slice p2 n2 c2) ∧ n.tree d ∧ n.fl = L ∧ Chg (fun b => b = bt) w w'
set_option maxHeartbeats 4000000 in
theorem dropped (T : Nat → Prop) (m : Em) (d : Nat) (n : Nd Em) (v1 v2 : Value) (q : Option Addr) (cq : Nat) (w : World) (hT : ∀ b, w.heap.size ≤ b → T b) (hn : RtIn T w d (min d 1) n v1 v2) (hy : EnAt w q m.e) (hx : ofEn m.e n.fl ≠ []) :
    Calls Tryz.prog 27 #[.agg #[v1, v2], enV q cq m.e] w (fun en w' => NdQ T w d (n.dropN ltM d m) en w') ∧ (n.dropN ltM d m).fl = del ltM m n.fl ∧ (n.dropN ltM d m).wf d 0 17 := by
  obtain ⟨x, hxx⟩ : ∃ x, x ∈ ofEn m.e n.fl := List.exists_mem_of_ne_nil _ hx
  obtain ⟨x1, x2⟩ := ofEn_mem.1 hxx
  have h2 : ordE m.e x.e = 0 := by
    have a1 := od_ordE.turn x.e m.e
    omega
  have g : ∃ x ∈ n.fl, ltM x m = false ∧ ltM m x = false := ⟨x, x1, ltE_not.2 (by omega), ltE_not.2 (by omega)⟩
  have h1 : 1 ≤ n.es.length := by
    cases d with
    | zero =>
      have := fl_zero hn.wf
      rw [this] at x1
      exact List.length_pos_of_mem x1
    | succ d => exact hn.ne (by omega)
  have hl := wf_len hn.wf
  obtain ⟨e1, e2⟩ := drop_ok ord3M d hn.wf h1 hn.up g
  have hl2 := wf_len e2
  exact ⟨drop_any d T n m q cq (min d 1) v1 v2 w hT hn.nd hy hn.wf h1 hn.up g, e1, wf_mono e2 (by omega) (by omega)⟩
set_option maxHeartbeats 4000000 in
set_option maxRecDepth 1000000 in
theorem Drop_yes (T : Nat → Prop) (y : En) (q : Option Addr) (cq d bt : Nat) (n : Nd Em) (p1 : Option Addr) (n1 c1 : Nat) (p2 : Option Addr) (n2 c2 : Nat) (u : Bool) (sz : Int) (w : World) (hn : RtIn T w d (min d 1) n (.slice p1 n1 c1) (.slice p2 n2 c2)) (ht : w.heap[bt]? = some (trO u (.slice p1 n1 c1) (.slice p2 n2 c2) sz)) (hy : EnAt w q y) (m : Em) (em : m.e = y) (hT : ∀ b, w.heap.size ≤ b → T b) (ho : ¬ T bt) (hx : ofEn y n.fl ≠ []) (s1 : 1 ≤ sz) (s2 : sz ≤ 4611686018427387904) :
    Calls Tryz.prog 9 #[.pointer (some ⟨bt, 0, none⟩), .slice q y.key.length cq, .int .u64 y.id] w fun e w' => e = .returned (.bool true) ∧ TrQ T w bt u (sz - 1) (del ltM m n.fl) w' := by
  obtain ⟨w0, hw0⟩ : ∃ w0, w0 = w.alloc (.cells #[.slice q y.key.length cq, .int .u64 y.id] 65) := ⟨_, rfl⟩
  have d0 : w0.heap[w.heap.size]? = some (.cells #[.slice q y.key.length cq, .int .u64 y.id] 65 (0, 0)) := by rw [hw0]; exact heap_alloc_new _ _
  have b0 : Below w.heap.size w w0 := by rw [hw0]; exact (Below.refl _ w).alloc (Nat.le_refl _) _
  have HAS : Hid (∀ w1 B, Below w0.heap.size w0 w1 → w1.heap[B]? = some (.cells #[.slice q y.key.length cq, .int .u64 y.id] 65 (0, 0)) → Calls Tryz.prog 25 #[.pointer (some ⟨bt, 0, none⟩), .agg #[.func (.func 54) #[] #[.pointer (some ⟨B, 0, none⟩)], .func (.func 55) #[] #[.pointer (some ⟨B, 0, none⟩)]]] w1 fun e w' => e = .returned (.bool (true)) ∧ Below w1.heap.size w1 w') := fun w1 B hb hB => by
    have := has_en T y q cq d (min d 1) bt n p1 n1 c1 p2 n2 c2 u sz w w1 B hn ht hy (b0.trans (hb.mono b0.size)) hB
    rw [show (!(ofEn y n.fl).isEmpty) = true from by cases h : ofEn y n.fl with | nil => exact absurd h hx | cons => rfl] at this
    exact this
  have lb := lt_of_heap ht
  have DR : Hid (∀ W, Below w.heap.size w W → Calls Tryz.prog 27 #[.agg #[.slice p1 n1 c1, .slice p2 n2 c2], .agg #[.slice q y.key.length cq, .int .u64 y.id]] W fun en w' => (∃ p3 n3 c3 p4 n4 c4, en = .returned (.agg #[.slice p3 n3 c3, .slice p4 n4 c4]) ∧ ndIn T w' d (n.dropN ltM d m) (.slice p3 n3 c3) (.slice p4 n4 c4)) ∧ Below W.heap.size W w') := fun W hW => by
    subst em
    refine (dropped T m d n _ _ q cq W (fun b hb => hT b (Nat.le_trans hW.size hb)) (hn.keeps (Keeps.of_below hW)) (hy.below hW) hx).1.mono (fun en w' h => ?_)
    obtain ⟨r1, r2, e1, e2, e3⟩ := h
    obtain ⟨p3, c3, p4, c4, rfl, rfl⟩ := e2.slices
    exact ⟨⟨_, _, _, _, _, _, e1, e2⟩, e3⟩
  have FW : Hid ((n.dropN ltM d m).fl = del ltM m n.fl ∧ (n.dropN ltM d m).wf d 0 17) := by
    subst em
    exact (dropped T m d n _ _ q cq w hT hn hy hx).2
  have AR : Hid (∀ W p3 n3 c3 p4 n4 c4, w.heap.size ≤ W.heap.size → ndIn T W d (n.dropN ltM d m) (.slice p3 n3 c3) (.slice p4 n4 c4) → Calls Tryz.prog 23 #[.agg #[.slice p3 n3 c3, .slice p4 n4 c4]] W fun en w' => (∃ p5 n5 c5 p6 n6 c6, en = .returned (.agg #[.slice p5 n5 c5, .slice p6 n6 c6]) ∧ ∃ d', ndIn T w' d' (n.dropN ltM d m).rootN (.slice p5 n5 c5) (.slice p6 n6 c6) ∧ (n.dropN ltM d m).rootN.tree d') ∧ Below W.heap.size W w') := fun W p3 n3 c3 p4 n4 c4 hW hd => by
    refine (asRoot_any T d _ _ _ W (fun b hb => hT b (Nat.le_trans hW hb)) hd FW.out.2).mono (fun en w' h => ?_)
    obtain ⟨d', ⟨r1, r2, e1, e2, e3⟩, e4⟩ := h
    obtain ⟨p5, c5, p6, c6, rfl, rfl⟩ := e2.slices
    exact ⟨⟨_, _, _, _, _, _, e1, d', e2, e4⟩, e3⟩
  have FL : Hid ((n.dropN ltM d m).rootN.fl = del ltM m n.fl) := (root_ok FW.out.2).1.trans FW.out.1
  have HT := mkHid ht
  have HO := mkHid ho
  clear hn ht hy hx hT FW ho em
  go_enter Tryz.func9, Tryz.ntmps9
  go_wp2_with fail
  rw [← hw0]
  have j0 : w0.cell? ⟨w.heap.size, 0, none⟩ = some (.slice q y.key.length cq) := (cell_of_block d0 0).trans rfl
  have j1 : w0.cell? ⟨w.heap.size, 1, none⟩ = some (.int .u64 y.id) := (cell_of_block d0 1).trans rfl
  clear hw0
  go_wp2_with (first | (go_at_call 26; refine (onlyEntry_any q y.key.length cq y.id w0).mono ?_; rintro e w1 ⟨rfl, g1, b1⟩) | (go_at_call 25; refine (HAS.out w1 _ b1 g1).mono ?_; rintro e w2 ⟨rfl, b2⟩))
  have bw : Below w.heap.size w w2 := b0.trans ((b1.trans (b2.mono b1.size)).mono b0.size)
  have bd : w2.heap[w.heap.size]? = some (.cells #[.slice q y.key.length cq, .int .u64 y.id] 65 (0, 0)) := ((b1.trans (b2.mono b1.size)).block _ (lt_of_heap d0)).trans d0
  have BT : Hid (∀ W, Below w2.heap.size w2 W → W.heap[bt]? = some (trO u (.slice p1 n1 c1) (.slice p2 n2 c2) sz)) := fun W hW => (hW.block _ (Nat.lt_of_lt_of_le lb bw.size)).trans ((bw.block _ lb).trans HT.out)
  have KS : Hid (∀ w', Chg (fun b => b = bt) w2 w' → (fun w' : World => w'.cell? ⟨w.heap.size, 0, none⟩ = some (.slice q y.key.length cq) ∧ w'.cell? ⟨w.heap.size, 1, none⟩ = some (.int .u64 y.id)) w') := fun w' hc => by
    have := (hc.at_ bd (fun e => by omega))
    exact ⟨(cell_of_block this 0).trans rfl, (cell_of_block this 1).trans rfl⟩
  have BW := mkHid bw
  clear j0 j1 d0 b0 b1 b2 g1 bd bw HAS HT
  refine wp_region_noPanic ?_
  refine wp_region_held_drew (S := fun w' : World => w'.cell? ⟨w.heap.size, 0, none⟩ = some (.slice q y.key.length cq) ∧ w'.cell? ⟨w.heap.size, 1, none⟩ = some (.int .u64 y.id)) (by kernel_rfl) (KS.out _ (Chg.refl _ _).drew) (fun hH => ?_)
  refine tKx (i := 0) (v := .pointer (some ⟨bt, 0, none⟩)) rfl rfl (by kernel_rfl) (fun _ _ _ h => h) ?_ hH ?_
  · intro w5 hSw; obtain ⟨s0, s1⟩ := hSw; go_simp
  simp only [zA9, zB9, zC9]
  refine tKx (i := 1) (v := .pointer (some ⟨bt, 0, none⟩)) rfl rfl (by kernel_rfl) (fun _ _ _ h => h) ?_ hH ?_
  · intro w5 hSw; obtain ⟨s0, s1⟩ := hSw; go_simp
  simp only [zA9, zB9, zC9]
  refine tKx (i := 2) (v := .pointer (some ⟨bt, 0, none⟩)) rfl rfl (by kernel_rfl) (fun _ _ _ h => h) ?_ hH ?_
  · intro w5 hSw; obtain ⟨s0, s1⟩ := hSw; go_simp
  simp only [zA9, zB9, zC9]
  refine tKx (i := 3) (v := .pointer (some ⟨bt, 1, none⟩)) rfl rfl (by kernel_rfl) (fun _ _ _ h => h) ?_ hH ?_
  · intro w5 hSw; obtain ⟨s0, s1⟩ := hSw; go_simp
  simp only [zA9, zB9, zC9]
  refine tKx (i := 5) (v := .agg #[.slice q y.key.length cq, .int .u64 y.id]) rfl rfl (by kernel_rfl) (fun _ _ _ h => h) ?_ hH ?_
  · intro w5 hSw; obtain ⟨s0, s1⟩ := hSw; go_simp
  simp only [zA9, zB9, zC9]
  refine wpAnyH_ready (rs := [4]) (by kernel_rfl) (by simp) ?_
  refine AllReadyH.cons rfl (fun K hK => ?_) AllReadyH.nil
  have k1 : w2.drew.cell? ⟨bt, 1, none⟩ = some (.slice p1 n1 c1) := (cell_of_block (BT.out _ (Below.refl _ _).drew) 1).trans rfl
  have k2 : w2.drew.cell? ⟨bt, 2, none⟩ = some (.slice p2 n2 c2) := (cell_of_block (BT.out _ (Below.refl _ _).drew) 2).trans rfl
  go_simp
  refine hK.out _ _ (KS.out _ (Chg.refl _ _).drew) (fun hH => ?_)
  clear hK K k1 k2
  refine wpAnyH_ready (rs := [6]) (by kernel_rfl) (by simp) ?_
  refine AllReadyH.cons rfl (fun K hK => ?_) AllReadyH.nil
  go_simp
  go_at_call 27
  refine (DR.out _ (BW.out.trans ((Below.refl _ w2).drew.mono BW.out.size))).mono ?_
  rintro e W1 ⟨⟨p3, n3, c3, p4, n4, c4, rfl, k3⟩, hb1⟩
  have HN3 := mkHid k3
  clear k3
  go_wp2_with fail
  have B1 : Hid (Below w2.heap.size w2 W1) := (Below.refl _ w2).drew.trans hb1
  clear hb1
  refine hK.out _ _ (KS.out _ (chg_bl B1.out)) (fun hH => ?_)
  clear hK K
  refine wpAnyH_ready (rs := [7]) (by kernel_rfl) (by simp) ?_
  refine AllReadyH.cons rfl (fun K hK => ?_) AllReadyH.nil
  go_simp
  go_at_call 23
  refine (AR.out _ _ _ _ _ _ _ (Nat.le_trans BW.out.size B1.out.size) HN3.out).mono ?_
  rintro e W2 ⟨⟨p5, n5, c5, p6, n6, c6, rfl, d5, k5, k6⟩, hb2⟩
  have HN5 := mkHid k5
  have HN6 := mkHid k6
  clear k5 k6
  go_wp2_with fail
  have B2 : Hid (Below w2.heap.size w2 W2) := B1.out.trans (hb2.mono B1.out.size)
  clear hb2
  refine hK.out _ _ (KS.out _ (chg_bl B2.out)) (fun hH => ?_)
  clear hK K
  refine tKx (i := 8) (v := .pointer (some ⟨bt, 0, none⟩)) rfl rfl (by kernel_rfl) (fun _ _ _ h => h) ?_ hH ?_
  · intro w5 hSw; obtain ⟨s0, s1⟩ := hSw; go_simp
  simp only [zA9, zB9, zC9]
  refine tKx (i := 9) (v := .pointer (some ⟨bt, 1, none⟩)) rfl rfl (by kernel_rfl) (fun _ _ _ h => h) ?_ hH ?_
  · intro w5 hSw; obtain ⟨s0, s1⟩ := hSw; go_simp
  simp only [zA9, zB9, zC9]
  have RC := BT.out _ B2.out
  refine wpAnyH_ready (rs := [10]) (by kernel_rfl) (by simp) ?_
  refine AllReadyH.cons rfl (fun K hK => ?_) AllReadyH.nil
  have q0 : W2.cell? ⟨bt, 1, none⟩ = some (.slice p1 n1 c1) := (cell_of_block RC 1).trans rfl
  have q1 : W2.cell? ⟨bt, 2, none⟩ = some (.slice p2 n2 c2) := (cell_of_block RC 2).trans rfl
  have y0 := unfrozen_of_block RC 1
  have y1 := unfrozen_of_block RC 2
  go_simp
  have CG : Hid (Chg (fun b => b = bt) w2 ((W2.setCell ⟨bt, 1, none⟩ (.slice p5 n5 c5)).setCell ⟨bt, 2, none⟩ (.slice p6 n6 c6))) := chg_set (X := fun b => b = bt) (chg_set (X := fun b => b = bt) (chg_bl B2.out) ⟨bt, 1, none⟩ (.slice p5 n5 c5) rfl) ⟨bt, 2, none⟩ (.slice p6 n6 c6) rfl
  refine hK.out _ _ (KS.out _ CG.out) (fun hH => ?_)
  clear hK K q0 q1 y0 y1
  refine wpAnyH_done (by kernel_rfl) ?_ _
  refine NoPanic.normal ?_
  have RD : ((W2.setCell ⟨bt, 1, none⟩ (.slice p5 n5 c5)).setCell ⟨bt, 2, none⟩ (.slice p6 n6 c6)).heap[bt]? = some (trO u (.slice p5 n5 c5) (.slice p6 n6 c6) sz) := heap_set_in (heap_set_in RC)
  have ND : Hid (ndIn T ((W2.setCell ⟨bt, 1, none⟩ (.slice p5 n5 c5)).setCell ⟨bt, 2, none⟩ (.slice p6 n6 c6)) d5 (n.dropN ltM d m).rootN (.slice p5 n5 c5) (.slice p6 n6 c6)) := HN5.out.keeps ((Keeps.set _ HO.out).trans (Keeps.set _ HO.out))
  generalize (W2.setCell ⟨bt, 1, none⟩ (.slice p5 n5 c5)).setCell ⟨bt, 2, none⟩ (.slice p6 n6 c6) = w5 at RD ND CG hH ⊢
  have FN : Hid (TrQ T w bt u (sz - 1) (del ltM m n.fl) (w5.setCell ⟨bt, 3, none⟩ (.int .i64 (sz - 1)))) := ⟨d5, _, _, _, _, _, _, _, heap_set_in RD, ND.out.keeps (Keeps.set _ HO.out), HN6.out, FL.out, chg_set ((show Chg (fun b => b = bt) w w2 from chg_bl BW.out).trans CG.out) ⟨bt, 3, none⟩ _ rfl⟩
  have z3 : w5.cell? ⟨bt, 3, none⟩ = some (.int .i64 sz) := (cell_of_block RD 3).trans rfl
  have x3 := unfrozen_of_block RD 3
  have wr : IntKind.i64.wrap (sz - 1) = sz - 1 := by rw [IntKind.wrap_i64]; omega
  clear RD ND CG RC B1 B2 HN3 HN5 HN6 KS BT DR AR FL BW hH
  go_wp2_with fail
  go_ret
  exact ⟨rfl, FN.out⟩
end Go.Proofs.YtclcajnodoifjaaGreatDoor

namespace Go.Proofs.YtclcajnodoifjaaGreatDoor
open Go.RowKit Go.Shelf Go.Joins Go.Maps
set_option maxRecDepth 100000

/-- a value's cells -/
def vaE (v : Va) : List Value := [.int .i64 v.ty, .int .i64 v.n, .string v.s]
theorem valsAt.cells {w : World} {g : Nat} {k : List Va} (h : valsAt w g k) : ∀ j u, (fl vaE k)[j]? = some u → w.cell? ⟨g, j, none⟩ = some u := fun j u hj => by
  obtain ⟨v, h1, h2⟩ := fl_at (s := 3) (fun _ => rfl) (by omega) hj
  obtain ⟨a1, a2, a3⟩ := h.2 _ v h1
  have hm : j % 3 < 3 := Nat.mod_lt _ (by omega)
  have hd : j = j / 3 * 3 + j % 3 := by omega
  rcases (by omega : j % 3 = 0 ∨ j % 3 = 1 ∨ j % 3 = 2) with e | e | e
  · rw [e] at h2; cases h2; rw [hd, e]; exact a1
  · rw [e] at h2; cases h2; rw [hd, e]; exact a2
  · rw [e] at h2; cases h2; rw [hd, e]; exact a3
theorem valsAt.mk {w : World} {g : Nat} {k : List Va} (hg : g < w.heap.size) (h : ∀ j u, (fl vaE k)[j]? = some u → w.cell? ⟨g, j, none⟩ = some u) : valsAt w g k :=
  ⟨hg, fun i v hv => ⟨h (i * 3) _ (fl_get (s := 3) (fun _ => rfl) k i v 0 hv (by omega)), h (i * 3 + 1) _ (fl_get (s := 3) (fun _ => rfl) k i v 1 hv (by omega)), h (i * 3 + 2) _ (fl_get (s := 3) (fun _ => rfl) k i v 2 hv (by omega))⟩⟩
set_option maxHeartbeats 4000000 in
set_option maxRecDepth 1000000 in
theorem CloneRow_own (g0 : Nat) (k : List Va) (c : Nat) (w : World) (hk : valsAt w g0 k) (h0 : 0 < k.length) (hl : k.length ≤ 1000000000) :
    Calls Tryz.prog 41 #[.slice (some ⟨g0, 0, none⟩) k.length c] w fun e w' => ∃ cap, e = .returned (.slice (some ⟨w.heap.size + 1, 0, none⟩) k.length cap) ∧ valsAt w' (w.heap.size + 1) k ∧ (∃ cs, w'.heap[w.heap.size + 1]? = some (.cells cs 40 (0, 0))) ∧ k.length ≤ cap ∧ Below w.heap.size w w' := by
  obtain ⟨cap, w2, r, s, g, z⟩ := rwVa.clone w ⟨g0, 0, none⟩ k.length c (fl vaE k) (fl_len (enc := vaE) (s := 3) (fun _ => rfl) k) (fun j u hj => by rw [add_plain, Nat.zero_add]; exact hk.cells j u hj) h0 hl
  have HR : Hid (valsAt w2 (w.heap.size + 1) k ∧ (∃ cs, w2.heap[w.heap.size + 1]? = some (.cells cs 40 (0, 0))) ∧ k.length ≤ cap ∧ Below w.heap.size w w2) := by
    have hb : ∃ cs, w2.heap[w.heap.size + 1]? = some (.cells cs 40 (0, 0)) := by
      rcases s.2 with ⟨h, _⟩ | ⟨g, off, cp, cur, h, hg, _⟩
      · cases h
      · cases h; exact ⟨cur, hg⟩
    obtain ⟨p, c', e1, e2, _⟩ := s.form
    cases e1
    obtain ⟨g', off, e3, e4⟩ := s.cell
    cases e3
    exact ⟨valsAt.mk (by omega) (fun j u hj => by have := e4 j u hj; rwa [Nat.zero_add] at this), hb, e2, below_none g (Nat.le_refl _)⟩
  obtain ⟨n, hn⟩ : ∃ n, n = k.length := ⟨_, rfl⟩
  rw [← hn] at r HR ⊢
  have ne : ∀ w, (binOp .eql 30 (.slice (some ⟨g0, 0, none⟩) n c) (.slice none 0 0)).run Tryz.prog w = .ok (.bool false) w := fun w => by kernel_rfl
  clear s g z hk h0 hl hn
  go_enter Tryz.func41, Tryz.ntmps41
  go_wp2_with (at_builtin; refine wp_app 30 rfl (.tmp 5) (.tmp 6) rfl rfl rfl r ?_)
  go_ret
  exact ⟨cap, rfl, HR.out⟩
theorem CloneRow_some (g0 : Nat) (k : List Va) (c : Nat) (w : World) (hk : valsAt w g0 k) (h0 : 0 < k.length) (hl : k.length ≤ 1000000000) :
    Calls Tryz.prog 41 #[.slice (some ⟨g0, 0, none⟩) k.length c] w fun e w' => ∃ cap, e = .returned (.slice (some ⟨w.heap.size + 1, 0, none⟩) k.length cap) ∧ valsAt w' (w.heap.size + 1) k ∧ k.length ≤ cap ∧ Below w.heap.size w w' := (CloneRow_own g0 k c w hk h0 hl).mono (fun e w' h => by obtain ⟨cap, h1, h2, _, h3, h4⟩ := h; exact ⟨cap, h1, h2, h3, h4⟩)
set_option maxHeartbeats 4000000 in
set_option maxRecDepth 1000000 in
theorem CloneRow_nil (w : World) :
    Calls Tryz.prog 41 #[.slice none 0 0] w fun e w' => e = .returned (.slice none 0 0) ∧ w' = w := by
  have ne : ∀ w, (binOp .eql 30 (.slice none 0 0) (.slice none 0 0)).run Tryz.prog w = .ok (.bool true) w := fun w => by kernel_rfl
  go_enter Tryz.func41, Tryz.ntmps41
  go_wp2_with fail
  go_ret
  exact ⟨rfl, rfl⟩
end Go.Proofs.YtclcajnodoifjaaGreatDoor

namespace Go.Proofs.YtclcajnodoifjaaGreatDoor
open Go.RowKit Go.Shelf
set_option maxRecDepth 100000

/-- a place, or none: whether there is one -/
def IxQ (b : Bool) (e : Ending) : Prop := ∃ r : Int, e = .returned (.int .i64 r) ∧ decide (0 ≤ r) = b
theorem any_hit {α : Type} {p : α → Bool} {l : List α} {k : Nat} {x : α} (h : l[k]? = some x) (hp : p x = true) : l.any p = true := List.any_eq_true.2 ⟨x, List.mem_of_getElem? h, hp⟩
theorem any_next {α : Type} {p : α → Bool} {l : List α} {k : Nat} {x : α} (h : l[k]? = some x) (hp : p x = false) (h0 : (l.take k).any p = false) : (l.take (k + 1)).any p = false := by
  rw [List.take_add_one, h, List.any_append, h0]; simp [hp]
def isN (v : Va) : Bool := v.ty == 0
set_option maxHeartbeats 2000000 in
theorem isNull_any (v : Va) (w : World) :
    Calls Tryz.prog 47 #[.agg #[.int .i64 v.ty, .int .i64 v.n, .string v.s]] w fun e w' => e = .returned (.bool (isN v)) ∧ Below w.heap.size w w' := by
  have HB := mkHid ((Below.refl _ w).alloc (Nat.le_refl _) (.cells #[.int .i64 v.ty, .int .i64 v.n, .string v.s] 40))
  go_enter Tryz.func47, Tryz.ntmps47
  go_wp2_with fail
  go_ret
  exact ⟨rfl, HB.out⟩
set_option maxHeartbeats 4000000 in
set_option maxRecDepth 1000000 in
theorem IndexFuncVa (l : List Va) (P : Option Addr) (C : Nat) (w : World) (hl : rowAt w P l) (hn : l.length ≤ 100000000) :
    Calls Tryz.prog 72 #[.slice P l.length C, .func (.func 47) #[] #[]] w fun e w' => IxQ (l.any isN) e ∧ Below w.heap.size w w' := by
  have eg : ∀ args w, (callFunc 47 args).run Tryz.prog w = .ok (.enter 47 args) w := enters_of Tryz.func47 (by kernel_rfl) rfl
  obtain ⟨B, hB⟩ : ∃ B, B = l.any isN := ⟨_, rfl⟩
  rw [← hB]
  have HB := mkHid hB
  clear hB
  go_enter Tryz.func72, Tryz.ntmps72
  go_wp2_with fail
  go_loopw [5, 8] (fun _ s8 wr => ∃ k : Nat, s8 = .int .i64 k ∧ k ≤ l.length ∧ Hid ((l.take k).any isN = false) ∧ Below w.heap.size w wr) (fun _ sk _ => l.length - (intOf sk).toNat)
  case atStart => exact ⟨0, rfl, Nat.zero_le _, rfl, Below.refl _ _⟩
  case round =>
    obtain ⟨k, rfl, hk, hd, hb⟩ := hrel
    by_cases hlt : k < l.length
    · obtain ⟨x, hx⟩ : ∃ x, l[k]? = some x := ⟨l[k], List.getElem?_eq_getElem hlt⟩
      rcases hl with rfl | ⟨b, rfl, hv⟩
      · simp at hx
      obtain ⟨c0, c1, c2⟩ := (hv.below hb).2 k x hx
      have hcall := isNull_any x wr
      have HX := mkHid hx
      clear hv hx
      cases hq : isN x with
      | true =>
        rw [hq] at hcall
        have e : B = true := by rw [HB.out]; exact any_hit HX.out hq
        subst e
        go_wp2_with (go_at_fn 47; refine hcall.mono ?_; rintro e w1 ⟨rfl, hb1⟩)
        refine bodyPost_ret (v := .int .i64 k) (by simp [results, Tryz.results72, go_sem]) rfl ⟨⟨_, rfl, by simp⟩, hb.trans (hb1.mono hb.size)⟩
      | false =>
        rw [hq] at hcall
        have hd2 : Hid ((l.take (k + 1)).any isN = false) := any_next HX.out hq hd.out
        go_wp2_with (go_at_fn 47; refine hcall.mono ?_; rintro e w1 ⟨rfl, hb1⟩)
        go_roundw
        case rel => exact ⟨k + 1, by go_num, hlt, hd2, hb.trans (hb1.mono hb.size)⟩
        case measure => simp [intOf]; omega
    · have e : B = false := by
        rw [HB.out]
        have := hd.out
        rw [List.take_of_length_le (by omega)] at this; exact this
      subst e
      go_wp2_with fail
      refine bodyPost_ret (v := .int .i64 (-1)) (by simp [results, Tryz.results72, go_sem]) rfl ⟨⟨_, rfl, rfl⟩, hb⟩
set_option maxHeartbeats 4000000 in
set_option maxRecDepth 1000000 in
theorem ContainsNull (l : List Va) (P : Option Addr) (C : Nat) (w : World) (hl : rowAt w P l) (hn : l.length ≤ 100000000) :
    Calls Tryz.prog 46 #[.slice P l.length C, .func (.func 47) #[] #[]] w fun e w' => e = .returned (.bool (l.any isN)) ∧ Below w.heap.size w w' := by
  have IX := mkHid (IndexFuncVa l P C w hl hn)
  generalize l.any isN = B at *
  clear hl
  go_enter Tryz.func46, Tryz.ntmps46
  go_wp2_with (go_at_call 72; refine IX.out.mono ?_; rintro e w1 ⟨⟨r, rfl, hr⟩, hb⟩)
  go_ret
  exact ⟨by rw [← hr]; rfl, hb⟩
end Go.Proofs.YtclcajnodoifjaaGreatDoor

namespace Go.Proofs.YtclcajnodoifjaaGreatDoor
open Go.RowKit Go.Shelf Go.Joins Go.Maps
set_option maxRecDepth 100000

/-- whether an entry is kept out -/
def clB (u : Bool) (y : En) (L : List Em) : Bool := if u = true ∧ y.key.any isN = false then !(ofKey y.key L).isEmpty else !(ofEn y L).isEmpty
set_option maxHeartbeats 4000000 in
set_option maxRecDepth 1000000 in
theorem clashes_any (T : Nat → Prop) (y : En) (q : Option Addr) (cq d l bt : Nat) (n : Nd Em) (p1 : Option Addr) (n1 c1 : Nat) (p2 : Option Addr) (n2 c2 : Nat) (u : Bool) (sz : Int) (w : World) (hn : RtIn T w d l n (.slice p1 n1 c1) (.slice p2 n2 c2)) (ht : w.heap[bt]? = some (trO u (.slice p1 n1 c1) (.slice p2 n2 c2) sz)) (hy : EnAt w q y) (hs : y.key.length ≤ 100000000) :
    Calls Tryz.prog 22 #[.pointer (some ⟨bt, 0, none⟩), enV q cq y] w fun e w' => e = .returned (.bool (clB u y n.fl)) ∧ Below w.heap.size w w' := by
  obtain ⟨w0, hw0⟩ : ∃ w0, w0 = w.alloc (.cells #[.slice q y.key.length cq, .int .u64 y.id] 65) := ⟨_, rfl⟩
  have d0 : w0.heap[w.heap.size]? = some (.cells #[.slice q y.key.length cq, .int .u64 y.id] 65) := by rw [hw0]; exact heap_alloc_new _ _
  have b0 : Below w.heap.size w w0 := by rw [hw0]; exact (Below.refl _ w).alloc (Nat.le_refl _) _
  have HE : Hid (∀ w1 B, Below w0.heap.size w0 w1 → w1.heap[B]? = some (.cells #[.slice q y.key.length cq, .int .u64 y.id] 65) → Calls Tryz.prog 25 #[.pointer (some ⟨bt, 0, none⟩), .agg #[.func (.func 54) #[] #[.pointer (some ⟨B, 0, none⟩)], .func (.func 55) #[] #[.pointer (some ⟨B, 0, none⟩)]]] w1 fun e w' => e = .returned (.bool (!(ofEn y n.fl).isEmpty)) ∧ Below w1.heap.size w1 w') := fun w1 B hb hB => has_en T y q cq d l bt n p1 n1 c1 p2 n2 c2 u sz w w1 B hn ht hy (b0.trans (hb.mono b0.size)) hB
  have HK : Hid (∀ w1 B, Below w0.heap.size w0 w1 → w1.heap[B]? = some (.cells #[.slice q y.key.length cq] 30) → Calls Tryz.prog 25 #[.pointer (some ⟨bt, 0, none⟩), .agg #[.func (.func 73) #[] #[.pointer (some ⟨B, 0, none⟩)], .func (.func 75) #[] #[.pointer (some ⟨B, 0, none⟩)]]] w1 fun e w' => e = .returned (.bool (!(ofKey y.key n.fl).isEmpty)) ∧ Below w1.heap.size w1 w') := fun w1 B hb hB => has_key T y.key q cq d l bt n p1 n1 c1 p2 n2 c2 u sz w w1 B hn ht hy.row hy.fits (b0.trans (hb.mono b0.size)) hB
  have CN : Hid (Calls Tryz.prog 46 #[.slice q y.key.length cq, .func (.func 47) #[] #[]] w0 fun e w' => e = .returned (.bool (y.key.any isN)) ∧ Below w0.heap.size w0 w') := ContainsNull y.key q cq w0 (hy.row.below b0) hs
  have h1 := (b0.block _ (lt_of_heap ht)).trans ht
  have k0 : w0.cell? ⟨bt, 0, none⟩ = some (.bool u) := (cell_of_block h1 0).trans rfl
  have j0 : w0.cell? ⟨w.heap.size, 0, none⟩ = some (.slice q y.key.length cq) := (cell_of_block d0 0).trans rfl
  have j1 : w0.cell? ⟨w.heap.size, 1, none⟩ = some (.int .u64 y.id) := (cell_of_block d0 1).trans rfl
  obtain ⟨A, hA⟩ : ∃ A, A = !(ofEn y n.fl).isEmpty := ⟨_, rfl⟩
  obtain ⟨K, hK⟩ : ∃ K, K = !(ofKey y.key n.fl).isEmpty := ⟨_, rfl⟩
  have EQ : clB u y n.fl = if u = true ∧ y.key.any isN = false then K else A := by rw [hA, hK]; rfl
  rw [EQ]
  rw [← hA] at HE
  rw [← hK] at HK
  clear hA hK EQ hn ht hy hs h1
  have k0 : (w.alloc (.cells #[.slice q y.key.length cq, .int .u64 y.id] 65)).cell? ⟨bt, 0, none⟩ = some (.bool u) := by rw [← hw0]; exact k0
  cases u with
  | false =>
    rw [if_neg (by simp)]
    clear CN HK
    go_enter Tryz.func22, Tryz.ntmps22
    go_wp2_with fail
    rw [← hw0]
    clear k0 hw0
    go_wp2_with (first | (go_at_call 26; refine (onlyEntry_any q y.key.length cq y.id _).mono ?_; rintro e w1 ⟨rfl, g1, b1⟩) | (go_at_call 25; refine (HE.out w1 _ (b1) g1).mono ?_; rintro e w2 ⟨rfl, b2⟩))
    go_ret
    exact ⟨rfl, b0.trans ((b1.trans (b2.mono b1.size)).mono b0.size)⟩
  | true =>
    cases hq : y.key.any isN with
    | true =>
      rw [hq] at CN
      rw [if_neg (by simp)]
      clear HK
      go_enter Tryz.func22, Tryz.ntmps22
      go_wp2_with fail
      rw [← hw0]
      clear k0 hw0
      go_wp2_with (go_at_call 46; refine CN.out.mono ?_; rintro e w3 ⟨rfl, b3⟩; have f0 := (b3.cell (p := ⟨w.heap.size, 0, none⟩) (lt_of_heap d0)).trans j0; have f1 := (b3.cell (p := ⟨w.heap.size, 1, none⟩) (lt_of_heap d0)).trans j1; clear CN)
      go_wp2_with (first | (go_at_call 26; refine (onlyEntry_any q y.key.length cq y.id w3).mono ?_; rintro e w1 ⟨rfl, g1, b1⟩) | (go_at_call 25; refine (HE.out w1 _ (b3.trans (b1.mono b3.size)) g1).mono ?_; rintro e w2 ⟨rfl, b2⟩))
      go_ret
      exact ⟨rfl, b0.trans ((b3.trans ((b1.trans (b2.mono b1.size)).mono b3.size)).mono b0.size)⟩
    | false =>
      rw [hq] at CN
      rw [if_pos (by simp)]
      clear HE
      go_enter Tryz.func22, Tryz.ntmps22
      go_wp2_with fail
      rw [← hw0]
      clear k0 hw0
      go_wp2_with (go_at_call 46; refine CN.out.mono ?_; rintro e w3 ⟨rfl, b3⟩; have f0 := (b3.cell (p := ⟨w.heap.size, 0, none⟩) (lt_of_heap d0)).trans j0; have f1 := (b3.cell (p := ⟨w.heap.size, 1, none⟩) (lt_of_heap d0)).trans j1; clear CN)
      go_wp2_with (first | (go_at_call 48; refine (onlyKey_any q y.key.length cq w3).mono ?_; rintro e w1 ⟨rfl, g1, b1⟩) | (go_at_call 25; refine (HK.out w1 _ (b3.trans (b1.mono b3.size)) g1).mono ?_; rintro e w2 ⟨rfl, b2⟩))
      go_ret
      exact ⟨rfl, b0.trans ((b3.trans ((b1.trans (b2.mono b1.size)).mono b3.size)).mono b0.size)⟩
end Go.Proofs.YtclcajnodoifjaaGreatDoor

namespace Go.Proofs.YtclcajnodoifjaaGreatDoor
open Go.RowKit Go.Shelf Go.Joins Go.Maps
set_option maxRecDepth 100000

/-- a value without what its type does not name -/
def kepV (v : Va) : Va := if v.ty = 0 then ⟨0, 0, ⟨#[]⟩⟩ else if v.ty = 3 then ⟨3, 0, v.s⟩ else ⟨v.ty, v.n, ⟨#[]⟩⟩
def zeV : Va := ⟨0, 0, ⟨#[]⟩⟩
/-- on the way: k values are kept -/
def kepL (l : List Va) (k : Nat) : List Va := (l.take k).map kepV ++ List.replicate (l.length - k) zeV
theorem kepL_at {l : List Va} {k : Nat} (h : k < l.length) : (kepL l k)[k]? = some zeV := by
  unfold kepL
  have e : min k l.length = k := by omega
  rw [List.getElem?_append_right (by simp; omega)]
  rw [List.length_map, List.length_take, e, Nat.sub_self, List.getElem?_replicate, if_pos (by omega)]
theorem kepL_set {l : List Va} {k : Nat} {v : Va} (h : l[k]? = some v) : (kepL l k).set k (kepV v) = kepL l (k + 1) := by
  have hk := (List.getElem?_eq_some_iff.1 h).1
  unfold kepL
  rw [List.set_append_right _ _ (by simp; omega), List.take_add_one, h, List.map_append, List.append_assoc]
  congr 1
  have e : l.length - k = (l.length - (k + 1)) + 1 := by omega
  have e2 : k - ((l.take k).map kepV).length = 0 := by simp; omega
  rw [e2, e, List.replicate_succ]
  rfl
theorem kepL_all (l : List Va) : kepL l l.length = l.map kepV := by simp [kepL]
theorem kepL_zero (l : List Va) : kepL l 0 = List.replicate l.length zeV := by simp [kepL]
theorem fl_set3 : ∀ (L : List Va) (i r : Nat) (v v' : Va) (u : Value), L[i]? = some v → r < 3 → (vaE v).set r u = vaE v' → (fl vaE L).set (i * 3 + r) u = fl vaE (L.set i v')
  | x :: L, 0, r, v, v', u, h, hr, he => by
    simp at h
    subst h
    rw [Nat.zero_mul, Nat.zero_add, fl_cons, List.set_append_left _ _ (by simp [vaE]; omega), he]
    rfl
  | x :: L, i + 1, r, v, v', u, h, hr, he => by
    rw [fl_cons, List.set_append_right _ _ (by simp [vaE]; omega)]
    have e : (i + 1) * 3 + r - (vaE x).length = i * 3 + r := by simp [vaE]; omega
    rw [e, fl_set3 L i r v v' u (by simpa using h) hr he]
    rfl
/-- the row under way -/
structure KpI (w : World) (l : List Va) (k : Nat) (wr : World) : Prop where
  row : ∃ cs, wr.heap[w.heap.size]? = some (.cells cs 40 (0, 0)) ∧ cs.toList = fl vaE (kepL l k)
  below : Below w.heap.size w wr
theorem KpI.cells {w wr : World} {l : List Va} {k : Nat} (h : KpI w l k wr) (hk : k < l.length) : wr.cell? ⟨w.heap.size, k * 3, none⟩ = some (.int .i64 0) ∧ wr.cell? ⟨w.heap.size, k * 3 + 1, none⟩ = some (.int .i64 0) ∧ wr.cell? ⟨w.heap.size, k * 3 + 2, none⟩ = some (.string ⟨#[]⟩) := by
  obtain ⟨cs, h1, h2⟩ := h.row
  have g := fun r (hr : r < 3) => fl_get (enc := vaE) (s := 3) (fun _ => rfl) (kepL l k) k zeV r (kepL_at hk) hr
  have c : ∀ j, cs[j]? = (fl vaE (kepL l k))[j]? := fun j => by rw [← h2, Array.getElem?_toList]
  exact ⟨(cell_of_block h1 _).trans ((c _).trans (g 0 (by omega))), (cell_of_block h1 _).trans ((c _).trans (g 1 (by omega))), (cell_of_block h1 _).trans ((c _).trans (g 2 (by omega)))⟩
theorem KpI.alloc {w wr : World} {l : List Va} {k : Nat} (h : KpI w l k wr) (o : Obj) : KpI w l k (wr.alloc o) := by
  obtain ⟨cs, h1, h2⟩ := h.row
  exact ⟨⟨cs, (((Below.refl _ wr).alloc (Nat.le_refl _) o).block _ (lt_of_heap h1)).trans h1, h2⟩, h.below.alloc h.below.size o⟩
/-- one cell and another one are written -/
theorem kp_next0 {w wr : World} {l : List Va} {k : Nat} {v : Va} (h : KpI w l k wr) (hv : l[k]? = some v) (h0 : v.ty = 0) : KpI w l (k + 1) (wr.setCell ⟨w.heap.size, k * 3, none⟩ (.int .i64 v.ty)) := by
  obtain ⟨cs, h1, h2⟩ := h.row
  have hk := (List.getElem?_eq_some_iff.1 hv).1
  refine ⟨⟨_, heap_set_in h1, ?_⟩, h.below.setCell (p := ⟨w.heap.size, k * 3, none⟩) (Nat.le_refl _) _⟩
  rw [Array.toList_setIfInBounds, h2]
  have := fl_set3 (kepL l k) k 0 zeV (kepV v) (.int .i64 v.ty) (kepL_at hk) (by omega) (by simp [kepV, h0, vaE, zeV])
  rw [Nat.add_zero] at this
  rw [this, kepL_set hv]
theorem kp_next3 {w wr : World} {l : List Va} {k : Nat} {v : Va} (h : KpI w l k wr) (hv : l[k]? = some v) (h0 : v.ty = 3) : KpI w l (k + 1) ((wr.setCell ⟨w.heap.size, k * 3, none⟩ (.int .i64 v.ty)).setCell ⟨w.heap.size, k * 3 + 2, none⟩ (.string v.s)) := by
  obtain ⟨cs, h1, h2⟩ := h.row
  have hk := (List.getElem?_eq_some_iff.1 hv).1
  refine ⟨⟨_, heap_set_in (heap_set_in h1), ?_⟩, (h.below.setCell (p := ⟨w.heap.size, k * 3, none⟩) (Nat.le_refl _) _).setCell (p := ⟨w.heap.size, k * 3 + 2, none⟩) (Nat.le_refl _) _⟩
  rw [Array.toList_setIfInBounds, Array.toList_setIfInBounds, h2]
  have e1 := fl_set3 (kepL l k) k 0 zeV ⟨v.ty, 0, ⟨#[]⟩⟩ (.int .i64 v.ty) (kepL_at hk) (by omega) (by simp [vaE, zeV])
  have e2 := fl_set3 ((kepL l k).set k ⟨v.ty, 0, ⟨#[]⟩⟩) k 2 ⟨v.ty, 0, ⟨#[]⟩⟩ (kepV v) (.string v.s) (by rw [List.getElem?_set_self (by have := (List.getElem?_eq_some_iff.1 (kepL_at hk)).1; omega)]) (by omega) (by simp [kepV, h0, vaE])
  rw [Nat.add_zero] at e1
  rw [e1, e2, List.set_set, kepL_set hv]
theorem kp_next1 {w wr : World} {l : List Va} {k : Nat} {v : Va} (h : KpI w l k wr) (hv : l[k]? = some v) (h0 : v.ty ≠ 0) (h3 : v.ty ≠ 3) : KpI w l (k + 1) ((wr.setCell ⟨w.heap.size, k * 3, none⟩ (.int .i64 v.ty)).setCell ⟨w.heap.size, k * 3 + 1, none⟩ (.int .i64 v.n)) := by
  obtain ⟨cs, h1, h2⟩ := h.row
  have hk := (List.getElem?_eq_some_iff.1 hv).1
  refine ⟨⟨_, heap_set_in (heap_set_in h1), ?_⟩, (h.below.setCell (p := ⟨w.heap.size, k * 3, none⟩) (Nat.le_refl _) _).setCell (p := ⟨w.heap.size, k * 3 + 1, none⟩) (Nat.le_refl _) _⟩
  rw [Array.toList_setIfInBounds, Array.toList_setIfInBounds, h2]
  have e1 := fl_set3 (kepL l k) k 0 zeV ⟨v.ty, 0, ⟨#[]⟩⟩ (.int .i64 v.ty) (kepL_at hk) (by omega) (by simp [vaE, zeV])
  have e2 := fl_set3 ((kepL l k).set k ⟨v.ty, 0, ⟨#[]⟩⟩) k 1 ⟨v.ty, 0, ⟨#[]⟩⟩ (kepV v) (.int .i64 v.n) (by rw [List.getElem?_set_self (by have := (List.getElem?_eq_some_iff.1 (kepL_at hk)).1; omega)]) (by omega) (by simp [kepV, h0, h3, vaE])
  rw [Nat.add_zero] at e1
  rw [e1, e2, List.set_set, kepL_set hv]
theorem rw_full (w : World) (n : Nat) (hn : n ≤ 1000000) : ∃ w', (Instr.makeSlice 30 (.int .i64 (n : Int)) (.int .i64 (n : Int))).run Tryz.prog w = .ok (.slice (some ⟨w.heap.size, 0, none⟩) n n) w' ∧ (∃ cs, w'.heap[w.heap.size]? = some (.cells cs 40 (0, 0)) ∧ cs.toList = fl vaE (List.replicate n zeV)) ∧ Below w.heap.size w w' := by
  obtain ⟨i, hi, hz, hs, hb⟩ := info_parts rwVa.inf
  have hbb : (i.bytes : Int) * (n : Int) ≤ 281474976710656 := by
    have : i.bytes * n ≤ 64 * 1000000 := Nat.mul_le_mul (by have := rwVa.sm; omega) hn
    have : ((i.bytes * n : Nat) : Int) ≤ 281474976710656 := by omega
    rwa [Int.natCast_mul] at this
  have hr := run_make (P := Tryz.prog) w 30 _ i _ rwVa.sl hi hz .i64 .i64 (n : Int) (n : Int) (by omega) (Int.le_refl _) hbb (by omega)
  simp only [Int.toNat_natCast] at hr
  refine ⟨_, hr, ⟨_, heap_alloc_new _ _, ?_⟩, (Below.refl _ w).alloc (Nat.le_refl _) _⟩
  rw [hs]
  have hz : ∀ m : Nat, (madeCells (Value.agg #[.int .i64 0, .int .i64 0, .string ⟨#[]⟩]).cells (m * 3)).toList = fl vaE (List.replicate m zeV) := fun m => by
    apply List.ext_getElem?
    intro j
    unfold madeCells
    by_cases hj : j < m * 3
    · have e := fl_get (enc := vaE) (s := 3) (fun _ => rfl) (List.replicate m zeV) (j / 3) zeV (j % 3) (by rw [List.getElem?_replicate, if_pos (by omega)]) (Nat.mod_lt _ (by omega))
      rw [show j / 3 * 3 + j % 3 = j by omega] at e
      rw [e, Array.getElem?_toList]
      have hm : j % 3 < 3 := Nat.mod_lt _ (by omega)
      simp [hj, Value.cells, vaE, zeV]
      rcases (by omega : j % 3 = 0 ∨ j % 3 = 1 ∨ j % 3 = 2) with e | e | e <;> rw [e] <;> rfl
    · rw [List.getElem?_eq_none (by simp; omega), List.getElem?_eq_none (by rw [fl_len (enc := vaE) (s := 3) (fun _ => rfl)]; simp; omega)]
  exact hz n
set_option maxHeartbeats 8000000 in
set_option maxRecDepth 1000000 in
theorem keptKey_any (g0 : Nat) (k : List Va) (c : Nat) (w : World) (hk : valsAt w g0 k) (hl : k.length ≤ 1000) :
    Calls Tryz.prog 21 #[.slice (some ⟨g0, 0, none⟩) k.length c] w fun e w' => e = .returned (.slice (some ⟨w.heap.size, 0, none⟩) k.length k.length) ∧ valsAt w' w.heap.size (k.map kepV) ∧ Below w.heap.size w w' := by
  obtain ⟨w1, r1, ⟨cs0, r2, r3⟩, r4⟩ := rw_full w k.length (by omega)
  have I0 : KpI w k 0 w1 := ⟨⟨cs0, r2, by rw [kepL_zero]; exact r3⟩, r4⟩
  obtain ⟨N, hN⟩ : ∃ N, N = k.length := ⟨_, rfl⟩
  rw [← hN] at r1 hl ⊢
  have HN := mkHid hN
  have HKV : Hid (∀ W i v, Below w.heap.size w W → k[i]? = some v → W.cell? ⟨g0, i * 3, none⟩ = some (.int .i64 v.ty) ∧ W.cell? ⟨g0, i * 3 + 1, none⟩ = some (.int .i64 v.n) ∧ W.cell? ⟨g0, i * 3 + 2, none⟩ = some (.string v.s)) := fun W i v hb hi => (hk.below hb).2 i v hi
  clear hN r2 r3 r4 hk
  go_enter Tryz.func21, Tryz.ntmps21
  go_wp2_with (refine wp_make 30 rfl (.tmp 7) (.tmp 7) rfl rfl rfl r1 ?_)
  go_loopw [11] (fun sk wr => ∃ i : Nat, sk = .int .i64 i ∧ i ≤ N ∧ Hid (KpI w k i wr)) (fun sk _ => N - (intOf sk).toNat)
  case atStart => exact ⟨0, rfl, Nat.zero_le _, I0⟩
  case round =>
    obtain ⟨i, rfl, hi, hI⟩ := hrel
    clear I0 r1
    by_cases hlt : i < N
    · obtain ⟨⟨ty, vn, vs⟩, hv⟩ : ∃ v, k[i]? = some v := ⟨_, List.getElem?_eq_getElem (by have := HN.out; omega)⟩
      obtain ⟨c0, c1, c2⟩ := HKV.out wr i _ hI.out.below hv
      have HV := mkHid hv
      have KA : Hid (KpI w k i (wr.alloc (.cells #[.int .i64 ty, .int .i64 vn, .string vs] 40))) := hI.out.alloc _
      obtain ⟨z0, z1, z2⟩ := KA.out.cells (by have := HN.out; omega)
      have fz : ∀ o, (wr.alloc (.cells #[.int .i64 ty, .int .i64 vn, .string vs] 40)).frozen? ⟨w.heap.size, o, none⟩ = false := fun o => by
        obtain ⟨cs, h1, _⟩ := KA.out.row
        simp [World.frozen?, h1]
      have hne : wr.heap.size ≠ w.heap.size := by
        obtain ⟨cs, h1, _⟩ := hI.out.row
        have := lt_of_heap h1
        omega
      have f0 : ((wr.alloc (.cells #[.int .i64 ty, .int .i64 vn, .string vs] 40)).setCell ⟨w.heap.size, i * 3, none⟩ (.int .i64 ty)).cell? ⟨w.heap.size, i * 3 + 1, none⟩ = some (.int .i64 0) := by rw [World.cell?_setCell_other _ _ _ _ (by intro e; injection e with _ e2 _; omega)]; exact z1
      have f1 : ((wr.alloc (.cells #[.int .i64 ty, .int .i64 vn, .string vs] 40)).setCell ⟨w.heap.size, i * 3, none⟩ (.int .i64 ty)).cell? ⟨w.heap.size, i * 3 + 2, none⟩ = some (.string ⟨#[]⟩) := by rw [World.cell?_setCell_other _ _ _ _ (by intro e; injection e with _ e2 _; omega)]; exact z2
      have b1 : ∀ o, ((wr.alloc (.cells #[.int .i64 ty, .int .i64 vn, .string vs] 40)).setCell ⟨w.heap.size, i * 3, none⟩ (.int .i64 ty)).cell? ⟨wr.heap.size, o, none⟩ = #[Value.int .i64 ty, .int .i64 vn, .string vs][o]? := fun o => by
        rw [World.cell?_setCell_other _ _ _ _ (by intro e; injection e with e1 _ _; exact hne e1.symm)]
        exact cell_of_block (heap_alloc_new _ _) o
      have b10 := b1 0
      have b11 := b1 1
      have b12 := b1 2
      simp only [List.getElem?_toArray, List.getElem?_cons_zero, List.getElem?_cons_succ] at b10 b11 b12
      clear b1 hv
      have i1 : (i : Int) < (N : Int) := by omega
      clear hI
      by_cases h0 : ty = 0
      · subst h0
        have NX := mkHid (kp_next0 KA.out HV.out rfl)
        clear KA f0 f1 b11 b12 HKV HV
        go_wp2_with fail
        go_roundw
        case rel => exact ⟨i + 1, by go_num, hlt, NX⟩
        case measure => simp [intOf]; omega
      by_cases h3 : ty = 3
      · subst h3
        have NX := mkHid (kp_next3 KA.out HV.out rfl)
        clear KA HKV HV h0
        go_wp2_with fail
        go_roundw
        case rel => exact ⟨i + 1, by go_num, hlt, NX⟩
        case measure => simp [intOf]; omega
      · have NX := mkHid (kp_next1 KA.out HV.out h0 h3)
        clear KA HKV HV
        go_wp2_with fail
        go_roundw
        case rel => exact ⟨i + 1, by go_num, hlt, NX⟩
        case measure => simp [intOf]; omega
    · obtain rfl : i = N := by omega
      have FN : Hid (valsAt wr w.heap.size (k.map kepV) ∧ Below w.heap.size w wr) := by
        obtain ⟨cs, h1, h2⟩ := hI.out.row
        rw [HN.out, kepL_all] at h2
        exact ⟨valsAt.mk (lt_of_heap h1) (fun j u hj => by rw [← h2, Array.getElem?_toList] at hj; exact (cell_of_block h1 j).trans hj), hI.out.below⟩
      clear hI HKV HN
      go_wp2_with fail
      go_ret
      exact ⟨rfl, FN.out⟩
end Go.Proofs.YtclcajnodoifjaaGreatDoor

namespace Go.Proofs.YtclcajnodoifjaaGreatDoor
open Go.RowKit Go.Shelf Go.Joins Go.Maps
set_option maxRecDepth 100000

/-- what is wrong with a key -/
def keyE (l : List Va) : Int := if l.length = 0 ∨ 4 < l.length then 1 else errs l
set_option maxHeartbeats 2000000 in
set_option maxRecDepth 1000000 in
theorem checkKey_any (p : Option Addr) (c : Nat) (l : List Va) (w : World) (hl : l.length ≤ 1000000000) (hv : rowAt w p l) (hs : ∀ v ∈ l, v.s.size ≤ 9223372036854775807) (hT : Tabs w) :
    Calls Tryz.prog 20 #[.slice p l.length c] w fun e w' => e = .returned (.int .i64 (keyE l)) ∧ Below w.heap.size w w' := by
  unfold keyE
  by_cases h0 : l.length = 0
  · rw [if_pos (Or.inl h0), h0]
    go_enter Tryz.func20, Tryz.ntmps20
    go_wp2_with fail
    go_ret
    exact ⟨rfl, Below.refl _ _⟩
  by_cases h4 : 4 < l.length
  · rw [if_pos (Or.inr h4)]
    have nz : ((l.length : Int) == 0) = false := by rw [beq_eq_false_iff_ne]; omega
    have n4 : (l.length : Int) > 4 := by omega
    clear hv hs hT h0
    generalize l.length = N at *
    go_enter Tryz.func20, Tryz.ntmps20
    go_wp2_with fail
    go_ret
    exact ⟨rfl, Below.refl _ _⟩
  rw [if_neg (by omega)]
  obtain ⟨g, hpg, hvs⟩ : ∃ g, p = some ⟨g, 0, none⟩ ∧ valsAt w g l := by
    rcases hv with h | h
    · rw [h] at h0; simp at h0
    · exact h
  clear hv
  subst hpg
  have hv := hvs
  clear hvs
  have nz : ((l.length : Int) == 0) = false := by rw [beq_eq_false_iff_ne]; omega
  have n4 : ¬ ((l.length : Int) > 4) := by omega
  obtain ⟨E, hE⟩ : ∃ E, E = errs l := ⟨_, rfl⟩
  rw [← hE]
  have HE : Hid (E = errs l) := hE
  clear hE
  obtain ⟨N, hN⟩ : ∃ N, N = l.length := ⟨_, rfl⟩
  rw [← hN] at nz n4 h0 h4 hl ⊢
  have HN := mkHid hN
  clear hN
  go_enter Tryz.func20, Tryz.ntmps20
  go_wp2_with fail
  go_loopw [16] (fun sk wr => ∃ k : Nat, sk = .int .i64 k ∧ k ≤ N ∧ Hid (E = errs (l.drop k)) ∧ Below w.heap.size w wr) (fun sk _ => N - (intOf sk).toNat)
  case atStart => exact ⟨0, rfl, Nat.zero_le _, HE, Below.refl _ _⟩
  case round =>
    obtain ⟨k, rfl, hk, hd, hb⟩ := hrel
    clear HE
    by_cases hlt : k < N
    · obtain ⟨v, hvk⟩ : ∃ v, l[k]? = some v := ⟨_, List.getElem?_eq_getElem (by have := HN.out; omega)⟩
      obtain ⟨c1, c2, c3⟩ := hv.2 k v hvk
      have d1 := (hb.cell (p := ⟨g, k * 3, none⟩) hv.1).trans c1
      have d2 := (hb.cell (p := ⟨g, k * 3 + 1, none⟩) hv.1).trans c2
      have d3 := (hb.cell (p := ⟨g, k * 3 + 2, none⟩) hv.1).trans c3
      have hsv := hs v (List.mem_of_getElem? hvk)
      rw [drop_at hvk] at hd
      have CK : Hid (∀ w, Tabs w → Calls Tryz.prog 45 #[.agg #[.int .i64 v.ty, .int .i64 v.n, .string v.s]] w fun e w' => e = .returned (.int .i64 v.chk) ∧ Below w.heap.size w w') := fun w h => Check_any v.ty v.n v.s w hsv h
      have HT1 : Hid (∀ o, Tabs (wr.alloc o)) := fun o => (hT.below hb).below ((Below.refl _ _).alloc (Nat.le_refl _) o)
      have HB1 : Hid (∀ o, Below w.heap.size w (wr.alloc o)) := fun o => hb.alloc hb.size o
      clear c1 c2 c3 hv hs hvk
      by_cases h0 : v.chk = 0
      · have hd2 : Hid (E = errs (l.drop (k + 1))) := hd.out.trans (errs_pass h0)
        rw [h0] at CK
        clear hd
        go_wp2_with fail
        refine (CK.out _ (HT1.out _)).mono ?_
        rintro e w1 ⟨rfl, hb2⟩
        have hb3 := (HB1.out _).trans (hb2.mono (HB1.out _).size)
        go_wp2_with fail
        go_roundw
        case rel => exact ⟨k + 1, by go_num, hlt, hd2, hb3⟩
        case measure => simp [intOf]; omega
      · have hd2 : Hid (E = v.chk) := hd.out.trans (errs_stop h0)
        have hne : (v.chk != 0) = true := by rw [bne_iff_ne]; exact h0
        clear hd
        obtain rfl := hd2.out
        go_wp2_with fail
        refine (CK.out _ (HT1.out _)).mono ?_
        rintro e w1 ⟨rfl, hb2⟩
        have hb3 := (HB1.out _).trans (hb2.mono (HB1.out _).size)
        go_wp2_with fail
        go_ret
        exact ⟨rfl, hb3⟩
    · obtain rfl : k = N := by omega
      have he : E = 0 := by
        have := hd.out
        rw [List.drop_eq_nil_of_le (by rw [HN.out]; exact Nat.le_refl _)] at this
        exact this
      subst he
      clear hd hv hs
      go_wp2_with fail
      go_ret
      exact ⟨rfl, hb⟩
end Go.Proofs.YtclcajnodoifjaaGreatDoor

