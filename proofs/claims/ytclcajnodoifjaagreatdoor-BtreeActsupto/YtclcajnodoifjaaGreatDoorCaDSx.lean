/-
 The tree's Drop of what stands at any place.
-/
import Derived.Test.YtclcajnodoifjaaGreatDoorCaCSx
import Derived.Test.YtclcajnodoifjaaGreatDoorIAN
namespace Go.Proofs.YtclcajnodoifjaaGreatDoor
open Go.RowKit Go.Shelf Go.Joins Go.Maps
set_option maxRecDepth 100000

set_option maxHeartbeats 2000000 in
theorem has_en_off (T : Nat → Prop) (y : En) (q : Option Addr) (cq d l bt : Nat) (n : Nd Em) (p1 : Option Addr) (n1 c1 : Nat) (p2 : Option Addr) (n2 c2 : Nat) (u : Bool) (sz : Int) (w w1 : World) (B : Nat) (hn : RtIn T w d l n (.slice p1 n1 c1) (.slice p2 n2 c2)) (ht : w.heap[bt]? = some (trO u (.slice p1 n1 c1) (.slice p2 n2 c2) sz)) (hy : EnOff w q y) (hb : Below w.heap.size w w1)
  (hB : w1.heap[B]? = some (.cells #[.slice q y.key.length cq, .int .u64 y.id] 65 (0, 0))) :
  Calls Tryz.prog 25 #[.pointer (some ⟨bt, 0, none⟩), .agg #[.func (.func 54) #[] #[.pointer (some ⟨B, 0, none⟩)], .func (.func 55) #[] #[.pointer (some ⟨B, 0, none⟩)]]] w1 fun e w' => e = .returned (.bool (!(ofEn y n.fl).isEmpty)) ∧ Below w1.heap.size w1 w' := by
 have h1 := (hb.block _ (lt_of_heap ht)).trans ht
 exact has_any (fun _ => True) _ _ _ _ _ _ d l bt n p1 n1 c1 p2 n2 c2 _ w1 rfl (hn.all.keeps (Keeps.of_below hb)) ⟨end_en1_off hB trivial (hy.below hb) (fun _ _ _ => trivial), end_en2_off hB trivial (hy.below hb) (fun _ _ _ => trivial), ⟨fun {a b} h1 h2 => (span_en y).1 h1 h2, fun {a b} h1 h2 => (span_en y).2 h1 h2⟩⟩ ((cell_of_block h1 1).trans rfl) ((cell_of_block h1 2).trans rfl)
set_option maxHeartbeats 4000000 in
set_option maxRecDepth 1000000 in
theorem Drop_no_off (T : Nat → Prop) (y : En) (q : Option Addr) (cq d bt : Nat) (n : Nd Em) (p1 : Option Addr) (n1 c1 : Nat) (p2 : Option Addr) (n2 c2 : Nat) (u : Bool) (sz : Int) (w : World) (hn : RtIn T w d (min d 1) n (.slice p1 n1 c1) (.slice p2 n2 c2)) (ht : w.heap[bt]? = some (trO u (.slice p1 n1 c1) (.slice p2 n2 c2) sz)) (hy : EnOff w q y) (hx : ofEn y n.fl = []) :
  Calls Tryz.prog 9 #[.pointer (some ⟨bt, 0, none⟩), .slice q y.key.length cq, .int .u64 y.id] w fun e w' => e = .returned (.bool false) ∧ Below w.heap.size w w' := by
 obtain ⟨w0, hw0⟩ : ∃ w0, w0 = w.alloc (.cells #[.slice q y.key.length cq, .int .u64 y.id] 65) := ⟨_, rfl⟩
 have d0 : w0.heap[w.heap.size]? = some (.cells #[.slice q y.key.length cq, .int .u64 y.id] 65 (0, 0)) := by rw [hw0]; exact heap_alloc_new _ _
 have b0 : Below w.heap.size w w0 := by rw [hw0]; exact (Below.refl _ w).alloc (Nat.le_refl _) _
 have HAS : Hid (∀ w1 B, Below w0.heap.size w0 w1 → w1.heap[B]? = some (.cells #[.slice q y.key.length cq, .int .u64 y.id] 65 (0, 0)) → Calls Tryz.prog 25 #[.pointer (some ⟨bt, 0, none⟩), .agg #[.func (.func 54) #[] #[.pointer (some ⟨B, 0, none⟩)], .func (.func 55) #[] #[.pointer (some ⟨B, 0, none⟩)]]] w1 fun e w' => e = .returned (.bool (false)) ∧ Below w1.heap.size w1 w') := fun w1 B hb hB => by
  have := has_en_off T y q cq d (min d 1) bt n p1 n1 c1 p2 n2 c2 u sz w w1 B hn ht hy (b0.trans (hb.mono b0.size)) hB
  rw [hx] at this
  exact this
 clear hn ht hy hx
 go_enter Tryz.func9, Tryz.ntmps9
 go_wp2_with fail
 rw [← hw0]
 have c0 : w0.cell? ⟨w.heap.size, 0, none⟩ = some (.slice q y.key.length cq) := (cell_of_block d0 0).trans rfl
 have c1 : w0.cell? ⟨w.heap.size, 1, none⟩ = some (.int .u64 y.id) := (cell_of_block d0 1).trans rfl
 clear hw0 d0
 go_wp2_with (first | (go_at_call 26; refine (onlyEntry_any q y.key.length cq y.id w0).mono ?_; rintro e w1 ⟨rfl, g1, b1⟩) | (go_at_call 25; refine (HAS.out w1 _ b1 g1).mono ?_; rintro e w2 ⟨rfl, b2⟩))
 go_ret
 exact ⟨rfl, b0.trans ((b1.trans (b2.mono b1.size)).mono b0.size)⟩
set_option maxHeartbeats 4000000 in
theorem dropped_off (T : Nat → Prop) (m : Em) (d : Nat) (n : Nd Em) (v1 v2 : Value) (q : Option Addr) (cq : Nat) (w : World) (hT : ∀ b, w.heap.size ≤ b → T b) (hn : RtIn T w d (min d 1) n v1 v2) (hy : EnOff w q m.e) (hx : ofEn m.e n.fl ≠ []) :
  Calls Tryz.prog 27 #[.agg #[v1, v2], enV q cq m.e] w (fun en w' => NdQ T w d (n.dropN ltM d m) en w') ∧ (n.dropN ltM d m).fl = del ltM m n.fl ∧ (n.dropN ltM d m).wf d 0 17 := by
 obtain ⟨x, hxx⟩ : ∃ x, x ∈ ofEn m.e n.fl := List.exists_mem_of_ne_nil _ hx
 obtain ⟨x1, x2⟩ := ofEn_mem.1 hxx
 have h2 : ordE m.e x.e = 0 := by
  have a1 := od_ordE.turn x.e m.e
  omega
 have g : ∃ x ∈ n.fl, ltM x m = false ∧ ltM m x = false := ⟨x, x1, ltE_not.2 (by omega), ltE_not.2 (by omega)⟩
 have h1 : 1 ≤ n.es.length := by
  cases d with
  | zero =>
   have := fl_zero hn.wf
   rw [this] at x1
   exact List.length_pos_of_mem x1
  | succ d => exact hn.ne (by omega)
 have hl := wf_len hn.wf
 obtain ⟨e1, e2⟩ := drop_ok ord3M d hn.wf h1 hn.up g
 have hl2 := wf_len e2
 exact ⟨drop_any_off d T n m q cq (min d 1) v1 v2 w hT hn.nd hy hn.wf h1 hn.up g, e1, wf_mono e2 (by omega) (by omega)⟩
set_option maxHeartbeats 4000000 in
set_option maxRecDepth 1000000 in
theorem Drop_yes_off (T : Nat → Prop) (y : En) (q : Option Addr) (cq d bt : Nat) (n : Nd Em) (p1 : Option Addr) (n1 c1 : Nat) (p2 : Option Addr) (n2 c2 : Nat) (u : Bool) (sz : Int) (w : World) (hn : RtIn T w d (min d 1) n (.slice p1 n1 c1) (.slice p2 n2 c2)) (ht : w.heap[bt]? = some (trO u (.slice p1 n1 c1) (.slice p2 n2 c2) sz)) (hy : EnOff w q y) (m : Em) (em : m.e = y) (hT : ∀ b, w.heap.size ≤ b → T b) (ho : ¬ T bt) (hx : ofEn y n.fl ≠ []) (s1 : 1 ≤ sz) (s2 : sz ≤ 4611686018427387904) :
  Calls Tryz.prog 9 #[.pointer (some ⟨bt, 0, none⟩), .slice q y.key.length cq, .int .u64 y.id] w fun e w' => e = .returned (.bool true) ∧ TrQ T w bt u (sz - 1) (del ltM m n.fl) w' := by
 obtain ⟨w0, hw0⟩ : ∃ w0, w0 = w.alloc (.cells #[.slice q y.key.length cq, .int .u64 y.id] 65) := ⟨_, rfl⟩
 have d0 : w0.heap[w.heap.size]? = some (.cells #[.slice q y.key.length cq, .int .u64 y.id] 65 (0, 0)) := by rw [hw0]; exact heap_alloc_new _ _
 have b0 : Below w.heap.size w w0 := by rw [hw0]; exact (Below.refl _ w).alloc (Nat.le_refl _) _
 have HAS : Hid (∀ w1 B, Below w0.heap.size w0 w1 → w1.heap[B]? = some (.cells #[.slice q y.key.length cq, .int .u64 y.id] 65 (0, 0)) → Calls Tryz.prog 25 #[.pointer (some ⟨bt, 0, none⟩), .agg #[.func (.func 54) #[] #[.pointer (some ⟨B, 0, none⟩)], .func (.func 55) #[] #[.pointer (some ⟨B, 0, none⟩)]]] w1 fun e w' => e = .returned (.bool (true)) ∧ Below w1.heap.size w1 w') := fun w1 B hb hB => by
  have := has_en_off T y q cq d (min d 1) bt n p1 n1 c1 p2 n2 c2 u sz w w1 B hn ht hy (b0.trans (hb.mono b0.size)) hB
  rw [show (!(ofEn y n.fl).isEmpty) = true from by cases h : ofEn y n.fl with | nil => exact absurd h hx | cons => rfl] at this
  exact this
 have lb := lt_of_heap ht
 have DR : Hid (∀ W, Below w.heap.size w W → Calls Tryz.prog 27 #[.agg #[.slice p1 n1 c1, .slice p2 n2 c2], .agg #[.slice q y.key.length cq, .int .u64 y.id]] W fun en w' => (∃ p3 n3 c3 p4 n4 c4, en = .returned (.agg #[.slice p3 n3 c3, .slice p4 n4 c4]) ∧ ndIn T w' d (n.dropN ltM d m) (.slice p3 n3 c3) (.slice p4 n4 c4)) ∧ Below W.heap.size W w') := fun W hW => by
  subst em
  refine (dropped_off T m d n _ _ q cq W (fun b hb => hT b (Nat.le_trans hW.size hb)) (hn.keeps (Keeps.of_below hW)) (hy.below hW) hx).1.mono (fun en w' h => ?_)
  obtain ⟨r1, r2, e1, e2, e3⟩ := h
  obtain ⟨p3, c3, p4, c4, rfl, rfl⟩ := e2.slices
  exact ⟨⟨_, _, _, _, _, _, e1, e2⟩, e3⟩
 have FW : Hid ((n.dropN ltM d m).fl = del ltM m n.fl ∧ (n.dropN ltM d m).wf d 0 17) := by
  subst em
  exact (dropped_off T m d n _ _ q cq w hT hn hy hx).2
 have AR : Hid (∀ W p3 n3 c3 p4 n4 c4, w.heap.size ≤ W.heap.size → ndIn T W d (n.dropN ltM d m) (.slice p3 n3 c3) (.slice p4 n4 c4) → Calls Tryz.prog 23 #[.agg #[.slice p3 n3 c3, .slice p4 n4 c4]] W fun en w' => (∃ p5 n5 c5 p6 n6 c6, en = .returned (.agg #[.slice p5 n5 c5, .slice p6 n6 c6]) ∧ ∃ d', ndIn T w' d' (n.dropN ltM d m).rootN (.slice p5 n5 c5) (.slice p6 n6 c6) ∧ (n.dropN ltM d m).rootN.tree d') ∧ Below W.heap.size W w') := fun W p3 n3 c3 p4 n4 c4 hW hd => by
  refine (asRoot_any T d _ _ _ W (fun b hb => hT b (Nat.le_trans hW hb)) hd FW.out.2).mono (fun en w' h => ?_)
  obtain ⟨d', ⟨r1, r2, e1, e2, e3⟩, e4⟩ := h
  obtain ⟨p5, c5, p6, c6, rfl, rfl⟩ := e2.slices
  exact ⟨⟨_, _, _, _, _, _, e1, d', e2, e4⟩, e3⟩
 have FL : Hid ((n.dropN ltM d m).rootN.fl = del ltM m n.fl) := (root_ok FW.out.2).1.trans FW.out.1
 have HT := mkHid ht
 have HO := mkHid ho
 clear hn ht hy hx hT FW ho em
 go_enter Tryz.func9, Tryz.ntmps9
 go_wp2_with fail
 rw [← hw0]
 have j0 : w0.cell? ⟨w.heap.size, 0, none⟩ = some (.slice q y.key.length cq) := (cell_of_block d0 0).trans rfl
 have j1 : w0.cell? ⟨w.heap.size, 1, none⟩ = some (.int .u64 y.id) := (cell_of_block d0 1).trans rfl
 clear hw0
 go_wp2_with (first | (go_at_call 26; refine (onlyEntry_any q y.key.length cq y.id w0).mono ?_; rintro e w1 ⟨rfl, g1, b1⟩) | (go_at_call 25; refine (HAS.out w1 _ b1 g1).mono ?_; rintro e w2 ⟨rfl, b2⟩))
 have bw : Below w.heap.size w w2 := b0.trans ((b1.trans (b2.mono b1.size)).mono b0.size)
 have bd : w2.heap[w.heap.size]? = some (.cells #[.slice q y.key.length cq, .int .u64 y.id] 65 (0, 0)) := ((b1.trans (b2.mono b1.size)).block _ (lt_of_heap d0)).trans d0
 have BT : Hid (∀ W, Below w2.heap.size w2 W → W.heap[bt]? = some (trO u (.slice p1 n1 c1) (.slice p2 n2 c2) sz)) := fun W hW => (hW.block _ (Nat.lt_of_lt_of_le lb bw.size)).trans ((bw.block _ lb).trans HT.out)
 have KS : Hid (∀ w', Chg (fun b => b = bt) w2 w' → (fun w' : World => w'.cell? ⟨w.heap.size, 0, none⟩ = some (.slice q y.key.length cq) ∧ w'.cell? ⟨w.heap.size, 1, none⟩ = some (.int .u64 y.id)) w') := fun w' hc => by
  have := (hc.at_ bd (fun e => by omega))
  exact ⟨(cell_of_block this 0).trans rfl, (cell_of_block this 1).trans rfl⟩
 have BW := mkHid bw
 clear j0 j1 d0 b0 b1 b2 g1 bd bw HAS HT
 refine wp_region_noPanic ?_
 refine wp_region_held_drew (S := fun w' : World => w'.cell? ⟨w.heap.size, 0, none⟩ = some (.slice q y.key.length cq) ∧ w'.cell? ⟨w.heap.size, 1, none⟩ = some (.int .u64 y.id)) (by kernel_rfl) (KS.out _ (Chg.refl _ _).drew) (fun hH => ?_)
 refine tKx (i := 0) (v := .pointer (some ⟨bt, 0, none⟩)) rfl rfl (by kernel_rfl) (fun _ _ _ h => h) ?_ hH ?_
 ·intro w5 hSw; obtain ⟨s0, s1⟩ := hSw; go_simp
 simp only [zA9, zB9, zC9]
 refine tKx (i := 1) (v := .pointer (some ⟨bt, 0, none⟩)) rfl rfl (by kernel_rfl) (fun _ _ _ h => h) ?_ hH ?_
 ·intro w5 hSw; obtain ⟨s0, s1⟩ := hSw; go_simp
 simp only [zA9, zB9, zC9]
 refine tKx (i := 2) (v := .pointer (some ⟨bt, 0, none⟩)) rfl rfl (by kernel_rfl) (fun _ _ _ h => h) ?_ hH ?_
 ·intro w5 hSw; obtain ⟨s0, s1⟩ := hSw; go_simp
 simp only [zA9, zB9, zC9]
 refine tKx (i := 3) (v := .pointer (some ⟨bt, 1, none⟩)) rfl rfl (by kernel_rfl) (fun _ _ _ h => h) ?_ hH ?_
 ·intro w5 hSw; obtain ⟨s0, s1⟩ := hSw; go_simp
 simp only [zA9, zB9, zC9]
 refine tKx (i := 5) (v := .agg #[.slice q y.key.length cq, .int .u64 y.id]) rfl rfl (by kernel_rfl) (fun _ _ _ h => h) ?_ hH ?_
 ·intro w5 hSw; obtain ⟨s0, s1⟩ := hSw; go_simp
 simp only [zA9, zB9, zC9]
 refine wpAnyH_ready (rs := [4]) (by kernel_rfl) (by simp) ?_
 refine AllReadyH.cons rfl (fun K hK => ?_) AllReadyH.nil
 have k1 : w2.drew.cell? ⟨bt, 1, none⟩ = some (.slice p1 n1 c1) := (cell_of_block (BT.out _ (Below.refl _ _).drew) 1).trans rfl
 have k2 : w2.drew.cell? ⟨bt, 2, none⟩ = some (.slice p2 n2 c2) := (cell_of_block (BT.out _ (Below.refl _ _).drew) 2).trans rfl
 go_simp
 refine hK.out _ _ (KS.out _ (Chg.refl _ _).drew) (fun hH => ?_)
 clear hK K k1 k2
 refine wpAnyH_ready (rs := [6]) (by kernel_rfl) (by simp) ?_
 refine AllReadyH.cons rfl (fun K hK => ?_) AllReadyH.nil
 go_simp
 go_at_call 27
 refine (DR.out _ (BW.out.trans ((Below.refl _ w2).drew.mono BW.out.size))).mono ?_
 rintro e W1 ⟨⟨p3, n3, c3, p4, n4, c4, rfl, k3⟩, hb1⟩
 have HN3 := mkHid k3
 clear k3
 go_wp2_with fail
 have B1 : Hid (Below w2.heap.size w2 W1) := (Below.refl _ w2).drew.trans hb1
 clear hb1
 refine hK.out _ _ (KS.out _ (chg_bl B1.out)) (fun hH => ?_)
 clear hK K
 refine wpAnyH_ready (rs := [7]) (by kernel_rfl) (by simp) ?_
 refine AllReadyH.cons rfl (fun K hK => ?_) AllReadyH.nil
 go_simp
 go_at_call 23
 refine (AR.out _ _ _ _ _ _ _ (Nat.le_trans BW.out.size B1.out.size) HN3.out).mono ?_
 rintro e W2 ⟨⟨p5, n5, c5, p6, n6, c6, rfl, d5, k5, k6⟩, hb2⟩
 have HN5 := mkHid k5
 have HN6 := mkHid k6
 clear k5 k6
 go_wp2_with fail
 have B2 : Hid (Below w2.heap.size w2 W2) := B1.out.trans (hb2.mono B1.out.size)
 clear hb2
 refine hK.out _ _ (KS.out _ (chg_bl B2.out)) (fun hH => ?_)
 clear hK K
 refine tKx (i := 8) (v := .pointer (some ⟨bt, 0, none⟩)) rfl rfl (by kernel_rfl) (fun _ _ _ h => h) ?_ hH ?_
 ·intro w5 hSw; obtain ⟨s0, s1⟩ := hSw; go_simp
 simp only [zA9, zB9, zC9]
 refine tKx (i := 9) (v := .pointer (some ⟨bt, 1, none⟩)) rfl rfl (by kernel_rfl) (fun _ _ _ h => h) ?_ hH ?_
 ·intro w5 hSw; obtain ⟨s0, s1⟩ := hSw; go_simp
 simp only [zA9, zB9, zC9]
 have RC := BT.out _ B2.out
 refine wpAnyH_ready (rs := [10]) (by kernel_rfl) (by simp) ?_
 refine AllReadyH.cons rfl (fun K hK => ?_) AllReadyH.nil
 have q0 : W2.cell? ⟨bt, 1, none⟩ = some (.slice p1 n1 c1) := (cell_of_block RC 1).trans rfl
 have q1 : W2.cell? ⟨bt, 2, none⟩ = some (.slice p2 n2 c2) := (cell_of_block RC 2).trans rfl
 have y0 := unfrozen_of_block RC 1
 have y1 := unfrozen_of_block RC 2
 go_simp
 have CG : Hid (Chg (fun b => b = bt) w2 ((W2.setCell ⟨bt, 1, none⟩ (.slice p5 n5 c5)).setCell ⟨bt, 2, none⟩ (.slice p6 n6 c6))) := chg_set (X := fun b => b = bt) (chg_set (X := fun b => b = bt) (chg_bl B2.out) ⟨bt, 1, none⟩ (.slice p5 n5 c5) rfl) ⟨bt, 2, none⟩ (.slice p6 n6 c6) rfl
 refine hK.out _ _ (KS.out _ CG.out) (fun hH => ?_)
 clear hK K q0 q1 y0 y1
 refine wpAnyH_done (by kernel_rfl) ?_ _
 refine NoPanic.normal ?_
 have RD : ((W2.setCell ⟨bt, 1, none⟩ (.slice p5 n5 c5)).setCell ⟨bt, 2, none⟩ (.slice p6 n6 c6)).heap[bt]? = some (trO u (.slice p5 n5 c5) (.slice p6 n6 c6) sz) := heap_set_in (heap_set_in RC)
 have ND : Hid (ndIn T ((W2.setCell ⟨bt, 1, none⟩ (.slice p5 n5 c5)).setCell ⟨bt, 2, none⟩ (.slice p6 n6 c6)) d5 (n.dropN ltM d m).rootN (.slice p5 n5 c5) (.slice p6 n6 c6)) := HN5.out.keeps ((Keeps.set _ HO.out).trans (Keeps.set _ HO.out))
 generalize (W2.setCell ⟨bt, 1, none⟩ (.slice p5 n5 c5)).setCell ⟨bt, 2, none⟩ (.slice p6 n6 c6) = w5 at RD ND CG hH ⊢
 have FN : Hid (TrQ T w bt u (sz - 1) (del ltM m n.fl) (w5.setCell ⟨bt, 3, none⟩ (.int .i64 (sz - 1)))) := ⟨d5, _, _, _, _, _, _, _, heap_set_in RD, ND.out.keeps (Keeps.set _ HO.out), HN6.out, FL.out, chg_set ((show Chg (fun b => b = bt) w w2 from chg_bl BW.out).trans CG.out) ⟨bt, 3, none⟩ _ rfl⟩
 have z3 : w5.cell? ⟨bt, 3, none⟩ = some (.int .i64 sz) := (cell_of_block RD 3).trans rfl
 have x3 := unfrozen_of_block RD 3
 have wr : IntKind.i64.wrap (sz - 1) = sz - 1 := by rw [IntKind.wrap_i64]; omega
 clear RD ND CG RC B1 B2 HN3 HN5 HN6 KS BT DR AR FL BW hH
 go_wp2_with fail
 go_ret
 exact ⟨rfl, FN.out⟩
end Go.Proofs.YtclcajnodoifjaaGreatDoor

