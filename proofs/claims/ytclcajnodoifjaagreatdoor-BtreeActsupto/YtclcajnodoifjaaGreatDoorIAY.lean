/-
 The walk of the law's does, kinds 0 and 1, in a tree of either kind.
-/
import Derived.Test.YtclcajnodoifjaaGreatDoorIAW
import Derived.Test.YtclcajnodoifjaaGreatDoorIAU
import Derived.Test.YtclcajnodoifjaaGreatDoorIAX
namespace Go.Proofs.YtclcajnodoifjaaGreatDoor
open Go.RowKit Go.Shelf Go.Joins Go.Maps
set_option maxRecDepth 100000

/-- what does leaves -/
def DoU (u : Bool) (T : Nat → Prop) (w : World) (bt dd : Nat) (e : Ending) (w' : World) : Prop := e = .returned (.bool true) ∧ Chg (fun b => b = bt ∨ b = dd) w w' ∧ ∃ L' D', PrU u T w' bt dd L' D'
set_option maxHeartbeats 4000000 in
set_option maxRecDepth 1000000 in
theorem does_put_u (u : Bool) (T : Nat → Prop) (bt dd : Nat) (L D : List Em) (k : List Va) (id stop : Int) (q P1 P2 : Option Addr) (c n1 C1 n2 C2 : Nat) (li hi : Bool) (w : World) (h : PrU u T w bt dd L D) (hT : ∀ b, w.heap.size ≤ b → T b) (h1 : ¬ T bt) (h2 : ¬ T dd) (hk : rowOff w q k) (fk : ∀ v ∈ k, fit v.n) (hs : ∀ v ∈ k, v.s.size ≤ 9223372036854775807) (hl : k.length ≤ 1000000000) (hTb : Tabs w) :
  Calls Tryz.prog 10 #[.pointer (some ⟨bt, 0, none⟩), .pointer (some ⟨dd, 0, none⟩), .agg #[.int .i64 0, .int .i64 stop, .slice q k.length c, .int .u64 id, .slice P1 n1 C1, .slice P2 n2 C2, .bool li, .bool hi]] w fun e w' => DoU u T w bt dd e w' := by
 obtain ⟨w0, hw0⟩ : ∃ w0, w0 = w.alloc (.cells #[.int .i64 0, .int .i64 stop, .slice q k.length c, .int .u64 id, .slice P1 n1 C1, .slice P2 n2 C2, .bool li, .bool hi] 35) := ⟨_, rfl⟩
 have b0 : Below w.heap.size w w0 := by rw [hw0]; exact (Below.refl _ w).alloc (Nat.le_refl _) _
 have d0 : w0.heap[w.heap.size]? = some (.cells #[.int .i64 0, .int .i64 stop, .slice q k.length c, .int .u64 id, .slice P1 n1 C1, .slice P2 n2 C2, .bool li, .bool hi] 35 (0, 0)) := by rw [hw0]; exact heap_alloc_new _ _
 have lbt : bt < w.heap.size := by obtain ⟨_, _, _, _, _, _, _, _, _, a, _⟩ := h.tr; exact lt_of_heap a
 have ldd : dd < w.heap.size := by obtain ⟨_, _, a⟩ := h.dc; exact lt_of_heap a.box
 have sz0 : w0.heap.size = w.heap.size + 1 := by rw [hw0, World.size_alloc]
 have CP := mkHid (copied_off q c k w0 (hk.below b0) hl)
 have PP : Hid (∀ w1 g d W, Below w0.heap.size w0 w1 → w0.heap.size ≤ g → g < w1.heap.size → rowAt w1 (some ⟨g, 0, none⟩) k → Below w1.heap.size w1 W → Calls Tryz.prog 8 #[.pointer (some ⟨bt, 0, none⟩), .slice (some ⟨g, 0, none⟩) k.length d, .int .u64 id] W fun e W1 => ∃ x, e = .returned (.int .i64 x) ∧ Chg (fun b => b = bt) W W1 ∧ Calls Tryz.prog 12 #[.pointer (some ⟨dd, 0, none⟩), .slice q k.length c, .int .u64 id] W1 fun e2 W2 => e2 = .returned (.int .i64 x) ∧ Chg (fun b => b = dd) W1 W2 ∧ ∃ L' D', PrU u (fun b => T b ∧ b ≠ g) W2 bt dd L' D') := fun w1 g d W hw1 hg1 hg2 hr hW => by
  have bw : Below w.heap.size w W := b0.trans ((hw1.trans (hW.mono hw1.size)).mono b0.size)
  have hp : PrU u (fun b => T b ∧ b ≠ g) W bt dd L D := (h.mono (U := fun b => T b ∧ b ≠ g) (fun b hb ht => ⟨ht, by omega⟩)).chg (S := fun _ => False) (chg_bl bw) (fun _ e => e.elim) (fun e => e) (fun e => e)
  exact both_put_u u (fun b => T b ∧ b ≠ g) bt dd L D k id _ d q c W hp (fun b hb => ⟨hT b (Nat.le_trans bw.size hb), by have := hW.size; omega⟩) (fun e => h1 e.1) (fun e => h2 e.1) (hr.below hW) (hk.below bw) fk hs hl (hTb.below bw)
 have B0 := mkHid b0
 have D0 := mkHid d0
 have LB : Hid (bt < w.heap.size ∧ dd < w.heap.size ∧ w0.heap.size = w.heap.size + 1) := ⟨lbt, ldd, sz0⟩
 have HO : Hid (¬ T bt ∧ ¬ T dd) := ⟨h1, h2⟩
 have ZL := mkHid hl
 obtain ⟨N, hN⟩ : ∃ N, N = k.length := ⟨_, rfl⟩
 obtain ⟨ix, hix⟩ : ∃ i, i = id := ⟨_, rfl⟩
 have HN := mkHid hN
 rw [← hN] at CP PP D0 hw0 ⊢
 rw [← hix] at PP D0 hw0 ⊢
 have HW := mkHid hw0
 have c2 : w0.cell? ⟨w.heap.size, 2, none⟩ = some (.slice q N c) := (cell_of_block D0.out 2).trans rfl
 clear h hT h1 h2 hk fk hs hl hTb b0 d0 lbt ldd sz0 hN hix hw0
 go_enter Tryz.func10, Tryz.ntmps10
 go_wp2_with fail
 rw [← HW.out]
 clear HW
 go_wp2_with (go_at_call 15; refine CP.out.mono ?_; rintro e w1 ⟨g, d, rfl, hg1, hr, hblk, b1⟩; have D1 := mkHid ((b1.block _ (lt_of_heap D0.out)).trans D0.out); have c0 : w1.cell? ⟨w.heap.size, 0, none⟩ = some (.int .i64 0) := (cell_of_block D1.out 0).trans rfl)
 have HG1 := mkHid hg1
 have HBK := mkHid hblk
 have HG2 : Hid (g < w1.heap.size) := by obtain ⟨cs, e, _⟩ := hblk; exact lt_of_heap e
 have PT := mkHid (fun W hW => PP.out w1 g d W b1 hg1 HG2.out hr hW)
 have BW1 : Hid (Below w.heap.size w w1) := B0.out.trans (b1.mono B0.out.size)
 have KS : Hid (∀ W, Chg (fun b => b = bt ∨ b = dd) w1 W → (fun w' : World => w'.cell? ⟨w.heap.size, 2, none⟩ = some (.slice q N c) ∧ w'.cell? ⟨w.heap.size, 3, none⟩ = some (.int .u64 ix)) W) := fun W hW => by
  have := hW.at_ D1.out (fun e => by have := LB.out; omega)
  exact ⟨(cell_of_block this 2).trans rfl, (cell_of_block this 3).trans rfl⟩
 clear c0 c2 CP PP b1 hg1 hr hblk
 refine wp_region_noPanic ?_
 refine wp_region_held_drew (S := fun w' : World => w'.cell? ⟨w.heap.size, 2, none⟩ = some (.slice q N c) ∧ w'.cell? ⟨w.heap.size, 3, none⟩ = some (.int .u64 ix)) (by kernel_rfl) (KS.out _ (Chg.refl _ _).drew) (fun hH => ?_)
 refine tKx (i := 0) (v := .pointer (some ⟨bt, 0, none⟩)) rfl rfl (by kernel_rfl) (fun _ _ _ h => h) ?_ hH ?_
 ·intro w5 hSw; obtain ⟨s0, s1⟩ := hSw; go_simp
 simp only [zA9, zB9, zC9]
 refine tKx (i := 1) (v := .slice (some ⟨g, 0, none⟩) N d) rfl rfl (by kernel_rfl) (fun _ _ _ h => h) ?_ hH ?_
 ·intro w5 hSw; obtain ⟨s0, s1⟩ := hSw; go_simp
 simp only [zA9, zB9, zC9]
 refine tKx (i := 2) (v := .pointer (some ⟨w.heap.size, 3, none⟩)) rfl rfl (by kernel_rfl) (fun _ _ _ h => h) ?_ hH ?_
 ·intro w5 hSw; obtain ⟨s0, s1⟩ := hSw; go_simp
 simp only [zA9, zB9, zC9]
 refine tKx (i := 3) (v := .int .u64 ix) rfl rfl (by kernel_rfl) (fun _ _ _ h => h) ?_ hH ?_
 ·intro w5 hSw; obtain ⟨s0, s1⟩ := hSw; go_simp
 simp only [zA9, zB9, zC9]
 refine tKx (i := 5) (v := .pointer (some ⟨dd, 0, none⟩)) rfl rfl (by kernel_rfl) (fun _ _ _ h => h) ?_ hH ?_
 ·intro w5 hSw; obtain ⟨s0, s1⟩ := hSw; go_simp
 simp only [zA9, zB9, zC9]
 refine tKx (i := 6) (v := .pointer (some ⟨w.heap.size, 2, none⟩)) rfl rfl (by kernel_rfl) (fun _ _ _ h => h) ?_ hH ?_
 ·intro w5 hSw; obtain ⟨s0, s1⟩ := hSw; go_simp
 simp only [zA9, zB9, zC9]
 refine tKx (i := 7) (v := .slice q N c) rfl rfl (by kernel_rfl) (fun _ _ _ h => h) ?_ hH ?_
 ·intro w5 hSw; obtain ⟨s0, s1⟩ := hSw; go_simp
 simp only [zA9, zB9, zC9]
 refine tKx (i := 8) (v := .pointer (some ⟨w.heap.size, 3, none⟩)) rfl rfl (by kernel_rfl) (fun _ _ _ h => h) ?_ hH ?_
 ·intro w5 hSw; obtain ⟨s0, s1⟩ := hSw; go_simp
 simp only [zA9, zB9, zC9]
 refine tKx (i := 9) (v := .int .u64 ix) rfl rfl (by kernel_rfl) (fun _ _ _ h => h) ?_ hH ?_
 ·intro w5 hSw; obtain ⟨s0, s1⟩ := hSw; go_simp
 simp only [zA9, zB9, zC9]
 refine wpAnyH_ready (rs := [4]) (by kernel_rfl) (by simp) ?_
 refine AllReadyH.cons rfl (fun K hK => ?_) AllReadyH.nil
 go_simp
 go_at_call 8
 refine (PT.out w1.drew (Below.refl _ _).drew).mono ?_
 rintro e W1 ⟨x, rfl, hc1, PD⟩
 replace PD := mkHid PD
 go_wp2_with fail
 have C1 : Hid (Chg (fun b => b = bt ∨ b = dd) w1 W1) := ((Chg.refl _ w1).drew).trans (hc1.mono (fun _ _ e => Or.inl e))
 refine hK.out _ _ (KS.out _ C1.out) (fun hH => ?_)
 clear hK K hc1
 refine wpAnyH_ready (rs := [10]) (by kernel_rfl) (by simp) ?_
 refine AllReadyH.cons rfl (fun K hK => ?_) AllReadyH.nil
 go_simp
 go_at_call 12
 refine PD.out.mono ?_
 rintro e W2 ⟨rfl, hc2, L2, D2, hp⟩
 replace hp := mkHid hp
 go_wp2_with fail
 have C2 : Hid (Chg (fun b => b = bt ∨ b = dd) w1 W2) := C1.out.trans (hc2.mono (fun _ _ e => Or.inr e))
 refine hK.out _ _ (KS.out _ C2.out) (fun hH => ?_)
 clear hK K hc2
 refine tKx (i := 11) (v := .bool false) rfl rfl (by kernel_rfl) (fun _ _ _ h => h) ?_ hH ?_
 ·intro w5 hSw; obtain ⟨s0, s1⟩ := hSw; go_simp
 simp only [zA9, zB9, zC9]
 refine wpAnyH_done (by kernel_rfl) ?_ _
 refine NoPanic.normal ?_
 clear hH KS PT PD C1
 have GL0 : Hid (GoL W2 g N W2) := by
  obtain ⟨cs, e, hz⟩ := HBK.out
  refine ⟨Chg.refl _ _, cs, C2.out.at_ e (fun e => by have := LB.out; have := HG1.out; omega), hz⟩
 have FIN : Hid (∀ wr, GoL W2 g N wr → DoU u T w bt dd (.returned (.bool true)) wr) := fun wr hG => by
  have hw2 : Chg (fun b => b = bt ∨ b = dd) w W2 := (chg_bl BW1.out : Chg (fun b => b = bt ∨ b = dd) w w1).trans C2.out
  have hg : w.heap.size ≤ g := by have := LB.out; have := HG1.out; omega
  refine ⟨rfl, chg_new hw2 hG.chg hg, L2, D2, ?_⟩
  exact (hp.out.chg hG.chg (fun b e ht => ht.2 e) (fun e => by have := LB.out; omega) (fun e => by have := LB.out; omega)).mono (fun b _ ht => ht.1)
 have zN : N ≤ 1000000000 := by rw [HN.out]; exact ZL.out
 clear C2 hp HBK D0 D1 BW1 B0
 go_wp2_with fail
 go_loopw [8] (fun s8 wr => ∃ i : Nat, s8 = .int .i64 i ∧ i ≤ N ∧ Hid (GoL W2 g N wr)) (fun s8 _ => N - (intOf s8).toNat)
 case atStart => exact ⟨0, rfl, Nat.zero_le _, GL0⟩
 case round =>
  obtain ⟨i, rfl, him, hG⟩ := hrel
  clear GL0
  by_cases hlt : i < N
  ·obtain ⟨t0, ht0⟩ := hG.out.cell hlt (r := 0) (by omega)
   obtain ⟨t1, ht1⟩ := hG.out.cell hlt (r := 1) (by omega)
   obtain ⟨t2, ht2⟩ := hG.out.cell hlt (r := 2) (by omega)
   have hfr : ∀ o, wr.frozen? ⟨g, o, none⟩ = false := fun o => hG.out.fro
   have i3 : (i : Int) < (N : Int) := by omega
   rw [Nat.add_zero] at ht0
   have NX : Hid (∀ a b c, GoL W2 g N (((wr.setCell ⟨g, i * 3, none⟩ a).setCell ⟨g, i * 3 + 1, none⟩ b).setCell ⟨g, i * 3 + 2, none⟩ c)) := fun a b c => hG.out.set.set.set
   clear hG
   go_wp2_with fail
   go_roundw
   case rel => exact ⟨i + 1, by go_num, hlt, NX.out _ _ _⟩
   case measure => simp [intOf]; omega
  ·obtain rfl : i = N := by omega
   have FX := mkHid (FIN.out wr hG.out)
   clear hG FIN
   go_wp2_with fail
   go_ret
   exact FX.out
set_option maxHeartbeats 4000000 in
set_option maxRecDepth 1000000 in
theorem does_drop_u (u : Bool) (T : Nat → Prop) (bt dd : Nat) (L D : List Em) (k : List Va) (id stop : Int) (q P1 P2 : Option Addr) (c n1 C1 n2 C2 : Nat) (li hi : Bool) (w : World) (h : PrU u T w bt dd L D) (hT : ∀ b, w.heap.size ≤ b → T b) (h1 : ¬ T bt) (h2 : ¬ T dd) (hk : rowOff w q k) (fk : ∀ v ∈ k, fit v.n) (hl : k.length ≤ 1000000000) :
  Calls Tryz.prog 10 #[.pointer (some ⟨bt, 0, none⟩), .pointer (some ⟨dd, 0, none⟩), .agg #[.int .i64 1, .int .i64 stop, .slice q k.length c, .int .u64 id, .slice P1 n1 C1, .slice P2 n2 C2, .bool li, .bool hi]] w fun e w' => DoU u T w bt dd e w' := by
 obtain ⟨w0, hw0⟩ : ∃ w0, w0 = w.alloc (.cells #[.int .i64 1, .int .i64 stop, .slice q k.length c, .int .u64 id, .slice P1 n1 C1, .slice P2 n2 C2, .bool li, .bool hi] 35) := ⟨_, rfl⟩
 have b0 : Below w.heap.size w w0 := by rw [hw0]; exact (Below.refl _ w).alloc (Nat.le_refl _) _
 have d0 : w0.heap[w.heap.size]? = some (.cells #[.int .i64 1, .int .i64 stop, .slice q k.length c, .int .u64 id, .slice P1 n1 C1, .slice P2 n2 C2, .bool li, .bool hi] 35 (0, 0)) := by rw [hw0]; exact heap_alloc_new _ _
 have lbt : bt < w.heap.size := by obtain ⟨_, _, _, _, _, _, _, _, _, a, _⟩ := h.tr; exact lt_of_heap a
 have ldd : dd < w.heap.size := by obtain ⟨_, _, a⟩ := h.dc; exact lt_of_heap a.box
 have CP := mkHid (copied_off q c k w0 (hk.below b0) hl)
 have PP : Hid (∀ w1 g d W, Below w0.heap.size w0 w1 → rowAt w1 (some ⟨g, 0, none⟩) k → Below w1.heap.size w1 W → Calls Tryz.prog 9 #[.pointer (some ⟨bt, 0, none⟩), .slice (some ⟨g, 0, none⟩) k.length d, .int .u64 id] W fun e W1 => ∃ x, e = .returned (.bool x) ∧ Chg (fun b => b = bt) W W1 ∧ Calls Tryz.prog 19 #[.pointer (some ⟨dd, 0, none⟩), .slice q k.length c, .int .u64 id] W1 fun e2 W2 => e2 = .returned (.bool x) ∧ Chg (fun b => b = dd) W1 W2 ∧ ∃ L' D', PrU u T W2 bt dd L' D') := fun w1 g d W hw1 hr hW => by
  have bw : Below w.heap.size w W := b0.trans ((hw1.trans (hW.mono hw1.size)).mono b0.size)
  have hp : PrU u T W bt dd L D := h.chg (S := fun _ => False) (chg_bl bw) (fun _ e => e.elim) (fun e => e) (fun e => e)
  exact both_drop_u u T bt dd L D k id _ d q c W hp (fun b hb => hT b (Nat.le_trans bw.size hb)) h1 h2 (hr.below hW) (hk.below bw) fk
 have B0 := mkHid b0
 have D0 := mkHid d0
 have LB : Hid (bt < w.heap.size ∧ dd < w.heap.size) := ⟨lbt, ldd⟩
 obtain ⟨N, hN⟩ : ∃ N, N = k.length := ⟨_, rfl⟩
 obtain ⟨ix, hix⟩ : ∃ i, i = id := ⟨_, rfl⟩
 rw [← hN] at CP PP D0 hw0 ⊢
 rw [← hix] at PP D0 hw0 ⊢
 have HW := mkHid hw0
 have c2 : w0.cell? ⟨w.heap.size, 2, none⟩ = some (.slice q N c) := (cell_of_block D0.out 2).trans rfl
 clear h hT h1 h2 hk fk hl b0 d0 lbt ldd hN hix hw0
 go_enter Tryz.func10, Tryz.ntmps10
 go_wp2_with fail
 rw [← HW.out]
 clear HW
 go_wp2_with (go_at_call 15; refine CP.out.mono ?_; rintro e w1 ⟨g, d, rfl, hg1, hr, hblk, b1⟩; have D1 := mkHid ((b1.block _ (lt_of_heap D0.out)).trans D0.out); have c0 : w1.cell? ⟨w.heap.size, 0, none⟩ = some (.int .i64 1) := (cell_of_block D1.out 0).trans rfl)
 have PT := mkHid (fun W hW => PP.out w1 g d W b1 hr hW)
 have BW1 : Hid (Below w.heap.size w w1) := B0.out.trans (b1.mono B0.out.size)
 have KS : Hid (∀ W, Chg (fun b => b = bt ∨ b = dd) w1 W → (fun w' : World => w'.cell? ⟨w.heap.size, 2, none⟩ = some (.slice q N c) ∧ w'.cell? ⟨w.heap.size, 3, none⟩ = some (.int .u64 ix)) W) := fun W hW => by
  have := hW.at_ D1.out (fun e => by have := LB.out; omega)
  exact ⟨(cell_of_block this 2).trans rfl, (cell_of_block this 3).trans rfl⟩
 clear c0 c2 CP PP b1 hg1 hr hblk
 refine wp_region_noPanic ?_
 refine wp_region_held_drew (S := fun w' : World => w'.cell? ⟨w.heap.size, 2, none⟩ = some (.slice q N c) ∧ w'.cell? ⟨w.heap.size, 3, none⟩ = some (.int .u64 ix)) (by kernel_rfl) (KS.out _ (Chg.refl _ _).drew) (fun hH => ?_)
 refine tKx (i := 0) (v := .pointer (some ⟨bt, 0, none⟩)) rfl rfl (by kernel_rfl) (fun _ _ _ h => h) ?_ hH ?_
 ·intro w5 hSw; obtain ⟨s0, s1⟩ := hSw; go_simp
 simp only [zA9, zB9, zC9]
 refine tKx (i := 1) (v := .slice (some ⟨g, 0, none⟩) N d) rfl rfl (by kernel_rfl) (fun _ _ _ h => h) ?_ hH ?_
 ·intro w5 hSw; obtain ⟨s0, s1⟩ := hSw; go_simp
 simp only [zA9, zB9, zC9]
 refine tKx (i := 2) (v := .pointer (some ⟨w.heap.size, 3, none⟩)) rfl rfl (by kernel_rfl) (fun _ _ _ h => h) ?_ hH ?_
 ·intro w5 hSw; obtain ⟨s0, s1⟩ := hSw; go_simp
 simp only [zA9, zB9, zC9]
 refine tKx (i := 3) (v := .int .u64 ix) rfl rfl (by kernel_rfl) (fun _ _ _ h => h) ?_ hH ?_
 ·intro w5 hSw; obtain ⟨s0, s1⟩ := hSw; go_simp
 simp only [zA9, zB9, zC9]
 refine tKx (i := 5) (v := .pointer (some ⟨dd, 0, none⟩)) rfl rfl (by kernel_rfl) (fun _ _ _ h => h) ?_ hH ?_
 ·intro w5 hSw; obtain ⟨s0, s1⟩ := hSw; go_simp
 simp only [zA9, zB9, zC9]
 refine tKx (i := 6) (v := .pointer (some ⟨w.heap.size, 2, none⟩)) rfl rfl (by kernel_rfl) (fun _ _ _ h => h) ?_ hH ?_
 ·intro w5 hSw; obtain ⟨s0, s1⟩ := hSw; go_simp
 simp only [zA9, zB9, zC9]
 refine tKx (i := 7) (v := .slice q N c) rfl rfl (by kernel_rfl) (fun _ _ _ h => h) ?_ hH ?_
 ·intro w5 hSw; obtain ⟨s0, s1⟩ := hSw; go_simp
 simp only [zA9, zB9, zC9]
 refine tKx (i := 8) (v := .pointer (some ⟨w.heap.size, 3, none⟩)) rfl rfl (by kernel_rfl) (fun _ _ _ h => h) ?_ hH ?_
 ·intro w5 hSw; obtain ⟨s0, s1⟩ := hSw; go_simp
 simp only [zA9, zB9, zC9]
 refine tKx (i := 9) (v := .int .u64 ix) rfl rfl (by kernel_rfl) (fun _ _ _ h => h) ?_ hH ?_
 ·intro w5 hSw; obtain ⟨s0, s1⟩ := hSw; go_simp
 simp only [zA9, zB9, zC9]
 refine wpAnyH_ready (rs := [4]) (by kernel_rfl) (by simp) ?_
 refine AllReadyH.cons rfl (fun K hK => ?_) AllReadyH.nil
 go_simp
 go_at_call 9
 refine (PT.out w1.drew (Below.refl _ _).drew).mono ?_
 rintro e W1 ⟨x, rfl, hc1, PD⟩
 replace PD := mkHid PD
 go_wp2_with fail
 have C1 : Hid (Chg (fun b => b = bt ∨ b = dd) w1 W1) := ((Chg.refl _ w1).drew).trans (hc1.mono (fun _ _ e => Or.inl e))
 refine hK.out _ _ (KS.out _ C1.out) (fun hH => ?_)
 clear hK K hc1
 refine wpAnyH_ready (rs := [10]) (by kernel_rfl) (by simp) ?_
 refine AllReadyH.cons rfl (fun K hK => ?_) AllReadyH.nil
 go_simp
 go_at_call 19
 refine PD.out.mono ?_
 rintro e W2 ⟨rfl, hc2, L2, D2, hp⟩
 replace hp := mkHid hp
 go_wp2_with fail
 have C2 : Hid (Chg (fun b => b = bt ∨ b = dd) w1 W2) := C1.out.trans (hc2.mono (fun _ _ e => Or.inr e))
 refine hK.out _ _ (KS.out _ C2.out) (fun hH => ?_)
 clear hK K hc2
 refine tKx (i := 11) (v := .bool true) rfl rfl (by kernel_rfl) (fun _ _ _ h => h) ?_ hH ?_
 ·intro w5 hSw; obtain ⟨s0, s1⟩ := hSw; go_simp
 simp only [zA9, zB9, zC9]
 refine wpAnyH_ready (rs := [12]) (by kernel_rfl) (by simp) ?_
 refine AllReadyH.cons rfl (fun K hK => ?_) AllReadyH.nil
 go_simp
 refine hK.out _ _ (KS.out _ C2.out) (fun hH => ?_)
 clear hK K
 refine wpAnyH_done (by kernel_rfl) ?_ _
 refine NoPanic.normal ?_
 clear hH KS PT PD C1
 have FX : Hid (DoU u T w bt dd (.returned (.bool true)) W2) := ⟨rfl, (chg_bl BW1.out : Chg (fun b => b = bt ∨ b = dd) w w1).trans C2.out, L2, D2, hp.out⟩
 clear C2 hp D0 D1 BW1 B0
 go_wp2_with fail
 go_ret
 exact FX.out
end Go.Proofs.YtclcajnodoifjaaGreatDoor

namespace Go.Proofs.YtclcajnodoifjaaGreatDoor
open Go.RowKit Go.Shelf Go.Joins Go.Maps
set_option maxRecDepth 100000

theorem beg_like {a b : List Va} (h : rowsV a b = 0) (x : List Va) : (begV a x < 0 ↔ begV b x < 0) ∧ (0 < begV a x ↔ 0 < begV b x) ∧ (begV a x = 0 ↔ begV b x = 0) := by
 have t := od_rowsV.turn a b
 have h1 := rows_take x.length a b (by omega)
 have h2 := rows_take x.length b a (by omega)
 unfold begV
 generalize a.take x.length = p at h1 h2 ⊢
 generalize b.take x.length = q at h1 h2 ⊢
 have tp := od_rowsV.turn p x
 have tq := od_rowsV.turn q x
 have e1 : rowsV p x ≤ 0 → rowsV q x ≤ 0 := fun e => od_rowsV.trans _ _ _ h2 e
 have e2 : rowsV q x ≤ 0 → rowsV p x ≤ 0 := fun e => od_rowsV.trans _ _ _ h1 e
 have e3 : rowsV x p ≤ 0 → rowsV x q ≤ 0 := fun e => od_rowsV.trans _ _ _ e h1
 have e4 : rowsV x q ≤ 0 → rowsV x p ≤ 0 := fun e => od_rowsV.trans _ _ _ e h2
 omega
theorem holB_like {low high : List Va} {li hi : Bool} {e d : Em} (h : Agr e.e d.e) : holB low high li hi e = holB low high li hi d := by
 have l := beg_like h.2.1 low
 have r := beg_like h.2.1 high
 unfold holB loB hiB
 rw [show decide (0 < begV e.e.key low) = decide (0 < begV d.e.key low) from decide_eq_decide.2 l.2.1, show decide (begV e.e.key low = 0) = decide (begV d.e.key low = 0) from decide_eq_decide.2 l.2.2, show decide (begV e.e.key high < 0) = decide (begV d.e.key high < 0) from decide_eq_decide.2 r.1, show decide (begV e.e.key high = 0) = decide (begV d.e.key high = 0) from decide_eq_decide.2 r.2.2]
theorem agl_filter {P Q : Em → Bool} (hp : ∀ e d : Em, Agr e.e d.e → P e = Q d) : ∀ {L D : List Em}, AgL L D → AgL (L.filter P) (D.filter Q)
 | [], [], _ => agl_nil
 | [], d :: D, h => by have := h.1; simp at this
 | e :: L, [], h => by have := h.1; simp at this
 | e :: L, d :: D, h => by
  obtain ⟨h1, h2⟩ := agl_cons.1 h
  have ih := agl_filter hp h2
  rw [List.filter_cons, List.filter_cons, hp e d h1]
  split
  ·exact agl_cons.2 ⟨h1, ih⟩
  ·exact ih
theorem agl_ids : ∀ {L D : List Em}, AgL L D → L.map idV = D.map idV
 | [], [], _ => rfl
 | [], d :: D, h => by have := h.1; simp at this
 | e :: L, [], h => by have := h.1; simp at this
 | e :: L, d :: D, h => by
  obtain ⟨h1, h2⟩ := agl_cons.1 h
  rw [List.map_cons, List.map_cons, agl_ids h2]
  unfold idV
  rw [h1.1]
theorem agl_btw {low high : List Va} {li hi : Bool} {L D : List Em} (h : AgL L D) : AgL (btw low high li hi L) (D.filter (holB low high li hi)) := agl_filter (P := holB low high li hi) (fun _ _ hh => holB_like hh) h
theorem ofKey_filter (k : List Va) (L : List Em) : ofKey k L = L.filter (keyB k) := by
 unfold ofKey within
 congr 1
 funext q
 unfold keyB
 rw [Bool.eq_iff_iff, Bool.and_eq_true, decide_eq_true_eq, decide_eq_true_eq, decide_eq_true_eq]
 omega
theorem get_ids {k : List Va} {L D : List Em} (h : AgL L D) : (ofKey k L).map idV = (D.filter (keyB k)).map idV := by
 rw [ofKey_filter]
 refine agl_ids (agl_filter (fun e d hh => ?_) h)
 unfold keyB
 exact decide_eq_decide.2 (rows_like hh.2.1 (rowsV_self k))
/-- numbers that lie in a row, wherever it stands -/
def numIn (w : World) (p : Option Addr) (xs : List Value) : Prop := ∀ i u, xs[i]? = some u → ∃ g o, p = some ⟨g, o, none⟩ ∧ w.cell? ⟨g, o + i, none⟩ = some u
theorem numIn.below {w w' : World} {p : Option Addr} {xs : List Value} (h : numIn w p xs) (hb : Below w.heap.size w w') : numIn w' p xs := fun i u hu => by
 obtain ⟨g, o, e, hc⟩ := h i u hu
 exact ⟨g, o, e, (hb.cell (World.block_lt_of_cell? _ _ hc)).trans hc⟩
theorem numIn_shr {w : World} {e : TypeId} {p : Option Addr} {n c : Nat} {xs : List Value} (h : shr w e 1 (.slice p n c) n xs) : numIn w p xs := fun i u hu => by
 rcases h.2 with ⟨h1, h2⟩ | ⟨g, off, cap, cur, h1, hg, _, _, _, hx⟩
 ·have := h.1
  have := (List.getElem?_eq_some_iff.1 hu).1
  omega
 ·cases h1
  exact ⟨g, off, rfl, (cell_of_block hg _).trans (hx i u hu)⟩
theorem owns_form {w : World} {B n : Nat} {e : TypeId} {v : Value} {xs : List Value} (h : w.ownsRow B e 1 v n xs) : ∃ p c, v = .slice p n c ∧ numIn w p xs := by
 rcases h.2 with ⟨h1, h2⟩ | ⟨g, cap, cur, h1, h2, h3, h4, h5, h6, h7⟩
 ·subst h2
  refine ⟨none, 0, h1, fun i u hu => ?_⟩
  have := h.1
  have := (List.getElem?_eq_some_iff.1 hu).1
  omega
 ·refine ⟨_, cap, h1, fun i u hu => ⟨g, 0, rfl, ?_⟩⟩
  rw [Nat.zero_add]
  refine (cell_of_block h3 i).trans ?_
  have hl := h.1
  have hi := (List.getElem?_eq_some_iff.1 hu).1
  rw [← h7, List.getElem?_take_of_lt (by omega)] at hu
  rw [← hu]
  simp

end Go.Proofs.YtclcajnodoifjaaGreatDoor

namespace Go.Proofs.YtclcajnodoifjaaGreatDoor
open Go.RowKit Go.Shelf Go.Joins Go.Maps
set_option maxRecDepth 100000

set_option maxHeartbeats 4000000 in
set_option maxRecDepth 1000000 in
theorem does_get_u (u : Bool) (T : Nat → Prop) (bt dd : Nat) (L D : List Em) (k : List Va) (id stop : Int) (q P1 P2 : Option Addr) (c n1 C1 n2 C2 : Nat) (li hi : Bool) (w : World) (h : PrU u T w bt dd L D) (hk : rowOff w q k) (fk : ∀ v ∈ k, fit v.n) (hl : k.length ≤ 1000000000) :
  Calls Tryz.prog 10 #[.pointer (some ⟨bt, 0, none⟩), .pointer (some ⟨dd, 0, none⟩), .agg #[.int .i64 2, .int .i64 stop, .slice q k.length c, .int .u64 id, .slice P1 n1 C1, .slice P2 n2 C2, .bool li, .bool hi]] w fun e w' => e = .returned (.bool true) ∧ Below w.heap.size w w' := by
 obtain ⟨w0, hw0⟩ : ∃ w0, w0 = w.alloc (.cells #[.int .i64 2, .int .i64 stop, .slice q k.length c, .int .u64 id, .slice P1 n1 C1, .slice P2 n2 C2, .bool li, .bool hi] 35) := ⟨_, rfl⟩
 have b0 : Below w.heap.size w w0 := by rw [hw0]; exact (Below.refl _ w).alloc (Nat.le_refl _) _
 have d0 : w0.heap[w.heap.size]? = some (.cells #[.int .i64 2, .int .i64 stop, .slice q k.length c, .int .u64 id, .slice P1 n1 C1, .slice P2 n2 C2, .bool li, .bool hi] 35 (0, 0)) := by rw [hw0]; exact heap_alloc_new _ _
 have CP := mkHid (copied_off q c k w0 (hk.below b0) hl)
 obtain ⟨XS, hXS⟩ : ∃ XS, XS = (ofKey k L).map idV := ⟨_, rfl⟩
 obtain ⟨M, hM⟩ : ∃ M, M = XS.length := ⟨_, rfl⟩
 have few := h.few
 have hMl : M ≤ 4096 := by rw [hM, hXS, List.length_map, ofKey_filter]; exact Nat.le_trans (List.length_filter_le _ _) few
 have PG : Hid (∀ w1 g d, Below w0.heap.size w0 w1 → w0.heap.size ≤ g → g < w1.heap.size → rowAt w1 (some ⟨g, 0, none⟩) k → Calls Tryz.prog 28 #[.pointer (some ⟨bt, 0, none⟩), .slice (some ⟨g, 0, none⟩) k.length d] w1.drew fun e w2 => ∃ p c, e = .returned (.slice p M c) ∧ numIn w2 p XS ∧ Below w1.heap.size w1.drew w2) := fun w1 g d hw1 hg1 hg2 hr => by
  have bw : Below w.heap.size w w1.drew := (b0.trans (hw1.mono b0.size)).drew
  obtain ⟨dp, n, p1, m1, c1, p2, m2, c2, a1, a2, a3⟩ := (h.below bw).tr
  refine (Get_any T dp (min dp 1) bt n p1 m1 c1 p2 m2 c2 k (some ⟨g, 0, none⟩) d w1.drew a1 (trO_cells a2).1 (trO_cells a2).2 (hr.below (Below.refl _ w1).drew) (fun g' e => by cases e; exact hg2) fk (by rw [a3, ofKey_filter]; exact Nat.le_trans (List.length_filter_le _ _) (by omega))).mono (fun e w2 hq => ?_)
  obtain ⟨⟨v, rfl, ho⟩, hb⟩ := hq
  rw [a3, ← hXS] at ho
  obtain ⟨p, c, rfl, hn⟩ := owns_form ho
  refine ⟨p, c, ?_, hn, hb⟩
  rw [hM, hXS, List.length_map]
 have PD : Hid (∀ w2, Below w.heap.size w w2 → Calls Tryz.prog 29 #[.pointer (some ⟨dd, 0, none⟩), .slice q k.length c] w2 fun e w3 => ∃ p c, e = .returned (.slice p M c) ∧ numIn w3 p XS ∧ Below w2.heap.size w2 w3) := fun w2 hw2 => by
  obtain ⟨PD, CD, hd⟩ := (h.below hw2).dc
  refine (docGet_any T u dd D PD D.length CD k q c w2 hd (hk.below hw2) fk (by have := h.ag.1; omega)).mono (fun e w3 hq => ?_)
  obtain ⟨p, n, c, rfl, g1, g2, g3, g4⟩ := hq
  have e1 : (D.filter (keyB k)).map idV = XS := by rw [hXS]; exact (get_ids h.ag).symm
  rw [e1] at g2
  refine ⟨p, c, ?_, numIn_shr g2, g4⟩
  rw [g1, hM, ← e1, List.length_map]
 have B0 := mkHid b0
 have D0 := mkHid d0
 obtain ⟨N, hN⟩ : ∃ N, N = k.length := ⟨_, rfl⟩
 rw [← hN] at CP PG PD D0 hw0 ⊢
 have HW := mkHid hw0
 have HM := mkHid hM
 have XI : Hid (∀ i x, XS[i]? = some x → ∃ z : Int, x = Value.int .u64 z) := fun i x hx => by
  rw [hXS, List.getElem?_map] at hx
  obtain ⟨m, _, rfl⟩ := Option.map_eq_some_iff.1 hx
  exact ⟨_, rfl⟩
 have c2' : w0.cell? ⟨w.heap.size, 2, none⟩ = some (.slice q N c) := (cell_of_block D0.out 2).trans rfl
 clear h hk fk hl b0 d0 hN hw0 hXS hM few
 go_enter Tryz.func10, Tryz.ntmps10
 go_wp2_with fail
 rw [← HW.out]
 clear HW
 go_wp2_with (go_at_call 15; refine CP.out.mono ?_; rintro e w1 ⟨g, d, rfl, hg1, hr, hblk, b1⟩; have D1 := mkHid ((b1.block _ (lt_of_heap D0.out)).trans D0.out); have c0 : w1.cell? ⟨w.heap.size, 0, none⟩ = some (.int .i64 2) := (cell_of_block D1.out 0).trans rfl)
 have GT := mkHid (PG.out w1 g d b1 hg1 (by obtain ⟨cs, e, _⟩ := hblk; exact lt_of_heap e) hr)
 have BW1 : Hid (Below w.heap.size w w1) := B0.out.trans (b1.mono B0.out.size)
 have GD : Hid (∀ w2, Below w1.heap.size w1 w2 → Calls Tryz.prog 29 #[.pointer (some ⟨dd, 0, none⟩), .slice q N c] w2 fun e w3 => ∃ p c, e = .returned (.slice p M c) ∧ numIn w3 p XS ∧ Below w2.heap.size w2 w3) := fun w2 h2 => PD.out w2 (BW1.out.trans (h2.mono BW1.out.size))
 have KS : Hid (∀ W, Below w1.heap.size w1 W → (fun w' : World => w'.cell? ⟨w.heap.size, 2, none⟩ = some (.slice q N c) ∧ w'.cell? ⟨w.heap.size, 0, none⟩ = some (.int .i64 2)) W) := fun W hW => by
  have := (hW.block _ (lt_of_heap D1.out)).trans D1.out
  exact ⟨(cell_of_block this 2).trans rfl, (cell_of_block this 0).trans rfl⟩
 clear c0 c2' CP PG PD b1 hg1 hr hblk
 refine wp_region_noPanic ?_
 refine wp_region_held_drew (S := fun w' : World => w'.cell? ⟨w.heap.size, 2, none⟩ = some (.slice q N c) ∧ w'.cell? ⟨w.heap.size, 0, none⟩ = some (.int .i64 2)) (by kernel_rfl) (KS.out _ (Below.refl _ _).drew) (fun hH => ?_)
 refine tKx (i := 0) (v := .pointer (some ⟨bt, 0, none⟩)) rfl rfl (by kernel_rfl) (fun _ _ _ h => h) ?_ hH ?_
 ·intro w5 hSw; obtain ⟨s0, s1⟩ := hSw; go_simp
 simp only [zA9, zB9, zC9]
 refine tKx (i := 1) (v := .slice (some ⟨g, 0, none⟩) N d) rfl rfl (by kernel_rfl) (fun _ _ _ h => h) ?_ hH ?_
 ·intro w5 hSw; obtain ⟨s0, s1⟩ := hSw; go_simp
 simp only [zA9, zB9, zC9]
 refine tKx (i := 3) (v := .pointer (some ⟨dd, 0, none⟩)) rfl rfl (by kernel_rfl) (fun _ _ _ h => h) ?_ hH ?_
 ·intro w5 hSw; obtain ⟨s0, s1⟩ := hSw; go_simp
 simp only [zA9, zB9, zC9]
 refine tKx (i := 4) (v := .pointer (some ⟨w.heap.size, 2, none⟩)) rfl rfl (by kernel_rfl) (fun _ _ _ h => h) ?_ hH ?_
 ·intro w5 hSw; obtain ⟨s0, s1⟩ := hSw; go_simp
 simp only [zA9, zB9, zC9]
 refine tKx (i := 5) (v := .slice q N c) rfl rfl (by kernel_rfl) (fun _ _ _ h => h) ?_ hH ?_
 ·intro w5 hSw; obtain ⟨s0, s1⟩ := hSw; go_simp
 simp only [zA9, zB9, zC9]
 refine wpAnyH_ready (rs := [2]) (by kernel_rfl) (by simp) ?_
 refine AllReadyH.cons rfl (fun K hK => ?_) AllReadyH.nil
 go_simp
 go_at_call 28
 refine GT.out.mono ?_
 rintro e w2 ⟨p, cp, rfl, ni, b2⟩
 have BG : Hid (Below w1.heap.size w1 w2) := (Below.refl _ w1).drew.trans b2
 have NI := mkHid ni
 clear b2 ni
 go_wp2_with fail
 refine hK.out _ _ (KS.out _ BG.out) (fun hH => ?_)
 clear hK K
 refine wpAnyH_ready (rs := [6]) (by kernel_rfl) (by simp) ?_
 refine AllReadyH.cons rfl (fun K hK => ?_) AllReadyH.nil
 go_simp
 go_at_call 29
 refine (GD.out _ BG.out).mono ?_
 rintro e w3 ⟨p2, cp2, rfl, ni2, b3⟩
 have NI2 := mkHid ni2
 have NI1 : Hid (numIn w3 p XS) := NI.out.below b3
 have BG3 : Hid (Below w1.heap.size w1 w3) := BG.out.trans (b3.mono BG.out.size)
 clear b3 ni2 NI
 go_wp2_with fail
 refine hK.out _ _ (KS.out _ BG3.out) (fun hH => ?_)
 clear hK K
 refine tKx (i := 7) (v := .slice p M cp) rfl rfl (by kernel_rfl) (fun _ _ _ h => h) ?_ hH ?_
 ·intro w5 hSw; obtain ⟨s0, s1⟩ := hSw; go_simp
 simp only [zA9, zB9, zC9]
 refine tKx (i := 8) (v := .slice p2 M cp2) rfl rfl (by kernel_rfl) (fun _ _ _ h => h) ?_ hH ?_
 ·intro w5 hSw; obtain ⟨s0, s1⟩ := hSw; go_simp
 simp only [zA9, zB9, zC9]
 refine wpAnyH_done (by kernel_rfl) ?_ _
 refine NoPanic.normal ?_
 clear hH GT GD KS
 have nn : ((M : Int) != (M : Int)) = false := by rw [bne_eq_false_iff_eq]
 go_wp2_with fail
 clear nn
 go_loopw [11] (fun s11 wr => ∃ i : Nat, s11 = .int .i64 i ∧ i ≤ M ∧ Hid (Below w3.heap.size w3 wr)) (fun s11 _ => M - (intOf s11).toNat)
 case atStart => exact ⟨0, rfl, Nat.zero_le _, Below.refl _ _⟩
 case round =>
  obtain ⟨i, rfl, hi', hb⟩ := hrel
  by_cases hlt : i < M
  ·obtain ⟨x, hx⟩ : ∃ x, XS[i]? = some x := ⟨_, List.getElem?_eq_getElem (by have := HM.out; omega)⟩
   obtain ⟨ga, oa, rfl, ca⟩ := NI1.out i x hx
   obtain ⟨gb, ob, rfl, cb⟩ := NI2.out i x hx
   obtain ⟨z, rfl⟩ := XI.out i x hx
   have i1 : (i : Int) < (M : Int) := by omega
   have i2 : (0 : Int) ≤ (i : Int) := by omega
   have ka : ∀ W, Below wr.heap.size wr W → W.cell? ⟨ga, oa + i, none⟩ = some (.int .u64 z) ∧ W.cell? ⟨gb, ob + i, none⟩ = some (.int .u64 z) := fun W hW => by
    have hWW := hb.out.trans (hW.mono hb.out.size)
    exact ⟨(hWW.cell (World.block_lt_of_cell? _ _ ca)).trans ca, (hWW.cell (World.block_lt_of_cell? _ _ cb)).trans cb⟩
   have KA := mkHid ka
   clear hx ca cb ka
   go_wp2_with fail
   refine wp_region_noPanic ?_
   refine wp_region_held_drew (S := fun w' : World => w'.cell? ⟨ga, oa + i, none⟩ = some (.int .u64 z) ∧ w'.cell? ⟨gb, ob + i, none⟩ = some (.int .u64 z)) (by kernel_rfl) (KA.out _ (Below.refl _ _).drew) (fun hH => ?_)
   refine tKx (i := 0) (v := .slice (some ⟨ga, oa, none⟩) M cp) rfl rfl (by kernel_rfl) (fun _ _ _ h => h) ?_ hH ?_
   ·intro w5 hSw; obtain ⟨s0, s1⟩ := hSw; go_simp
   simp only [zA9, zB9, zC9]
   refine tKx (i := 1) (v := .int .i64 (i : Int)) rfl rfl (by kernel_rfl) (fun _ _ _ h => h) ?_ hH ?_
   ·intro w5 hSw; obtain ⟨s0, s1⟩ := hSw; go_simp
   simp only [zA9, zB9, zC9]
   refine tKx (i := 2) (v := .pointer (some ⟨ga, oa + i, none⟩)) rfl rfl (by kernel_rfl) (fun _ _ _ h => h) ?_ hH ?_
   ·intro w5 hSw; obtain ⟨s0, s1⟩ := hSw; go_simp
   simp only [zA9, zB9, zC9]
   refine tKx (i := 3) (v := .int .u64 z) rfl rfl (by kernel_rfl) (fun _ _ _ h => h) ?_ hH ?_
   ·intro w5 hSw; obtain ⟨s0, s1⟩ := hSw; go_simp
   simp only [zA9, zB9, zC9]
   refine tKx (i := 4) (v := .slice (some ⟨gb, ob, none⟩) M cp2) rfl rfl (by kernel_rfl) (fun _ _ _ h => h) ?_ hH ?_
   ·intro w5 hSw; obtain ⟨s0, s1⟩ := hSw; go_simp
   simp only [zA9, zB9, zC9]
   refine tKx (i := 5) (v := .int .i64 (i : Int)) rfl rfl (by kernel_rfl) (fun _ _ _ h => h) ?_ hH ?_
   ·intro w5 hSw; obtain ⟨s0, s1⟩ := hSw; go_simp
   simp only [zA9, zB9, zC9]
   refine tKx (i := 6) (v := .pointer (some ⟨gb, ob + i, none⟩)) rfl rfl (by kernel_rfl) (fun _ _ _ h => h) ?_ hH ?_
   ·intro w5 hSw; obtain ⟨s0, s1⟩ := hSw; go_simp
   simp only [zA9, zB9, zC9]
   refine tKx (i := 7) (v := .int .u64 z) rfl rfl (by kernel_rfl) (fun _ _ _ h => h) ?_ hH ?_
   ·intro w5 hSw; obtain ⟨s0, s1⟩ := hSw; go_simp
   simp only [zA9, zB9, zC9]
   refine tKx (i := 8) (v := .bool false) rfl rfl (by kernel_rfl) (fun _ _ _ h => h) ?_ hH ?_
   ·intro w5 hSw; obtain ⟨s0, s1⟩ := hSw; go_simp
   simp only [zA9, zB9, zC9]
   refine wpAnyH_done (by kernel_rfl) ?_ _
   refine NoPanic.normal ?_
   clear hH KA
   go_wp2_with fail
   go_roundw
   case rel => exact ⟨i + 1, by go_num, hlt, hb.out.drew⟩
   case measure => simp [intOf]; omega
  ·obtain rfl : M = i := by omega
   have FX : Hid (Below w.heap.size w wr) := BW1.out.trans ((BG3.out.trans (hb.out.mono BG3.out.size)).mono BW1.out.size)
   clear hb
   go_wp2_with fail
   go_ret
   exact ⟨rfl, FX.out⟩
set_option maxHeartbeats 4000000 in
set_option maxRecDepth 1000000 in
theorem does_none_u (kd : Int) (k : List Va) (id stop : Int) (q P1 P2 : Option Addr) (pb dp : Option Addr) (c n1 C1 n2 C2 : Nat) (li hi : Bool) (w : World) (hk : rowOff w q k) (hl : k.length ≤ 1000000000) (h0 : kd ≠ 0 ∧ kd ≠ 1 ∧ kd ≠ 2 ∧ kd ≠ 3) :
  Calls Tryz.prog 10 #[.pointer pb, .pointer dp, .agg #[.int .i64 kd, .int .i64 stop, .slice q k.length c, .int .u64 id, .slice P1 n1 C1, .slice P2 n2 C2, .bool li, .bool hi]] w fun e w' => e = .returned (.bool true) ∧ Below w.heap.size w w' := by
 obtain ⟨w0, hw0⟩ : ∃ w0, w0 = w.alloc (.cells #[.int .i64 kd, .int .i64 stop, .slice q k.length c, .int .u64 id, .slice P1 n1 C1, .slice P2 n2 C2, .bool li, .bool hi] 35) := ⟨_, rfl⟩
 have b0 : Below w.heap.size w w0 := by rw [hw0]; exact (Below.refl _ w).alloc (Nat.le_refl _) _
 have d0 : w0.heap[w.heap.size]? = some (.cells #[.int .i64 kd, .int .i64 stop, .slice q k.length c, .int .u64 id, .slice P1 n1 C1, .slice P2 n2 C2, .bool li, .bool hi] 35 (0, 0)) := by rw [hw0]; exact heap_alloc_new _ _
 have CP := mkHid (copied_off q c k w0 (hk.below b0) hl)
 have B0 := mkHid b0
 have D0 := mkHid d0
 obtain ⟨N, hN⟩ : ∃ N, N = k.length := ⟨_, rfl⟩
 rw [← hN] at CP D0 hw0 ⊢
 have HW := mkHid hw0
 have c2 : w0.cell? ⟨w.heap.size, 2, none⟩ = some (.slice q N c) := (cell_of_block D0.out 2).trans rfl
 have z0 : (kd == 0) = false := by rw [beq_eq_false_iff_ne]; omega
 have z1 : (kd == 1) = false := by rw [beq_eq_false_iff_ne]; omega
 have z2 : (kd == 2) = false := by rw [beq_eq_false_iff_ne]; omega
 have z3 : (kd == 3) = false := by rw [beq_eq_false_iff_ne]; omega
 clear hk hl b0 d0 hN hw0 h0
 go_enter Tryz.func10, Tryz.ntmps10
 go_wp2_with fail
 rw [← HW.out]
 clear HW
 go_wp2_with (go_at_call 15; refine CP.out.mono ?_; rintro e w1 ⟨g, d, rfl, hg1, hr, hblk, b1⟩; have c0 : w1.cell? ⟨w.heap.size, 0, none⟩ = some (.int .i64 kd) := (cell_of_block ((b1.block _ (lt_of_heap D0.out)).trans D0.out) 0).trans rfl)
 go_ret
 exact ⟨rfl, B0.out.trans (b1.mono B0.out.size)⟩
end Go.Proofs.YtclcajnodoifjaaGreatDoor

