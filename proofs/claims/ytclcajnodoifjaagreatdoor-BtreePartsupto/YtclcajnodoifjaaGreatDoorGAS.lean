/-
  The walk of the law's does, the key at any place.
-/
import Derived.Test.YtclcajnodoifjaaGreatDoorGAR
import Derived.Test.YtclcajnodoifjaaGreatDoorByCQx
import Derived.Test.YtclcajnodoifjaaGreatDoorByDQx
namespace Go.Proofs.YtclcajnodoifjaaGreatDoor
open Go.RowKit Go.Shelf Go.Joins Go.Maps
set_option maxRecDepth 100000

set_option maxHeartbeats 4000000 in
set_option maxRecDepth 1000000 in
theorem does_put_off (T : Nat → Prop) (bt dd : Nat) (L D : List Em) (k : List Va) (id stop : Int) (q P1 P2 : Option Addr) (c n1 C1 n2 C2 : Nat) (li hi : Bool) (w : World) (h : PrIn T w bt dd L D) (hT : ∀ b, w.heap.size ≤ b → T b) (h1 : ¬ T bt) (h2 : ¬ T dd) (hk : rowOff w q k) (fk : ∀ v ∈ k, fit v.n) (hs : ∀ v ∈ k, v.s.size ≤ 9223372036854775807) (hl : k.length ≤ 1000000000) (hTb : Tabs w) :
    Calls Tryz.prog 10 #[.pointer (some ⟨bt, 0, none⟩), .pointer (some ⟨dd, 0, none⟩), .agg #[.int .i64 0, .int .i64 stop, .slice q k.length c, .int .u64 id, .slice P1 n1 C1, .slice P2 n2 C2, .bool li, .bool hi]] w fun e w' => DoQ T w bt dd e w' := by
  obtain ⟨w0, hw0⟩ : ∃ w0, w0 = w.alloc (.cells #[.int .i64 0, .int .i64 stop, .slice q k.length c, .int .u64 id, .slice P1 n1 C1, .slice P2 n2 C2, .bool li, .bool hi] 35) := ⟨_, rfl⟩
  have b0 : Below w.heap.size w w0 := by rw [hw0]; exact (Below.refl _ w).alloc (Nat.le_refl _) _
  have d0 : w0.heap[w.heap.size]? = some (.cells #[.int .i64 0, .int .i64 stop, .slice q k.length c, .int .u64 id, .slice P1 n1 C1, .slice P2 n2 C2, .bool li, .bool hi] 35 (0, 0)) := by rw [hw0]; exact heap_alloc_new _ _
  have lbt : bt < w.heap.size := by obtain ⟨_, _, _, _, _, _, _, _, _, a, _⟩ := h.tr; exact lt_of_heap a
  have ldd : dd < w.heap.size := by obtain ⟨_, _, a⟩ := h.dc; exact lt_of_heap a.box
  have sz0 : w0.heap.size = w.heap.size + 1 := by rw [hw0, World.size_alloc]
  have CP := mkHid (copied_off q c k w0 (hk.below b0) hl)
  have PP : Hid (∀ w1 g d W, Below w0.heap.size w0 w1 → w0.heap.size ≤ g → g < w1.heap.size → rowAt w1 (some ⟨g, 0, none⟩) k → Below w1.heap.size w1 W → Calls Tryz.prog 8 #[.pointer (some ⟨bt, 0, none⟩), .slice (some ⟨g, 0, none⟩) k.length d, .int .u64 id] W fun e W1 => ∃ x, e = .returned (.int .i64 x) ∧ Chg (fun b => b = bt) W W1 ∧ Calls Tryz.prog 12 #[.pointer (some ⟨dd, 0, none⟩), .slice q k.length c, .int .u64 id] W1 fun e2 W2 => e2 = .returned (.int .i64 x) ∧ Chg (fun b => b = dd) W1 W2 ∧ ∃ L' D', PrIn (fun b => T b ∧ b ≠ g) W2 bt dd L' D') := fun w1 g d W hw1 hg1 hg2 hr hW => by
    have bw : Below w.heap.size w W := b0.trans ((hw1.trans (hW.mono hw1.size)).mono b0.size)
    have hp : PrIn (fun b => T b ∧ b ≠ g) W bt dd L D := (h.mono (U := fun b => T b ∧ b ≠ g) (fun b hb ht => ⟨ht, by omega⟩)).chg (S := fun _ => False) (chg_bl bw) (fun _ e => e.elim) (fun e => e) (fun e => e)
    exact both_put_off (fun b => T b ∧ b ≠ g) bt dd L D k id _ d q c W hp (fun b hb => ⟨hT b (Nat.le_trans bw.size hb), by have := hW.size; omega⟩) (fun e => h1 e.1) (fun e => h2 e.1) (hr.below hW) (hk.below bw) fk hs hl (hTb.below bw)
  have B0 := mkHid b0
  have D0 := mkHid d0
  have LB : Hid (bt < w.heap.size ∧ dd < w.heap.size ∧ w0.heap.size = w.heap.size + 1) := ⟨lbt, ldd, sz0⟩
  have HO : Hid (¬ T bt ∧ ¬ T dd) := ⟨h1, h2⟩
  have ZL := mkHid hl
  obtain ⟨N, hN⟩ : ∃ N, N = k.length := ⟨_, rfl⟩
  obtain ⟨ix, hix⟩ : ∃ i, i = id := ⟨_, rfl⟩
  have HN := mkHid hN
  rw [← hN] at CP PP D0 hw0 ⊢
  rw [← hix] at PP D0 hw0 ⊢
  have HW := mkHid hw0
  have c2 : w0.cell? ⟨w.heap.size, 2, none⟩ = some (.slice q N c) := (cell_of_block D0.out 2).trans rfl
  clear h hT h1 h2 hk fk hs hl hTb b0 d0 lbt ldd sz0 hN hix hw0
  go_enter Tryz.func10, Tryz.ntmps10
  go_wp2_with fail
  rw [← HW.out]
  clear HW
  go_wp2_with (go_at_call 15; refine CP.out.mono ?_; rintro e w1 ⟨g, d, rfl, hg1, hr, hblk, b1⟩; have D1 := mkHid ((b1.block _ (lt_of_heap D0.out)).trans D0.out); have c0 : w1.cell? ⟨w.heap.size, 0, none⟩ = some (.int .i64 0) := (cell_of_block D1.out 0).trans rfl)
  have HG1 := mkHid hg1
  have HBK := mkHid hblk
  have HG2 : Hid (g < w1.heap.size) := by obtain ⟨cs, e, _⟩ := hblk; exact lt_of_heap e
  have PT := mkHid (fun W hW => PP.out w1 g d W b1 hg1 HG2.out hr hW)
  have BW1 : Hid (Below w.heap.size w w1) := B0.out.trans (b1.mono B0.out.size)
  have KS : Hid (∀ W, Chg (fun b => b = bt ∨ b = dd) w1 W → (fun w' : World => w'.cell? ⟨w.heap.size, 2, none⟩ = some (.slice q N c) ∧ w'.cell? ⟨w.heap.size, 3, none⟩ = some (.int .u64 ix)) W) := fun W hW => by
    have := hW.at_ D1.out (fun e => by have := LB.out; omega)
    exact ⟨(cell_of_block this 2).trans rfl, (cell_of_block this 3).trans rfl⟩
  clear c0 c2 CP PP b1 hg1 hr hblk
  refine wp_region_noPanic ?_
  refine wp_region_held_drew (S := fun w' : World => w'.cell? ⟨w.heap.size, 2, none⟩ = some (.slice q N c) ∧ w'.cell? ⟨w.heap.size, 3, none⟩ = some (.int .u64 ix)) (by kernel_rfl) (KS.out _ (Chg.refl _ _).drew) (fun hH => ?_)
  refine tKx (i := 0) (v := .pointer (some ⟨bt, 0, none⟩)) rfl rfl (by kernel_rfl) (fun _ _ _ h => h) ?_ hH ?_
  · intro w5 hSw; obtain ⟨s0, s1⟩ := hSw; go_simp
  simp only [zA9, zB9, zC9]
  refine tKx (i := 1) (v := .slice (some ⟨g, 0, none⟩) N d) rfl rfl (by kernel_rfl) (fun _ _ _ h => h) ?_ hH ?_
  · intro w5 hSw; obtain ⟨s0, s1⟩ := hSw; go_simp
  simp only [zA9, zB9, zC9]
  refine tKx (i := 2) (v := .pointer (some ⟨w.heap.size, 3, none⟩)) rfl rfl (by kernel_rfl) (fun _ _ _ h => h) ?_ hH ?_
  · intro w5 hSw; obtain ⟨s0, s1⟩ := hSw; go_simp
  simp only [zA9, zB9, zC9]
  refine tKx (i := 3) (v := .int .u64 ix) rfl rfl (by kernel_rfl) (fun _ _ _ h => h) ?_ hH ?_
  · intro w5 hSw; obtain ⟨s0, s1⟩ := hSw; go_simp
  simp only [zA9, zB9, zC9]
  refine tKx (i := 5) (v := .pointer (some ⟨dd, 0, none⟩)) rfl rfl (by kernel_rfl) (fun _ _ _ h => h) ?_ hH ?_
  · intro w5 hSw; obtain ⟨s0, s1⟩ := hSw; go_simp
  simp only [zA9, zB9, zC9]
  refine tKx (i := 6) (v := .pointer (some ⟨w.heap.size, 2, none⟩)) rfl rfl (by kernel_rfl) (fun _ _ _ h => h) ?_ hH ?_
  · intro w5 hSw; obtain ⟨s0, s1⟩ := hSw; go_simp
  simp only [zA9, zB9, zC9]
  refine tKx (i := 7) (v := .slice q N c) rfl rfl (by kernel_rfl) (fun _ _ _ h => h) ?_ hH ?_
  · intro w5 hSw; obtain ⟨s0, s1⟩ := hSw; go_simp
  simp only [zA9, zB9, zC9]
  refine tKx (i := 8) (v := .pointer (some ⟨w.heap.size, 3, none⟩)) rfl rfl (by kernel_rfl) (fun _ _ _ h => h) ?_ hH ?_
  · intro w5 hSw; obtain ⟨s0, s1⟩ := hSw; go_simp
  simp only [zA9, zB9, zC9]
  refine tKx (i := 9) (v := .int .u64 ix) rfl rfl (by kernel_rfl) (fun _ _ _ h => h) ?_ hH ?_
  · intro w5 hSw; obtain ⟨s0, s1⟩ := hSw; go_simp
  simp only [zA9, zB9, zC9]
  refine wpAnyH_ready (rs := [4]) (by kernel_rfl) (by simp) ?_
  refine AllReadyH.cons rfl (fun K hK => ?_) AllReadyH.nil
  go_simp
  go_at_call 8
  refine (PT.out w1.drew (Below.refl _ _).drew).mono ?_
  rintro e W1 ⟨x, rfl, hc1, PD⟩
  replace PD := mkHid PD
  go_wp2_with fail
  have C1 : Hid (Chg (fun b => b = bt ∨ b = dd) w1 W1) := ((Chg.refl _ w1).drew).trans (hc1.mono (fun _ _ e => Or.inl e))
  refine hK.out _ _ (KS.out _ C1.out) (fun hH => ?_)
  clear hK K hc1
  refine wpAnyH_ready (rs := [10]) (by kernel_rfl) (by simp) ?_
  refine AllReadyH.cons rfl (fun K hK => ?_) AllReadyH.nil
  go_simp
  go_at_call 12
  refine PD.out.mono ?_
  rintro e W2 ⟨rfl, hc2, L2, D2, hp⟩
  replace hp := mkHid hp
  go_wp2_with fail
  have C2 : Hid (Chg (fun b => b = bt ∨ b = dd) w1 W2) := C1.out.trans (hc2.mono (fun _ _ e => Or.inr e))
  refine hK.out _ _ (KS.out _ C2.out) (fun hH => ?_)
  clear hK K hc2
  refine tKx (i := 11) (v := .bool false) rfl rfl (by kernel_rfl) (fun _ _ _ h => h) ?_ hH ?_
  · intro w5 hSw; obtain ⟨s0, s1⟩ := hSw; go_simp
  simp only [zA9, zB9, zC9]
  refine wpAnyH_done (by kernel_rfl) ?_ _
  refine NoPanic.normal ?_
  clear hH KS PT PD C1
  have GL0 : Hid (GoL W2 g N W2) := by
    obtain ⟨cs, e, hz⟩ := HBK.out
    refine ⟨Chg.refl _ _, cs, C2.out.at_ e (fun e => by have := LB.out; have := HG1.out; omega), hz⟩
  have FIN : Hid (∀ wr, GoL W2 g N wr → DoQ T w bt dd (.returned (.bool true)) wr) := fun wr hG => by
    have hw2 : Chg (fun b => b = bt ∨ b = dd) w W2 := (chg_bl BW1.out : Chg (fun b => b = bt ∨ b = dd) w w1).trans C2.out
    have hg : w.heap.size ≤ g := by have := LB.out; have := HG1.out; omega
    refine ⟨rfl, chg_new hw2 hG.chg hg, L2, D2, ?_⟩
    exact (hp.out.chg hG.chg (fun b e ht => ht.2 e) (fun e => by have := LB.out; omega) (fun e => by have := LB.out; omega)).mono (fun b _ ht => ht.1)
  have zN : N ≤ 1000000000 := by rw [HN.out]; exact ZL.out
  clear C2 hp HBK D0 D1 BW1 B0
  go_wp2_with fail
  go_loopw [8] (fun s8 wr => ∃ i : Nat, s8 = .int .i64 i ∧ i ≤ N ∧ Hid (GoL W2 g N wr)) (fun s8 _ => N - (intOf s8).toNat)
  case atStart => exact ⟨0, rfl, Nat.zero_le _, GL0⟩
  case round =>
    obtain ⟨i, rfl, him, hG⟩ := hrel
    clear GL0
    by_cases hlt : i < N
    · obtain ⟨t0, ht0⟩ := hG.out.cell hlt (r := 0) (by omega)
      obtain ⟨t1, ht1⟩ := hG.out.cell hlt (r := 1) (by omega)
      obtain ⟨t2, ht2⟩ := hG.out.cell hlt (r := 2) (by omega)
      have hfr : ∀ o, wr.frozen? ⟨g, o, none⟩ = false := fun o => hG.out.fro
      have i3 : (i : Int) < (N : Int) := by omega
      rw [Nat.add_zero] at ht0
      have NX : Hid (∀ a b c, GoL W2 g N (((wr.setCell ⟨g, i * 3, none⟩ a).setCell ⟨g, i * 3 + 1, none⟩ b).setCell ⟨g, i * 3 + 2, none⟩ c)) := fun a b c => hG.out.set.set.set
      clear hG
      go_wp2_with fail
      go_roundw
      case rel => exact ⟨i + 1, by go_num, hlt, NX.out _ _ _⟩
      case measure => simp [intOf]; omega
    · obtain rfl : i = N := by omega
      have FX := mkHid (FIN.out wr hG.out)
      clear hG FIN
      go_wp2_with fail
      go_ret
      exact FX.out
set_option maxHeartbeats 4000000 in
set_option maxRecDepth 1000000 in
theorem does_drop_off (T : Nat → Prop) (bt dd : Nat) (L D : List Em) (k : List Va) (id stop : Int) (q P1 P2 : Option Addr) (c n1 C1 n2 C2 : Nat) (li hi : Bool) (w : World) (h : PrIn T w bt dd L D) (hT : ∀ b, w.heap.size ≤ b → T b) (h1 : ¬ T bt) (h2 : ¬ T dd) (hk : rowOff w q k) (fk : ∀ v ∈ k, fit v.n) (hl : k.length ≤ 1000000000) :
    Calls Tryz.prog 10 #[.pointer (some ⟨bt, 0, none⟩), .pointer (some ⟨dd, 0, none⟩), .agg #[.int .i64 1, .int .i64 stop, .slice q k.length c, .int .u64 id, .slice P1 n1 C1, .slice P2 n2 C2, .bool li, .bool hi]] w fun e w' => DoQ T w bt dd e w' := by
  obtain ⟨w0, hw0⟩ : ∃ w0, w0 = w.alloc (.cells #[.int .i64 1, .int .i64 stop, .slice q k.length c, .int .u64 id, .slice P1 n1 C1, .slice P2 n2 C2, .bool li, .bool hi] 35) := ⟨_, rfl⟩
  have b0 : Below w.heap.size w w0 := by rw [hw0]; exact (Below.refl _ w).alloc (Nat.le_refl _) _
  have d0 : w0.heap[w.heap.size]? = some (.cells #[.int .i64 1, .int .i64 stop, .slice q k.length c, .int .u64 id, .slice P1 n1 C1, .slice P2 n2 C2, .bool li, .bool hi] 35 (0, 0)) := by rw [hw0]; exact heap_alloc_new _ _
  have lbt : bt < w.heap.size := by obtain ⟨_, _, _, _, _, _, _, _, _, a, _⟩ := h.tr; exact lt_of_heap a
  have ldd : dd < w.heap.size := by obtain ⟨_, _, a⟩ := h.dc; exact lt_of_heap a.box
  have CP := mkHid (copied_off q c k w0 (hk.below b0) hl)
  have PP : Hid (∀ w1 g d W, Below w0.heap.size w0 w1 → rowAt w1 (some ⟨g, 0, none⟩) k → Below w1.heap.size w1 W → Calls Tryz.prog 9 #[.pointer (some ⟨bt, 0, none⟩), .slice (some ⟨g, 0, none⟩) k.length d, .int .u64 id] W fun e W1 => ∃ x, e = .returned (.bool x) ∧ Chg (fun b => b = bt) W W1 ∧ Calls Tryz.prog 19 #[.pointer (some ⟨dd, 0, none⟩), .slice q k.length c, .int .u64 id] W1 fun e2 W2 => e2 = .returned (.bool x) ∧ Chg (fun b => b = dd) W1 W2 ∧ ∃ L' D', PrIn T W2 bt dd L' D') := fun w1 g d W hw1 hr hW => by
    have bw : Below w.heap.size w W := b0.trans ((hw1.trans (hW.mono hw1.size)).mono b0.size)
    have hp : PrIn T W bt dd L D := h.chg (S := fun _ => False) (chg_bl bw) (fun _ e => e.elim) (fun e => e) (fun e => e)
    exact both_drop_off T bt dd L D k id _ d q c W hp (fun b hb => hT b (Nat.le_trans bw.size hb)) h1 h2 (hr.below hW) (hk.below bw) fk
  have B0 := mkHid b0
  have D0 := mkHid d0
  have LB : Hid (bt < w.heap.size ∧ dd < w.heap.size) := ⟨lbt, ldd⟩
  obtain ⟨N, hN⟩ : ∃ N, N = k.length := ⟨_, rfl⟩
  obtain ⟨ix, hix⟩ : ∃ i, i = id := ⟨_, rfl⟩
  rw [← hN] at CP PP D0 hw0 ⊢
  rw [← hix] at PP D0 hw0 ⊢
  have HW := mkHid hw0
  have c2 : w0.cell? ⟨w.heap.size, 2, none⟩ = some (.slice q N c) := (cell_of_block D0.out 2).trans rfl
  clear h hT h1 h2 hk fk hl b0 d0 lbt ldd hN hix hw0
  go_enter Tryz.func10, Tryz.ntmps10
  go_wp2_with fail
  rw [← HW.out]
  clear HW
  go_wp2_with (go_at_call 15; refine CP.out.mono ?_; rintro e w1 ⟨g, d, rfl, hg1, hr, hblk, b1⟩; have D1 := mkHid ((b1.block _ (lt_of_heap D0.out)).trans D0.out); have c0 : w1.cell? ⟨w.heap.size, 0, none⟩ = some (.int .i64 1) := (cell_of_block D1.out 0).trans rfl)
  have PT := mkHid (fun W hW => PP.out w1 g d W b1 hr hW)
  have BW1 : Hid (Below w.heap.size w w1) := B0.out.trans (b1.mono B0.out.size)
  have KS : Hid (∀ W, Chg (fun b => b = bt ∨ b = dd) w1 W → (fun w' : World => w'.cell? ⟨w.heap.size, 2, none⟩ = some (.slice q N c) ∧ w'.cell? ⟨w.heap.size, 3, none⟩ = some (.int .u64 ix)) W) := fun W hW => by
    have := hW.at_ D1.out (fun e => by have := LB.out; omega)
    exact ⟨(cell_of_block this 2).trans rfl, (cell_of_block this 3).trans rfl⟩
  clear c0 c2 CP PP b1 hg1 hr hblk
  refine wp_region_noPanic ?_
  refine wp_region_held_drew (S := fun w' : World => w'.cell? ⟨w.heap.size, 2, none⟩ = some (.slice q N c) ∧ w'.cell? ⟨w.heap.size, 3, none⟩ = some (.int .u64 ix)) (by kernel_rfl) (KS.out _ (Chg.refl _ _).drew) (fun hH => ?_)
  refine tKx (i := 0) (v := .pointer (some ⟨bt, 0, none⟩)) rfl rfl (by kernel_rfl) (fun _ _ _ h => h) ?_ hH ?_
  · intro w5 hSw; obtain ⟨s0, s1⟩ := hSw; go_simp
  simp only [zA9, zB9, zC9]
  refine tKx (i := 1) (v := .slice (some ⟨g, 0, none⟩) N d) rfl rfl (by kernel_rfl) (fun _ _ _ h => h) ?_ hH ?_
  · intro w5 hSw; obtain ⟨s0, s1⟩ := hSw; go_simp
  simp only [zA9, zB9, zC9]
  refine tKx (i := 2) (v := .pointer (some ⟨w.heap.size, 3, none⟩)) rfl rfl (by kernel_rfl) (fun _ _ _ h => h) ?_ hH ?_
  · intro w5 hSw; obtain ⟨s0, s1⟩ := hSw; go_simp
  simp only [zA9, zB9, zC9]
  refine tKx (i := 3) (v := .int .u64 ix) rfl rfl (by kernel_rfl) (fun _ _ _ h => h) ?_ hH ?_
  · intro w5 hSw; obtain ⟨s0, s1⟩ := hSw; go_simp
  simp only [zA9, zB9, zC9]
  refine tKx (i := 5) (v := .pointer (some ⟨dd, 0, none⟩)) rfl rfl (by kernel_rfl) (fun _ _ _ h => h) ?_ hH ?_
  · intro w5 hSw; obtain ⟨s0, s1⟩ := hSw; go_simp
  simp only [zA9, zB9, zC9]
  refine tKx (i := 6) (v := .pointer (some ⟨w.heap.size, 2, none⟩)) rfl rfl (by kernel_rfl) (fun _ _ _ h => h) ?_ hH ?_
  · intro w5 hSw; obtain ⟨s0, s1⟩ := hSw; go_simp
  simp only [zA9, zB9, zC9]
  refine tKx (i := 7) (v := .slice q N c) rfl rfl (by kernel_rfl) (fun _ _ _ h => h) ?_ hH ?_
  · intro w5 hSw; obtain ⟨s0, s1⟩ := hSw; go_simp
  simp only [zA9, zB9, zC9]
  refine tKx (i := 8) (v := .pointer (some ⟨w.heap.size, 3, none⟩)) rfl rfl (by kernel_rfl) (fun _ _ _ h => h) ?_ hH ?_
  · intro w5 hSw; obtain ⟨s0, s1⟩ := hSw; go_simp
  simp only [zA9, zB9, zC9]
  refine tKx (i := 9) (v := .int .u64 ix) rfl rfl (by kernel_rfl) (fun _ _ _ h => h) ?_ hH ?_
  · intro w5 hSw; obtain ⟨s0, s1⟩ := hSw; go_simp
  simp only [zA9, zB9, zC9]
  refine wpAnyH_ready (rs := [4]) (by kernel_rfl) (by simp) ?_
  refine AllReadyH.cons rfl (fun K hK => ?_) AllReadyH.nil
  go_simp
  go_at_call 9
  refine (PT.out w1.drew (Below.refl _ _).drew).mono ?_
  rintro e W1 ⟨x, rfl, hc1, PD⟩
  replace PD := mkHid PD
  go_wp2_with fail
  have C1 : Hid (Chg (fun b => b = bt ∨ b = dd) w1 W1) := ((Chg.refl _ w1).drew).trans (hc1.mono (fun _ _ e => Or.inl e))
  refine hK.out _ _ (KS.out _ C1.out) (fun hH => ?_)
  clear hK K hc1
  refine wpAnyH_ready (rs := [10]) (by kernel_rfl) (by simp) ?_
  refine AllReadyH.cons rfl (fun K hK => ?_) AllReadyH.nil
  go_simp
  go_at_call 19
  refine PD.out.mono ?_
  rintro e W2 ⟨rfl, hc2, L2, D2, hp⟩
  replace hp := mkHid hp
  go_wp2_with fail
  have C2 : Hid (Chg (fun b => b = bt ∨ b = dd) w1 W2) := C1.out.trans (hc2.mono (fun _ _ e => Or.inr e))
  refine hK.out _ _ (KS.out _ C2.out) (fun hH => ?_)
  clear hK K hc2
  refine tKx (i := 11) (v := .bool true) rfl rfl (by kernel_rfl) (fun _ _ _ h => h) ?_ hH ?_
  · intro w5 hSw; obtain ⟨s0, s1⟩ := hSw; go_simp
  simp only [zA9, zB9, zC9]
  refine wpAnyH_ready (rs := [12]) (by kernel_rfl) (by simp) ?_
  refine AllReadyH.cons rfl (fun K hK => ?_) AllReadyH.nil
  go_simp
  refine hK.out _ _ (KS.out _ C2.out) (fun hH => ?_)
  clear hK K
  refine wpAnyH_done (by kernel_rfl) ?_ _
  refine NoPanic.normal ?_
  clear hH KS PT PD C1
  have FX : Hid (DoQ T w bt dd (.returned (.bool true)) W2) := ⟨rfl, (chg_bl BW1.out : Chg (fun b => b = bt ∨ b = dd) w w1).trans C2.out, L2, D2, hp.out⟩
  clear C2 hp D0 D1 BW1 B0
  go_wp2_with fail
  go_ret
  exact FX.out
set_option maxHeartbeats 4000000 in
set_option maxRecDepth 1000000 in
theorem does_none_off (kd : Int) (k : List Va) (id stop : Int) (q P1 P2 : Option Addr) (pb dp : Option Addr) (c n1 C1 n2 C2 : Nat) (li hi : Bool) (w : World) (hk : rowOff w q k) (hl : k.length ≤ 1000000000) (h0 : kd < 0) :
    Calls Tryz.prog 10 #[.pointer pb, .pointer dp, .agg #[.int .i64 kd, .int .i64 stop, .slice q k.length c, .int .u64 id, .slice P1 n1 C1, .slice P2 n2 C2, .bool li, .bool hi]] w fun e w' => e = .returned (.bool true) ∧ Below w.heap.size w w' := by
  obtain ⟨w0, hw0⟩ : ∃ w0, w0 = w.alloc (.cells #[.int .i64 kd, .int .i64 stop, .slice q k.length c, .int .u64 id, .slice P1 n1 C1, .slice P2 n2 C2, .bool li, .bool hi] 35) := ⟨_, rfl⟩
  have b0 : Below w.heap.size w w0 := by rw [hw0]; exact (Below.refl _ w).alloc (Nat.le_refl _) _
  have d0 : w0.heap[w.heap.size]? = some (.cells #[.int .i64 kd, .int .i64 stop, .slice q k.length c, .int .u64 id, .slice P1 n1 C1, .slice P2 n2 C2, .bool li, .bool hi] 35 (0, 0)) := by rw [hw0]; exact heap_alloc_new _ _
  have CP := mkHid (copied_off q c k w0 (hk.below b0) hl)
  have B0 := mkHid b0
  have D0 := mkHid d0
  obtain ⟨N, hN⟩ : ∃ N, N = k.length := ⟨_, rfl⟩
  rw [← hN] at CP D0 hw0 ⊢
  have HW := mkHid hw0
  have c2 : w0.cell? ⟨w.heap.size, 2, none⟩ = some (.slice q N c) := (cell_of_block D0.out 2).trans rfl
  have z0 : (kd == 0) = false := by rw [beq_eq_false_iff_ne]; omega
  have z1 : (kd == 1) = false := by rw [beq_eq_false_iff_ne]; omega
  have z2 : (kd == 2) = false := by rw [beq_eq_false_iff_ne]; omega
  have z3 : (kd == 3) = false := by rw [beq_eq_false_iff_ne]; omega
  clear hk hl b0 d0 hN hw0 h0
  go_enter Tryz.func10, Tryz.ntmps10
  go_wp2_with fail
  rw [← HW.out]
  clear HW
  go_wp2_with (go_at_call 15; refine CP.out.mono ?_; rintro e w1 ⟨g, d, rfl, hg1, hr, hblk, b1⟩; have c0 : w1.cell? ⟨w.heap.size, 0, none⟩ = some (.int .i64 kd) := (cell_of_block ((b1.block _ (lt_of_heap D0.out)).trans D0.out) 0).trans rfl)
  go_ret
  exact ⟨rfl, B0.out.trans (b1.mono B0.out.size)⟩
end Go.Proofs.YtclcajnodoifjaaGreatDoor

namespace Go.Proofs.YtclcajnodoifjaaGreatDoor
open Go.RowKit Go.Shelf Go.Joins Go.Maps
set_option maxRecDepth 100000

theorem pr_goes_off {T : Nat → Prop} {w : World} {bt dd : Nat} {L D : List Em} (h : PrIn T w bt dd L D) (back : Bool) (P1 P2 : Option Addr) (C1 C2 : Nat) (low high : List Va) (li hi : Bool) (E : List Em) (PE : Option Addr) (CE : Nat) (stop : Int) (h1 : rowOff w P1 low) (h2 : rowOff w P2 high) (z1 : low.length ≤ 1000000000) (z2 : high.length ≤ 1000000000) (y1 : ∀ v ∈ low, fit v.n) (y2 : ∀ v ∈ high, fit v.n)
    (hE : rowT T w 54 2 (.slice PE E.length CE) E.length (fl emE E)) (hS : ∀ q ∈ E, q ∈ D) (zE : E.length ≤ D.length) (ag : AgL (btw low high li hi L) E) :
    Calls Tryz.prog 13 #[.pointer (some ⟨bt, 0, none⟩), .agg #[.slice P1 low.length C1, .slice P2 high.length C2, .bool li, .bool hi], .bool back, .slice PE E.length CE, .int .i64 stop] w fun e w' => e = .returned (.bool true) ∧ Below w.heap.size w w' := by
  obtain ⟨d, n, p1, n1, c1, p2, n2, c2, a1, a2, rfl⟩ := h.tr
  obtain ⟨PD, CD, hd⟩ := h.dc
  have hl := h.ag.1
  have := h.few
  have hk : ∀ q ∈ E, KeyOk T w q := fun q hq => hd.keys q (hS q hq)
  cases back with
  | false => exact goes_on_off T d (min d 1) bt n p1 n1 c1 p2 n2 c2 P1 P2 C1 C2 low high li hi PE CE E stop w a1 (trO_cells a2).1 (trO_cells a2).2 h1 h2 z1 z2 y1 y2 hE hk (by omega) ag
  | true => exact goes_back_off T d (min d 1) bt n p1 n1 c1 p2 n2 c2 P1 P2 C1 C2 low high li hi PE CE E stop w a1 (trO_cells a2).1 (trO_cells a2).2 h1 h2 z1 z2 y1 y2 hE hk (by omega) ag
/-- an act that came in: its key at any place -/
structure Ac.came (w : World) (a : Ac) : Prop where
  row : rowOff w a.q a.k
  fits : ∀ v ∈ a.k, fit v.n
  txt : ∀ v ∈ a.k, v.s.size ≤ 9223372036854775807
  few : a.k.length ≤ 1000000000
theorem Ac.came.below {w w' : World} {a : Ac} (h : a.came w) (hb : Below w.heap.size w w') : a.came w' := ⟨h.row.below hb, h.fits, h.txt, h.few⟩
theorem does_le_off {w wr : World} {bt dd : Nat} (h : Mid w bt dd wr) (a : Ac) (ha : a.came w) (hk : a.kd ≤ 1) (hTb : Tabs w) :
    Calls Tryz.prog 10 #[.pointer (some ⟨bt, 0, none⟩), .pointer (some ⟨dd, 0, none⟩), .agg #[.int .i64 a.kd, .int .i64 a.stop, .slice a.q a.k.length a.c, .int .u64 a.id, .slice a.P1 a.n1 a.C1, .slice a.P2 a.n2 a.C2, .bool a.li, .bool a.hi]] wr fun e w' => e = .returned (.bool true) ∧ Mid w bt dd w' := by
  obtain ⟨L, D, hp⟩ := h.pr
  obtain ⟨l1, l2⟩ := h.lt
  have hT : ∀ b, wr.heap.size ≤ b → w.heap.size ≤ b ∧ b ≠ bt ∧ b ≠ dd := fun b hb => ⟨Nat.le_trans h.bl.size hb, by omega, by omega⟩
  have ha2 := ha.below h.bl
  have fin : ∀ e w', DoQ (fun b => w.heap.size ≤ b ∧ b ≠ bt ∧ b ≠ dd) wr bt dd e w' → e = .returned (.bool true) ∧ Mid w bt dd w' := fun e w' hq => by
    obtain ⟨q1, q2, q3⟩ := hq
    exact ⟨q1, h.bl.trans (q2.below h.bl.size (fun i hi => by rcases hi with rfl | rfl; exact h.lo.1; exact h.lo.2)), q3, h.lo⟩
  by_cases k0 : a.kd = 0
  · rw [k0]
    exact (does_put_off _ bt dd L D a.k a.id a.stop a.q a.P1 a.P2 a.c a.n1 a.C1 a.n2 a.C2 a.li a.hi wr hp hT (fun e => e.2.1 rfl) (fun e => e.2.2 rfl) ha2.row ha2.fits ha2.txt ha2.few (hTb.below h.bl)).mono fin
  by_cases k1 : a.kd = 1
  · rw [k1]
    exact (does_drop_off _ bt dd L D a.k a.id a.stop a.q a.P1 a.P2 a.c a.n1 a.C1 a.n2 a.C2 a.li a.hi wr hp hT (fun e => e.2.1 rfl) (fun e => e.2.2 rfl) ha2.row ha2.fits ha2.few).mono fin
  · exact (does_none_off a.kd a.k a.id a.stop a.q a.P1 a.P2 _ _ a.c a.n1 a.C1 a.n2 a.C2 a.li a.hi wr ha2.row ha2.few (by omega)).mono (fun e w' hq => ⟨hq.1, h.below hq.2⟩)
end Go.Proofs.YtclcajnodoifjaaGreatDoor

