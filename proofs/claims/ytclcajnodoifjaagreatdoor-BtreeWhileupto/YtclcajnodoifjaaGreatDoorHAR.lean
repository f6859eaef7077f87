/-
  The walk of the law's does, the key at any place.
-/
import Derived.Test.YtclcajnodoifjaaGreatDoorHAQ
import Derived.Test.YtclcajnodoifjaaGreatDoorHAP
import Derived.Test.YtclcajnodoifjaaGreatDoorRows
import Derived.ProofKit
import Derived.OpenShut
import Derived.WideKeyArgs
import Derived.Deep.Slices
import Derived.Deep.Strs
import Derived.ChangeOld
import Derived.Lib.SmallJoins
namespace Go.Proofs.YtclcajnodoifjaaGreatDoor
open Go.RowKit Go.Shelf Go.Joins Go.Maps
set_option maxRecDepth 100000

set_option maxHeartbeats 4000000 in
set_option maxRecDepth 1000000 in
theorem does_put_off (T : Nat → Prop) (bt dd : Nat) (L D : List Em) (k : List Va) (id stop : Int) (q P1 P2 : Option Addr) (c n1 C1 n2 C2 : Nat) (li hi : Bool) (w : World) (h : PrIn T w bt dd L D) (hT : ∀ b, w.heap.size ≤ b → T b) (h1 : ¬ T bt) (h2 : ¬ T dd) (hk : rowOff w q k) (fk : ∀ v ∈ k, fit v.n) (hs : ∀ v ∈ k, v.s.size ≤ 9223372036854775807) (hl : k.length ≤ 1000000000) (hTb : Tabs w) :
    Calls Tryz.prog 10 #[.pointer (some ⟨bt, 0, none⟩), .pointer (some ⟨dd, 0, none⟩), .agg #[.int .i64 0, .int .i64 stop, .slice q k.length c, .int .u64 id, .slice P1 n1 C1, .slice P2 n2 C2, .bool li, .bool hi]] w fun e w' => DoQ T w bt dd e w' := by
  obtain ⟨w0, hw0⟩ : ∃ w0, w0 = w.alloc (.cells #[.int .i64 0, .int .i64 stop, .slice q k.length c, .int .u64 id, .slice P1 n1 C1, .slice P2 n2 C2, .bool li, .bool hi] 35) := ⟨_, rfl⟩
  have b0 : Below w.heap.size w w0 := by rw [hw0]; exact (Below.refl _ w).alloc (Nat.le_refl _) _
  have d0 : w0.heap[w.heap.size]? = some (.cells #[.int .i64 0, .int .i64 stop, .slice q k.length c, .int .u64 id, .slice P1 n1 C1, .slice P2 n2 C2, .bool li, .bool hi] 35 (0, 0)) := by rw [hw0]; exact heap_alloc_new _ _
  have lbt : bt < w.heap.size := by obtain ⟨_, _, _, _, _, _, _, _, _, a, _⟩ := h.tr; exact lt_of_heap a
  have ldd : dd < w.heap.size := by obtain ⟨_, _, a⟩ := h.dc; exact lt_of_heap a.box
  have sz0 : w0.heap.size = w.heap.size + 1 := by rw [hw0, World.size_alloc]
  have CP := mkHid (copied_off q c k w0 (hk.below b0) hl)
  have PP : Hid (∀ w1 g d W, Below w0.heap.size w0 w1 → w0.heap.size ≤ g → g < w1.heap.size → rowAt w1 (some ⟨g, 0, none⟩) k → Below w1.heap.size w1 W → Calls Tryz.prog 8 #[.pointer (some ⟨bt, 0, none⟩), .slice (some ⟨g, 0, none⟩) k.length d, .int .u64 id] W fun e W1 => ∃ x, e = .returned (.int .i64 x) ∧ Chg (fun b => b = bt) W W1 ∧ Calls Tryz.prog 12 #[.pointer (some ⟨dd, 0, none⟩), .slice q k.length c, .int .u64 id] W1 fun e2 W2 => e2 = .returned (.int .i64 x) ∧ Chg (fun b => b = dd) W1 W2 ∧ ∃ L' D', PrIn (fun b => T b ∧ b ≠ g) W2 bt dd L' D') := fun w1 g d W hw1 hg1 hg2 hr hW => by
    have bw : Below w.heap.size w W := b0.trans ((hw1.trans (hW.mono hw1.size)).mono b0.size)
    have hp : PrIn (fun b => T b ∧ b ≠ g) W bt dd L D := (h.mono (U := fun b => T b ∧ b ≠ g) (fun b hb ht => ⟨ht, by omega⟩)).chg (S := fun _ => False) (chg_bl bw) (fun _ e => e.elim) (fun e => e) (fun e => e)
    exact both_put_off (fun b => T b ∧ b ≠ g) bt dd L D k id _ d q c W hp (fun b hb => ⟨hT b (Nat.le_trans bw.size hb), by have := hW.size; omega⟩) (fun e => h1 e.1) (fun e => h2 e.1) (hr.below hW) (hk.below bw) fk hs hl (hTb.below bw)
  have B0 := mkHid b0
  have D0 := mkHid d0
  have LB : Hid (bt < w.heap.size ∧ dd < w.heap.size ∧ w0.heap.size = w.heap.size + 1) := ⟨lbt, ldd, sz0⟩
  have HO : Hid (¬ T bt ∧ ¬ T dd) := ⟨h1, h2⟩
  have ZL := mkHid hl
  obtain ⟨N, hN⟩ : ∃ N, N = k.length := ⟨_, rfl⟩
  obtain ⟨ix, hix⟩ : ∃ i, i = id := ⟨_, rfl⟩
  have HN := mkHid hN
  rw [← hN] at CP PP D0 hw0 ⊢
  rw [← hix] at PP D0 hw0 ⊢
  have HW := mkHid hw0
  have c2 : w0.cell? ⟨w.heap.size, 2, none⟩ = some (.slice q N c) := (cell_of_block D0.out 2).trans rfl
  clear h hT h1 h2 hk fk hs hl hTb b0 d0 lbt ldd sz0 hN hix hw0
  go_enter Tryz.func10, Tryz.ntmps10
  go_wp2_with fail
  rw [← HW.out]
  clear HW
  go_wp2_with (go_at_call 15; refine CP.out.mono ?_; rintro e w1 ⟨g, d, rfl, hg1, hr, hblk, b1⟩; have D1 := mkHid ((b1.block _ (lt_of_heap D0.out)).trans D0.out); have c0 : w1.cell? ⟨w.heap.size, 0, none⟩ = some (.int .i64 0) := (cell_of_block D1.out 0).trans rfl)
  have HG1 := mkHid hg1
  have HBK := mkHid hblk
  have HG2 : Hid (g < w1.heap.size) := by obtain ⟨cs, e, _⟩ := hblk; exact lt_of_heap e
  have PT := mkHid (fun W hW => PP.out w1 g d W b1 hg1 HG2.out hr hW)
  have BW1 : Hid (Below w.heap.size w w1) := B0.out.trans (b1.mono B0.out.size)
  have KS : Hid (∀ W, Chg (fun b => b = bt ∨ b = dd) w1 W → (fun w' : World => w'.cell? ⟨w.heap.size, 2, none⟩ = some (.slice q N c) ∧ w'.cell? ⟨w.heap.size, 3, none⟩ = some (.int .u64 ix)) W) := fun W hW => by
    have := hW.at_ D1.out (fun e => by have := LB.out; omega)
    exact ⟨(cell_of_block this 2).trans rfl, (cell_of_block this 3).trans rfl⟩
  clear c0 c2 CP PP b1 hg1 hr hblk
  refine wp_region_noPanic ?_
  refine wp_region_held_drew (S := fun w' : World => w'.cell? ⟨w.heap.size, 2, none⟩ = some (.slice q N c) ∧ w'.cell? ⟨w.heap.size, 3, none⟩ = some (.int .u64 ix)) (by kernel_rfl) (KS.out _ (Chg.refl _ _).drew) (fun hH => ?_)
  refine tKx (i := 0) (v := .pointer (some ⟨bt, 0, none⟩)) rfl rfl (by kernel_rfl) (fun _ _ _ h => h) ?_ hH ?_
  · intro w5 hSw; obtain ⟨s0, s1⟩ := hSw; go_simp
  simp only [zA9, zB9, zC9]
  refine tKx (i := 1) (v := .slice (some ⟨g, 0, none⟩) N d) rfl rfl (by kernel_rfl) (fun _ _ _ h => h) ?_ hH ?_
  · intro w5 hSw; obtain ⟨s0, s1⟩ := hSw; go_simp
  simp only [zA9, zB9, zC9]
  refine tKx (i := 2) (v := .pointer (some ⟨w.heap.size, 3, none⟩)) rfl rfl (by kernel_rfl) (fun _ _ _ h => h) ?_ hH ?_
  · intro w5 hSw; obtain ⟨s0, s1⟩ := hSw; go_simp
  simp only [zA9, zB9, zC9]
  refine tKx (i := 3) (v := .int .u64 ix) rfl rfl (by kernel_rfl) (fun _ _ _ h => h) ?_ hH ?_
  · intro w5 hSw; obtain ⟨s0, s1⟩ := hSw; go_simp
  simp only [zA9, zB9, zC9]
  refine tKx (i := 5) (v := .pointer (some ⟨dd, 0, none⟩)) rfl rfl (by kernel_rfl) (fun _ _ _ h => h) ?_ hH ?_
  · intro w5 hSw; obtain ⟨s0, s1⟩ := hSw; go_simp
  simp only [zA9, zB9, zC9]
  refine tKx (i := 6) (v := .pointer (some ⟨w.heap.size, 2, none⟩)) rfl rfl (by kernel_rfl) (fun _ _ _ h => h) ?_ hH ?_
  · intro w5 hSw; obtain ⟨s0, s1⟩ := hSw; go_simp
  simp only [zA9, zB9, zC9]
  refine tKx (i := 7) (v := .slice q N c) rfl rfl (by kernel_rfl) (fun _ _ _ h => h) ?_ hH ?_
  · intro w5 hSw; obtain ⟨s0, s1⟩ := hSw; go_simp
  simp only [zA9, zB9, zC9]
  refine tKx (i := 8) (v := .pointer (some ⟨w.heap.size, 3, none⟩)) rfl rfl (by kernel_rfl) (fun _ _ _ h => h) ?_ hH ?_
  · intro w5 hSw; obtain ⟨s0, s1⟩ := hSw; go_simp
  simp only [zA9, zB9, zC9]
  refine tKx (i := 9) (v := .int .u64 ix) rfl rfl (by kernel_rfl) (fun _ _ _ h => h) ?_ hH ?_
  · intro w5 hSw; obtain ⟨s0, s1⟩ := hSw; go_simp
  simp only [zA9, zB9, zC9]
  refine wpAnyH_ready (rs := [4]) (by kernel_rfl) (by simp) ?_
  refine AllReadyH.cons rfl (fun K hK => ?_) AllReadyH.nil
  go_simp
  go_at_call 8
  refine (PT.out w1.drew (Below.refl _ _).drew).mono ?_
  rintro e W1 ⟨x, rfl, hc1, PD⟩
  replace PD := mkHid PD
  go_wp2_with fail
  have C1 : Hid (Chg (fun b => b = bt ∨ b = dd) w1 W1) := ((Chg.refl _ w1).drew).trans (hc1.mono (fun _ _ e => Or.inl e))
  refine hK.out _ _ (KS.out _ C1.out) (fun hH => ?_)
  clear hK K hc1
  refine wpAnyH_ready (rs := [10]) (by kernel_rfl) (by simp) ?_
  refine AllReadyH.cons rfl (fun K hK => ?_) AllReadyH.nil
  go_simp
  go_at_call 12
  refine PD.out.mono ?_
  rintro e W2 ⟨rfl, hc2, L2, D2, hp⟩
  replace hp := mkHid hp
  go_wp2_with fail
  have C2 : Hid (Chg (fun b => b = bt ∨ b = dd) w1 W2) := C1.out.trans (hc2.mono (fun _ _ e => Or.inr e))
  refine hK.out _ _ (KS.out _ C2.out) (fun hH => ?_)
  clear hK K hc2
  refine tKx (i := 11) (v := .bool false) rfl rfl (by kernel_rfl) (fun _ _ _ h => h) ?_ hH ?_
  · intro w5 hSw; obtain ⟨s0, s1⟩ := hSw; go_simp
  simp only [zA9, zB9, zC9]
  refine wpAnyH_done (by kernel_rfl) ?_ _
  refine NoPanic.normal ?_
  clear hH KS PT PD C1
  have GL0 : Hid (GoL W2 g N W2) := by
    obtain ⟨cs, e, hz⟩ := HBK.out
    refine ⟨Chg.refl _ _, cs, C2.out.at_ e (fun e => by have := LB.out; have := HG1.out; omega), hz⟩
  have FIN : Hid (∀ wr, GoL W2 g N wr → DoQ T w bt dd (.returned (.bool true)) wr) := fun wr hG => by
    have hw2 : Chg (fun b => b = bt ∨ b = dd) w W2 := (chg_bl BW1.out : Chg (fun b => b = bt ∨ b = dd) w w1).trans C2.out
    have hg : w.heap.size ≤ g := by have := LB.out; have := HG1.out; omega
    refine ⟨rfl, chg_new hw2 hG.chg hg, L2, D2, ?_⟩
    exact (hp.out.chg hG.chg (fun b e ht => ht.2 e) (fun e => by have := LB.out; omega) (fun e => by have := LB.out; omega)).mono (fun b _ ht => ht.1)
  have zN : N ≤ 1000000000 := by rw [HN.out]; exact ZL.out
  clear C2 hp HBK D0 D1 BW1 B0
  go_wp2_with fail
  go_loopw [8] (fun s8 wr => ∃ i : Nat, s8 = .int .i64 i ∧ i ≤ N ∧ Hid (GoL W2 g N wr)) (fun s8 _ => N - (intOf s8).toNat)
  case atStart => exact ⟨0, rfl, Nat.zero_le _, GL0⟩
  case round =>
    obtain ⟨i, rfl, him, hG⟩ := hrel
    clear GL0
    by_cases hlt : i < N
    · obtain ⟨t0, ht0⟩ := hG.out.cell hlt (r := 0) (by omega)
      obtain ⟨t1, ht1⟩ := hG.out.cell hlt (r := 1) (by omega)
      obtain ⟨t2, ht2⟩ := hG.out.cell hlt (r := 2) (by omega)
      have hfr : ∀ o, wr.frozen? ⟨g, o, none⟩ = false := fun o => hG.out.fro
      have i3 : (i : Int) < (N : Int) := by omega
      rw [Nat.add_zero] at ht0
      have NX : Hid (∀ a b c, GoL W2 g N (((wr.setCell ⟨g, i * 3, none⟩ a).setCell ⟨g, i * 3 + 1, none⟩ b).setCell ⟨g, i * 3 + 2, none⟩ c)) := fun a b c => hG.out.set.set.set
      clear hG
      go_wp2_with fail
      go_roundw
      case rel => exact ⟨i + 1, by go_num, hlt, NX.out _ _ _⟩
      case measure => simp [intOf]; omega
    · obtain rfl : i = N := by omega
      have FX := mkHid (FIN.out wr hG.out)
      clear hG FIN
      go_wp2_with fail
      go_ret
      exact FX.out
set_option maxHeartbeats 4000000 in
set_option maxRecDepth 1000000 in
theorem does_drop_off (T : Nat → Prop) (bt dd : Nat) (L D : List Em) (k : List Va) (id stop : Int) (q P1 P2 : Option Addr) (c n1 C1 n2 C2 : Nat) (li hi : Bool) (w : World) (h : PrIn T w bt dd L D) (hT : ∀ b, w.heap.size ≤ b → T b) (h1 : ¬ T bt) (h2 : ¬ T dd) (hk : rowOff w q k) (fk : ∀ v ∈ k, fit v.n) (hl : k.length ≤ 1000000000) :
    Calls Tryz.prog 10 #[.pointer (some ⟨bt, 0, none⟩), .pointer (some ⟨dd, 0, none⟩), .agg #[.int .i64 1, .int .i64 stop, .slice q k.length c, .int .u64 id, .slice P1 n1 C1, .slice P2 n2 C2, .bool li, .bool hi]] w fun e w' => DoQ T w bt dd e w' := by
  obtain ⟨w0, hw0⟩ : ∃ w0, w0 = w.alloc (.cells #[.int .i64 1, .int .i64 stop, .slice q k.length c, .int .u64 id, .slice P1 n1 C1, .slice P2 n2 C2, .bool li, .bool hi] 35) := ⟨_, rfl⟩
  have b0 : Below w.heap.size w w0 := by rw [hw0]; exact (Below.refl _ w).alloc (Nat.le_refl _) _
  have d0 : w0.heap[w.heap.size]? = some (.cells #[.int .i64 1, .int .i64 stop, .slice q k.length c, .int .u64 id, .slice P1 n1 C1, .slice P2 n2 C2, .bool li, .bool hi] 35 (0, 0)) := by rw [hw0]; exact heap_alloc_new _ _
  have lbt : bt < w.heap.size := by obtain ⟨_, _, _, _, _, _, _, _, _, a, _⟩ := h.tr; exact lt_of_heap a
  have ldd : dd < w.heap.size := by obtain ⟨_, _, a⟩ := h.dc; exact lt_of_heap a.box
  have CP := mkHid (copied_off q c k w0 (hk.below b0) hl)
  have PP : Hid (∀ w1 g d W, Below w0.heap.size w0 w1 → rowAt w1 (some ⟨g, 0, none⟩) k → Below w1.heap.size w1 W → Calls Tryz.prog 9 #[.pointer (some ⟨bt, 0, none⟩), .slice (some ⟨g, 0, none⟩) k.length d, .int .u64 id] W fun e W1 => ∃ x, e = .returned (.bool x) ∧ Chg (fun b => b = bt) W W1 ∧ Calls Tryz.prog 19 #[.pointer (some ⟨dd, 0, none⟩), .slice q k.length c, .int .u64 id] W1 fun e2 W2 => e2 = .returned (.bool x) ∧ Chg (fun b => b = dd) W1 W2 ∧ ∃ L' D', PrIn T W2 bt dd L' D') := fun w1 g d W hw1 hr hW => by
    have bw : Below w.heap.size w W := b0.trans ((hw1.trans (hW.mono hw1.size)).mono b0.size)
    have hp : PrIn T W bt dd L D := h.chg (S := fun _ => False) (chg_bl bw) (fun _ e => e.elim) (fun e => e) (fun e => e)
    exact both_drop_off T bt dd L D k id _ d q c W hp (fun b hb => hT b (Nat.le_trans bw.size hb)) h1 h2 (hr.below hW) (hk.below bw) fk
  have B0 := mkHid b0
  have D0 := mkHid d0
  have LB : Hid (bt < w.heap.size ∧ dd < w.heap.size) := ⟨lbt, ldd⟩
  obtain ⟨N, hN⟩ : ∃ N, N = k.length := ⟨_, rfl⟩
  obtain ⟨ix, hix⟩ : ∃ i, i = id := ⟨_, rfl⟩
  rw [← hN] at CP PP D0 hw0 ⊢
  rw [← hix] at PP D0 hw0 ⊢
  have HW := mkHid hw0
  have c2 : w0.cell? ⟨w.heap.size, 2, none⟩ = some (.slice q N c) := (cell_of_block D0.out 2).trans rfl
  clear h hT h1 h2 hk fk hl b0 d0 lbt ldd hN hix hw0
  go_enter Tryz.func10, Tryz.ntmps10
  go_wp2_with fail
  rw [← HW.out]
  clear HW
  go_wp2_with (go_at_call 15; refine CP.out.mono ?_; rintro e w1 ⟨g, d, rfl, hg1, hr, hblk, b1⟩; have D1 := mkHid ((b1.block _ (lt_of_heap D0.out)).trans D0.out); have c0 : w1.cell? ⟨w.heap.size, 0, none⟩ = some (.int .i64 1) := (cell_of_block D1.out 0).trans rfl)
  have PT := mkHid (fun W hW => PP.out w1 g d W b1 hr hW)
  have BW1 : Hid (Below w.heap.size w w1) := B0.out.trans (b1.mono B0.out.size)
  have KS : Hid (∀ W, Chg (fun b => b = bt ∨ b = dd) w1 W → (fun w' : World => w'.cell? ⟨w.heap.size, 2, none⟩ = some (.slice q N c) ∧ w'.cell? ⟨w.heap.size, 3, none⟩ = some (.int .u64 ix)) W) := fun W hW => by
    have := hW.at_ D1.out (fun e => by have := LB.out; omega)
    exact ⟨(cell_of_block this 2).trans rfl, (cell_of_block this 3).trans rfl⟩
  clear c0 c2 CP PP b1 hg1 hr hblk
  refine wp_region_noPanic ?_
  refine wp_region_held_drew (S := fun w' : World => w'.cell? ⟨w.heap.size, 2, none⟩ = some (.slice q N c) ∧ w'.cell? ⟨w.heap.size, 3, none⟩ = some (.int .u64 ix)) (by kernel_rfl) (KS.out _ (Chg.refl _ _).drew) (fun hH => ?_)
  refine tKx (i := 0) (v := .pointer (some ⟨bt, 0, none⟩)) rfl rfl (by kernel_rfl) (fun _ _ _ h => h) ?_ hH ?_
  · intro w5 hSw; obtain ⟨s0, s1⟩ := hSw; go_simp
  simp only [zA9, zB9, zC9]
  refine tKx (i := 1) (v := .slice (some ⟨g, 0, none⟩) N d) rfl rfl (by kernel_rfl) (fun _ _ _ h => h) ?_ hH ?_
  · intro w5 hSw; obtain ⟨s0, s1⟩ := hSw; go_simp
  simp only [zA9, zB9, zC9]
  refine tKx (i := 2) (v := .pointer (some ⟨w.heap.size, 3, none⟩)) rfl rfl (by kernel_rfl) (fun _ _ _ h => h) ?_ hH ?_
  · intro w5 hSw; obtain ⟨s0, s1⟩ := hSw; go_simp
  simp only [zA9, zB9, zC9]
  refine tKx (i := 3) (v := .int .u64 ix) rfl rfl (by kernel_rfl) (fun _ _ _ h => h) ?_ hH ?_
  · intro w5 hSw; obtain ⟨s0, s1⟩ := hSw; go_simp
  simp only [zA9, zB9, zC9]
  refine tKx (i := 5) (v := .pointer (some ⟨dd, 0, none⟩)) rfl rfl (by kernel_rfl) (fun _ _ _ h => h) ?_ hH ?_
  · intro w5 hSw; obtain ⟨s0, s1⟩ := hSw; go_simp
  simp only [zA9, zB9, zC9]
  refine tKx (i := 6) (v := .pointer (some ⟨w.heap.size, 2, none⟩)) rfl rfl (by kernel_rfl) (fun _ _ _ h => h) ?_ hH ?_
  · intro w5 hSw; obtain ⟨s0, s1⟩ := hSw; go_simp
  simp only [zA9, zB9, zC9]
  refine tKx (i := 7) (v := .slice q N c) rfl rfl (by kernel_rfl) (fun _ _ _ h => h) ?_ hH ?_
  · intro w5 hSw; obtain ⟨s0, s1⟩ := hSw; go_simp
  simp only [zA9, zB9, zC9]
  refine tKx (i := 8) (v := .pointer (some ⟨w.heap.size, 3, none⟩)) rfl rfl (by kernel_rfl) (fun _ _ _ h => h) ?_ hH ?_
  · intro w5 hSw; obtain ⟨s0, s1⟩ := hSw; go_simp
  simp only [zA9, zB9, zC9]
  refine tKx (i := 9) (v := .int .u64 ix) rfl rfl (by kernel_rfl) (fun _ _ _ h => h) ?_ hH ?_
  · intro w5 hSw; obtain ⟨s0, s1⟩ := hSw; go_simp
  simp only [zA9, zB9, zC9]
  refine wpAnyH_ready (rs := [4]) (by kernel_rfl) (by simp) ?_
  refine AllReadyH.cons rfl (fun K hK => ?_) AllReadyH.nil
  go_simp
  go_at_call 9
  refine (PT.out w1.drew (Below.refl _ _).drew).mono ?_
  rintro e W1 ⟨x, rfl, hc1, PD⟩
  replace PD := mkHid PD
  go_wp2_with fail
  have C1 : Hid (Chg (fun b => b = bt ∨ b = dd) w1 W1) := ((Chg.refl _ w1).drew).trans (hc1.mono (fun _ _ e => Or.inl e))
  refine hK.out _ _ (KS.out _ C1.out) (fun hH => ?_)
  clear hK K hc1
  refine wpAnyH_ready (rs := [10]) (by kernel_rfl) (by simp) ?_
  refine AllReadyH.cons rfl (fun K hK => ?_) AllReadyH.nil
  go_simp
  go_at_call 19
  refine PD.out.mono ?_
  rintro e W2 ⟨rfl, hc2, L2, D2, hp⟩
  replace hp := mkHid hp
  go_wp2_with fail
  have C2 : Hid (Chg (fun b => b = bt ∨ b = dd) w1 W2) := C1.out.trans (hc2.mono (fun _ _ e => Or.inr e))
  refine hK.out _ _ (KS.out _ C2.out) (fun hH => ?_)
  clear hK K hc2
  refine tKx (i := 11) (v := .bool true) rfl rfl (by kernel_rfl) (fun _ _ _ h => h) ?_ hH ?_
  · intro w5 hSw; obtain ⟨s0, s1⟩ := hSw; go_simp
  simp only [zA9, zB9, zC9]
  refine wpAnyH_ready (rs := [12]) (by kernel_rfl) (by simp) ?_
  refine AllReadyH.cons rfl (fun K hK => ?_) AllReadyH.nil
  go_simp
  refine hK.out _ _ (KS.out _ C2.out) (fun hH => ?_)
  clear hK K
  refine wpAnyH_done (by kernel_rfl) ?_ _
  refine NoPanic.normal ?_
  clear hH KS PT PD C1
  have FX : Hid (DoQ T w bt dd (.returned (.bool true)) W2) := ⟨rfl, (chg_bl BW1.out : Chg (fun b => b = bt ∨ b = dd) w w1).trans C2.out, L2, D2, hp.out⟩
  clear C2 hp D0 D1 BW1 B0
  go_wp2_with fail
  go_ret
  exact FX.out
set_option maxHeartbeats 4000000 in
set_option maxRecDepth 1000000 in
theorem does_none_off (kd : Int) (k : List Va) (id stop : Int) (q P1 P2 : Option Addr) (pb dp : Option Addr) (c n1 C1 n2 C2 : Nat) (li hi : Bool) (w : World) (hk : rowOff w q k) (hl : k.length ≤ 1000000000) (h0 : kd < 0) :
    Calls Tryz.prog 10 #[.pointer pb, .pointer dp, .agg #[.int .i64 kd, .int .i64 stop, .slice q k.length c, .int .u64 id, .slice P1 n1 C1, .slice P2 n2 C2, .bool li, .bool hi]] w fun e w' => e = .returned (.bool true) ∧ Below w.heap.size w w' := by
  obtain ⟨w0, hw0⟩ : ∃ w0, w0 = w.alloc (.cells #[.int .i64 kd, .int .i64 stop, .slice q k.length c, .int .u64 id, .slice P1 n1 C1, .slice P2 n2 C2, .bool li, .bool hi] 35) := ⟨_, rfl⟩
  have b0 : Below w.heap.size w w0 := by rw [hw0]; exact (Below.refl _ w).alloc (Nat.le_refl _) _
  have d0 : w0.heap[w.heap.size]? = some (.cells #[.int .i64 kd, .int .i64 stop, .slice q k.length c, .int .u64 id, .slice P1 n1 C1, .slice P2 n2 C2, .bool li, .bool hi] 35 (0, 0)) := by rw [hw0]; exact heap_alloc_new _ _
  have CP := mkHid (copied_off q c k w0 (hk.below b0) hl)
  have B0 := mkHid b0
  have D0 := mkHid d0
  obtain ⟨N, hN⟩ : ∃ N, N = k.length := ⟨_, rfl⟩
  rw [← hN] at CP D0 hw0 ⊢
  have HW := mkHid hw0
  have c2 : w0.cell? ⟨w.heap.size, 2, none⟩ = some (.slice q N c) := (cell_of_block D0.out 2).trans rfl
  have z0 : (kd == 0) = false := by rw [beq_eq_false_iff_ne]; omega
  have z1 : (kd == 1) = false := by rw [beq_eq_false_iff_ne]; omega
  have z2 : (kd == 2) = false := by rw [beq_eq_false_iff_ne]; omega
  have z3 : (kd == 3) = false := by rw [beq_eq_false_iff_ne]; omega
  clear hk hl b0 d0 hN hw0 h0
  go_enter Tryz.func10, Tryz.ntmps10
  go_wp2_with fail
  rw [← HW.out]
  clear HW
  go_wp2_with (go_at_call 15; refine CP.out.mono ?_; rintro e w1 ⟨g, d, rfl, hg1, hr, hblk, b1⟩; have c0 : w1.cell? ⟨w.heap.size, 0, none⟩ = some (.int .i64 kd) := (cell_of_block ((b1.block _ (lt_of_heap D0.out)).trans D0.out) 0).trans rfl)
  go_ret
  exact ⟨rfl, B0.out.trans (b1.mono B0.out.size)⟩
end Go.Proofs.YtclcajnodoifjaaGreatDoor

namespace Go.Proofs.YtclcajnodoifjaaGreatDoor
open Go.RowKit Go.Shelf Go.Joins Go.Maps
set_option maxRecDepth 100000

/-- an act that came in: its key at any place -/
structure Ac.came (w : World) (a : Ac) : Prop where
  row : rowOff w a.q a.k
  fits : ∀ v ∈ a.k, fit v.n
  txt : ∀ v ∈ a.k, v.s.size ≤ 9223372036854775807
  few : a.k.length ≤ 1000000000
theorem Ac.came.below {w w' : World} {a : Ac} (h : a.came w) (hb : Below w.heap.size w w') : a.came w' := ⟨h.row.below hb, h.fits, h.txt, h.few⟩
end Go.Proofs.YtclcajnodoifjaaGreatDoor

namespace Go.Proofs.YtclcajnodoifjaaGreatDoor
open Go.ChangeShapes Go.WideShapes Go.ChangeAt Go.RowKit Go.Lib Go.Shelf Go.Joins Go.Deep
set_option maxRecDepth 100000

theorem laidOut' : laidOutB Tryz.prog = true := by kernel_rfl
theorem all_stay {H : Type} {enc : TypeId × Value → H} {W W' : World} (hb : Below W.heap.size W W') : ∀ {ts : List TypeId} {vs : List Value} {ds : List (DataW H)} {ps : List MemPlace}, (∀ t ∈ ts, Tryz.prog.readableRec t = true ∧ t < Tryz.prog.types.size) →
    (∀ p ∈ ps, p.block < W.heap.size) → DataW.TrodAll enc Tryz.prog W 0 (fun _ => true) true ts vs ds ps → DataW.TrodAll enc Tryz.prog W' 0 (fun b => decide (b < W.heap.size)) true ts vs ds ps
  | [], [], [], _, _, _, h => h
  | t :: ts, v :: vs, d :: ds, ps, ht, hp, ⟨p, q, h1, h2, e⟩ => by
    subst e
    refine ⟨p, q, WideElems.Trod_stays laidOut' (ht t List.mem_cons_self).1 (ht t List.mem_cons_self).2 h1 (fun x hx => hb.same (hp x (List.mem_append_left _ hx))) (fun x hx => by simpa using hp x (List.mem_append_left _ hx)), ?_, rfl⟩
    exact all_stay hb (fun t h => ht t (List.mem_cons_of_mem _ h)) (fun x hx => hp x (List.mem_append_right _ hx)) h2
  | [], _ :: _, _, _, _, _, h => h.elim
  | [], [], _ :: _, _, _, _, h => h.elim
  | _ :: _, [], _, _, _, _, h => h.elim
  | _ :: _, _ :: _, [], _, _, _, h => h.elim
theorem bulk_one {H : Type} (d : DataW H) : 1 ≤ Rows.uptoBulk d := by
  cases d with
  | lit x => cases x <;> simp [Rows.uptoBulk]
  | _ => simp [Rows.uptoBulk]
theorem bulk_all {H : Type} : ∀ l : List (DataW H), l.length ≤ Rows.uptoBulkAll l
  | [] => Nat.zero_le _
  | d :: l => by
    have h1 := bulk_one d
    have h2 := bulk_all l
    simp only [Rows.uptoBulkAll, List.length_cons]; omega
theorem bulk_part {H : Type} {d : DataW H} : ∀ {l : List (DataW H)}, d ∈ l → Rows.uptoBulk d ≤ Rows.uptoBulkAll l
  | x :: r, h => by
    simp only [Rows.uptoBulkAll]
    rcases List.mem_cons.1 h with e | e
    · subst e; omega
    · have := bulk_part (l := r) e; omega
/-- a list that came in, whose elements are known by their cells -/
theorem open_list {H : Type} {enc : TypeId × Value → H} {W : World} {α : Type} (a0 : α) {t e sz : Nat} (ht : Tryz.prog.underlying t = some (.slice e)) (hc : Tryz.prog.cellsOf e = sz) (h0 : 0 < sz) (en : α → List Value) (G : DataW H → α → Prop)
    (hel : ∀ n cs y, DataW.trod enc Tryz.prog W 0 (fun _ => true) true n e cs = some y → ∃ a, cs = en a ∧ G y.1 a) (hlen : ∀ a, (en a).length = sz) {n : Nat} {cs : List Value} {x : DataW H × List MemPlace} (h : DataW.trod enc Tryz.prog W 0 (fun _ => true) true n t cs = some x) :
    ∃ (P : Option Addr) (C : Nat) (l : List α), cs = [.slice P l.length C] ∧ (P = none → C = 0) ∧ l.length ≤ C ∧ l.length ≤ Rows.uptoBulk x.1 ∧ (∀ a ∈ l, ∃ d, Rows.uptoBulk d ≤ Rows.uptoBulk x.1 ∧ G d a) ∧
      (l = [] ∨ ∃ g o, P = some ⟨g, o, none⟩ ∧ g < W.heap.size ∧ ∀ i a, l[i]? = some a → ∀ j u, (en a)[j]? = some u → W.cell? ⟨g, o + i * sz + j, none⟩ = some u) := by
  rcases open_slice ht h with ⟨rfl, _⟩ | ⟨a, len, cap, m, n', D, Pl, rfl, _, hl, hm, hmm, hx, hel2⟩
  · exact ⟨none, 0, [], rfl, fun _ => rfl, Nat.le_refl _, Nat.zero_le _, by simp, Or.inl rfl⟩
  · simp only [if_true] at hmm
    subst hmm
    have each : ∀ i, i < len → ∃ v : α, (∀ j u, (en v)[j]? = some u → W.cell? ((a.add (i * sz)).add j) = some u) ∧ G (D i) v := by
      intro i hi
      obtain ⟨cs', h1, h2⟩ := hel2 i (by omega)
      rw [hc] at h1
      obtain ⟨_, hl', hcc⟩ := World.cells?_some h1
      obtain ⟨v, rfl, hg⟩ := hel _ _ _ h2
      refine ⟨v, fun j u hj => ?_, hg⟩
      have hjl : j < sz := by have := (List.getElem?_eq_some_iff.1 hj).1; rw [hlen] at this; exact this
      have := hcc j hjl
      rw [this]; exact hj
    obtain ⟨V, hV⟩ := @choose_lt α ⟨a0⟩ _ _ each
    have hlb : len ≤ Rows.uptoBulk x.1 := by
      have := bulk_all ((List.range len).map D)
      rw [hx]
      simp only [List.length_map, List.length_range] at this
      simp only [Rows.uptoBulk]; omega
    refine ⟨some a, m, (List.range len).map V, by simp, (fun e => by cases e), by simpa using hl, by simpa using hlb, fun v hv => ?_, ?_⟩
    · simp only [List.mem_map, List.mem_range] at hv
      obtain ⟨i, hi, rfl⟩ := hv
      refine ⟨D i, ?_, (hV i hi).2⟩
      have := bulk_part (d := D i) (l := (List.range len).map D) (List.mem_map.2 ⟨i, List.mem_range.2 hi, rfl⟩)
      rw [hx]
      simp only [Rows.uptoBulk]; omega
    · by_cases hz : len = 0
      · subst hz; exact Or.inl rfl
      · have hl0 : 0 < (en (V 0)).length := by rw [hlen]; exact h0
        have g0 := (hV 0 (by omega)).1 0 _ (List.getElem?_eq_getElem hl0)
        have hsp : a.spot = none := by simpa [Addr.add] using World.cell?_spot g0
        obtain ⟨b, off, spot⟩ := a
        simp only at hsp
        subst hsp
        refine Or.inr ⟨b, off, rfl, ?_, fun i v hv j u hj => ?_⟩
        · have := World.block_lt_of_cell? W _ g0
          rw [add_plain, add_plain] at this
          exact this
        · have hi : i < len := by have := (List.getElem?_eq_some_iff.1 hv).1; simpa using this
          have ev : V i = v := by simpa [hi] using hv
          subst ev
          have := (hV i hi).1 j u hj
          rw [add_plain, add_plain] at this
          exact this
theorem cellsI : Tryz.prog.cellsOf 3 = 1 := by kernel_rfl
theorem cellsI6 : Tryz.prog.cellsOf 2 = 1 := by kernel_rfl
theorem cellsU6 : Tryz.prog.cellsOf 31 = 1 := by kernel_rfl
theorem cellsS : Tryz.prog.cellsOf 9 = 1 := by kernel_rfl
theorem cellsB : Tryz.prog.cellsOf 4 = 1 := by kernel_rfl
theorem cellsV : Tryz.prog.cellsOf 40 = 3 := by kernel_rfl
theorem cellsRw : Tryz.prog.cellsOf 30 = 1 := by kernel_rfl
theorem cellsBd : Tryz.prog.cellsOf 33 = 4 := by kernel_rfl
theorem cellsAc : Tryz.prog.cellsOf 35 = 8 := by kernel_rfl
theorem trod_st4 {H : Type} {enc : TypeId × Value → H} {P : Program} {w : World} {base : Nat} {spare : Nat → Bool} {held : Bool} {t : TypeId} {f0 f1 f2 f3 : Field} {fuel : Nat} {cs : List Value} {x : DataW H × List MemPlace} (ht : P.underlying t = some (.struct #[f0, f1, f2, f3])) (h : DataW.trod enc P w base spare held fuel t cs = some x) :
    ∃ y0 y1 y2 y3 n, x.1 = .agg [y0.1, y1.1, y2.1, y3.1] ∧ cs.length = P.cellsOf t ∧ DataW.trod enc P w base spare held n f0.type ((cs.drop f0.offset).take (P.cellsOf f0.type)) = some y0 ∧ DataW.trod enc P w base spare held n f1.type ((cs.drop f1.offset).take (P.cellsOf f1.type)) = some y1 ∧ DataW.trod enc P w base spare held n f2.type ((cs.drop f2.offset).take (P.cellsOf f2.type)) = some y2 ∧ DataW.trod enc P w base spare held n f3.type ((cs.drop f3.offset).take (P.cellsOf f3.type)) = some y3 := by
  obtain ⟨xs, n, _, rfl, hl, hlen, hf⟩ := DataW.trod_struct ht h
  match xs, hlen with
  | [y0, y1, y2, y3], _ => exact ⟨y0, y1, y2, y3, n, by simp, hl, by simpa using hf 0 f0 rfl, by simpa using hf 1 f1 rfl, by simpa using hf 2 f2 rfl, by simpa using hf 3 f3 rfl⟩
theorem trod_st5 {H : Type} {enc : TypeId × Value → H} {P : Program} {w : World} {base : Nat} {spare : Nat → Bool} {held : Bool} {t : TypeId} {f0 f1 f2 f3 f4 : Field} {fuel : Nat} {cs : List Value} {x : DataW H × List MemPlace} (ht : P.underlying t = some (.struct #[f0, f1, f2, f3, f4])) (h : DataW.trod enc P w base spare held fuel t cs = some x) :
    ∃ y0 y1 y2 y3 y4 n, x.1 = .agg [y0.1, y1.1, y2.1, y3.1, y4.1] ∧ cs.length = P.cellsOf t ∧ DataW.trod enc P w base spare held n f0.type ((cs.drop f0.offset).take (P.cellsOf f0.type)) = some y0 ∧ DataW.trod enc P w base spare held n f1.type ((cs.drop f1.offset).take (P.cellsOf f1.type)) = some y1 ∧ DataW.trod enc P w base spare held n f2.type ((cs.drop f2.offset).take (P.cellsOf f2.type)) = some y2 ∧ DataW.trod enc P w base spare held n f3.type ((cs.drop f3.offset).take (P.cellsOf f3.type)) = some y3 ∧ DataW.trod enc P w base spare held n f4.type ((cs.drop f4.offset).take (P.cellsOf f4.type)) = some y4 := by
  obtain ⟨xs, n, _, rfl, hl, hlen, hf⟩ := DataW.trod_struct ht h
  match xs, hlen with
  | [y0, y1, y2, y3, y4], _ => exact ⟨y0, y1, y2, y3, y4, n, by simp, hl, by simpa using hf 0 f0 rfl, by simpa using hf 1 f1 rfl, by simpa using hf 2 f2 rfl, by simpa using hf 3 f3 rfl, by simpa using hf 4 f4 rfl⟩
theorem fitOf {n : Int} (h : (Lit.int .i64 n).wf = true) : fit n := by
  have := bounds_i64 h
  exact ⟨by omega, by omega⟩
theorem vaE_len (v : Va) : (vaE v).length = 3 := rfl
/-- a value that came in -/
theorem el_va {H : Type} {enc : TypeId × Value → H} {W : World} {n : Nat} {cs : List Value} {y : DataW H × List MemPlace} (h : DataW.trod enc Tryz.prog W 0 (fun _ => true) true n 40 cs = some y) : ∃ v : Va, cs = vaE v ∧ (fit v.n ∧ v.s.size ≤ 9223372036854775807) := by
  obtain ⟨y0, y1, y2, m, _, hl, t0, t1, t2⟩ := trod_struct3 Tryz.underlying40 h
  rw [cellsV] at hl
  match cs, hl with
  | [c0, c1, c2], _ =>
    have u0 : DataW.trod enc Tryz.prog W 0 (fun _ => true) true m 3 [c0] = some y0 := by simpa [cellsI] using t0
    have u1 : DataW.trod enc Tryz.prog W 0 (fun _ => true) true m 2 [c1] = some y1 := by simpa [cellsI6] using t1
    have u2 : DataW.trod enc Tryz.prog W 0 (fun _ => true) true m 9 [c2] = some y2 := by simpa [cellsS] using t2
    obtain ⟨a, e0, _, _⟩ := DataW.trod_int Tryz.underlying3 u0
    obtain ⟨b, e1, _, wb⟩ := DataW.trod_int Tryz.underlying2 u1
    obtain ⟨s, e2, _, ws⟩ := DataW.trod_string Tryz.underlying9 u2
    simp only [List.cons.injEq, and_true] at e0 e1 e2
    subst e0 e1 e2
    exact ⟨⟨a, b, s⟩, rfl, fitOf wb, by unfold maxLen at ws; exact ws⟩
/-- a row that came in, by its cells -/
theorem open_row {H : Type} {enc : TypeId × Value → H} {W : World} {n : Nat} {cs : List Value} {x : DataW H × List MemPlace} (h : DataW.trod enc Tryz.prog W 0 (fun _ => true) true n 30 cs = some x) :
    ∃ (P : Option Addr) (C : Nat) (l : List Va), cs = [.slice P l.length C] ∧ l.length ≤ Rows.uptoBulk x.1 ∧ (∀ v ∈ l, fit v.n ∧ v.s.size ≤ 9223372036854775807) ∧ rowOff W P l := by
  obtain ⟨P, C, l, e, h1, h2, h3, hg, h4⟩ := open_list (⟨0, 0, ⟨#[]⟩⟩ : Va) Tryz.underlying30 cellsV (by decide) vaE (fun _ v => fit v.n ∧ v.s.size ≤ 9223372036854775807) (fun n cs y h => el_va h) vaE_len h
  refine ⟨P, C, l, e, h3, fun v hv => (hg v hv).elim (fun _ h => h.2), ?_⟩
  rcases h4 with h4 | ⟨g, o, rfl, hg, hc⟩
  · exact Or.inl h4
  · refine Or.inr ⟨g, o, rfl, hg, fun j u hj => ?_⟩
    obtain ⟨v, hi, he⟩ := fl_at (enc := vaE) (s := 3) vaE_len (by decide) hj
    have := hc (j / 3) v hi (j % 3) u he
    have e : o + j / 3 * 3 + j % 3 = o + j := by omega
    rwa [e] at this
/-- an act that came in -/
theorem el_ac {H : Type} {enc : TypeId × Value → H} {W : World} {n : Nat} {cs : List Value} {y : DataW H × List MemPlace} (h : DataW.trod enc Tryz.prog W 0 (fun _ => true) true n 35 cs = some y) :
    ∃ a : Ac, cs = a.en ∧ (rowOff W a.q a.k ∧ (∀ v ∈ a.k, fit v.n ∧ v.s.size ≤ 9223372036854775807) ∧ a.k.length ≤ Rows.uptoBulk y.1) := by
  obtain ⟨y0, y1, y2, y3, y4, m, hx, hl, t0, t1, t2, t3, t4⟩ := trod_st5 Tryz.underlying35 h
  rw [cellsAc] at hl
  match cs, hl with
  | [c0, c1, c2, c3, c4, c5, c6, c7], _ =>
    have u0 : DataW.trod enc Tryz.prog W 0 (fun _ => true) true m 3 [c0] = some y0 := by simpa [cellsI] using t0
    have u1 : DataW.trod enc Tryz.prog W 0 (fun _ => true) true m 3 [c1] = some y1 := by simpa [cellsI] using t1
    have u2 : DataW.trod enc Tryz.prog W 0 (fun _ => true) true m 30 [c2] = some y2 := by simpa [cellsRw] using t2
    have u3 : DataW.trod enc Tryz.prog W 0 (fun _ => true) true m 31 [c3] = some y3 := by simpa [cellsU6] using t3
    have u4 : DataW.trod enc Tryz.prog W 0 (fun _ => true) true m 33 [c4, c5, c6, c7] = some y4 := by simpa [cellsBd] using t4
    obtain ⟨z0, z1, z2, z3, m2, _, _, b0, b1, b2, b3⟩ := trod_st4 Tryz.underlying33 u4
    have v0 : DataW.trod enc Tryz.prog W 0 (fun _ => true) true m2 30 [c4] = some z0 := by simpa [cellsRw] using b0
    have v1 : DataW.trod enc Tryz.prog W 0 (fun _ => true) true m2 30 [c5] = some z1 := by simpa [cellsRw] using b1
    have v2 : DataW.trod enc Tryz.prog W 0 (fun _ => true) true m2 4 [c6] = some z2 := by simpa [cellsB] using b2
    have v3 : DataW.trod enc Tryz.prog W 0 (fun _ => true) true m2 4 [c7] = some z3 := by simpa [cellsB] using b3
    obtain ⟨kd, e0, _, _⟩ := DataW.trod_int Tryz.underlying3 u0
    obtain ⟨st, e1, _, _⟩ := DataW.trod_int Tryz.underlying3 u1
    obtain ⟨P, C, l, e2, h2, h3, h4⟩ := open_row u2
    obtain ⟨id, e3, _, _⟩ := DataW.trod_int Tryz.underlying31 u3
    obtain ⟨P1, C1, l1, e4, _⟩ := open_row v0
    obtain ⟨P2, C2, l2, e5, _⟩ := open_row v1
    obtain ⟨li, e6, _⟩ := DataW.trod_bool Tryz.underlying4 v2
    obtain ⟨hi, e7, _⟩ := DataW.trod_bool Tryz.underlying4 v3
    simp only [List.cons.injEq, and_true] at e0 e1 e2 e3 e4 e5 e6 e7
    subst e0 e1 e2 e3 e4 e5 e6 e7
    refine ⟨⟨kd, st, l, P, C, id, P1, l1.length, C1, P2, l2.length, C2, li, hi⟩, rfl, h4, h3, ?_⟩
    rw [hx]
    simp only [Rows.uptoBulk, Rows.uptoBulkAll]
    show l.length ≤ _
    omega
/-- acts that came in -/
theorem arg_acts {H : Type} {enc : TypeId × Value → H} {W : World} {base : Nat} {v : Value} {d : DataW H} {p : List MemPlace} (hv : Value.okWide Tryz.prog W .any base 22 v) (h : DataW.Trod enc Tryz.prog W 0 (fun _ => true) true 22 v d p) :
    ∃ (l : List Ac) (P : Option Addr) (C : Nat), v = .slice P l.length C ∧ actsAt W P l ∧ l.length ≤ Rows.uptoBulk d ∧ (Rows.uptoBulk d ≤ 1048576 → ∀ a ∈ l, a.came W) := by
  obtain ⟨a, len, cap, rfl⟩ := okWide_slice Tryz.underlying22 hv
  obtain ⟨n, hn⟩ := h
  obtain ⟨P, C, l, e, h1, h2, h3, hg, h4⟩ := open_list (⟨0, 0, [], none, 0, 0, none, 0, 0, none, 0, 0, false, false⟩ : Ac) Tryz.underlying22 cellsAc (by decide) Ac.en (fun d a => rowOff W a.q a.k ∧ (∀ v ∈ a.k, fit v.n ∧ v.s.size ≤ 9223372036854775807) ∧ a.k.length ≤ Rows.uptoBulk d) (fun n cs y h => el_ac h) (fun _ => rfl) hn
  refine ⟨l, P, C, by simpa [Value.cells] using e, h4, h3, fun hb a ha => ?_⟩
  obtain ⟨d', hd, g1, g2, g3⟩ := hg a ha
  exact ⟨g1, fun v hv => (g2 v hv).1, fun v hv => (g2 v hv).2, Nat.le_trans g3 (Nat.le_trans (show Rows.uptoBulk d' ≤ Rows.uptoBulk d from hd) (by omega))⟩
end Go.Proofs.YtclcajnodoifjaaGreatDoor

