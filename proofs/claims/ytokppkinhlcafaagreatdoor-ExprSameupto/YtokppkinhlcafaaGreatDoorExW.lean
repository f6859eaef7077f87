/-
  The column that a + 2 names.
-/
import Derived.Test.YtokppkinhlcafaaGreatDoorExV
import Derived.BigQuiet
namespace Go.Proofs.YtokppkinhlcafaaGreatDoor
open Go.RowKit Go.Joins
set_option maxRecDepth 100000

set_option maxHeartbeats 4000000 in
set_option maxRecDepth 1000000 in
theorem named_A (pe gP gC gR sp b : Nat) (w : World) (h : LvW w pe gP gC gR sp) (hb : w.cell? ⟨b, 0, none⟩ = some (.pointer (some ⟨gP, 0, none⟩))) : Calls Tryz.prog 62 #[.agg #[.string ⟨#[116]⟩, .string ⟨#[97]⟩, .int .i64 1], .pointer (some ⟨b, 0, none⟩)] w fun e w' => e = .returned (.bool true) ∧ Below w.heap.size w w' := by
  obtain ⟨_, _, _, _, _, _, _, _, _, a0, a1, a2, a3, a4, a5, a6, a7, a8, _, _, _, _, _, _, _, _, _, _, _, _, _, _, _, _, _⟩ := h
  have lb := World.block_lt_of_cell? _ _ hb
  have lg := World.block_lt_of_cell? _ _ a5
  have nb : b ≠ w.heap.size := by show b ≠ _; have : b < w.heap.size := lb; omega
  have ng : gP ≠ w.heap.size := by have : gP < w.heap.size := lg; omega
  go_enter Tryz.func62, Tryz.ntmps62
  go_wp2_with fail
  go_quiet (fail)
  go_wp2_with fail
  go_ret
  exact ⟨rfl, belN ((Below.refl _ w).alloc (Nat.le_refl _) _) _⟩
theorem eg_named : ∀ args w, (callFunc 62 args).run Tryz.prog w = .ok (.enter 62 args) w := enters_of Tryz.func62 (by kernel_rfl) rfl
set_option maxHeartbeats 4000000 in
set_option maxRecDepth 1000000 in
theorem IndexFunc_none (P : Option Addr) (C : Nat) (f : Value) (w : World) : Calls Tryz.prog 63 #[.slice P 0 C, f] w fun e w' => e = .returned (.int .i64 (-1)) ∧ w' = w := by
  go_enter Tryz.func63, Tryz.ntmps63
  go_wp2_with fail
  go_loopw [8] (fun s8 wr => s8 = .int .i64 0 ∧ wr = w) (fun _ _ => 0)
  case atStart => exact ⟨rfl, rfl⟩
  case round =>
    obtain ⟨rfl, rfl⟩ := hrel
    go_wp2_with fail
    go_ret
    exact ⟨rfl, rfl⟩
set_option maxHeartbeats 4000000 in
set_option maxRecDepth 1000000 in
theorem IndexFunc_A (pe gP gC gR sp b : Nat) (w : World) (h : LvW w pe gP gC gR sp) (hb : w.cell? ⟨b, 0, none⟩ = some (.pointer (some ⟨gP, 0, none⟩))) : Calls Tryz.prog 63 #[.slice (some ⟨gC, 0, none⟩) 1 1, .func (.func 62) #[] #[.pointer (some ⟨b, 0, none⟩)]] w fun e w' => e = .returned (.int .i64 0) ∧ Below w.heap.size w w' := by
  have NA := mkHid (named_A pe gP gC gR sp b w h hb)
  obtain ⟨_, _, _, _, _, _, _, _, _, _, _, _, _, _, _, _, _, _, _, _, _, _, _, _, _, _, _, _, _, k0, k1, k2, _, _, _⟩ := h
  have eg := eg_named
  clear hb
  go_enter Tryz.func63, Tryz.ntmps63
  go_wp2_with fail
  go_loopw [8] (fun s8 wr => s8 = .int .i64 0 ∧ wr = w) (fun _ _ => 0)
  case atStart => exact ⟨rfl, rfl⟩
  case round =>
    obtain ⟨rfl, rfl⟩ := hrel
    go_wp2_with (go_at_fn 62; refine NA.out.mono ?_; rintro e w1 ⟨rfl, hb1⟩)
    go_ret
    exact ⟨rfl, hb1⟩
set_option maxHeartbeats 4000000 in
set_option maxRecDepth 1000000 in
theorem ContainsFunc_none (P : Option Addr) (C : Nat) (f : Value) (w : World) : Calls Tryz.prog 64 #[.slice P 0 C, f] w fun e w' => e = .returned (.bool false) ∧ w' = w := by
  have IN := mkHid (fun w => IndexFunc_none P C f w)
  go_enter Tryz.func64, Tryz.ntmps64
  go_wp2_with (go_at_call 63; refine (IN.out _).mono ?_; rintro e w1 ⟨rfl, rfl⟩)
  go_ret
  exact ⟨rfl, rfl⟩
set_option maxHeartbeats 4000000 in
set_option maxRecDepth 1000000 in
theorem column_A (pe gP gC gR sp : Nat) (w : World) (h : LvW w pe gP gC gR sp) : Calls Tryz.prog 44 #[.pointer (some ⟨gP, 0, none⟩), .pointer (some ⟨sp, 0, none⟩)] w fun e w' => e = .returned (.int .i64 0) ∧ Below w.heap.size w w' := by
  have hmf : ∀ (fn : Fn) (first cap : Array Value) (w : World), (Instr.makeFunc fn first cap).run Tryz.prog w = .ok (.func fn first cap) w := fun _ _ _ _ => rfl
  obtain ⟨W, hW⟩ : ∃ W, W = w.alloc (.cells #[.pointer (some ⟨gP, 0, none⟩)] 34) := ⟨_, rfl⟩
  have bW : Below w.heap.size w W := by rw [hW]; exact (Below.refl _ w).alloc (Nat.le_refl _) _
  have hB : W.heap[w.heap.size]? = some (.cells #[.pointer (some ⟨gP, 0, none⟩)] 34 (0, 0)) := by rw [hW]; exact heap_alloc_new _ _
  have IA := mkHid (IndexFunc_A pe gP gC gR sp w.heap.size W (h.below bW) ((cell_of_block hB 0).trans rfl))
  have CN := mkHid (fun P C f w => ContainsFunc_none P C f w)
  have ls := World.block_lt_of_cell? _ _ h.s0
  have ns : sp ≠ w.heap.size := by have : sp < w.heap.size := ls; omega
  have s0 := h.s0
  have s9 : (w.alloc (.cells #[.pointer (some ⟨gP, 0, none⟩)] 34)).cell? ⟨sp, 0, none⟩ = some (.slice (some ⟨gC, 0, none⟩) 1 1) := by rw [← hW]; exact (h.below bW).s0
  have H := mkHid (h.below bW)
  have BW := mkHid bW
  have HB := mkHid hB
  have HW := mkHid hW
  clear h bW hB hW ls
  go_enter Tryz.func44, Tryz.ntmps44
  go_wp2_with (first | (go_at_call 63; rw [← HW.out]; refine IA.out.mono ?_; rintro e w1 ⟨rfl, hb1⟩; obtain ⟨_, _, _, _, _, _, _, _, _, a0, a1, a2, a3, a4, a5, a6, a7, a8, _, _, _, _, _, _, _, _, _, q0, _, _, _, _, _, _, _⟩ := H.out.below hb1; have y0 : w1.cell? ⟨w.heap.size, 0, none⟩ = some (.pointer (some ⟨gP, 0, none⟩)) := cellNext hb1 ((cell_of_block HB.out 0).trans rfl); have B1 := mkHid hb1; clear hb1 s0) | (go_at_call 64; refine (CN.out _ _ _ _).mono ?_; rintro e w2 ⟨rfl, rfl⟩))

  go_ret
  exact ⟨rfl, BW.out.trans (B1.out.mono BW.out.size)⟩
end Go.Proofs.YtokppkinhlcafaaGreatDoor
