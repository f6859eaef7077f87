/-
 The document's at and Drop, at a key that stands at any place.
-/
import Derived.Test.YtclcajnodoifjaaGreatDoorIAT
namespace Go.Proofs.YtclcajnodoifjaaGreatDoor
open Go.RowKit Go.Shelf Go.Joins Go.Maps
set_option maxRecDepth 100000

/-- an entry handed over, its key at any place -/
structure EnOff (w : World) (p : Option Addr) (e : En) : Prop where
 row : rowOff w p e.key
 fits : ∀ v ∈ e.key, fit v.n
theorem EnOff.below {w w' : World} {p : Option Addr} {e : En} (h : EnOff w p e) (hb : Below w.heap.size w w') : EnOff w' p e := ⟨h.row.below hb, h.fits⟩
set_option maxHeartbeats 8000000 in
set_option maxRecDepth 1000000 in
theorem at_off (T : Nat → Prop) (d : Nat) (u : Bool) (l : List Em) (p : Option Addr) (N c : Nat) (x : En) (px : Option Addr) (cx : Nat) (w : World) (h : DocIn T w d u l (.slice p N c)) (hN : N = l.length) (hl : N ≤ 1000000) (hx : EnOff w px x) :
  Calls Tryz.prog 36 #[.pointer (some ⟨d, 0, none⟩), enV px cx x] w fun e w' => e = .returned (.int .i64 (place ltM (tgt x) l : Int)) ∧ Below w.heap.size w w' := by
 obtain ⟨w0, hw0⟩ : ∃ w0, w0 = w.alloc (.cells #[.slice px x.key.length cx, .int .u64 x.id] 54) := ⟨_, rfl⟩
 have bb : Below w.heap.size w w0 := by rw [hw0]; exact (Below.refl _ w).alloc (Nat.le_refl _) _
 have bx : w0.heap[w.heap.size]? = some (.cells #[.slice px x.key.length cx, .int .u64 x.id] 54 (0, 0)) := by rw [hw0]; exact heap_alloc_new _ _
 have CO : Hid (∀ (k : Nat) W, k < N → Below w0.heap.size w0 W → ∃ y gx ox, l[k]? = some y ∧ p = some ⟨gx, ox, none⟩ ∧ W.cell? ⟨gx, ox + k * 2, none⟩ = some (.slice (some ⟨y.g, 0, none⟩) y.e.key.length y.c) ∧ W.cell? ⟨gx, ox + k * 2 + 1, none⟩ = some (.int .u64 y.e.id) ∧ gx < W.heap.size ∧ ∀ W', Below w0.heap.size w0 W' → Calls Tryz.prog 44 #[.agg #[.slice (some ⟨y.g, 0, none⟩) y.e.key.length y.c, .int .u64 y.e.id], .agg #[.slice px x.key.length cx, .int .u64 x.id]] W' fun en w' => en = .returned (.int .i64 (ordE y.e x)) ∧ Below W'.heap.size W' w') := fun k W hk hW => by
  obtain ⟨y, hy⟩ : ∃ y, l[k]? = some y := ⟨_, List.getElem?_eq_getElem (by omega)⟩
  obtain ⟨p', c', e1, _, _, hc⟩ := h.row.form
  cases e1
  obtain ⟨gx, ox, rfl⟩ : ∃ gx ox, p = some ⟨gx, ox, none⟩ := by
   cases p with
   | none =>
    rcases h.row.1.2 with ⟨_, h0⟩ | ⟨_, _, _, _, e, _⟩
    ·omega
    ·cases e
   | some ad => obtain ⟨g, o, e, _⟩ := hc ad rfl; exact ⟨g, o, by rw [e]⟩
  have bW : Below w.heap.size w W := bb.trans (hW.mono bb.size)
  obtain ⟨u0, u1, u2, u3⟩ := (hN ▸ h.below bW).entry hy
  exact ⟨y, gx, ox, hy, rfl, u0, u1, u3, fun W' hW' => by
   have bW' : Below w.heap.size w W' := bb.trans (hW'.mono bb.size)
   have ky := (h.keys y (List.mem_of_getElem? hy)).keeps (Keeps.of_below bW')
   exact docOrder_off _ _ y.c cx y.e x W' (by have := ky.few; omega) ky.at_ (hx.below bW').row (hx.below bW').fits⟩
 have BX : Hid (∀ W, Below w0.heap.size w0 W → W.cell? ⟨w.heap.size, 0, none⟩ = some (.slice px x.key.length cx) ∧ W.cell? ⟨w.heap.size, 1, none⟩ = some (.int .u64 x.id) ∧ W.cell? ⟨d, 1, none⟩ = some (.slice p N c) ∧ d < W.heap.size ∧ w.heap.size < W.heap.size) := fun W hW => by
  have hb := (hW.block _ (lt_of_heap bx)).trans bx
  have hd := ((bb.trans (hW.mono bb.size)).block _ (lt_of_heap h.box)).trans h.box
  exact ⟨(cell_of_block hb 0).trans rfl, (cell_of_block hb 1).trans rfl, (cell_of_block hd 1).trans rfl, lt_of_heap hd, lt_of_heap hb⟩
 have BB := mkHid bb
 have HW0 := mkHid hw0
 have HN := mkHid hN
 obtain ⟨PL, hPL⟩ : ∃ PL, PL = place ltM (tgt x) l := ⟨_, rfl⟩
 rw [← hPL]
 have HPL := mkHid hPL
 unfold enV
 clear h hx hN bb bx hw0 hPL
 generalize x.key.length = lx at *
 generalize x.id = ix at *
 go_enter Tryz.func36, Tryz.ntmps36
 go_wp2_with fail
 rw [← HW0.out]
 clear HW0
 go_loopw [5] (fun s5 wr => ∃ k : Nat, s5 = .int .i64 k ∧ k ≤ N ∧ Hid (∀ j y, j < k → l[j]? = some y → ltM y (tgt x) = true) ∧ Hid (Below w0.heap.size w0 wr)) (fun s5 _ => N - (intOf s5).toNat)
 case atStart => exact ⟨0, rfl, Nat.zero_le _, fun j y h => by omega, Below.refl _ _⟩
 case round =>
  obtain ⟨k, rfl, hk, hI, hb⟩ := hrel
  obtain ⟨b0, b1, b2, b3, b4⟩ := BX.out wr hb.out
  by_cases hlt : k < N
  ·obtain ⟨y, gx, ox, hy, rfl, c0, c1, lg, cm⟩ := CO.out k wr hlt hb.out
   have CM := mkHid cm
   have KS : Hid (∀ w', Below wr.heap.size wr w' → w'.cell? ⟨d, 1, none⟩ = some (.slice (some ⟨gx, ox, none⟩) N c) ∧ w'.cell? ⟨gx, ox + k * 2, none⟩ = some (.slice (some ⟨y.g, 0, none⟩) y.e.key.length y.c) ∧ w'.cell? ⟨gx, ox + k * 2 + 1, none⟩ = some (.int .u64 y.e.id) ∧ w'.cell? ⟨w.heap.size, 0, none⟩ = some (.slice px lx cx) ∧ w'.cell? ⟨w.heap.size, 1, none⟩ = some (.int .u64 ix)) := fun w' hb2 => ⟨(hb2.cell (p := ⟨d, 1, none⟩) b3).trans b2, (hb2.cell (p := ⟨gx, ox + k * 2, none⟩) lg).trans c0, (hb2.cell (p := ⟨gx, ox + k * 2 + 1, none⟩) lg).trans c1, (hb2.cell (p := ⟨w.heap.size, 0, none⟩) b4).trans b0, (hb2.cell (p := ⟨w.heap.size, 1, none⟩) b4).trans b1⟩
   obtain ⟨R, hR⟩ : ∃ R, R = ordE y.e x := ⟨_, rfl⟩
   rw [← hR] at CM
   have i1 : (k : Int) < (N : Int) := by omega
   have i2 : (0 : Int) ≤ (k : Int) := by omega
   by_cases hl0 : R < 0
   ·have NX : Hid (∀ j z, j < k + 1 → l[j]? = some z → ltM z (tgt x) = true) := fun j z hj hz => by
     by_cases hjk : j = k
     ·subst hjk
      rw [hy] at hz
      cases hz
      show ltE y.e x = true
      rw [ltE_iff, ← hR]; exact hl0
     ·exact hI.out j z (by omega) hz
    clear cm hy hR hI CO BX HPL HN b0 b1 b2 c0 c1
    go_wp2_with fail
    refine wp_region_noPanic ?_
    refine wp_region_held_drew (S := fun w' : World => w'.cell? ⟨d, 1, none⟩ = some (.slice (some ⟨gx, ox, none⟩) N c) ∧ w'.cell? ⟨gx, ox + k * 2, none⟩ = some (.slice (some ⟨y.g, 0, none⟩) y.e.key.length y.c) ∧ w'.cell? ⟨gx, ox + k * 2 + 1, none⟩ = some (.int .u64 y.e.id) ∧ w'.cell? ⟨w.heap.size, 0, none⟩ = some (.slice px lx cx) ∧ w'.cell? ⟨w.heap.size, 1, none⟩ = some (.int .u64 ix)) (by kernel_rfl) (KS.out _ (Below.refl _ _).drew) (fun hH => ?_)
    refine tKx (i := 0) (v := .int .i64 ((k : Int))) rfl rfl (by kernel_rfl) (fun _ _ _ h => h) ?_ hH ?_
    ·intro w5 hSw; obtain ⟨s0, s1, s2, s3, s4⟩ := hSw; go_simp
    simp only [zA9, zB9, zC9]
    refine tKx (i := 1) (v := .pointer (some ⟨d, 0, none⟩)) rfl rfl (by kernel_rfl) (fun _ _ _ h => h) ?_ hH ?_
    ·intro w5 hSw; obtain ⟨s0, s1, s2, s3, s4⟩ := hSw; go_simp
    simp only [zA9, zB9, zC9]
    refine tKx (i := 2) (v := .pointer (some ⟨d, 0, none⟩)) rfl rfl (by kernel_rfl) (fun _ _ _ h => h) ?_ hH ?_
    ·intro w5 hSw; obtain ⟨s0, s1, s2, s3, s4⟩ := hSw; go_simp
    simp only [zA9, zB9, zC9]
    refine tKx (i := 3) (v := .pointer (some ⟨d, 1, none⟩)) rfl rfl (by kernel_rfl) (fun _ _ _ h => h) ?_ hH ?_
    ·intro w5 hSw; obtain ⟨s0, s1, s2, s3, s4⟩ := hSw; go_simp
    simp only [zA9, zB9, zC9]
    refine tKx (i := 4) (v := .slice (some ⟨gx, ox, none⟩) N c) rfl rfl (by kernel_rfl) (fun _ _ _ h => h) ?_ hH ?_
    ·intro w5 hSw; obtain ⟨s0, s1, s2, s3, s4⟩ := hSw; go_simp
    simp only [zA9, zB9, zC9]
    refine tKx (i := 5) (v := .int .i64 ((N : Int))) rfl rfl (by kernel_rfl) (fun _ _ _ h => h) ?_ hH ?_
    ·intro w5 hSw; obtain ⟨s0, s1, s2, s3, s4⟩ := hSw; go_simp
    simp only [zA9, zB9, zC9]
    refine tKx (i := 6) (v := .bool true) rfl rfl (by kernel_rfl) (fun _ _ _ h => h) ?_ hH ?_
    ·intro w5 hSw; obtain ⟨s0, s1, s2, s3, s4⟩ := hSw; go_simp
    simp only [zA9, zB9, zC9]
    refine tKx (i := 7) (v := .bool true) rfl rfl (by kernel_rfl) (fun _ _ _ h => h) ?_ hH ?_
    ·intro w5 hSw; obtain ⟨s0, s1, s2, s3, s4⟩ := hSw; go_simp
    simp only [zA9, zB9, zC9]
    refine tKx (i := 8) (v := .pointer (some ⟨d, 0, none⟩)) rfl rfl (by kernel_rfl) (fun _ _ _ h => h) ?_ hH ?_
    ·intro w5 hSw; obtain ⟨s0, s1, s2, s3, s4⟩ := hSw; go_simp
    simp only [zA9, zB9, zC9]
    refine tKx (i := 9) (v := .pointer (some ⟨d, 0, none⟩)) rfl rfl (by kernel_rfl) (fun _ _ _ h => h) ?_ hH ?_
    ·intro w5 hSw; obtain ⟨s0, s1, s2, s3, s4⟩ := hSw; go_simp
    simp only [zA9, zB9, zC9]
    refine tKx (i := 10) (v := .pointer (some ⟨d, 1, none⟩)) rfl rfl (by kernel_rfl) (fun _ _ _ h => h) ?_ hH ?_
    ·intro w5 hSw; obtain ⟨s0, s1, s2, s3, s4⟩ := hSw; go_simp
    simp only [zA9, zB9, zC9]
    refine tKx (i := 11) (v := .slice (some ⟨gx, ox, none⟩) N c) rfl rfl (by kernel_rfl) (fun _ _ _ h => h) ?_ hH ?_
    ·intro w5 hSw; obtain ⟨s0, s1, s2, s3, s4⟩ := hSw; go_simp
    simp only [zA9, zB9, zC9]
    refine tKx (i := 12) (v := .int .i64 ((k : Int))) rfl rfl (by kernel_rfl) (fun _ _ _ h => h) ?_ hH ?_
    ·intro w5 hSw; obtain ⟨s0, s1, s2, s3, s4⟩ := hSw; go_simp
    simp only [zA9, zB9, zC9]
    refine tKx (i := 13) (v := .pointer (some ⟨gx, ox + k * 2, none⟩)) rfl rfl (by kernel_rfl) (fun _ _ _ h => h) ?_ hH ?_
    ·intro w5 hSw; obtain ⟨s0, s1, s2, s3, s4⟩ := hSw; go_simp
    simp only [zA9, zB9, zC9]
    refine tKx (i := 14) (v := .agg #[.slice (some ⟨y.g, 0, none⟩) y.e.key.length y.c, .int .u64 y.e.id]) rfl rfl (by kernel_rfl) (fun _ _ _ h => h) ?_ hH ?_
    ·intro w5 hSw; obtain ⟨s0, s1, s2, s3, s4⟩ := hSw; go_simp
    simp only [zA9, zB9, zC9]
    refine tKx (i := 15) (v := .agg #[.slice px lx cx, .int .u64 ix]) rfl rfl (by kernel_rfl) (fun _ _ _ h => h) ?_ hH ?_
    ·intro w5 hSw; obtain ⟨s0, s1, s2, s3, s4⟩ := hSw; go_simp
    simp only [zA9, zB9, zC9]
    have KB := mkHid ((Below.refl wr.heap.size wr).drew)
    generalize hW0 : wr.drew = W0 at KB hH ⊢
    refine wpAnyH_ready (rs := [16]) (by kernel_rfl) (by simp) ?_
    refine AllReadyH.cons rfl (fun K hK => ?_) AllReadyH.nil
    ·go_simp
     go_at_call 44
     refine (CM.out _ (hb.out.trans (KB.out.mono hb.out.size))).mono ?_
     rintro e V1 ⟨rfl, hb2⟩
     go_wp2_with fail
     refine hK.out _ _ (KS.out _ (KB.out.trans (hb2.mono KB.out.size))) (fun hH => ?_)
     clear hK K
     replace KB := mkHid (KB.out.trans (hb2.mono KB.out.size))
     clear hb2
     refine tKx (i := 17) (v := .bool true) rfl rfl (by kernel_rfl) (fun _ _ _ h => h) ?_ hH ?_
     ·intro w5 hSw; obtain ⟨s0, s1, s2, s3, s4⟩ := hSw; go_simp
     simp only [zA9, zB9, zC9]
     refine tKx (i := 18) (v := .bool true) rfl rfl (by kernel_rfl) (fun _ _ _ h => h) ?_ hH ?_
     ·intro w5 hSw; obtain ⟨s0, s1, s2, s3, s4⟩ := hSw; go_simp
     simp only [zA9, zB9, zC9]
     refine wpAnyH_done (by kernel_rfl) ?_ _
     refine NoPanic.normal ?_
     have FN := mkHid (hb.out.trans (KB.out.mono hb.out.size))
     clear KB KS hH
     go_wp2_with fail
     go_roundw
     case rel => exact ⟨k + 1, by go_num, hlt, NX, FN⟩
     case measure => simp [intOf]; omega
   ·have FE : Hid (PL = k) := by
     show PL = k
     rw [HPL.out]
     exact place_is (by have := HN.out; omega) (fun j z hj hz => hI.out j z hj hz) (fun z hz => by rw [hy] at hz; cases hz; show ltE y.e x = false; rw [ltE_not, ← hR]; omega)
    clear cm hy hR hI CO BX HPL HN b0 b1 b2 c0 c1
    go_wp2_with fail
    refine wp_region_noPanic ?_
    refine wp_region_held_drew (S := fun w' : World => w'.cell? ⟨d, 1, none⟩ = some (.slice (some ⟨gx, ox, none⟩) N c) ∧ w'.cell? ⟨gx, ox + k * 2, none⟩ = some (.slice (some ⟨y.g, 0, none⟩) y.e.key.length y.c) ∧ w'.cell? ⟨gx, ox + k * 2 + 1, none⟩ = some (.int .u64 y.e.id) ∧ w'.cell? ⟨w.heap.size, 0, none⟩ = some (.slice px lx cx) ∧ w'.cell? ⟨w.heap.size, 1, none⟩ = some (.int .u64 ix)) (by kernel_rfl) (KS.out _ (Below.refl _ _).drew) (fun hH => ?_)
    refine tKx (i := 0) (v := .int .i64 ((k : Int))) rfl rfl (by kernel_rfl) (fun _ _ _ h => h) ?_ hH ?_
    ·intro w5 hSw; obtain ⟨s0, s1, s2, s3, s4⟩ := hSw; go_simp
    simp only [zA9, zB9, zC9]
    refine tKx (i := 1) (v := .pointer (some ⟨d, 0, none⟩)) rfl rfl (by kernel_rfl) (fun _ _ _ h => h) ?_ hH ?_
    ·intro w5 hSw; obtain ⟨s0, s1, s2, s3, s4⟩ := hSw; go_simp
    simp only [zA9, zB9, zC9]
    refine tKx (i := 2) (v := .pointer (some ⟨d, 0, none⟩)) rfl rfl (by kernel_rfl) (fun _ _ _ h => h) ?_ hH ?_
    ·intro w5 hSw; obtain ⟨s0, s1, s2, s3, s4⟩ := hSw; go_simp
    simp only [zA9, zB9, zC9]
    refine tKx (i := 3) (v := .pointer (some ⟨d, 1, none⟩)) rfl rfl (by kernel_rfl) (fun _ _ _ h => h) ?_ hH ?_
    ·intro w5 hSw; obtain ⟨s0, s1, s2, s3, s4⟩ := hSw; go_simp
    simp only [zA9, zB9, zC9]
    refine tKx (i := 4) (v := .slice (some ⟨gx, ox, none⟩) N c) rfl rfl (by kernel_rfl) (fun _ _ _ h => h) ?_ hH ?_
    ·intro w5 hSw; obtain ⟨s0, s1, s2, s3, s4⟩ := hSw; go_simp
    simp only [zA9, zB9, zC9]
    refine tKx (i := 5) (v := .int .i64 ((N : Int))) rfl rfl (by kernel_rfl) (fun _ _ _ h => h) ?_ hH ?_
    ·intro w5 hSw; obtain ⟨s0, s1, s2, s3, s4⟩ := hSw; go_simp
    simp only [zA9, zB9, zC9]
    refine tKx (i := 6) (v := .bool true) rfl rfl (by kernel_rfl) (fun _ _ _ h => h) ?_ hH ?_
    ·intro w5 hSw; obtain ⟨s0, s1, s2, s3, s4⟩ := hSw; go_simp
    simp only [zA9, zB9, zC9]
    refine tKx (i := 7) (v := .bool true) rfl rfl (by kernel_rfl) (fun _ _ _ h => h) ?_ hH ?_
    ·intro w5 hSw; obtain ⟨s0, s1, s2, s3, s4⟩ := hSw; go_simp
    simp only [zA9, zB9, zC9]
    refine tKx (i := 8) (v := .pointer (some ⟨d, 0, none⟩)) rfl rfl (by kernel_rfl) (fun _ _ _ h => h) ?_ hH ?_
    ·intro w5 hSw; obtain ⟨s0, s1, s2, s3, s4⟩ := hSw; go_simp
    simp only [zA9, zB9, zC9]
    refine tKx (i := 9) (v := .pointer (some ⟨d, 0, none⟩)) rfl rfl (by kernel_rfl) (fun _ _ _ h => h) ?_ hH ?_
    ·intro w5 hSw; obtain ⟨s0, s1, s2, s3, s4⟩ := hSw; go_simp
    simp only [zA9, zB9, zC9]
    refine tKx (i := 10) (v := .pointer (some ⟨d, 1, none⟩)) rfl rfl (by kernel_rfl) (fun _ _ _ h => h) ?_ hH ?_
    ·intro w5 hSw; obtain ⟨s0, s1, s2, s3, s4⟩ := hSw; go_simp
    simp only [zA9, zB9, zC9]
    refine tKx (i := 11) (v := .slice (some ⟨gx, ox, none⟩) N c) rfl rfl (by kernel_rfl) (fun _ _ _ h => h) ?_ hH ?_
    ·intro w5 hSw; obtain ⟨s0, s1, s2, s3, s4⟩ := hSw; go_simp
    simp only [zA9, zB9, zC9]
    refine tKx (i := 12) (v := .int .i64 ((k : Int))) rfl rfl (by kernel_rfl) (fun _ _ _ h => h) ?_ hH ?_
    ·intro w5 hSw; obtain ⟨s0, s1, s2, s3, s4⟩ := hSw; go_simp
    simp only [zA9, zB9, zC9]
    refine tKx (i := 13) (v := .pointer (some ⟨gx, ox + k * 2, none⟩)) rfl rfl (by kernel_rfl) (fun _ _ _ h => h) ?_ hH ?_
    ·intro w5 hSw; obtain ⟨s0, s1, s2, s3, s4⟩ := hSw; go_simp
    simp only [zA9, zB9, zC9]
    refine tKx (i := 14) (v := .agg #[.slice (some ⟨y.g, 0, none⟩) y.e.key.length y.c, .int .u64 y.e.id]) rfl rfl (by kernel_rfl) (fun _ _ _ h => h) ?_ hH ?_
    ·intro w5 hSw; obtain ⟨s0, s1, s2, s3, s4⟩ := hSw; go_simp
    simp only [zA9, zB9, zC9]
    refine tKx (i := 15) (v := .agg #[.slice px lx cx, .int .u64 ix]) rfl rfl (by kernel_rfl) (fun _ _ _ h => h) ?_ hH ?_
    ·intro w5 hSw; obtain ⟨s0, s1, s2, s3, s4⟩ := hSw; go_simp
    simp only [zA9, zB9, zC9]
    have KB := mkHid ((Below.refl wr.heap.size wr).drew)
    generalize hW0 : wr.drew = W0 at KB hH ⊢
    refine wpAnyH_ready (rs := [16]) (by kernel_rfl) (by simp) ?_
    refine AllReadyH.cons rfl (fun K hK => ?_) AllReadyH.nil
    ·go_simp
     go_at_call 44
     refine (CM.out _ (hb.out.trans (KB.out.mono hb.out.size))).mono ?_
     rintro e V1 ⟨rfl, hb2⟩
     go_wp2_with fail
     refine hK.out _ _ (KS.out _ (KB.out.trans (hb2.mono KB.out.size))) (fun hH => ?_)
     clear hK K
     replace KB := mkHid (KB.out.trans (hb2.mono KB.out.size))
     clear hb2
     refine tKx (i := 17) (v := .bool false) rfl rfl (by kernel_rfl) (fun _ _ _ h => h) ?_ hH ?_
     ·intro w5 hSw; obtain ⟨s0, s1, s2, s3, s4⟩ := hSw; go_simp
     simp only [zA9, zB9, zC9]
     refine tKx (i := 18) (v := .bool false) rfl rfl (by kernel_rfl) (fun _ _ _ h => h) ?_ hH ?_
     ·intro w5 hSw; obtain ⟨s0, s1, s2, s3, s4⟩ := hSw; go_simp
     simp only [zA9, zB9, zC9]
     refine wpAnyH_done (by kernel_rfl) ?_ _
     refine NoPanic.normal ?_
     have FN := BB.out.trans ((hb.out.trans (KB.out.mono hb.out.size)).mono BB.out.size)
     clear KB KS hH
     go_wp2_with fail
     go_ret
     exact ⟨by rw [FE.out]; rfl, FN⟩
  ·obtain rfl : k = N := by omega
   have FE : Hid (PL = k) := by
    show PL = k
    rw [HPL.out]
    exact place_is (by have := HN.out; omega) (fun j z hj hz => hI.out j z hj hz) (fun z hz => by have := (List.getElem?_eq_some_iff.1 hz).1; have := HN.out; omega)
   have KS : Hid (∀ w', Below wr.heap.size wr w' → w'.cell? ⟨d, 1, none⟩ = some (.slice p k c)) := fun w' hb2 => (hb2.cell (p := ⟨d, 1, none⟩) b3).trans b2
   clear hI CO BX HPL HN b0 b1 b2
   go_wp2_with fail
   refine wp_region_noPanic ?_
   refine wp_region_held_drew (S := fun w' : World => w'.cell? ⟨d, 1, none⟩ = some (.slice p k c)) (by kernel_rfl) (KS.out _ (Below.refl _ _).drew) (fun hH => ?_)
   refine tKx (i := 0) (v := .int .i64 ((k : Int))) rfl rfl (by kernel_rfl) (fun _ _ _ h => h) ?_ hH ?_
   ·intro w5 hSw; go_simp
   simp only [zA9, zB9, zC9]
   refine tKx (i := 1) (v := .pointer (some ⟨d, 0, none⟩)) rfl rfl (by kernel_rfl) (fun _ _ _ h => h) ?_ hH ?_
   ·intro w5 hSw; go_simp
   simp only [zA9, zB9, zC9]
   refine tKx (i := 2) (v := .pointer (some ⟨d, 0, none⟩)) rfl rfl (by kernel_rfl) (fun _ _ _ h => h) ?_ hH ?_
   ·intro w5 hSw; go_simp
   simp only [zA9, zB9, zC9]
   refine tKx (i := 3) (v := .pointer (some ⟨d, 1, none⟩)) rfl rfl (by kernel_rfl) (fun _ _ _ h => h) ?_ hH ?_
   ·intro w5 hSw; go_simp
   simp only [zA9, zB9, zC9]
   refine tKx (i := 4) (v := .slice p k c) rfl rfl (by kernel_rfl) (fun _ _ _ h => h) ?_ hH ?_
   ·intro w5 hSw; go_simp
   simp only [zA9, zB9, zC9]
   refine tKx (i := 5) (v := .int .i64 ((k : Int))) rfl rfl (by kernel_rfl) (fun _ _ _ h => h) ?_ hH ?_
   ·intro w5 hSw; go_simp
   simp only [zA9, zB9, zC9]
   refine tKx (i := 6) (v := .bool false) rfl rfl (by kernel_rfl) (fun _ _ _ h => h) ?_ hH ?_
   ·intro w5 hSw; go_simp
   simp only [zA9, zB9, zC9]
   refine tKx (i := 7) (v := .bool false) rfl rfl (by kernel_rfl) (fun _ _ _ h => h) ?_ hH ?_
   ·intro w5 hSw; go_simp
   simp only [zA9, zB9, zC9]
   refine take_at (i := 8) (v := undef) rfl rfl (by kernel_rfl) (by kernel_rfl) (by kernel_rfl) (fun _ _ _ h => h) (Or.inr ⟨by rfl, rfl⟩) hH ?_
   simp only [zA9, zB9, zC9]
   refine take_at (i := 9) (v := undef) rfl rfl (by kernel_rfl) (by kernel_rfl) (by kernel_rfl) (fun _ _ _ h => h) (Or.inr ⟨by rfl, rfl⟩) hH ?_
   simp only [zA9, zB9, zC9]
   refine take_at (i := 10) (v := undef) rfl rfl (by kernel_rfl) (by kernel_rfl) (by kernel_rfl) (fun _ _ _ h => h) (Or.inr ⟨by rfl, rfl⟩) hH ?_
   simp only [zA9, zB9, zC9]
   refine take_at (i := 11) (v := undef) rfl rfl (by kernel_rfl) (by kernel_rfl) (by kernel_rfl) (fun _ _ _ h => h) (Or.inr ⟨by rfl, rfl⟩) hH ?_
   simp only [zA9, zB9, zC9]
   refine take_at (i := 12) (v := undef) rfl rfl (by kernel_rfl) (by kernel_rfl) (by kernel_rfl) (fun _ _ _ h => h) (Or.inr ⟨by rfl, rfl⟩) hH ?_
   simp only [zA9, zB9, zC9]
   refine take_at (i := 13) (v := undef) rfl rfl (by kernel_rfl) (by kernel_rfl) (by kernel_rfl) (fun _ _ _ h => h) (Or.inr ⟨by rfl, rfl⟩) hH ?_
   simp only [zA9, zB9, zC9]
   refine take_at (i := 14) (v := undef) rfl rfl (by kernel_rfl) (by kernel_rfl) (by kernel_rfl) (fun _ _ _ h => h) (Or.inr ⟨by rfl, rfl⟩) hH ?_
   simp only [zA9, zB9, zC9]
   refine take_at (i := 15) (v := undef) rfl rfl (by kernel_rfl) (by kernel_rfl) (by kernel_rfl) (fun _ _ _ h => h) (Or.inr ⟨by rfl, rfl⟩) hH ?_
   simp only [zA9, zB9, zC9]
   refine take_at (i := 16) (v := undef) rfl rfl (by kernel_rfl) (by kernel_rfl) (by kernel_rfl) (fun _ _ _ h => h) (Or.inr ⟨by rfl, rfl⟩) hH ?_
   simp only [zA9, zB9, zC9]
   refine take_at (i := 17) (v := undef) rfl rfl (by kernel_rfl) (by kernel_rfl) (by kernel_rfl) (fun _ _ _ h => h) (Or.inr ⟨by rfl, rfl⟩) hH ?_
   simp only [zA9, zB9, zC9]
   refine tKx (i := 18) (v := .bool false) rfl rfl (by kernel_rfl) (fun _ _ _ h => h) ?_ hH ?_
   ·intro w5 hSw; go_simp
   simp only [zA9, zB9, zC9]
   have KB := mkHid ((Below.refl wr.heap.size wr).drew)
   generalize hW0 : wr.drew = W0 at KB hH ⊢
   refine wpAnyH_done (by kernel_rfl) ?_ _
   refine NoPanic.normal ?_
   have FN := BB.out.trans ((hb.out.trans (KB.out.mono hb.out.size)).mono BB.out.size)
   clear KB KS hH
   go_wp2_with fail
   go_ret
   exact ⟨by rw [FE.out]; rfl, FN⟩
set_option maxHeartbeats 3000000 in
set_option maxRecDepth 1000000 in
theorem docDrop_off (T : Nat → Prop) (x : En) (q : Option Addr) (cx dd : Nat) (u : Bool) (D : List Em) (PD : Option Addr) (ND CD : Nat) (w : World) (hd : DocIn T w dd u D (.slice PD ND CD)) (zD : ND ≤ 100000) (hx : EnOff w q x) (hT : ∀ b, w.heap.size ≤ b → T b) (ho : ¬ T dd) :
  Calls Tryz.prog 19 #[.pointer (some ⟨dd, 0, none⟩), .slice q x.key.length cx, .int .u64 x.id] w fun e w' => DdQ T w dd u D x e w' := by
 obtain ⟨hND, hNC, hP0, hPs⟩ := doc_row hd
 obtain ⟨w0, hw0⟩ : ∃ w0, w0 = w.alloc (.cells #[.slice q x.key.length cx, .int .u64 x.id] 54) := ⟨_, rfl⟩
 have b0 : Below w.heap.size w w0 := by rw [hw0]; exact (Below.refl _ w).alloc (Nat.le_refl _) _
 have d0 : w0.heap[w.heap.size]? = some (.cells #[.slice q x.key.length cx, .int .u64 x.id] 54 (0, 0)) := by rw [hw0]; exact heap_alloc_new _ _
 obtain ⟨A, hA⟩ : ∃ A, A = place ltM (tgt x) D := ⟨_, rfl⟩
 have hAl : A ≤ ND := by rw [hA, hND]; exact place_le _ _ _
 have AT : Hid (Calls Tryz.prog 36 #[.pointer (some ⟨dd, 0, none⟩), .agg #[.slice q x.key.length cx, .int .u64 x.id]] w0 fun e w' => e = .returned (.int .i64 (A : Int)) ∧ Below w0.heap.size w0 w') := by
  rw [hA]
  exact at_off T dd u D PD ND CD x q cx w0 (hd.below b0) hND (by omega) (hx.below b0)
 have B0 := mkHid b0
 have HD := mkHid hd
 have HX := mkHid hx
 have HT := mkHid hT
 have HO := mkHid ho
 have HND := mkHid hND
 have HAA := mkHid hA
 have D0 := mkHid d0
 have c0 : w0.cell? ⟨w.heap.size, 0, none⟩ = some (.slice q x.key.length cx) := (cell_of_block d0 0).trans rfl
 have c1 : w0.cell? ⟨w.heap.size, 1, none⟩ = some (.int .u64 x.id) := (cell_of_block d0 1).trans rfl
 have i1 : (0 : Int) ≤ (A : Int) := by omega
 have i3 : (A : Int) ≤ (ND : Int) := by omega
 have FINAL : Hid (∀ e w', DdQ T w dd u D x e w' → DdQ T w dd u D x e w') := fun _ _ h => h
 obtain ⟨lx, hlx⟩ : ∃ l, l = x.key.length := ⟨_, rfl⟩
 obtain ⟨ix, hix⟩ : ∃ i, i = x.id := ⟨_, rfl⟩
 rw [← hlx] at c0
 rw [← hix] at c1
 rw [← hlx, ← hix] at AT D0 hw0 ⊢
 have HW := mkHid hw0
 have HLX := mkHid hlx
 have HIX := mkHid hix
 clear hd hx hT ho hND hw0 b0 d0 hA hlx hix
 go_enter Tryz.func19, Tryz.ntmps19
 go_wp2_with fail
 rw [← HW.out]
 clear HW
 go_wp2_with (go_at_call 36; refine AT.out.mono ?_; rintro e w4 ⟨rfl, b4⟩)
 have BW4 : Hid (Below w.heap.size w w4) := B0.out.trans (b4.mono B0.out.size)
 have M4 := mkHid ((b4.block _ (lt_of_heap D0.out)).trans D0.out)
 have HD4 := mkHid (HD.out.below BW4.out)
 clear c0 c1 D0 AT b4
 have U : Hid (∀ W, Below w4.heap.size w4 W → W.cell? ⟨dd, 1, none⟩ = some (.slice PD ND CD) ∧ W.frozen? ⟨dd, 1, none⟩ = false ∧ W.cell? ⟨w.heap.size, 0, none⟩ = some (.slice q lx cx) ∧ W.cell? ⟨w.heap.size, 1, none⟩ = some (.int .u64 ix)) := fun W hW => by
  have h1 := (HD4.out.below hW).box
  have h2 := (hW.block _ (lt_of_heap M4.out)).trans M4.out
  exact ⟨(cell_of_block h1 1).trans rfl, unfrozen_of_block h1 1, (cell_of_block h2 0).trans rfl, (cell_of_block h2 1).trans rfl⟩
 by_cases hlt : A < ND
 ·obtain ⟨y, hy⟩ : ∃ y, D[A]? = some y := ⟨_, List.getElem?_eq_getElem (by have := HND.out; omega)⟩
  obtain ⟨gx, ox, rfl, hgx, hcs⟩ : ∃ gx ox, PD = some ⟨gx, ox, none⟩ ∧ gx < w4.heap.size ∧ ∀ j u, (fl emE D)[j]? = some u → w4.cell? ⟨gx, ox + j, none⟩ = some u := by
   cases PD with
   | none => have := (hP0 rfl).1; omega
   | some ad => exact (doc_row HD4.out).2.2.2 ad rfl |>.elim fun gx h => h.elim fun ox h => ⟨gx, ox, by rw [h.1], h.2⟩
  have KS : Hid (∀ W, Below w4.heap.size w4 W → (fun w' : World => w'.cell? ⟨dd, 1, none⟩ = some (.slice (some ⟨gx, ox, none⟩) ND CD) ∧ w'.cell? ⟨gx, ox + A * 2, none⟩ = some (.slice (some ⟨y.g, 0, none⟩) y.e.key.length y.c) ∧ w'.cell? ⟨gx, ox + A * 2 + 1, none⟩ = some (.int .u64 y.e.id) ∧ w'.cell? ⟨w.heap.size, 0, none⟩ = some (.slice q lx cx) ∧ w'.cell? ⟨w.heap.size, 1, none⟩ = some (.int .u64 ix)) W) := fun W hW => by
   obtain ⟨u0, _, u2, u3⟩ := U.out W hW
   obtain ⟨e0, e1, _, _⟩ := (HD4.out.below hW).entry hy
   exact ⟨u0, e0, e1, u2, u3⟩
  have CM : Hid (∀ W, Below w4.heap.size w4 W → Calls Tryz.prog 44 #[.agg #[.slice (some ⟨y.g, 0, none⟩) y.e.key.length y.c, .int .u64 y.e.id], .agg #[.slice q lx cx, .int .u64 ix]] W fun en w' => en = .returned (.int .i64 (ordE y.e x)) ∧ Below W.heap.size W w') := fun W hW => by
   have ky := ((HD4.out.below hW).keys y (List.mem_of_getElem? hy))
   rw [HLX.out, HIX.out]
   exact docOrder_off _ _ y.c cx y.e x W (by have := ky.few; omega) ky.at_ (HX.out.below (BW4.out.trans (hW.mono BW4.out.size))).row HX.out.fits
  have AB : Hid (atB x D = decide (ordE y.e x = 0)) := by
   show atB x D = _
   unfold atB
   rw [← HAA.out, hy]
  have FIN : Hid (∀ W w9 p9 n9 c9, ordE y.e x = 0 → Below w4.heap.size w4 W → n9 = D.length - 1 → Below W.heap.size W w9 → shr w9 54 2 (.slice p9 n9 c9) n9 (fl emE (D.take A ++ D.drop (A + 1))) → fresh (.slice p9 n9 c9) W.heap.size → DdQ T w dd u D x (.returned (.bool true)) (w9.setCell ⟨dd, 1, none⟩ (.slice p9 n9 c9))) := fun W w9 p9 n9 c9 h0 bW hn b9' s9 f9' => by
   subst hn
   have b9 : Below w4.heap.size w4 w9 := bW.trans (b9'.mono bW.size)
   have f9 : fresh (.slice p9 (D.length - 1) c9) w4.heap.size := fun b hb => Nat.le_trans bW.size (f9' b hb)
   have bx := (HD4.out.below b9).box
   have hcg : Chg (fun b => b = dd) w (w9.setCell ⟨dd, 1, none⟩ (.slice p9 (D.length - 1) c9)) := chg_set ((show Chg (fun b => b = dd) w w4 from chg_bl BW4.out).trans (chg_bl b9)) ⟨dd, 1, none⟩ _ rfl
   have hk9 : Keeps T w4 (w9.setCell ⟨dd, 1, none⟩ (.slice p9 (D.length - 1) c9)) := (Keeps.of_below b9).trans (Keeps.set _ HO.out)
   refine Or.inr ⟨by rw [AB.out, h0]; rfl, rfl, p9, c9, ⟨heap_set_in bx, ?_, fun z hz => ?_⟩, hcg⟩
   ·rw [← HAA.out]
    have hl : (D.take A ++ D.drop (A + 1)).length = D.length - 1 := by rw [List.length_append, List.length_take, List.length_drop]; have := HND.out; omega
    rw [hl]
    refine ⟨s9.kept (Chg.of_cell _ _ _) (fun b hb e => ?_), fun b hb => HT.out b (Nat.le_trans BW4.out.size (f9 b hb))⟩
    have := f9 b hb
    have := lt_of_heap HD4.out.box
    change b = dd at e
    omega
   ·rw [← HAA.out, List.mem_append] at hz
    rcases hz with hz | hz
    ·exact (HD4.out.keys z (List.mem_of_mem_take hz)).keeps hk9
    ·exact (HD4.out.keys z (List.mem_of_mem_drop hz)).keeps hk9
  have i4 : (A : Int) < (ND : Int) := by omega
  have i5 : ((A : Int) == (ND : Int)) = false := by rw [beq_eq_false_iff_ne]; omega
  have i6 : (A : Int) + 1 ≤ (CD : Int) := by omega
  have i7 : (A : Int) + 1 ≤ (ND : Int) := by omega
  have i8 : A ≤ 100000 := by omega
  have i10 : (0 : Int) ≤ (A : Int) + 1 := by omega
  have i11 : (A : Int) ≤ (CD : Int) := by omega
  have i12 : IntKind.i64.wrap ((A : Int) + 1) = (A : Int) + 1 := by simp [IntKind.wrap, IntKind.bits, IntKind.signed]; omega
  have i9 : (ND : Int) ≤ (CD : Int) := by omega
  obtain ⟨VX, hVX⟩ : ∃ V, V = if CD = A + 1 then some (⟨gx, ox, none⟩ : Addr) else some ⟨gx, ox + (A + 1) * 2, none⟩ := ⟨_, rfl⟩
  have hVs : VX ≠ none := by rw [hVX]; split <;> exact fun h => by cases h
  have HVX := mkHid hVX
  have ROWS : Hid (∀ W, Below w4.heap.size w4 W → ∃ p6 c6 w6 p9 c9 w9 n9, n9 = D.length - 1 ∧ (∀ ty, (Builtin.append_ #[26, 26] ty #[.slice (some ⟨W.heap.size, 0, none⟩) 0 0, .slice (some ⟨gx, ox, none⟩) A CD]).run Tryz.prog (W.alloc (.cells #[] 54)) = .ok (.slice p6 A c6) w6) ∧
   (∀ ty, (Builtin.append_ #[26, 26] ty #[.slice p6 A c6, .slice VX (ND - (A + 1)) (CD - (A + 1))]).run Tryz.prog w6 = .ok (.slice p9 n9 c9) w9) ∧ shr w9 54 2 (.slice p9 n9 c9) n9 (fl emE (D.take A ++ D.drop (A + 1))) ∧ fresh (.slice p9 n9 c9) W.heap.size ∧ Below W.heap.size W w6 ∧ Below W.heap.size W w9) := fun W0 hW0 =>
   drop_rows W0 D A ND CD (CD - (A + 1)) (some ⟨gx, ox, none⟩) VX HND.out hlt zD (fun h => by cases h) (fun h => absurd h hVs)
    (fun W hW ad h j u hj => by
     cases h
     rw [add_plain]
     have hj' : (fl emE D)[j]? = some u := by
      have hlt := (List.getElem?_eq_some_iff.1 hj).1
      rw [← fl_take emE_len, List.getElem?_take] at hj
      split at hj
      ·exact hj
      ·cases hj
     exact ((hW0.trans (hW.mono hW0.size)).cell (p := ⟨gx, ox + j, none⟩) hgx).trans (hcs j u hj'))
    (fun W hW ad h j u hj => by
     have hj' : (fl emE D)[(A + 1) * 2 + j]? = some u := by rw [← fl_drop emE_len, List.getElem?_drop] at hj; exact hj
     by_cases hCA : CD = A + 1
     ·have := (List.getElem?_eq_some_iff.1 hj').1
      rw [fl_len (s := 2) emE_len] at this
      have := HND.out
      omega
     ·rw [HVX.out, if_neg hCA] at h
      cases h
      rw [add_plain, Nat.add_assoc]
      exact ((hW0.trans (hW.mono hW0.size)).cell (p := ⟨gx, ox + ((A + 1) * 2 + j), none⟩) hgx).trans (hcs _ u hj'))
  clear hP0 hPs hcs hgx hVs hVX hy HD HD4 M4 HX HO HT HAA
  by_cases h0 : ordE y.e x = 0
  ·rw [h0] at CM
   go_wp2_with fail
   refine wp_region_noPanic ?_
   refine wp_region_held_drew (S := fun w' : World => w'.cell? ⟨dd, 1, none⟩ = some (.slice (some ⟨gx, ox, none⟩) ND CD) ∧ w'.cell? ⟨gx, ox + A * 2, none⟩ = some (.slice (some ⟨y.g, 0, none⟩) y.e.key.length y.c) ∧ w'.cell? ⟨gx, ox + A * 2 + 1, none⟩ = some (.int .u64 y.e.id) ∧ w'.cell? ⟨w.heap.size, 0, none⟩ = some (.slice q lx cx) ∧ w'.cell? ⟨w.heap.size, 1, none⟩ = some (.int .u64 ix)) (by kernel_rfl) (KS.out _ (Below.refl _ _).drew) (fun hH => ?_)
   refine tKx (i := 0) (v := .int .i64 (A : Int)) rfl rfl (by kernel_rfl) (fun _ _ _ h => h) ?_ hH ?_
   ·intro w5 hSw; obtain ⟨s0, s1, s2, s3, s4⟩ := hSw; go_simp
   simp only [zA9, zB9, zC9]
   refine tKx (i := 1) (v := .pointer (some ⟨dd, 0, none⟩)) rfl rfl (by kernel_rfl) (fun _ _ _ h => h) ?_ hH ?_
   ·intro w5 hSw; obtain ⟨s0, s1, s2, s3, s4⟩ := hSw; go_simp
   simp only [zA9, zB9, zC9]
   refine tKx (i := 2) (v := .pointer (some ⟨dd, 0, none⟩)) rfl rfl (by kernel_rfl) (fun _ _ _ h => h) ?_ hH ?_
   ·intro w5 hSw; obtain ⟨s0, s1, s2, s3, s4⟩ := hSw; go_simp
   simp only [zA9, zB9, zC9]
   refine tKx (i := 3) (v := .pointer (some ⟨dd, 1, none⟩)) rfl rfl (by kernel_rfl) (fun _ _ _ h => h) ?_ hH ?_
   ·intro w5 hSw; obtain ⟨s0, s1, s2, s3, s4⟩ := hSw; go_simp
   simp only [zA9, zB9, zC9]
   refine tKx (i := 4) (v := .slice (some ⟨gx, ox, none⟩) ND CD) rfl rfl (by kernel_rfl) (fun _ _ _ h => h) ?_ hH ?_
   ·intro w5 hSw; obtain ⟨s0, s1, s2, s3, s4⟩ := hSw; go_simp
   simp only [zA9, zB9, zC9]
   refine tKx (i := 5) (v := .int .i64 (ND : Int)) rfl rfl (by kernel_rfl) (fun _ _ _ h => h) ?_ hH ?_
   ·intro w5 hSw; obtain ⟨s0, s1, s2, s3, s4⟩ := hSw; go_simp
   simp only [zA9, zB9, zC9]
   refine tKx (i := 6) (v := .bool false) rfl rfl (by kernel_rfl) (fun _ _ _ h => h) ?_ hH ?_
   ·intro w5 hSw; obtain ⟨s0, s1, s2, s3, s4⟩ := hSw; go_simp
   simp only [zA9, zB9, zC9]
   refine tKx (i := 7) (v := .bool false) rfl rfl (by kernel_rfl) (fun _ _ _ h => h) ?_ hH ?_
   ·intro w5 hSw; obtain ⟨s0, s1, s2, s3, s4⟩ := hSw; go_simp
   simp only [zA9, zB9, zC9]
   refine tKx (i := 8) (v := .pointer (some ⟨dd, 0, none⟩)) rfl rfl (by kernel_rfl) (fun _ _ _ h => h) ?_ hH ?_
   ·intro w5 hSw; obtain ⟨s0, s1, s2, s3, s4⟩ := hSw; go_simp
   simp only [zA9, zB9, zC9]
   refine tKx (i := 9) (v := .pointer (some ⟨dd, 0, none⟩)) rfl rfl (by kernel_rfl) (fun _ _ _ h => h) ?_ hH ?_
   ·intro w5 hSw; obtain ⟨s0, s1, s2, s3, s4⟩ := hSw; go_simp
   simp only [zA9, zB9, zC9]
   refine tKx (i := 10) (v := .pointer (some ⟨dd, 1, none⟩)) rfl rfl (by kernel_rfl) (fun _ _ _ h => h) ?_ hH ?_
   ·intro w5 hSw; obtain ⟨s0, s1, s2, s3, s4⟩ := hSw; go_simp
   simp only [zA9, zB9, zC9]
   refine tKx (i := 11) (v := .slice (some ⟨gx, ox, none⟩) ND CD) rfl rfl (by kernel_rfl) (fun _ _ _ h => h) ?_ hH ?_
   ·intro w5 hSw; obtain ⟨s0, s1, s2, s3, s4⟩ := hSw; go_simp
   simp only [zA9, zB9, zC9]
   refine tKx (i := 12) (v := .int .i64 (A : Int)) rfl rfl (by kernel_rfl) (fun _ _ _ h => h) ?_ hH ?_
   ·intro w5 hSw; obtain ⟨s0, s1, s2, s3, s4⟩ := hSw; go_simp
   simp only [zA9, zB9, zC9]
   refine tKx (i := 13) (v := .pointer (some ⟨gx, ox + A * 2, none⟩)) rfl rfl (by kernel_rfl) (fun _ _ _ h => h) ?_ hH ?_
   ·intro w5 hSw; obtain ⟨s0, s1, s2, s3, s4⟩ := hSw; go_simp
   simp only [zA9, zB9, zC9]
   refine tKx (i := 14) (v := .agg #[.slice (some ⟨y.g, 0, none⟩) y.e.key.length y.c, .int .u64 y.e.id]) rfl rfl (by kernel_rfl) (fun _ _ _ h => h) ?_ hH ?_
   ·intro w5 hSw; obtain ⟨s0, s1, s2, s3, s4⟩ := hSw; go_simp
   simp only [zA9, zB9, zC9]
   refine tKx (i := 15) (v := .agg #[.slice q lx cx, .int .u64 ix]) rfl rfl (by kernel_rfl) (fun _ _ _ h => h) ?_ hH ?_
   ·intro w5 hSw; obtain ⟨s0, s1, s2, s3, s4⟩ := hSw; go_simp
   simp only [zA9, zB9, zC9]
   refine wpAnyH_ready (rs := [16]) (by kernel_rfl) (by simp) ?_
   refine AllReadyH.cons rfl (fun K hK => ?_) AllReadyH.nil
   go_simp
   go_at_call 44
   refine (CM.out w4.drew (Below.refl _ _).drew).mono ?_
   rintro e V1 ⟨rfl, hb2⟩
   go_wp2_with fail
   refine hK.out _ _ (KS.out _ ((Below.refl _ _).drew.trans hb2)) (fun hH => ?_)
   clear hK K
   refine tKx (i := 17) (v := .bool false) rfl rfl (by kernel_rfl) (fun _ _ _ h => h) ?_ hH ?_
   ·intro w5 hSw; obtain ⟨s0, s1, s2, s3, s4⟩ := hSw; go_simp
   simp only [zA9, zB9, zC9]
   refine tKx (i := 18) (v := .bool false) rfl rfl (by kernel_rfl) (fun _ _ _ h => h) ?_ hH ?_
   ·intro w5 hSw; obtain ⟨s0, s1, s2, s3, s4⟩ := hSw; go_simp
   simp only [zA9, zB9, zC9]
   refine wpAnyH_done (by kernel_rfl) ?_ _
   refine NoPanic.normal ?_
   have BV : Hid (Below w4.heap.size w4 V1.drew) := ((Below.refl _ w4).drew.trans hb2).drew
   clear hb2 hH KS CM
   go_wp2_with fail
   obtain ⟨p6, c6, w6, p9, c9, w9, n9, e9, r6, r9, s9, f9, b6, b9⟩ := ROWS.out V1.drew BV.out
   have F9 := mkHid (FIN.out V1.drew w9 p9 n9 c9 h0 BV.out e9 b9 s9 f9)
   obtain ⟨a1, _, _, _⟩ := U.out V1.drew BV.out
   obtain ⟨a2, _, _, _⟩ := U.out (V1.drew.alloc (.cells #[] 54)) (BV.out.alloc BV.out.size _)
   obtain ⟨a3, _, _, _⟩ := U.out w6 (BV.out.trans (b6.mono BV.out.size))
   obtain ⟨a4, a5, _, _⟩ := U.out w9 (BV.out.trans (b9.mono BV.out.size))
   clear FIN s9 f9 e9 U b6 b9 ROWS h0 AB
   generalize hV : V1.drew = V2 at *
   refine wp_region_noPanic ?_
   refine wp_region_held_drew (S := fun _ => True) (by kernel_rfl) trivial (fun hH => ?_)
   rw [hV]
   refine tKx (i := 0) (v := .pointer (some ⟨dd, 0, none⟩)) rfl rfl (by kernel_rfl) (fun _ _ _ h => h) ?_ hH ?_
   ·intro w5 hSw; go_simp
   simp only [zA9, zB9, zC9]
   refine tKx (i := 2) (v := .pointer (some ⟨dd, 0, none⟩)) rfl rfl (by kernel_rfl) (fun _ _ _ h => h) ?_ hH ?_
   ·intro w5 hSw; go_simp
   simp only [zA9, zB9, zC9]
   refine tKx (i := 3) (v := .pointer (some ⟨dd, 0, none⟩)) rfl rfl (by kernel_rfl) (fun _ _ _ h => h) ?_ hH ?_
   ·intro w5 hSw; go_simp
   simp only [zA9, zB9, zC9]
   refine tKx (i := 4) (v := .pointer (some ⟨dd, 1, none⟩)) rfl rfl (by kernel_rfl) (fun _ _ _ h => h) ?_ hH ?_
   ·intro w5 hSw; go_simp
   simp only [zA9, zB9, zC9]
   refine tKx (i := 6) (v := .int .i64 (A : Int)) rfl rfl (by kernel_rfl) (fun _ _ _ h => h) ?_ hH ?_
   ·intro w5 hSw; go_simp
   simp only [zA9, zB9, zC9]
   refine tKx (i := 9) (v := .pointer (some ⟨dd, 0, none⟩)) rfl rfl (by kernel_rfl) (fun _ _ _ h => h) ?_ hH ?_
   ·intro w5 hSw; go_simp
   simp only [zA9, zB9, zC9]
   refine tKx (i := 10) (v := .pointer (some ⟨dd, 0, none⟩)) rfl rfl (by kernel_rfl) (fun _ _ _ h => h) ?_ hH ?_
   ·intro w5 hSw; go_simp
   simp only [zA9, zB9, zC9]
   refine tKx (i := 11) (v := .pointer (some ⟨dd, 1, none⟩)) rfl rfl (by kernel_rfl) (fun _ _ _ h => h) ?_ hH ?_
   ·intro w5 hSw; go_simp
   simp only [zA9, zB9, zC9]
   refine tKx (i := 13) (v := .int .i64 (A : Int)) rfl rfl (by kernel_rfl) (fun _ _ _ h => h) ?_ hH ?_
   ·intro w5 hSw; go_simp
   simp only [zA9, zB9, zC9]
   refine tKx (i := 14) (v := .int .i64 ((A + 1 : Nat) : Int)) rfl rfl (by kernel_rfl) (fun _ _ _ h => h) ?_ hH ?_
   ·intro w5 hSw; go_simp
   simp only [zA9, zB9, zC9]
   refine wpAnyH_ready (rs := [1, 5, 12]) (by kernel_rfl) (by simp) ?_
   refine AllReadyH.cons rfl (fun K hK => ?_) (AllReadyH.cons rfl (fun K hK => ?_) (AllReadyH.cons rfl (fun K hK => ?_) AllReadyH.nil))
   ·go_simp
    refine hK.out _ _ trivial (fun hH => ?_)
    clear hK K
    refine wpAnyH_ready (rs := [5, 12]) (by kernel_rfl) (by simp) ?_
    refine AllReadyH.cons rfl (fun K hK => ?_) (AllReadyH.cons rfl (fun K hK => ?_) AllReadyH.nil)
    ·go_simp
     refine hK.out _ _ trivial (fun hH => ?_)
     clear hK K
     refine tKx (i := 7) (v := .slice (some ⟨gx, ox, none⟩) A CD) rfl rfl (by kernel_rfl) (fun _ _ _ h => h) ?_ hH ?_
     ·intro w5 hSw; go_simp
     simp only [zA9, zB9, zC9]
     refine wpAnyH_ready (rs := [8, 12]) (by kernel_rfl) (by simp) ?_
     refine AllReadyH.cons rfl (fun K hK => ?_) (AllReadyH.cons rfl (fun K hK => ?_) AllReadyH.nil)
     ·refine step_appq 26 rfl (.tmp 35) (.tmp 41) rfl rfl rfl r6 ?_
      refine hK.out _ _ trivial (fun hH => ?_)
      clear hK K
      go_simp
      refine wpAnyH_ready (rs := [12]) (by kernel_rfl) (by simp) ?_
      refine AllReadyH.cons rfl (fun K hK => ?_) AllReadyH.nil
      ·go_simp
       refine hK.out _ _ trivial (fun hH => ?_)
       clear hK K
       refine tKx (i := 15) (v := .slice VX (ND - (A + 1)) (CD - (A + 1))) rfl rfl (by kernel_rfl) (fun _ _ _ h => h) ?_ hH ?_
       ·intro w5 hSw
        have hv := HVX.out
        by_cases hcb : CD = A + 1
        ·rw [if_pos hcb] at hv; rw [hv]; go_simp
        ·rw [if_neg hcb] at hv; rw [hv]; go_simp
       simp only [zA9, zB9, zC9]
       refine wpAnyH_ready (rs := [16]) (by kernel_rfl) (by simp) ?_
       refine AllReadyH.cons rfl (fun K hK => ?_) AllReadyH.nil
       ·refine step_appq 26 rfl (.tmp 42) (.tmp 49) rfl rfl rfl r9 ?_
        refine hK.out _ _ trivial (fun hH => ?_)
        clear hK K
        go_simp
        refine tKx (i := 17) (v := .pointer (some ⟨dd, 0, none⟩)) rfl rfl (by kernel_rfl) (fun _ _ _ h => h) ?_ hH ?_
        ·intro w5 hSw; go_simp
        simp only [zA9, zB9, zC9]
        refine tKx (i := 18) (v := .pointer (some ⟨dd, 1, none⟩)) rfl rfl (by kernel_rfl) (fun _ _ _ h => h) ?_ hH ?_
        ·intro w5 hSw; go_simp
        simp only [zA9, zB9, zC9]
        refine wpAnyH_ready (rs := [19]) (by kernel_rfl) (by simp) ?_
        refine AllReadyH.cons rfl (fun K hK => ?_) AllReadyH.nil
        go_simp
        refine hK.out _ _ trivial (fun hH => ?_)
        clear hK K
        refine wpAnyH_done (by kernel_rfl) ?_ _
        refine NoPanic.normal ?_
        go_wp2_with fail
        go_ret
        exact F9.out
     ·go_simp
      refine hK.out _ _ trivial (fun hH => ?_)
      clear hK K
      refine tKx (i := 15) (v := .slice VX (ND - (A + 1)) (CD - (A + 1))) rfl rfl (by kernel_rfl) (fun _ _ _ h => h) ?_ hH ?_
      ·intro w5 hSw
       have hv := HVX.out
       by_cases hcb : CD = A + 1
       ·rw [if_pos hcb] at hv; rw [hv]; go_simp
       ·rw [if_neg hcb] at hv; rw [hv]; go_simp
      simp only [zA9, zB9, zC9]
      refine wpAnyH_ready (rs := [8]) (by kernel_rfl) (by simp) ?_
      refine AllReadyH.cons rfl (fun K hK => ?_) AllReadyH.nil
      ·refine step_appq 26 rfl (.tmp 35) (.tmp 41) rfl rfl rfl r6 ?_
       refine hK.out _ _ trivial (fun hH => ?_)
       clear hK K
       go_simp
       refine wpAnyH_ready (rs := [16]) (by kernel_rfl) (by simp) ?_
       refine AllReadyH.cons rfl (fun K hK => ?_) AllReadyH.nil
       ·refine step_appq 26 rfl (.tmp 42) (.tmp 49) rfl rfl rfl r9 ?_
        refine hK.out _ _ trivial (fun hH => ?_)
        clear hK K
        go_simp
        refine tKx (i := 17) (v := .pointer (some ⟨dd, 0, none⟩)) rfl rfl (by kernel_rfl) (fun _ _ _ h => h) ?_ hH ?_
        ·intro w5 hSw; go_simp
        simp only [zA9, zB9, zC9]
        refine tKx (i := 18) (v := .pointer (some ⟨dd, 1, none⟩)) rfl rfl (by kernel_rfl) (fun _ _ _ h => h) ?_ hH ?_
        ·intro w5 hSw; go_simp
        simp only [zA9, zB9, zC9]
        refine wpAnyH_ready (rs := [19]) (by kernel_rfl) (by simp) ?_
        refine AllReadyH.cons rfl (fun K hK => ?_) AllReadyH.nil
        go_simp
        refine hK.out _ _ trivial (fun hH => ?_)
        clear hK K
        refine wpAnyH_done (by kernel_rfl) ?_ _
        refine NoPanic.normal ?_
        go_wp2_with fail
        go_ret
        exact F9.out
    ·go_simp
     refine hK.out _ _ trivial (fun hH => ?_)
     clear hK K
     refine tKx (i := 15) (v := .slice VX (ND - (A + 1)) (CD - (A + 1))) rfl rfl (by kernel_rfl) (fun _ _ _ h => h) ?_ hH ?_
     ·intro w5 hSw
      have hv := HVX.out
      by_cases hcb : CD = A + 1
      ·rw [if_pos hcb] at hv; rw [hv]; go_simp
      ·rw [if_neg hcb] at hv; rw [hv]; go_simp
     simp only [zA9, zB9, zC9]
     refine wpAnyH_ready (rs := [5]) (by kernel_rfl) (by simp) ?_
     refine AllReadyH.cons rfl (fun K hK => ?_) AllReadyH.nil
     ·go_simp
      refine hK.out _ _ trivial (fun hH => ?_)
      clear hK K
      refine tKx (i := 7) (v := .slice (some ⟨gx, ox, none⟩) A CD) rfl rfl (by kernel_rfl) (fun _ _ _ h => h) ?_ hH ?_
      ·intro w5 hSw; go_simp
      simp only [zA9, zB9, zC9]
      refine wpAnyH_ready (rs := [8]) (by kernel_rfl) (by simp) ?_
      refine AllReadyH.cons rfl (fun K hK => ?_) AllReadyH.nil
      ·refine step_appq 26 rfl (.tmp 35) (.tmp 41) rfl rfl rfl r6 ?_
       refine hK.out _ _ trivial (fun hH => ?_)
       clear hK K
       go_simp
       refine wpAnyH_ready (rs := [16]) (by kernel_rfl) (by simp) ?_
       refine AllReadyH.cons rfl (fun K hK => ?_) AllReadyH.nil
       ·refine step_appq 26 rfl (.tmp 42) (.tmp 49) rfl rfl rfl r9 ?_
        refine hK.out _ _ trivial (fun hH => ?_)
        clear hK K
        go_simp
        refine tKx (i := 17) (v := .pointer (some ⟨dd, 0, none⟩)) rfl rfl (by kernel_rfl) (fun _ _ _ h => h) ?_ hH ?_
        ·intro w5 hSw; go_simp
        simp only [zA9, zB9, zC9]
        refine tKx (i := 18) (v := .pointer (some ⟨dd, 1, none⟩)) rfl rfl (by kernel_rfl) (fun _ _ _ h => h) ?_ hH ?_
        ·intro w5 hSw; go_simp
        simp only [zA9, zB9, zC9]
        refine wpAnyH_ready (rs := [19]) (by kernel_rfl) (by simp) ?_
        refine AllReadyH.cons rfl (fun K hK => ?_) AllReadyH.nil
        go_simp
        refine hK.out _ _ trivial (fun hH => ?_)
        clear hK K
        refine wpAnyH_done (by kernel_rfl) ?_ _
        refine NoPanic.normal ?_
        go_wp2_with fail
        go_ret
        exact F9.out
   ·go_simp
    refine hK.out _ _ trivial (fun hH => ?_)
    clear hK K
    refine tKx (i := 7) (v := .slice (some ⟨gx, ox, none⟩) A CD) rfl rfl (by kernel_rfl) (fun _ _ _ h => h) ?_ hH ?_
    ·intro w5 hSw; go_simp
    simp only [zA9, zB9, zC9]
    refine wpAnyH_ready (rs := [1, 12]) (by kernel_rfl) (by simp) ?_
    refine AllReadyH.cons rfl (fun K hK => ?_) (AllReadyH.cons rfl (fun K hK => ?_) AllReadyH.nil)
    ·go_simp
     refine hK.out _ _ trivial (fun hH => ?_)
     clear hK K
     refine wpAnyH_ready (rs := [8, 12]) (by kernel_rfl) (by simp) ?_
     refine AllReadyH.cons rfl (fun K hK => ?_) (AllReadyH.cons rfl (fun K hK => ?_) AllReadyH.nil)
     ·refine step_appq 26 rfl (.tmp 35) (.tmp 41) rfl rfl rfl r6 ?_
      refine hK.out _ _ trivial (fun hH => ?_)
      clear hK K
      go_simp
      refine wpAnyH_ready (rs := [12]) (by kernel_rfl) (by simp) ?_
      refine AllReadyH.cons rfl (fun K hK => ?_) AllReadyH.nil
      ·go_simp
       refine hK.out _ _ trivial (fun hH => ?_)
       clear hK K
       refine tKx (i := 15) (v := .slice VX (ND - (A + 1)) (CD - (A + 1))) rfl rfl (by kernel_rfl) (fun _ _ _ h => h) ?_ hH ?_
       ·intro w5 hSw
        have hv := HVX.out
        by_cases hcb : CD = A + 1
        ·rw [if_pos hcb] at hv; rw [hv]; go_simp
        ·rw [if_neg hcb] at hv; rw [hv]; go_simp
       simp only [zA9, zB9, zC9]
       refine wpAnyH_ready (rs := [16]) (by kernel_rfl) (by simp) ?_
       refine AllReadyH.cons rfl (fun K hK => ?_) AllReadyH.nil
       ·refine step_appq 26 rfl (.tmp 42) (.tmp 49) rfl rfl rfl r9 ?_
        refine hK.out _ _ trivial (fun hH => ?_)
        clear hK K
        go_simp
        refine tKx (i := 17) (v := .pointer (some ⟨dd, 0, none⟩)) rfl rfl (by kernel_rfl) (fun _ _ _ h => h) ?_ hH ?_
        ·intro w5 hSw; go_simp
        simp only [zA9, zB9, zC9]
        refine tKx (i := 18) (v := .pointer (some ⟨dd, 1, none⟩)) rfl rfl (by kernel_rfl) (fun _ _ _ h => h) ?_ hH ?_
        ·intro w5 hSw; go_simp
        simp only [zA9, zB9, zC9]
        refine wpAnyH_ready (rs := [19]) (by kernel_rfl) (by simp) ?_
        refine AllReadyH.cons rfl (fun K hK => ?_) AllReadyH.nil
        go_simp
        refine hK.out _ _ trivial (fun hH => ?_)
        clear hK K
        refine wpAnyH_done (by kernel_rfl) ?_ _
        refine NoPanic.normal ?_
        go_wp2_with fail
        go_ret
        exact F9.out
     ·go_simp
      refine hK.out _ _ trivial (fun hH => ?_)
      clear hK K
      refine tKx (i := 15) (v := .slice VX (ND - (A + 1)) (CD - (A + 1))) rfl rfl (by kernel_rfl) (fun _ _ _ h => h) ?_ hH ?_
      ·intro w5 hSw
       have hv := HVX.out
       by_cases hcb : CD = A + 1
       ·rw [if_pos hcb] at hv; rw [hv]; go_simp
       ·rw [if_neg hcb] at hv; rw [hv]; go_simp
      simp only [zA9, zB9, zC9]
      refine wpAnyH_ready (rs := [8]) (by kernel_rfl) (by simp) ?_
      refine AllReadyH.cons rfl (fun K hK => ?_) AllReadyH.nil
      ·refine step_appq 26 rfl (.tmp 35) (.tmp 41) rfl rfl rfl r6 ?_
       refine hK.out _ _ trivial (fun hH => ?_)
       clear hK K
       go_simp
       refine wpAnyH_ready (rs := [16]) (by kernel_rfl) (by simp) ?_
       refine AllReadyH.cons rfl (fun K hK => ?_) AllReadyH.nil
       ·refine step_appq 26 rfl (.tmp 42) (.tmp 49) rfl rfl rfl r9 ?_
        refine hK.out _ _ trivial (fun hH => ?_)
        clear hK K
        go_simp
        refine tKx (i := 17) (v := .pointer (some ⟨dd, 0, none⟩)) rfl rfl (by kernel_rfl) (fun _ _ _ h => h) ?_ hH ?_
        ·intro w5 hSw; go_simp
        simp only [zA9, zB9, zC9]
        refine tKx (i := 18) (v := .pointer (some ⟨dd, 1, none⟩)) rfl rfl (by kernel_rfl) (fun _ _ _ h => h) ?_ hH ?_
        ·intro w5 hSw; go_simp
        simp only [zA9, zB9, zC9]
        refine wpAnyH_ready (rs := [19]) (by kernel_rfl) (by simp) ?_
        refine AllReadyH.cons rfl (fun K hK => ?_) AllReadyH.nil
        go_simp
        refine hK.out _ _ trivial (fun hH => ?_)
        clear hK K
        refine wpAnyH_done (by kernel_rfl) ?_ _
        refine NoPanic.normal ?_
        go_wp2_with fail
        go_ret
        exact F9.out
    ·go_simp
     refine hK.out _ _ trivial (fun hH => ?_)
     clear hK K
     refine tKx (i := 15) (v := .slice VX (ND - (A + 1)) (CD - (A + 1))) rfl rfl (by kernel_rfl) (fun _ _ _ h => h) ?_ hH ?_
     ·intro w5 hSw
      have hv := HVX.out
      by_cases hcb : CD = A + 1
      ·rw [if_pos hcb] at hv; rw [hv]; go_simp
      ·rw [if_neg hcb] at hv; rw [hv]; go_simp
     simp only [zA9, zB9, zC9]
     refine wpAnyH_ready (rs := [1]) (by kernel_rfl) (by simp) ?_
     refine AllReadyH.cons rfl (fun K hK => ?_) AllReadyH.nil
     ·go_simp
      refine hK.out _ _ trivial (fun hH => ?_)
      clear hK K
      refine wpAnyH_ready (rs := [8]) (by kernel_rfl) (by simp) ?_
      refine AllReadyH.cons rfl (fun K hK => ?_) AllReadyH.nil
      ·refine step_appq 26 rfl (.tmp 35) (.tmp 41) rfl rfl rfl r6 ?_
       refine hK.out _ _ trivial (fun hH => ?_)
       clear hK K
       go_simp
       refine wpAnyH_ready (rs := [16]) (by kernel_rfl) (by simp) ?_
       refine AllReadyH.cons rfl (fun K hK => ?_) AllReadyH.nil
       ·refine step_appq 26 rfl (.tmp 42) (.tmp 49) rfl rfl rfl r9 ?_
        refine hK.out _ _ trivial (fun hH => ?_)
        clear hK K
        go_simp
        refine tKx (i := 17) (v := .pointer (some ⟨dd, 0, none⟩)) rfl rfl (by kernel_rfl) (fun _ _ _ h => h) ?_ hH ?_
        ·intro w5 hSw; go_simp
        simp only [zA9, zB9, zC9]
        refine tKx (i := 18) (v := .pointer (some ⟨dd, 1, none⟩)) rfl rfl (by kernel_rfl) (fun _ _ _ h => h) ?_ hH ?_
        ·intro w5 hSw; go_simp
        simp only [zA9, zB9, zC9]
        refine wpAnyH_ready (rs := [19]) (by kernel_rfl) (by simp) ?_
        refine AllReadyH.cons rfl (fun K hK => ?_) AllReadyH.nil
        go_simp
        refine hK.out _ _ trivial (fun hH => ?_)
        clear hK K
        refine wpAnyH_done (by kernel_rfl) ?_ _
        refine NoPanic.normal ?_
        go_wp2_with fail
        go_ret
        exact F9.out
   ·go_simp
    refine hK.out _ _ trivial (fun hH => ?_)
    clear hK K
    refine tKx (i := 15) (v := .slice VX (ND - (A + 1)) (CD - (A + 1))) rfl rfl (by kernel_rfl) (fun _ _ _ h => h) ?_ hH ?_
    ·intro w5 hSw
     have hv := HVX.out
     by_cases hcb : CD = A + 1
     ·rw [if_pos hcb] at hv; rw [hv]; go_simp
     ·rw [if_neg hcb] at hv; rw [hv]; go_simp
    simp only [zA9, zB9, zC9]
    refine wpAnyH_ready (rs := [1, 5]) (by kernel_rfl) (by simp) ?_
    refine AllReadyH.cons rfl (fun K hK => ?_) (AllReadyH.cons rfl (fun K hK => ?_) AllReadyH.nil)
    ·go_simp
     refine hK.out _ _ trivial (fun hH => ?_)
     clear hK K
     refine wpAnyH_ready (rs := [5]) (by kernel_rfl) (by simp) ?_
     refine AllReadyH.cons rfl (fun K hK => ?_) AllReadyH.nil
     ·go_simp
      refine hK.out _ _ trivial (fun hH => ?_)
      clear hK K
      refine tKx (i := 7) (v := .slice (some ⟨gx, ox, none⟩) A CD) rfl rfl (by kernel_rfl) (fun _ _ _ h => h) ?_ hH ?_
      ·intro w5 hSw; go_simp
      simp only [zA9, zB9, zC9]
      refine wpAnyH_ready (rs := [8]) (by kernel_rfl) (by simp) ?_
      refine AllReadyH.cons rfl (fun K hK => ?_) AllReadyH.nil
      ·refine step_appq 26 rfl (.tmp 35) (.tmp 41) rfl rfl rfl r6 ?_
       refine hK.out _ _ trivial (fun hH => ?_)
       clear hK K
       go_simp
       refine wpAnyH_ready (rs := [16]) (by kernel_rfl) (by simp) ?_
       refine AllReadyH.cons rfl (fun K hK => ?_) AllReadyH.nil
       ·refine step_appq 26 rfl (.tmp 42) (.tmp 49) rfl rfl rfl r9 ?_
        refine hK.out _ _ trivial (fun hH => ?_)
        clear hK K
        go_simp
        refine tKx (i := 17) (v := .pointer (some ⟨dd, 0, none⟩)) rfl rfl (by kernel_rfl) (fun _ _ _ h => h) ?_ hH ?_
        ·intro w5 hSw; go_simp
        simp only [zA9, zB9, zC9]
        refine tKx (i := 18) (v := .pointer (some ⟨dd, 1, none⟩)) rfl rfl (by kernel_rfl) (fun _ _ _ h => h) ?_ hH ?_
        ·intro w5 hSw; go_simp
        simp only [zA9, zB9, zC9]
        refine wpAnyH_ready (rs := [19]) (by kernel_rfl) (by simp) ?_
        refine AllReadyH.cons rfl (fun K hK => ?_) AllReadyH.nil
        go_simp
        refine hK.out _ _ trivial (fun hH => ?_)
        clear hK K
        refine wpAnyH_done (by kernel_rfl) ?_ _
        refine NoPanic.normal ?_
        go_wp2_with fail
        go_ret
        exact F9.out
    ·go_simp
     refine hK.out _ _ trivial (fun hH => ?_)
     clear hK K
     refine tKx (i := 7) (v := .slice (some ⟨gx, ox, none⟩) A CD) rfl rfl (by kernel_rfl) (fun _ _ _ h => h) ?_ hH ?_
     ·intro w5 hSw; go_simp
     simp only [zA9, zB9, zC9]
     refine wpAnyH_ready (rs := [1]) (by kernel_rfl) (by simp) ?_
     refine AllReadyH.cons rfl (fun K hK => ?_) AllReadyH.nil
     ·go_simp
      refine hK.out _ _ trivial (fun hH => ?_)
      clear hK K
      refine wpAnyH_ready (rs := [8]) (by kernel_rfl) (by simp) ?_
      refine AllReadyH.cons rfl (fun K hK => ?_) AllReadyH.nil
      ·refine step_appq 26 rfl (.tmp 35) (.tmp 41) rfl rfl rfl r6 ?_
       refine hK.out _ _ trivial (fun hH => ?_)
       clear hK K
       go_simp
       refine wpAnyH_ready (rs := [16]) (by kernel_rfl) (by simp) ?_
       refine AllReadyH.cons rfl (fun K hK => ?_) AllReadyH.nil
       ·refine step_appq 26 rfl (.tmp 42) (.tmp 49) rfl rfl rfl r9 ?_
        refine hK.out _ _ trivial (fun hH => ?_)
        clear hK K
        go_simp
        refine tKx (i := 17) (v := .pointer (some ⟨dd, 0, none⟩)) rfl rfl (by kernel_rfl) (fun _ _ _ h => h) ?_ hH ?_
        ·intro w5 hSw; go_simp
        simp only [zA9, zB9, zC9]
        refine tKx (i := 18) (v := .pointer (some ⟨dd, 1, none⟩)) rfl rfl (by kernel_rfl) (fun _ _ _ h => h) ?_ hH ?_
        ·intro w5 hSw; go_simp
        simp only [zA9, zB9, zC9]
        refine wpAnyH_ready (rs := [19]) (by kernel_rfl) (by simp) ?_
        refine AllReadyH.cons rfl (fun K hK => ?_) AllReadyH.nil
        go_simp
        refine hK.out _ _ trivial (fun hH => ?_)
        clear hK K
        refine wpAnyH_done (by kernel_rfl) ?_ _
        refine NoPanic.normal ?_
        go_wp2_with fail
        go_ret
        exact F9.out
  ·have hz : (ordE y.e x != 0) = true := by rw [bne_iff_ne]; exact h0
   go_wp2_with fail
   refine wp_region_noPanic ?_
   refine wp_region_held_drew (S := fun w' : World => w'.cell? ⟨dd, 1, none⟩ = some (.slice (some ⟨gx, ox, none⟩) ND CD) ∧ w'.cell? ⟨gx, ox + A * 2, none⟩ = some (.slice (some ⟨y.g, 0, none⟩) y.e.key.length y.c) ∧ w'.cell? ⟨gx, ox + A * 2 + 1, none⟩ = some (.int .u64 y.e.id) ∧ w'.cell? ⟨w.heap.size, 0, none⟩ = some (.slice q lx cx) ∧ w'.cell? ⟨w.heap.size, 1, none⟩ = some (.int .u64 ix)) (by kernel_rfl) (KS.out _ (Below.refl _ _).drew) (fun hH => ?_)
   refine tKx (i := 0) (v := .int .i64 (A : Int)) rfl rfl (by kernel_rfl) (fun _ _ _ h => h) ?_ hH ?_
   ·intro w5 hSw; obtain ⟨s0, s1, s2, s3, s4⟩ := hSw; go_simp
   simp only [zA9, zB9, zC9]
   refine tKx (i := 1) (v := .pointer (some ⟨dd, 0, none⟩)) rfl rfl (by kernel_rfl) (fun _ _ _ h => h) ?_ hH ?_
   ·intro w5 hSw; obtain ⟨s0, s1, s2, s3, s4⟩ := hSw; go_simp
   simp only [zA9, zB9, zC9]
   refine tKx (i := 2) (v := .pointer (some ⟨dd, 0, none⟩)) rfl rfl (by kernel_rfl) (fun _ _ _ h => h) ?_ hH ?_
   ·intro w5 hSw; obtain ⟨s0, s1, s2, s3, s4⟩ := hSw; go_simp
   simp only [zA9, zB9, zC9]
   refine tKx (i := 3) (v := .pointer (some ⟨dd, 1, none⟩)) rfl rfl (by kernel_rfl) (fun _ _ _ h => h) ?_ hH ?_
   ·intro w5 hSw; obtain ⟨s0, s1, s2, s3, s4⟩ := hSw; go_simp
   simp only [zA9, zB9, zC9]
   refine tKx (i := 4) (v := .slice (some ⟨gx, ox, none⟩) ND CD) rfl rfl (by kernel_rfl) (fun _ _ _ h => h) ?_ hH ?_
   ·intro w5 hSw; obtain ⟨s0, s1, s2, s3, s4⟩ := hSw; go_simp
   simp only [zA9, zB9, zC9]
   refine tKx (i := 5) (v := .int .i64 (ND : Int)) rfl rfl (by kernel_rfl) (fun _ _ _ h => h) ?_ hH ?_
   ·intro w5 hSw; obtain ⟨s0, s1, s2, s3, s4⟩ := hSw; go_simp
   simp only [zA9, zB9, zC9]
   refine tKx (i := 6) (v := .bool false) rfl rfl (by kernel_rfl) (fun _ _ _ h => h) ?_ hH ?_
   ·intro w5 hSw; obtain ⟨s0, s1, s2, s3, s4⟩ := hSw; go_simp
   simp only [zA9, zB9, zC9]
   refine tKx (i := 7) (v := .bool false) rfl rfl (by kernel_rfl) (fun _ _ _ h => h) ?_ hH ?_
   ·intro w5 hSw; obtain ⟨s0, s1, s2, s3, s4⟩ := hSw; go_simp
   simp only [zA9, zB9, zC9]
   refine tKx (i := 8) (v := .pointer (some ⟨dd, 0, none⟩)) rfl rfl (by kernel_rfl) (fun _ _ _ h => h) ?_ hH ?_
   ·intro w5 hSw; obtain ⟨s0, s1, s2, s3, s4⟩ := hSw; go_simp
   simp only [zA9, zB9, zC9]
   refine tKx (i := 9) (v := .pointer (some ⟨dd, 0, none⟩)) rfl rfl (by kernel_rfl) (fun _ _ _ h => h) ?_ hH ?_
   ·intro w5 hSw; obtain ⟨s0, s1, s2, s3, s4⟩ := hSw; go_simp
   simp only [zA9, zB9, zC9]
   refine tKx (i := 10) (v := .pointer (some ⟨dd, 1, none⟩)) rfl rfl (by kernel_rfl) (fun _ _ _ h => h) ?_ hH ?_
   ·intro w5 hSw; obtain ⟨s0, s1, s2, s3, s4⟩ := hSw; go_simp
   simp only [zA9, zB9, zC9]
   refine tKx (i := 11) (v := .slice (some ⟨gx, ox, none⟩) ND CD) rfl rfl (by kernel_rfl) (fun _ _ _ h => h) ?_ hH ?_
   ·intro w5 hSw; obtain ⟨s0, s1, s2, s3, s4⟩ := hSw; go_simp
   simp only [zA9, zB9, zC9]
   refine tKx (i := 12) (v := .int .i64 (A : Int)) rfl rfl (by kernel_rfl) (fun _ _ _ h => h) ?_ hH ?_
   ·intro w5 hSw; obtain ⟨s0, s1, s2, s3, s4⟩ := hSw; go_simp
   simp only [zA9, zB9, zC9]
   refine tKx (i := 13) (v := .pointer (some ⟨gx, ox + A * 2, none⟩)) rfl rfl (by kernel_rfl) (fun _ _ _ h => h) ?_ hH ?_
   ·intro w5 hSw; obtain ⟨s0, s1, s2, s3, s4⟩ := hSw; go_simp
   simp only [zA9, zB9, zC9]
   refine tKx (i := 14) (v := .agg #[.slice (some ⟨y.g, 0, none⟩) y.e.key.length y.c, .int .u64 y.e.id]) rfl rfl (by kernel_rfl) (fun _ _ _ h => h) ?_ hH ?_
   ·intro w5 hSw; obtain ⟨s0, s1, s2, s3, s4⟩ := hSw; go_simp
   simp only [zA9, zB9, zC9]
   refine tKx (i := 15) (v := .agg #[.slice q lx cx, .int .u64 ix]) rfl rfl (by kernel_rfl) (fun _ _ _ h => h) ?_ hH ?_
   ·intro w5 hSw; obtain ⟨s0, s1, s2, s3, s4⟩ := hSw; go_simp
   simp only [zA9, zB9, zC9]
   refine wpAnyH_ready (rs := [16]) (by kernel_rfl) (by simp) ?_
   refine AllReadyH.cons rfl (fun K hK => ?_) AllReadyH.nil
   go_simp
   go_at_call 44
   refine (CM.out w4.drew (Below.refl _ _).drew).mono ?_
   rintro e V1 ⟨rfl, hb2⟩
   go_wp2_with fail
   refine hK.out _ _ (KS.out _ ((Below.refl _ _).drew.trans hb2)) (fun hH => ?_)
   clear hK K
   refine tKx (i := 17) (v := .bool true) rfl rfl (by kernel_rfl) (fun _ _ _ h => h) ?_ hH ?_
   ·intro w5 hSw; obtain ⟨s0, s1, s2, s3, s4⟩ := hSw; go_simp
   simp only [zA9, zB9, zC9]
   refine tKx (i := 18) (v := .bool true) rfl rfl (by kernel_rfl) (fun _ _ _ h => h) ?_ hH ?_
   ·intro w5 hSw; obtain ⟨s0, s1, s2, s3, s4⟩ := hSw; go_simp
   simp only [zA9, zB9, zC9]
   refine wpAnyH_done (by kernel_rfl) ?_ _
   refine NoPanic.normal ?_
   have BV : Hid (Below w4.heap.size w4 V1) := (Below.refl _ w4).drew.trans hb2
   clear hb2 hH KS CM
   go_wp2_with fail
   go_ret
   exact Or.inl ⟨by rw [AB.out]; exact decide_eq_false h0, rfl, BW4.out.trans (BV.out.mono BW4.out.size)⟩
 ·obtain rfl : A = ND := by omega
  have AB : Hid (atB x D = false) := by
   show atB x D = _
   unfold atB
   rw [← HAA.out, List.getElem?_eq_none (by rw [HND.out]; exact Nat.le_refl _)]
  have U1 := (U.out w4.drew (Below.refl _ _).drew).1
  clear U HD4 HD M4 HX HO HT hP0 hPs HND HAA
  go_wp2_with fail
  refine wp_region_noPanic ?_
  refine wp_region_held_drew (S := fun w' : World => w'.cell? ⟨dd, 1, none⟩ = some (.slice PD A CD)) (by kernel_rfl) U1 (fun hH => ?_)
  refine tKx (i := 0) (v := .int .i64 (A : Int)) rfl rfl (by kernel_rfl) (fun _ _ _ h => h) ?_ hH ?_
  ·intro w5 hSw; go_simp
  simp only [zA9, zB9, zC9]
  refine tKx (i := 1) (v := .pointer (some ⟨dd, 0, none⟩)) rfl rfl (by kernel_rfl) (fun _ _ _ h => h) ?_ hH ?_
  ·intro w5 hSw; go_simp
  simp only [zA9, zB9, zC9]
  refine tKx (i := 2) (v := .pointer (some ⟨dd, 0, none⟩)) rfl rfl (by kernel_rfl) (fun _ _ _ h => h) ?_ hH ?_
  ·intro w5 hSw; go_simp
  simp only [zA9, zB9, zC9]
  refine tKx (i := 3) (v := .pointer (some ⟨dd, 1, none⟩)) rfl rfl (by kernel_rfl) (fun _ _ _ h => h) ?_ hH ?_
  ·intro w5 hSw; go_simp
  simp only [zA9, zB9, zC9]
  refine tKx (i := 4) (v := .slice PD A CD) rfl rfl (by kernel_rfl) (fun _ _ _ h => h) ?_ hH ?_
  ·intro w5 hSw; have s0 : World.cell? w5 ⟨dd, 1, none⟩ = _ := hSw; go_simp
  simp only [zA9, zB9, zC9]
  refine tKx (i := 5) (v := .int .i64 (A : Int)) rfl rfl (by kernel_rfl) (fun _ _ _ h => h) ?_ hH ?_
  ·intro w5 hSw; go_simp
  simp only [zA9, zB9, zC9]
  refine tKx (i := 6) (v := .bool true) rfl rfl (by kernel_rfl) (fun _ _ _ h => h) ?_ hH ?_
  ·intro w5 hSw; go_simp
  simp only [zA9, zB9, zC9]
  refine tKx (i := 7) (v := .bool true) rfl rfl (by kernel_rfl) (fun _ _ _ h => h) ?_ hH ?_
  ·intro w5 hSw; go_simp
  simp only [zA9, zB9, zC9]
  refine take_at (i := 8) (v := undef) rfl rfl (by kernel_rfl) (by kernel_rfl) (by kernel_rfl) (fun _ _ _ h => h) (Or.inr ⟨by rfl, rfl⟩) hH ?_
  simp only [zA9, zB9, zC9]
  refine take_at (i := 9) (v := undef) rfl rfl (by kernel_rfl) (by kernel_rfl) (by kernel_rfl) (fun _ _ _ h => h) (Or.inr ⟨by rfl, rfl⟩) hH ?_
  simp only [zA9, zB9, zC9]
  refine take_at (i := 10) (v := undef) rfl rfl (by kernel_rfl) (by kernel_rfl) (by kernel_rfl) (fun _ _ _ h => h) (Or.inr ⟨by rfl, rfl⟩) hH ?_
  simp only [zA9, zB9, zC9]
  refine take_at (i := 11) (v := undef) rfl rfl (by kernel_rfl) (by kernel_rfl) (by kernel_rfl) (fun _ _ _ h => h) (Or.inr ⟨by rfl, rfl⟩) hH ?_
  simp only [zA9, zB9, zC9]
  refine take_at (i := 12) (v := undef) rfl rfl (by kernel_rfl) (by kernel_rfl) (by kernel_rfl) (fun _ _ _ h => h) (Or.inr ⟨by rfl, rfl⟩) hH ?_
  simp only [zA9, zB9, zC9]
  refine take_at (i := 13) (v := undef) rfl rfl (by kernel_rfl) (by kernel_rfl) (by kernel_rfl) (fun _ _ _ h => h) (Or.inr ⟨by rfl, rfl⟩) hH ?_
  simp only [zA9, zB9, zC9]
  refine take_at (i := 14) (v := undef) rfl rfl (by kernel_rfl) (by kernel_rfl) (by kernel_rfl) (fun _ _ _ h => h) (Or.inr ⟨by rfl, rfl⟩) hH ?_
  simp only [zA9, zB9, zC9]
  refine take_at (i := 15) (v := undef) rfl rfl (by kernel_rfl) (by kernel_rfl) (by kernel_rfl) (fun _ _ _ h => h) (Or.inr ⟨by rfl, rfl⟩) hH ?_
  simp only [zA9, zB9, zC9]
  refine take_at (i := 16) (v := undef) rfl rfl (by kernel_rfl) (by kernel_rfl) (by kernel_rfl) (fun _ _ _ h => h) (Or.inr ⟨by rfl, rfl⟩) hH ?_
  simp only [zA9, zB9, zC9]
  refine take_at (i := 17) (v := undef) rfl rfl (by kernel_rfl) (by kernel_rfl) (by kernel_rfl) (fun _ _ _ h => h) (Or.inr ⟨by rfl, rfl⟩) hH ?_
  simp only [zA9, zB9, zC9]
  refine tKx (i := 18) (v := .bool true) rfl rfl (by kernel_rfl) (fun _ _ _ h => h) ?_ hH ?_
  ·intro w5 hSw; go_simp
  simp only [zA9, zB9, zC9]
  refine wpAnyH_done (by kernel_rfl) ?_ _
  refine NoPanic.normal ?_
  go_wp2_with fail
  go_ret
  exact Or.inl ⟨AB.out, rfl, BW4.out.trans ((Below.refl _ w4).drew.mono BW4.out.size)⟩
theorem at_any (T : Nat → Prop) (d : Nat) (u : Bool) (l : List Em) (p : Option Addr) (N c : Nat) (x : En) (px : Option Addr) (cx : Nat) (w : World) (h : DocIn T w d u l (.slice p N c)) (hN : N = l.length) (hl : N ≤ 1000000) (hx : EnAt w px x) :
  Calls Tryz.prog 36 #[.pointer (some ⟨d, 0, none⟩), enV px cx x] w fun e w' => e = .returned (.int .i64 (place ltM (tgt x) l : Int)) ∧ Below w.heap.size w w' :=
 at_off T d u l p N c x px cx w h hN hl ⟨hx.row.off, hx.fits⟩
end Go.Proofs.YtclcajnodoifjaaGreatDoor

