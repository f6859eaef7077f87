/-
 The walk of slices.BinarySearchFunc at entries.
-/
import Derived.Test.YtclcajnodoifjaaGreatDoorIAI
import Derived.BigQuiet
namespace Go.Proofs.YtclcajnodoifjaaGreatDoor
open Go.RowKit Go.Shelf Go.Joins Go.Maps
set_option maxRecDepth 100000

/-- an entry that is looked for -/
def tgt (x : En) : Em := ⟨x, 0, 0⟩
/-- whether the entry in its place is the one that is looked for -/
def hereB (x : En) (es : List Em) : Bool := match es[place ltM (tgt x) es]? with | some y => !(ltE x y.e) | none => false
theorem ord_of {a b : En} (h : ltE a b = false) : (ltE b a = false ↔ ordE a b = 0) := by
 have t := od_ordE.turn a b
 rw [ltE_not] at h ⊢
 omega
/-- halving: all ahead of i are ahead, none from j on is -/
structure BsI (x : En) (es : List Em) (i j : Nat) : Prop where
 le : i ≤ j
 hi : j ≤ es.length
 lo : ∀ k y, k < i → es[k]? = some y → ltM y (tgt x) = true
 up : ∀ k y, j ≤ k → es[k]? = some y → ltM y (tgt x) = false
theorem BsI.start (x : En) (es : List Em) : BsI x es 0 es.length := ⟨Nat.zero_le _, Nat.le_refl _, fun k y h => by omega, fun k y h hy => by have := (List.getElem?_eq_some_iff.1 hy).1; omega⟩
theorem BsI.left {x : En} {es : List Em} {i j m : Nat} {y : Em} (h : BsI x es i j) (hr : Rise ltM es) (hm : m < j) (hy : es[m]? = some y) (hl : ltE y.e x = true) : BsI x es (m + 1) j := by
 refine ⟨hm, h.hi, fun k z hk hz => ?_, h.up⟩
 exact ahead_all ord3M hr hy (e := tgt x) hl (by omega) hz
theorem BsI.right {x : En} {es : List Em} {i j m : Nat} {y : Em} (h : BsI x es i j) (hr : Rise ltM es) (h1 : i ≤ m) (hm : m < j) (hy : es[m]? = some y) (hl : ltE y.e x = false) : BsI x es i m := by
 refine ⟨h1, by have := h.hi; omega, h.lo, fun k z hk hz => ?_⟩
 cases hc : ltM z (tgt x) with
 | false => rfl
 | true =>
  have := ahead_all ord3M hr hz (e := tgt x) hc hk hy
  exact absurd (hl.symm.trans this) (by simp)
theorem BsI.done {x : En} {es : List Em} {i : Nat} (h : BsI x es i i) : place ltM (tgt x) es = i := place_is h.hi h.lo (fun y hy => h.up i y (Nat.le_refl _) hy)
set_option maxHeartbeats 8000000 in
set_option maxRecDepth 1000000 in
theorem bsf_any (T : Nat → Prop) (es : List Em) (v : Value) (x : En) (px : Option Addr) (cx : Nat) (w : World) (h : entIn T w es v) (hx : EnAt w px x) (hr : Rise ltM es) (hl : es.length ≤ 1000) :
  Calls Tryz.prog 50 #[v, enV px cx x, .func (.func 51) #[] #[]] w fun en w' => en = .returned (.tuple #[.int .i64 (place ltM (tgt x) es : Int), .bool (hereB x es)]) ∧ Below w.heap.size w w' := by
 have eg : ∀ args w, (callFunc 51 args).run Tryz.prog w = .ok (.enter 51 args) w := enters_of Tryz.func51 (by kernel_rfl) rfl
 obtain ⟨⟨p, N, c, xs⟩, e1, e2, e3, e4, e5⟩ := h.pc
 simp only [Pc.v] at e1 e2 e3 e5
 subst e1
 obtain ⟨w0, hw0⟩ : ∃ w0, w0 = w.alloc (.cells #[.slice px x.key.length cx, .int .u64 x.id] 65) := ⟨_, rfl⟩
 have bb : Below w.heap.size w w0 := by rw [hw0]; exact (Below.refl _ w).alloc (Nat.le_refl _) _
 have bx : w0.heap[w.heap.size]? = some (.cells #[.slice px x.key.length cx, .int .u64 x.id] 65 (0, 0)) := by rw [hw0]; exact heap_alloc_new _ _
 -- a comparison at a place
 have CO : Hid (∀ (k : Nat) (y : Em) W, es[k]? = some y → Below w0.heap.size w0 W → ∃ gx ox, p = some ⟨gx, ox, none⟩ ∧ W.cell? ⟨gx, ox + k * 2, none⟩ = some (.slice (some ⟨y.g, 0, none⟩) y.e.key.length y.c) ∧ W.cell? ⟨gx, ox + k * 2 + 1, none⟩ = some (.int .u64 y.e.id) ∧ gx < w0.heap.size ∧ Calls Tryz.prog 51 #[.agg #[.slice (some ⟨y.g, 0, none⟩) y.e.key.length y.c, .int .u64 y.e.id], .agg #[.slice px x.key.length cx, .int .u64 x.id]] W fun en w' => en = .returned (.int .i64 (ordE y.e x)) ∧ Below W.heap.size W w') := fun k y W hk hW => by
  have hi := (List.getElem?_eq_some_iff.1 hk).1
  obtain ⟨gx, ox, rfl⟩ := pc_some e4 (by omega)
  obtain ⟨u0, u1, u2, u3⟩ := ndIn.entry (d := 0) (n := .mk es []) (v2 := .slice none 0 0) ⟨h, rfl, rfl⟩ hk
  have bW : Below w.heap.size w W := bb.trans (hW.mono bb.size)
  exact ⟨gx, ox, rfl, (bW.cell (p := ⟨gx, ox + k * 2, none⟩) u3).trans u0, (bW.cell (p := ⟨gx, ox + k * 2 + 1, none⟩) u3).trans u1, Nat.lt_of_lt_of_le u3 bb.size, order_any _ _ y.c cx y.e x W (by have := u2.few; omega) (u2.at_.below bW) (hx.below bW)⟩
 have BX : Hid (∀ W, Below w0.heap.size w0 W → W.cell? ⟨w.heap.size, 0, none⟩ = some (.slice px x.key.length cx) ∧ W.cell? ⟨w.heap.size, 1, none⟩ = some (.int .u64 x.id)) := fun W hW => by
  have hb := (hW.block _ (lt_of_heap bx)).trans bx
  exact ⟨(cell_of_block hb 0).trans rfl, (cell_of_block hb 1).trans rfl⟩
 have BB := mkHid bb
 have HW0 := mkHid hw0
 have HR := mkHid hr
 have HN := mkHid e2
 have LB := mkHid (lt_of_heap bx)
 obtain ⟨PL, hPL⟩ : ∃ PL, PL = place ltM (tgt x) es := ⟨_, rfl⟩
 obtain ⟨HE, hHE⟩ : ∃ HE, HE = hereB x es := ⟨_, rfl⟩
 rw [← hPL, ← hHE]
 have HPL := mkHid hPL
 have HHE := mkHid hHE
 have hN : N ≤ 1000 := by omega
 have I0 : Hid (BsI x es 0 N) := by rw [e2]; exact BsI.start x es
 unfold enV
 clear h hx hr hl e2 e3 e4 e5 bb bx hw0 hPL hHE
 generalize x.key.length = lx at *
 generalize x.id = ix at *
 go_enter Tryz.func50, Tryz.ntmps50
 go_wp2_with fail
 rw [← HW0.out]
 clear HW0
 go_loopw [9, 10] (fun s9 s10 wr => ∃ i j : Nat, s9 = .int .i64 i ∧ s10 = .int .i64 j ∧ i ≤ j ∧ j ≤ N ∧ Hid (BsI x es i j) ∧ Hid (Below w0.heap.size w0 wr)) (fun s9 s10 _ => (intOf s10).toNat - (intOf s9).toNat)
 case atStart => exact ⟨0, N, rfl, rfl, Nat.zero_le _, Nat.le_refl _, I0, Below.refl _ _⟩
 case round =>
  obtain ⟨i, j, rfl, rfl, hij, hjN, hI, hb⟩ := hrel
  clear I0
  by_cases hlt : i < j
  ·obtain ⟨m, hm⟩ : ∃ m, m = (i + j) / 2 := ⟨_, rfl⟩
   obtain ⟨y, hy⟩ : ∃ y, es[m]? = some y := ⟨_, List.getElem?_eq_getElem (by have := HN.out; omega)⟩
   obtain ⟨gx, ox, rfl, c0, c1, hg, cm⟩ := CO.out m y wr hy hb.out
   obtain ⟨b0, b1⟩ := BX.out wr hb.out
   have CM : Hid (∀ W, Below w0.heap.size w0 W → Calls Tryz.prog 51 #[.agg #[.slice (some ⟨y.g, 0, none⟩) y.e.key.length y.c, .int .u64 y.e.id], .agg #[.slice px lx cx, .int .u64 ix]] W fun en w' => en = .returned (.int .i64 (ordE y.e x)) ∧ Below W.heap.size W w') := fun W hW => by
    obtain ⟨_, _, _, _, _, _, cm⟩ := CO.out m y W hy hW
    exact cm
   have lb : w.heap.size < wr.heap.size := Nat.lt_of_lt_of_le LB.out hb.out.size
   have lg : gx < wr.heap.size := Nat.lt_of_lt_of_le hg hb.out.size
   have HY := mkHid hy
   have HM := mkHid hm
   have m1 : m < N := by omega
   have m2 : (m : Int) < (N : Int) := by omega
   have m3 : (0 : Int) ≤ (m : Int) := by omega
   clear hy hm cm hg CO BX
   go_wp2_with fail
   rw [show ((i : Int) + (j : Int)) / 2 = (m : Int) by have := HM.out; omega]
   obtain ⟨R, hR⟩ : ∃ R, R = ordE y.e x := ⟨_, rfl⟩
   rw [← hR] at CM
   have KB2 : ∀ w2, Below wr.drew.heap.size wr.drew w2 → Hid (Below w0.heap.size w0 w2) := fun w2 h2 => hb.out.drew.trans (h2.mono hb.out.size)
   by_cases hl : R < 0
   ·have NX : Hid (BsI x es (m + 1) j) := hI.out.left HR.out (by have := HM.out; omega) HY.out (by rw [ltE_iff, ← hR]; exact hl)
    have hmj : m + 1 ≤ j := by have := HM.out; omega
    have him : i ≤ m := by have := HM.out; omega
    clear hR hI HY HM HR HPL HHE
    go_region_held3 (fun w' => w'.cell? ⟨gx, ox + m * 2, none⟩ = some (.slice (some ⟨y.g, 0, none⟩) y.e.key.length y.c) ∧ w'.cell? ⟨gx, ox + m * 2 + 1, none⟩ = some (.int .u64 y.e.id) ∧ w'.cell? ⟨w.heap.size, 0, none⟩ = some (.slice px lx cx) ∧ w'.cell? ⟨w.heap.size, 1, none⟩ = some (.int .u64 ix)) (first | go_keep | exact ⟨(hb2.cell (p := ⟨gx, ox + m * 2, none⟩) lg).trans c0, (hb2.cell (p := ⟨gx, ox + m * 2 + 1, none⟩) lg).trans c1, (hb2.cell (p := ⟨w.heap.size, 0, none⟩) lb).trans b0, (hb2.cell (p := ⟨w.heap.size, 1, none⟩) lb).trans b1⟩) ((go_at_fn 51; refine (CM.out _ (by exact hb.out.drew)).mono ?_; rintro e w2 ⟨rfl, hb2⟩))
    go_wp2_with fail
    go_roundw
    case rel => exact ⟨m + 1, j, by go_num, rfl, hmj, hjN, NX, KB2 _ hb2⟩
    case measure => simp [intOf]; omega
   ·have NX : Hid (BsI x es i m) := hI.out.right HR.out (by have := HM.out; omega) (by have := HM.out; omega) HY.out (by rw [ltE_not, ← hR]; omega)
    have hmj : m < j := by have := HM.out; omega
    have him : i ≤ m := by have := HM.out; omega
    clear hR hI HY HM HR HPL HHE
    go_region_held3 (fun w' => w'.cell? ⟨gx, ox + m * 2, none⟩ = some (.slice (some ⟨y.g, 0, none⟩) y.e.key.length y.c) ∧ w'.cell? ⟨gx, ox + m * 2 + 1, none⟩ = some (.int .u64 y.e.id) ∧ w'.cell? ⟨w.heap.size, 0, none⟩ = some (.slice px lx cx) ∧ w'.cell? ⟨w.heap.size, 1, none⟩ = some (.int .u64 ix)) (first | go_keep | exact ⟨(hb2.cell (p := ⟨gx, ox + m * 2, none⟩) lg).trans c0, (hb2.cell (p := ⟨gx, ox + m * 2 + 1, none⟩) lg).trans c1, (hb2.cell (p := ⟨w.heap.size, 0, none⟩) lb).trans b0, (hb2.cell (p := ⟨w.heap.size, 1, none⟩) lb).trans b1⟩) ((go_at_fn 51; refine (CM.out _ (by exact hb.out.drew)).mono ?_; rintro e w2 ⟨rfl, hb2⟩))
    go_wp2_with fail
    go_roundw
    case rel => exact ⟨i, m, rfl, rfl, him, by omega, NX, KB2 _ hb2⟩
    case measure => simp [intOf]; omega
  ·obtain rfl : i = j := by omega
   have hpl : PL = i := by rw [HPL.out]; exact hI.out.done
   subst hpl
   by_cases hiN : PL < N
   ·obtain ⟨y, hy⟩ : ∃ y, es[PL]? = some y := ⟨_, List.getElem?_eq_getElem (by have := HN.out; omega)⟩
    obtain ⟨gx, ox, rfl, c0, c1, hg, cm⟩ := CO.out PL y wr hy hb.out
    obtain ⟨b0, b1⟩ := BX.out wr hb.out
    have CM : Hid (∀ W, Below w0.heap.size w0 W → Calls Tryz.prog 51 #[.agg #[.slice (some ⟨y.g, 0, none⟩) y.e.key.length y.c, .int .u64 y.e.id], .agg #[.slice px lx cx, .int .u64 ix]] W fun en w' => en = .returned (.int .i64 (ordE y.e x)) ∧ Below W.heap.size W w') := fun W hW => by
     obtain ⟨_, _, _, _, _, _, cm⟩ := CO.out PL y W hy hW
     exact cm
    have lb : w.heap.size < wr.heap.size := Nat.lt_of_lt_of_le LB.out hb.out.size
    have lg : gx < wr.heap.size := Nat.lt_of_lt_of_le hg hb.out.size
    have he : HE = decide (ordE y.e x = 0) := by
     rw [HHE.out]
     unfold hereB
     rw [← HPL.out, hy]
     have hyl : ltE y.e x = false := hI.out.up PL y (Nat.le_refl _) hy
     have := ord_of hyl
     show (!(ltE x y.e)) = _
     cases hq : ltE x y.e with
     | false => rw [eq_comm, Bool.not_false, decide_eq_true_eq]; exact this.1 hq
     | true =>
      rw [eq_comm, Bool.not_true, decide_eq_false_iff_not]
      exact fun h => by have := this.2 h; rw [hq] at this; cases this
    obtain ⟨R, hR⟩ : ∃ R, R = ordE y.e x := ⟨_, rfl⟩
    rw [← hR] at CM he
    subst he
    have KB2 : ∀ w2, Below wr.drew.heap.size wr.drew w2 → Below w.heap.size w w2 := fun w2 h2 => BB.out.trans ((hb.out.drew.trans (h2.mono hb.out.size)).mono BB.out.size)
    have i1 : (PL : Int) < (N : Int) := by omega
    have hd : decide ((PL : Int) < (N : Int)) = true := by simp; omega
    clear hR hI HR HPL HHE hy cm hg CO BX HN
    have KS : Hid (∀ w', Below wr.heap.size wr w' → w'.cell? ⟨gx, ox + PL * 2, none⟩ = some (.slice (some ⟨y.g, 0, none⟩) y.e.key.length y.c) ∧ w'.cell? ⟨gx, ox + PL * 2 + 1, none⟩ = some (.int .u64 y.e.id) ∧ w'.cell? ⟨w.heap.size, 0, none⟩ = some (.slice px lx cx) ∧ w'.cell? ⟨w.heap.size, 1, none⟩ = some (.int .u64 ix)) := fun w' hb2 => ⟨(hb2.cell (p := ⟨gx, ox + PL * 2, none⟩) lg).trans c0, (hb2.cell (p := ⟨gx, ox + PL * 2 + 1, none⟩) lg).trans c1, (hb2.cell (p := ⟨w.heap.size, 0, none⟩) lb).trans b0, (hb2.cell (p := ⟨w.heap.size, 1, none⟩) lb).trans b1⟩
    have i2 : (0 : Int) ≤ (PL : Int) := by omega
    have hRz : (R == 0) = decide (R = 0) := by by_cases hz : R = 0 <;> simp [hz]
    go_wp2_with fail
    refine wp_region_noPanic ?_
    refine wp_region_held_drew (S := fun w' : World => w'.cell? ⟨gx, ox + PL * 2, none⟩ = some (.slice (some ⟨y.g, 0, none⟩) y.e.key.length y.c) ∧ w'.cell? ⟨gx, ox + PL * 2 + 1, none⟩ = some (.int .u64 y.e.id) ∧ w'.cell? ⟨w.heap.size, 0, none⟩ = some (.slice px lx cx) ∧ w'.cell? ⟨w.heap.size, 1, none⟩ = some (.int .u64 ix)) (by kernel_rfl) (KS.out _ (Below.refl _ _).drew) (fun hH => ?_)
    refine tKx (i := 0) (v := .int .i64 ((PL : Int))) rfl rfl (by kernel_rfl) (fun _ _ _ h => h) ?_ hH ?_
    ·intro w5 hSw; obtain ⟨s0, s1, s2, s3⟩ := hSw; go_simp
    simp only [zA9, zB9, zC9]
    refine tKx (i := 1) (v := .int .i64 ((PL : Int))) rfl rfl (by kernel_rfl) (fun _ _ _ h => h) ?_ hH ?_
    ·intro w5 hSw; obtain ⟨s0, s1, s2, s3⟩ := hSw; go_simp
    simp only [zA9, zB9, zC9]
    refine tKx (i := 2) (v := .int .i64 ((N : Int))) rfl rfl (by kernel_rfl) (fun _ _ _ h => h) ?_ hH ?_
    ·intro w5 hSw; obtain ⟨s0, s1, s2, s3⟩ := hSw; go_simp
    simp only [zA9, zB9, zC9]
    refine tKx (i := 3) (v := .bool true) rfl rfl (by kernel_rfl) (fun _ _ _ h => h) ?_ hH ?_
    ·intro w5 hSw; obtain ⟨s0, s1, s2, s3⟩ := hSw; go_simp
    simp only [zA9, zB9, zC9]
    refine tKx (i := 4) (v := .bool true) rfl rfl (by kernel_rfl) (fun _ _ _ h => h) ?_ hH ?_
    ·intro w5 hSw; obtain ⟨s0, s1, s2, s3⟩ := hSw; go_simp
    simp only [zA9, zB9, zC9]
    refine tKx (i := 5) (v := .func (.func 51) #[] #[]) rfl rfl (by kernel_rfl) (fun _ _ _ h => h) ?_ hH ?_
    ·intro w5 hSw; obtain ⟨s0, s1, s2, s3⟩ := hSw; go_simp
    simp only [zA9, zB9, zC9]
    refine tKx (i := 6) (v := .slice (some ⟨gx, ox, none⟩) N c) rfl rfl (by kernel_rfl) (fun _ _ _ h => h) ?_ hH ?_
    ·intro w5 hSw; obtain ⟨s0, s1, s2, s3⟩ := hSw; go_simp
    simp only [zA9, zB9, zC9]
    refine tKx (i := 7) (v := .int .i64 ((PL : Int))) rfl rfl (by kernel_rfl) (fun _ _ _ h => h) ?_ hH ?_
    ·intro w5 hSw; obtain ⟨s0, s1, s2, s3⟩ := hSw; go_simp
    simp only [zA9, zB9, zC9]
    refine tKx (i := 8) (v := .pointer (some ⟨gx, ox + PL * 2, none⟩)) rfl rfl (by kernel_rfl) (fun _ _ _ h => h) ?_ hH ?_
    ·intro w5 hSw; obtain ⟨s0, s1, s2, s3⟩ := hSw; go_simp
    simp only [zA9, zB9, zC9]
    refine tKx (i := 9) (v := .agg #[.slice (some ⟨y.g, 0, none⟩) y.e.key.length y.c, .int .u64 y.e.id]) rfl rfl (by kernel_rfl) (fun _ _ _ h => h) ?_ hH ?_
    ·intro w5 hSw; obtain ⟨s0, s1, s2, s3⟩ := hSw; go_simp
    simp only [zA9, zB9, zC9]
    refine tKx (i := 10) (v := .agg #[.slice px lx cx, .int .u64 ix]) rfl rfl (by kernel_rfl) (fun _ _ _ h => h) ?_ hH ?_
    ·intro w5 hSw; obtain ⟨s0, s1, s2, s3⟩ := hSw; go_simp
    simp only [zA9, zB9, zC9]
    have KB := mkHid ((Below.refl wr.heap.size wr).drew)
    generalize hW0 : wr.drew = W0 at KB hH ⊢
    refine wpAnyH_ready (rs := [11]) (by kernel_rfl) (by simp) ?_
    refine AllReadyH.cons rfl (fun K hK => ?_) AllReadyH.nil
    go_simp
    go_at_fn 51
    refine (CM.out _ (hb.out.trans (KB.out.mono hb.out.size))).mono ?_
    rintro e V1 ⟨rfl, hb2⟩
    go_wp2_with fail
    refine hK.out _ _ (KS.out _ (KB.out.trans (hb2.mono KB.out.size))) (fun hH => ?_)
    clear hK K
    replace KB := mkHid (KB.out.trans (hb2.mono KB.out.size))
    clear hb2
    refine tKx (i := 12) (v := .bool (decide (R = 0))) rfl rfl (by kernel_rfl) (fun _ _ _ h => h) ?_ hH ?_
    ·intro w5 hSw; obtain ⟨s0, s1, s2, s3⟩ := hSw; go_simp
    simp only [zA9, zB9, zC9]
    refine tKx (i := 13) (v := .bool (decide (R = 0))) rfl rfl (by kernel_rfl) (fun _ _ _ h => h) ?_ hH ?_
    ·intro w5 hSw; obtain ⟨s0, s1, s2, s3⟩ := hSw; go_simp
    simp only [zA9, zB9, zC9]
    refine wpAnyH_ready (rs := [14]) (by kernel_rfl) (by simp) ?_
    refine AllReadyH.cons rfl (fun K hK => ?_) AllReadyH.nil
    ·go_simp
     refine hK.out _ _ (KS.out _ KB.out) (fun hH => ?_)
     clear hK K
     refine wpAnyH_ready (rs := [15]) (by kernel_rfl) (by simp) ?_
     refine AllReadyH.cons rfl (fun K hK => ?_) AllReadyH.nil
     ·go_simp
      refine hK.out _ _ (KS.out _ KB.out) (fun hH => ?_)
      clear hK K
      refine wpAnyH_done (by kernel_rfl) ?_ _
      refine NoPanic.normal ?_
      have FN := BB.out.trans ((hb.out.trans (KB.out.mono hb.out.size)).mono BB.out.size)
      clear KB KS hH
      go_wp2_with fail
      refine bodyPost_ret (v := .tuple #[.int .i64 (PL : Int), .bool (decide (R = 0))]) (by simp [results, Tryz.results50, go_sem]) rfl ?_
      exact ⟨rfl, FN⟩
   ·have he : HE = false := by
     rw [HHE.out]
     unfold hereB
     rw [← HPL.out, List.getElem?_eq_none (by have := HN.out; omega)]
    subst he
    have i1 : ¬ (PL : Int) < (N : Int) := by omega
    clear hI HR HPL HHE CO BX HN
    go_wp2_with fail
    refine wp_region_noPanic ?_
    refine wp_region_held_drew (S := fun w' : World => True) (by kernel_rfl) trivial (fun hH => ?_)
    refine tKx (i := 0) (v := .int .i64 ((PL : Int))) rfl rfl (by kernel_rfl) (fun _ _ _ h => h) ?_ hH ?_
    ·intro w5 hSw; go_simp
    simp only [zA9, zB9, zC9]
    refine tKx (i := 1) (v := .int .i64 ((PL : Int))) rfl rfl (by kernel_rfl) (fun _ _ _ h => h) ?_ hH ?_
    ·intro w5 hSw; go_simp
    simp only [zA9, zB9, zC9]
    refine tKx (i := 2) (v := .int .i64 ((N : Int))) rfl rfl (by kernel_rfl) (fun _ _ _ h => h) ?_ hH ?_
    ·intro w5 hSw; go_simp
    simp only [zA9, zB9, zC9]
    refine tKx (i := 3) (v := .bool false) rfl rfl (by kernel_rfl) (fun _ _ _ h => h) ?_ hH ?_
    ·intro w5 hSw; go_simp
    simp only [zA9, zB9, zC9]
    refine tKx (i := 4) (v := .bool false) rfl rfl (by kernel_rfl) (fun _ _ _ h => h) ?_ hH ?_
    ·intro w5 hSw; go_simp
    simp only [zA9, zB9, zC9]
    refine take_at (i := 5) (v := undef) rfl rfl (by kernel_rfl) (by kernel_rfl) (by kernel_rfl) (fun _ _ _ h => h) (Or.inr ⟨by rfl, rfl⟩) hH ?_
    simp only [zA9, zB9, zC9]
    refine take_at (i := 6) (v := undef) rfl rfl (by kernel_rfl) (by kernel_rfl) (by kernel_rfl) (fun _ _ _ h => h) (Or.inr ⟨by rfl, rfl⟩) hH ?_
    simp only [zA9, zB9, zC9]
    refine take_at (i := 7) (v := undef) rfl rfl (by kernel_rfl) (by kernel_rfl) (by kernel_rfl) (fun _ _ _ h => h) (Or.inr ⟨by rfl, rfl⟩) hH ?_
    simp only [zA9, zB9, zC9]
    refine take_at (i := 8) (v := undef) rfl rfl (by kernel_rfl) (by kernel_rfl) (by kernel_rfl) (fun _ _ _ h => h) (Or.inr ⟨by rfl, rfl⟩) hH ?_
    simp only [zA9, zB9, zC9]
    refine take_at (i := 9) (v := undef) rfl rfl (by kernel_rfl) (by kernel_rfl) (by kernel_rfl) (fun _ _ _ h => h) (Or.inr ⟨by rfl, rfl⟩) hH ?_
    simp only [zA9, zB9, zC9]
    refine take_at (i := 10) (v := undef) rfl rfl (by kernel_rfl) (by kernel_rfl) (by kernel_rfl) (fun _ _ _ h => h) (Or.inr ⟨by rfl, rfl⟩) hH ?_
    simp only [zA9, zB9, zC9]
    refine take_at (i := 11) (v := undef) rfl rfl (by kernel_rfl) (by kernel_rfl) (by kernel_rfl) (fun _ _ _ h => h) (Or.inr ⟨by rfl, rfl⟩) hH ?_
    simp only [zA9, zB9, zC9]
    refine take_at (i := 12) (v := undef) rfl rfl (by kernel_rfl) (by kernel_rfl) (by kernel_rfl) (fun _ _ _ h => h) (Or.inr ⟨by rfl, rfl⟩) hH ?_
    simp only [zA9, zB9, zC9]
    refine tKx (i := 13) (v := .bool false) rfl rfl (by kernel_rfl) (fun _ _ _ h => h) ?_ hH ?_
    ·intro w5 hSw; go_simp
    simp only [zA9, zB9, zC9]
    have KB := mkHid ((Below.refl wr.heap.size wr).drew)
    generalize hW0 : wr.drew = W0 at KB hH ⊢
    refine wpAnyH_ready (rs := [14]) (by kernel_rfl) (by simp) ?_
    refine AllReadyH.cons rfl (fun K hK => ?_) AllReadyH.nil
    ·go_simp
     refine hK.out _ _ trivial (fun hH => ?_)
     clear hK K
     refine wpAnyH_ready (rs := [15]) (by kernel_rfl) (by simp) ?_
     refine AllReadyH.cons rfl (fun K hK => ?_) AllReadyH.nil
     ·go_simp
      refine hK.out _ _ trivial (fun hH => ?_)
      clear hK K
      refine wpAnyH_done (by kernel_rfl) ?_ _
      refine NoPanic.normal ?_
      have FN := BB.out.trans ((hb.out.trans (KB.out.mono hb.out.size)).mono BB.out.size)
      clear KB hH
      go_wp2_with fail
      refine bodyPost_ret (v := .tuple #[.int .i64 (PL : Int), .bool false]) (by simp [results, Tryz.results50, go_sem]) rfl ?_
      exact ⟨rfl, FN⟩
end Go.Proofs.YtclcajnodoifjaaGreatDoor

namespace Go.Proofs.YtclcajnodoifjaaGreatDoor
open Go.RowKit Go.Shelf Go.Joins Go.Maps
set_option maxRecDepth 100000

set_option maxHeartbeats 8000000 in
set_option maxRecDepth 1000000 in
theorem put_leaf (T : Nat → Prop) (n : Nd Em) (m : Em) (gx ox N c : Nat) (w : World) (hT : ∀ b, w.heap.size ≤ b → T b) (hn : ndIn T w 0 n (.slice (some ⟨gx, ox, none⟩) N c) (.slice none 0 0)) (hmk : KeyOk T w m) (z1 : n.es.length ≤ 40) (hri : Rise ltM n.es) :
  Calls Tryz.prog 24 #[.agg #[.slice (some ⟨gx, ox, none⟩) N c, .slice none 0 0], emV m] w fun en w' => NdQ T w 0 (n.putN ltM 0 m) en w' := by
 have hm := hmk.at_
 obtain ⟨⟨p', N', c', xs⟩, e1, e2, e3, e4, e5⟩ := hn.ent.pc
 simp only [Pc.v, Value.slice.injEq] at e1
 obtain ⟨rfl, rfl, rfl⟩ := e1
 simp only at e2 e3 e5
 subst e3
 obtain ⟨w0, hw0⟩ : ∃ w0, w0 = ((w.alloc (.cells #[.slice (some ⟨gx, ox, none⟩) N c, .slice none 0 0] 60)).alloc (.cells #[.slice (some ⟨m.g, 0, none⟩) m.e.key.length m.c, .int .u64 m.e.id] 65)).alloc (.cells #[.slice none 0 0, .slice none 0 0] 60) := ⟨_, rfl⟩
 obtain ⟨d0, d1, d2, bb, bs⟩ := bx3 w (.cells #[.slice (some ⟨gx, ox, none⟩) N c, .slice none 0 0] 60) (.cells #[.slice (some ⟨m.g, 0, none⟩) m.e.key.length m.c, .int .u64 m.e.id] 65) (.cells #[.slice none 0 0, .slice none 0 0] 60)
 rw [← hw0] at d0 d1 d2 bb bs
 obtain ⟨A, hA⟩ : ∃ A, A = place ltM m n.es := ⟨_, rfl⟩
 have hAl : A ≤ n.es.length := by rw [hA]; exact place_le _ _ _
 obtain ⟨HE, hHE⟩ : ∃ HE, HE = hereB m.e n.es := ⟨_, rfl⟩
 have BSF : Hid (Calls Tryz.prog 50 #[.slice (some ⟨gx, ox, none⟩) N c, .agg #[.slice (some ⟨m.g, 0, none⟩) m.e.key.length m.c, .int .u64 m.e.id], .func (.func 51) #[] #[]] w0 fun en w' => en = .returned (.tuple #[.int .i64 (A : Int), .bool HE]) ∧ Below w0.heap.size w0 w') := by
  rw [hA, hHE]
  exact bsf_any T n.es _ m.e _ m.c w0 (hn.ent.keeps (Keeps.of_below bb)) (hm.below bb) hri (by omega)
 have BB := mkHid bb
 have BX := mkHid (And.intro d0 (And.intro d1 d2))
 have BSZ := mkHid bs
 obtain ⟨VX, hVX⟩ : ∃ V, V = if c = A then some (⟨gx, ox, none⟩ : Addr) else some ⟨gx, ox + A * 2, none⟩ := ⟨_, rfl⟩
 have HVX := mkHid hVX
 have X1 := mkHid (e4.fst (a := A) (by simp only; omega))
 have X2 := mkHid (lst_ok (b := A) e4 e5 hVX)
 have HEN := mkHid hn.ent.2
 have HKY := mkHid hmk
 have HTT := mkHid hT
 have HA := mkHid hA
 have HN2 : Hid (A ≤ N ∧ N = n.es.length ∧ N ≤ 40) := by show _ ∧ _; omega
 have i1 : (0 : Int) ≤ (A : Int) := by omega
 have i2 : (A : Int) ≤ (c : Int) := by omega
 have i3 : (A : Int) ≤ (N : Int) := by omega
 have i4 : (N : Int) ≤ (c : Int) := by omega
 have i5 : A ≤ 1000 := by omega
 have HW0 := mkHid hw0
 unfold emV enV
 clear hT hn hmk z1 hri hm e2 e4 e5 d0 d1 d2 bb bs hw0 hA hAl hHE hVX
 go_enter Tryz.func24, Tryz.ntmps24
 go_wp2_with fail
 rw [← HW0.out]
 clear HW0
 refine BSF.out.mono ?_
 rintro en w1 ⟨rfl, hb1⟩
 have BW : Hid (Below w.heap.size w w1) := BB.out.trans (hb1.mono BB.out.size)
 have RC : Hid (w1.heap[(w.heap.size + 1 + 1)]? = some (.cells #[.slice none 0 0, .slice none 0 0] 60 (0, 0))) := (hb1.block _ (lt_of_heap BX.out.2.2)).trans BX.out.2.2
 have KM : Hid ((w.heap.size + 1 + 1) ≤ w1.heap.size) := by have := BSZ.out; have := hb1.size; show _ ≤ _; omega
 have KF : Hid (Kept w1 w1) := Below.refl _ _
 have UP : Hid (∀ W, Below (w.heap.size + 1 + 1) w1 W → Below w.heap.size w W) := fun W hb => BW.out.trans (hb.mono (by omega))
 have KS : Hid (∀ w', Below (w.heap.size + 1 + 1) w1 w' → w'.cell? ⟨w.heap.size, 0, none⟩ = some (.slice (some ⟨gx, ox, none⟩) N c) ∧ w'.cell? ⟨w.heap.size, 1, none⟩ = some (.slice none 0 0) ∧ w'.cell? ⟨w.heap.size + 1, 0, none⟩ = some (.slice (some ⟨m.g, 0, none⟩) m.e.key.length m.c) ∧ w'.cell? ⟨w.heap.size + 1, 1, none⟩ = some (.int .u64 m.e.id)) := fun w' hb => by
  have e0 : w1.heap[w.heap.size]? = _ := (hb1.block _ (lt_of_heap BX.out.1)).trans BX.out.1
  have e1 : w1.heap[w.heap.size + 1]? = _ := (hb1.block _ (lt_of_heap BX.out.2.1)).trans BX.out.2.1
  have c0 : ∀ o, w'.cell? ⟨w.heap.size, o, none⟩ = w1.cell? ⟨w.heap.size, o, none⟩ := fun o => hb.cell (p := ⟨w.heap.size, o, none⟩) (by show w.heap.size < _; omega)
  have c1 : ∀ o, w'.cell? ⟨w.heap.size + 1, o, none⟩ = w1.cell? ⟨w.heap.size + 1, o, none⟩ := fun o => hb.cell (p := ⟨w.heap.size + 1, o, none⟩) (by show w.heap.size + 1 < _; omega)
  exact ⟨(c0 0).trans ((cell_of_block e0 0).trans rfl), (c0 1).trans ((cell_of_block e0 1).trans rfl), (c1 0).trans ((cell_of_block e1 0).trans rfl), (c1 1).trans ((cell_of_block e1 1).trans rfl)⟩
 obtain ⟨n1, hn1⟩ : ∃ n1, n1 = (n.es.take A ++ m :: n.es.drop A).length := ⟨_, rfl⟩
 have CE : Hid (∀ W G g, Below (w.heap.size + 1 + 1) w1 W → pcsAt W G [⟨some ⟨gx, ox, none⟩, A, c, (fl emE n.es).take (A * 2)⟩, ⟨some ⟨g, 0, none⟩, 1, 1, emE m⟩, ⟨VX, N - A, c - A, (fl emE n.es).drop (A * 2)⟩] → Pc.ok 2 W ⟨some ⟨g, 0, none⟩, 1, 1, emE m⟩ → Calls Tryz.prog 52 #[.slice (some ⟨G, 0, none⟩) 3 3] W fun en w' => CcN W 65 2 n1 (fl emE (n.es.take A ++ m :: n.es.drop A)) en w') := fun W G g hW hp ho => (ConcatEn G 3 _ W (by simp) hp (fun x hx => by
   simp only [List.mem_cons, List.not_mem_nil, or_false] at hx
   rcases hx with rfl | rfl | rfl
   ·exact X1.out.below (UP.out W hW)
   ·exact ho
   ·exact X2.out.below (UP.out W hW)) (by have := HN2.out; simp [sumN]; omega)).mono (fun en w' h => cc_nw h (by have := HN2.out; rw [hn1, List.length_append, List.length_cons, List.length_take, List.length_drop]; simp [sumN]; omega) (by simp [catX, fl_take emE_len, fl_drop emE_len, fl_app, fl_cons]))
 have FIN : Hid (∀ W p1 c1, Below (w.heap.size + 1 + 1) w1 W → Nw w1 W 65 2 (.slice p1 n1 c1) n1 (fl emE (n.es.take A ++ m :: n.es.drop A)) → NdQ T w 0 (n.putN ltM 0 m) (.returned (.agg #[.slice p1 n1 c1, .slice none 0 0])) ((W.setCell ⟨(w.heap.size + 1 + 1), 0, none⟩ (.slice p1 n1 c1)).setCell ⟨(w.heap.size + 1 + 1), 1, none⟩ (.slice none 0 0))) := fun W p1 c1 hW q1 => by
  subst hn1
  show NdQ T w 0 (.mk (n.es.take (place ltM m n.es) ++ m :: n.es.drop (place ltM m n.es)) []) _ _
  rw [← HA.out]
  have z := BSZ.out
  have z1 := hb1.size
  refine fin_node (wm := w) (hs := []) (by omega) (UP.out W hW) (UP.out W hW) (fun q hq => ?_) KidsH.nil (fun _ => rfl) (fun b hb => ⟨HTT.out b (by omega), by omega⟩) q1 (nw_nil _ _ _ _) (fun _ => rfl)
  rcases List.mem_append.1 hq with hq | hq
  ·exact (HEN.out q (List.mem_of_mem_take hq)).off (by omega)
  ·rcases List.mem_cons.1 hq with rfl | hq
   ·exact HKY.out.off (by omega)
   ·exact (HEN.out q (List.mem_of_mem_drop hq)).off (by omega)
 clear hb1 BSF hn1
 have f1 := (KS.out w1 (Below.refl _ _)).2.1
 go_wp2_with fail
 clear f1
 refine wp_region_noPanic ?_
 refine wp_region_held_drew (S := fun w' : World => w'.cell? ⟨w.heap.size, 0, none⟩ = some (.slice (some ⟨gx, ox, none⟩) N c) ∧ w'.cell? ⟨w.heap.size, 1, none⟩ = some (.slice none 0 0) ∧ w'.cell? ⟨w.heap.size + 1, 0, none⟩ = some (.slice (some ⟨m.g, 0, none⟩) m.e.key.length m.c) ∧ w'.cell? ⟨w.heap.size + 1, 1, none⟩ = some (.int .u64 m.e.id)) (by kernel_rfl) (KS.out _ (Below.refl _ _).drew) (fun hH => ?_)
 refine tKx (i := 0) (v := .pointer (some ⟨w.heap.size, 0, none⟩)) rfl rfl (by kernel_rfl) (fun _ _ _ h => h) ?_ hH ?_
 ·intro w5 hSw; obtain ⟨s0, s1, s2, s3⟩ := hSw; go_simp
 simp only [zA9, zB9, zC9]
 refine tKx (i := 1) (v := .slice (some ⟨gx, ox, none⟩) N c) rfl rfl (by kernel_rfl) (fun _ _ _ h => h) ?_ hH ?_
 ·intro w5 hSw; obtain ⟨s0, s1, s2, s3⟩ := hSw; go_simp
 simp only [zA9, zB9, zC9]
 refine tKx (i := 2) (v := .int .i64 ((A : Int))) rfl rfl (by kernel_rfl) (fun _ _ _ h => h) ?_ hH ?_
 ·intro w5 hSw; obtain ⟨s0, s1, s2, s3⟩ := hSw; go_simp
 simp only [zA9, zB9, zC9]
 refine tKx (i := 3) (v := .slice (some ⟨gx, ox, none⟩) A c) rfl rfl (by kernel_rfl) (fun _ _ _ h => h) ?_ hH ?_
 ·intro w5 hSw; obtain ⟨s0, s1, s2, s3⟩ := hSw; go_simp
 simp only [zA9, zB9, zC9]
 refine tKx (i := 4) (v := .agg #[.slice (some ⟨m.g, 0, none⟩) m.e.key.length m.c, .int .u64 m.e.id]) rfl rfl (by kernel_rfl) (fun _ _ _ h => h) ?_ hH ?_
 ·intro w5 hSw; obtain ⟨s0, s1, s2, s3⟩ := hSw; go_simp
 simp only [zA9, zB9, zC9]
 refine tKx (i := 6) (v := .pointer (some ⟨w.heap.size, 0, none⟩)) rfl rfl (by kernel_rfl) (fun _ _ _ h => h) ?_ hH ?_
 ·intro w5 hSw; obtain ⟨s0, s1, s2, s3⟩ := hSw; go_simp
 simp only [zA9, zB9, zC9]
 refine tKx (i := 7) (v := .slice (some ⟨gx, ox, none⟩) N c) rfl rfl (by kernel_rfl) (fun _ _ _ h => h) ?_ hH ?_
 ·intro w5 hSw; obtain ⟨s0, s1, s2, s3⟩ := hSw; go_simp
 simp only [zA9, zB9, zC9]
 refine tKx (i := 8) (v := .int .i64 ((A : Int))) rfl rfl (by kernel_rfl) (fun _ _ _ h => h) ?_ hH ?_
 ·intro w5 hSw; obtain ⟨s0, s1, s2, s3⟩ := hSw; go_simp
 simp only [zA9, zB9, zC9]
 refine tKx (i := 9) (v := .slice VX (N - A) (c - A)) rfl rfl (by kernel_rfl) (fun _ _ _ h => h) ?_ hH ?_
 ·intro w5 hSw
  obtain ⟨s0, s1, s2, s3⟩ := hSw
  have hv := HVX.out
  by_cases hcb : c = A
  ·rw [if_pos hcb] at hv; rw [hv]; go_simp
  ·rw [if_neg hcb] at hv; rw [hv]; go_simp
 simp only [zA9, zB9, zC9]
 have KB := mkHid ((Below.refl (w.heap.size + 1 + 1) w1).drew)
 replace KF := mkHid (KF.out.below (Below.refl _ w1).drew)
 replace RC := mkHid (show w1.drew.heap[(w.heap.size + 1 + 1)]? = _ from RC.out)
 generalize hW0 : w1.drew = W0 at KB KF RC hH ⊢
 refine wpAnyH_ready (rs := [5]) (by kernel_rfl) (by simp) ?_
 refine AllReadyH.cons rfl (fun K hK => ?_) AllReadyH.nil
 ·go_simp
  refine hK.out _ _ (KS.out _ (KB.out.alloc (Nat.le_trans KM.out KB.out.size) _)) (fun hH => ?_)
  clear hK K
  have hb := (Below.refl W0.heap.size W0).alloc (Nat.le_refl _) (.cells #[.slice (some ⟨m.g, 0, none⟩) m.e.key.length m.c, .int .u64 m.e.id] 65)
  replace KF := mkHid (KF.out.below hb)
  replace RC := mkHid ((hb.block _ (lt_of_heap RC.out)).trans RC.out)
  have EO : Hid (Pc.ok 2 (W0.alloc (.cells #[.slice (some ⟨m.g, 0, none⟩) m.e.key.length m.c, .int .u64 m.e.id] 65)) ⟨some ⟨W0.heap.size, 0, none⟩, 1, 1, emE m⟩) := mkHid (pc_new W0 1 (emE m) 65 2 rfl (emE_one m))
  replace KB := mkHid (KB.out.trans (hb.mono (Nat.le_trans KM.out KB.out.size)))
  clear hb
  generalize W0.alloc (.cells #[.slice (some ⟨m.g, 0, none⟩) m.e.key.length m.c, .int .u64 m.e.id] 65) = W1 at KB KF EO RC hH ⊢
  refine wpAnyH_ready (rs := [10]) (by kernel_rfl) (by simp) ?_
  refine AllReadyH.cons rfl (fun K hK => ?_) AllReadyH.nil
  ·go_simp
   refine hK.out _ _ (KS.out _ (KB.out.alloc (Nat.le_trans KM.out KB.out.size) _)) (fun hH => ?_)
   clear hK K
   have hb := (Below.refl W1.heap.size W1).alloc (Nat.le_refl _) (.cells #[.slice (some ⟨gx, ox, none⟩) A c, .slice (some ⟨W0.heap.size, 0, none⟩) 1 1, .slice VX (N - A) (c - A)] 57)
   replace KF := mkHid (KF.out.below hb)
   replace EO := mkHid (EO.out.below hb)
   replace RC := mkHid ((hb.block _ (lt_of_heap RC.out)).trans RC.out)
   have P1 : Hid (pcsAt (W1.alloc (.cells #[.slice (some ⟨gx, ox, none⟩) A c, .slice (some ⟨W0.heap.size, 0, none⟩) 1 1, .slice VX (N - A) (c - A)] 57)) W1.heap.size [⟨some ⟨gx, ox, none⟩, A, c, (fl emE n.es).take (A * 2)⟩, ⟨some ⟨W0.heap.size, 0, none⟩, 1, 1, emE m⟩, ⟨VX, N - A, c - A, (fl emE n.es).drop (A * 2)⟩]) := mkHid (pcs_new W1 [⟨some ⟨gx, ox, none⟩, A, c, (fl emE n.es).take (A * 2)⟩, ⟨some ⟨W0.heap.size, 0, none⟩, 1, 1, emE m⟩, ⟨VX, N - A, c - A, (fl emE n.es).drop (A * 2)⟩] 57)
   replace KB := mkHid (KB.out.trans (hb.mono (Nat.le_trans KM.out KB.out.size)))
   clear hb
   generalize W1.alloc (.cells #[.slice (some ⟨gx, ox, none⟩) A c, .slice (some ⟨W0.heap.size, 0, none⟩) 1 1, .slice VX (N - A) (c - A)] 57) = W2 at KB KF EO P1 RC hH ⊢
   refine wpAnyH_ready (rs := [11]) (by kernel_rfl) (by simp) ?_
   refine AllReadyH.cons rfl (fun K hK => ?_) AllReadyH.nil
   ·go_simp
    go_at_call 52
    refine (CE.out _ _ _ KB.out P1.out EO.out).mono ?_
    rintro e W3 ⟨p1, c1, rfl, k1, _, hb⟩
    go_wp2_with fail
    refine hK.out _ _ (KS.out _ (KB.out.trans (hb.mono (Nat.le_trans KM.out KB.out.size)))) (fun hH => ?_)
    clear hK K
    clear P1
    clear EO
    replace KF := mkHid (KF.out.below hb)
    replace RC := mkHid ((hb.block _ (lt_of_heap RC.out)).trans RC.out)
    have N1 := mkHid (k1.lower KB.out.size)
    replace KB := mkHid (KB.out.trans (hb.mono (Nat.le_trans KM.out KB.out.size)))
    clear hb
    refine tKx (i := 12) (v := .agg #[.slice p1 n1 c1, .slice none 0 0]) rfl rfl (by kernel_rfl) (fun _ _ _ h => h) ?_ hH ?_
    ·intro w5 hSw; obtain ⟨s0, s1, s2, s3⟩ := hSw; go_simp
    simp only [zA9, zB9, zC9]
    refine wpAnyH_ready (rs := [13]) (by kernel_rfl) (by simp) ?_
    refine AllReadyH.cons rfl (fun K hK => ?_) AllReadyH.nil
    ·have q0 : W3.cell? ⟨(w.heap.size + 1 + 1), 0, none⟩ = some (.slice none 0 0) := (cell_of_block RC.out 0).trans rfl
     have q1 : W3.cell? ⟨(w.heap.size + 1 + 1), 1, none⟩ = some (.slice none 0 0) := (cell_of_block RC.out 1).trans rfl
     have y0 := unfrozen_of_block RC.out 0
     have y1 := unfrozen_of_block RC.out 1
     go_simp
     refine hK.out _ _ (KS.out _ (below_set (below_set KB.out ⟨(w.heap.size + 1 + 1), 0, none⟩ (.slice p1 n1 c1) (Nat.le_refl _)) ⟨(w.heap.size + 1 + 1), 1, none⟩ (.slice none 0 0) (Nat.le_refl _))) (fun hH => ?_)
     clear hK K
     refine wpAnyH_done (by kernel_rfl) ?_ _
     refine NoPanic.normal ?_
     have FN := FIN.out W3 _ _ KB.out N1.out
     clear N1 KB RC KS hH KF
     go_wp2_with fail
     refine bodyPost_ret (v := .agg #[.slice p1 n1 c1, .slice none 0 0]) (by simp [results, Tryz.results24, go_sem, q0, q1]) rfl ?_
     exact FN
end Go.Proofs.YtclcajnodoifjaaGreatDoor

