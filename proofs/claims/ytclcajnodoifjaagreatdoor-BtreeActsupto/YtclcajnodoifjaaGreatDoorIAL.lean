/-
 The walks of sort.Search and of reach with its closures.
-/
import Derived.Test.YtclcajnodoifjaaGreatDoorIAK
import Derived.RangeFuncNested
import Derived.RangeFuncBound
import Derived.RangeFuncCalls
import Derived.RangeFuncLeaves
import Derived.Shelf.Abstract
import Derived.Shelf.RegionOpen
import Derived.OwnWalkIn
import Derived.TacticsInMore
import Derived.LoopNIn
import Derived.LoopIn
import Derived.RangeFuncFrom
namespace Go.Proofs.YtclcajnodoifjaaGreatDoor
open Go.RowKit Go.Shelf Go.Joins Go.Maps
set_option maxRecDepth 100000

structure SeI (q : Nat → Bool) (N i j : Nat) : Prop where
 le : i ≤ j
 hi : j ≤ N
 lo : ∀ k, k < i → q k = false
 up : ∀ k, j ≤ k → k < N → q k = true
/-- what a search answers -/
def SeQ (q : Nat → Bool) (N : Nat) (w : World) (e : Ending) (w' : World) : Prop := ∃ r : Nat, e = .returned (.int .i64 (r : Int)) ∧ r ≤ N ∧ (∀ k, k < r → q k = false) ∧ (∀ k, r ≤ k → k < N → q k = true) ∧ Below w.heap.size w w'
set_option maxHeartbeats 8000000 in
set_option maxRecDepth 1000000 in
theorem Search_any (N : Nat) (q : Nat → Bool) (g : Nat) (lb : Array Value) (eg : ∀ args w, (callFunc g args).run Tryz.prog w = .ok (.enter g args) w) (w : World) (hN : N ≤ 1000) (hm : ∀ i j, i ≤ j → j < N → q i = true → q j = true)
  (hp : Hid (∀ (W : World) (i : Nat), i < N → Below w.heap.size w W → Calls Tryz.prog g (#[.int .i64 (i : Int)] ++ lb) W fun e w' => e = .returned (.bool (q i)) ∧ Below W.heap.size W w')) :
  Calls Tryz.prog 93 #[.int .i64 (N : Int), .func (.func g) #[] lb] w fun e w' => SeQ q N w e w' := by
 have HMM := mkHid hm
 have I0 : Hid (SeI q N 0 N) := ⟨Nat.zero_le _, Nat.le_refl _, fun k h => by omega, fun k h1 h2 => by omega⟩
 clear hm
 go_enter Tryz.func93, Tryz.ntmps93
 go_wp2_with fail
 go_loopw [5, 6] (fun s5 s6 wr => ∃ i j : Nat, s5 = .int .i64 i ∧ s6 = .int .i64 j ∧ i ≤ j ∧ j ≤ N ∧ Hid (SeI q N i j) ∧ Hid (Below w.heap.size w wr)) (fun s5 s6 _ => (intOf s6).toNat - (intOf s5).toNat)
 case atStart => exact ⟨0, N, rfl, rfl, Nat.zero_le _, Nat.le_refl _, I0, Below.refl _ _⟩
 case round =>
  obtain ⟨i, j, rfl, rfl, hij, hjN, hI, hb⟩ := hrel
  clear I0
  by_cases hlt : i < j
  ·obtain ⟨m, hm⟩ : ∃ m, m = (i + j) / 2 := ⟨_, rfl⟩
   have hcall := hp.out wr m (by omega) hb.out
   have hmi : ((i : Int) + (j : Int)) / 2 = (m : Int) := by omega
   have him : i ≤ m := by omega
   have hmj : m < j := by omega
   have HB2 : ∀ w2, Below wr.heap.size wr w2 → Hid (Below w.heap.size w w2) := fun w2 h2 => hb.out.trans (h2.mono hb.out.size)
   have hmm : m ≤ 1000 := by omega
   clear hm hp
   cases hq : q m with
   | true =>
    rw [hq] at hcall
    have NX : Hid (SeI q N i m) := ⟨him, by omega, hI.out.lo, fun k h1 h2 => HMM.out m k h1 h2 hq⟩
    go_wp2_with (go_at_fn g; refine hcall.mono ?_; rintro e w1 ⟨rfl, hb1⟩)
    go_roundw
    case rel => exact ⟨i, m, rfl, by go_num, him, by omega, NX, HB2 _ hb1⟩
    case measure => simp [intOf]; omega
   | false =>
    rw [hq] at hcall
    have NX0 : ∀ k, k < m + 1 → q k = false := fun k h1 => by
     cases hk : q k with
     | false => rfl
     | true =>
      have := HMM.out k m (by omega) (by omega) hk
      rw [hq] at this
      cases this
    have NX : Hid (SeI q N (m + 1) j) := ⟨hmj, hjN, NX0, hI.out.up⟩
    clear NX0
    go_wp2_with (go_at_fn g; refine hcall.mono ?_; rintro e w1 ⟨rfl, hb1⟩)
    go_roundw
    case rel => exact ⟨m + 1, j, by go_num, rfl, hmj, hjN, NX, HB2 _ hb1⟩
    case measure => simp [intOf]; omega
  ·obtain rfl : i = j := by omega
   have HQ : SeQ q N w (.returned (.int .i64 (i : Int))) wr := ⟨i, rfl, hjN, hI.out.lo, hI.out.up, hb.out⟩
   clear hI hb hp HMM
   go_wp2_with fail
   go_ret
   exact HQ
/-- a span in memory: its two functions, and what they tell of entries that lie in T -/
structure EndOk (T : Nat → Prop) (w : World) (f : Nat) (lb : Array Value) (p : En → Bool) : Prop where
 enters : ∀ args w, (callFunc f args).run Tryz.prog w = .ok (.enter f args) w
 tells : ∀ (W : World) (q : Em), Keeps T w W → KeyOk T W q → Calls Tryz.prog f (#[emV q] ++ lb) W fun e w' => e = .returned (.bool (p q.e)) ∧ Below W.heap.size W w'
theorem EndOk.keeps {T : Nat → Prop} {w w' : World} {f : Nat} {lb : Array Value} {p : En → Bool} (h : EndOk T w f lb p) (hk : Keeps T w w') : EndOk T w' f lb p := ⟨h.enters, fun W q hW hq => h.tells W q (hk.trans hW) hq⟩
set_option maxHeartbeats 8000000 in
set_option maxRecDepth 1000000 in
theorem reach1_any (T : Nat → Prop) (es : List Em) (p : Option Addr) (N c i : Nat) (v2 : Value) (fl_ fh : Nat) (ll lh : Array Value) (lo : En → Bool) (q : Em) (b1 b2 : Nat) (w w9 : World) (hq : es[i]? = some q) (h : entIn T w es (.slice p N c)) (hN : N = es.length) (hi : N ≤ 1000) (he : EndOk T w9 fl_ ll lo) (h9 : Keeps T w9 w) (hb1 : w.heap[b1]? = some (.cells #[.func (.func fl_) #[] ll, .func (.func fh) #[] lh] 72 (0, 0))) (hb2 : w.heap[b2]? = some (.cells #[.slice p N c, v2] 60 (0, 0))) :
  Calls Tryz.prog 94 #[.int .i64 (i : Int), .pointer (some ⟨b1, 0, none⟩), .pointer (some ⟨b2, 0, none⟩)] w fun e w' => e = .returned (.bool (lo q.e)) ∧ Below w.heap.size w w' := by
 have hil := (List.getElem?_eq_some_iff.1 hq).1
 obtain ⟨⟨p', N', c', xs⟩, x1, x2, x3, x4, x5⟩ := h.pc
 simp only [Pc.v, Value.slice.injEq] at x1
 obtain ⟨rfl, rfl, rfl⟩ := x1
 obtain ⟨gx, ox, rfl⟩ := pc_some x4 (by omega)
 obtain ⟨u0, u1, u2, u3⟩ := ndIn.entry (d := 0) (n := .mk es []) (v2 := .slice none 0 0) ⟨h, rfl, rfl⟩ hq
 have eg := he.enters
 have CM : Hid (∀ W, Below w.heap.size w W → Calls Tryz.prog fl_ (#[.agg #[.slice (some ⟨q.g, 0, none⟩) q.e.key.length q.c, .int .u64 q.e.id]] ++ ll) W fun e w' => e = .returned (.bool (lo q.e)) ∧ Below W.heap.size W w') := fun W hW => he.tells W q (h9.trans (Keeps.of_below hW)) (u2.keeps (Keeps.of_below hW))
 have c0 : w.cell? ⟨b1, 0, none⟩ = some (.func (.func fl_) #[] ll) := (cell_of_block hb1 0).trans rfl
 have c1 : w.cell? ⟨b2, 0, none⟩ = some (.slice (some ⟨gx, ox, none⟩) N c) := (cell_of_block hb2 0).trans rfl
 have l1 := lt_of_heap hb1
 have l2 := lt_of_heap hb2
 have i1 : (i : Int) < (N : Int) := by omega
 have i2 : (0 : Int) ≤ (i : Int) := by omega
 clear h he h9 hb1 hb2 hq x2 x3 x4 x5 hN u2 hil
 generalize lo q.e = LB at *
 go_enter Tryz.func94, Tryz.ntmps94
 go_wp2_with fail
 go_region_held3 (fun w' => w'.cell? ⟨gx, ox + i * 2, none⟩ = some (.slice (some ⟨q.g, 0, none⟩) q.e.key.length q.c) ∧ w'.cell? ⟨gx, ox + i * 2 + 1, none⟩ = some (.int .u64 q.e.id) ∧ w'.cell? ⟨b1, 0, none⟩ = some (.func (.func fl_) #[] ll) ∧ w'.cell? ⟨b2, 0, none⟩ = some (.slice (some ⟨gx, ox, none⟩) N c)) (first | go_keep | exact ⟨(hb2.cell (p := ⟨gx, ox + i * 2, none⟩) u3).trans u0, (hb2.cell (p := ⟨gx, ox + i * 2 + 1, none⟩) u3).trans u1, (hb2.cell (p := ⟨b1, 0, none⟩) l1).trans c0, (hb2.cell (p := ⟨b2, 0, none⟩) l2).trans c1⟩) ((go_at_fn fl_; refine (CM.out _ (by exact (Below.refl _ w).drew)).mono ?_; rintro e w2 ⟨rfl, hb2⟩))
 go_wp2_with fail
 go_ret
 exact ⟨rfl, (Below.refl _ w).drew.trans hb2⟩
set_option maxHeartbeats 8000000 in
set_option maxRecDepth 1000000 in
theorem reach2_any (T : Nat → Prop) (es : List Em) (p : Option Addr) (N c i : Nat) (v2 : Value) (fl_ fh : Nat) (ll lh : Array Value) (lo : En → Bool) (q : Em) (b1 b2 : Nat) (w w9 : World) (hq : es[i]? = some q) (h : entIn T w es (.slice p N c)) (hN : N = es.length) (hi : N ≤ 1000) (he : EndOk T w9 fh lh lo) (h9 : Keeps T w9 w) (hb1 : w.heap[b1]? = some (.cells #[.func (.func fl_) #[] ll, .func (.func fh) #[] lh] 72 (0, 0))) (hb2 : w.heap[b2]? = some (.cells #[.slice p N c, v2] 60 (0, 0))) :
  Calls Tryz.prog 95 #[.int .i64 (i : Int), .pointer (some ⟨b1, 0, none⟩), .pointer (some ⟨b2, 0, none⟩)] w fun e w' => e = .returned (.bool (!(lo q.e))) ∧ Below w.heap.size w w' := by
 have hil := (List.getElem?_eq_some_iff.1 hq).1
 obtain ⟨⟨p', N', c', xs⟩, x1, x2, x3, x4, x5⟩ := h.pc
 simp only [Pc.v, Value.slice.injEq] at x1
 obtain ⟨rfl, rfl, rfl⟩ := x1
 obtain ⟨gx, ox, rfl⟩ := pc_some x4 (by omega)
 obtain ⟨u0, u1, u2, u3⟩ := ndIn.entry (d := 0) (n := .mk es []) (v2 := .slice none 0 0) ⟨h, rfl, rfl⟩ hq
 have eg := he.enters
 have CM : Hid (∀ W, Below w.heap.size w W → Calls Tryz.prog fh (#[.agg #[.slice (some ⟨q.g, 0, none⟩) q.e.key.length q.c, .int .u64 q.e.id]] ++ lh) W fun e w' => e = .returned (.bool (lo q.e)) ∧ Below W.heap.size W w') := fun W hW => he.tells W q (h9.trans (Keeps.of_below hW)) (u2.keeps (Keeps.of_below hW))
 have c0 : w.cell? ⟨b1, 1, none⟩ = some (.func (.func fh) #[] lh) := (cell_of_block hb1 1).trans rfl
 have c1 : w.cell? ⟨b2, 0, none⟩ = some (.slice (some ⟨gx, ox, none⟩) N c) := (cell_of_block hb2 0).trans rfl
 have l1 := lt_of_heap hb1
 have l2 := lt_of_heap hb2
 have i1 : (i : Int) < (N : Int) := by omega
 have i2 : (0 : Int) ≤ (i : Int) := by omega
 clear h he h9 hb1 hb2 hq x2 x3 x4 x5 hN u2 hil
 generalize lo q.e = LB at *
 go_enter Tryz.func95, Tryz.ntmps95
 go_wp2_with fail
 go_region_held3 (fun w' => w'.cell? ⟨gx, ox + i * 2, none⟩ = some (.slice (some ⟨q.g, 0, none⟩) q.e.key.length q.c) ∧ w'.cell? ⟨gx, ox + i * 2 + 1, none⟩ = some (.int .u64 q.e.id) ∧ w'.cell? ⟨b1, 1, none⟩ = some (.func (.func fh) #[] lh) ∧ w'.cell? ⟨b2, 0, none⟩ = some (.slice (some ⟨gx, ox, none⟩) N c)) (first | go_keep | exact ⟨(hb2.cell (p := ⟨gx, ox + i * 2, none⟩) u3).trans u0, (hb2.cell (p := ⟨gx, ox + i * 2 + 1, none⟩) u3).trans u1, (hb2.cell (p := ⟨b1, 1, none⟩) l1).trans c0, (hb2.cell (p := ⟨b2, 0, none⟩) l2).trans c1⟩) ((go_at_fn fh; refine (CM.out _ (by exact (Below.refl _ w).drew)).mono ?_; rintro e w2 ⟨rfl, hb2⟩))
 go_wp2_with fail
 go_ret
 exact ⟨rfl, (Below.refl _ w).drew.trans hb2⟩
set_option maxHeartbeats 8000000 in
set_option maxRecDepth 1000000 in
theorem reach_any (T : Nat → Prop) (es : List Em) (p : Option Addr) (N c : Nat) (p2 : Option Addr) (n2 c2 : Nat) (fl_ fh : Nat) (ll lh : Array Value) (lo hi : En → Bool) (w : World) (h : entIn T w es (.slice p N c)) (hN : N = es.length) (hi1 : N ≤ 1000) (hr : Rise ltM es) (he : EndOk T w fl_ ll lo) (hf : EndOk T w fh lh hi) (hs : Span ltM (fun q => lo q.e) (fun q => hi q.e)) :
  Calls Tryz.prog 86 #[.agg #[.slice p N c, .slice p2 n2 c2], .agg #[.func (.func fl_) #[] ll, .func (.func fh) #[] lh]] w fun e w' => e = .returned (.tuple #[.int .i64 (from_ (fun q => lo q.e) es : Int), .int .i64 (to_ (fun q => hi q.e) es : Int)]) ∧ Below w.heap.size w w' := by
 obtain ⟨w0, hw0⟩ : ∃ w0, w0 = (w.alloc (.cells #[.slice p N c, .slice p2 n2 c2] 60)).alloc (.cells #[.func (.func fl_) #[] ll, .func (.func fh) #[] lh] 72) := ⟨_, rfl⟩
 obtain ⟨d0, d1, bb, bs⟩ := bx2 w (.cells #[.slice p N c, .slice p2 n2 c2] 60) (.cells #[.func (.func fl_) #[] ll, .func (.func fh) #[] lh] 72)
 rw [← hw0] at d0 d1 bb bs
 obtain ⟨FR, hFR⟩ : ∃ FR, FR = from_ (fun q : Em => lo q.e) es := ⟨_, rfl⟩
 obtain ⟨TO, hTO⟩ : ∃ TO, TO = to_ (fun q : Em => hi q.e) es := ⟨_, rfl⟩
 rw [← hFR, ← hTO]
 have eg1 : ∀ args w, (callFunc 94 args).run Tryz.prog w = .ok (.enter 94 args) w := enters_of Tryz.func94 (by kernel_rfl) rfl
 have eg2 : ∀ args w, (callFunc 95 args).run Tryz.prog w = .ok (.enter 95 args) w := enters_of Tryz.func95 (by kernel_rfl) rfl
 have S1 : Hid (∀ W0, Below w0.heap.size w0 W0 → Calls Tryz.prog 93 #[.int .i64 (N : Int), .func (.func 94) #[] #[.pointer (some ⟨w.heap.size + 1, 0, none⟩), .pointer (some ⟨w.heap.size, 0, none⟩)]] W0 fun e w' => e = .returned (.int .i64 (FR : Int)) ∧ Below W0.heap.size W0 w') := fun W0 hW0 => by
  refine (Search_any N (fun i => match es[i]? with | some q => lo q.e | none => false) _ _ eg1 W0 hi1 (fun i j hij hj hq => ?_) (fun W i hi hW => ?_)).mono (fun e w' hq => ?_)
  ·have gi := List.getElem?_eq_getElem (l := es) (i := i) (by omega)
   have gj := List.getElem?_eq_getElem (l := es) (i := j) (by omega)
   simp only [gi] at hq
   simp only [gj]
   rcases Nat.lt_or_ge i j with h1 | h1
   ·exact hs.up (List.pairwise_iff_getElem.1 hr i j (by omega) (by omega) h1) hq
   ·obtain rfl : i = j := by omega
    exact hq
  ·have gi := List.getElem?_eq_getElem (l := es) (i := i) (by omega)
   simp only [gi]
   have bW : Below w0.heap.size w0 W := hW0.trans (hW.mono hW0.size)
   have bw : Below w.heap.size w W := bb.trans (bW.mono bb.size)
   exact reach1_any T es p N c i _ fl_ fh ll lh lo _ _ _ W w gi (h.keeps (Keeps.of_below bw)) hN hi1 he (Keeps.of_below bw) ((bW.block _ (lt_of_heap d1)).trans d1) ((bW.block _ (lt_of_heap d0)).trans d0)
  ·obtain ⟨r, rfl, h1, h2, h3, h4⟩ := hq
   refine ⟨?_, h4⟩
   rw [hFR, from_is (p := fun q : Em => lo q.e) (l := es) (i := r) (by omega) (fun j y hj hy => by have := h2 j hj; simp only [hy] at this; exact this) (fun y hy => by have := h3 r (Nat.le_refl _) (by rw [hN]; exact (List.getElem?_eq_some_iff.1 hy).1); simp only [hy] at this; exact this)]
 have S2 : Hid (∀ W0, Below w0.heap.size w0 W0 → Calls Tryz.prog 93 #[.int .i64 (N : Int), .func (.func 95) #[] #[.pointer (some ⟨w.heap.size + 1, 0, none⟩), .pointer (some ⟨w.heap.size, 0, none⟩)]] W0 fun e w' => e = .returned (.int .i64 (TO : Int)) ∧ Below W0.heap.size W0 w') := fun W0 hW0 => by
  refine (Search_any N (fun i => match es[i]? with | some q => !(hi q.e) | none => false) _ _ eg2 W0 hi1 (fun i j hij hj hq => ?_) (fun W i hi' hW => ?_)).mono (fun e w' hq => ?_)
  ·have gi := List.getElem?_eq_getElem (l := es) (i := i) (by omega)
   have gj := List.getElem?_eq_getElem (l := es) (i := j) (by omega)
   simp only [gi] at hq
   simp only [gj]
   rcases Nat.lt_or_ge i j with h1 | h1
   ·exact hs.up' _ _ (List.pairwise_iff_getElem.1 hr i j (by omega) (by omega) h1) hq
   ·obtain rfl : i = j := by omega
    exact hq
  ·have gi := List.getElem?_eq_getElem (l := es) (i := i) (by omega)
   simp only [gi]
   have bW : Below w0.heap.size w0 W := hW0.trans (hW.mono hW0.size)
   have bw : Below w.heap.size w W := bb.trans (bW.mono bb.size)
   exact reach2_any T es p N c i _ fl_ fh ll lh hi _ _ _ W w gi (h.keeps (Keeps.of_below bw)) hN hi1 hf (Keeps.of_below bw) ((bW.block _ (lt_of_heap d1)).trans d1) ((bW.block _ (lt_of_heap d0)).trans d0)
  ·obtain ⟨r, rfl, h1, h2, h3, h4⟩ := hq
   refine ⟨?_, h4⟩
   rw [hTO]
   unfold to_
   rw [from_is (p := fun q : Em => !(hi q.e)) (l := es) (i := r) (by omega) (fun j y hj hy => by have := h2 j hj; simp only [hy] at this; exact this) (fun y hy => by have := h3 r (Nat.le_refl _) (by rw [hN]; exact (List.getElem?_eq_some_iff.1 hy).1); simp only [hy] at this; exact this)]
 have BB := mkHid bb
 have D0 := mkHid d0
 have c0 : w0.cell? ⟨w.heap.size, 0, none⟩ = some (.slice p N c) := (cell_of_block d0 0).trans rfl
 have HW0 := mkHid hw0
 clear h hN hr he hf hs d0 d1 bb bs hw0 hFR hTO eg1 eg2
 go_enter Tryz.func86, Tryz.ntmps86
 go_wp2_with fail
 rw [← HW0.out]
 clear HW0
 refine (S1.out _ (Below.refl _ _)).mono ?_
 rintro e w1 ⟨rfl, hb1⟩
 have c1 : w1.cell? ⟨w.heap.size, 0, none⟩ = some (.slice p N c) := (hb1.cell (p := ⟨w.heap.size, 0, none⟩) (lt_of_heap D0.out)).trans c0
 have HB1 := mkHid hb1
 clear hb1 c0
 go_wp2_with fail
 refine (S2.out _ HB1.out).mono ?_
 rintro e w2 ⟨rfl, hb2⟩
 have FN := mkHid (BB.out.trans ((HB1.out.trans (hb2.mono HB1.out.size)).mono BB.out.size))
 clear hb2 c1
 go_wp2_with fail
 go_ret2
 exact ⟨rfl, FN.out⟩
end Go.Proofs.YtclcajnodoifjaaGreatDoor

namespace Go.Proofs.YtclcajnodoifjaaGreatDoor
open Go.RowKit Go.Shelf Go.Joins Go.Maps
set_option maxRecDepth 100000

theorem takeF_at {F : Fence} {n : Nat} {P : Program} {ops : Array Oper} {Q : Exit → Act → World → Prop} {md : Region.Mode} {i d : Nat} {oi : Oper} {v : Value} {fuel : Nat} {listed : Array Bool} {ts : Array Value} {df : List Deferred} {w : World} (hro : F.round = none) (hi : ops[i]? = some oi) (hd : oi.dst = some d)
  (hs : Region.noSelect ops = true) (hf : Region.free md ops listed i = true) (hr : (Region.ready md ops listed).contains i = true)
  (hQ : ∀ c a w, Q (.panic c) (a.put oi.dst v) w → Q (.panic c) a w) (hy : YieldsFenced P ops oi v ⟨ts, df⟩)
  (h : wpAnyIn F n P md ops Q fuel (listed.setIfInBounds i true) ⟨ts.setIfInBounds d v, df⟩ w) : wpAnyIn F n P md ops Q (fuel + 1) listed ⟨ts, df⟩ w :=
 wpAnyIn_take hro hi hs hf hr hQ hy (by rw [hd]; exact h)
/-- what is handed a round: whether it goes on, and what it leaves -/
structure YldIn (T Y : Nat → Prop) (l : Nat) (J Jx : List Em → World → Prop) (Tot : List Em) : Prop where
 does : ∀ (m : Nat) (pre post : List Em) (q : Em) (W : World), Tot = pre ++ q :: post → J pre W → KeyOk T W q → YieldAt Fence.wide m Tryz.prog l #[emV q] W fun e w' => (e = .returned (.bool true) ∧ J (pre ++ [q]) w' ∧ Keeps (fun b => ¬ Y b) W w') ∨ (e = .returned (.bool false) ∧ Jx (pre ++ [q]) w')
 keeps : ∀ (pre : List Em) (W W' : World), J pre W → Below W.heap.size W W' → J pre W'
 off : ∀ b, Y b → ¬ T b
/-- all were handed over, or a round said no more -/
def RiN (Y : Nat → Prop) (J Jx : List Em → World → Prop) (pre L : List Em) (w : World) (e : Ending) (w' : World) : Prop := (e = .returned (.bool true) ∧ J (pre ++ L) w' ∧ Keeps (fun b => ¬ Y b) w w') ∨ (e = .returned (.bool false) ∧ ∃ l1 l2, L = l1 ++ l2 ∧ Jx (pre ++ l1) w')
theorem kp_keeps {T Y : Nat → Prop} {w w' : World} (h : Keeps (fun b => ¬ Y b) w w') (ho : ∀ b, Y b → ¬ T b) : Keeps T w w' := ⟨h.1, fun b cs t z hb hc => h.2 b cs t z (fun hy => ho b hy hb) hc⟩
/-- on the way through a node, i entries on -/
structure RnI (Y : Nat → Prop) (J : List Em → World → Prop) (pre L : List Em) (rest : Nat → List Em) (TO i : Nat) (w wr : World) : Prop where
 kept : Keeps (fun b => ¬ Y b) w wr
 done : ∃ dn, L = dn ++ (if i ≤ TO then rest i else []) ∧ J (pre ++ dn) wr
end Go.Proofs.YtclcajnodoifjaaGreatDoor

namespace Go.Proofs.YtclcajnodoifjaaGreatDoor
open Go.RowKit Go.Shelf Go.Joins Go.Maps
set_option maxRecDepth 100000

theorem keepsK_b {T : Nat → Prop} {W : World} {l : Nat} {o o' : Obj} (h : W.heap[l]? = some o) (ho : o.isCells = false) : Keeps T W (W.putObj l o') := by
 refine ⟨by simp, fun b cs t z _ hb => ?_⟩
 by_cases e : l = b
 ·subst e
  rw [h] at hb
  cases hb
  cases ho
 ·exact (World.putObj_heap_other (fun h => e h.symm)).trans hb
/-- what is not of X stays as it is: X tells by a block's number and its cells' type -/
def KeepU (X : Nat → Nat → Prop) (w w' : World) : Prop := w.heap.size ≤ w'.heap.size ∧ ∀ b cs t z, ¬ X b t → w.heap[b]? = some (.cells cs t z) → w'.heap[b]? = some (.cells cs t z)
theorem KeepU.of_below {X : Nat → Nat → Prop} {w w' : World} (h : Below w.heap.size w w') : KeepU X w w' := ⟨h.size, fun b _ _ _ _ hb => (h.block b (lt_of_heap hb)).trans hb⟩
theorem KeepU.trans {X : Nat → Nat → Prop} {a b c : World} (h : KeepU X a b) (k : KeepU X b c) : KeepU X a c := ⟨Nat.le_trans h.1 k.1, fun i _ _ _ ht hi => k.2 i _ _ _ ht (h.2 i _ _ _ ht hi)⟩
theorem ku_keeps {T : Nat → Prop} {X : Nat → Nat → Prop} {w w' : World} (h : KeepU X w w') (ho : ∀ b t, T b → ¬ X b t) : Keeps T w w' := ⟨h.1, fun b cs t z hb hc => h.2 b cs t z (ho b t hb) hc⟩
theorem keepU_b {X : Nat → Nat → Prop} {W : World} {l : Nat} {o o' : Obj} (h : W.heap[l]? = some o) (ho : o.isCells = false) : KeepU X W (W.putObj l o') := (keepsK_b (T := fun _ => True) h ho).elim (fun h1 h2 => ⟨h1, fun b cs t z _ => h2 b cs t z trivial⟩)
/-- what is handed a round: whether it goes on, and what it leaves -/
structure YldIU (T : Nat → Prop) (X : Nat → Nat → Prop) (l : Nat) (J Jx : List Em → World → Prop) (Tot : List Em) : Prop where
 does : ∀ (m : Nat) (pre post : List Em) (q : Em) (W : World), Tot = pre ++ q :: post → J pre W → KeyOk T W q → YieldAt Fence.wide m Tryz.prog l #[emV q] W fun e w' => (e = .returned (.bool true) ∧ J (pre ++ [q]) w' ∧ KeepU X W w') ∨ (e = .returned (.bool false) ∧ Jx (pre ++ [q]) w')
 keeps : ∀ (pre : List Em) (W W' : World), J pre W → Below W.heap.size W W' → J pre W'
 off : ∀ b t, T b → ¬ X b t
def RiU (X : Nat → Nat → Prop) (J Jx : List Em → World → Prop) (pre L : List Em) (w : World) (e : Ending) (w' : World) : Prop := (e = .returned (.bool true) ∧ J (pre ++ L) w' ∧ KeepU X w w') ∨ (e = .returned (.bool false) ∧ ∃ l1 l2, L = l1 ++ l2 ∧ Jx (pre ++ l1) w')
structure RnU (X : Nat → Nat → Prop) (J : List Em → World → Prop) (pre L : List Em) (rest : Nat → List Em) (TO i : Nat) (w wr : World) : Prop where
 kept : KeepU X w wr
 done : ∃ dn, L = dn ++ (if i ≤ TO then rest i else []) ∧ J (pre ++ dn) wr
set_option maxHeartbeats 8000000 in
set_option maxRecDepth 1000000 in
theorem rise_leaf_in_u (T : Nat → Prop) (X : Nat → Nat → Prop) (fl_ fh yl : Nat) (ll lh : Array Value) (lo hi : En → Bool) (J Jx : List Em → World → Prop) (Tot : List Em) (fuel : Nat) (n : Nd Em) (v1 v2 : Value) (l h : Nat) (pre post : List Em) (w : World) (hn : ndIn T w 0 n v1 v2) (hw : n.wf 0 l h) (z1 : n.es.length ≤ 100) (hr : Rise ltM n.fl) (he : EndOk T w fl_ ll lo) (hf : EndOk T w fh lh hi) (hs : Span ltM (fun q => lo q.e) (fun q => hi q.e)) (hy : YldIU T X yl J Jx Tot) (hTot : Tot = pre ++ (within (fun q : Em => lo q.e) (fun q : Em => hi q.e) n.fl ++ post)) (h0 : J pre w) (hY : ∀ b t, X b t → b < w.heap.size ∨ t = 31) :
  CallsIn Fence.wide fuel Tryz.prog 64 #[.agg #[v1, v2], .agg #[.func (.func fl_) #[] ll, .func (.func fh) #[] lh], .func (.yield yl) #[] #[]] w fun e w' => RiU X J Jx pre (within (fun q : Em => lo q.e) (fun q : Em => hi q.e) n.fl) w e w' := by
 have hv2 := hn.2.2
 subst hv2
 obtain ⟨p, c, p2', c2', rfl, hx2⟩ := hn.slices
 clear hx2 p2' c2'
 rw [fl_zero hw] at hr hTot ⊢
 obtain ⟨N, hN⟩ : ∃ N, N = n.es.length := ⟨_, rfl⟩
 rw [← hN] at hn ⊢
 obtain ⟨FR, hFR⟩ : ∃ FR, FR = from_ (fun q : Em => lo q.e) n.es := ⟨_, rfl⟩
 obtain ⟨TO, hTO⟩ : ∃ TO, TO = to_ (fun q : Em => hi q.e) n.es := ⟨_, rfl⟩
 obtain ⟨L, hL⟩ : ∃ L, L = within (fun q : Em => lo q.e) (fun q : Em => hi q.e) n.es := ⟨_, rfl⟩
 rw [← hL] at hTot ⊢
 have lFR : FR ≤ N := by rw [hFR, hN]; exact from_le _ _
 have lTO : TO ≤ N := by rw [hTO, hN]; exact from_le _ _
 obtain ⟨w0, hw0⟩ : ∃ w0, w0 = (w.alloc (.cells #[.slice p N c, .slice none 0 0] 60)).alloc (.cells #[.func (.func fl_) #[] ll, .func (.func fh) #[] lh] 72) := ⟨_, rfl⟩
 obtain ⟨d0, d1, bb, bs⟩ := bx2 w (.cells #[.slice p N c, .slice none 0 0] 60) (.cells #[.func (.func fl_) #[] ll, .func (.func fh) #[] lh] 72)
 rw [← hw0] at d0 d1 bb bs
 have RCH : Hid (∀ k, CallsIn Fence.wide k Tryz.prog 86 #[.agg #[.slice p N c, .slice none 0 0], .agg #[.func (.func fl_) #[] ll, .func (.func fh) #[] lh]] w0 fun e w' => e = .returned (.tuple #[.int .i64 (FR : Int), .int .i64 (TO : Int)]) ∧ Below w0.heap.size w0 w') := fun k => by
  rw [hFR, hTO]
  exact callsIn_wide.2 (reach_any T n.es p N c none 0 0 fl_ fh ll lh lo hi w0 (hn.ent.keeps (Keeps.of_below bb)) hN (by omega) hr (he.keeps (Keeps.of_below bb)) (hf.keeps (Keeps.of_below bb)) hs)
 have RB : Hid (L = if FR ≤ TO then within (fun q : Em => lo q.e) (fun q : Em => hi q.e) (n.es.drop FR) else []) := by
  show L = _
  split
  ·rw [hL, leaf_begin, ← hFR]
  ·rename_i hc
   rw [hL, leaf_begin, ← hFR]
   exact leaf_behind hs hr (by rw [← hTO]; omega)
 have RS : Hid (∀ i q, FR ≤ i → i < TO → n.es[i]? = some q → within (fun q : Em => lo q.e) (fun q : Em => hi q.e) (n.es.drop i) = q :: within (fun q : Em => lo q.e) (fun q : Em => hi q.e) (n.es.drop (i + 1))) := fun i q h1 h2 hq => leaf_step hs hr hq (by rw [← hFR]; exact h1) (by rw [← hTO]; exact h2)
 have RE : Hid (within (fun q : Em => lo q.e) (fun q : Em => hi q.e) (n.es.drop TO) = []) := leaf_behind hs hr (by rw [← hTO]; exact Nat.le_refl _)
 obtain ⟨rest, hrest⟩ : ∃ rest : Nat → List Em, rest = fun i => within (fun q : Em => lo q.e) (fun q : Em => hi q.e) (n.es.drop i) := ⟨_, rfl⟩
 replace RB : Hid (L = if FR ≤ TO then rest FR else []) := by rw [hrest]; exact RB
 replace RS : Hid (∀ i q, FR ≤ i → i < TO → n.es[i]? = some q → rest i = q :: rest (i + 1)) := by rw [hrest]; exact RS
 replace RE : Hid (rest TO = []) := by rw [hrest]; exact RE
 have EN_ : Hid (∀ i, i < N → ∃ q gx ox, n.es[i]? = some q ∧ p = some ⟨gx, ox, none⟩ ∧ ∀ W, Keeps T w W → KeyOk T W q ∧ W.cell? ⟨gx, ox + i * 2, none⟩ = some (.slice (some ⟨q.g, 0, none⟩) q.e.key.length q.c) ∧ W.cell? ⟨gx, ox + i * 2 + 1, none⟩ = some (.int .u64 q.e.id)) := fun i hi => by
  obtain ⟨q, hq⟩ : ∃ q, n.es[i]? = some q := ⟨_, List.getElem?_eq_getElem (by omega)⟩
  obtain ⟨gx, ox, c', e1, _⟩ := hn.some.1 (by omega)
  cases e1
  refine ⟨q, gx, ox, hq, rfl, fun W hW => ?_⟩
  have hk := (hN ▸ hn).keeps hW
  obtain ⟨u0, u1, u2, _⟩ := ndIn.entry (d := 0) hk hq
  exact ⟨u2, u0, u1⟩
 have HY := mkHid hy
 have HYY := mkHid hY
 have HTO := mkHid hTot
 have HI0 := mkHid (hy.keeps pre w w0 h0 bb)
 have BB := mkHid bb
 have D0 := mkHid d0
 have HW0 := mkHid hw0
 have zN : N ≤ 100 := by omega
 clear hn hw z1 hr he hf hs hy hTot h0 hY hFR hTO hL hN d0 d1 bb bs hw0 hrest
 refine callsIn_of_wp Tryz.func64 rfl trivial ?_ rfl
 simp only [Tryz.ntmps64, List.size_toArray, List.length_cons, List.length_nil, Nat.reduceAdd, Nat.reduceSub, Array.replicate_succ, Array.replicate_zero, List.push_toArray, List.append_toArray, List.nil_append, List.cons_append]
 gi_wp2_with fail
 rw [← HW0.out]
 clear HW0
 refine ⟨trivial, (fun h => by cases h), (RCH.out _).mono ?_⟩
 rintro e w1 ⟨rfl, hb1⟩
 clear RCH
 have D1 : Hid (w1.heap[w.heap.size]? = some (.cells #[.slice p N c, .slice none 0 0] 60 (0, 0))) := (hb1.block _ (lt_of_heap D0.out)).trans D0.out
 have BW : Hid (Below w.heap.size w w1) := BB.out.trans (hb1.mono BB.out.size)
 have I1 : Hid (RnU X J pre L rest TO FR w1 w1) := ⟨KeepU.of_below (Below.refl _ _), [], by rw [List.nil_append]; exact RB.out, by rw [List.append_nil]; exact HY.out.keeps pre w0 w1 HI0.out hb1⟩
 have CW : Hid (KeepU X w w1) := KeepU.of_below BW.out
 clear hb1 HI0 D0 RB
 gi_wp2_with fail
 gi_loopw [9] (fun s9 wr => ∃ i : Nat, s9 = .int .i64 i ∧ FR ≤ i ∧ i ≤ 200 ∧ Hid (RnU X J pre L rest TO i w1 wr)) (fun s9 _ => TO + 1 - (intOf s9).toNat)
 case atStart => exact ⟨FR, rfl, Nat.le_refl _, by omega, I1⟩
 case round =>
  obtain ⟨i, rfl, hFi, hi2, hI⟩ := hrel
  clear I1
  have D2 : Hid (wr.heap[w.heap.size]? = some (.cells #[.slice p N c, .slice none 0 0] 60 (0, 0))) := hI.out.kept.2 _ _ _ _ (fun h => by rcases HYY.out _ _ h with h | h; omega; exact absurd h (by decide)) D1.out
  have CR : Hid (KeepU X w wr) := CW.out.trans hI.out.kept
  by_cases hle : i ≤ TO
  ·obtain ⟨dn, hdn, hinv⟩ := hI.out.done
   rw [if_pos hle] at hdn
   have HDN := mkHid hdn
   have HIN := mkHid (HY.out.keeps _ _ _ hinv (Below.refl _ wr).drew)
   have HCH := mkHid hI.out.kept
   have b0 : wr.cell? ⟨w.heap.size, 0, none⟩ = some (.slice p N c) := (cell_of_block D2.out 0).trans rfl
   have b1 : wr.cell? ⟨w.heap.size, 1, none⟩ = some (.slice none 0 0) := (cell_of_block D2.out 1).trans rfl
   clear hdn hinv hI
   gi_wp2_with fail
   have d1 : wr.drew.cell? ⟨w.heap.size, 1, none⟩ = some (.slice none 0 0) := b1
   have d0 : wr.drew.cell? ⟨w.heap.size, 0, none⟩ = some (.slice p N c) := b0
   have C0 : Hid (KeepU X w wr.drew) := CR.out
   have CA : Hid (KeepU X w1 wr.drew) := HCH.out
   refine wpIn_region_any (by kernel_rfl) ?_
   refine takeF_at (i := 0) (v := .pointer (some ⟨w.heap.size, 1, none⟩)) rfl rfl rfl (by kernel_rfl) (by kernel_rfl) (by kernel_rfl) (fun _ _ _ h => h) ⟨Or.inl ⟨by rfl, ?_⟩, fun _ => rfl⟩ ?_
   ·intro w5; go_simp
   simp only [zA9, zB9, zC9]
   refine wpAnyIn_ready (rs := [1]) (by kernel_rfl) (by simp) ?_
   refine AllReadyIn.cons rfl (fun K hK => ?_) AllReadyIn.nil
   have HK := mkHid hK
   clear hK
   go_simp
   refine HK.out _ _ ?_
   clear HK K
   refine takeF_at (i := 2) (v := .int .i64 (0)) rfl rfl rfl (by kernel_rfl) (by kernel_rfl) (by kernel_rfl) (fun _ _ _ h => h) ⟨Or.inl ⟨by rfl, ?_⟩, fun _ => rfl⟩ ?_
   ·intro w5; go_simp
   simp only [zA9, zB9, zC9]
   refine takeF_at (i := 3) (v := .bool false) rfl rfl rfl (by kernel_rfl) (by kernel_rfl) (by kernel_rfl) (fun _ _ _ h => h) ⟨Or.inl ⟨by rfl, ?_⟩, fun _ => rfl⟩ ?_
   ·intro w5; go_simp
   simp only [zA9, zB9, zC9]
   refine takeF_at (i := 4) (v := .bool false) rfl rfl rfl (by kernel_rfl) (by kernel_rfl) (by kernel_rfl) (fun _ _ _ h => h) ⟨Or.inl ⟨by rfl, ?_⟩, fun _ => rfl⟩ ?_
   ·intro w5; go_simp
   simp only [zA9, zB9, zC9]
   refine takeF_at (i := 5) (v := undef) rfl rfl rfl (by kernel_rfl) (by kernel_rfl) (by kernel_rfl) (fun _ _ _ h => h) ⟨Or.inr ⟨by rfl, rfl⟩, fun _ => rfl⟩ ?_
   simp only [zA9, zB9, zC9]
   refine takeF_at (i := 6) (v := undef) rfl rfl rfl (by kernel_rfl) (by kernel_rfl) (by kernel_rfl) (fun _ _ _ h => h) ⟨Or.inr ⟨by rfl, rfl⟩, fun _ => rfl⟩ ?_
   simp only [zA9, zB9, zC9]
   refine takeF_at (i := 7) (v := undef) rfl rfl rfl (by kernel_rfl) (by kernel_rfl) (by kernel_rfl) (fun _ _ _ h => h) ⟨Or.inr ⟨by rfl, rfl⟩, fun _ => rfl⟩ ?_
   simp only [zA9, zB9, zC9]
   refine takeF_at (i := 8) (v := undef) rfl rfl rfl (by kernel_rfl) (by kernel_rfl) (by kernel_rfl) (fun _ _ _ h => h) ⟨Or.inr ⟨by rfl, rfl⟩, fun _ => rfl⟩ ?_
   simp only [zA9, zB9, zC9]
   refine takeF_at (i := 9) (v := undef) rfl rfl rfl (by kernel_rfl) (by kernel_rfl) (by kernel_rfl) (fun _ _ _ h => h) ⟨Or.inr ⟨by rfl, rfl⟩, fun _ => rfl⟩ ?_
   simp only [zA9, zB9, zC9]
   refine takeF_at (i := 10) (v := undef) rfl rfl rfl (by kernel_rfl) (by kernel_rfl) (by kernel_rfl) (fun _ _ _ h => h) ⟨Or.inr ⟨by rfl, rfl⟩, fun _ => rfl⟩ ?_
   simp only [zA9, zB9, zC9]
   refine takeF_at (i := 11) (v := undef) rfl rfl rfl (by kernel_rfl) (by kernel_rfl) (by kernel_rfl) (fun _ _ _ h => h) ⟨Or.inr ⟨by rfl, rfl⟩, fun _ => rfl⟩ ?_
   simp only [zA9, zB9, zC9]
   refine wpAnyIn_ready (rs := [12]) (by kernel_rfl) (by simp) ?_
   refine AllReadyIn.cons rfl (fun K hK => ?_) AllReadyIn.nil
   have HK := mkHid hK
   clear hK
   go_simp
   refine ⟨trivial, HK.out _ _ ?_⟩
   clear HK K
   refine takeF_at (i := 13) (v := undef) rfl rfl rfl (by kernel_rfl) (by kernel_rfl) (by kernel_rfl) (fun _ _ _ h => h) ⟨Or.inr ⟨by rfl, rfl⟩, fun _ => rfl⟩ ?_
   simp only [zA9, zB9, zC9]
   refine takeF_at (i := 14) (v := .bool false) rfl rfl rfl (by kernel_rfl) (by kernel_rfl) (by kernel_rfl) (fun _ _ _ h => h) ⟨Or.inl ⟨by rfl, ?_⟩, fun _ => rfl⟩ ?_
   ·intro w5; go_simp
   simp only [zA9, zB9, zC9]
   refine wpAnyIn_done (by kernel_rfl) ?_ _
   clear d1 b1
   by_cases hlt : i < TO
   ·obtain ⟨q, gx, ox, hq, rfl, hqs⟩ := EN_.out i (by omega)
    obtain ⟨kq, c0, c1⟩ := hqs wr.drew (ku_keeps C0.out HY.out.off)
    have hst := RS.out i q hFi hlt hq
    obtain ⟨yfn, ytm, yas, ybo, hyr, hR⟩ := HY.out.does (fuel - 1) (pre ++ dn) (rest (i + 1) ++ post) q wr.drew (by rw [HTO.out, HDN.out, hst]; simp) HIN.out kq
    have HRR := mkHid hR
    have HST := mkHid hst
    have i1 : (i : Int) < (TO : Int) := by omega
    have i2 : (i : Int) < (N : Int) := by omega
    have i3 : (0 : Int) ≤ (i : Int) := by omega
    unfold emV enV at hyr
    clear hqs kq hst hq EN_ RS RE hR
    gi_wp2_with fail
    refine ⟨(fun h => by cases h), HRR.out.mono ?_⟩
    rintro e w3 (⟨rfl, h1, hc⟩ | ⟨rfl, h2⟩)
    ·have NX : Hid (RnU X J pre L rest TO (i + 1) w1 w3) := ⟨CA.out.trans hc, dn ++ [q], by rw [if_pos (by omega), HDN.out, HST.out]; simp, by rw [← List.append_assoc]; exact h1⟩
     clear h1 hc HRR hyr c0 c1 d0 b0
     gi_wp2_with fail
     go_roundw
     case rel => exact ⟨i + 1, by go_num, by omega, by omega, NX⟩
     case measure => simp [intOf]; omega
    ·have FN : RiU X J Jx pre L w (.returned (.bool false)) w3 := Or.inr ⟨rfl, dn ++ [q], rest (i + 1), by rw [HDN.out, HST.out]; simp, by rw [← List.append_assoc]; exact h2⟩
     clear h2 HRR hyr c0 c1 d0 b0
     gi_wp2_with fail
     go_ret
     exact FN
   ·obtain rfl : i = TO := by omega
    have NX : Hid (RnU X J pre L rest i (i + 1) w1 wr.drew) := ⟨CA.out, dn, by rw [if_neg (by omega), HDN.out, RE.out], HIN.out⟩
    have nl : ¬ ((i : Int) < (i : Int)) := by omega
    clear EN_ RS RE d0 b0
    gi_wp2_with fail
    refine ⟨(fun _ h => by cases h), ?_⟩
    gi_wp2_with fail
    go_roundw
    case rel => exact ⟨i + 1, by go_num, by omega, by omega, NX⟩
    case measure => first | (simp [intOf]; done) | (simp [intOf]; omega)
  ·obtain ⟨dn, hdn, hinv⟩ := hI.out.done
   rw [if_neg hle, List.append_nil] at hdn
   have FN : RiU X J Jx pre L w (.returned (.bool true)) wr := Or.inl ⟨rfl, by rw [hdn]; exact hinv, CR.out⟩
   have nb : ¬ ((i : Int) ≤ (TO : Int)) := by omega
   clear hdn hinv hI
   gi_wp2_with fail
   go_ret
   exact FN
end Go.Proofs.YtclcajnodoifjaaGreatDoor

