/-
 The closures of rising and falling, as iterators.
-/
import Derived.Test.YtclcajnodoifjaaGreatDoorIAM
import Derived.Test.YtclcajnodoifjaaGreatDoorBuZSx
import Derived.RangeFuncFrom
import Derived.Test.YtclcajnodoifjaaGreatDoorIAL
import Derived.Test.YtclcajnodoifjaaGreatDoorIAK
namespace Go.Proofs.YtclcajnodoifjaaGreatDoor
open Go.RowKit Go.Shelf Go.Joins Go.Maps
set_option maxRecDepth 100000

set_option maxHeartbeats 4000000 in
set_option maxRecDepth 1000000 in
/-- the closure of falling: what it hands over -/
theorem falling1_stops (T Y : Nat → Prop) (fl_ fh : Nat) (ll lh : Array Value) (lo hi : En → Bool) (m d l B1 B2 : Nat) (n : Nd Em) (p1 : Option Addr) (n1 c1 : Nat) (p2 : Option Addr) (n2 c2 : Nat) (Tot : List Em) (w : World) (hTot : Tot = (within (fun q : Em => lo q.e) (fun q : Em => hi q.e) n.fl).reverse) (hn : ndIn T w d n (.slice p1 n1 c1) (.slice p2 n2 c2)) (hw : n.wf d l 16) (hne : d ≠ 0 → 1 ≤ n.es.length) (hr : Rise ltM n.fl) (he : EndOk T w fl_ ll lo) (hf : EndOk T w fh lh hi) (hs : Span ltM (fun q => lo q.e) (fun q => hi q.e)) (hY : ∀ b, Y b → b < w.heap.size) (ho : ∀ b, Y b → ¬ T b)
  (hb1 : w.heap[B1]? = some (.cells #[.slice p1 n1 c1, .slice p2 n2 c2] 60 (0, 0))) (hb2 : w.heap[B2]? = some (.cells #[.func (.func fl_) #[] ll, .func (.func fh) #[] lh] 72 (0, 0))) :
  SeqStopsK Fence.wide m Tryz.prog 84 #[.pointer (some ⟨B1, 0, none⟩), .pointer (some ⟨B2, 0, none⟩)] (fun x : { q : Em // q ∈ Tot } => #[emV x.1]) (Keeps (fun b => ¬ Y b)) (fun xs => xs.map (fun x => x.1) = Tot) (fun pre => ∃ rest, Tot = pre.map (fun x => x.1) ++ rest) Tot.length w := by
 intro yl J Jx W hW hJ hJx hyl h0
 have up : ∀ (K : List { q : Em // q ∈ Tot } → World → Prop), AbidesFrom W.heap.size K → ∀ s A A', K s A → Below A.heap.size A A' → K s A' := fun K hK s A A' h hb => hK s A A' none h ⟨hb.os, hb.tape, hb.output, hb.size, fun k hk _ => hb.block k hk⟩ (fun r e => by cases e)
 have hy : YldIn T Y yl (fun pre A => ∃ s : List { q : Em // q ∈ Tot }, s.map (fun x => x.1) = pre ∧ J s A) (fun pre A => ∃ s : List { q : Em // q ∈ Tot }, s.map (fun x => x.1) = pre ∧ Jx s A) Tot := by
  refine ⟨fun k pre post q A ht ⟨s, hs1, hs2⟩ _ => ?_, fun pre A A' ⟨s, h1, h2⟩ hb => ⟨s, h1, up J hJ s A A' h2 hb⟩, ho⟩
  have hq : q ∈ Tot := by rw [ht]; simp
  have hl : s.length < Tot.length := by
   have g1 := congrArg List.length ht
   have g2 := congrArg List.length hs1
   simp at g1 g2
   omega
  refine (yield_any (hyl s ⟨q, hq⟩ A hs2 hl)).mono (fun e w' h => ?_)
  rcases h with ⟨h1, h2, h3⟩ | ⟨h1, h2⟩
  ·exact Or.inl ⟨h1, ⟨s ++ [⟨q, hq⟩], by rw [List.map_append, hs1]; rfl, h2⟩, h3⟩
  ·exact Or.inr ⟨h1, ⟨s ++ [⟨q, hq⟩], by rw [List.map_append, hs1]; rfl, h2⟩⟩
 have RI := fun k => mkHid (fall_in T Y fl_ fh yl ll lh lo hi _ _ Tot hs hy d k n _ _ l [] [] W (hn.below hW) hw hne hr (he.keeps (Keeps.of_below hW)) (hf.keeps (Keeps.of_below hW)) (by rw [hTot]; simp) ⟨[], rfl, h0⟩ (fun b hb => Nat.lt_of_lt_of_le (hY b hb) hW.size))
 have e1 := (hW.block _ (lt_of_heap hb1)).trans hb1
 have e2 := (hW.block _ (lt_of_heap hb2)).trans hb2
 have c0 : W.cell? ⟨B1, 0, none⟩ = some (.slice p1 n1 c1) := (cell_of_block e1 0).trans rfl
 have c1' : W.cell? ⟨B1, 1, none⟩ = some (.slice p2 n2 c2) := (cell_of_block e1 1).trans rfl
 have c2' : W.cell? ⟨B2, 0, none⟩ = some (.func (.func fl_) #[] ll) := (cell_of_block e2 0).trans rfl
 have c3' : W.cell? ⟨B2, 1, none⟩ = some (.func (.func fh) #[] lh) := (cell_of_block e2 1).trans rfl
 have HT := mkHid hTot
 clear hyl h0 hJ hJx up hy hn hw hne hr he hf hs hY ho hb1 hb2 e1 e2 hW hTot
 show CallsIn Fence.wide m Tryz.prog 84 #[.func (.yield yl) #[] #[], .pointer (some ⟨B1, 0, none⟩), .pointer (some ⟨B2, 0, none⟩)] W _
 refine callsIn_of_wp Tryz.func84 rfl trivial ?_ rfl
 simp only [Tryz.ntmps84, List.size_toArray, List.length_cons, List.length_nil, Nat.reduceAdd, Nat.reduceSub, Array.replicate_succ, Array.replicate_zero, List.push_toArray, List.append_toArray, List.nil_append, List.cons_append]
 gi_wp2_with fail
 refine ⟨trivial, (fun h => by cases h), (RI _).out.mono ?_⟩
 rintro e w2 (⟨rfl, ⟨s, h1, h2⟩, _⟩ | ⟨rfl, l1, l2, h3, s, h1, h2⟩)
 ·have FN : (∃ xs, xs.map (fun x : { q : Em // q ∈ Tot } => x.1) = Tot ∧ J xs w2) := ⟨s, h1.trans (by rw [List.nil_append]; exact HT.out.symm), h2⟩
  have GN := mkHid FN
  clear h1 h2 FN RI
  gi_wp2_with fail
  go_end0
  exact ⟨⟨_, rfl⟩, Or.inl GN.out⟩
 ·have FN : (∃ pre : List { q : Em // q ∈ Tot }, (∃ rest, Tot = pre.map (fun x => x.1) ++ rest) ∧ Jx pre w2) := ⟨s, ⟨l2, HT.out.trans (h3.trans (congrArg (· ++ l2) (h1.trans (List.nil_append l1)).symm))⟩, h2⟩
  have GN := mkHid FN
  clear h1 h2 h3 FN RI
  gi_wp2_with fail
  go_end0
  exact ⟨⟨_, rfl⟩, Or.inr GN.out⟩
end Go.Proofs.YtclcajnodoifjaaGreatDoor

namespace Go.Proofs.YtclcajnodoifjaaGreatDoor
open Go.RowKit Go.Shelf Go.Joins Go.Maps
set_option maxRecDepth 100000

set_option maxHeartbeats 2000000 in
set_option maxRecDepth 1000000 in
theorem rising_any (v1 v2 f1 f2 : Value) (p1 : Option Addr) (n1 c1 : Nat) (p2 : Option Addr) (n2 c2 : Nat) (fl_ fh : Nat) (ll lh : Array Value) (e1 : v1 = .slice p1 n1 c1) (e2 : v2 = .slice p2 n2 c2) (e3 : f1 = .func (.func fl_) #[] ll) (e4 : f2 = .func (.func fh) #[] lh) (w : World) :
  Calls Tryz.prog 38 #[.agg #[v1, v2], .agg #[f1, f2]] w fun e w' => e = .returned (.func (.func 63) #[] #[.pointer (some ⟨w.heap.size, 0, none⟩), .pointer (some ⟨w.heap.size + 1, 0, none⟩)]) ∧ w'.heap[w.heap.size]? = some (.cells #[v1, v2] 60 (0, 0)) ∧ w'.heap[w.heap.size + 1]? = some (.cells #[f1, f2] 72 (0, 0)) ∧ Below w.heap.size w w' := by
 subst e1 e2 e3 e4
 have HB := mkHid (bx2 w (.cells #[.slice p1 n1 c1, .slice p2 n2 c2] 60) (.cells #[.func (.func fl_) #[] ll, .func (.func fh) #[] lh] 72))
 go_enter Tryz.func38, Tryz.ntmps38
 go_wp2_with fail
 go_ret
 exact ⟨rfl, HB.out.1, HB.out.2.1, HB.out.2.2.1⟩
set_option maxHeartbeats 2000000 in
set_option maxRecDepth 1000000 in
theorem falling_any (v1 v2 f1 f2 : Value) (p1 : Option Addr) (n1 c1 : Nat) (p2 : Option Addr) (n2 c2 : Nat) (fl_ fh : Nat) (ll lh : Array Value) (e1 : v1 = .slice p1 n1 c1) (e2 : v2 = .slice p2 n2 c2) (e3 : f1 = .func (.func fl_) #[] ll) (e4 : f2 = .func (.func fh) #[] lh) (w : World) :
  Calls Tryz.prog 62 #[.agg #[v1, v2], .agg #[f1, f2]] w fun e w' => e = .returned (.func (.func 84) #[] #[.pointer (some ⟨w.heap.size, 0, none⟩), .pointer (some ⟨w.heap.size + 1, 0, none⟩)]) ∧ w'.heap[w.heap.size]? = some (.cells #[v1, v2] 60 (0, 0)) ∧ w'.heap[w.heap.size + 1]? = some (.cells #[f1, f2] 72 (0, 0)) ∧ Below w.heap.size w w' := by
 subst e1 e2 e3 e4
 have HB := mkHid (bx2 w (.cells #[.slice p1 n1 c1, .slice p2 n2 c2] 60) (.cells #[.func (.func fl_) #[] ll, .func (.func fh) #[] lh] 72))
 go_enter Tryz.func62, Tryz.ntmps62
 go_wp2_with fail
 go_ret
 exact ⟨rfl, HB.out.1, HB.out.2.1, HB.out.2.2.1⟩
end Go.Proofs.YtclcajnodoifjaaGreatDoor

namespace Go.Proofs.YtclcajnodoifjaaGreatDoor
open Go.RowKit Go.Shelf Go.Joins Go.Maps
attribute [local go_sem] Oper.semAt_some
set_option maxRecDepth 100000

/-- a tree's root in memory, in order -/
structure RtIn (T : Nat → Prop) (w : World) (d l : Nat) (n : Nd Em) (v1 v2 : Value) : Prop where
 nd : ndIn T w d n v1 v2
 wf : n.wf d l 16
 ne : d ≠ 0 → 1 ≤ n.es.length
 up : Rise ltM n.fl
theorem RtIn.keeps {T : Nat → Prop} {w w' : World} {d l : Nat} {n : Nd Em} {v1 v2 : Value} (h : RtIn T w d l n v1 v2) (k : Keeps T w w') : RtIn T w' d l n v1 v2 := ⟨h.nd.keeps k, h.wf, h.ne, h.up⟩
/-- a span -/
structure SpOk (T : Nat → Prop) (w : World) (fl_ fh : Nat) (ll lh : Array Value) (lo hi : En → Bool) : Prop where
 low : EndOk T w fl_ ll lo
 high : EndOk T w fh lh hi
 span : Span ltM (fun q => lo q.e) (fun q => hi q.e)
theorem SpOk.keeps {T : Nat → Prop} {w w' : World} {fl_ fh : Nat} {ll lh : Array Value} {lo hi : En → Bool} (h : SpOk T w fl_ fh ll lh lo hi) (k : Keeps T w w') : SpOk T w' fl_ fh ll lh lo hi := ⟨h.low.keeps k, h.high.keeps k, h.span⟩
set_option maxHeartbeats 8000000 in
set_option maxRecDepth 1000000 in
theorem has_any (T : Nat → Prop) (fl_ fh : Nat) (ll lh : Array Value) (lo hi : En → Bool) (d l bt : Nat) (n : Nd Em) (p1 : Option Addr) (n1 c1 : Nat) (p2 : Option Addr) (n2 c2 : Nat) (Tot : List Em) (w : World) (hTot : Tot = within (fun q : Em => lo q.e) (fun q : Em => hi q.e) n.fl) (hn : RtIn T w d l n (.slice p1 n1 c1) (.slice p2 n2 c2)) (he : SpOk T w fl_ fh ll lh lo hi)
  (k1 : w.cell? ⟨bt, 1, none⟩ = some (.slice p1 n1 c1)) (k2 : w.cell? ⟨bt, 2, none⟩ = some (.slice p2 n2 c2)) :
  Calls Tryz.prog 25 #[.pointer (some ⟨bt, 0, none⟩), .agg #[.func (.func fl_) #[] ll, .func (.func fh) #[] lh]] w fun e w' => e = .returned (.bool (!Tot.isEmpty)) ∧ Below w.heap.size w w' := by
 refine callsIn_wide (n := 3) |>.1 ?_
 obtain ⟨w0, hw0⟩ : ∃ w0, w0 = (w.alloc (.cells #[.func (.func fl_) #[] ll, .func (.func fh) #[] lh] 72)).alloc (.cells #[.bool false] 4) := ⟨_, rfl⟩
 obtain ⟨d0, d1, bb, bs⟩ := bx2 w (.cells #[.func (.func fl_) #[] ll, .func (.func fh) #[] lh] 72) (.cells #[.bool false] 4)
 rw [← hw0] at d0 d1 bb bs
 have RI : Hid (Calls Tryz.prog 38 #[.agg #[.slice p1 n1 c1, .slice p2 n2 c2], .agg #[.func (.func fl_) #[] ll, .func (.func fh) #[] lh]] w0.drew fun e w' => e = .returned (.func (.func 63) #[] #[.pointer (some ⟨w0.heap.size, 0, none⟩), .pointer (some ⟨w0.heap.size + 1, 0, none⟩)]) ∧ w'.heap[w0.heap.size]? = some (.cells #[.slice p1 n1 c1, .slice p2 n2 c2] 60 (0, 0)) ∧ w'.heap[w0.heap.size + 1]? = some (.cells #[.func (.func fl_) #[] ll, .func (.func fh) #[] lh] 72 (0, 0)) ∧ Below w0.heap.size w0 w') := (rising_any _ _ _ _ p1 n1 c1 p2 n2 c2 fl_ fh ll lh rfl rfl rfl rfl w0.drew).mono (fun e w' h => ⟨h.1, h.2.1, h.2.2.1, (Below.refl _ w0).drew.trans h.2.2.2⟩)
 have RS : Hid (∀ w3, Below w0.heap.size w0 w3 → w3.heap[w0.heap.size]? = some (.cells #[.slice p1 n1 c1, .slice p2 n2 c2] 60 (0, 0)) → w3.heap[w0.heap.size + 1]? = some (.cells #[.func (.func fl_) #[] ll, .func (.func fh) #[] lh] 72 (0, 0)) → SeqStopsK Fence.wide (3 - 1) Tryz.prog 63 #[.pointer (some ⟨w0.heap.size, 0, none⟩), .pointer (some ⟨w0.heap.size + 1, 0, none⟩)] (fun x : { q : Em // q ∈ Tot } => #[emV x.1]) (Keeps (fun b => ¬ False)) (fun xs => xs.map (fun x => x.1) = Tot) (fun pre => ∃ rest, Tot = pre.map (fun x => x.1) ++ rest) Tot.length w3) := fun w3 h1 h2 h3 =>
  have K : Keeps T w w3 := (Keeps.of_below bb).trans (Keeps.of_below h1)
  rising1_stops T (fun _ => False) fl_ fh ll lh lo hi _ d l _ _ n p1 n1 c1 p2 n2 c2 Tot w3 hTot (hn.nd.keeps K) hn.wf hn.ne hn.up (he.low.keeps K) (he.high.keeps K) he.span (fun _ h => h.elim) (fun _ h => h.elim) h2 h3
 have e1 : w0.cell? ⟨bt, 1, none⟩ = some (.slice p1 n1 c1) := (Keeps.of_below (T := fun _ => True) bb).cell trivial k1
 have e2 : w0.cell? ⟨bt, 2, none⟩ = some (.slice p2 n2 c2) := (Keeps.of_below (T := fun _ => True) bb).cell trivial k2
 have e3 : w0.cell? ⟨w.heap.size, 0, none⟩ = some (.func (.func fl_) #[] ll) := (cell_of_block d0 0).trans rfl
 have e4 : w0.cell? ⟨w.heap.size, 1, none⟩ = some (.func (.func fh) #[] lh) := (cell_of_block d0 1).trans rfl
 rw [bs] at RI RS
 clear hn he k1 k2 hTot
 refine callsIn_of_wp_marks Tryz.func25 rfl trivial ?_ rfl
 simp only [Tryz.ntmps25, List.size_toArray, List.length_cons, List.length_nil, Nat.reduceAdd, Nat.reduceSub, Array.replicate_succ, Array.replicate_zero, List.push_toArray, List.append_toArray, List.nil_append, List.cons_append]
 gi_wp2_with fail
 rw [← hw0]
 clear hw0
 refine wpIn_mono (Q := fun e a' w' => e = .normal ∧ a' = { tmps := #[.pointer (some ⟨bt, 0, none⟩), .agg #[.func (.func fl_) #[] ll, .func (.func fh) #[] lh], undef, .pointer (some ⟨w.heap.size, 0, none⟩), .pointer (some ⟨w.heap.size + 1, 0, none⟩), .pointer (some ⟨bt, 0, none⟩), .pointer (some ⟨bt, 0, none⟩), .pointer (some ⟨bt, 1, none⟩), .agg #[.slice p1 n1 c1, .slice p2 n2 c2], .agg #[.func (.func fl_) #[] ll, .func (.func fh) #[] lh], .func (.func 63) #[] #[.pointer (some ⟨w.heap.size + 1 + 1, 0, none⟩), .pointer (some ⟨w.heap.size + 1 + 1 + 1, 0, none⟩)], undef], defers := [] } ∧ w'.heap[w.heap.size + 1 + 1]? = some (.cells #[.slice p1 n1 c1, .slice p2 n2 c2] 60 (0, 0)) ∧ w'.heap[w.heap.size + 1 + 1 + 1]? = some (.cells #[.func (.func fl_) #[] ll, .func (.func fh) #[] lh] 72 (0, 0)) ∧ Below (w.heap.size + 1 + 1) w0 w') ?_ ?_
 ·refine wpIn_region_any (by kernel_rfl) ?_
  refine takeF_at (i := 0) (v := .pointer (some ⟨bt, 0, none⟩)) rfl rfl rfl (by kernel_rfl) (by kernel_rfl) (by kernel_rfl) (fun _ _ _ h => by cases h.1) ⟨Or.inl ⟨by rfl, ?_⟩, fun _ => rfl⟩ ?_
  ·intro w5; go_simp
  simp only [zA9, zB9, zC9]
  refine takeF_at (i := 1) (v := .pointer (some ⟨bt, 0, none⟩)) rfl rfl rfl (by kernel_rfl) (by kernel_rfl) (by kernel_rfl) (fun _ _ _ h => by cases h.1) ⟨Or.inl ⟨by rfl, ?_⟩, fun _ => rfl⟩ ?_
  ·intro w5; go_simp
  simp only [zA9, zB9, zC9]
  refine takeF_at (i := 2) (v := .pointer (some ⟨bt, 1, none⟩)) rfl rfl rfl (by kernel_rfl) (by kernel_rfl) (by kernel_rfl) (fun _ _ _ h => by cases h.1) ⟨Or.inl ⟨by rfl, ?_⟩, fun _ => rfl⟩ ?_
  ·intro w5; go_simp
  simp only [zA9, zB9, zC9]
  refine wpAnyIn_ready (rs := [3, 4]) (by kernel_rfl) (by simp) ?_
  refine AllReadyIn.cons rfl (fun K hK => ?_) (AllReadyIn.cons rfl (fun K hK => ?_) AllReadyIn.nil)
  ·have HK := mkHid hK
   clear hK
   go_simp
   refine HK.out _ _ ?_
   clear HK K
   refine wpAnyIn_ready (rs := [4]) (by kernel_rfl) (by simp) ?_
   refine AllReadyIn.cons rfl (fun K hK => ?_) AllReadyIn.nil
   ·have HK := mkHid hK
    clear hK
    go_simp
    refine HK.out _ _ ?_
    clear HK K
    refine wpAnyIn_ready (rs := [5]) (by kernel_rfl) (by simp) ?_
    refine AllReadyIn.cons rfl (fun K hK => ?_) AllReadyIn.nil
    have HK := mkHid hK
    clear hK
    go_simp
    refine ⟨trivial, (callsIn_wide.2 RI.out).mono ?_⟩
    rintro en w3 ⟨rfl, r1, r2, r3⟩
    gi_wp2_with fail
    refine HK.out _ _ ?_
    clear HK K
    refine wpAnyIn_done (by kernel_rfl) ?_ _
    exact ⟨rfl, rfl, r1, r2, r3⟩
  ·have HK := mkHid hK
   clear hK
   go_simp
   refine HK.out _ _ ?_
   clear HK K
   refine wpAnyIn_ready (rs := [3]) (by kernel_rfl) (by simp) ?_
   refine AllReadyIn.cons rfl (fun K hK => ?_) AllReadyIn.nil
   ·have HK := mkHid hK
    clear hK
    go_simp
    refine HK.out _ _ ?_
    clear HK K
    refine wpAnyIn_ready (rs := [5]) (by kernel_rfl) (by simp) ?_
    refine AllReadyIn.cons rfl (fun K hK => ?_) AllReadyIn.nil
    have HK := mkHid hK
    clear hK
    go_simp
    refine ⟨trivial, (callsIn_wide.2 RI.out).mono ?_⟩
    rintro en w3 ⟨rfl, r1, r2, r3⟩
    gi_wp2_with fail
    refine HK.out _ _ ?_
    clear HK K
    refine wpAnyIn_done (by kernel_rfl) ?_ _
    exact ⟨rfl, rfl, r1, r2, r3⟩
 ·rintro e a' w3 ⟨rfl, rfl, r1, r2, r3⟩
  gi_wp2_with fail
  have bB : Below w.heap.size w w3 := bb.trans (r3.mono (by omega))
  have sz3 : w.heap.size + 1 + 1 + 1 < w3.heap.size := by have := lt_of_heap r2; omega
  have m1 : w3.heap[w.heap.size + 1]? = some (.cells #[.bool false] 4 (0, 0)) := (r3.block _ (by omega)).trans d1
  have q0 : w3.cell? ⟨w.heap.size + 1, 0, none⟩ = some (.bool false) := (cell_of_block m1 0).trans rfl
  have q1 : w3.frozen? ⟨w.heap.size + 1, 0, none⟩ = false := by simp [World.frozen?, m1]
  refine wpIn_rangeFunc_ownF rfl (by decide) (gf := 63) (lb := #[.pointer (some ⟨w.heap.size + 1 + 1, 0, none⟩), .pointer (some ⟨w.heap.size + 1 + 1 + 1, 0, none⟩)]) rfl trivial (enters_of Tryz.func63 (by kernel_rfl) rfl) (RS.out w3 r3 r1 r2) (fun h k => Keeps.trans h k) (fun W l o o' _ h1 h2 _ => keepsK_b h1 h2) (Below.refl _ _) (fun _ => rfl)
   (fun pre W => (pre = [] ∧ W.cell? ⟨w.heap.size + 1, 0, none⟩ = some (.bool false) ∧ W.frozen? ⟨w.heap.size + 1, 0, none⟩ = false) ∧ Below w.heap.size w W)
   (fun c pre W => (c = .ret ∧ pre ≠ [] ∧ W.cell? ⟨w.heap.size + 1, 0, none⟩ = some (.bool true)) ∧ Below w.heap.size w W)
   (OwnFrom.and (Own.from (fun s A B row hs hg hr => ⟨hs.1, cell_kept hs.2.1 hg hr, (frozen_kept hs.2.1 hg hr).trans hs.2.2⟩) _) (ownFrom_below (Nat.le_refl _) (by omega)))
   (fun c => OwnFrom.and (Own.from (fun s A B row hs hg hr => ⟨hs.1, hs.2.1, cell_kept hs.2.2 hg hr⟩) _) (ownFrom_below (Nat.le_refl _) (by omega)))
   ⟨⟨rfl, q0, q1⟩, bB⟩
   (fun x => { tmps := #[.pointer (some ⟨bt, 0, none⟩), .agg #[.func (.func fl_) #[] ll, .func (.func fh) #[] lh], undef, .pointer (some ⟨w.heap.size, 0, none⟩), .pointer (some ⟨w.heap.size + 1, 0, none⟩), .pointer (some ⟨bt, 0, none⟩), .pointer (some ⟨bt, 0, none⟩), .pointer (some ⟨bt, 1, none⟩), .agg #[.slice p1 n1 c1, .slice p2 n2 c2], .agg #[.func (.func fl_) #[] ll, .func (.func fh) #[] lh], .func (.func 63) #[] #[.pointer (some ⟨w.heap.size + 1 + 1, 0, none⟩), .pointer (some ⟨w.heap.size + 1 + 1 + 1, 0, none⟩)], emV x.1], defers := [] }) ?assign ?body ?done ?stop
  case assign =>
   intro l x W K hK
   gi_wp2
   first | exact hK | (go_simp; exact hK) | (simp [Array.zip, Array.zipWith]; exact hK)
  case body =>
   rintro l pre x W ⟨⟨hp, hcr, hfr⟩, hB⟩ _
   gi_wp2
   exact ⟨KeepsOthers.setCell _ _ _, ⟨rfl, by simp, World.cell?_setCell_same' _ _ _ (by rw [hcr]; rfl)⟩, hB.setCell (p := ⟨w.heap.size + 1, 0, none⟩) (by simp) _⟩
  case done =>
   rintro D ys W hD hS ⟨⟨hne, hcr, hfr⟩, hB⟩ hK
   gi_wp2
   have hK' := (KeepsOthers.setCell W ⟨w.heap.size + 1, 0, none⟩ (.bool false)).same D _ hK rfl
   refine ⟨by simp, .inl ⟨_, _, rfl, run_takeDeferred hK', ?_⟩⟩
   have hc5 := cell_kept (World.cell?_setCell_same' W ⟨w.heap.size + 1, 0, none⟩ (.bool false) (by rw [hcr]; rfl)) (grownBy_putObj' _ D (.deferred none)) (fun r e => by cases e; exact ⟨_, hK', rfl⟩)
   refine ⟨.bool false, ?_, by rw [← hS, hne]; rfl, (hB.setCell (p := ⟨w.heap.size + 1, 0, none⟩) (by simp) _).trans (belowK_b (w := w) (Nat.le_refl _) _ D _ _ (by omega) hK' rfl rfl)⟩
   simp [results, Tryz.f25, go_sem, hc5]
  case stop =>
   rintro D c pre W hD ⟨rest, hpre⟩ ⟨⟨rfl, hin, hcr⟩, hB⟩ hK
   gi_wp2
   refine ⟨by simp, .inl ⟨_, _, rfl, run_takeDeferred hK, ?_⟩⟩
   have hc5 := cell_kept hcr (grownBy_putObj' _ D (.deferred none)) (fun r e => by cases e; exact ⟨_, hK, rfl⟩)
   refine ⟨.bool true, ?_, by rw [hpre]; cases pre with | nil => exact absurd rfl hin | cons => rfl, hB.trans (belowK_b (w := w) (Nat.le_refl _) W D _ _ (by omega) hK rfl rfl)⟩
   simp [results, Tryz.f25, go_sem, hc5]
end Go.Proofs.YtclcajnodoifjaaGreatDoor

namespace Go.Proofs.YtclcajnodoifjaaGreatDoor
open Go.RowKit Go.Shelf Go.Joins Go.Maps
set_option maxRecDepth 100000

/-- a row kept, where it lies in T -/
theorem rowAt.keeps {T : Nat → Prop} {w w' : World} {p : Option Addr} {l : List Va} (h : rowAt w p l) (ht : ∀ g, p = some ⟨g, 0, none⟩ → T g) (hk : Keeps T w w') : rowAt w' p l := by
 rcases h with h | ⟨g, h1, h2⟩
 ·exact Or.inl h
 ·exact Or.inr ⟨g, h1, h2.keeps (ht g h1) hk⟩
theorem end_key1 {T : Nat → Prop} {w : World} {B : Nat} {q : Option Addr} {k : List Va} {cq : Nat} (hB : w.heap[B]? = some (.cells #[.slice q k.length cq] 30 (0, 0))) (tB : T B) (hq : rowAt w q k) (tq : ∀ g, q = some ⟨g, 0, none⟩ → T g) (fk : ∀ v ∈ k, fit v.n) :
  EndOk T w 73 #[.pointer (some ⟨B, 0, none⟩)] (fun e => decide (0 ≤ rowsV e.key k)) := by
 refine ⟨enters_of Tryz.func73 (by kernel_rfl) rfl, fun W x hW hx => ?_⟩
 have hb := hW.2 B _ _ _ tB hB
 exact onlyKey1_any _ q x.c cq B x.e k W (by have := hx.few; omega) hx.at_ (hq.keeps tq hW) fk (lt_of_heap hb) ((cell_of_block hb 0).trans rfl)
theorem end_key2 {T : Nat → Prop} {w : World} {B : Nat} {q : Option Addr} {k : List Va} {cq : Nat} (hB : w.heap[B]? = some (.cells #[.slice q k.length cq] 30 (0, 0))) (tB : T B) (hq : rowAt w q k) (tq : ∀ g, q = some ⟨g, 0, none⟩ → T g) (fk : ∀ v ∈ k, fit v.n) :
  EndOk T w 75 #[.pointer (some ⟨B, 0, none⟩)] (fun e => decide (rowsV e.key k ≤ 0)) := by
 refine ⟨enters_of Tryz.func75 (by kernel_rfl) rfl, fun W x hW hx => ?_⟩
 have hb := hW.2 B _ _ _ tB hB
 exact onlyKey2_any _ q x.c cq B x.e k W (by have := hx.few; omega) hx.at_ (hq.keeps tq hW) fk (lt_of_heap hb) ((cell_of_block hb 0).trans rfl)
theorem end_en1 {T : Nat → Prop} {w : World} {B : Nat} {q : Option Addr} {y : En} {cq : Nat} (hB : w.heap[B]? = some (.cells #[.slice q y.key.length cq, .int .u64 y.id] 65 (0, 0))) (tB : T B) (hq : EnAt w q y) (tq : ∀ g, q = some ⟨g, 0, none⟩ → T g) :
  EndOk T w 54 #[.pointer (some ⟨B, 0, none⟩)] (fun e => decide (0 ≤ ordE e y)) := by
 refine ⟨enters_of Tryz.func54 (by kernel_rfl) rfl, fun W x hW hx => ?_⟩
 have hb := hW.2 B _ _ _ tB hB
 exact onlyEntry1_any _ q x.c cq B x.e y W (by have := hx.few; omega) hx.at_ ⟨hq.row.keeps tq hW, hq.fits⟩ (lt_of_heap hb) ((cell_of_block hb 0).trans rfl) ((cell_of_block hb 1).trans rfl)
theorem end_en2 {T : Nat → Prop} {w : World} {B : Nat} {q : Option Addr} {y : En} {cq : Nat} (hB : w.heap[B]? = some (.cells #[.slice q y.key.length cq, .int .u64 y.id] 65 (0, 0))) (tB : T B) (hq : EnAt w q y) (tq : ∀ g, q = some ⟨g, 0, none⟩ → T g) :
  EndOk T w 55 #[.pointer (some ⟨B, 0, none⟩)] (fun e => decide (ordE e y ≤ 0)) := by
 refine ⟨enters_of Tryz.func55 (by kernel_rfl) rfl, fun W x hW hx => ?_⟩
 have hb := hW.2 B _ _ _ tB hB
 exact onlyEntry2_any _ q x.c cq B x.e y W (by have := hx.few; omega) hx.at_ ⟨hq.row.keeps tq hW, hq.fits⟩ (lt_of_heap hb) ((cell_of_block hb 0).trans rfl) ((cell_of_block hb 1).trans rfl)
/-- a span that was made: its box of what it holds lies at B -/
def SpnQ (w : World) (f1 f2 : Nat) (o : Obj) (e : Ending) (w' : World) : Prop := e = .returned (.agg #[.func (.func f1) #[] #[.pointer (some ⟨w.heap.size, 0, none⟩)], .func (.func f2) #[] #[.pointer (some ⟨w.heap.size, 0, none⟩)]]) ∧ w'.heap[w.heap.size]? = some o ∧ Below w.heap.size w w'
set_option maxHeartbeats 4000000 in
set_option maxRecDepth 1000000 in
theorem onlyKey_any (q : Option Addr) (n cq : Nat) (w : World) :
  Calls Tryz.prog 48 #[.slice q n cq] w fun e w' => SpnQ w 73 75 (.cells #[.slice q n cq] 30) e w' := by
 obtain ⟨w0, hw0⟩ : ∃ w0, w0 = (w.alloc (.cells #[.slice q n cq] 30)).alloc (.cells #[.nilFunc, .nilFunc] 72) := ⟨_, rfl⟩
 obtain ⟨d0, d1, bb, bs⟩ := bx2 w (.cells #[.slice q n cq] 30) (.cells #[.nilFunc, .nilFunc] 72)
 rw [← hw0] at d0 d1 bb bs
 have FN : Hid (∀ a b, SpnQ w 73 75 (.cells #[.slice q n cq] 30) (.returned (.agg #[.func (.func 73) #[] #[.pointer (some ⟨w.heap.size, 0, none⟩)], .func (.func 75) #[] #[.pointer (some ⟨w.heap.size, 0, none⟩)]])) ((w0.setCell ⟨w.heap.size + 1, 0, none⟩ a).setCell ⟨w.heap.size + 1, 1, none⟩ b)) := fun a b => by
  refine ⟨rfl, ?_, below_set (below_set bb _ _ (by show w.heap.size ≤ w.heap.size + 1; omega)) _ _ (by show w.heap.size ≤ w.heap.size + 1; omega)⟩
  rw [heap_setCell_other _ _ _ _ (by show w.heap.size ≠ w.heap.size + 1; omega), heap_setCell_other _ _ _ _ (by show w.heap.size ≠ w.heap.size + 1; omega)]
  exact d0
 have q0 : w0.cell? ⟨w.heap.size + 1, 0, none⟩ = some .nilFunc := (cell_of_block d1 0).trans rfl
 have q1 : w0.cell? ⟨w.heap.size + 1, 1, none⟩ = some .nilFunc := (cell_of_block d1 1).trans rfl
 have y0 := unfrozen_of_block d1 0
 have y1 := unfrozen_of_block d1 1
 have HW0 := mkHid hw0
 have sf : ∀ (a : Addr) (f : Fn) (x y : Array Value) (w : World) (m : Mode), (store a (.func f x y) m).run Tryz.prog w = stored Tryz.prog w a (.func f x y) m := fun a f x y w m => run_store _ _ _ _ _ rfl
 clear d0 d1 bb bs hw0
 go_enter Tryz.func48, Tryz.ntmps48
 go_upto_region 1 with fail
 rw [← HW0.out]
 clear HW0
 go_wp2_with fail
 refine bodyPost_ret (v := .agg #[.func (.func 73) #[] #[.pointer (some ⟨w.heap.size, 0, none⟩)], .func (.func 75) #[] #[.pointer (some ⟨w.heap.size, 0, none⟩)]]) (by simp [results, Tryz.results48, go_sem, q0, q1]) rfl ?_
 exact FN.out _ _
set_option maxHeartbeats 4000000 in
set_option maxRecDepth 1000000 in
theorem onlyEntry_any (q : Option Addr) (n cq : Nat) (ix : Int) (w : World) :
  Calls Tryz.prog 26 #[.agg #[.slice q n cq, .int .u64 ix]] w fun e w' => SpnQ w 54 55 (.cells #[.slice q n cq, .int .u64 ix] 65) e w' := by
 obtain ⟨w0, hw0⟩ : ∃ w0, w0 = (w.alloc (.cells #[.slice q n cq, .int .u64 ix] 65)).alloc (.cells #[.nilFunc, .nilFunc] 72) := ⟨_, rfl⟩
 obtain ⟨d0, d1, bb, bs⟩ := bx2 w (.cells #[.slice q n cq, .int .u64 ix] 65) (.cells #[.nilFunc, .nilFunc] 72)
 rw [← hw0] at d0 d1 bb bs
 have FN : Hid (∀ a b, SpnQ w 54 55 (.cells #[.slice q n cq, .int .u64 ix] 65) (.returned (.agg #[.func (.func 54) #[] #[.pointer (some ⟨w.heap.size, 0, none⟩)], .func (.func 55) #[] #[.pointer (some ⟨w.heap.size, 0, none⟩)]])) ((w0.setCell ⟨w.heap.size + 1, 0, none⟩ a).setCell ⟨w.heap.size + 1, 1, none⟩ b)) := fun a b => by
  refine ⟨rfl, ?_, below_set (below_set bb _ _ (by show w.heap.size ≤ w.heap.size + 1; omega)) _ _ (by show w.heap.size ≤ w.heap.size + 1; omega)⟩
  rw [heap_setCell_other _ _ _ _ (by show w.heap.size ≠ w.heap.size + 1; omega), heap_setCell_other _ _ _ _ (by show w.heap.size ≠ w.heap.size + 1; omega)]
  exact d0
 have q0 : w0.cell? ⟨w.heap.size + 1, 0, none⟩ = some .nilFunc := (cell_of_block d1 0).trans rfl
 have q1 : w0.cell? ⟨w.heap.size + 1, 1, none⟩ = some .nilFunc := (cell_of_block d1 1).trans rfl
 have y0 := unfrozen_of_block d1 0
 have y1 := unfrozen_of_block d1 1
 have HW0 := mkHid hw0
 have sf : ∀ (a : Addr) (f : Fn) (x y : Array Value) (w : World) (m : Mode), (store a (.func f x y) m).run Tryz.prog w = stored Tryz.prog w a (.func f x y) m := fun a f x y w m => run_store _ _ _ _ _ rfl
 clear d0 d1 bb bs hw0
 go_enter Tryz.func26, Tryz.ntmps26
 go_upto_region 1 with fail
 rw [← HW0.out]
 clear HW0
 go_wp2_with fail
 refine bodyPost_ret (v := .agg #[.func (.func 54) #[] #[.pointer (some ⟨w.heap.size, 0, none⟩)], .func (.func 55) #[] #[.pointer (some ⟨w.heap.size, 0, none⟩)]]) (by simp [results, Tryz.results26, go_sem, q0, q1]) rfl ?_
 exact FN.out _ _
end Go.Proofs.YtclcajnodoifjaaGreatDoor

namespace Go.Proofs.YtclcajnodoifjaaGreatDoor
open Go.RowKit Go.Shelf Go.Joins Go.Maps
set_option maxRecDepth 100000

/-- a tree's block -/
def trO (u : Bool) (s1 s2 : Value) (sz : Int) : Obj := .cells #[.bool u, s1, s2, .int .i64 sz] 62 (0, 0)
set_option maxHeartbeats 2000000 in
set_option maxRecDepth 1000000 in
theorem New_any (u : Bool) (w : World) :
  Calls Tryz.prog 6 #[.bool u] w fun e w' => e = .returned (.pointer (some ⟨w.heap.size, 0, none⟩)) ∧ w'.heap[w.heap.size]? = some (trO u (.slice none 0 0) (.slice none 0 0) 0) ∧ Below w.heap.size w w' := by
 have HB : Hid ((w.alloc (.cells #[.bool u, .slice none 0 0, .slice none 0 0, .int .i64 0] 62)).heap[w.heap.size]? = some (trO u (.slice none 0 0) (.slice none 0 0) 0) ∧ Below w.heap.size w (w.alloc (.cells #[.bool u, .slice none 0 0, .slice none 0 0, .int .i64 0] 62))) := ⟨heap_alloc_new _ _, (Below.refl _ w).alloc (Nat.le_refl _) _⟩
 go_enter Tryz.func6, Tryz.ntmps6
 go_wp2_with fail
 go_ret
 exact ⟨rfl, HB.out.1, HB.out.2⟩
set_option maxHeartbeats 2000000 in
set_option maxRecDepth 1000000 in
theorem Len_any (bt : Nat) (u : Bool) (s1 s2 : Value) (sz : Int) (w : World) (h : w.heap[bt]? = some (trO u s1 s2 sz)) :
  Calls Tryz.prog 16 #[.pointer (some ⟨bt, 0, none⟩)] w fun e w' => e = .returned (.int .i64 sz) ∧ w' = w := by
 have c3 : w.cell? ⟨bt, 3, none⟩ = some (.int .i64 sz) := (cell_of_block h 3).trans rfl
 clear h
 go_enter Tryz.func16, Tryz.ntmps16
 go_wp2_with fail
 go_ret
 exact ⟨rfl, rfl⟩
set_option maxHeartbeats 2000000 in
set_option maxRecDepth 1000000 in
theorem Clone_any (bt : Nat) (u : Bool) (p1 : Option Addr) (n1 c1 : Nat) (p2 : Option Addr) (n2 c2 : Nat) (sz : Int) (w : World) (h : w.heap[bt]? = some (trO u (.slice p1 n1 c1) (.slice p2 n2 c2) sz)) :
  Calls Tryz.prog 7 #[.pointer (some ⟨bt, 0, none⟩)] w fun e w' => e = .returned (.pointer (some ⟨w.heap.size, 0, none⟩)) ∧ w'.heap[w.heap.size]? = some (trO u (.slice p1 n1 c1) (.slice p2 n2 c2) sz) ∧ Below w.heap.size w w' := by
 have k0 : w.cell? ⟨bt, 0, none⟩ = some (.bool u) := (cell_of_block h 0).trans rfl
 have k1 : w.cell? ⟨bt, 1, none⟩ = some (.slice p1 n1 c1) := (cell_of_block h 1).trans rfl
 have k2 : w.cell? ⟨bt, 2, none⟩ = some (.slice p2 n2 c2) := (cell_of_block h 2).trans rfl
 have k3 : w.cell? ⟨bt, 3, none⟩ = some (.int .i64 sz) := (cell_of_block h 3).trans rfl
 clear h
 have HB : Hid ((w.alloc (.cells #[.bool u, .slice p1 n1 c1, .slice p2 n2 c2, .int .i64 sz] 62)).heap[w.heap.size]? = some (trO u (.slice p1 n1 c1) (.slice p2 n2 c2) sz) ∧ Below w.heap.size w (w.alloc (.cells #[.bool u, .slice p1 n1 c1, .slice p2 n2 c2, .int .i64 sz] 62))) := ⟨heap_alloc_new _ _, (Below.refl _ w).alloc (Nat.le_refl _) _⟩
 go_enter Tryz.func7, Tryz.ntmps7
 go_wp2_with fail
 go_ret
 exact ⟨rfl, HB.out.1, HB.out.2⟩
end Go.Proofs.YtclcajnodoifjaaGreatDoor

namespace Go.Proofs.YtclcajnodoifjaaGreatDoor
open Go.RowKit Go.Shelf Go.Joins Go.Maps
set_option maxRecDepth 100000

theorem RtIn.all {T : Nat → Prop} {w : World} {d l : Nat} {n : Nd Em} {v1 v2 : Value} (h : RtIn T w d l n v1 v2) : RtIn (fun _ => True) w d l n v1 v2 := ⟨h.nd.mono (fun _ _ _ => trivial), h.wf, h.ne, h.up⟩
/-- the entries that are an entry, that have a key -/
def ofEn (y : En) (l : List Em) : List Em := within (fun q : Em => decide (0 ≤ ordE q.e y)) (fun q : Em => decide (ordE q.e y ≤ 0)) l
def ofKey (k : List Va) (l : List Em) : List Em := within (fun q : Em => decide (0 ≤ rowsV q.e.key k)) (fun q : Em => decide (rowsV q.e.key k ≤ 0)) l
set_option maxHeartbeats 2000000 in
theorem has_en (T : Nat → Prop) (y : En) (q : Option Addr) (cq d l bt : Nat) (n : Nd Em) (p1 : Option Addr) (n1 c1 : Nat) (p2 : Option Addr) (n2 c2 : Nat) (u : Bool) (sz : Int) (w w1 : World) (B : Nat) (hn : RtIn T w d l n (.slice p1 n1 c1) (.slice p2 n2 c2)) (ht : w.heap[bt]? = some (trO u (.slice p1 n1 c1) (.slice p2 n2 c2) sz)) (hy : EnAt w q y) (hb : Below w.heap.size w w1)
  (hB : w1.heap[B]? = some (.cells #[.slice q y.key.length cq, .int .u64 y.id] 65 (0, 0))) :
  Calls Tryz.prog 25 #[.pointer (some ⟨bt, 0, none⟩), .agg #[.func (.func 54) #[] #[.pointer (some ⟨B, 0, none⟩)], .func (.func 55) #[] #[.pointer (some ⟨B, 0, none⟩)]]] w1 fun e w' => e = .returned (.bool (!(ofEn y n.fl).isEmpty)) ∧ Below w1.heap.size w1 w' := by
 have h1 := (hb.block _ (lt_of_heap ht)).trans ht
 exact has_any (fun _ => True) _ _ _ _ _ _ d l bt n p1 n1 c1 p2 n2 c2 _ w1 rfl (hn.all.keeps (Keeps.of_below hb)) ⟨end_en1 hB trivial (hy.below hb) (fun _ _ => trivial), end_en2 hB trivial (hy.below hb) (fun _ _ => trivial), ⟨fun {a b} h1 h2 => (span_en y).1 h1 h2, fun {a b} h1 h2 => (span_en y).2 h1 h2⟩⟩ ((cell_of_block h1 1).trans rfl) ((cell_of_block h1 2).trans rfl)
set_option maxHeartbeats 2000000 in
theorem has_key (T : Nat → Prop) (k : List Va) (q : Option Addr) (cq d l bt : Nat) (n : Nd Em) (p1 : Option Addr) (n1 c1 : Nat) (p2 : Option Addr) (n2 c2 : Nat) (u : Bool) (sz : Int) (w w1 : World) (B : Nat) (hn : RtIn T w d l n (.slice p1 n1 c1) (.slice p2 n2 c2)) (ht : w.heap[bt]? = some (trO u (.slice p1 n1 c1) (.slice p2 n2 c2) sz)) (hy : rowAt w q k) (fk : ∀ v ∈ k, fit v.n) (hb : Below w.heap.size w w1)
  (hB : w1.heap[B]? = some (.cells #[.slice q k.length cq] 30 (0, 0))) :
  Calls Tryz.prog 25 #[.pointer (some ⟨bt, 0, none⟩), .agg #[.func (.func 73) #[] #[.pointer (some ⟨B, 0, none⟩)], .func (.func 75) #[] #[.pointer (some ⟨B, 0, none⟩)]]] w1 fun e w' => e = .returned (.bool (!(ofKey k n.fl).isEmpty)) ∧ Below w1.heap.size w1 w' := by
 have h1 := (hb.block _ (lt_of_heap ht)).trans ht
 exact has_any (fun _ => True) _ _ _ _ _ _ d l bt n p1 n1 c1 p2 n2 c2 _ w1 rfl (hn.all.keeps (Keeps.of_below hb)) ⟨end_key1 hB trivial (hy.below hb) (fun _ _ => trivial) fk, end_key2 hB trivial (hy.below hb) (fun _ _ => trivial) fk, ⟨fun {a b} h1 h2 => (span_key k).1 h1 h2, fun {a b} h1 h2 => (span_key k).2 h1 h2⟩⟩ ((cell_of_block h1 1).trans rfl) ((cell_of_block h1 2).trans rfl)
theorem ofEn_mem {y : En} {l : List Em} {x : Em} : x ∈ ofEn y l ↔ x ∈ l ∧ ordE x.e y = 0 := by
 simp [ofEn, within]
 omega
theorem ofKey_mem {k : List Va} {l : List Em} {x : Em} : x ∈ ofKey k l ↔ x ∈ l ∧ rowsV x.e.key k = 0 := by
 simp [ofKey, within]
 omega
end Go.Proofs.YtclcajnodoifjaaGreatDoor

namespace Go.Proofs.YtclcajnodoifjaaGreatDoor
open Go.RowKit Go.Shelf Go.Joins Go.Maps
set_option maxRecDepth 100000

theorem heap_set_in {w : World} {b o : Nat} {cs : Array Value} {t : TypeId} {z : Nat × Nat} {v : Value} (h : w.heap[b]? = some (.cells cs t z)) : (w.setCell ⟨b, o, none⟩ v).heap[b]? = some (.cells (cs.setIfInBounds o v) t z) := by
 have hb := lt_of_heap h
 have e := (Array.getElem?_eq_some_iff.1 h).2
 simp [World.setCell, Array.getElem_modify, hb, e]
end Go.Proofs.YtclcajnodoifjaaGreatDoor

namespace Go.Proofs.YtclcajnodoifjaaGreatDoor
open Go.RowKit Go.Shelf Go.Joins Go.Maps
set_option maxRecDepth 100000

/-- a tree that was changed: what it holds now -/
def TrQ (T : Nat → Prop) (w : World) (bt : Nat) (u : Bool) (sz : Int) (L : List Em) (w' : World) : Prop := ∃ d n p1 n1 c1 p2 n2 c2, w'.heap[bt]? = some (trO u (.slice p1 n1 c1) (.slice p2 n2 c2) sz) ∧ ndIn T w' d n (.slice p1 n1 c1) (.slice p2 n2 c2) ∧ n.tree d ∧ n.fl = L ∧ Chg (fun b => b = bt) w w'
end Go.Proofs.YtclcajnodoifjaaGreatDoor

namespace Go.Proofs.YtclcajnodoifjaaGreatDoor
open Go.RowKit Go.Shelf Go.Joins Go.Maps
set_option maxRecDepth 100000

/-- a value's cells -/
def vaE (v : Va) : List Value := [.int .i64 v.ty, .int .i64 v.n, .string v.s]
theorem valsAt.cells {w : World} {g : Nat} {k : List Va} (h : valsAt w g k) : ∀ j u, (fl vaE k)[j]? = some u → w.cell? ⟨g, j, none⟩ = some u := fun j u hj => by
 obtain ⟨v, h1, h2⟩ := fl_at (s := 3) (fun _ => rfl) (by omega) hj
 obtain ⟨a1, a2, a3⟩ := h.2 _ v h1
 have hm : j % 3 < 3 := Nat.mod_lt _ (by omega)
 have hd : j = j / 3 * 3 + j % 3 := by omega
 rcases (by omega : j % 3 = 0 ∨ j % 3 = 1 ∨ j % 3 = 2) with e | e | e
 ·rw [e] at h2; cases h2; rw [hd, e]; exact a1
 ·rw [e] at h2; cases h2; rw [hd, e]; exact a2
 ·rw [e] at h2; cases h2; rw [hd, e]; exact a3
theorem valsAt.mk {w : World} {g : Nat} {k : List Va} (hg : g < w.heap.size) (h : ∀ j u, (fl vaE k)[j]? = some u → w.cell? ⟨g, j, none⟩ = some u) : valsAt w g k :=
 ⟨hg, fun i v hv => ⟨h (i * 3) _ (fl_get (s := 3) (fun _ => rfl) k i v 0 hv (by omega)), h (i * 3 + 1) _ (fl_get (s := 3) (fun _ => rfl) k i v 1 hv (by omega)), h (i * 3 + 2) _ (fl_get (s := 3) (fun _ => rfl) k i v 2 hv (by omega))⟩⟩
set_option maxHeartbeats 4000000 in
set_option maxRecDepth 1000000 in
theorem CloneRow_own (g0 : Nat) (k : List Va) (c : Nat) (w : World) (hk : valsAt w g0 k) (h0 : 0 < k.length) (hl : k.length ≤ 1000000000) :
  Calls Tryz.prog 41 #[.slice (some ⟨g0, 0, none⟩) k.length c] w fun e w' => ∃ cap, e = .returned (.slice (some ⟨w.heap.size + 1, 0, none⟩) k.length cap) ∧ valsAt w' (w.heap.size + 1) k ∧ (∃ cs, w'.heap[w.heap.size + 1]? = some (.cells cs 40 (0, 0))) ∧ k.length ≤ cap ∧ Below w.heap.size w w' := by
 obtain ⟨cap, w2, r, s, g, z⟩ := rwVa.clone w ⟨g0, 0, none⟩ k.length c (fl vaE k) (fl_len (enc := vaE) (s := 3) (fun _ => rfl) k) (fun j u hj => by rw [add_plain, Nat.zero_add]; exact hk.cells j u hj) h0 hl
 have HR : Hid (valsAt w2 (w.heap.size + 1) k ∧ (∃ cs, w2.heap[w.heap.size + 1]? = some (.cells cs 40 (0, 0))) ∧ k.length ≤ cap ∧ Below w.heap.size w w2) := by
  have hb : ∃ cs, w2.heap[w.heap.size + 1]? = some (.cells cs 40 (0, 0)) := by
   rcases s.2 with ⟨h, _⟩ | ⟨g, off, cp, cur, h, hg, _⟩
   ·cases h
   ·cases h; exact ⟨cur, hg⟩
  obtain ⟨p, c', e1, e2, _⟩ := s.form
  cases e1
  obtain ⟨g', off, e3, e4⟩ := s.cell
  cases e3
  exact ⟨valsAt.mk (by omega) (fun j u hj => by have := e4 j u hj; rwa [Nat.zero_add] at this), hb, e2, below_none g (Nat.le_refl _)⟩
 obtain ⟨n, hn⟩ : ∃ n, n = k.length := ⟨_, rfl⟩
 rw [← hn] at r HR ⊢
 have ne : ∀ w, (binOp .eql 30 (.slice (some ⟨g0, 0, none⟩) n c) (.slice none 0 0)).run Tryz.prog w = .ok (.bool false) w := fun w => by kernel_rfl
 clear s g z hk h0 hl hn
 go_enter Tryz.func41, Tryz.ntmps41
 go_wp2_with (at_builtin; refine wp_app 30 rfl (.tmp 5) (.tmp 6) rfl rfl rfl r ?_)
 go_ret
 exact ⟨cap, rfl, HR.out⟩
theorem CloneRow_some (g0 : Nat) (k : List Va) (c : Nat) (w : World) (hk : valsAt w g0 k) (h0 : 0 < k.length) (hl : k.length ≤ 1000000000) :
  Calls Tryz.prog 41 #[.slice (some ⟨g0, 0, none⟩) k.length c] w fun e w' => ∃ cap, e = .returned (.slice (some ⟨w.heap.size + 1, 0, none⟩) k.length cap) ∧ valsAt w' (w.heap.size + 1) k ∧ k.length ≤ cap ∧ Below w.heap.size w w' := (CloneRow_own g0 k c w hk h0 hl).mono (fun e w' h => by obtain ⟨cap, h1, h2, _, h3, h4⟩ := h; exact ⟨cap, h1, h2, h3, h4⟩)
set_option maxHeartbeats 4000000 in
set_option maxRecDepth 1000000 in
theorem CloneRow_nil (w : World) :
  Calls Tryz.prog 41 #[.slice none 0 0] w fun e w' => e = .returned (.slice none 0 0) ∧ w' = w := by
 have ne : ∀ w, (binOp .eql 30 (.slice none 0 0) (.slice none 0 0)).run Tryz.prog w = .ok (.bool true) w := fun w => by kernel_rfl
 go_enter Tryz.func41, Tryz.ntmps41
 go_wp2_with fail
 go_ret
 exact ⟨rfl, rfl⟩
end Go.Proofs.YtclcajnodoifjaaGreatDoor

