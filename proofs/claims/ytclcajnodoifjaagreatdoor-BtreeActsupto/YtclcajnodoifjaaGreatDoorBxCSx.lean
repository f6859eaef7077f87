/-
 The closure of Range: it ranges over rising, and hands over copies.
-/
import Derived.Test.YtclcajnodoifjaaGreatDoorIAP
namespace Go.Proofs.YtclcajnodoifjaaGreatDoor
open Go.RowKit Go.Shelf Go.Joins Go.Maps
attribute [local go_sem] Oper.semAt_some
set_option maxRecDepth 100000

def noDefer (ops : Array Oper) : Bool := ops.all (fun o => match o.op with | .defer _ => false | _ => true)
theorem noDefer_at {ops : Array Oper} (h : noDefer ops = true) {i : Nat} {o : Oper} (ho : ops[i]? = some o) (c : Call) : o.op ≠ .defer c := by
 intro e
 obtain ⟨hi, hx⟩ := Array.getElem?_eq_some_iff.1 ho
 have := (Array.all_eq_true.1 h) i hi
 rw [hx, e] at this
 cases this
theorem op_inRound {F : Fence} {n : Nat} {P : Program} {ops : Array Oper} {Q : Exit → Act → World → Prop} {i l : Nat} {K K' : Act → World → Prop} {a : Act} {w : World} (hro : F.round = none) (hd : noDefer ops = true) (h : wpOpIn F n P ops Q i K a w) (hk : ∀ a w, K a w → K' a w) : wpOpIn (F.inRound l) n P ops Q i K' a w := by
 replace h := wpOpIn_mono hk h
 unfold wpOpIn at *
 cases ho : ops[i]? with
 | none => simpa [ho] using h
 | some o =>
  simp only [ho] at h ⊢
  split
  ·rename_i hw
   simp only [hw, if_true] at h
   unfold Oper.wpIn at *
   refine ⟨h.1, ?_⟩
   have h2 := h.2
   rw [hro, Oper.semAt_none] at h2
   rw [show (F.inRound l).round = some l from rfl, Oper.semAt_some l _ o (noDefer_at hd ho)]
   exact h2
  ·rename_i hw
   simp only [hw] at h
   exact h
theorem any_inRound {F : Fence} {n : Nat} {P : Program} {md : Region.Mode} {ops : Array Oper} {Q : Exit → Act → World → Prop} {l : Nat} (hro : F.round = none) (hd : noDefer ops = true) : ∀ (fuel : Nat) (listed : Array Bool) (a : Act) (w : World), wpAnyIn F n P md ops Q fuel listed a w → wpAnyIn (F.inRound l) n P md ops Q fuel listed a w
 | 0, _, _, _, h => h
 | fuel + 1, _, _, _, h => ⟨h.1, fun i hi => op_inRound hro hd (h.2 i hi) (fun a w => any_inRound hro hd fuel _ a w)⟩
/-- between two rounds -/
structure HgI (T : Nat → Prop) (Tot : List Em) (J : List (Hd Tot) → World → Prop) (By yl : Nat) (pre : List { q : Em // q ∈ Tot }) (A : World) : Prop where
 got : ∃ s : List (Hd Tot), hdE_ s = pre.map (fun x => x.1.e) ∧ J s A
 box : A.heap[By]? = some (.cells #[.func (.yield yl) #[] #[]] 41 (0, 0))
 keys : ∀ q ∈ Tot, KeyOk T A q
def HgX (Tot : List Em) (Jx : List (Hd Tot) → World → Prop) (c : Code) (pre : List { q : Em // q ∈ Tot }) (A : World) : Prop := c = .ret ∧ ∃ s : List (Hd Tot), hdE_ s = pre.map (fun x => x.1.e) ∧ Jx s A
theorem HgI.own {T : Nat → Prop} {Tot : List Em} {J : List (Hd Tot) → World → Prop} {By yl B B' : Nat} (hJ : OwnFrom B J) (hB : B ≤ B') : OwnFrom B' (HgI T Tot J By yl) := fun _ X Y row hs hg hr =>
 ⟨by obtain ⟨s, h1, h2⟩ := hs.got; exact ⟨s, h1, hJ s X Y row h2 hg (fun r e => ⟨Nat.le_trans hB (hr r e).1, (hr r e).2⟩)⟩, cells_own hg (fun r e => (hr r e).2) hs.box, fun q hq => (hs.keys q hq).keeps ((keeps_own hg (fun r e => (hr r e).2)).mono (fun _ _ => trivial))⟩
theorem HgX.own {Tot : List Em} {Jx : List (Hd Tot) → World → Prop} {B B' : Nat} (hJ : OwnFrom B Jx) (hB : B ≤ B') (c : Code) : OwnFrom B' (HgX Tot Jx c) := fun _ X Y row hs hg hr =>
 ⟨hs.1, by obtain ⟨s, h1, h2⟩ := hs.2; exact ⟨s, h1, hJ s X Y row h2 hg (fun r e => ⟨Nat.le_trans hB (hr r e).1, (hr r e).2⟩)⟩⟩
/-- a loop variable's box -/
def HgB (B0 Bx : Nat) (x : Em) (A : World) : Prop := B0 < Bx ∧ A.heap[Bx]? = some (.cells #[.slice (some ⟨x.g, 0, none⟩) x.e.key.length x.c, .int .u64 x.e.id] 65 (0, 0))
/-- what a round leaves -/
def HgQ (T Y : Nat → Prop) {Tot : List Em} (J Jx : List (Hd Tot) → World → Prop) (By yl B : Nat) (pre : List { q : Em // q ∈ Tot }) (A : World) (b : Bool) (w' : World) : Prop :=
 (b = true ∧ KeepsFrom B A w' ∧ Keeps (fun b => ¬ Y b) A w' ∧ HgI T Tot J By yl pre w') ∨ (b = false ∧ KeepsFrom B A w' ∧ HgX Tot Jx .ret pre w')
theorem yield_to {m k : Nat} {P : Program} {l : Nat} {args : Array Value} {W : World} {R R' : Ending → World → Prop} (h : YieldAt Fence.wide m P l args W R) (hr : ∀ e w, R e w → R' e w) : YieldAt Fence.wide k P l args W R' := (yield_any h).mono hr
set_option maxHeartbeats 8000000 in
set_option maxRecDepth 1000000 in
theorem range1_x (T Y : Nat → Prop) (fl_ fh : Nat) (ll lh : Array Value) (lo hi : En → Bool) (d l bt B1 B2 : Nat) (n : Nd Em) (p1 : Option Addr) (n1 c1 : Nat) (p2 : Option Addr) (n2 c2 : Nat) (Tot : List Em) (w : World) (hTot : Tot = within (fun q : Em => lo q.e) (fun q : Em => hi q.e) n.fl) (hn : RtIn T w d l n (.slice p1 n1 c1) (.slice p2 n2 c2)) (he : SpOk T w fl_ fh ll lh lo hi) (hY : ∀ b, Y b → b < w.heap.size) (ho : ∀ b, Y b → ¬ T b)
  (k1 : w.cell? ⟨bt, 1, none⟩ = some (.slice p1 n1 c1)) (k2 : w.cell? ⟨bt, 2, none⟩ = some (.slice p2 n2 c2)) (hb1 : w.heap[B1]? = some (.cells #[.pointer (some ⟨bt, 0, none⟩)] 23 (0, 0))) (hb2 : w.heap[B2]? = some (.cells #[.func (.func fl_) #[] ll, .func (.func fh) #[] lh] 72 (0, 0))) :
  SeqX Tryz.prog 40 #[.pointer (some ⟨B1, 0, none⟩), .pointer (some ⟨B2, 0, none⟩)] hdV (hdK Y) hdP hdS (hdSp (Tot := Tot)) Tot.length w := by
 intro yl J Jx W hW hyl0 hJ hJx hyl h0 m
 refine callsIn_wide.2 ((callsIn_wide (n := 3)).1 ?_)
 show CallsIn Fence.wide 3 Tryz.prog 40 #[.func (.yield yl) #[] #[], .pointer (some ⟨B1, 0, none⟩), .pointer (some ⟨B2, 0, none⟩)] W _
 have K0 : Keeps T w W := Keeps.of_below hW
 obtain ⟨w0, hw0⟩ : ∃ w0, w0 = W.alloc (.cells #[.func (.yield yl) #[] #[]] 41) := ⟨_, rfl⟩
 have d0 : w0.heap[W.heap.size]? = some (.cells #[.func (.yield yl) #[] #[]] 41 (0, 0)) := by rw [hw0]; exact heap_alloc_new _ _
 have bb : Below W.heap.size W w0 := by rw [hw0]; exact (Below.refl _ W).alloc (Nat.le_refl _) _
 have bs : w0.heap.size = W.heap.size + 1 := by rw [hw0]; exact World.size_alloc _ _
 have bW : Below w.heap.size w w0 := hW.trans (bb.mono hW.size)
 have e1 := (bW.block _ (lt_of_heap hb1)).trans hb1
 have e2 := (bW.block _ (lt_of_heap hb2)).trans hb2
 have a0 : w0.cell? ⟨B1, 0, none⟩ = some (.pointer (some ⟨bt, 0, none⟩)) := (cell_of_block e1 0).trans rfl
 have a1 : w0.cell? ⟨B2, 0, none⟩ = some (.func (.func fl_) #[] ll) := (cell_of_block e2 0).trans rfl
 have a2 : w0.cell? ⟨B2, 1, none⟩ = some (.func (.func fh) #[] lh) := (cell_of_block e2 1).trans rfl
 have a3 : w0.cell? ⟨bt, 1, none⟩ = some (.slice p1 n1 c1) := (Keeps.of_below (T := fun _ => True) bW).cell trivial k1
 have a4 : w0.cell? ⟨bt, 2, none⟩ = some (.slice p2 n2 c2) := (Keeps.of_below (T := fun _ => True) bW).cell trivial k2
 have RI : Hid (Calls Tryz.prog 38 #[.agg #[.slice p1 n1 c1, .slice p2 n2 c2], .agg #[.func (.func fl_) #[] ll, .func (.func fh) #[] lh]] w0.drew fun e w' => e = .returned (.func (.func 63) #[] #[.pointer (some ⟨w0.heap.size, 0, none⟩), .pointer (some ⟨w0.heap.size + 1, 0, none⟩)]) ∧ w'.heap[w0.heap.size]? = some (.cells #[.slice p1 n1 c1, .slice p2 n2 c2] 60 (0, 0)) ∧ w'.heap[w0.heap.size + 1]? = some (.cells #[.func (.func fl_) #[] ll, .func (.func fh) #[] lh] 72 (0, 0)) ∧ Below w0.heap.size w0 w') := (rising_any _ _ _ _ p1 n1 c1 p2 n2 c2 fl_ fh ll lh rfl rfl rfl rfl w0.drew).mono (fun e w' h => ⟨h.1, h.2.1, h.2.2.1, (Below.refl _ w0).drew.trans h.2.2.2⟩)
 have RS : Hid (∀ w3, Below w0.heap.size w0 w3 → w3.heap[w0.heap.size]? = some (.cells #[.slice p1 n1 c1, .slice p2 n2 c2] 60 (0, 0)) → w3.heap[w0.heap.size + 1]? = some (.cells #[.func (.func fl_) #[] ll, .func (.func fh) #[] lh] 72 (0, 0)) → SeqStopsK Fence.wide (3 - 1) Tryz.prog 63 #[.pointer (some ⟨w0.heap.size, 0, none⟩), .pointer (some ⟨w0.heap.size + 1, 0, none⟩)] (fun x : { q : Em // q ∈ Tot } => #[emV x.1]) (Keeps (fun b => ¬ Y b)) (fun xs => xs.map (fun x => x.1) = Tot) (fun pre => ∃ rest, Tot = pre.map (fun x => x.1) ++ rest) Tot.length w3) := fun w3 h1 h2 h3 =>
  have K : Keeps T w w3 := (Keeps.of_below bW).trans (Keeps.of_below h1)
  rising1_stops T Y fl_ fh ll lh lo hi _ d l _ _ n p1 n1 c1 p2 n2 c2 Tot w3 hTot (hn.nd.keeps K) hn.wf hn.ne hn.up (he.low.keeps K) (he.high.keeps K) he.span (fun b h => Nat.lt_of_lt_of_le (hY b h) (Nat.le_trans bW.size h1.size)) ho h2 h3
 have KY : Hid (∀ q ∈ Tot, KeyOk T w0 q) := fun q hq => (hn.nd.keys q (by rw [hTot] at hq; simp [within] at hq; exact hq.1)).keeps (Keeps.of_below bW)
 have JW := own_below hJ h0 bb
 have YS : Hid (∀ (pre : List { q : Em // q ∈ Tot }) (x : { q : Em // q ∈ Tot }) (A w4 : World) (cap : Nat), W.heap.size ≤ A.heap.size → HgI T Tot J W.heap.size yl pre A → pre.length < Tot.length → valsAt w4 (A.heap.size + 1) x.1.e.key → (∃ cs, w4.heap[A.heap.size + 1]? = some (.cells cs 40 (0, 0))) → x.1.e.key.length ≤ cap → Below A.heap.size A w4 → YieldAt Fence.wide 0 Tryz.prog yl #[.slice (some ⟨A.heap.size + 1, 0, none⟩) x.1.e.key.length cap, .int .u64 x.1.e.id] w4 fun e w' => ∃ b, e = .returned (.bool b) ∧ HgQ T Y J Jx W.heap.size yl w0.heap.size (pre ++ [x]) A b w') := fun pre x A w4 cap sA hi hlt v1 v0 v2 v3 => by
  obtain ⟨s, s1, s2⟩ := hi.got
  have hx := hi.keys x.1 x.2
  refine yield_to (hyl s ⟨⟨x.1.e, A.heap.size + 1, cap⟩, List.mem_map.2 ⟨x.1, x.2, rfl⟩⟩ w4 (own_below hJ s2 v3) ⟨⟨by show W.heap.size ≤ A.heap.size + 1; omega, v1, hx.pos, hx.few, v2, hx.fits⟩, v0⟩ ?_) (fun e w' h => ?_)
  ·have := congrArg List.length s1
   simp [hdE_] at this
   omega
  ·have ap : hdE_ (s ++ [(⟨⟨x.1.e, A.heap.size + 1, cap⟩, List.mem_map.2 ⟨x.1, x.2, rfl⟩⟩ : Hd Tot)]) = (pre ++ [x]).map (fun x => x.1.e) := by
    rw [List.map_append, ← s1]; simp [hdE_]
   rcases h with ⟨h1, h2, h3, h4⟩ | ⟨h1, h2, h3⟩
   ·have kk : Keeps (fun b => ¬ Y b) A w' := ⟨Nat.le_trans v3.size h3.1, fun b cs t z hb hc => h3.2 b cs t z ⟨hb, fun e => by have := lt_of_heap hc; change b = A.heap.size + 1 at e; omega⟩ ((v3.block _ (lt_of_heap hc)).trans hc)⟩
    exact ⟨true, h1, Or.inl ⟨rfl, (below_keepsFrom v3).trans (kf_mono h4 (by omega)), kk, ⟨⟨_, ap, h2⟩, kk.2 _ _ _ _ (fun hy => by have := hY _ hy; have := hW.size; omega) hi.box, fun q hq => (hi.keys q hq).keeps (kp_keeps kk ho)⟩⟩⟩
   ·exact ⟨false, h1, Or.inr ⟨rfl, (below_keepsFrom v3).trans (kf_mono h3 (by omega)), ⟨rfl, _, ap, h2⟩⟩⟩
 have HT := mkHid hTot
 have HJ := mkHid hJ
 have HJx := mkHid hJx
 have HTO := mkHid ho
 clear hn he k1 k2 hTot hb1 hb2 hyl h0 hJ hJx e1 e2 K0 hY bW hW hyl0 ho
 rw [bs] at RI RS
 refine callsIn_of_wp_marks Tryz.func40 rfl trivial ?_ rfl
 simp only [Tryz.ntmps40, List.size_toArray, List.length_cons, List.length_nil, Nat.reduceAdd, Nat.reduceSub, Array.replicate_succ, Array.replicate_zero, List.push_toArray, List.append_toArray, List.nil_append, List.cons_append]
 gi_wp2_with fail
 rw [← hw0]
 clear hw0
 refine wpIn_mono (Q := fun e a' w' => e = .normal ∧ a' = { tmps := #[.func (.yield yl) #[] #[], .pointer (some ⟨B1, 0, none⟩), .pointer (some ⟨B2, 0, none⟩), .pointer (some ⟨W.heap.size, 0, none⟩), undef, .pointer (some ⟨bt, 0, none⟩), .pointer (some ⟨bt, 0, none⟩), .pointer (some ⟨bt, 1, none⟩), .agg #[.slice p1 n1 c1, .slice p2 n2 c2], .agg #[.func (.func fl_) #[] ll, .func (.func fh) #[] lh], .func (.func 63) #[] #[.pointer (some ⟨W.heap.size + 1, 0, none⟩), .pointer (some ⟨W.heap.size + 1 + 1, 0, none⟩)], undef, undef, undef, undef, undef, undef, undef, undef, undef], defers := [] } ∧ w'.heap[W.heap.size + 1]? = some (.cells #[.slice p1 n1 c1, .slice p2 n2 c2] 60 (0, 0)) ∧ w'.heap[W.heap.size + 1 + 1]? = some (.cells #[.func (.func fl_) #[] ll, .func (.func fh) #[] lh] 72 (0, 0)) ∧ Below (W.heap.size + 1) w0 w') ?_ ?_
 ·refine wpIn_region_any (by kernel_rfl) ?_
  refine wpAnyIn_ready (rs := [0, 4]) (by kernel_rfl) (by simp) ?_
  refine AllReadyIn.cons rfl (fun K hK => ?_) (AllReadyIn.cons rfl (fun K hK => ?_) AllReadyIn.nil)
  ·have HK := mkHid hK
   clear hK
   go_simp
   refine HK.out _ _ ?_
   clear HK K
   refine takeF_at (i := 1) (v := .pointer (some ⟨bt, 0, none⟩)) rfl rfl rfl (by kernel_rfl) (by kernel_rfl) (by kernel_rfl) (fun _ _ _ h => by cases h.1) ⟨Or.inl ⟨by rfl, ?_⟩, fun _ => rfl⟩ ?_
   ·intro w5; go_simp
   simp only [zA9, zB9, zC9]
   refine takeF_at (i := 2) (v := .pointer (some ⟨bt, 1, none⟩)) rfl rfl rfl (by kernel_rfl) (by kernel_rfl) (by kernel_rfl) (fun _ _ _ h => by cases h.1) ⟨Or.inl ⟨by rfl, ?_⟩, fun _ => rfl⟩ ?_
   ·intro w5; go_simp
   simp only [zA9, zB9, zC9]
   refine wpAnyIn_ready (rs := [3, 4]) (by kernel_rfl) (by simp) ?_
   refine AllReadyIn.cons rfl (fun K hK => ?_) (AllReadyIn.cons rfl (fun K hK => ?_) AllReadyIn.nil)
   ·have HK := mkHid hK
    clear hK
    go_simp
    refine HK.out _ _ ?_
    clear HK K
    refine wpAnyIn_ready (rs := [4]) (by kernel_rfl) (by simp) ?_
    refine AllReadyIn.cons rfl (fun K hK => ?_) AllReadyIn.nil
    ·have HK := mkHid hK
     clear hK
     go_simp
     refine HK.out _ _ ?_
     clear HK K
     refine wpAnyIn_ready (rs := [5]) (by kernel_rfl) (by simp) ?_
     refine AllReadyIn.cons rfl (fun K hK => ?_) AllReadyIn.nil
     ·have HK := mkHid hK
      clear hK
      go_simp
      refine ⟨trivial, (callsIn_wide.2 RI.out).mono ?_⟩
      rintro en w3 ⟨rfl, r1, r2, r3⟩
      gi_wp2_with fail
      refine HK.out _ _ ?_
      clear HK K
      refine wpAnyIn_done (by kernel_rfl) ?_ _
      exact ⟨rfl, rfl, r1, r2, r3⟩
   ·have HK := mkHid hK
    clear hK
    go_simp
    refine HK.out _ _ ?_
    clear HK K
    refine wpAnyIn_ready (rs := [3]) (by kernel_rfl) (by simp) ?_
    refine AllReadyIn.cons rfl (fun K hK => ?_) AllReadyIn.nil
    ·have HK := mkHid hK
     clear hK
     go_simp
     refine HK.out _ _ ?_
     clear HK K
     refine wpAnyIn_ready (rs := [5]) (by kernel_rfl) (by simp) ?_
     refine AllReadyIn.cons rfl (fun K hK => ?_) AllReadyIn.nil
     ·have HK := mkHid hK
      clear hK
      go_simp
      refine ⟨trivial, (callsIn_wide.2 RI.out).mono ?_⟩
      rintro en w3 ⟨rfl, r1, r2, r3⟩
      gi_wp2_with fail
      refine HK.out _ _ ?_
      clear HK K
      refine wpAnyIn_done (by kernel_rfl) ?_ _
      exact ⟨rfl, rfl, r1, r2, r3⟩
  ·have HK := mkHid hK
   clear hK
   go_simp
   refine HK.out _ _ ?_
   clear HK K
   refine wpAnyIn_ready (rs := [0]) (by kernel_rfl) (by simp) ?_
   refine AllReadyIn.cons rfl (fun K hK => ?_) AllReadyIn.nil
   ·have HK := mkHid hK
    clear hK
    go_simp
    refine HK.out _ _ ?_
    clear HK K
    refine takeF_at (i := 1) (v := .pointer (some ⟨bt, 0, none⟩)) rfl rfl rfl (by kernel_rfl) (by kernel_rfl) (by kernel_rfl) (fun _ _ _ h => by cases h.1) ⟨Or.inl ⟨by rfl, ?_⟩, fun _ => rfl⟩ ?_
    ·intro w5; go_simp
    simp only [zA9, zB9, zC9]
    refine takeF_at (i := 2) (v := .pointer (some ⟨bt, 1, none⟩)) rfl rfl rfl (by kernel_rfl) (by kernel_rfl) (by kernel_rfl) (fun _ _ _ h => by cases h.1) ⟨Or.inl ⟨by rfl, ?_⟩, fun _ => rfl⟩ ?_
    ·intro w5; go_simp
    simp only [zA9, zB9, zC9]
    refine wpAnyIn_ready (rs := [3]) (by kernel_rfl) (by simp) ?_
    refine AllReadyIn.cons rfl (fun K hK => ?_) AllReadyIn.nil
    ·have HK := mkHid hK
     clear hK
     go_simp
     refine HK.out _ _ ?_
     clear HK K
     refine wpAnyIn_ready (rs := [5]) (by kernel_rfl) (by simp) ?_
     refine AllReadyIn.cons rfl (fun K hK => ?_) AllReadyIn.nil
     ·have HK := mkHid hK
      clear hK
      go_simp
      refine ⟨trivial, (callsIn_wide.2 RI.out).mono ?_⟩
      rintro en w3 ⟨rfl, r1, r2, r3⟩
      gi_wp2_with fail
      refine HK.out _ _ ?_
      clear HK K
      refine wpAnyIn_done (by kernel_rfl) ?_ _
      exact ⟨rfl, rfl, r1, r2, r3⟩
 ·rintro e a' w3 ⟨rfl, rfl, r1, r2, r3⟩
  gi_wp2_with fail
  have sz3 : W.heap.size + 1 + 1 < w3.heap.size := lt_of_heap r2
  have i0 : HgI T Tot J W.heap.size yl [] w3 := ⟨⟨[], rfl, own_below HJ.out JW (r3.mono (by omega))⟩, (r3.block _ (by omega)).trans d0, fun q hq => (KY.out q hq).keeps (Keeps.of_below (r3.mono (by omega)))⟩
  refine wpIn_rangeFunc_ownH rfl (by decide) (gf := 63) (lb := #[.pointer (some ⟨W.heap.size + 1, 0, none⟩), .pointer (some ⟨W.heap.size + 1 + 1, 0, none⟩)]) rfl trivial (enters_of Tryz.func63 (by kernel_rfl) rfl) (RS.out w3 (r3.mono (by omega)) r1 r2) (fun h k => Keeps.trans h k) (fun W l o o' _ h1 h2 _ => keepsK_b h1 h2) (Below.refl _ _) (fun _ => rfl)
   (HgI T Tot J W.heap.size yl) (HgX Tot Jx) (HgI.own HJ.out (by omega)) (HgX.own HJx.out (by omega)) i0
   (fun x a' A => ∃ Bx, HgB W.heap.size Bx x.1 A ∧ a' = { tmps := #[.func (.yield yl) #[] #[], .pointer (some ⟨B1, 0, none⟩), .pointer (some ⟨B2, 0, none⟩), .pointer (some ⟨W.heap.size, 0, none⟩), .pointer (some ⟨Bx, 0, none⟩), .pointer (some ⟨bt, 0, none⟩), .pointer (some ⟨bt, 0, none⟩), .pointer (some ⟨bt, 1, none⟩), .agg #[.slice p1 n1 c1, .slice p2 n2 c2], .agg #[.func (.func fl_) #[] ll, .func (.func fh) #[] lh], .func (.func 63) #[] #[.pointer (some ⟨W.heap.size + 1, 0, none⟩), .pointer (some ⟨W.heap.size + 1 + 1, 0, none⟩)], emV x.1, undef, undef, undef, undef, undef, undef, undef, undef], defers := [] })
   (fun x a' _ X Y' row hs hg hr => by obtain ⟨Bx, ⟨h1, h2⟩, h3⟩ := hs; exact ⟨Bx, ⟨h1, cells_own hg (fun r e => (hr r e).2) h2⟩, h3⟩) ?assign ?body ?done ?stop
  case assign =>
   rintro l2 pre x A K hi hK
   have HI := mkHid hi
   have HKK := mkHid hK
   clear hi hK
   gi_wp2_with fail
   have bA := (Below.refl _ A).alloc (Nat.le_refl _) (.cells #[.slice (some ⟨x.1.g, 0, none⟩) x.1.e.key.length x.1.c, .int .u64 x.1.e.id] 65)
   exact HKK.out _ _ (below_keepsFrom bA) (Keeps.of_below bA) (own_below (HgI.own HJ.out (Nat.le_refl _)) HI.out bA) ⟨_, ⟨lt_of_heap HI.out.box, heap_alloc_new _ _⟩, rfl⟩
  case body =>
   rintro l2 pre x a' A hl ⟨r, hr⟩ hi ⟨Bx, ⟨hBx, bX⟩, rfl⟩ hlt
   have hlA := lt_of_heap hi.box
   have hlB := lt_of_heap bX
   have hx := hi.keys x.1 x.2
   have f0 : A.cell? ⟨W.heap.size, 0, none⟩ = some (.func (.yield yl) #[] #[]) := (cell_of_block hi.box 0).trans rfl
   have f1 : A.cell? ⟨Bx, 0, none⟩ = some (.slice (some ⟨x.1.g, 0, none⟩) x.1.e.key.length x.1.c) := (cell_of_block bX 0).trans rfl
   have f2 : A.cell? ⟨Bx, 1, none⟩ = some (.int .u64 x.1.e.id) := (cell_of_block bX 1).trans rfl
   have CL : Hid (Calls Tryz.prog 41 #[.slice (some ⟨x.1.g, 0, none⟩) x.1.e.key.length x.1.c] A.drew fun e w' => ∃ cap, e = .returned (.slice (some ⟨A.heap.size + 1, 0, none⟩) x.1.e.key.length cap) ∧ valsAt w' (A.heap.size + 1) x.1.e.key ∧ (∃ cs, w'.heap[A.heap.size + 1]? = some (.cells cs 40 (0, 0))) ∧ x.1.e.key.length ≤ cap ∧ Below A.heap.size A w') := (CloneRow_own x.1.g x.1.e.key x.1.c A.drew hx.vals hx.pos (by have := hx.few; omega)).mono (fun e w' h => by obtain ⟨cap, h1, h2, h0, h3, h4⟩ := h; exact ⟨cap, h1, h2, h0, h3, (Below.refl _ A).drew.trans h4⟩)
   have YR : Hid (∀ (w4 : World) (cap : Nat), valsAt w4 (A.heap.size + 1) x.1.e.key → (∃ cs, w4.heap[A.heap.size + 1]? = some (.cells cs 40 (0, 0))) → x.1.e.key.length ≤ cap → Below A.heap.size A w4 → YieldAt Fence.wide 0 Tryz.prog yl #[.slice (some ⟨A.heap.size + 1, 0, none⟩) x.1.e.key.length cap, .int .u64 x.1.e.id] w4 fun e w' => ∃ b, e = .returned (.bool b) ∧ HgQ T Y J Jx W.heap.size yl w0.heap.size (pre ++ [x]) A b w') := fun w4 cap v1 v0 v2 v3 => YS.out pre x A w4 cap (Nat.le_of_lt hlA) hi hlt v1 v0 v2 v3
   clear hi hx bX hr hl YS hBx RI RS KY
   gi_wp2_with fail
   refine wpIn_mono (Q := fun e a' w' => e = .normal ∧ ∃ cap b, a' = { tmps := #[.func (.yield yl) #[] #[], .pointer (some ⟨B1, 0, none⟩), .pointer (some ⟨B2, 0, none⟩), .pointer (some ⟨W.heap.size, 0, none⟩), .pointer (some ⟨Bx, 0, none⟩), .pointer (some ⟨bt, 0, none⟩), .pointer (some ⟨bt, 0, none⟩), .pointer (some ⟨bt, 1, none⟩), .agg #[.slice p1 n1 c1, .slice p2 n2 c2], .agg #[.func (.func fl_) #[] ll, .func (.func fh) #[] lh], .func (.func 63) #[] #[.pointer (some ⟨W.heap.size + 1, 0, none⟩), .pointer (some ⟨W.heap.size + 1 + 1, 0, none⟩)], emV x.1, .func (.yield yl) #[] #[], .pointer (some ⟨Bx, 0, none⟩), .slice (some ⟨x.1.g, 0, none⟩) x.1.e.key.length x.1.c, .slice (some ⟨A.heap.size + 1, 0, none⟩) x.1.e.key.length cap, .pointer (some ⟨Bx, 1, none⟩), .int .u64 x.1.e.id, .bool b, .bool (!b)], defers := [] } ∧ HgQ T Y J Jx W.heap.size yl w0.heap.size (pre ++ [x]) A b w') ?_ ?_
   ·refine wpIn_region_any (by kernel_rfl) ?_
    refine any_inRound rfl (by kernel_rfl) _ _ _ _ ?_
    refine takeF_at (i := 1) (v := .pointer (some ⟨Bx, 0, none⟩)) rfl rfl rfl (by kernel_rfl) (by kernel_rfl) (by kernel_rfl) (fun _ _ _ h => by cases h.1) ⟨Or.inl ⟨by rfl, ?_⟩, fun _ => rfl⟩ ?_
    ·intro w5; go_simp
    simp only [zA9, zB9, zC9]
    refine takeF_at (i := 4) (v := .pointer (some ⟨Bx, 1, none⟩)) rfl rfl rfl (by kernel_rfl) (by kernel_rfl) (by kernel_rfl) (fun _ _ _ h => by cases h.1) ⟨Or.inl ⟨by rfl, ?_⟩, fun _ => rfl⟩ ?_
    ·intro w5; go_simp
    simp only [zA9, zB9, zC9]
    refine wpAnyIn_ready (rs := [0, 2, 5]) (by kernel_rfl) (by simp) ?_
    refine AllReadyIn.cons rfl (fun K hK => ?_) (AllReadyIn.cons rfl (fun K hK => ?_) (AllReadyIn.cons rfl (fun K hK => ?_) AllReadyIn.nil))
    ·have HK := mkHid hK
     clear hK
     go_simp
     refine HK.out _ _ ?_
     clear HK K
     refine wpAnyIn_ready (rs := [2, 5]) (by kernel_rfl) (by simp) ?_
     refine AllReadyIn.cons rfl (fun K hK => ?_) (AllReadyIn.cons rfl (fun K hK => ?_) AllReadyIn.nil)
     ·have HK := mkHid hK
      clear hK
      go_simp
      refine HK.out _ _ ?_
      clear HK K
      refine wpAnyIn_ready (rs := [3, 5]) (by kernel_rfl) (by simp) ?_
      refine AllReadyIn.cons rfl (fun K hK => ?_) (AllReadyIn.cons rfl (fun K hK => ?_) AllReadyIn.nil)
      ·have HK := mkHid hK
       clear hK
       go_simp
       refine ⟨trivial, (CallsIn.inRound l2 (callsIn_wide.2 CL.out)).mono ?_⟩
       rintro en w4 ⟨cap, rfl, v1, v0, v2, v3⟩
       obtain ⟨yfn, ytm, yas, ybo, hyr, hR⟩ := YR.out w4 cap v1 v0 v2 v3
       have HRR := mkHid hR
       clear hR
       have g0 := (v3.cell (p := ⟨W.heap.size, 0, none⟩) hlA).trans f0
       have g1 := (v3.cell (p := ⟨Bx, 0, none⟩) hlB).trans f1
       have g2 := (v3.cell (p := ⟨Bx, 1, none⟩) hlB).trans f2
       clear v1 v0 v2 v3
       gi_wp2_with fail
       refine HK.out _ _ ?_
       clear HK K
       refine wpAnyIn_ready (rs := [5]) (by kernel_rfl) (by simp) ?_
       refine AllReadyIn.cons rfl (fun K hK => ?_) AllReadyIn.nil
       ·have HK := mkHid hK
        clear hK
        go_simp
        refine HK.out _ _ ?_
        clear HK K
        refine wpAnyIn_ready (rs := [6]) (by kernel_rfl) (by simp) ?_
        refine AllReadyIn.cons rfl (fun K hK => ?_) AllReadyIn.nil
        ·have HK := mkHid hK
         clear hK
         go_simp
         refine HRR.out.mono ?_
         rintro en w6 ⟨b, rfl, hb⟩
         gi_wp2_with fail
         refine HK.out _ _ ?_
         clear HK K
         refine takeF_at (i := 7) (v := .bool (!b)) rfl rfl rfl (by kernel_rfl) (by kernel_rfl) (by kernel_rfl) (fun _ _ _ h => by cases h.1) ⟨Or.inl ⟨by rfl, ?_⟩, fun _ => rfl⟩ ?_
         ·intro w5; go_simp
         simp only [zA9, zB9, zC9]
         refine wpAnyIn_done (by kernel_rfl) ?_ _
         exact ⟨rfl, cap, b, rfl, hb⟩
      ·have HK := mkHid hK
       clear hK
       go_simp
       refine HK.out _ _ ?_
       clear HK K
       refine wpAnyIn_ready (rs := [3]) (by kernel_rfl) (by simp) ?_
       refine AllReadyIn.cons rfl (fun K hK => ?_) AllReadyIn.nil
       ·have HK := mkHid hK
        clear hK
        go_simp
        refine ⟨trivial, (CallsIn.inRound l2 (callsIn_wide.2 CL.out)).mono ?_⟩
        rintro en w4 ⟨cap, rfl, v1, v0, v2, v3⟩
        obtain ⟨yfn, ytm, yas, ybo, hyr, hR⟩ := YR.out w4 cap v1 v0 v2 v3
        have HRR := mkHid hR
        clear hR
        have g0 := (v3.cell (p := ⟨W.heap.size, 0, none⟩) hlA).trans f0
        have g1 := (v3.cell (p := ⟨Bx, 0, none⟩) hlB).trans f1
        have g2 := (v3.cell (p := ⟨Bx, 1, none⟩) hlB).trans f2
        clear v1 v0 v2 v3
        gi_wp2_with fail
        refine HK.out _ _ ?_
        clear HK K
        refine wpAnyIn_ready (rs := [6]) (by kernel_rfl) (by simp) ?_
        refine AllReadyIn.cons rfl (fun K hK => ?_) AllReadyIn.nil
        ·have HK := mkHid hK
         clear hK
         go_simp
         refine HRR.out.mono ?_
         rintro en w6 ⟨b, rfl, hb⟩
         gi_wp2_with fail
         refine HK.out _ _ ?_
         clear HK K
         refine takeF_at (i := 7) (v := .bool (!b)) rfl rfl rfl (by kernel_rfl) (by kernel_rfl) (by kernel_rfl) (fun _ _ _ h => by cases h.1) ⟨Or.inl ⟨by rfl, ?_⟩, fun _ => rfl⟩ ?_
         ·intro w5; go_simp
         simp only [zA9, zB9, zC9]
         refine wpAnyIn_done (by kernel_rfl) ?_ _
         exact ⟨rfl, cap, b, rfl, hb⟩
     ·have HK := mkHid hK
      clear hK
      go_simp
      refine HK.out _ _ ?_
      clear HK K
      refine wpAnyIn_ready (rs := [2]) (by kernel_rfl) (by simp) ?_
      refine AllReadyIn.cons rfl (fun K hK => ?_) AllReadyIn.nil
      ·have HK := mkHid hK
       clear hK
       go_simp
       refine HK.out _ _ ?_
       clear HK K
       refine wpAnyIn_ready (rs := [3]) (by kernel_rfl) (by simp) ?_
       refine AllReadyIn.cons rfl (fun K hK => ?_) AllReadyIn.nil
       ·have HK := mkHid hK
        clear hK
        go_simp
        refine ⟨trivial, (CallsIn.inRound l2 (callsIn_wide.2 CL.out)).mono ?_⟩
        rintro en w4 ⟨cap, rfl, v1, v0, v2, v3⟩
        obtain ⟨yfn, ytm, yas, ybo, hyr, hR⟩ := YR.out w4 cap v1 v0 v2 v3
        have HRR := mkHid hR
        clear hR
        have g0 := (v3.cell (p := ⟨W.heap.size, 0, none⟩) hlA).trans f0
        have g1 := (v3.cell (p := ⟨Bx, 0, none⟩) hlB).trans f1
        have g2 := (v3.cell (p := ⟨Bx, 1, none⟩) hlB).trans f2
        clear v1 v0 v2 v3
        gi_wp2_with fail
        refine HK.out _ _ ?_
        clear HK K
        refine wpAnyIn_ready (rs := [6]) (by kernel_rfl) (by simp) ?_
        refine AllReadyIn.cons rfl (fun K hK => ?_) AllReadyIn.nil
        ·have HK := mkHid hK
         clear hK
         go_simp
         refine HRR.out.mono ?_
         rintro en w6 ⟨b, rfl, hb⟩
         gi_wp2_with fail
         refine HK.out _ _ ?_
         clear HK K
         refine takeF_at (i := 7) (v := .bool (!b)) rfl rfl rfl (by kernel_rfl) (by kernel_rfl) (by kernel_rfl) (fun _ _ _ h => by cases h.1) ⟨Or.inl ⟨by rfl, ?_⟩, fun _ => rfl⟩ ?_
         ·intro w5; go_simp
         simp only [zA9, zB9, zC9]
         refine wpAnyIn_done (by kernel_rfl) ?_ _
         exact ⟨rfl, cap, b, rfl, hb⟩
    ·have HK := mkHid hK
     clear hK
     go_simp
     refine HK.out _ _ ?_
     clear HK K
     refine wpAnyIn_ready (rs := [0, 3, 5]) (by kernel_rfl) (by simp) ?_
     refine AllReadyIn.cons rfl (fun K hK => ?_) (AllReadyIn.cons rfl (fun K hK => ?_) (AllReadyIn.cons rfl (fun K hK => ?_) AllReadyIn.nil))
     ·have HK := mkHid hK
      clear hK
      go_simp
      refine HK.out _ _ ?_
      clear HK K
      refine wpAnyIn_ready (rs := [3, 5]) (by kernel_rfl) (by simp) ?_
      refine AllReadyIn.cons rfl (fun K hK => ?_) (AllReadyIn.cons rfl (fun K hK => ?_) AllReadyIn.nil)
      ·have HK := mkHid hK
       clear hK
       go_simp
       refine ⟨trivial, (CallsIn.inRound l2 (callsIn_wide.2 CL.out)).mono ?_⟩
       rintro en w4 ⟨cap, rfl, v1, v0, v2, v3⟩
       obtain ⟨yfn, ytm, yas, ybo, hyr, hR⟩ := YR.out w4 cap v1 v0 v2 v3
       have HRR := mkHid hR
       clear hR
       have g0 := (v3.cell (p := ⟨W.heap.size, 0, none⟩) hlA).trans f0
       have g1 := (v3.cell (p := ⟨Bx, 0, none⟩) hlB).trans f1
       have g2 := (v3.cell (p := ⟨Bx, 1, none⟩) hlB).trans f2
       clear v1 v0 v2 v3
       gi_wp2_with fail
       refine HK.out _ _ ?_
       clear HK K
       refine wpAnyIn_ready (rs := [5]) (by kernel_rfl) (by simp) ?_
       refine AllReadyIn.cons rfl (fun K hK => ?_) AllReadyIn.nil
       ·have HK := mkHid hK
        clear hK
        go_simp
        refine HK.out _ _ ?_
        clear HK K
        refine wpAnyIn_ready (rs := [6]) (by kernel_rfl) (by simp) ?_
        refine AllReadyIn.cons rfl (fun K hK => ?_) AllReadyIn.nil
        ·have HK := mkHid hK
         clear hK
         go_simp
         refine HRR.out.mono ?_
         rintro en w6 ⟨b, rfl, hb⟩
         gi_wp2_with fail
         refine HK.out _ _ ?_
         clear HK K
         refine takeF_at (i := 7) (v := .bool (!b)) rfl rfl rfl (by kernel_rfl) (by kernel_rfl) (by kernel_rfl) (fun _ _ _ h => by cases h.1) ⟨Or.inl ⟨by rfl, ?_⟩, fun _ => rfl⟩ ?_
         ·intro w5; go_simp
         simp only [zA9, zB9, zC9]
         refine wpAnyIn_done (by kernel_rfl) ?_ _
         exact ⟨rfl, cap, b, rfl, hb⟩
      ·have HK := mkHid hK
       clear hK
       go_simp
       refine HK.out _ _ ?_
       clear HK K
       refine wpAnyIn_ready (rs := [3]) (by kernel_rfl) (by simp) ?_
       refine AllReadyIn.cons rfl (fun K hK => ?_) AllReadyIn.nil
       ·have HK := mkHid hK
        clear hK
        go_simp
        refine ⟨trivial, (CallsIn.inRound l2 (callsIn_wide.2 CL.out)).mono ?_⟩
        rintro en w4 ⟨cap, rfl, v1, v0, v2, v3⟩
        obtain ⟨yfn, ytm, yas, ybo, hyr, hR⟩ := YR.out w4 cap v1 v0 v2 v3
        have HRR := mkHid hR
        clear hR
        have g0 := (v3.cell (p := ⟨W.heap.size, 0, none⟩) hlA).trans f0
        have g1 := (v3.cell (p := ⟨Bx, 0, none⟩) hlB).trans f1
        have g2 := (v3.cell (p := ⟨Bx, 1, none⟩) hlB).trans f2
        clear v1 v0 v2 v3
        gi_wp2_with fail
        refine HK.out _ _ ?_
        clear HK K
        refine wpAnyIn_ready (rs := [6]) (by kernel_rfl) (by simp) ?_
        refine AllReadyIn.cons rfl (fun K hK => ?_) AllReadyIn.nil
        ·have HK := mkHid hK
         clear hK
         go_simp
         refine HRR.out.mono ?_
         rintro en w6 ⟨b, rfl, hb⟩
         gi_wp2_with fail
         refine HK.out _ _ ?_
         clear HK K
         refine takeF_at (i := 7) (v := .bool (!b)) rfl rfl rfl (by kernel_rfl) (by kernel_rfl) (by kernel_rfl) (fun _ _ _ h => by cases h.1) ⟨Or.inl ⟨by rfl, ?_⟩, fun _ => rfl⟩ ?_
         ·intro w5; go_simp
         simp only [zA9, zB9, zC9]
         refine wpAnyIn_done (by kernel_rfl) ?_ _
         exact ⟨rfl, cap, b, rfl, hb⟩
     ·have HK := mkHid hK
      clear hK
      go_simp
      refine ⟨trivial, (CallsIn.inRound l2 (callsIn_wide.2 CL.out)).mono ?_⟩
      rintro en w4 ⟨cap, rfl, v1, v0, v2, v3⟩
      obtain ⟨yfn, ytm, yas, ybo, hyr, hR⟩ := YR.out w4 cap v1 v0 v2 v3
      have HRR := mkHid hR
      clear hR
      have g0 := (v3.cell (p := ⟨W.heap.size, 0, none⟩) hlA).trans f0
      have g1 := (v3.cell (p := ⟨Bx, 0, none⟩) hlB).trans f1
      have g2 := (v3.cell (p := ⟨Bx, 1, none⟩) hlB).trans f2
      clear v1 v0 v2 v3
      gi_wp2_with fail
      refine HK.out _ _ ?_
      clear HK K
      refine wpAnyIn_ready (rs := [0, 5]) (by kernel_rfl) (by simp) ?_
      refine AllReadyIn.cons rfl (fun K hK => ?_) (AllReadyIn.cons rfl (fun K hK => ?_) AllReadyIn.nil)
      ·have HK := mkHid hK
       clear hK
       go_simp
       refine HK.out _ _ ?_
       clear HK K
       refine wpAnyIn_ready (rs := [5]) (by kernel_rfl) (by simp) ?_
       refine AllReadyIn.cons rfl (fun K hK => ?_) AllReadyIn.nil
       ·have HK := mkHid hK
        clear hK
        go_simp
        refine HK.out _ _ ?_
        clear HK K
        refine wpAnyIn_ready (rs := [6]) (by kernel_rfl) (by simp) ?_
        refine AllReadyIn.cons rfl (fun K hK => ?_) AllReadyIn.nil
        ·have HK := mkHid hK
         clear hK
         go_simp
         refine HRR.out.mono ?_
         rintro en w6 ⟨b, rfl, hb⟩
         gi_wp2_with fail
         refine HK.out _ _ ?_
         clear HK K
         refine takeF_at (i := 7) (v := .bool (!b)) rfl rfl rfl (by kernel_rfl) (by kernel_rfl) (by kernel_rfl) (fun _ _ _ h => by cases h.1) ⟨Or.inl ⟨by rfl, ?_⟩, fun _ => rfl⟩ ?_
         ·intro w5; go_simp
         simp only [zA9, zB9, zC9]
         refine wpAnyIn_done (by kernel_rfl) ?_ _
         exact ⟨rfl, cap, b, rfl, hb⟩
      ·have HK := mkHid hK
       clear hK
       go_simp
       refine HK.out _ _ ?_
       clear HK K
       refine wpAnyIn_ready (rs := [0]) (by kernel_rfl) (by simp) ?_
       refine AllReadyIn.cons rfl (fun K hK => ?_) AllReadyIn.nil
       ·have HK := mkHid hK
        clear hK
        go_simp
        refine HK.out _ _ ?_
        clear HK K
        refine wpAnyIn_ready (rs := [6]) (by kernel_rfl) (by simp) ?_
        refine AllReadyIn.cons rfl (fun K hK => ?_) AllReadyIn.nil
        ·have HK := mkHid hK
         clear hK
         go_simp
         refine HRR.out.mono ?_
         rintro en w6 ⟨b, rfl, hb⟩
         gi_wp2_with fail
         refine HK.out _ _ ?_
         clear HK K
         refine takeF_at (i := 7) (v := .bool (!b)) rfl rfl rfl (by kernel_rfl) (by kernel_rfl) (by kernel_rfl) (fun _ _ _ h => by cases h.1) ⟨Or.inl ⟨by rfl, ?_⟩, fun _ => rfl⟩ ?_
         ·intro w5; go_simp
         simp only [zA9, zB9, zC9]
         refine wpAnyIn_done (by kernel_rfl) ?_ _
         exact ⟨rfl, cap, b, rfl, hb⟩
     ·have HK := mkHid hK
      clear hK
      go_simp
      refine HK.out _ _ ?_
      clear HK K
      refine wpAnyIn_ready (rs := [0, 3]) (by kernel_rfl) (by simp) ?_
      refine AllReadyIn.cons rfl (fun K hK => ?_) (AllReadyIn.cons rfl (fun K hK => ?_) AllReadyIn.nil)
      ·have HK := mkHid hK
       clear hK
       go_simp
       refine HK.out _ _ ?_
       clear HK K
       refine wpAnyIn_ready (rs := [3]) (by kernel_rfl) (by simp) ?_
       refine AllReadyIn.cons rfl (fun K hK => ?_) AllReadyIn.nil
       ·have HK := mkHid hK
        clear hK
        go_simp
        refine ⟨trivial, (CallsIn.inRound l2 (callsIn_wide.2 CL.out)).mono ?_⟩
        rintro en w4 ⟨cap, rfl, v1, v0, v2, v3⟩
        obtain ⟨yfn, ytm, yas, ybo, hyr, hR⟩ := YR.out w4 cap v1 v0 v2 v3
        have HRR := mkHid hR
        clear hR
        have g0 := (v3.cell (p := ⟨W.heap.size, 0, none⟩) hlA).trans f0
        have g1 := (v3.cell (p := ⟨Bx, 0, none⟩) hlB).trans f1
        have g2 := (v3.cell (p := ⟨Bx, 1, none⟩) hlB).trans f2
        clear v1 v0 v2 v3
        gi_wp2_with fail
        refine HK.out _ _ ?_
        clear HK K
        refine wpAnyIn_ready (rs := [6]) (by kernel_rfl) (by simp) ?_
        refine AllReadyIn.cons rfl (fun K hK => ?_) AllReadyIn.nil
        ·have HK := mkHid hK
         clear hK
         go_simp
         refine HRR.out.mono ?_
         rintro en w6 ⟨b, rfl, hb⟩
         gi_wp2_with fail
         refine HK.out _ _ ?_
         clear HK K
         refine takeF_at (i := 7) (v := .bool (!b)) rfl rfl rfl (by kernel_rfl) (by kernel_rfl) (by kernel_rfl) (fun _ _ _ h => by cases h.1) ⟨Or.inl ⟨by rfl, ?_⟩, fun _ => rfl⟩ ?_
         ·intro w5; go_simp
         simp only [zA9, zB9, zC9]
         refine wpAnyIn_done (by kernel_rfl) ?_ _
         exact ⟨rfl, cap, b, rfl, hb⟩
      ·have HK := mkHid hK
       clear hK
       go_simp
       refine ⟨trivial, (CallsIn.inRound l2 (callsIn_wide.2 CL.out)).mono ?_⟩
       rintro en w4 ⟨cap, rfl, v1, v0, v2, v3⟩
       obtain ⟨yfn, ytm, yas, ybo, hyr, hR⟩ := YR.out w4 cap v1 v0 v2 v3
       have HRR := mkHid hR
       clear hR
       have g0 := (v3.cell (p := ⟨W.heap.size, 0, none⟩) hlA).trans f0
       have g1 := (v3.cell (p := ⟨Bx, 0, none⟩) hlB).trans f1
       have g2 := (v3.cell (p := ⟨Bx, 1, none⟩) hlB).trans f2
       clear v1 v0 v2 v3
       gi_wp2_with fail
       refine HK.out _ _ ?_
       clear HK K
       refine wpAnyIn_ready (rs := [0]) (by kernel_rfl) (by simp) ?_
       refine AllReadyIn.cons rfl (fun K hK => ?_) AllReadyIn.nil
       ·have HK := mkHid hK
        clear hK
        go_simp
        refine HK.out _ _ ?_
        clear HK K
        refine wpAnyIn_ready (rs := [6]) (by kernel_rfl) (by simp) ?_
        refine AllReadyIn.cons rfl (fun K hK => ?_) AllReadyIn.nil
        ·have HK := mkHid hK
         clear hK
         go_simp
         refine HRR.out.mono ?_
         rintro en w6 ⟨b, rfl, hb⟩
         gi_wp2_with fail
         refine HK.out _ _ ?_
         clear HK K
         refine takeF_at (i := 7) (v := .bool (!b)) rfl rfl rfl (by kernel_rfl) (by kernel_rfl) (by kernel_rfl) (fun _ _ _ h => by cases h.1) ⟨Or.inl ⟨by rfl, ?_⟩, fun _ => rfl⟩ ?_
         ·intro w5; go_simp
         simp only [zA9, zB9, zC9]
         refine wpAnyIn_done (by kernel_rfl) ?_ _
         exact ⟨rfl, cap, b, rfl, hb⟩
    ·have HK := mkHid hK
     clear hK
     go_simp
     refine HK.out _ _ ?_
     clear HK K
     refine wpAnyIn_ready (rs := [0, 2]) (by kernel_rfl) (by simp) ?_
     refine AllReadyIn.cons rfl (fun K hK => ?_) (AllReadyIn.cons rfl (fun K hK => ?_) AllReadyIn.nil)
     ·have HK := mkHid hK
      clear hK
      go_simp
      refine HK.out _ _ ?_
      clear HK K
      refine wpAnyIn_ready (rs := [2]) (by kernel_rfl) (by simp) ?_
      refine AllReadyIn.cons rfl (fun K hK => ?_) AllReadyIn.nil
      ·have HK := mkHid hK
       clear hK
       go_simp
       refine HK.out _ _ ?_
       clear HK K
       refine wpAnyIn_ready (rs := [3]) (by kernel_rfl) (by simp) ?_
       refine AllReadyIn.cons rfl (fun K hK => ?_) AllReadyIn.nil
       ·have HK := mkHid hK
        clear hK
        go_simp
        refine ⟨trivial, (CallsIn.inRound l2 (callsIn_wide.2 CL.out)).mono ?_⟩
        rintro en w4 ⟨cap, rfl, v1, v0, v2, v3⟩
        obtain ⟨yfn, ytm, yas, ybo, hyr, hR⟩ := YR.out w4 cap v1 v0 v2 v3
        have HRR := mkHid hR
        clear hR
        have g0 := (v3.cell (p := ⟨W.heap.size, 0, none⟩) hlA).trans f0
        have g1 := (v3.cell (p := ⟨Bx, 0, none⟩) hlB).trans f1
        have g2 := (v3.cell (p := ⟨Bx, 1, none⟩) hlB).trans f2
        clear v1 v0 v2 v3
        gi_wp2_with fail
        refine HK.out _ _ ?_
        clear HK K
        refine wpAnyIn_ready (rs := [6]) (by kernel_rfl) (by simp) ?_
        refine AllReadyIn.cons rfl (fun K hK => ?_) AllReadyIn.nil
        ·have HK := mkHid hK
         clear hK
         go_simp
         refine HRR.out.mono ?_
         rintro en w6 ⟨b, rfl, hb⟩
         gi_wp2_with fail
         refine HK.out _ _ ?_
         clear HK K
         refine takeF_at (i := 7) (v := .bool (!b)) rfl rfl rfl (by kernel_rfl) (by kernel_rfl) (by kernel_rfl) (fun _ _ _ h => by cases h.1) ⟨Or.inl ⟨by rfl, ?_⟩, fun _ => rfl⟩ ?_
         ·intro w5; go_simp
         simp only [zA9, zB9, zC9]
         refine wpAnyIn_done (by kernel_rfl) ?_ _
         exact ⟨rfl, cap, b, rfl, hb⟩
     ·have HK := mkHid hK
      clear hK
      go_simp
      refine HK.out _ _ ?_
      clear HK K
      refine wpAnyIn_ready (rs := [0, 3]) (by kernel_rfl) (by simp) ?_
      refine AllReadyIn.cons rfl (fun K hK => ?_) (AllReadyIn.cons rfl (fun K hK => ?_) AllReadyIn.nil)
      ·have HK := mkHid hK
       clear hK
       go_simp
       refine HK.out _ _ ?_
       clear HK K
       refine wpAnyIn_ready (rs := [3]) (by kernel_rfl) (by simp) ?_
       refine AllReadyIn.cons rfl (fun K hK => ?_) AllReadyIn.nil
       ·have HK := mkHid hK
        clear hK
        go_simp
        refine ⟨trivial, (CallsIn.inRound l2 (callsIn_wide.2 CL.out)).mono ?_⟩
        rintro en w4 ⟨cap, rfl, v1, v0, v2, v3⟩
        obtain ⟨yfn, ytm, yas, ybo, hyr, hR⟩ := YR.out w4 cap v1 v0 v2 v3
        have HRR := mkHid hR
        clear hR
        have g0 := (v3.cell (p := ⟨W.heap.size, 0, none⟩) hlA).trans f0
        have g1 := (v3.cell (p := ⟨Bx, 0, none⟩) hlB).trans f1
        have g2 := (v3.cell (p := ⟨Bx, 1, none⟩) hlB).trans f2
        clear v1 v0 v2 v3
        gi_wp2_with fail
        refine HK.out _ _ ?_
        clear HK K
        refine wpAnyIn_ready (rs := [6]) (by kernel_rfl) (by simp) ?_
        refine AllReadyIn.cons rfl (fun K hK => ?_) AllReadyIn.nil
        ·have HK := mkHid hK
         clear hK
         go_simp
         refine HRR.out.mono ?_
         rintro en w6 ⟨b, rfl, hb⟩
         gi_wp2_with fail
         refine HK.out _ _ ?_
         clear HK K
         refine takeF_at (i := 7) (v := .bool (!b)) rfl rfl rfl (by kernel_rfl) (by kernel_rfl) (by kernel_rfl) (fun _ _ _ h => by cases h.1) ⟨Or.inl ⟨by rfl, ?_⟩, fun _ => rfl⟩ ?_
         ·intro w5; go_simp
         simp only [zA9, zB9, zC9]
         refine wpAnyIn_done (by kernel_rfl) ?_ _
         exact ⟨rfl, cap, b, rfl, hb⟩
      ·have HK := mkHid hK
       clear hK
       go_simp
       refine ⟨trivial, (CallsIn.inRound l2 (callsIn_wide.2 CL.out)).mono ?_⟩
       rintro en w4 ⟨cap, rfl, v1, v0, v2, v3⟩
       obtain ⟨yfn, ytm, yas, ybo, hyr, hR⟩ := YR.out w4 cap v1 v0 v2 v3
       have HRR := mkHid hR
       clear hR
       have g0 := (v3.cell (p := ⟨W.heap.size, 0, none⟩) hlA).trans f0
       have g1 := (v3.cell (p := ⟨Bx, 0, none⟩) hlB).trans f1
       have g2 := (v3.cell (p := ⟨Bx, 1, none⟩) hlB).trans f2
       clear v1 v0 v2 v3
       gi_wp2_with fail
       refine HK.out _ _ ?_
       clear HK K
       refine wpAnyIn_ready (rs := [0]) (by kernel_rfl) (by simp) ?_
       refine AllReadyIn.cons rfl (fun K hK => ?_) AllReadyIn.nil
       ·have HK := mkHid hK
        clear hK
        go_simp
        refine HK.out _ _ ?_
        clear HK K
        refine wpAnyIn_ready (rs := [6]) (by kernel_rfl) (by simp) ?_
        refine AllReadyIn.cons rfl (fun K hK => ?_) AllReadyIn.nil
        ·have HK := mkHid hK
         clear hK
         go_simp
         refine HRR.out.mono ?_
         rintro en w6 ⟨b, rfl, hb⟩
         gi_wp2_with fail
         refine HK.out _ _ ?_
         clear HK K
         refine takeF_at (i := 7) (v := .bool (!b)) rfl rfl rfl (by kernel_rfl) (by kernel_rfl) (by kernel_rfl) (fun _ _ _ h => by cases h.1) ⟨Or.inl ⟨by rfl, ?_⟩, fun _ => rfl⟩ ?_
         ·intro w5; go_simp
         simp only [zA9, zB9, zC9]
         refine wpAnyIn_done (by kernel_rfl) ?_ _
         exact ⟨rfl, cap, b, rfl, hb⟩
   ·rintro e a' w6 ⟨rfl, cap, b, rfl, hb⟩
    rcases hb with ⟨rfl, g1, g2, g3⟩ | ⟨rfl, g1, g2⟩
    ·gi_wp2_with fail
     exact ⟨kf_mono g1 (Nat.le_trans (by omega) r3.size), g2, g3⟩
    ·gi_wp2_with fail
     exact ⟨kf_mono g1 (Nat.le_trans (by omega) r3.size), g2⟩
  case done =>
   rintro D ys A hD hS hi hK
   obtain ⟨s, s1, s2⟩ := hi.got
   have FN : Hid (∃ xs : List (Hd Tot), hdS xs ∧ J xs (A.putObj D (.deferred none))) := ⟨s, s1.trans ((show ys.map (fun x => x.1.e) = (ys.map (fun x => x.1)).map (fun x : Em => x.e) by rw [List.map_map]; rfl).trans (congrArg (List.map (fun x : Em => x.e)) hS)), HJ.out.putObj _ s2 (Nat.le_trans (by omega) (Nat.le_trans r3.size hD)) hK rfl⟩
   clear s1 s2 hS hi
   gi_wp2_with fail
   exact ⟨by simp, .inl ⟨_, _, rfl, run_takeDeferred hK, ⟨_, results_none rfl _ _ _, ⟨_, rfl⟩, Or.inl FN.out⟩⟩⟩
  case stop =>
   rintro D c pre A hD ⟨rest, hpre⟩ ⟨rfl, s, es, js⟩ hK
   have FN : Hid (∃ pre : List (Hd Tot), hdSp pre ∧ Jx pre (A.putObj D (.deferred none))) := ⟨s, ⟨rest.map (fun x => x.e), (congrArg (List.map (fun x : Em => x.e)) hpre).trans (by rw [List.map_append, List.map_map, es]; rfl)⟩, HJx.out.putObj _ js (Nat.le_trans (by omega) (Nat.le_trans r3.size hD)) hK rfl⟩
   clear es js hpre
   gi_wp2_with fail
   exact ⟨by simp, .inl ⟨_, _, rfl, run_takeDeferred hK, ⟨_, results_none rfl _ _ _, ⟨_, rfl⟩, Or.inr FN.out⟩⟩⟩
end Go.Proofs.YtclcajnodoifjaaGreatDoor

