/-
 The walk of btree.split.
-/
import Derived.Test.YtclcajnodoifjaaGreatDoorBuCSx
namespace Go.Proofs.YtclcajnodoifjaaGreatDoor
open Go.RowKit Go.Shelf Go.Joins Go.Maps
set_option maxRecDepth 100000

/-- what split answers -/
def SpQ (T : Nat → Prop) (w : World) (d : Nat) (n : Nd Em) (en : Ending) (w' : World) : Prop := ∃ l1 k1 c1 l2 k2 c2 r1 j1 e1 r2 j2 e2 L mid R, en = .returned (.tuple #[.agg #[.slice l1 k1 c1, .slice l2 k2 c2], emV mid, .agg #[.slice r1 j1 e1, .slice r2 j2 e2]]) ∧ n.halves = some (L, mid, R) ∧ ndIn T w' d L (.slice l1 k1 c1) (.slice l2 k2 c2) ∧ ndIn T w' d R (.slice r1 j1 e1) (.slice r2 j2 e2) ∧ KeyOk T w' mid ∧ Below w.heap.size w w'
/-- the four boxes -/
structure Sp (W : World) (B : Nat) (n1 n2 l1 l2 r1 r2 : Value) : Prop where
 b0 : W.heap[B]? = some (.cells #[n1, n2] 60 (0, 0))
 b1 : W.heap[B + 1]? = some (.cells #[l1, l2] 60 (0, 0))
 b2 : W.heap[B + 1 + 1]? = some (.cells #[.slice none 0 0, .int .u64 0] 65 (0, 0))
 b3 : W.heap[B + 1 + 1 + 1]? = some (.cells #[r1, r2] 60 (0, 0))
theorem Sp.below {W W' : World} {B : Nat} {n1 n2 l1 l2 r1 r2 : Value} (h : Sp W B n1 n2 l1 l2 r1 r2) (hb : Below W.heap.size W W') : Sp W' B n1 n2 l1 l2 r1 r2 := ⟨(hb.block _ (lt_of_heap h.b0)).trans h.b0, (hb.block _ (lt_of_heap h.b1)).trans h.b1, (hb.block _ (lt_of_heap h.b2)).trans h.b2, (hb.block _ (lt_of_heap h.b3)).trans h.b3⟩
theorem Sp.set0 {W : World} {B : Nat} {n1 n2 l1 l2 r1 r2 : Value} (h : Sp W B n1 n2 l1 l2 r1 r2) (a b : Value) : Sp ((W.setCell ⟨B + 1, 0, none⟩ a).setCell ⟨B + 1 + 1 + 1, 0, none⟩ b) B n1 n2 a l2 b r2 := by
 have o : ∀ k, k ≠ B + 1 → k ≠ B + 1 + 1 + 1 → ((W.setCell ⟨B + 1, 0, none⟩ a).setCell ⟨B + 1 + 1 + 1, 0, none⟩ b).heap[k]? = W.heap[k]? := fun k h1 h2 => (heap_setCell_other _ _ _ _ (by exact h2)).trans (heap_setCell_other _ _ _ _ (by exact h1))
 refine ⟨(o _ (by omega) (by omega)).trans h.b0, ?_, (o _ (by omega) (by omega)).trans h.b2, ?_⟩
 ·rw [heap_setCell_other _ _ _ _ (by show B + 1 ≠ B + 1 + 1 + 1; omega)]
  exact (block_setCell h.b1 a).trans rfl
 ·exact (block_setCell ((heap_setCell_other W ⟨B + 1, 0, none⟩ _ a (by show B + 1 + 1 + 1 ≠ B + 1; omega)).trans h.b3) b).trans rfl
theorem Sp.set1 {W : World} {B : Nat} {n1 n2 l1 l2 r1 r2 : Value} (h : Sp W B n1 n2 l1 l2 r1 r2) (a b : Value) : Sp ((W.setCell ⟨B + 1, 1, none⟩ a).setCell ⟨B + 1 + 1 + 1, 1, none⟩ b) B n1 n2 l1 a r1 b := by
 have o : ∀ k, k ≠ B + 1 → k ≠ B + 1 + 1 + 1 → ((W.setCell ⟨B + 1, 1, none⟩ a).setCell ⟨B + 1 + 1 + 1, 1, none⟩ b).heap[k]? = W.heap[k]? := fun k h1 h2 => (heap_setCell_other _ _ _ _ (by exact h2)).trans (heap_setCell_other _ _ _ _ (by exact h1))
 refine ⟨(o _ (by omega) (by omega)).trans h.b0, ?_, (o _ (by omega) (by omega)).trans h.b2, ?_⟩
 ·rw [heap_setCell_other _ _ _ _ (by show B + 1 ≠ B + 1 + 1 + 1; omega)]
  exact (block_setCell h.b1 a).trans rfl
 ·exact (block_setCell ((heap_setCell_other W ⟨B + 1, 1, none⟩ _ a (by show B + 1 + 1 + 1 ≠ B + 1; omega)).trans h.b3) b).trans rfl
theorem ndIn.chg {T X : Nat → Prop} {W F : World} {d : Nat} {n : Nd Em} {v1 v2 : Value} (h : ndIn (fun b => T b ∧ ¬ X b) W d n v1 v2) (hc : Chg X W F) : ndIn T F d n v1 v2 := (h.keeps (Keeps.of_chg hc (fun _ hb _ => hb.2))).mono (fun _ _ h => h.1)
theorem KeyOk.chg {T X : Nat → Prop} {W F : World} {q : Em} (h : KeyOk (fun b => T b ∧ ¬ X b) W q) (hc : Chg X W F) : KeyOk T F q := (h.keeps (Keeps.of_chg hc (fun _ hb _ => hb.2))).mono (fun _ _ h => h.1)
theorem chg_set {X : Nat → Prop} {w w' : World} (h : Chg X w w') (a : Addr) (v : Value) (ha : X a.block) : Chg X w (w'.setCell a v) :=
 ⟨h.os, h.tape, h.output, by simpa using h.size, fun k hk hn => (heap_setCell_other w' a k v (fun e => hn (by rw [e]; exact ha))).trans (h.block k hk hn)⟩
def spX (B : Nat) : Nat → Prop := fun b => b = B + 1 ∨ b = B + 1 + 1 ∨ b = B + 1 + 1 + 1
/-- what lies in the boxes at the end comes back -/
theorem sp_fin {T : Nat → Prop} {w w0 W F : World} {d : Nat} {n : Nd Em} {v1 v2 l1 l2 r1 r2 : Value} {jl jr : List (Value × Value)} {mid : Em} (hT : ∀ b, w.heap.size ≤ b → T b) (hn : ndIn T w d n v1 v2) (bs : w0.heap.size = w.heap.size + 1 + 1 + 1 + 1) (hm : n.es[n.es.length / 2]? = some mid) (hb : Below w.heap.size w W) (hF : Chg (spX w.heap.size) W F)
  (n1 : Nw w0 W 65 2 l1 (n.es.take (n.es.length / 2)).length (fl emE (n.es.take (n.es.length / 2)))) (n3 : Nw w0 W 65 2 r1 (n.es.drop (n.es.length / 2 + 1)).length (fl emE (n.es.drop (n.es.length / 2 + 1))))
  (n2 : Nw w0 W 60 2 l2 (n.ks.take (n.es.length / 2 + 1)).length (fl hdE jl)) (n4 : Nw w0 W 60 2 r2 (n.ks.drop (n.es.length / 2 + 1)).length (fl hdE jr))
  (k1 : KidsH T w (d - 1) (n.ks.take (n.es.length / 2 + 1)) jl) (k2 : KidsH T w (d - 1) (n.ks.drop (n.es.length / 2 + 1)) jr) (h0 : d = 0 → n.ks = []) (z1 : (n.ks.take (n.es.length / 2 + 1)).length = 0 → l2 = .slice none 0 0) (z2 : (n.ks.drop (n.es.length / 2 + 1)).length = 0 → r2 = .slice none 0 0) :
  ∃ L R, n.halves = some (L, mid, R) ∧ ndIn T F d L l1 l2 ∧ ndIn T F d R r1 r2 ∧ KeyOk T F mid ∧ Below w.heap.size w F := by
 have off : ∀ b, b < w.heap.size → T b → T b ∧ ¬ spX w.heap.size b := fun b hb ht => ⟨ht, by unfold spX; omega⟩
 have hT1 : ∀ b, w0.heap.size ≤ b → T b ∧ ¬ spX w.heap.size b := fun b hb => ⟨hT b (by omega), by unfold spX; omega⟩
 have ke : ∀ q ∈ n.es, KeyOk (fun b => T b ∧ ¬ spX w.heap.size b) W q := fun q hq => ((hn.ent.2 q hq).mono off).keeps (Keeps.of_below hb)
 refine ⟨_, _, by unfold Nd.halves; rw [hm], ndIn.chg (nd_of (ent_of n1 hT1 (fun q hq => ke q (List.mem_of_mem_take hq))) n2 hT1 ((k1.mono off).below hb) (fun e => by rw [h0 e]; rfl) z1) hF, ndIn.chg (nd_of (ent_of n3 hT1 (fun q hq => ke q (List.mem_of_mem_drop hq))) n4 hT1 ((k2.mono off).below hb) (fun e => by rw [h0 e]; simp) z2) hF, KeyOk.chg (ke mid (List.mem_of_getElem? hm)) hF, hb.trans (hF.below hb.size (fun i hi => by unfold spX at hi; omega))⟩
theorem nw_nil (w0 w : World) (e sz : Nat) : Nw w0 w e sz (.slice none 0 0) 0 [] := ⟨shr_nil _ _ _, fun g hg => by simp [Value.ownBlock] at hg⟩
theorem Nw.chg {w0 w w' : World} {e sz n : Nat} {v : Value} {xs : List Value} {X : Nat → Prop} (h : Nw w0 w e sz v n xs) (hc : Chg X w w') (hX : ∀ g, X g → g < w0.heap.size) : Nw w0 w' e sz v n xs := ⟨h.row.kept hc (fun g hg hx => by have := h.new g hg; have := hX g hx; omega), h.new⟩
set_option maxHeartbeats 8000000 in
set_option maxRecDepth 1000000 in
theorem split_any (T : Nat → Prop) (d : Nat) (n : Nd Em) (v1 v2 : Value) (w : World) (hT : ∀ b, w.heap.size ≤ b → T b) (hn : ndIn T w d n v1 v2) (z1 : 3 ≤ n.es.length) (z2 : n.es.length ≤ 1000) (z3 : d ≠ 0 → n.ks.length = n.es.length + 1) :
  Calls Tryz.prog 49 #[.agg #[v1, v2]] w fun en w' => SpQ T w d n en w' := by
 obtain ⟨⟨p, N, c, xs⟩, e1, e2, e3, e4, e5⟩ := hn.ent.pc
 obtain ⟨⟨q, K, e, ys⟩, j, g1, g2, g3, g4, g5, g6, g7⟩ := hn.kids
 simp only at e2 e3 e5 g2 g3 g5
 obtain ⟨mid, hmid⟩ : ∃ mid, n.es[n.es.length / 2]? = some mid := ⟨_, List.getElem?_eq_getElem (by omega)⟩
 obtain ⟨gp, po, rfl, hgp, hxc⟩ : ∃ g off, p = some ⟨g, off, none⟩ ∧ g < w.heap.size ∧ ∀ j u, xs[j]? = some u → w.cell? ⟨g, off + j, none⟩ = some u := by
  cases p with
  | none => have := (e4.nil rfl).1; simp at this; omega
  | some ad =>
   obtain ⟨g, off, rfl, h1, h2⟩ := e4.at_ ad rfl
   exact ⟨g, off, rfl, h1, h2⟩
 obtain ⟨h, hh⟩ : ∃ h, h = n.es.length / 2 := ⟨_, rfl⟩
 obtain ⟨w0, hw0⟩ : ∃ w0, w0 = (((w.alloc (.cells #[.slice (some ⟨gp, po, none⟩) N c, .slice q K e] 60)).alloc (.cells #[.slice none 0 0, .slice none 0 0] 60)).alloc (.cells #[.slice none 0 0, .int .u64 0] 65)).alloc (.cells #[.slice none 0 0, .slice none 0 0] 60) := ⟨_, rfl⟩
 obtain ⟨b0, b1, b2, b3, bb, bs⟩ := bx4 w (.cells #[.slice (some ⟨gp, po, none⟩) N c, .slice q K e] 60) (.cells #[.slice none 0 0, .slice none 0 0] 60) (.cells #[.slice none 0 0, .int .u64 0] 65) (.cells #[.slice none 0 0, .slice none 0 0] 60)
 rw [← hw0] at b0 b1 b2 b3 bb bs
 have SP0 := mkHid (Sp.mk b0 b1 b2 b3)
 have CE : Hid (∀ W, Below w.heap.size w W → Calls Tryz.prog 76 #[.slice (some ⟨gp, po, none⟩) N c, .int .i64 (h : Int), .int .i64 ((h : Int) + 1)] W fun en w' => ∃ p1 c1 p3 c3, en = .returned (.tuple #[.slice p1 h c1, .slice p3 (N - (h + 1)) c3]) ∧ Nw W w' 65 2 (.slice p1 h c1) (n.es.take (n.es.length / 2)).length (fl emE (n.es.take (n.es.length / 2))) ∧ Nw W w' 65 2 (.slice p3 (N - (h + 1)) c3) (n.es.drop (n.es.length / 2 + 1)).length (fl emE (n.es.drop (n.es.length / 2 + 1))) ∧ Below W.heap.size W w') := fun W hW => by
  have := cutEn ⟨some ⟨gp, po, none⟩, N, c, xs⟩ h (h + 1) W (e4.below hW) e5 (by omega) (by simp only; omega) (by simp only; omega) (by simp only; omega)
  rw [Int.natCast_add] at this
  refine this.mono ?_
  rintro en w' ⟨u1, u3, r1, r2, r3, r4⟩
  obtain ⟨p1, c1, i1, _⟩ := r2.row.form
  obtain ⟨p3, c3, i3, _⟩ := r3.row.form
  subst i1 i3
  simp only [e3, fl_take emE_len, fl_drop emE_len] at r2 r3
  refine ⟨p1, c1, p3, c3, r1, ?_, ?_, r4⟩
  ·rw [List.length_take, ← hh, Nat.min_eq_left (by omega)]; exact r2
  ·rw [List.length_drop, ← hh, ← e2]; exact r3
 have hk : d ≠ 0 → K = N + 1 := fun hd => by rw [g2, e2]; exact z3 hd
 have CN : Hid (d ≠ 0 → ∀ W, Below w.heap.size w W → Calls Tryz.prog 77 #[.slice q K e, .int .i64 ((h : Int) + 1), .int .i64 ((h : Int) + 1)] W fun en w' => ∃ p1 c1 p3 c3, en = .returned (.tuple #[.slice p1 (h + 1) c1, .slice p3 (K - (h + 1)) c3]) ∧ Nw W w' 60 2 (.slice p1 (h + 1) c1) (n.ks.take (n.es.length / 2 + 1)).length (fl hdE (j.take (h + 1))) ∧ Nw W w' 60 2 (.slice p3 (K - (h + 1)) c3) (n.ks.drop (n.es.length / 2 + 1)).length (fl hdE (j.drop (h + 1))) ∧ Below W.heap.size W w') := fun hd W hW => by
  have hK := hk hd
  have := cutNd ⟨q, K, e, ys⟩ (h + 1) (h + 1) W (g4.below hW) g5 (by omega) (by simp only; omega) (by simp only; omega) (by simp only; omega)
  rw [Int.natCast_add] at this
  refine this.mono ?_
  rintro en w' ⟨u1, u3, r1, r2, r3, r4⟩
  obtain ⟨p1, c1, i1, _⟩ := r2.row.form
  obtain ⟨p3, c3, i3, _⟩ := r3.row.form
  subst i1 i3
  simp only [g3, fl_take hdE_len, fl_drop hdE_len] at r2 r3
  refine ⟨p1, c1, p3, c3, r1, ?_, ?_, r4⟩
  ·rw [List.length_take, ← hh, Nat.min_eq_left (by omega)]; exact r2
  ·rw [List.length_drop, ← hh, ← g2]; exact r3
 have a0 : (N : Int) / 2 = (h : Int) := by rw [e2, hh]; omega
 have hm0 : ∀ W, Below w.heap.size w W → W.cell? ⟨gp, po + h * 2, none⟩ = some (.slice (some ⟨mid.g, 0, none⟩) mid.e.key.length mid.c) ∧ W.cell? ⟨gp, po + h * 2 + 1, none⟩ = some (.int .u64 mid.e.id) := fun W hW => by
  have i0 := fl_get emE_len n.es h mid 0 (by rw [hh]; exact hmid) (by omega)
  have i1 := fl_get emE_len n.es h mid 1 (by rw [hh]; exact hmid) (by omega)
  rw [← e3] at i0 i1
  exact ⟨(hW.cell (p := ⟨gp, po + h * 2, none⟩) hgp).trans (hxc _ _ i0), (hW.cell (p := ⟨gp, po + h * 2 + 1, none⟩) hgp).trans (by rw [Nat.add_assoc]; exact hxc _ _ i1)⟩
 have HM0 := mkHid hm0
 have GP := mkHid hgp
 have N0 : Hid (h < N) := by show _ < _; omega
 have h5 : h ≤ 500 := by omega
 have N1 : N ≤ 1000 := by omega
 have HW0 := mkHid hw0
 have HB := mkHid bb
 have HS := mkHid bs
 obtain ⟨cc0, cc1⟩ : w0.cell? ⟨w.heap.size, 0, none⟩ = some (.slice (some ⟨gp, po, none⟩) N c) ∧ w0.cell? ⟨w.heap.size, 1, none⟩ = some (.slice q K e) := ⟨(cell_of_block SP0.out.b0 0).trans rfl, (cell_of_block SP0.out.b0 1).trans rfl⟩
 rw [e1, g1]
 unfold Pc.v
 by_cases hd : d = 0
 ·have hK : n.ks = [] := g7 hd
  have K0 : K = 0 := by rw [g2, hK]; rfl
  subst K0
  have hj : j = [] := List.eq_nil_of_length_eq_zero (by rw [g6.1, hK]; rfl)
  have FIN : Hid (∀ W F p1 c1 p3 c3, Below w.heap.size w W → Chg (spX w.heap.size) W F → Nw w0 W 65 2 (.slice p1 h c1) (n.es.take (n.es.length / 2)).length (fl emE (n.es.take (n.es.length / 2))) → Nw w0 W 65 2 (.slice p3 (N - (h + 1)) c3) (n.es.drop (n.es.length / 2 + 1)).length (fl emE (n.es.drop (n.es.length / 2 + 1))) →
    SpQ T w d n (.returned (.tuple #[.agg #[.slice p1 h c1, .slice none 0 0], .agg #[.slice (some ⟨mid.g, 0, none⟩) mid.e.key.length mid.c, .int .u64 mid.e.id], .agg #[.slice p3 (N - (h + 1)) c3, .slice none 0 0]])) F) := fun W F p1 c1 p3 c3 hb hF i1 i3 => by
   have t1 : n.ks.take (n.es.length / 2 + 1) = [] := by rw [hK]; simp
   have t2 : n.ks.drop (n.es.length / 2 + 1) = [] := by rw [hK]; simp
   obtain ⟨L, R, s1, s2, s3, s4, s5⟩ := sp_fin (jl := []) (jr := []) hT hn bs hmid hb hF i1 i3 (by rw [t1]; exact nw_nil _ _ _ _) (by rw [t2]; exact nw_nil _ _ _ _) (by rw [t1]; exact KidsH.nil) (by rw [t2]; exact KidsH.nil) g7 (fun _ => rfl) (fun _ => rfl)
   exact ⟨_, _, _, _, _, _, _, _, _, _, _, _, L, mid, R, rfl, s1, s2, s3, s4, s5⟩
  clear CN hn hT z1 z2 z3 e1 e2 e3 e4 e5 g1 g2 g3 g4 g5 g6 g7 hmid hxc hk hK hm0 b0 b1 b2 b3 bb bs hw0 hh hd hgp hj
  go_enter Tryz.func49, Tryz.ntmps49
  go_wp2_with fail
  rw [← HW0.out]
  refine (CE.out _ HB.out).mono ?_
  rintro en w1 ⟨p1, c1, p3, c3, rfl, r1, r3, hb1⟩
  have SP1 := mkHid (SP0.out.below hb1)
  clear SP0 CE cc0 cc1
  have o0 : w1.cell? ⟨w.heap.size + 1, 0, none⟩ = some (.slice none 0 0) := (cell_of_block SP1.out.b1 0).trans rfl
  have o1 : w1.cell? ⟨w.heap.size + 1 + 1 + 1, 0, none⟩ = some (.slice none 0 0) := (cell_of_block SP1.out.b3 0).trans rfl
  have y0 := unfrozen_of_block SP1.out.b1 0
  have y1 := unfrozen_of_block SP1.out.b3 0
  have c1' : w1.cell? ⟨w.heap.size, 1, none⟩ = some (.slice q 0 e) := (cell_of_block SP1.out.b0 1).trans rfl
  have HR1 := mkHid r1
  have HR3 := mkHid r3
  have HB1 := mkHid hb1
  clear r1 r3 hb1
  obtain ⟨W2, hW2⟩ : ∃ W2, W2 = (w1.setCell ⟨w.heap.size + 1, 0, none⟩ (.slice p1 h c1)).setCell ⟨w.heap.size + 1 + 1 + 1, 0, none⟩ (.slice p3 (N - (h + 1)) c3) := ⟨_, rfl⟩
  have SP2 := mkHid (SP1.out.set0 (.slice p1 h c1) (.slice p3 (N - (h + 1)) c3))
  have CH2 : Hid (Chg (spX w.heap.size) w1 W2) := by
   rw [hW2]
   exact chg_set (chg_set (Chg.refl _ _) _ _ (Or.inl rfl)) _ _ (Or.inr (Or.inr rfl))
  have HW2 := mkHid hW2
  rw [← hW2] at SP2
  clear hW2
  go_wp2_with fail
  rw [← HW2.out]
  clear HW2 o0 o1 y0 y1 c1' SP1
  have BW4 : Hid (Below w.heap.size w W2) := (HB.out.trans (HB1.out.mono HB.out.size)).trans (CH2.out.below (Nat.le_trans HB.out.size HB1.out.size) (fun i hi => by unfold spX at hi; omega))
  have XX : ∀ g, spX w.heap.size g → g < w0.heap.size := fun g hg => by have := HS.out; unfold spX at hg; omega
  have N1' := mkHid (HR1.out.chg CH2.out XX)
  have N3' := mkHid (HR3.out.chg CH2.out XX)
  have SP4 := SP2
  clear XX SP2
  have u00 : W2.cell? ⟨w.heap.size, 0, none⟩ = some (.slice (some ⟨gp, po, none⟩) N c) := (cell_of_block SP4.out.b0 0).trans rfl
  have u10 : W2.cell? ⟨w.heap.size + 1, 0, none⟩ = some (.slice p1 h c1) := (cell_of_block SP4.out.b1 0).trans rfl
  have u11 : W2.cell? ⟨w.heap.size + 1, 1, none⟩ = some (.slice none 0 0) := (cell_of_block SP4.out.b1 1).trans rfl
  have u20 : W2.cell? ⟨w.heap.size + 1 + 1, 0, none⟩ = some (.slice none 0 0) := (cell_of_block SP4.out.b2 0).trans rfl
  have u21 : W2.cell? ⟨w.heap.size + 1 + 1, 1, none⟩ = some (.int .u64 0) := (cell_of_block SP4.out.b2 1).trans rfl
  have u30 : W2.cell? ⟨w.heap.size + 1 + 1 + 1, 0, none⟩ = some (.slice p3 (N - (h + 1)) c3) := (cell_of_block SP4.out.b3 0).trans rfl
  have u31 : W2.cell? ⟨w.heap.size + 1 + 1 + 1, 1, none⟩ = some (.slice none 0 0) := (cell_of_block SP4.out.b3 1).trans rfl
  have f10 := unfrozen_of_block SP4.out.b1 0
  have f11 := unfrozen_of_block SP4.out.b1 1
  have f20 := unfrozen_of_block SP4.out.b2 0
  have f21 := unfrozen_of_block SP4.out.b2 1
  have f30 := unfrozen_of_block SP4.out.b3 0
  have f31 := unfrozen_of_block SP4.out.b3 1
  obtain ⟨m0, m1⟩ := HM0.out W2 BW4.out
  have hgn : gp < w.heap.size := GP.out
  have n1 : (h : Int) < (N : Int) := by have := N0.out; omega
  have n2 : (0 : Int) ≤ (h : Int) := by omega
  clear HM0 SP4
  go_region
  all_goals go_wp2_with fail
  refine bodyPost_ret (v := .tuple #[.agg #[.slice p1 h c1, .slice none 0 0], .agg #[.slice (some ⟨mid.g, 0, none⟩) mid.e.key.length mid.c, .int .u64 mid.e.id], .agg #[.slice p3 (N - (h + 1)) c3, .slice none 0 0]]) (by simp [results, Tryz.results49, go_sem, u10, u11, u20, u21, u30, u31]) rfl ?_
  have XX : ∀ g, spX w.heap.size g → g < w0.heap.size := fun g hg => by have := HS.out; unfold spX at hg; omega
  exact FIN.out W2 _ _ _ _ _ BW4.out (chg_set (chg_set (chg_set (chg_set (chg_set (chg_set (Chg.refl _ _) _ _ (Or.inl rfl)) _ _ (Or.inl rfl)) _ _ (Or.inr (Or.inl rfl))) _ _ (Or.inr (Or.inl rfl))) _ _ (Or.inr (Or.inr rfl))) _ _ (Or.inr (Or.inr rfl))).drew (N1'.out.chg (Chg.refl _ _) XX) (N3'.out.chg (Chg.refl _ _) XX)
 ·have FIN : Hid (∀ W F p1 c1 p3 c3 p2 c2 p4 c4, Below w.heap.size w W → Chg (spX w.heap.size) W F → Nw w0 W 65 2 (.slice p1 h c1) (n.es.take (n.es.length / 2)).length (fl emE (n.es.take (n.es.length / 2))) → Nw w0 W 65 2 (.slice p3 (N - (h + 1)) c3) (n.es.drop (n.es.length / 2 + 1)).length (fl emE (n.es.drop (n.es.length / 2 + 1))) → Nw w0 W 60 2 (.slice p2 (h + 1) c2) (n.ks.take (n.es.length / 2 + 1)).length (fl hdE (j.take (h + 1))) → Nw w0 W 60 2 (.slice p4 (K - (h + 1)) c4) (n.ks.drop (n.es.length / 2 + 1)).length (fl hdE (j.drop (h + 1))) →
    SpQ T w d n (.returned (.tuple #[.agg #[.slice p1 h c1, .slice p2 (h + 1) c2], .agg #[.slice (some ⟨mid.g, 0, none⟩) mid.e.key.length mid.c, .int .u64 mid.e.id], .agg #[.slice p3 (N - (h + 1)) c3, .slice p4 (K - (h + 1)) c4]])) F) := fun W F p1 c1 p3 c3 p2 c2 p4 c4 hb hF i1 i3 i2 i4 => by
   have hK := hk hd
   obtain ⟨L, R, s1, s2, s3, s4, s5⟩ := sp_fin hT hn bs hmid hb hF i1 i3 i2 i4 (by rw [hh]; exact g6.take _) (by rw [hh]; exact g6.drop _) g7 (fun z => by rw [List.length_take] at z; omega) (fun z => by rw [List.length_drop] at z; omega)
   exact ⟨_, _, _, _, _, _, _, _, _, _, _, _, L, mid, R, rfl, s1, s2, s3, s4, s5⟩
  have CN1 := mkHid (CN.out hd)
  have hK := hk hd
  have k0 : (0 : Int) < (K : Int) := by omega
  clear CN hn hT z1 z2 z3 e1 e2 e3 e4 e5 g1 g2 g3 g4 g5 g6 g7 hmid hxc hk hK hm0 b0 b1 b2 b3 bb bs hw0 hh hd hgp
  go_enter Tryz.func49, Tryz.ntmps49
  go_wp2_with fail
  rw [← HW0.out]
  refine (CE.out _ HB.out).mono ?_
  rintro en w1 ⟨p1, c1, p3, c3, rfl, r1, r3, hb1⟩
  have SP1 := mkHid (SP0.out.below hb1)
  clear SP0 CE cc0 cc1
  have o0 : w1.cell? ⟨w.heap.size + 1, 0, none⟩ = some (.slice none 0 0) := (cell_of_block SP1.out.b1 0).trans rfl
  have o1 : w1.cell? ⟨w.heap.size + 1 + 1 + 1, 0, none⟩ = some (.slice none 0 0) := (cell_of_block SP1.out.b3 0).trans rfl
  have y0 := unfrozen_of_block SP1.out.b1 0
  have y1 := unfrozen_of_block SP1.out.b3 0
  have c1' : w1.cell? ⟨w.heap.size, 1, none⟩ = some (.slice q K e) := (cell_of_block SP1.out.b0 1).trans rfl
  have HR1 := mkHid r1
  have HR3 := mkHid r3
  have HB1 := mkHid hb1
  clear r1 r3 hb1
  obtain ⟨W2, hW2⟩ : ∃ W2, W2 = (w1.setCell ⟨w.heap.size + 1, 0, none⟩ (.slice p1 h c1)).setCell ⟨w.heap.size + 1 + 1 + 1, 0, none⟩ (.slice p3 (N - (h + 1)) c3) := ⟨_, rfl⟩
  have SP2 := mkHid (SP1.out.set0 (.slice p1 h c1) (.slice p3 (N - (h + 1)) c3))
  have CH2 : Hid (Chg (spX w.heap.size) w1 W2) := by
   rw [hW2]
   exact chg_set (chg_set (Chg.refl _ _) _ _ (Or.inl rfl)) _ _ (Or.inr (Or.inr rfl))
  have HW2 := mkHid hW2
  rw [← hW2] at SP2
  clear hW2
  go_wp2_with fail
  rw [← HW2.out]
  clear HW2 o0 o1 y0 y1 c1' SP1
  have BW2 : Hid (Below w.heap.size w W2) := (HB.out.trans (HB1.out.mono HB.out.size)).trans (CH2.out.below (Nat.le_trans HB.out.size HB1.out.size) (fun i hi => by unfold spX at hi; omega))
  refine (CN1.out _ BW2.out).mono ?_
  rintro en w3 ⟨p2, c2, p4, c4, rfl, r2, r4, hb3⟩
  have SP3 := mkHid (SP2.out.below hb3)
  have XX : ∀ g, spX w.heap.size g → g < w0.heap.size := fun g hg => by have := HS.out; unfold spX at hg; omega
  have N1' := mkHid (((HR1.out.chg CH2.out XX)).below hb3)
  have N3' := mkHid (((HR3.out.chg CH2.out XX)).below hb3)
  have z0 : w0.heap.size ≤ W2.heap.size := Nat.le_trans HB1.out.size CH2.out.size
  have N2' := mkHid (r2.lower z0)
  have N4' := mkHid (r4.lower z0)
  have BW3 := mkHid (BW2.out.trans (hb3.mono BW2.out.size))
  have o0 : w3.cell? ⟨w.heap.size + 1, 1, none⟩ = some (.slice none 0 0) := (cell_of_block SP3.out.b1 1).trans rfl
  have o1 : w3.cell? ⟨w.heap.size + 1 + 1 + 1, 1, none⟩ = some (.slice none 0 0) := (cell_of_block SP3.out.b3 1).trans rfl
  have y0 := unfrozen_of_block SP3.out.b1 1
  have y1 := unfrozen_of_block SP3.out.b3 1
  obtain ⟨W4, hW4⟩ : ∃ W4, W4 = (w3.setCell ⟨w.heap.size + 1, 1, none⟩ (.slice p2 (h + 1) c2)).setCell ⟨w.heap.size + 1 + 1 + 1, 1, none⟩ (.slice p4 (K - (h + 1)) c4) := ⟨_, rfl⟩
  have SP4 := mkHid (SP3.out.set1 (.slice p2 (h + 1) c2) (.slice p4 (K - (h + 1)) c4))
  have CH4 : Hid (Chg (spX w.heap.size) w3 W4) := by
   rw [hW4]
   exact chg_set (chg_set (Chg.refl _ _) _ _ (Or.inl rfl)) _ _ (Or.inr (Or.inr rfl))
  have HW4 := mkHid hW4
  rw [← hW4] at SP4
  clear hW4 hb3 r2 r4 SP2 BW2 CN1 XX z0 HR1 HR3 HB1 CH2 SP3
  go_wp2_with fail
  rw [← HW4.out]
  clear HW4 o0 o1 y0 y1
  have BW4 : Hid (Below w.heap.size w W4) := BW3.out.trans (CH4.out.below BW3.out.size (fun i hi => by unfold spX at hi; omega))
  have u00 : W4.cell? ⟨w.heap.size, 0, none⟩ = some (.slice (some ⟨gp, po, none⟩) N c) := (cell_of_block SP4.out.b0 0).trans rfl
  have u10 : W4.cell? ⟨w.heap.size + 1, 0, none⟩ = some (.slice p1 h c1) := (cell_of_block SP4.out.b1 0).trans rfl
  have u11 : W4.cell? ⟨w.heap.size + 1, 1, none⟩ = some (.slice p2 (h + 1) c2) := (cell_of_block SP4.out.b1 1).trans rfl
  have u20 : W4.cell? ⟨w.heap.size + 1 + 1, 0, none⟩ = some (.slice none 0 0) := (cell_of_block SP4.out.b2 0).trans rfl
  have u21 : W4.cell? ⟨w.heap.size + 1 + 1, 1, none⟩ = some (.int .u64 0) := (cell_of_block SP4.out.b2 1).trans rfl
  have u30 : W4.cell? ⟨w.heap.size + 1 + 1 + 1, 0, none⟩ = some (.slice p3 (N - (h + 1)) c3) := (cell_of_block SP4.out.b3 0).trans rfl
  have u31 : W4.cell? ⟨w.heap.size + 1 + 1 + 1, 1, none⟩ = some (.slice p4 (K - (h + 1)) c4) := (cell_of_block SP4.out.b3 1).trans rfl
  have f10 := unfrozen_of_block SP4.out.b1 0
  have f11 := unfrozen_of_block SP4.out.b1 1
  have f20 := unfrozen_of_block SP4.out.b2 0
  have f21 := unfrozen_of_block SP4.out.b2 1
  have f30 := unfrozen_of_block SP4.out.b3 0
  have f31 := unfrozen_of_block SP4.out.b3 1
  obtain ⟨m0, m1⟩ := HM0.out W4 BW4.out
  have hgn : gp < w.heap.size := GP.out
  have n1 : (h : Int) < (N : Int) := by have := N0.out; omega
  have n2 : (0 : Int) ≤ (h : Int) := by omega
  clear HM0 SP4
  go_region
  all_goals go_wp2_with fail
  refine bodyPost_ret (v := .tuple #[.agg #[.slice p1 h c1, .slice p2 (h + 1) c2], .agg #[.slice (some ⟨mid.g, 0, none⟩) mid.e.key.length mid.c, .int .u64 mid.e.id], .agg #[.slice p3 (N - (h + 1)) c3, .slice p4 (K - (h + 1)) c4]]) (by simp [results, Tryz.results49, go_sem, u10, u11, u20, u21, u30, u31]) rfl ?_
  have XX : ∀ g, spX w.heap.size g → g < w0.heap.size := fun g hg => by have := HS.out; unfold spX at hg; omega
  exact FIN.out W4 _ _ _ _ _ _ _ _ _ BW4.out (chg_set (chg_set (chg_set (chg_set (chg_set (chg_set (Chg.refl _ _) _ _ (Or.inl rfl)) _ _ (Or.inl rfl)) _ _ (Or.inr (Or.inl rfl))) _ _ (Or.inr (Or.inl rfl))) _ _ (Or.inr (Or.inr rfl))) _ _ (Or.inr (Or.inr rfl))).drew (N1'.out.chg CH4.out XX) (N3'.out.chg CH4.out XX) (N2'.out.chg CH4.out XX) (N4'.out.chg CH4.out XX)
end Go.Proofs.YtclcajnodoifjaaGreatDoor

