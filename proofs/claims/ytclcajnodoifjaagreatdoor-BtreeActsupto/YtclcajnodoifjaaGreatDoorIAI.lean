/-
 The walks of btree.withLess at any kid, last, asRoot.
-/
import Derived.Test.YtclcajnodoifjaaGreatDoorIAH
import Derived.Deep.LoopGhost
namespace Go.Proofs.YtclcajnodoifjaaGreatDoor
open Go.RowKit Go.Shelf Go.Joins Go.Maps
set_option maxRecDepth 100000

set_option maxHeartbeats 8000000 in
set_option maxRecDepth 1000000 in
theorem withLess_enough (T : Nat → Prop) (d : Nat) (n kid : Nd Em) (i lo hi lo' hi' : Nat) (v1 v2 k1 k2 : Value) (w : World) (hT : ∀ b, w.heap.size ≤ b → T b) (hn : ndIn T w (d + 1) n v1 v2) (hk : ndIn T w d kid k1 k2) (hw : n.wf (d + 1) lo hi) (hwk : kid.wf d lo' hi') (z0 : 1 ≤ n.es.length) (z1 : n.es.length ≤ 40) (h8 : 8 ≤ kid.es.length) (h40 : kid.es.length ≤ 40) (hi1 : i ≤ n.es.length) :
  Calls Tryz.prog 56 #[.agg #[v1, v2], .int .i64 (i : Int), .agg #[k1, k2]] w fun en w' => NdQ T w (d + 1) (n.withK i (i + 1) kid) en w' := by
 obtain ⟨gx, c, gy, e, rfl, rfl⟩ := hn.slices
 obtain ⟨kp, kc, kq, ke, rfl, rfl⟩ := hk.slices
 obtain ⟨N, hN⟩ : ∃ N, N = n.es.length := ⟨_, rfl⟩
 obtain ⟨K, hK⟩ : ∃ K, K = n.ks.length := ⟨_, rfl⟩
 obtain ⟨kn, hkn⟩ : ∃ kn, kn = kid.es.length := ⟨_, rfl⟩
 obtain ⟨km, hkm⟩ : ∃ km, km = kid.ks.length := ⟨_, rfl⟩
 rw [← hN, ← hK] at hn
 rw [← hkn, ← hkm] at hk
 rw [← hN, ← hK, ← hkn, ← hkm]
 obtain ⟨w0, hw0⟩ : ∃ w0, w0 = ((w.alloc (.cells #[.slice gx N c, .slice gy K e] 60)).alloc (.cells #[.slice kp kn kc, .slice kq km ke] 60)).alloc (.cells #[.slice none 0 0, .slice none 0 0] 60) := ⟨_, rfl⟩
 obtain ⟨d0, d1, d2, bb, bs⟩ := bx3 w (.cells #[.slice gx N c, .slice gy K e] 60) (.cells #[.slice kp kn kc, .slice kq km ke] 60) (.cells #[.slice none 0 0, .slice none 0 0] 60)
 rw [← hw0] at d0 d1 d2 bb bs
 have WC : Hid (Calls Tryz.prog 53 #[.agg #[.slice gx N c, .slice gy K e], .int .i64 (i : Int), .int .i64 ((i : Int) + 1), .agg #[.slice kp kn kc, .slice kq km ke]] w0 fun en w' => NdS (fun b => T b ∧ b ≠ w.heap.size + 1 + 1) w0 (d + 1) (n.withK i (i + 1) kid) en w') :=
  (with_any _ d n kid i i _ _ _ _ _ _ _ _ w0 (fun b hb => ⟨hT b (by omega), by omega⟩) ((hn.off (by omega)).below bb) ((hk.off (by omega)).below bb) hw hwk z0 (by omega) (by omega) (Nat.le_refl _) hi1).mono (fun _ _ h => h.toS)
 have BB := mkHid bb
 have RC := mkHid d2
 have n8 : (kn : Int) ≥ 8 := by omega
 have i4 : i ≤ 100 := by omega
 have HW0 := mkHid hw0
 have HM : Hid (w.heap.size ≤ w.heap.size + 1 + 1) := by show _ ≤ _; omega
 clear hT hn hk hw hwk z0 z1 h8 h40 hi1 hN hK hkn hkm d0 d1 d2 bb bs hw0
 go_enter Tryz.func56, Tryz.ntmps56
 go_wp2_with fail
 rw [← HW0.out]
 clear HW0
 refine WC.out.mono ?_
 rintro en w1 ⟨p1, n1, c1, p2, n2, c2, rfl, r1, hb1⟩
 have RC1 := mkHid ((hb1.block _ (lt_of_heap RC.out)).trans RC.out)
 have FN := mkHid (NdQ.ret (T := T) (w := w) HM.out r1 (BB.out.trans (hb1.mono BB.out.size)))
 have q0 : w1.cell? ⟨w.heap.size + 1 + 1, 0, none⟩ = some (.slice none 0 0) := (cell_of_block RC1.out 0).trans rfl
 have q1 : w1.cell? ⟨w.heap.size + 1 + 1, 1, none⟩ = some (.slice none 0 0) := (cell_of_block RC1.out 1).trans rfl
 have y0 := unfrozen_of_block RC1.out 0
 have y1 := unfrozen_of_block RC1.out 1
 clear r1 hb1 WC
 go_wp2_with fail
 refine bodyPost_ret (v := .agg #[.slice p1 n1 c1, .slice p2 n2 c2]) (by simp [results, Tryz.results56, go_sem, q0, q1]) rfl ?_
 exact FN.out
/-- another kid in a place, joined to one beside it where it has too few entries -/
theorem withLess_any (T : Nat → Prop) (d : Nat) (n kid : Nd Em) (i lo hi lo' hi' : Nat) (v1 v2 k1 k2 : Value) (w : World) (hT : ∀ b, w.heap.size ≤ b → T b) (hn : ndIn T w (d + 1) n v1 v2) (hk : ndIn T w d kid k1 k2) (hw : n.wf (d + 1) lo hi) (hwk : kid.wf d lo' hi') (z0 : 1 ≤ n.es.length) (z1 : n.es.length ≤ 40) (h40 : kid.es.length ≤ 40) (hi1 : i ≤ n.es.length) :
  Calls Tryz.prog 56 #[.agg #[v1, v2], .int .i64 (i : Int), .agg #[k1, k2]] w fun en w' => NdQ T w (d + 1) (n.lessK i kid) en w' := by
 have zk := wf_klen hw
 unfold Nd.lessK
 by_cases h8 : 8 ≤ kid.es.length
 ·rw [if_pos h8]
  exact withLess_enough T d n kid i lo hi lo' hi' v1 v2 k1 k2 w hT hn hk hw hwk z0 z1 h8 h40 hi1
 ·rw [if_neg h8]
  cases i with
  | zero =>
   rw [if_neg (by omega)]
   have e1 := List.getElem?_eq_getElem (l := n.es) (i := 0) (by omega)
   have e2 := List.getElem?_eq_getElem (l := n.ks) (i := 0 + 1) (by omega)
   rw [e1, e2]
   exact withLess_right T d n kid _ _ lo hi lo' hi' v1 v2 k1 k2 w hT hn hk hw hwk z0 z1 (by omega) e1 e2
  | succ i0 =>
   rw [if_pos (by omega)]
   have e1 := List.getElem?_eq_getElem (l := n.ks) (i := i0 + 1 - 1) (by omega)
   have e2 := List.getElem?_eq_getElem (l := n.es) (i := i0 + 1 - 1) (by omega)
   rw [e1, e2]
   exact withLess_left T d n kid _ _ i0 lo hi lo' hi' v1 v2 k1 k2 w hT hn hk hw hwk z0 z1 (by omega) e2 e1
/-- the last entry comes back -/
def LaQ (T : Nat → Prop) (w : World) (m : Em) (en : Ending) (w' : World) : Prop := en = .returned (emV m) ∧ KeyOk T w' m ∧ Below w.heap.size w w'
/-- the node in the box, on the way down -/
structure LaI (T : Nat → Prop) (w W : World) (d : Nat) (n : Nd Em) (m : Em) (v1 v2 : Value) : Prop where
 nd : ndIn (fun b => T b ∧ b < w.heap.size) W d n v1 v2
 box : W.heap[w.heap.size]? = some (.cells #[v1, v2] 60 (0, 0))
 res : W.heap[w.heap.size + 1]? = some (.cells #[.slice none 0 0, .int .u64 0] 65 (0, 0))
 wf : n.wf d 8 16
 la : n.lastN d = some m
 kept : Below w.heap.size w W
theorem LaI.next {T : Nat → Prop} {w W : World} {d : Nat} {n k : Nd Em} {m : Em} {v1 v2 a b : Value} (h : LaI T w W (d + 1) n m v1 v2) (hk : n.ks[n.ks.length - 1]? = some k) (hn : ndIn (fun b => T b ∧ b < w.heap.size) W d k a b) : LaI T w ((W.setCell ⟨w.heap.size, 0, none⟩ a).setCell ⟨w.heap.size, 1, none⟩ b) d k m a b := by
 have k1 : Keeps (fun b => T b ∧ b < w.heap.size) W ((W.setCell ⟨w.heap.size, 0, none⟩ a).setCell ⟨w.heap.size, 1, none⟩ b) := (Keeps.set a (fun h => by have := h.2; simp at this)).trans (Keeps.set b (fun h => by have := h.2; simp at this))
 refine ⟨hn.keeps k1, ?_, ?_, wf_kid h.wf hk, ?_, below_set (below_set h.kept _ _ (Nat.le_refl _)) _ _ (Nat.le_refl _)⟩
 ·exact (block_setCell ((block_setCell h.box a).trans rfl) b).trans rfl
 ·rw [heap_setCell_other _ _ _ _ (by show w.heap.size + 1 ≠ w.heap.size; omega), heap_setCell_other _ _ _ _ (by show w.heap.size + 1 ≠ w.heap.size; omega)]
  exact h.res
 ·have := h.la
  unfold Nd.lastN at this
  rw [List.getLast?_eq_getElem?, hk] at this
  exact this
set_option maxHeartbeats 8000000 in
set_option maxRecDepth 1000000 in
theorem last_any (T : Nat → Prop) (d : Nat) (n : Nd Em) (m : Em) (v1 v2 : Value) (w : World) (hn : ndIn T w d n v1 v2) (hw : n.wf d 8 16) (hm : n.lastN d = some m) :
  Calls Tryz.prog 57 #[.agg #[v1, v2]] w fun en w' => LaQ T w m en w' := by
 obtain ⟨p1, c1, p2, c2, rfl, rfl⟩ := hn.slices
 obtain ⟨N, hN⟩ : ∃ N, N = n.es.length := ⟨_, rfl⟩
 obtain ⟨K, hK⟩ : ∃ K, K = n.ks.length := ⟨_, rfl⟩
 rw [← hN, ← hK] at hn ⊢
 obtain ⟨w0, hw0⟩ : ∃ w0, w0 = (w.alloc (.cells #[.slice p1 N c1, .slice p2 K c2] 60)).alloc (.cells #[.slice none 0 0, .int .u64 0] 65) := ⟨_, rfl⟩
 obtain ⟨d0, d1, bb, bs⟩ := bx2 w (.cells #[.slice p1 N c1, .slice p2 K c2] 60) (.cells #[.slice none 0 0, .int .u64 0] 65)
 rw [← hw0] at d0 d1 bb bs
 have I0 : Hid (LaI T w w0 d n m (.slice p1 N c1) (.slice p2 K c2)) := ⟨(hn.mono (fun b hb ht => ⟨ht, hb⟩)).below bb, d0, d1, hw, hm, bb⟩
 have HW0 := mkHid hw0
 clear hn hw hm hN hK d0 d1 bb bs hw0
 go_enter Tryz.func57, Tryz.ntmps57
 go_wp2_with fail
 rw [← HW0.out]
 go_loopg [] d (fun g wr => ∃ (k : Nd Em) (q1 : Option Addr) (j1 e1 : Nat) (q2 : Option Addr) (j2 e2 : Nat), Hid (LaI T w wr g k m (.slice q1 j1 e1) (.slice q2 j2 e2)))
 case atStart => exact ⟨n, _, _, _, _, _, _, I0⟩
 case round =>
  obtain ⟨k, q1, j1, e1, q2, j2, e2, hI⟩ := hrel
  clear I0 HW0
  have b0 : wr.cell? ⟨w.heap.size, 0, none⟩ = some (.slice q1 j1 e1) := (cell_of_block hI.out.box 0).trans rfl
  have b1 : wr.cell? ⟨w.heap.size, 1, none⟩ = some (.slice q2 j2 e2) := (cell_of_block hI.out.box 1).trans rfl
  have o0 : wr.cell? ⟨w.heap.size + 1, 0, none⟩ = some (.slice none 0 0) := (cell_of_block hI.out.res 0).trans rfl
  have o1 : wr.cell? ⟨w.heap.size + 1, 1, none⟩ = some (.int .u64 0) := (cell_of_block hI.out.res 1).trans rfl
  have f0 := unfrozen_of_block hI.out.box 0
  have f1 := unfrozen_of_block hI.out.box 1
  have r0 := unfrozen_of_block hI.out.res 0
  have r1 := unfrozen_of_block hI.out.res 1
  have hl := wf_len hI.out.wf
  cases gk with
  | zero =>
   obtain ⟨_, hks, hv2⟩ := hI.out.nd
   cases hv2
   obtain ⟨gx, ox, c, hv1, hc⟩ := hI.out.nd.some.1 (by omega)
   cases hv1
   have hla := hI.out.la
   unfold Nd.lastN at hla
   rw [List.getLast?_eq_getElem?] at hla
   obtain ⟨u0, u1, u2, u3⟩ := hI.out.nd.entry hla
   obtain ⟨N1, hN1⟩ : ∃ N1, N1 + 1 = k.es.length := ⟨k.es.length - 1, by omega⟩
   rw [← hN1, Nat.add_sub_cancel] at u0 u1
   rw [← hN1] at b0
   have HK : Hid (LaQ T w m (.returned (.agg #[.slice (some ⟨m.g, 0, none⟩) m.e.key.length m.c, .int .u64 m.e.id])) ((wr.setCell ⟨w.heap.size + 1, 0, none⟩ (.slice (some ⟨m.g, 0, none⟩) m.e.key.length m.c)).setCell ⟨w.heap.size + 1, 1, none⟩ (.int .u64 m.e.id))) := by
    have k1 : Keeps (fun b => T b ∧ b < w.heap.size) wr ((wr.setCell ⟨w.heap.size + 1, 0, none⟩ (.slice (some ⟨m.g, 0, none⟩) m.e.key.length m.c)).setCell ⟨w.heap.size + 1, 1, none⟩ (.int .u64 m.e.id)) := (Keeps.set _ (fun h => by have := h.2; simp at this; omega)).trans (Keeps.set _ (fun h => by have := h.2; simp at this; omega))
    exact ⟨rfl, (u2.keeps k1).mono (fun b _ h => h.1), below_set (below_set hI.out.kept _ _ (by simp)) _ _ (by simp)⟩
   have n9 : N1 ≤ 16 := by omega
   have t1 : (N1 : Int) + 1 - 1 = (N1 : Int) := by omega
   clear hI hla u2 hks hc hl hN1
   go_wp2_with fail
   refine bodyPost_ret (v := .agg #[.slice (some ⟨m.g, 0, none⟩) m.e.key.length m.c, .int .u64 m.e.id]) (by simp [results, Tryz.results57, go_sem, o0, o1]) rfl ?_
   exact HK.out
  | succ g =>
   have hkl := wf_klen hI.out.wf
   obtain ⟨gy, oy, c, hv2, hc⟩ := hI.out.nd.some.2 (by omega)
   cases hv2
   obtain ⟨kk, hk⟩ : ∃ kk, k.ks[k.ks.length - 1]? = some kk := ⟨_, List.getElem?_eq_getElem (by omega)⟩
   obtain ⟨h1, m1, i1, h2, m2, i2, u0, u1, u2, u3⟩ := hI.out.nd.kid hk
   have NX := mkHid (hI.out.next hk u2)
   obtain ⟨N1, hN1⟩ : ∃ N1, N1 + 1 = k.ks.length := ⟨k.ks.length - 1, by omega⟩
   rw [← hN1, Nat.add_sub_cancel] at u0 u1
   rw [← hN1] at b1
   have n9 : N1 ≤ 16 := by omega
   have t1 : (N1 : Int) + 1 - 1 = (N1 : Int) := by omega
   clear hI u2 hc hl hN1 hkl hk
   go_wp2_with fail
   go_roundg g
   case measure => omega
   case rel => exact ⟨_, _, _, _, _, _, _, NX⟩
end Go.Proofs.YtclcajnodoifjaaGreatDoor

namespace Go.Proofs.YtclcajnodoifjaaGreatDoor
open Go.RowKit Go.Shelf Go.Joins Go.Maps
set_option maxRecDepth 100000

/-- a root comes back -/
def RtQ (T : Nat → Prop) (w : World) (n : Nd Em) (en : Ending) (w' : World) : Prop := ∃ d', NdQ T w d' n en w' ∧ n.tree d'
theorem root_big {α : Type} {d : Nat} {n l r : Nd α} {m : α} (h : n.wf d 0 17) (h1 : 16 < n.es.length) (hh : n.halves = some (l, m, r)) : n.rootN = .mk [m] [l, r] ∧ n.rootN.tree (d + 1) := by
 have hl := wf_len h
 have e : n.rootN = .mk [m] [l, r] := by unfold Nd.rootN; rw [if_pos h1, hh]
 refine ⟨e, ?_⟩
 obtain ⟨l', m', r', e1, _, e3, e4⟩ := halves_some h h1 (by omega)
 rw [hh] at e1
 cases e1
 rw [e]
 refine ⟨rfl, by show min (d + 1) 1 ≤ 1; omega, by simp, fun k hk => ?_⟩
 simp only [List.mem_cons, List.not_mem_nil, or_false] at hk
 rcases hk with rfl | rfl
 ·exact e3
 ·exact e4
theorem root_low {α : Type} {d : Nat} {n k : Nd α} (h : n.wf (d + 1) 0 17) (h0 : n.es.length = 0) (hk : n.ks[0]? = some k) : n.rootN = k ∧ n.rootN.tree d := by
 have hkl := wf_klen h
 have e : n.ks = [k] := by
  match hn : n.ks, hkl, hk with
  | [x], _, hk => simp at hk; rw [hk]
  | [], hkl, _ => simp at hkl
  | _ :: _ :: _, hkl, _ => simp [h0] at hkl
 have e2 : n.rootN = k := by unfold Nd.rootN; rw [if_neg (by omega), if_pos h0, e]
 refine ⟨e2, ?_⟩
 rw [e2]
 have hw := wf_kid h hk
 have hl := wf_len hw
 exact wf_mono hw (by omega) hl.2
theorem root_same {α : Type} {d : Nat} {n : Nd α} (h : n.wf d 0 17) (h1 : n.es.length ≤ 16) (h2 : n.es.length = 0 → d = 0) : n.rootN = n ∧ n.rootN.tree d := by
 have e : n.rootN = n := by
  unfold Nd.rootN
  rw [if_neg (by omega)]
  by_cases h0 : n.es.length = 0
  ·rw [if_pos h0]
   have := h2 h0
   subst this
   rcases n with ⟨es, ks⟩
   have : ks = [] := h.1
   subst this
   rfl
  ·rw [if_neg h0]
 refine ⟨e, ?_⟩
 rw [e]
 refine wf_mono h ?_ h1
 by_cases h0 : n.es.length = 0
 ·rw [h2 h0]; simp
 ·omega
set_option maxHeartbeats 8000000 in
set_option maxRecDepth 1000000 in
theorem asRoot_big (T : Nat → Prop) (d : Nat) (n : Nd Em) (v1 v2 : Value) (w : World) (hT : ∀ b, w.heap.size ≤ b → T b) (hn : ndIn T w d n v1 v2) (hw : n.wf d 0 17) (h16 : 16 < n.es.length) :
  Calls Tryz.prog 23 #[.agg #[v1, v2]] w fun en w' => RtQ T w n.rootN en w' := by
 obtain ⟨p1, c1, p2, c2, rfl, rfl⟩ := hn.slices
 have hl := wf_len hw
 obtain ⟨N, hN⟩ : ∃ N, N = n.es.length := ⟨_, rfl⟩
 obtain ⟨K, hK⟩ : ∃ K, K = n.ks.length := ⟨_, rfl⟩
 rw [← hN, ← hK] at hn ⊢
 obtain ⟨w0, hw0⟩ : ∃ w0, w0 = (w.alloc (.cells #[.slice p1 N c1, .slice p2 K c2] 60)).alloc (.cells #[.slice none 0 0, .slice none 0 0] 60) := ⟨_, rfl⟩
 obtain ⟨d0, d1, bb, bs⟩ := bx2 w (.cells #[.slice p1 N c1, .slice p2 K c2] 60) (.cells #[.slice none 0 0, .slice none 0 0] 60)
 rw [← hw0] at d0 d1 bb bs
 have SPL : Hid (Calls Tryz.prog 49 #[.agg #[.slice p1 N c1, .slice p2 K c2]] w0 fun en w' => SpQ (fun b => T b ∧ b ≠ w.heap.size + 1) w0 d n en w') := split_any _ d n _ _ w0 (fun b hb => ⟨hT b (by omega), by omega⟩) ((hn.off (by omega)).below bb) (by omega) (by omega) (wf_in hw)
 have RC := mkHid d1
 have BB := mkHid bb
 have BS := mkHid bs
 have HT := mkHid hT
 have HW := mkHid hw
 have H16 := mkHid h16
 have i16 : (N : Int) > 16 := by omega
 have HW0 := mkHid hw0
 clear hT hn hw hl h16 hN hK d0 d1 bb bs hw0
 go_enter Tryz.func23, Tryz.ntmps23
 go_wp2_with fail
 rw [← HW0.out]
 clear HW0
 refine SPL.out.mono ?_
 rintro en w1 ⟨la, ka, ca, lb, kb, cb, ra, ja, ea, rb, jb, eb, L, mid, R, rfl, hh, hL, hR, hm, hb1⟩
 have RC1 := mkHid ((hb1.block _ (lt_of_heap RC.out)).trans RC.out)
 obtain ⟨W, hW⟩ : ∃ W, W = ((((w1.alloc (.cells #[.slice la ka ca, .slice lb kb cb] 60)).alloc (.cells #[.slice (some ⟨mid.g, 0, none⟩) mid.e.key.length mid.c, .int .u64 mid.e.id] 65)).alloc (.cells #[.slice ra ja ea, .slice rb jb eb] 60)).alloc (.cells #[.slice (some ⟨mid.g, 0, none⟩) mid.e.key.length mid.c, .int .u64 mid.e.id] 65)).alloc (.cells #[.slice la ka ca, .slice lb kb cb, .slice ra ja ea, .slice rb jb eb] 60) := ⟨_, rfl⟩
 obtain ⟨_, _, _, a3, a4, a5⟩ := bx4 w1 (.cells #[.slice la ka ca, .slice lb kb cb] 60) (.cells #[.slice (some ⟨mid.g, 0, none⟩) mid.e.key.length mid.c, .int .u64 mid.e.id] 65) (.cells #[.slice ra ja ea, .slice rb jb eb] 60) (.cells #[.slice (some ⟨mid.g, 0, none⟩) mid.e.key.length mid.c, .int .u64 mid.e.id] 65)
 have e3 : W.heap[w1.heap.size + 1 + 1 + 1]? = some (.cells #[.slice (some ⟨mid.g, 0, none⟩) mid.e.key.length mid.c, .int .u64 mid.e.id] 65 (0, 0)) := by
  rw [hW, heap_alloc_old _ _ (by rw [a5]; omega)]; exact a3
 have e4 : W.heap[w1.heap.size + 1 + 1 + 1 + 1]? = some (.cells #[.slice la ka ca, .slice lb kb cb, .slice ra ja ea, .slice rb jb eb] 60 (0, 0)) := by
  rw [hW, ← a5]; exact heap_alloc_new _ _
 have e5 : Below w1.heap.size w1 W := by rw [hW]; exact a4.alloc (by omega) _
 have FN : Hid (RtQ T w n.rootN (.returned (.agg #[.slice (some ⟨w1.heap.size + 1 + 1 + 1, 0, none⟩) 1 1, .slice (some ⟨w1.heap.size + 1 + 1 + 1 + 1, 0, none⟩) 2 2])) ((W.setCell ⟨w.heap.size + 1, 0, none⟩ (.slice (some ⟨w1.heap.size + 1 + 1 + 1, 0, none⟩) 1 1)).setCell ⟨w.heap.size + 1, 1, none⟩ (.slice (some ⟨w1.heap.size + 1 + 1 + 1 + 1, 0, none⟩) 2 2))) := by
  obtain ⟨r1, r2⟩ := root_big HW.out H16.out hh
  refine ⟨d + 1, ?_, r2⟩
  rw [r1]
  have z0 := BS.out
  have z1 := hb1.size
  have hT1 : ∀ b, w1.heap.size ≤ b → T b ∧ b ≠ w.heap.size + 1 := fun b hb => ⟨HT.out b (by omega), by omega⟩
  have n1 : Nw w1 W 65 2 (.slice (some ⟨w1.heap.size + 1 + 1 + 1, 0, none⟩) 1 1) [mid].length (fl emE [mid]) := ⟨⟨rfl, Or.inr ⟨_, 0, 1, _, rfl, e3, Nat.le_refl _, by decide, Or.inr rfl, fun j u hj => by rw [Nat.zero_add]; simpa [fl, emE] using hj⟩⟩, fun g hg => by simp [Value.ownBlock] at hg; omega⟩
  have n2 : Nw w1 W 60 2 (.slice (some ⟨w1.heap.size + 1 + 1 + 1 + 1, 0, none⟩) 2 2) [L, R].length (fl hdE [(.slice la ka ca, .slice lb kb cb), (.slice ra ja ea, .slice rb jb eb)]) := ⟨⟨rfl, Or.inr ⟨_, 0, 2, _, rfl, e4, Nat.le_refl _, by decide, Or.inr rfl, fun j u hj => by rw [Nat.zero_add]; simpa [fl, hdE] using hj⟩⟩, fun g hg => by simp [Value.ownBlock] at hg; omega⟩
  refine fin_node (wm := w1) (d := d + 1) (by omega) ((BB.out.trans (hb1.mono BB.out.size)).trans (e5.mono (Nat.le_trans BB.out.size z1))) e5 (fun q hq => ?_) (KidsH.cons (x := (.slice la ka ca, .slice lb kb cb)) hL (KidsH.cons (x := (.slice ra ja ea, .slice rb jb eb)) hR KidsH.nil)) (fun e => by omega) hT1 n1 n2 (fun e => by simp at e)
  simp only [List.mem_cons, List.not_mem_nil, or_false] at hq
  subst hq
  exact hm
 have RC2 : Hid (W.heap[w.heap.size + 1]? = some (.cells #[.slice none 0 0, .slice none 0 0] 60 (0, 0))) := (e5.block _ (lt_of_heap RC1.out)).trans RC1.out
 have q0 : ∀ o1 o2 o3 o4 o5, (((((w1.alloc o1).alloc o2).alloc o3).alloc o4).alloc o5).cell? ⟨w.heap.size + 1, 0, none⟩ = some (.slice none 0 0) := fun o1 o2 o3 o4 o5 => ((((((Below.refl _ w1).alloc (Nat.le_refl _) o1).alloc (by simp) o2).alloc (by simp; omega) o3).alloc (by simp; omega) o4).alloc (by simp; omega) o5).cell (p := ⟨w.heap.size + 1, 0, none⟩) (lt_of_heap RC1.out) |>.trans ((cell_of_block RC1.out 0).trans rfl)
 have q1 : ∀ o1 o2 o3 o4 o5, (((((w1.alloc o1).alloc o2).alloc o3).alloc o4).alloc o5).cell? ⟨w.heap.size + 1, 1, none⟩ = some (.slice none 0 0) := fun o1 o2 o3 o4 o5 => ((((((Below.refl _ w1).alloc (Nat.le_refl _) o1).alloc (by simp) o2).alloc (by simp; omega) o3).alloc (by simp; omega) o4).alloc (by simp; omega) o5).cell (p := ⟨w.heap.size + 1, 1, none⟩) (lt_of_heap RC1.out) |>.trans ((cell_of_block RC1.out 1).trans rfl)
 have y0 : ∀ o1 o2 o3 o4 o5 i, (((((w1.alloc o1).alloc o2).alloc o3).alloc o4).alloc o5).frozen? ⟨w.heap.size + 1, i, none⟩ = false := fun o1 o2 o3 o4 o5 i => unfrozen_of_block (((((((Below.refl _ w1).alloc (Nat.le_refl _) o1).alloc (by simp) o2).alloc (by simp; omega) o3).alloc (by simp; omega) o4).alloc (by simp; omega) o5).block _ (lt_of_heap RC1.out) |>.trans RC1.out) i
 have HWW := mkHid hW
 clear hh hL hR hm hb1 SPL a3 a4 a5 e3 e4 e5 hW
 go_wp2_with fail
 rw [← HWW.out]
 have p0 : W.cell? ⟨w.heap.size + 1, 0, none⟩ = some (.slice none 0 0) := by rw [HWW.out]; exact q0 _ _ _ _ _
 have p1' : W.cell? ⟨w.heap.size + 1, 1, none⟩ = some (.slice none 0 0) := by rw [HWW.out]; exact q1 _ _ _ _ _
 refine bodyPost_ret (v := .agg #[.slice (some ⟨w1.heap.size + 1 + 1 + 1, 0, none⟩) 1 1, .slice (some ⟨w1.heap.size + 1 + 1 + 1 + 1, 0, none⟩) 2 2]) (by simp [results, Tryz.results23, go_sem, p0, p1']) rfl ?_
 exact FN.out

set_option maxHeartbeats 8000000 in
set_option maxRecDepth 1000000 in
theorem asRoot_low (T : Nat → Prop) (d : Nat) (n k : Nd Em) (v1 v2 : Value) (w : World) (hn : ndIn T w (d + 1) n v1 v2) (hw : n.wf (d + 1) 0 17) (h0 : n.es.length = 0) (hk : n.ks[0]? = some k) :
  Calls Tryz.prog 23 #[.agg #[v1, v2]] w fun en w' => RtQ T w n.rootN en w' := by
 have hkl := wf_klen hw
 obtain ⟨gy, oy, c2, rfl, _⟩ := hn.some.2 (by omega)
 obtain ⟨p1, c1, _, _, rfl, _⟩ := hn.slices
 obtain ⟨a1, a2, a3, b1, b2, b3, u1, u2, u3, u4⟩ := hn.kid hk
 rw [h0]
 have e1 : n.ks.length = 1 := by omega
 rw [e1]
 obtain ⟨w0, hw0⟩ : ∃ w0, w0 = (w.alloc (.cells #[.slice p1 0 c1, .slice (some ⟨gy, oy, none⟩) 1 c2] 60)).alloc (.cells #[.slice none 0 0, .slice none 0 0] 60) := ⟨_, rfl⟩
 obtain ⟨d0, d1, bb, bs⟩ := bx2 w (.cells #[.slice p1 0 c1, .slice (some ⟨gy, oy, none⟩) 1 c2] 60) (.cells #[.slice none 0 0, .slice none 0 0] 60)
 rw [← hw0] at d0 d1 bb bs
 have FN : Hid (RtQ T w n.rootN (.returned (.agg #[.slice a1 a2 a3, .slice b1 b2 b3])) ((w0.setCell ⟨w.heap.size + 1, 0, none⟩ (.slice a1 a2 a3)).setCell ⟨w.heap.size + 1, 1, none⟩ (.slice b1 b2 b3))) := by
  obtain ⟨r1, r2⟩ := root_low hw h0 hk
  refine ⟨d, ?_, r2⟩
  rw [r1]
  exact NdQ.ret (by omega) ((u3.off (by omega)).below bb) bb
 have x0 : w0.cell? ⟨gy, oy, none⟩ = some (.slice a1 a2 a3) := (bb.cell (p := ⟨gy, oy, none⟩) u4).trans (by simpa using u1)
 have x1 : w0.cell? ⟨gy, oy + 1, none⟩ = some (.slice b1 b2 b3) := (bb.cell (p := ⟨gy, oy + 1, none⟩) u4).trans (by simpa using u2)
 have q0 : w0.cell? ⟨w.heap.size + 1, 0, none⟩ = some (.slice none 0 0) := (cell_of_block d1 0).trans rfl
 have q1 : w0.cell? ⟨w.heap.size + 1, 1, none⟩ = some (.slice none 0 0) := (cell_of_block d1 1).trans rfl
 have t0 : w0.cell? ⟨w.heap.size, 0, none⟩ = some (.slice p1 0 c1) := (cell_of_block d0 0).trans rfl
 have t1 : w0.cell? ⟨w.heap.size, 1, none⟩ = some (.slice (some ⟨gy, oy, none⟩) 1 c2) := (cell_of_block d0 1).trans rfl
 have y0 := unfrozen_of_block d1 0
 have y1 := unfrozen_of_block d1 1
 have HW0 := mkHid hw0
 clear hn hw h0 hk hkl u1 u2 u3 u4 e1 d0 d1 bb bs hw0
 go_enter Tryz.func23, Tryz.ntmps23
 go_upto_region 1 with fail
 rw [← HW0.out]
 clear HW0
 go_wp2_with fail
 refine bodyPost_ret (v := .agg #[.slice a1 a2 a3, .slice b1 b2 b3]) (by simp [results, Tryz.results23, go_sem, q0, q1]) rfl ?_
 exact FN.out
set_option maxHeartbeats 8000000 in
set_option maxRecDepth 1000000 in
theorem asRoot_same (T : Nat → Prop) (d : Nat) (n : Nd Em) (v1 v2 : Value) (w : World) (hn : ndIn T w d n v1 v2) (hw : n.wf d 0 17) (h16 : n.es.length ≤ 16) (h0 : n.es.length = 0 → d = 0) :
  Calls Tryz.prog 23 #[.agg #[v1, v2]] w fun en w' => RtQ T w n.rootN en w' := by
 obtain ⟨p1, c1, p2, c2, rfl, rfl⟩ := hn.slices
 have hK1 : n.es.length = 0 → n.ks.length = 0 := fun h => by
  have := h0 h
  subst this
  rcases n with ⟨es, ks⟩
  have : ks = [] := hw.1
  subst this
  rfl
 obtain ⟨N, hN⟩ : ∃ N, N = n.es.length := ⟨_, rfl⟩
 obtain ⟨K, hK⟩ : ∃ K, K = n.ks.length := ⟨_, rfl⟩
 rw [← hN, ← hK] at hn hK1
 rw [← hN] at h16
 rw [← hN, ← hK]
 obtain ⟨w0, hw0⟩ : ∃ w0, w0 = (w.alloc (.cells #[.slice p1 N c1, .slice p2 K c2] 60)).alloc (.cells #[.slice none 0 0, .slice none 0 0] 60) := ⟨_, rfl⟩
 obtain ⟨d0, d1, bb, bs⟩ := bx2 w (.cells #[.slice p1 N c1, .slice p2 K c2] 60) (.cells #[.slice none 0 0, .slice none 0 0] 60)
 rw [← hw0] at d0 d1 bb bs
 have FN : Hid (RtQ T w n.rootN (.returned (.agg #[.slice p1 N c1, .slice p2 K c2])) ((w0.setCell ⟨w.heap.size + 1, 0, none⟩ (.slice p1 N c1)).setCell ⟨w.heap.size + 1, 1, none⟩ (.slice p2 K c2))) := by
  obtain ⟨r1, r2⟩ := root_same hw (by omega) h0
  refine ⟨d, ?_, r2⟩
  rw [r1]
  exact NdQ.ret (by omega) ((hn.off (by omega)).below bb) bb
 have q0 : w0.cell? ⟨w.heap.size + 1, 0, none⟩ = some (.slice none 0 0) := (cell_of_block d1 0).trans rfl
 have q1 : w0.cell? ⟨w.heap.size + 1, 1, none⟩ = some (.slice none 0 0) := (cell_of_block d1 1).trans rfl
 have t0 : w0.cell? ⟨w.heap.size, 0, none⟩ = some (.slice p1 N c1) := (cell_of_block d0 0).trans rfl
 have t1 : w0.cell? ⟨w.heap.size, 1, none⟩ = some (.slice p2 K c2) := (cell_of_block d0 1).trans rfl
 have y0 := unfrozen_of_block d1 0
 have y1 := unfrozen_of_block d1 1
 have n16 : ¬ ((N : Int) > 16) := by omega
 have HW0 := mkHid hw0
 by_cases hz : N = 0
 ·have hkz := hK1 hz
  subst hz hkz
  clear hn hw h16 h0 hN hK d0 d1 bb bs hw0 hK1
  go_enter Tryz.func23, Tryz.ntmps23
  go_upto_region 1 with fail
  rw [← HW0.out]
  clear HW0
  go_wp2_with fail
  refine bodyPost_ret (v := .agg #[.slice p1 0 c1, .slice p2 0 c2]) (by simp [results, Tryz.results23, go_sem, q0, q1]) rfl ?_
  exact FN.out
 ·have nz : ((N : Int) == 0) = false := by rw [beq_eq_false_iff_ne]; omega
  clear hn hw h16 h0 hN hK d0 d1 bb bs hw0 hK1
  go_enter Tryz.func23, Tryz.ntmps23
  go_upto_region 1 with fail
  rw [← HW0.out]
  clear HW0
  go_wp2_with fail
  refine bodyPost_ret (v := .agg #[.slice p1 N c1, .slice p2 K c2]) (by simp [results, Tryz.results23, go_sem, q0, q1]) rfl ?_
  exact FN.out
/-- a node as the one above all others -/
theorem asRoot_any (T : Nat → Prop) (d : Nat) (n : Nd Em) (v1 v2 : Value) (w : World) (hT : ∀ b, w.heap.size ≤ b → T b) (hn : ndIn T w d n v1 v2) (hw : n.wf d 0 17) :
  Calls Tryz.prog 23 #[.agg #[v1, v2]] w fun en w' => RtQ T w n.rootN en w' := by
 by_cases h16 : 16 < n.es.length
 ·exact asRoot_big T d n v1 v2 w hT hn hw h16
 ·by_cases h0 : n.es.length = 0
  ·cases d with
   | zero => exact asRoot_same T 0 n v1 v2 w hn hw (by omega) (fun _ => rfl)
   | succ d =>
    have hkl := wf_klen hw
    exact asRoot_low T d n _ v1 v2 w hn hw h0 (List.getElem?_eq_getElem (by omega))
  ·exact asRoot_same T d n v1 v2 w hn hw (by omega) (fun e => absurd e h0)
end Go.Proofs.YtclcajnodoifjaaGreatDoor

