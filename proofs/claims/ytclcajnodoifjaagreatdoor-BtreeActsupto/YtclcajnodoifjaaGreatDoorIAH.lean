/-
 btree.with at any kid; entries and kids of a node in memory, one by one.
-/
import Derived.Test.YtclcajnodoifjaaGreatDoorBuFSx
namespace Go.Proofs.YtclcajnodoifjaaGreatDoor
open Go.RowKit Go.Shelf Go.Joins Go.Maps
set_option maxRecDepth 100000

/-- what comes back, its slices opened -/
def NdS (T : Nat → Prop) (w : World) (d : Nat) (n : Nd Em) (en : Ending) (w' : World) : Prop := ∃ p1 n1 c1 p2 n2 c2, en = .returned (.agg #[.slice p1 n1 c1, .slice p2 n2 c2]) ∧ ndIn T w' d n (.slice p1 n1 c1) (.slice p2 n2 c2) ∧ Below w.heap.size w w'
theorem ndIn.slices {T : Nat → Prop} {w : World} {d : Nat} {n : Nd Em} {v1 v2 : Value} (h : ndIn T w d n v1 v2) : ∃ p1 c1 p2 c2, v1 = .slice p1 n.es.length c1 ∧ v2 = .slice p2 n.ks.length c2 := by
 obtain ⟨⟨p1, n1, c1, x1⟩, e1, e2, _⟩ := h.ent.pc
 obtain ⟨⟨p2, n2, c2, x2⟩, j, g1, g2, _⟩ := h.kids
 simp only at e2 g2
 subst e2 g2
 exact ⟨p1, c1, p2, c2, e1, g1⟩
theorem NdQ.toS {T : Nat → Prop} {w w' : World} {d : Nat} {n : Nd Em} {en : Ending} (h : NdQ T w d n en w') : NdS T w d n en w' := by
 obtain ⟨r1, r2, h1, h2, h3⟩ := h
 obtain ⟨p1, c1, p2, c2, e1, e2⟩ := h2.slices
 subst e1 e2
 exact ⟨_, _, _, _, _, _, h1, h2, h3⟩
theorem wf_in {α : Type} {d lo hi : Nat} {n : Nd α} (h : n.wf d lo hi) : d ≠ 0 → n.ks.length = n.es.length + 1 := by
 intro hd
 cases d with
 | zero => exact absurd rfl hd
 | succ d => exact wf_klen h
theorem wf_ks {α : Type} {d lo hi : Nat} {n : Nd α} (h : n.wf d lo hi) : n.ks.length ≤ n.es.length + 1 := by
 rcases wf_kids h with h | h
 ·rw [h]; simp
 ·omega
/-- another kid in a place -/
theorem with_any (T : Nat → Prop) (d : Nat) (n kid : Nd Em) (a b lo hi lo' hi' : Nat) (v1 v2 k1 k2 : Value) (w : World) (hT : ∀ b, w.heap.size ≤ b → T b) (hn : ndIn T w (d + 1) n v1 v2) (hk : ndIn T w d kid k1 k2) (hw : n.wf (d + 1) lo hi) (hwk : kid.wf d lo' hi') (z0 : 1 ≤ n.es.length) (z1 : n.es.length ≤ 100) (h33 : kid.es.length ≤ 100) (hab : a ≤ b) (hbn : b ≤ n.es.length) :
  Calls Tryz.prog 53 #[.agg #[v1, v2], .int .i64 (a : Int), .int .i64 ((b : Int) + 1), .agg #[k1, k2]] w fun en w' => NdQ T w (d + 1) (n.withK a (b + 1) kid) en w' := by
 unfold Nd.withK
 by_cases h16 : 16 < kid.es.length
 ·refine (with_big T d n kid a b v1 v2 k1 k2 w hT hn hk z0 (by omega) (wf_klen hw) hab hbn h16 (by omega) (wf_in hwk)).mono ?_
  rintro en w' ⟨l, m, r, h1, h2⟩
  rw [if_pos h16, h1]
  exact h2
 ·rw [if_neg h16]
  exact with_small T d n kid a b v1 v2 k1 k2 w hT hn hk z0 (by omega) (wf_klen hw) hab hbn (by omega)
/-- a kid of a node -/
theorem ndIn.kid {T : Nat → Prop} {w : World} {d i : Nat} {n k : Nd Em} {v1 : Value} {gy oy K e : Nat} (h : ndIn T w (d + 1) n v1 (.slice (some ⟨gy, oy, none⟩) K e)) (hk : n.ks[i]? = some k) : ∃ h1 n1 c1 h2 n2 c2, w.cell? ⟨gy, oy + i * 2, none⟩ = some (.slice h1 n1 c1) ∧ w.cell? ⟨gy, oy + i * 2 + 1, none⟩ = some (.slice h2 n2 c2) ∧ ndIn T w d k (.slice h1 n1 c1) (.slice h2 n2 c2) ∧ gy < w.heap.size := by
 obtain ⟨_, hs, h2, h3, h4⟩ := h
 have hi : i < hs.length := by rw [h2]; exact (List.getElem?_eq_some_iff.1 hk).1
 have hx := List.getElem?_eq_getElem (l := hs) hi
 have hkd := h4 i k _ hk hx
 obtain ⟨p, c, e1, _, _, hc⟩ := h3.form
 cases e1
 obtain ⟨g', o', e2, hg, hc⟩ := hc _ rfl
 cases e2
 have q0 := hc _ _ ((fl_get hdE_len hs i _ 0 hx (by omega)).trans rfl)
 have q1 := hc _ _ ((fl_get hdE_len hs i _ 1 hx (by omega)).trans rfl)
 obtain ⟨p1, c1, p2, c2, f1, f2⟩ := hkd.slices
 rw [f1] at q0 hkd
 rw [f2] at q1 hkd
 exact ⟨_, _, _, _, _, _, q0, by rw [Nat.add_assoc]; exact q1, hkd, hg⟩
/-- an entry of a node -/
theorem ndIn.entry {T : Nat → Prop} {w : World} {d i : Nat} {n : Nd Em} {m : Em} {v2 : Value} {gx ox N c : Nat} (h : ndIn T w d n (.slice (some ⟨gx, ox, none⟩) N c) v2) (hm : n.es[i]? = some m) : w.cell? ⟨gx, ox + i * 2, none⟩ = some (.slice (some ⟨m.g, 0, none⟩) m.e.key.length m.c) ∧ w.cell? ⟨gx, ox + i * 2 + 1, none⟩ = some (.int .u64 m.e.id) ∧ KeyOk T w m ∧ gx < w.heap.size := by
 have he := h.ent
 obtain ⟨p, cc, e1, _, _, hc⟩ := he.1.form
 cases e1
 obtain ⟨g', o', e2, hg, hc⟩ := hc _ rfl
 cases e2
 have q0 := hc _ _ ((fl_get emE_len n.es i m 0 hm (by omega)).trans rfl)
 have q1 := hc _ _ ((fl_get emE_len n.es i m 1 hm (by omega)).trans rfl)
 exact ⟨q0, by rw [Nat.add_assoc]; exact q1, he.2 m (List.mem_of_getElem? hm), hg⟩
/-- a node's slices, where it has entries and kids -/
theorem ndIn.some {T : Nat → Prop} {w : World} {d : Nat} {n : Nd Em} {v1 v2 : Value} (h : ndIn T w d n v1 v2) : (0 < n.es.length → ∃ gx ox c, v1 = .slice (some ⟨gx, ox, none⟩) n.es.length c ∧ n.es.length ≤ c) ∧ (0 < n.ks.length → ∃ gy oy e, v2 = .slice (some ⟨gy, oy, none⟩) n.ks.length e ∧ n.ks.length ≤ e) := by
 refine ⟨fun h0 => ?_, fun h0 => ?_⟩
 ·obtain ⟨⟨p1, n1, c1, x1⟩, e1, e2, _, e4, e5⟩ := h.ent.pc
  simp only at e2 e5
  subst e2
  obtain ⟨g, o, rfl⟩ := pc_some e4 h0
  exact ⟨g, o, c1, e1, e5⟩
 ·obtain ⟨⟨p2, n2, c2, x2⟩, j, g1, g2, _, g4, g5, _⟩ := h.kids
  simp only at g2 g5
  subst g2
  obtain ⟨g, o, rfl⟩ := pc_some g4 h0
  exact ⟨g, o, c2, g1, g5⟩
end Go.Proofs.YtclcajnodoifjaaGreatDoor

namespace Go.Proofs.YtclcajnodoifjaaGreatDoor
open Go.RowKit Go.Shelf Go.Joins Go.Maps
set_option maxRecDepth 100000

set_option maxHeartbeats 8000000 in
set_option maxRecDepth 1000000 in
theorem withLess_left (T : Nat → Prop) (d : Nat) (n kid k : Nd Em) (m : Em) (i0 : Nat) (lo hi lo' hi' : Nat) (v1 v2 k1 k2 : Value) (w : World) (hT : ∀ b, w.heap.size ≤ b → T b) (hn : ndIn T w (d + 1) n v1 v2) (hk : ndIn T w d kid k1 k2) (hw : n.wf (d + 1) lo hi) (hwk : kid.wf d lo' hi') (z0 : 1 ≤ n.es.length) (z1 : n.es.length ≤ 40) (h8 : kid.es.length < 8) (hm : n.es[i0]? = some m) (hkk : n.ks[i0]? = some k) :
  Calls Tryz.prog 56 #[.agg #[v1, v2], .int .i64 ((i0 : Int) + 1), .agg #[k1, k2]] w fun en w' => NdQ T w (d + 1) (n.withK i0 (i0 + 2) (k.join m kid)) en w' := by
 obtain ⟨gx, ox, c, rfl, hc⟩ := hn.some.1 (by omega)
 have zk := wf_klen hw
 obtain ⟨gy, oy, e, rfl, he⟩ := hn.some.2 (by omega)
 obtain ⟨kp, kc, kq, ke, rfl, rfl⟩ := hk.slices
 obtain ⟨a1, a2, a3, b1, b2, b3, q1, q2, q3, q4⟩ := hn.kid hkk
 obtain ⟨u1, u2, u3, u4⟩ := hn.entry hm
 have hi1 := (List.getElem?_eq_some_iff.1 hm).1
 have hi2 := (List.getElem?_eq_some_iff.1 hkk).1
 have hwkk := wf_kid hw hkk
 have l1 := wf_len hwkk
 have l2 := wf_ks hwkk
 have l3 := wf_ks hwk
 obtain ⟨N, hN⟩ : ∃ N, N = n.es.length := ⟨_, rfl⟩
 obtain ⟨K, hK⟩ : ∃ K, K = n.ks.length := ⟨_, rfl⟩
 obtain ⟨kn, hkn⟩ : ∃ kn, kn = kid.es.length := ⟨_, rfl⟩
 obtain ⟨km, hkm⟩ : ∃ km, km = kid.ks.length := ⟨_, rfl⟩
 rw [← hN, ← hK] at hn
 rw [← hkn, ← hkm] at hk
 rw [← hN, ← hK, ← hkn, ← hkm]
 obtain ⟨w0, hw0⟩ : ∃ w0, w0 = ((w.alloc (.cells #[.slice (some ⟨gx, ox, none⟩) N c, .slice (some ⟨gy, oy, none⟩) K e] 60)).alloc (.cells #[.slice kp kn kc, .slice kq km ke] 60)).alloc (.cells #[.slice none 0 0, .slice none 0 0] 60) := ⟨_, rfl⟩
 obtain ⟨d0, d1, d2, bb, bs⟩ := bx3 w (.cells #[.slice (some ⟨gx, ox, none⟩) N c, .slice (some ⟨gy, oy, none⟩) K e] 60) (.cells #[.slice kp kn kc, .slice kq km ke] 60) (.cells #[.slice none 0 0, .slice none 0 0] 60)
 rw [← hw0] at d0 d1 d2 bb bs
 have UP : Hid (∀ W, Below (w.heap.size + 1 + 1) w0 W → Below w.heap.size w W) := fun W hb => bb.trans (hb.mono (by omega))
 have KS : Hid (∀ w', Below (w.heap.size + 1 + 1) w0 w' → w'.cell? ⟨w.heap.size, 0, none⟩ = some (.slice (some ⟨gx, ox, none⟩) N c) ∧ w'.cell? ⟨w.heap.size, 1, none⟩ = some (.slice (some ⟨gy, oy, none⟩) K e) ∧ w'.cell? ⟨w.heap.size + 1, 0, none⟩ = some (.slice kp kn kc) ∧ w'.cell? ⟨w.heap.size + 1, 1, none⟩ = some (.slice kq km ke) ∧ w'.cell? ⟨gy, oy + i0 * 2, none⟩ = some (.slice a1 a2 a3) ∧ w'.cell? ⟨gy, oy + i0 * 2 + 1, none⟩ = some (.slice b1 b2 b3) ∧ w'.cell? ⟨gx, ox + i0 * 2, none⟩ = some (.slice (some ⟨m.g, 0, none⟩) m.e.key.length m.c) ∧ w'.cell? ⟨gx, ox + i0 * 2 + 1, none⟩ = some (.int .u64 m.e.id)) := fun w' hb => by
  have c0 : ∀ o, w'.cell? ⟨w.heap.size, o, none⟩ = w0.cell? ⟨w.heap.size, o, none⟩ := fun o => hb.cell (p := ⟨w.heap.size, o, none⟩) (by show w.heap.size < _; omega)
  have c1 : ∀ o, w'.cell? ⟨w.heap.size + 1, o, none⟩ = w0.cell? ⟨w.heap.size + 1, o, none⟩ := fun o => hb.cell (p := ⟨w.heap.size + 1, o, none⟩) (by show w.heap.size + 1 < _; omega)
  have c2 : ∀ o, w'.cell? ⟨gy, o, none⟩ = w.cell? ⟨gy, o, none⟩ := fun o => (UP.out w' hb).cell (p := ⟨gy, o, none⟩) q4
  have c3 : ∀ o, w'.cell? ⟨gx, o, none⟩ = w.cell? ⟨gx, o, none⟩ := fun o => (UP.out w' hb).cell (p := ⟨gx, o, none⟩) u4
  exact ⟨(c0 0).trans ((cell_of_block d0 0).trans rfl), (c0 1).trans ((cell_of_block d0 1).trans rfl), (c1 0).trans ((cell_of_block d1 0).trans rfl), (c1 1).trans ((cell_of_block d1 1).trans rfl), (c2 _).trans q1, (c2 _).trans q2, (c3 _).trans u1, (c3 _).trans u2⟩
 have RC := mkHid d2
 have KM : Hid ((w.heap.size + 1 + 1) ≤ w0.heap.size) := by show _ ≤ _; omega
 have HM : Hid (w.heap.size ≤ (w.heap.size + 1 + 1)) := by show _ ≤ _; omega
 have KF : Hid (Kept w0 w0) := Below.refl _ _
 have hT1 : ∀ W, Below (w.heap.size + 1 + 1) w0 W → ∀ b, W.heap.size ≤ b → T b ∧ b ≠ (w.heap.size + 1 + 1) := fun W hW b hb => by have := hW.size; exact ⟨hT b (by omega), by omega⟩
 have JC : Hid (∀ W, Below (w.heap.size + 1 + 1) w0 W → Kept w0 W → Calls Tryz.prog 82 #[.agg #[.slice a1 a2 a3, .slice b1 b2 b3], .agg #[.slice (some ⟨m.g, 0, none⟩) m.e.key.length m.c, .int .u64 m.e.id], .agg #[.slice kp kn kc, .slice kq km ke]] W fun en w' => NdS (fun b => T b ∧ b ≠ (w.heap.size + 1 + 1)) W d (k.join m kid) en w') := fun W hW hF => (join_any (fun b => T b ∧ b ≠ (w.heap.size + 1 + 1)) d k kid m _ _ _ _ W (hT1 W hW) ((q3.off (by omega)).below (UP.out W hW)) ((hk.off (by omega)).below (UP.out W hW)) ((u3.off (by omega)).keeps (Keeps.of_below (UP.out W hW))) (by omega) (by omega) (by omega) (by omega)).mono (fun _ _ h => h.toS)
 have hJ := join_wf (m := m) hwkk hwk
 have hJl := wf_len hJ
 have WC : Hid (∀ W p1 n1 c1 p2 n2 c2, Below (w.heap.size + 1 + 1) w0 W → Kept w0 W → ndIn (fun b => T b ∧ b ≠ (w.heap.size + 1 + 1)) W d (k.join m kid) (.slice p1 n1 c1) (.slice p2 n2 c2) → Calls Tryz.prog 53 #[.agg #[.slice (some ⟨gx, ox, none⟩) N c, .slice (some ⟨gy, oy, none⟩) K e], .int .i64 (i0 : Int), .int .i64 ((i0 : Int) + 1 + 1), .agg #[.slice p1 n1 c1, .slice p2 n2 c2]] W fun en w' => NdS (fun b => T b ∧ b ≠ (w.heap.size + 1 + 1)) W (d + 1) (n.withK i0 (i0 + 2) (k.join m kid)) en w') := fun W p1 n1 c1 p2 n2 c2 hW hF hj => by
  have := with_any (fun b => T b ∧ b ≠ (w.heap.size + 1 + 1)) d n (k.join m kid) i0 (i0 + 1) _ _ _ _ _ _ _ _ W (hT1 W hW) ((hn.off (by omega)).below (UP.out W hW)) hj hw hJ z0 (by omega) (by show (_ ++ _ :: _).length ≤ 100; rw [List.length_append, List.length_cons]; omega) (by omega) (by omega)
  exact this.mono (fun _ _ h => h.toS)
 have n8 : ¬ ((kn : Int) ≥ 8) := by omega
 have y1 : (i0 : Int) < (N : Int) := by omega
 have y2 : (i0 : Int) < (K : Int) := by omega
 have y3 : (0 : Int) ≤ (i0 : Int) := by omega
 have y4 : i0 ≤ 100 := by omega
 have y5 : (i0 : Int) + 1 > 0 := by omega
 have y6 : IntKind.i64.wrap (i0 : Int) = (i0 : Int) := by simp [IntKind.wrap, IntKind.bits, IntKind.signed]; omega
 have y7 : IntKind.i64.wrap ((i0 : Int) + 1 + 1) = (i0 : Int) + 1 + 1 := by simp [IntKind.wrap, IntKind.bits, IntKind.signed]; omega
 have HW0 := mkHid hw0
 clear hT hn hk hw hwk z0 z1 h8 hm hkk hc he zk q1 q2 q3 q4 u1 u2 u3 u4 hi1 hi2 hwkk l1 l2 l3 hN hK hkn hkm d0 d1 d2 bb bs hw0 hT1 hJ hJl
 go_enter Tryz.func56, Tryz.ntmps56
 go_wp2_with fail
 rw [← HW0.out]
 clear HW0
 refine wp_region_noPanic ?_
 refine wp_region_held_drew (S := fun w' : World => w'.cell? ⟨w.heap.size, 0, none⟩ = some (.slice (some ⟨gx, ox, none⟩) N c) ∧ w'.cell? ⟨w.heap.size, 1, none⟩ = some (.slice (some ⟨gy, oy, none⟩) K e) ∧ w'.cell? ⟨w.heap.size + 1, 0, none⟩ = some (.slice kp kn kc) ∧ w'.cell? ⟨w.heap.size + 1, 1, none⟩ = some (.slice kq km ke) ∧ w'.cell? ⟨gy, oy + i0 * 2, none⟩ = some (.slice a1 a2 a3) ∧ w'.cell? ⟨gy, oy + i0 * 2 + 1, none⟩ = some (.slice b1 b2 b3) ∧ w'.cell? ⟨gx, ox + i0 * 2, none⟩ = some (.slice (some ⟨m.g, 0, none⟩) m.e.key.length m.c) ∧ w'.cell? ⟨gx, ox + i0 * 2 + 1, none⟩ = some (.int .u64 m.e.id)) (by kernel_rfl) (KS.out _ (Below.refl _ _).drew) (fun hH => ?_)
 refine tKx (i := 0) (v := .agg #[.slice (some ⟨gx, ox, none⟩) N c, .slice (some ⟨gy, oy, none⟩) K e]) rfl rfl (by kernel_rfl) (fun _ _ _ h => h) ?_ hH ?_
 ·intro w5 hSw; obtain ⟨s0, s1, s2, s3, s4, s5, s6, s7⟩ := hSw; go_simp
 simp only [zA9, zB9, zC9]
 refine tKx (i := 1) (v := .int .i64 ((i0 : Int) + 1)) rfl rfl (by kernel_rfl) (fun _ _ _ h => h) ?_ hH ?_
 ·intro w5 hSw; obtain ⟨s0, s1, s2, s3, s4, s5, s6, s7⟩ := hSw; go_simp
 simp only [zA9, zB9, zC9]
 refine tKx (i := 2) (v := .int .i64 ((i0 : Int))) rfl rfl (by kernel_rfl) (fun _ _ _ h => h) ?_ hH ?_
 ·intro w5 hSw; obtain ⟨s0, s1, s2, s3, s4, s5, s6, s7⟩ := hSw; go_simp
 simp only [zA9, zB9, zC9]
 refine tKx (i := 3) (v := .int .i64 ((i0 : Int) + 1)) rfl rfl (by kernel_rfl) (fun _ _ _ h => h) ?_ hH ?_
 ·intro w5 hSw; obtain ⟨s0, s1, s2, s3, s4, s5, s6, s7⟩ := hSw; go_simp
 simp only [zA9, zB9, zC9]
 refine tKx (i := 4) (v := .int .i64 ((i0 : Int) + 1 + 1)) rfl rfl (by kernel_rfl) (fun _ _ _ h => h) ?_ hH ?_
 ·intro w5 hSw; obtain ⟨s0, s1, s2, s3, s4, s5, s6, s7⟩ := hSw; go_simp
 simp only [zA9, zB9, zC9]
 refine tKx (i := 5) (v := .pointer (some ⟨w.heap.size, 1, none⟩)) rfl rfl (by kernel_rfl) (fun _ _ _ h => h) ?_ hH ?_
 ·intro w5 hSw; obtain ⟨s0, s1, s2, s3, s4, s5, s6, s7⟩ := hSw; go_simp
 simp only [zA9, zB9, zC9]
 refine tKx (i := 6) (v := .slice (some ⟨gy, oy, none⟩) K e) rfl rfl (by kernel_rfl) (fun _ _ _ h => h) ?_ hH ?_
 ·intro w5 hSw; obtain ⟨s0, s1, s2, s3, s4, s5, s6, s7⟩ := hSw; go_simp
 simp only [zA9, zB9, zC9]
 refine tKx (i := 7) (v := .int .i64 ((i0 : Int) + 1)) rfl rfl (by kernel_rfl) (fun _ _ _ h => h) ?_ hH ?_
 ·intro w5 hSw; obtain ⟨s0, s1, s2, s3, s4, s5, s6, s7⟩ := hSw; go_simp
 simp only [zA9, zB9, zC9]
 refine tKx (i := 8) (v := .int .i64 ((i0 : Int))) rfl rfl (by kernel_rfl) (fun _ _ _ h => h) ?_ hH ?_
 ·intro w5 hSw; obtain ⟨s0, s1, s2, s3, s4, s5, s6, s7⟩ := hSw; go_simp
 simp only [zA9, zB9, zC9]
 refine tKx (i := 9) (v := .pointer (some ⟨gy, oy + i0 * 2, none⟩)) rfl rfl (by kernel_rfl) (fun _ _ _ h => h) ?_ hH ?_
 ·intro w5 hSw; obtain ⟨s0, s1, s2, s3, s4, s5, s6, s7⟩ := hSw; go_simp
 simp only [zA9, zB9, zC9]
 refine tKx (i := 10) (v := .agg #[.slice a1 a2 a3, .slice b1 b2 b3]) rfl rfl (by kernel_rfl) (fun _ _ _ h => h) ?_ hH ?_
 ·intro w5 hSw; obtain ⟨s0, s1, s2, s3, s4, s5, s6, s7⟩ := hSw; go_simp
 simp only [zA9, zB9, zC9]
 refine tKx (i := 11) (v := .pointer (some ⟨w.heap.size, 0, none⟩)) rfl rfl (by kernel_rfl) (fun _ _ _ h => h) ?_ hH ?_
 ·intro w5 hSw; obtain ⟨s0, s1, s2, s3, s4, s5, s6, s7⟩ := hSw; go_simp
 simp only [zA9, zB9, zC9]
 refine tKx (i := 12) (v := .slice (some ⟨gx, ox, none⟩) N c) rfl rfl (by kernel_rfl) (fun _ _ _ h => h) ?_ hH ?_
 ·intro w5 hSw; obtain ⟨s0, s1, s2, s3, s4, s5, s6, s7⟩ := hSw; go_simp
 simp only [zA9, zB9, zC9]
 refine tKx (i := 13) (v := .int .i64 ((i0 : Int) + 1)) rfl rfl (by kernel_rfl) (fun _ _ _ h => h) ?_ hH ?_
 ·intro w5 hSw; obtain ⟨s0, s1, s2, s3, s4, s5, s6, s7⟩ := hSw; go_simp
 simp only [zA9, zB9, zC9]
 refine tKx (i := 14) (v := .int .i64 ((i0 : Int))) rfl rfl (by kernel_rfl) (fun _ _ _ h => h) ?_ hH ?_
 ·intro w5 hSw; obtain ⟨s0, s1, s2, s3, s4, s5, s6, s7⟩ := hSw; go_simp
 simp only [zA9, zB9, zC9]
 refine tKx (i := 15) (v := .pointer (some ⟨gx, ox + i0 * 2, none⟩)) rfl rfl (by kernel_rfl) (fun _ _ _ h => h) ?_ hH ?_
 ·intro w5 hSw; obtain ⟨s0, s1, s2, s3, s4, s5, s6, s7⟩ := hSw; go_simp
 simp only [zA9, zB9, zC9]
 refine tKx (i := 16) (v := .agg #[.slice (some ⟨m.g, 0, none⟩) m.e.key.length m.c, .int .u64 m.e.id]) rfl rfl (by kernel_rfl) (fun _ _ _ h => h) ?_ hH ?_
 ·intro w5 hSw; obtain ⟨s0, s1, s2, s3, s4, s5, s6, s7⟩ := hSw; go_simp
 simp only [zA9, zB9, zC9]
 refine tKx (i := 17) (v := .agg #[.slice kp kn kc, .slice kq km ke]) rfl rfl (by kernel_rfl) (fun _ _ _ h => h) ?_ hH ?_
 ·intro w5 hSw; obtain ⟨s0, s1, s2, s3, s4, s5, s6, s7⟩ := hSw; go_simp
 simp only [zA9, zB9, zC9]
 have KB := mkHid ((Below.refl (w.heap.size + 1 + 1) w0).drew)
 replace KF := mkHid (KF.out.below (Below.refl _ w0).drew)
 replace RC := mkHid (show w0.drew.heap[(w.heap.size + 1 + 1)]? = _ from RC.out)
 generalize hW0 : w0.drew = W0 at KB KF RC hH ⊢
 refine wpAnyH_ready (rs := [18]) (by kernel_rfl) (by simp) ?_
 refine AllReadyH.cons rfl (fun K hK => ?_) AllReadyH.nil
 ·go_simp
  go_at_call 82
  refine (JC.out _ KB.out KF.out).mono ?_
  rintro e W1 ⟨p1, n1, c1, p2, n2, c2, rfl, k1, hb⟩
  go_wp2_with fail
  refine hK.out _ _ (KS.out _ (KB.out.trans (hb.mono (Nat.le_trans KM.out KB.out.size)))) (fun hH => ?_)
  clear hK K
  replace KF := mkHid (KF.out.below hb)
  replace RC := mkHid ((hb.block _ (lt_of_heap RC.out)).trans RC.out)
  have JN := mkHid (k1)
  replace KB := mkHid (KB.out.trans (hb.mono (Nat.le_trans KM.out KB.out.size)))
  clear hb
  refine wpAnyH_ready (rs := [19]) (by kernel_rfl) (by simp) ?_
  refine AllReadyH.cons rfl (fun K hK => ?_) AllReadyH.nil
  ·go_simp
   go_at_call 53
   refine (WC.out _ _ _ _ _ _ _ KB.out KF.out JN.out).mono ?_
   rintro e W2 ⟨p3, n3, c3, p4, n4, c4, rfl, k2, hb⟩
   go_wp2_with fail
   refine hK.out _ _ (KS.out _ (KB.out.trans (hb.mono (Nat.le_trans KM.out KB.out.size)))) (fun hH => ?_)
   clear hK K
   clear JN
   replace KF := mkHid (KF.out.below hb)
   replace RC := mkHid ((hb.block _ (lt_of_heap RC.out)).trans RC.out)
   have WN := mkHid (k2)
   replace KB := mkHid (KB.out.trans (hb.mono (Nat.le_trans KM.out KB.out.size)))
   clear hb
   refine wpAnyH_ready (rs := [20]) (by kernel_rfl) (by simp) ?_
   refine AllReadyH.cons rfl (fun K hK => ?_) AllReadyH.nil
   ·have q0 : W2.cell? ⟨(w.heap.size + 1 + 1), 0, none⟩ = some (.slice none 0 0) := (cell_of_block RC.out 0).trans rfl
    have q1 : W2.cell? ⟨(w.heap.size + 1 + 1), 1, none⟩ = some (.slice none 0 0) := (cell_of_block RC.out 1).trans rfl
    have y0 := unfrozen_of_block RC.out 0
    have y1 := unfrozen_of_block RC.out 1
    go_simp
    refine hK.out _ _ (KS.out _ (below_set (below_set KB.out ⟨(w.heap.size + 1 + 1), 0, none⟩ (.slice p3 n3 c3) (Nat.le_refl _)) ⟨(w.heap.size + 1 + 1), 1, none⟩ (.slice p4 n4 c4) (Nat.le_refl _))) (fun hH => ?_)
    clear hK K
    refine wpAnyH_done (by kernel_rfl) ?_ _
    refine NoPanic.normal ?_
    have FN := NdQ.ret (T := T) (w := w) HM.out WN.out (UP.out _ KB.out)
    clear WN KB RC KS hH
    go_wp2_with fail
    refine bodyPost_ret (v := .agg #[.slice p3 n3 c3, .slice p4 n4 c4]) (by simp [results, Tryz.results56, go_sem, q0, q1]) rfl ?_
    exact FN
set_option maxHeartbeats 8000000 in
set_option maxRecDepth 1000000 in
theorem withLess_right (T : Nat → Prop) (d : Nat) (n kid k : Nd Em) (m : Em) (lo hi lo' hi' : Nat) (v1 v2 k1 k2 : Value) (w : World) (hT : ∀ b, w.heap.size ≤ b → T b) (hn : ndIn T w (d + 1) n v1 v2) (hk : ndIn T w d kid k1 k2) (hw : n.wf (d + 1) lo hi) (hwk : kid.wf d lo' hi') (z0 : 1 ≤ n.es.length) (z1 : n.es.length ≤ 40) (h8 : kid.es.length < 8) (hm : n.es[0]? = some m) (hkk : n.ks[1]? = some k) :
  Calls Tryz.prog 56 #[.agg #[v1, v2], .int .i64 0, .agg #[k1, k2]] w fun en w' => NdQ T w (d + 1) (n.withK 0 2 (kid.join m k)) en w' := by
 obtain ⟨gx, ox, c, rfl, hc⟩ := hn.some.1 (by omega)
 have zk := wf_klen hw
 obtain ⟨gy, oy, e, rfl, he⟩ := hn.some.2 (by omega)
 obtain ⟨kp, kc, kq, ke, rfl, rfl⟩ := hk.slices
 obtain ⟨a1, a2, a3, b1, b2, b3, q1, q2, q3, q4⟩ := hn.kid hkk
 obtain ⟨u1, u2, u3, u4⟩ := hn.entry hm
 have hi1 := (List.getElem?_eq_some_iff.1 hm).1
 have hi2 := (List.getElem?_eq_some_iff.1 hkk).1
 have hwkk := wf_kid hw hkk
 have l1 := wf_len hwkk
 have l2 := wf_ks hwkk
 have l3 := wf_ks hwk
 obtain ⟨N, hN⟩ : ∃ N, N = n.es.length := ⟨_, rfl⟩
 obtain ⟨K, hK⟩ : ∃ K, K = n.ks.length := ⟨_, rfl⟩
 obtain ⟨kn, hkn⟩ : ∃ kn, kn = kid.es.length := ⟨_, rfl⟩
 obtain ⟨km, hkm⟩ : ∃ km, km = kid.ks.length := ⟨_, rfl⟩
 rw [← hN, ← hK] at hn
 rw [← hkn, ← hkm] at hk
 rw [← hN, ← hK, ← hkn, ← hkm]
 obtain ⟨w0, hw0⟩ : ∃ w0, w0 = ((w.alloc (.cells #[.slice (some ⟨gx, ox, none⟩) N c, .slice (some ⟨gy, oy, none⟩) K e] 60)).alloc (.cells #[.slice kp kn kc, .slice kq km ke] 60)).alloc (.cells #[.slice none 0 0, .slice none 0 0] 60) := ⟨_, rfl⟩
 obtain ⟨d0, d1, d2, bb, bs⟩ := bx3 w (.cells #[.slice (some ⟨gx, ox, none⟩) N c, .slice (some ⟨gy, oy, none⟩) K e] 60) (.cells #[.slice kp kn kc, .slice kq km ke] 60) (.cells #[.slice none 0 0, .slice none 0 0] 60)
 rw [← hw0] at d0 d1 d2 bb bs
 have UP : Hid (∀ W, Below (w.heap.size + 1 + 1) w0 W → Below w.heap.size w W) := fun W hb => bb.trans (hb.mono (by omega))
 have KS : Hid (∀ w', Below (w.heap.size + 1 + 1) w0 w' → w'.cell? ⟨w.heap.size, 0, none⟩ = some (.slice (some ⟨gx, ox, none⟩) N c) ∧ w'.cell? ⟨w.heap.size, 1, none⟩ = some (.slice (some ⟨gy, oy, none⟩) K e) ∧ w'.cell? ⟨w.heap.size + 1, 0, none⟩ = some (.slice kp kn kc) ∧ w'.cell? ⟨w.heap.size + 1, 1, none⟩ = some (.slice kq km ke) ∧ w'.cell? ⟨gy, oy + 2, none⟩ = some (.slice a1 a2 a3) ∧ w'.cell? ⟨gy, oy + 2 + 1, none⟩ = some (.slice b1 b2 b3) ∧ w'.cell? ⟨gx, ox, none⟩ = some (.slice (some ⟨m.g, 0, none⟩) m.e.key.length m.c) ∧ w'.cell? ⟨gx, ox + 1, none⟩ = some (.int .u64 m.e.id)) := fun w' hb => by
  have c0 : ∀ o, w'.cell? ⟨w.heap.size, o, none⟩ = w0.cell? ⟨w.heap.size, o, none⟩ := fun o => hb.cell (p := ⟨w.heap.size, o, none⟩) (by show w.heap.size < _; omega)
  have c1 : ∀ o, w'.cell? ⟨w.heap.size + 1, o, none⟩ = w0.cell? ⟨w.heap.size + 1, o, none⟩ := fun o => hb.cell (p := ⟨w.heap.size + 1, o, none⟩) (by show w.heap.size + 1 < _; omega)
  have c2 : ∀ o, w'.cell? ⟨gy, o, none⟩ = w.cell? ⟨gy, o, none⟩ := fun o => (UP.out w' hb).cell (p := ⟨gy, o, none⟩) q4
  have c3 : ∀ o, w'.cell? ⟨gx, o, none⟩ = w.cell? ⟨gx, o, none⟩ := fun o => (UP.out w' hb).cell (p := ⟨gx, o, none⟩) u4
  exact ⟨(c0 0).trans ((cell_of_block d0 0).trans rfl), (c0 1).trans ((cell_of_block d0 1).trans rfl), (c1 0).trans ((cell_of_block d1 0).trans rfl), (c1 1).trans ((cell_of_block d1 1).trans rfl), (c2 _).trans q1, (c2 _).trans q2, (c3 _).trans (by simpa using u1), (c3 _).trans (by simpa using u2)⟩
 have RC := mkHid d2
 have KM : Hid ((w.heap.size + 1 + 1) ≤ w0.heap.size) := by show _ ≤ _; omega
 have HM : Hid (w.heap.size ≤ (w.heap.size + 1 + 1)) := by show _ ≤ _; omega
 have KF : Hid (Kept w0 w0) := Below.refl _ _
 have hT1 : ∀ W, Below (w.heap.size + 1 + 1) w0 W → ∀ b, W.heap.size ≤ b → T b ∧ b ≠ (w.heap.size + 1 + 1) := fun W hW b hb => by have := hW.size; exact ⟨hT b (by omega), by omega⟩
 have JC : Hid (∀ W, Below (w.heap.size + 1 + 1) w0 W → Kept w0 W → Calls Tryz.prog 82 #[.agg #[.slice kp kn kc, .slice kq km ke], .agg #[.slice (some ⟨m.g, 0, none⟩) m.e.key.length m.c, .int .u64 m.e.id], .agg #[.slice a1 a2 a3, .slice b1 b2 b3]] W fun en w' => NdS (fun b => T b ∧ b ≠ (w.heap.size + 1 + 1)) W d (kid.join m k) en w') := fun W hW hF => (join_any (fun b => T b ∧ b ≠ (w.heap.size + 1 + 1)) d kid k m _ _ _ _ W (hT1 W hW) ((hk.off (by omega)).below (UP.out W hW)) ((q3.off (by omega)).below (UP.out W hW)) ((u3.off (by omega)).keeps (Keeps.of_below (UP.out W hW))) (by omega) (by omega) (by omega) (by omega)).mono (fun _ _ h => h.toS)
 have hJ := join_wf (m := m) hwk hwkk
 have hJl := wf_len hJ
 have WC : Hid (∀ W p1 n1 c1 p2 n2 c2, Below (w.heap.size + 1 + 1) w0 W → Kept w0 W → ndIn (fun b => T b ∧ b ≠ (w.heap.size + 1 + 1)) W d (kid.join m k) (.slice p1 n1 c1) (.slice p2 n2 c2) → Calls Tryz.prog 53 #[.agg #[.slice (some ⟨gx, ox, none⟩) N c, .slice (some ⟨gy, oy, none⟩) K e], .int .i64 0, .int .i64 2, .agg #[.slice p1 n1 c1, .slice p2 n2 c2]] W fun en w' => NdS (fun b => T b ∧ b ≠ (w.heap.size + 1 + 1)) W (d + 1) (n.withK 0 2 (kid.join m k)) en w') := fun W p1 n1 c1 p2 n2 c2 hW hF hj => by
  have := with_any (fun b => T b ∧ b ≠ (w.heap.size + 1 + 1)) d n (kid.join m k) 0 1 _ _ _ _ _ _ _ _ W (hT1 W hW) ((hn.off (by omega)).below (UP.out W hW)) hj hw hJ z0 (by omega) (by show (_ ++ _ :: _).length ≤ 100; rw [List.length_append, List.length_cons]; omega) (by omega) (by omega)
  exact this.mono (fun _ _ h => h.toS)
 have n8 : ¬ ((kn : Int) ≥ 8) := by omega
 have y1 : (0 : Int) < (N : Int) := by omega
 have y2 : (1 : Int) < (K : Int) := by omega
 have y3 : IntKind.i64.wrap 2 = 2 := by decide
 have y4 : IntKind.i64.wrap 1 = 1 := by decide
 have y5 : ¬ N = 0 := by omega
 have HW0 := mkHid hw0
 clear hT hn hk hw hwk z0 z1 h8 hm hkk hc he zk q1 q2 q3 q4 u1 u2 u3 u4 hi1 hi2 hwkk l1 l2 l3 hN hK hkn hkm d0 d1 d2 bb bs hw0 hT1 hJ hJl
 go_enter Tryz.func56, Tryz.ntmps56
 go_wp2_with fail
 rw [← HW0.out]
 clear HW0
 refine wp_region_noPanic ?_
 refine wp_region_held_drew (S := fun w' : World => w'.cell? ⟨w.heap.size, 0, none⟩ = some (.slice (some ⟨gx, ox, none⟩) N c) ∧ w'.cell? ⟨w.heap.size, 1, none⟩ = some (.slice (some ⟨gy, oy, none⟩) K e) ∧ w'.cell? ⟨w.heap.size + 1, 0, none⟩ = some (.slice kp kn kc) ∧ w'.cell? ⟨w.heap.size + 1, 1, none⟩ = some (.slice kq km ke) ∧ w'.cell? ⟨gy, oy + 2, none⟩ = some (.slice a1 a2 a3) ∧ w'.cell? ⟨gy, oy + 2 + 1, none⟩ = some (.slice b1 b2 b3) ∧ w'.cell? ⟨gx, ox, none⟩ = some (.slice (some ⟨m.g, 0, none⟩) m.e.key.length m.c) ∧ w'.cell? ⟨gx, ox + 1, none⟩ = some (.int .u64 m.e.id)) (by kernel_rfl) (KS.out _ (Below.refl _ _).drew) (fun hH => ?_)
 refine tKx (i := 0) (v := .agg #[.slice (some ⟨gx, ox, none⟩) N c, .slice (some ⟨gy, oy, none⟩) K e]) rfl rfl (by kernel_rfl) (fun _ _ _ h => h) ?_ hH ?_
 ·intro w5 hSw; obtain ⟨s0, s1, s2, s3, s4, s5, s6, s7⟩ := hSw; go_simp
 simp only [zA9, zB9, zC9]
 refine tKx (i := 1) (v := .int .i64 (0)) rfl rfl (by kernel_rfl) (fun _ _ _ h => h) ?_ hH ?_
 ·intro w5 hSw; obtain ⟨s0, s1, s2, s3, s4, s5, s6, s7⟩ := hSw; go_simp
 simp only [zA9, zB9, zC9]
 refine tKx (i := 2) (v := .int .i64 (0)) rfl rfl (by kernel_rfl) (fun _ _ _ h => h) ?_ hH ?_
 ·intro w5 hSw; obtain ⟨s0, s1, s2, s3, s4, s5, s6, s7⟩ := hSw; go_simp
 simp only [zA9, zB9, zC9]
 refine tKx (i := 3) (v := .int .i64 (2)) rfl rfl (by kernel_rfl) (fun _ _ _ h => h) ?_ hH ?_
 ·intro w5 hSw; obtain ⟨s0, s1, s2, s3, s4, s5, s6, s7⟩ := hSw; go_simp
 simp only [zA9, zB9, zC9]
 refine tKx (i := 4) (v := .agg #[.slice kp kn kc, .slice kq km ke]) rfl rfl (by kernel_rfl) (fun _ _ _ h => h) ?_ hH ?_
 ·intro w5 hSw; obtain ⟨s0, s1, s2, s3, s4, s5, s6, s7⟩ := hSw; go_simp
 simp only [zA9, zB9, zC9]
 refine tKx (i := 5) (v := .pointer (some ⟨w.heap.size, 0, none⟩)) rfl rfl (by kernel_rfl) (fun _ _ _ h => h) ?_ hH ?_
 ·intro w5 hSw; obtain ⟨s0, s1, s2, s3, s4, s5, s6, s7⟩ := hSw; go_simp
 simp only [zA9, zB9, zC9]
 refine tKx (i := 6) (v := .slice (some ⟨gx, ox, none⟩) N c) rfl rfl (by kernel_rfl) (fun _ _ _ h => h) ?_ hH ?_
 ·intro w5 hSw; obtain ⟨s0, s1, s2, s3, s4, s5, s6, s7⟩ := hSw; go_simp
 simp only [zA9, zB9, zC9]
 refine tKx (i := 7) (v := .int .i64 (0)) rfl rfl (by kernel_rfl) (fun _ _ _ h => h) ?_ hH ?_
 ·intro w5 hSw; obtain ⟨s0, s1, s2, s3, s4, s5, s6, s7⟩ := hSw; go_simp
 simp only [zA9, zB9, zC9]
 refine tKx (i := 8) (v := .pointer (some ⟨gx, ox, none⟩)) rfl rfl (by kernel_rfl) (fun _ _ _ h => h) ?_ hH ?_
 ·intro w5 hSw; obtain ⟨s0, s1, s2, s3, s4, s5, s6, s7⟩ := hSw; go_simp
 simp only [zA9, zB9, zC9]
 refine tKx (i := 9) (v := .agg #[.slice (some ⟨m.g, 0, none⟩) m.e.key.length m.c, .int .u64 m.e.id]) rfl rfl (by kernel_rfl) (fun _ _ _ h => h) ?_ hH ?_
 ·intro w5 hSw; obtain ⟨s0, s1, s2, s3, s4, s5, s6, s7⟩ := hSw; go_simp
 simp only [zA9, zB9, zC9]
 refine tKx (i := 10) (v := .pointer (some ⟨w.heap.size, 1, none⟩)) rfl rfl (by kernel_rfl) (fun _ _ _ h => h) ?_ hH ?_
 ·intro w5 hSw; obtain ⟨s0, s1, s2, s3, s4, s5, s6, s7⟩ := hSw; go_simp
 simp only [zA9, zB9, zC9]
 refine tKx (i := 11) (v := .slice (some ⟨gy, oy, none⟩) K e) rfl rfl (by kernel_rfl) (fun _ _ _ h => h) ?_ hH ?_
 ·intro w5 hSw; obtain ⟨s0, s1, s2, s3, s4, s5, s6, s7⟩ := hSw; go_simp
 simp only [zA9, zB9, zC9]
 refine tKx (i := 12) (v := .int .i64 (0)) rfl rfl (by kernel_rfl) (fun _ _ _ h => h) ?_ hH ?_
 ·intro w5 hSw; obtain ⟨s0, s1, s2, s3, s4, s5, s6, s7⟩ := hSw; go_simp
 simp only [zA9, zB9, zC9]
 refine tKx (i := 13) (v := .int .i64 (1)) rfl rfl (by kernel_rfl) (fun _ _ _ h => h) ?_ hH ?_
 ·intro w5 hSw; obtain ⟨s0, s1, s2, s3, s4, s5, s6, s7⟩ := hSw; go_simp
 simp only [zA9, zB9, zC9]
 refine tKx (i := 14) (v := .pointer (some ⟨gy, oy + 2, none⟩)) rfl rfl (by kernel_rfl) (fun _ _ _ h => h) ?_ hH ?_
 ·intro w5 hSw; obtain ⟨s0, s1, s2, s3, s4, s5, s6, s7⟩ := hSw; go_simp
 simp only [zA9, zB9, zC9]
 refine tKx (i := 15) (v := .agg #[.slice a1 a2 a3, .slice b1 b2 b3]) rfl rfl (by kernel_rfl) (fun _ _ _ h => h) ?_ hH ?_
 ·intro w5 hSw; obtain ⟨s0, s1, s2, s3, s4, s5, s6, s7⟩ := hSw; go_simp
 simp only [zA9, zB9, zC9]
 have KB := mkHid ((Below.refl (w.heap.size + 1 + 1) w0).drew)
 replace KF := mkHid (KF.out.below (Below.refl _ w0).drew)
 replace RC := mkHid (show w0.drew.heap[(w.heap.size + 1 + 1)]? = _ from RC.out)
 generalize hW0 : w0.drew = W0 at KB KF RC hH ⊢
 refine wpAnyH_ready (rs := [16]) (by kernel_rfl) (by simp) ?_
 refine AllReadyH.cons rfl (fun K hK => ?_) AllReadyH.nil
 ·go_simp
  go_at_call 82
  refine (JC.out _ KB.out KF.out).mono ?_
  rintro e W1 ⟨p1, n1, c1, p2, n2, c2, rfl, k1, hb⟩
  go_wp2_with fail
  refine hK.out _ _ (KS.out _ (KB.out.trans (hb.mono (Nat.le_trans KM.out KB.out.size)))) (fun hH => ?_)
  clear hK K
  replace KF := mkHid (KF.out.below hb)
  replace RC := mkHid ((hb.block _ (lt_of_heap RC.out)).trans RC.out)
  have JN := mkHid (k1)
  replace KB := mkHid (KB.out.trans (hb.mono (Nat.le_trans KM.out KB.out.size)))
  clear hb
  refine wpAnyH_ready (rs := [17]) (by kernel_rfl) (by simp) ?_
  refine AllReadyH.cons rfl (fun K hK => ?_) AllReadyH.nil
  ·go_simp
   go_at_call 53
   refine (WC.out _ _ _ _ _ _ _ KB.out KF.out JN.out).mono ?_
   rintro e W2 ⟨p3, n3, c3, p4, n4, c4, rfl, k2, hb⟩
   go_wp2_with fail
   refine hK.out _ _ (KS.out _ (KB.out.trans (hb.mono (Nat.le_trans KM.out KB.out.size)))) (fun hH => ?_)
   clear hK K
   clear JN
   replace KF := mkHid (KF.out.below hb)
   replace RC := mkHid ((hb.block _ (lt_of_heap RC.out)).trans RC.out)
   have WN := mkHid (k2)
   replace KB := mkHid (KB.out.trans (hb.mono (Nat.le_trans KM.out KB.out.size)))
   clear hb
   refine wpAnyH_ready (rs := [18]) (by kernel_rfl) (by simp) ?_
   refine AllReadyH.cons rfl (fun K hK => ?_) AllReadyH.nil
   ·have q0 : W2.cell? ⟨(w.heap.size + 1 + 1), 0, none⟩ = some (.slice none 0 0) := (cell_of_block RC.out 0).trans rfl
    have q1 : W2.cell? ⟨(w.heap.size + 1 + 1), 1, none⟩ = some (.slice none 0 0) := (cell_of_block RC.out 1).trans rfl
    have y0 := unfrozen_of_block RC.out 0
    have y1 := unfrozen_of_block RC.out 1
    go_simp
    refine hK.out _ _ (KS.out _ (below_set (below_set KB.out ⟨(w.heap.size + 1 + 1), 0, none⟩ (.slice p3 n3 c3) (Nat.le_refl _)) ⟨(w.heap.size + 1 + 1), 1, none⟩ (.slice p4 n4 c4) (Nat.le_refl _))) (fun hH => ?_)
    clear hK K
    refine wpAnyH_done (by kernel_rfl) ?_ _
    refine NoPanic.normal ?_
    have FN := NdQ.ret (T := T) (w := w) HM.out WN.out (UP.out _ KB.out)
    clear WN KB RC KS hH
    go_wp2_with fail
    refine bodyPost_ret (v := .agg #[.slice p3 n3 c3, .slice p4 n4 c4]) (by simp [results, Tryz.results56, go_sem, q0, q1]) rfl ?_
    exact FN
end Go.Proofs.YtclcajnodoifjaaGreatDoor

