/-
  The walk of btree.asRoot.
-/
import Derived.Test.YtclcajnodoifjaaGreatDoorHAG
import Derived.BigQuiet
namespace Go.Proofs.YtclcajnodoifjaaGreatDoor
open Go.RowKit Go.Shelf Go.Joins Go.Maps
set_option maxRecDepth 100000

/-- a root comes back -/
def RtQ (T : Nat → Prop) (w : World) (n : Nd Em) (en : Ending) (w' : World) : Prop := ∃ d', NdQ T w d' n en w' ∧ n.tree d'
theorem root_big {α : Type} {d : Nat} {n l r : Nd α} {m : α} (h : n.wf d 0 17) (h1 : 16 < n.es.length) (hh : n.halves = some (l, m, r)) : n.rootN = .mk [m] [l, r] ∧ n.rootN.tree (d + 1) := by
  have hl := wf_len h
  have e : n.rootN = .mk [m] [l, r] := by unfold Nd.rootN; rw [if_pos h1, hh]
  refine ⟨e, ?_⟩
  obtain ⟨l', m', r', e1, _, e3, e4⟩ := halves_some h h1 (by omega)
  rw [hh] at e1
  cases e1
  rw [e]
  refine ⟨rfl, by show min (d + 1) 1 ≤ 1; omega, by simp, fun k hk => ?_⟩
  simp only [List.mem_cons, List.not_mem_nil, or_false] at hk
  rcases hk with rfl | rfl
  · exact e3
  · exact e4
theorem root_low {α : Type} {d : Nat} {n k : Nd α} (h : n.wf (d + 1) 0 17) (h0 : n.es.length = 0) (hk : n.ks[0]? = some k) : n.rootN = k ∧ n.rootN.tree d := by
  have hkl := wf_klen h
  have e : n.ks = [k] := by
    match hn : n.ks, hkl, hk with
    | [x], _, hk => simp at hk; rw [hk]
    | [], hkl, _ => simp at hkl
    | _ :: _ :: _, hkl, _ => simp [h0] at hkl
  have e2 : n.rootN = k := by unfold Nd.rootN; rw [if_neg (by omega), if_pos h0, e]
  refine ⟨e2, ?_⟩
  rw [e2]
  have hw := wf_kid h hk
  have hl := wf_len hw
  exact wf_mono hw (by omega) hl.2
theorem root_same {α : Type} {d : Nat} {n : Nd α} (h : n.wf d 0 17) (h1 : n.es.length ≤ 16) (h2 : n.es.length = 0 → d = 0) : n.rootN = n ∧ n.rootN.tree d := by
  have e : n.rootN = n := by
    unfold Nd.rootN
    rw [if_neg (by omega)]
    by_cases h0 : n.es.length = 0
    · rw [if_pos h0]
      have := h2 h0
      subst this
      rcases n with ⟨es, ks⟩
      have : ks = [] := h.1
      subst this
      rfl
    · rw [if_neg h0]
  refine ⟨e, ?_⟩
  rw [e]
  refine wf_mono h ?_ h1
  by_cases h0 : n.es.length = 0
  · rw [h2 h0]; simp
  · omega
set_option maxHeartbeats 8000000 in
set_option maxRecDepth 1000000 in
theorem asRoot_big (T : Nat → Prop) (d : Nat) (n : Nd Em) (v1 v2 : Value) (w : World) (hT : ∀ b, w.heap.size ≤ b → T b) (hn : ndIn T w d n v1 v2) (hw : n.wf d 0 17) (h16 : 16 < n.es.length) :
    Calls Tryz.prog 23 #[.agg #[v1, v2]] w fun en w' => RtQ T w n.rootN en w' := by
  obtain ⟨p1, c1, p2, c2, rfl, rfl⟩ := hn.slices
  have hl := wf_len hw
  obtain ⟨N, hN⟩ : ∃ N, N = n.es.length := ⟨_, rfl⟩
  obtain ⟨K, hK⟩ : ∃ K, K = n.ks.length := ⟨_, rfl⟩
  rw [← hN, ← hK] at hn ⊢
  obtain ⟨w0, hw0⟩ : ∃ w0, w0 = (w.alloc (.cells #[.slice p1 N c1, .slice p2 K c2] 60)).alloc (.cells #[.slice none 0 0, .slice none 0 0] 60) := ⟨_, rfl⟩
  obtain ⟨d0, d1, bb, bs⟩ := bx2 w (.cells #[.slice p1 N c1, .slice p2 K c2] 60) (.cells #[.slice none 0 0, .slice none 0 0] 60)
  rw [← hw0] at d0 d1 bb bs
  have SPL : Hid (Calls Tryz.prog 49 #[.agg #[.slice p1 N c1, .slice p2 K c2]] w0 fun en w' => SpQ (fun b => T b ∧ b ≠ w.heap.size + 1) w0 d n en w') := split_any _ d n _ _ w0 (fun b hb => ⟨hT b (by omega), by omega⟩) ((hn.off (by omega)).below bb) (by omega) (by omega) (wf_in hw)
  have RC := mkHid d1
  have BB := mkHid bb
  have BS := mkHid bs
  have HT := mkHid hT
  have HW := mkHid hw
  have H16 := mkHid h16
  have i16 : (N : Int) > 16 := by omega
  have HW0 := mkHid hw0
  clear hT hn hw hl h16 hN hK d0 d1 bb bs hw0
  go_enter Tryz.func23, Tryz.ntmps23
  go_wp2_with fail
  rw [← HW0.out]
  clear HW0
  refine SPL.out.mono ?_
  rintro en w1 ⟨la, ka, ca, lb, kb, cb, ra, ja, ea, rb, jb, eb, L, mid, R, rfl, hh, hL, hR, hm, hb1⟩
  have RC1 := mkHid ((hb1.block _ (lt_of_heap RC.out)).trans RC.out)
  obtain ⟨W, hW⟩ : ∃ W, W = ((((w1.alloc (.cells #[.slice la ka ca, .slice lb kb cb] 60)).alloc (.cells #[.slice (some ⟨mid.g, 0, none⟩) mid.e.key.length mid.c, .int .u64 mid.e.id] 65)).alloc (.cells #[.slice ra ja ea, .slice rb jb eb] 60)).alloc (.cells #[.slice (some ⟨mid.g, 0, none⟩) mid.e.key.length mid.c, .int .u64 mid.e.id] 65)).alloc (.cells #[.slice la ka ca, .slice lb kb cb, .slice ra ja ea, .slice rb jb eb] 60) := ⟨_, rfl⟩
  obtain ⟨_, _, _, a3, a4, a5⟩ := bx4 w1 (.cells #[.slice la ka ca, .slice lb kb cb] 60) (.cells #[.slice (some ⟨mid.g, 0, none⟩) mid.e.key.length mid.c, .int .u64 mid.e.id] 65) (.cells #[.slice ra ja ea, .slice rb jb eb] 60) (.cells #[.slice (some ⟨mid.g, 0, none⟩) mid.e.key.length mid.c, .int .u64 mid.e.id] 65)
  have e3 : W.heap[w1.heap.size + 1 + 1 + 1]? = some (.cells #[.slice (some ⟨mid.g, 0, none⟩) mid.e.key.length mid.c, .int .u64 mid.e.id] 65 (0, 0)) := by
    rw [hW, heap_alloc_old _ _ (by rw [a5]; omega)]; exact a3
  have e4 : W.heap[w1.heap.size + 1 + 1 + 1 + 1]? = some (.cells #[.slice la ka ca, .slice lb kb cb, .slice ra ja ea, .slice rb jb eb] 60 (0, 0)) := by
    rw [hW, ← a5]; exact heap_alloc_new _ _
  have e5 : Below w1.heap.size w1 W := by rw [hW]; exact a4.alloc (by omega) _
  have FN : Hid (RtQ T w n.rootN (.returned (.agg #[.slice (some ⟨w1.heap.size + 1 + 1 + 1, 0, none⟩) 1 1, .slice (some ⟨w1.heap.size + 1 + 1 + 1 + 1, 0, none⟩) 2 2])) ((W.setCell ⟨w.heap.size + 1, 0, none⟩ (.slice (some ⟨w1.heap.size + 1 + 1 + 1, 0, none⟩) 1 1)).setCell ⟨w.heap.size + 1, 1, none⟩ (.slice (some ⟨w1.heap.size + 1 + 1 + 1 + 1, 0, none⟩) 2 2))) := by
    obtain ⟨r1, r2⟩ := root_big HW.out H16.out hh
    refine ⟨d + 1, ?_, r2⟩
    rw [r1]
    have z0 := BS.out
    have z1 := hb1.size
    have hT1 : ∀ b, w1.heap.size ≤ b → T b ∧ b ≠ w.heap.size + 1 := fun b hb => ⟨HT.out b (by omega), by omega⟩
    have n1 : Nw w1 W 65 2 (.slice (some ⟨w1.heap.size + 1 + 1 + 1, 0, none⟩) 1 1) [mid].length (fl emE [mid]) := ⟨⟨rfl, Or.inr ⟨_, 0, 1, _, rfl, e3, Nat.le_refl _, by decide, Or.inr rfl, fun j u hj => by rw [Nat.zero_add]; simpa [fl, emE] using hj⟩⟩, fun g hg => by simp [Value.ownBlock] at hg; omega⟩
    have n2 : Nw w1 W 60 2 (.slice (some ⟨w1.heap.size + 1 + 1 + 1 + 1, 0, none⟩) 2 2) [L, R].length (fl hdE [(.slice la ka ca, .slice lb kb cb), (.slice ra ja ea, .slice rb jb eb)]) := ⟨⟨rfl, Or.inr ⟨_, 0, 2, _, rfl, e4, Nat.le_refl _, by decide, Or.inr rfl, fun j u hj => by rw [Nat.zero_add]; simpa [fl, hdE] using hj⟩⟩, fun g hg => by simp [Value.ownBlock] at hg; omega⟩
    refine fin_node (wm := w1) (d := d + 1) (by omega) ((BB.out.trans (hb1.mono BB.out.size)).trans (e5.mono (Nat.le_trans BB.out.size z1))) e5 (fun q hq => ?_) (KidsH.cons (x := (.slice la ka ca, .slice lb kb cb)) hL (KidsH.cons (x := (.slice ra ja ea, .slice rb jb eb)) hR KidsH.nil)) (fun e => by omega) hT1 n1 n2 (fun e => by simp at e)
    simp only [List.mem_cons, List.not_mem_nil, or_false] at hq
    subst hq
    exact hm
  have RC2 : Hid (W.heap[w.heap.size + 1]? = some (.cells #[.slice none 0 0, .slice none 0 0] 60 (0, 0))) := (e5.block _ (lt_of_heap RC1.out)).trans RC1.out
  have q0 : ∀ o1 o2 o3 o4 o5, (((((w1.alloc o1).alloc o2).alloc o3).alloc o4).alloc o5).cell? ⟨w.heap.size + 1, 0, none⟩ = some (.slice none 0 0) := fun o1 o2 o3 o4 o5 => ((((((Below.refl _ w1).alloc (Nat.le_refl _) o1).alloc (by simp) o2).alloc (by simp; omega) o3).alloc (by simp; omega) o4).alloc (by simp; omega) o5).cell (p := ⟨w.heap.size + 1, 0, none⟩) (lt_of_heap RC1.out) |>.trans ((cell_of_block RC1.out 0).trans rfl)
  have q1 : ∀ o1 o2 o3 o4 o5, (((((w1.alloc o1).alloc o2).alloc o3).alloc o4).alloc o5).cell? ⟨w.heap.size + 1, 1, none⟩ = some (.slice none 0 0) := fun o1 o2 o3 o4 o5 => ((((((Below.refl _ w1).alloc (Nat.le_refl _) o1).alloc (by simp) o2).alloc (by simp; omega) o3).alloc (by simp; omega) o4).alloc (by simp; omega) o5).cell (p := ⟨w.heap.size + 1, 1, none⟩) (lt_of_heap RC1.out) |>.trans ((cell_of_block RC1.out 1).trans rfl)
  have y0 : ∀ o1 o2 o3 o4 o5 i, (((((w1.alloc o1).alloc o2).alloc o3).alloc o4).alloc o5).frozen? ⟨w.heap.size + 1, i, none⟩ = false := fun o1 o2 o3 o4 o5 i => unfrozen_of_block (((((((Below.refl _ w1).alloc (Nat.le_refl _) o1).alloc (by simp) o2).alloc (by simp; omega) o3).alloc (by simp; omega) o4).alloc (by simp; omega) o5).block _ (lt_of_heap RC1.out) |>.trans RC1.out) i
  have HWW := mkHid hW
  clear hh hL hR hm hb1 SPL a3 a4 a5 e3 e4 e5 hW
  go_wp2_with fail
  rw [← HWW.out]
  have p0 : W.cell? ⟨w.heap.size + 1, 0, none⟩ = some (.slice none 0 0) := by rw [HWW.out]; exact q0 _ _ _ _ _
  have p1' : W.cell? ⟨w.heap.size + 1, 1, none⟩ = some (.slice none 0 0) := by rw [HWW.out]; exact q1 _ _ _ _ _
  refine bodyPost_ret (v := .agg #[.slice (some ⟨w1.heap.size + 1 + 1 + 1, 0, none⟩) 1 1, .slice (some ⟨w1.heap.size + 1 + 1 + 1 + 1, 0, none⟩) 2 2]) (by simp [results, Tryz.results23, go_sem, p0, p1']) rfl ?_
  exact FN.out

set_option maxHeartbeats 8000000 in
set_option maxRecDepth 1000000 in
theorem asRoot_low (T : Nat → Prop) (d : Nat) (n k : Nd Em) (v1 v2 : Value) (w : World) (hn : ndIn T w (d + 1) n v1 v2) (hw : n.wf (d + 1) 0 17) (h0 : n.es.length = 0) (hk : n.ks[0]? = some k) :
    Calls Tryz.prog 23 #[.agg #[v1, v2]] w fun en w' => RtQ T w n.rootN en w' := by
  have hkl := wf_klen hw
  obtain ⟨gy, oy, c2, rfl, _⟩ := hn.some.2 (by omega)
  obtain ⟨p1, c1, _, _, rfl, _⟩ := hn.slices
  obtain ⟨a1, a2, a3, b1, b2, b3, u1, u2, u3, u4⟩ := hn.kid hk
  rw [h0]
  have e1 : n.ks.length = 1 := by omega
  rw [e1]
  obtain ⟨w0, hw0⟩ : ∃ w0, w0 = (w.alloc (.cells #[.slice p1 0 c1, .slice (some ⟨gy, oy, none⟩) 1 c2] 60)).alloc (.cells #[.slice none 0 0, .slice none 0 0] 60) := ⟨_, rfl⟩
  obtain ⟨d0, d1, bb, bs⟩ := bx2 w (.cells #[.slice p1 0 c1, .slice (some ⟨gy, oy, none⟩) 1 c2] 60) (.cells #[.slice none 0 0, .slice none 0 0] 60)
  rw [← hw0] at d0 d1 bb bs
  have FN : Hid (RtQ T w n.rootN (.returned (.agg #[.slice a1 a2 a3, .slice b1 b2 b3])) ((w0.setCell ⟨w.heap.size + 1, 0, none⟩ (.slice a1 a2 a3)).setCell ⟨w.heap.size + 1, 1, none⟩ (.slice b1 b2 b3))) := by
    obtain ⟨r1, r2⟩ := root_low hw h0 hk
    refine ⟨d, ?_, r2⟩
    rw [r1]
    exact NdQ.ret (by omega) ((u3.off (by omega)).below bb) bb
  have x0 : w0.cell? ⟨gy, oy, none⟩ = some (.slice a1 a2 a3) := (bb.cell (p := ⟨gy, oy, none⟩) u4).trans (by simpa using u1)
  have x1 : w0.cell? ⟨gy, oy + 1, none⟩ = some (.slice b1 b2 b3) := (bb.cell (p := ⟨gy, oy + 1, none⟩) u4).trans (by simpa using u2)
  have q0 : w0.cell? ⟨w.heap.size + 1, 0, none⟩ = some (.slice none 0 0) := (cell_of_block d1 0).trans rfl
  have q1 : w0.cell? ⟨w.heap.size + 1, 1, none⟩ = some (.slice none 0 0) := (cell_of_block d1 1).trans rfl
  have t0 : w0.cell? ⟨w.heap.size, 0, none⟩ = some (.slice p1 0 c1) := (cell_of_block d0 0).trans rfl
  have t1 : w0.cell? ⟨w.heap.size, 1, none⟩ = some (.slice (some ⟨gy, oy, none⟩) 1 c2) := (cell_of_block d0 1).trans rfl
  have y0 := unfrozen_of_block d1 0
  have y1 := unfrozen_of_block d1 1
  have HW0 := mkHid hw0
  clear hn hw h0 hk hkl u1 u2 u3 u4 e1 d0 d1 bb bs hw0
  go_enter Tryz.func23, Tryz.ntmps23
  go_upto_region 1 with fail
  rw [← HW0.out]
  clear HW0
  go_wp2_with fail
  refine bodyPost_ret (v := .agg #[.slice a1 a2 a3, .slice b1 b2 b3]) (by simp [results, Tryz.results23, go_sem, q0, q1]) rfl ?_
  exact FN.out
set_option maxHeartbeats 8000000 in
set_option maxRecDepth 1000000 in
theorem asRoot_same (T : Nat → Prop) (d : Nat) (n : Nd Em) (v1 v2 : Value) (w : World) (hn : ndIn T w d n v1 v2) (hw : n.wf d 0 17) (h16 : n.es.length ≤ 16) (h0 : n.es.length = 0 → d = 0) :
    Calls Tryz.prog 23 #[.agg #[v1, v2]] w fun en w' => RtQ T w n.rootN en w' := by
  obtain ⟨p1, c1, p2, c2, rfl, rfl⟩ := hn.slices
  have hK1 : n.es.length = 0 → n.ks.length = 0 := fun h => by
    have := h0 h
    subst this
    rcases n with ⟨es, ks⟩
    have : ks = [] := hw.1
    subst this
    rfl
  obtain ⟨N, hN⟩ : ∃ N, N = n.es.length := ⟨_, rfl⟩
  obtain ⟨K, hK⟩ : ∃ K, K = n.ks.length := ⟨_, rfl⟩
  rw [← hN, ← hK] at hn hK1
  rw [← hN] at h16
  rw [← hN, ← hK]
  obtain ⟨w0, hw0⟩ : ∃ w0, w0 = (w.alloc (.cells #[.slice p1 N c1, .slice p2 K c2] 60)).alloc (.cells #[.slice none 0 0, .slice none 0 0] 60) := ⟨_, rfl⟩
  obtain ⟨d0, d1, bb, bs⟩ := bx2 w (.cells #[.slice p1 N c1, .slice p2 K c2] 60) (.cells #[.slice none 0 0, .slice none 0 0] 60)
  rw [← hw0] at d0 d1 bb bs
  have FN : Hid (RtQ T w n.rootN (.returned (.agg #[.slice p1 N c1, .slice p2 K c2])) ((w0.setCell ⟨w.heap.size + 1, 0, none⟩ (.slice p1 N c1)).setCell ⟨w.heap.size + 1, 1, none⟩ (.slice p2 K c2))) := by
    obtain ⟨r1, r2⟩ := root_same hw (by omega) h0
    refine ⟨d, ?_, r2⟩
    rw [r1]
    exact NdQ.ret (by omega) ((hn.off (by omega)).below bb) bb
  have q0 : w0.cell? ⟨w.heap.size + 1, 0, none⟩ = some (.slice none 0 0) := (cell_of_block d1 0).trans rfl
  have q1 : w0.cell? ⟨w.heap.size + 1, 1, none⟩ = some (.slice none 0 0) := (cell_of_block d1 1).trans rfl
  have t0 : w0.cell? ⟨w.heap.size, 0, none⟩ = some (.slice p1 N c1) := (cell_of_block d0 0).trans rfl
  have t1 : w0.cell? ⟨w.heap.size, 1, none⟩ = some (.slice p2 K c2) := (cell_of_block d0 1).trans rfl
  have y0 := unfrozen_of_block d1 0
  have y1 := unfrozen_of_block d1 1
  have n16 : ¬ ((N : Int) > 16) := by omega
  have HW0 := mkHid hw0
  by_cases hz : N = 0
  · have hkz := hK1 hz
    subst hz hkz
    clear hn hw h16 h0 hN hK d0 d1 bb bs hw0 hK1
    go_enter Tryz.func23, Tryz.ntmps23
    go_upto_region 1 with fail
    rw [← HW0.out]
    clear HW0
    go_wp2_with fail
    refine bodyPost_ret (v := .agg #[.slice p1 0 c1, .slice p2 0 c2]) (by simp [results, Tryz.results23, go_sem, q0, q1]) rfl ?_
    exact FN.out
  · have nz : ((N : Int) == 0) = false := by rw [beq_eq_false_iff_ne]; omega
    clear hn hw h16 h0 hN hK d0 d1 bb bs hw0 hK1
    go_enter Tryz.func23, Tryz.ntmps23
    go_upto_region 1 with fail
    rw [← HW0.out]
    clear HW0
    go_wp2_with fail
    refine bodyPost_ret (v := .agg #[.slice p1 N c1, .slice p2 K c2]) (by simp [results, Tryz.results23, go_sem, q0, q1]) rfl ?_
    exact FN.out
/-- a node as the one above all others -/
theorem asRoot_any (T : Nat → Prop) (d : Nat) (n : Nd Em) (v1 v2 : Value) (w : World) (hT : ∀ b, w.heap.size ≤ b → T b) (hn : ndIn T w d n v1 v2) (hw : n.wf d 0 17) :
    Calls Tryz.prog 23 #[.agg #[v1, v2]] w fun en w' => RtQ T w n.rootN en w' := by
  by_cases h16 : 16 < n.es.length
  · exact asRoot_big T d n v1 v2 w hT hn hw h16
  · by_cases h0 : n.es.length = 0
    · cases d with
      | zero => exact asRoot_same T 0 n v1 v2 w hn hw (by omega) (fun _ => rfl)
      | succ d =>
        have hkl := wf_klen hw
        exact asRoot_low T d n _ v1 v2 w hn hw h0 (List.getElem?_eq_getElem (by omega))
    · exact asRoot_same T d n v1 v2 w hn hw (by omega) (fun e => absurd e h0)
end Go.Proofs.YtclcajnodoifjaaGreatDoor

namespace Go.Proofs.YtclcajnodoifjaaGreatDoor
open Go.RowKit Go.Shelf Go.Joins Go.Maps
set_option maxRecDepth 100000

/-- an entry that is looked for -/
def tgt (x : En) : Em := ⟨x, 0, 0⟩
/-- whether the entry in its place is the one that is looked for -/
def hereB (x : En) (es : List Em) : Bool := match es[place ltM (tgt x) es]? with | some y => !(ltE x y.e) | none => false
theorem ord_of {a b : En} (h : ltE a b = false) : (ltE b a = false ↔ ordE a b = 0) := by
  have t := od_ordE.turn a b
  rw [ltE_not] at h ⊢
  omega
/-- halving: all ahead of i are ahead, none from j on is -/
structure BsI (x : En) (es : List Em) (i j : Nat) : Prop where
  le : i ≤ j
  hi : j ≤ es.length
  lo : ∀ k y, k < i → es[k]? = some y → ltM y (tgt x) = true
  up : ∀ k y, j ≤ k → es[k]? = some y → ltM y (tgt x) = false
theorem BsI.start (x : En) (es : List Em) : BsI x es 0 es.length := ⟨Nat.zero_le _, Nat.le_refl _, fun k y h => by omega, fun k y h hy => by have := (List.getElem?_eq_some_iff.1 hy).1; omega⟩
theorem BsI.left {x : En} {es : List Em} {i j m : Nat} {y : Em} (h : BsI x es i j) (hr : Rise ltM es) (hm : m < j) (hy : es[m]? = some y) (hl : ltE y.e x = true) : BsI x es (m + 1) j := by
  refine ⟨hm, h.hi, fun k z hk hz => ?_, h.up⟩
  exact ahead_all ord3M hr hy (e := tgt x) hl (by omega) hz
theorem BsI.right {x : En} {es : List Em} {i j m : Nat} {y : Em} (h : BsI x es i j) (hr : Rise ltM es) (h1 : i ≤ m) (hm : m < j) (hy : es[m]? = some y) (hl : ltE y.e x = false) : BsI x es i m := by
  refine ⟨h1, by have := h.hi; omega, h.lo, fun k z hk hz => ?_⟩
  cases hc : ltM z (tgt x) with
  | false => rfl
  | true =>
    have := ahead_all ord3M hr hz (e := tgt x) hc hk hy
    exact absurd (hl.symm.trans this) (by simp)
theorem BsI.done {x : En} {es : List Em} {i : Nat} (h : BsI x es i i) : place ltM (tgt x) es = i := place_is h.hi h.lo (fun y hy => h.up i y (Nat.le_refl _) hy)
set_option maxHeartbeats 8000000 in
set_option maxRecDepth 1000000 in
theorem bsf_any (T : Nat → Prop) (es : List Em) (v : Value) (x : En) (px : Option Addr) (cx : Nat) (w : World) (h : entIn T w es v) (hx : EnAt w px x) (hr : Rise ltM es) (hl : es.length ≤ 1000) :
    Calls Tryz.prog 50 #[v, enV px cx x, .func (.func 51) #[] #[]] w fun en w' => en = .returned (.tuple #[.int .i64 (place ltM (tgt x) es : Int), .bool (hereB x es)]) ∧ Below w.heap.size w w' := by
  have eg : ∀ args w, (callFunc 51 args).run Tryz.prog w = .ok (.enter 51 args) w := enters_of Tryz.func51 (by kernel_rfl) rfl
  obtain ⟨⟨p, N, c, xs⟩, e1, e2, e3, e4, e5⟩ := h.pc
  simp only [Pc.v] at e1 e2 e3 e5
  subst e1
  obtain ⟨w0, hw0⟩ : ∃ w0, w0 = w.alloc (.cells #[.slice px x.key.length cx, .int .u64 x.id] 65) := ⟨_, rfl⟩
  have bb : Below w.heap.size w w0 := by rw [hw0]; exact (Below.refl _ w).alloc (Nat.le_refl _) _
  have bx : w0.heap[w.heap.size]? = some (.cells #[.slice px x.key.length cx, .int .u64 x.id] 65 (0, 0)) := by rw [hw0]; exact heap_alloc_new _ _
  -- a comparison at a place
  have CO : Hid (∀ (k : Nat) (y : Em) W, es[k]? = some y → Below w0.heap.size w0 W → ∃ gx ox, p = some ⟨gx, ox, none⟩ ∧ W.cell? ⟨gx, ox + k * 2, none⟩ = some (.slice (some ⟨y.g, 0, none⟩) y.e.key.length y.c) ∧ W.cell? ⟨gx, ox + k * 2 + 1, none⟩ = some (.int .u64 y.e.id) ∧ gx < w0.heap.size ∧ Calls Tryz.prog 51 #[.agg #[.slice (some ⟨y.g, 0, none⟩) y.e.key.length y.c, .int .u64 y.e.id], .agg #[.slice px x.key.length cx, .int .u64 x.id]] W fun en w' => en = .returned (.int .i64 (ordE y.e x)) ∧ Below W.heap.size W w') := fun k y W hk hW => by
    have hi := (List.getElem?_eq_some_iff.1 hk).1
    obtain ⟨gx, ox, rfl⟩ := pc_some e4 (by omega)
    obtain ⟨u0, u1, u2, u3⟩ := ndIn.entry (d := 0) (n := .mk es []) (v2 := .slice none 0 0) ⟨h, rfl, rfl⟩ hk
    have bW : Below w.heap.size w W := bb.trans (hW.mono bb.size)
    exact ⟨gx, ox, rfl, (bW.cell (p := ⟨gx, ox + k * 2, none⟩) u3).trans u0, (bW.cell (p := ⟨gx, ox + k * 2 + 1, none⟩) u3).trans u1, Nat.lt_of_lt_of_le u3 bb.size, order_any _ _ y.c cx y.e x W (by have := u2.few; omega) (u2.at_.below bW) (hx.below bW)⟩
  have BX : Hid (∀ W, Below w0.heap.size w0 W → W.cell? ⟨w.heap.size, 0, none⟩ = some (.slice px x.key.length cx) ∧ W.cell? ⟨w.heap.size, 1, none⟩ = some (.int .u64 x.id)) := fun W hW => by
    have hb := (hW.block _ (lt_of_heap bx)).trans bx
    exact ⟨(cell_of_block hb 0).trans rfl, (cell_of_block hb 1).trans rfl⟩
  have BB := mkHid bb
  have HW0 := mkHid hw0
  have HR := mkHid hr
  have HN := mkHid e2
  have LB := mkHid (lt_of_heap bx)
  obtain ⟨PL, hPL⟩ : ∃ PL, PL = place ltM (tgt x) es := ⟨_, rfl⟩
  obtain ⟨HE, hHE⟩ : ∃ HE, HE = hereB x es := ⟨_, rfl⟩
  rw [← hPL, ← hHE]
  have HPL := mkHid hPL
  have HHE := mkHid hHE
  have hN : N ≤ 1000 := by omega
  have I0 : Hid (BsI x es 0 N) := by rw [e2]; exact BsI.start x es
  unfold enV
  clear h hx hr hl e2 e3 e4 e5 bb bx hw0 hPL hHE
  generalize x.key.length = lx at *
  generalize x.id = ix at *
  go_enter Tryz.func50, Tryz.ntmps50
  go_wp2_with fail
  rw [← HW0.out]
  clear HW0
  go_loopw [9, 10] (fun s9 s10 wr => ∃ i j : Nat, s9 = .int .i64 i ∧ s10 = .int .i64 j ∧ i ≤ j ∧ j ≤ N ∧ Hid (BsI x es i j) ∧ Hid (Below w0.heap.size w0 wr)) (fun s9 s10 _ => (intOf s10).toNat - (intOf s9).toNat)
  case atStart => exact ⟨0, N, rfl, rfl, Nat.zero_le _, Nat.le_refl _, I0, Below.refl _ _⟩
  case round =>
    obtain ⟨i, j, rfl, rfl, hij, hjN, hI, hb⟩ := hrel
    clear I0
    by_cases hlt : i < j
    · obtain ⟨m, hm⟩ : ∃ m, m = (i + j) / 2 := ⟨_, rfl⟩
      obtain ⟨y, hy⟩ : ∃ y, es[m]? = some y := ⟨_, List.getElem?_eq_getElem (by have := HN.out; omega)⟩
      obtain ⟨gx, ox, rfl, c0, c1, hg, cm⟩ := CO.out m y wr hy hb.out
      obtain ⟨b0, b1⟩ := BX.out wr hb.out
      have CM : Hid (∀ W, Below w0.heap.size w0 W → Calls Tryz.prog 51 #[.agg #[.slice (some ⟨y.g, 0, none⟩) y.e.key.length y.c, .int .u64 y.e.id], .agg #[.slice px lx cx, .int .u64 ix]] W fun en w' => en = .returned (.int .i64 (ordE y.e x)) ∧ Below W.heap.size W w') := fun W hW => by
        obtain ⟨_, _, _, _, _, _, cm⟩ := CO.out m y W hy hW
        exact cm
      have lb : w.heap.size < wr.heap.size := Nat.lt_of_lt_of_le LB.out hb.out.size
      have lg : gx < wr.heap.size := Nat.lt_of_lt_of_le hg hb.out.size
      have HY := mkHid hy
      have HM := mkHid hm
      have m1 : m < N := by omega
      have m2 : (m : Int) < (N : Int) := by omega
      have m3 : (0 : Int) ≤ (m : Int) := by omega
      clear hy hm cm hg CO BX
      go_wp2_with fail
      rw [show ((i : Int) + (j : Int)) / 2 = (m : Int) by have := HM.out; omega]
      obtain ⟨R, hR⟩ : ∃ R, R = ordE y.e x := ⟨_, rfl⟩
      rw [← hR] at CM
      have KB2 : ∀ w2, Below wr.drew.heap.size wr.drew w2 → Hid (Below w0.heap.size w0 w2) := fun w2 h2 => hb.out.drew.trans (h2.mono hb.out.size)
      by_cases hl : R < 0
      · have NX : Hid (BsI x es (m + 1) j) := hI.out.left HR.out (by have := HM.out; omega) HY.out (by rw [ltE_iff, ← hR]; exact hl)
        have hmj : m + 1 ≤ j := by have := HM.out; omega
        have him : i ≤ m := by have := HM.out; omega
        clear hR hI HY HM HR HPL HHE
        go_region_held3 (fun w' => w'.cell? ⟨gx, ox + m * 2, none⟩ = some (.slice (some ⟨y.g, 0, none⟩) y.e.key.length y.c) ∧ w'.cell? ⟨gx, ox + m * 2 + 1, none⟩ = some (.int .u64 y.e.id) ∧ w'.cell? ⟨w.heap.size, 0, none⟩ = some (.slice px lx cx) ∧ w'.cell? ⟨w.heap.size, 1, none⟩ = some (.int .u64 ix)) (first | go_keep | exact ⟨(hb2.cell (p := ⟨gx, ox + m * 2, none⟩) lg).trans c0, (hb2.cell (p := ⟨gx, ox + m * 2 + 1, none⟩) lg).trans c1, (hb2.cell (p := ⟨w.heap.size, 0, none⟩) lb).trans b0, (hb2.cell (p := ⟨w.heap.size, 1, none⟩) lb).trans b1⟩) ((go_at_fn 51; refine (CM.out _ (by exact hb.out.drew)).mono ?_; rintro e w2 ⟨rfl, hb2⟩))
        go_wp2_with fail
        go_roundw
        case rel => exact ⟨m + 1, j, by go_num, rfl, hmj, hjN, NX, KB2 _ hb2⟩
        case measure => simp [intOf]; omega
      · have NX : Hid (BsI x es i m) := hI.out.right HR.out (by have := HM.out; omega) (by have := HM.out; omega) HY.out (by rw [ltE_not, ← hR]; omega)
        have hmj : m < j := by have := HM.out; omega
        have him : i ≤ m := by have := HM.out; omega
        clear hR hI HY HM HR HPL HHE
        go_region_held3 (fun w' => w'.cell? ⟨gx, ox + m * 2, none⟩ = some (.slice (some ⟨y.g, 0, none⟩) y.e.key.length y.c) ∧ w'.cell? ⟨gx, ox + m * 2 + 1, none⟩ = some (.int .u64 y.e.id) ∧ w'.cell? ⟨w.heap.size, 0, none⟩ = some (.slice px lx cx) ∧ w'.cell? ⟨w.heap.size, 1, none⟩ = some (.int .u64 ix)) (first | go_keep | exact ⟨(hb2.cell (p := ⟨gx, ox + m * 2, none⟩) lg).trans c0, (hb2.cell (p := ⟨gx, ox + m * 2 + 1, none⟩) lg).trans c1, (hb2.cell (p := ⟨w.heap.size, 0, none⟩) lb).trans b0, (hb2.cell (p := ⟨w.heap.size, 1, none⟩) lb).trans b1⟩) ((go_at_fn 51; refine (CM.out _ (by exact hb.out.drew)).mono ?_; rintro e w2 ⟨rfl, hb2⟩))
        go_wp2_with fail
        go_roundw
        case rel => exact ⟨i, m, rfl, rfl, him, by omega, NX, KB2 _ hb2⟩
        case measure => simp [intOf]; omega
    · obtain rfl : i = j := by omega
      have hpl : PL = i := by rw [HPL.out]; exact hI.out.done
      subst hpl
      by_cases hiN : PL < N
      · obtain ⟨y, hy⟩ : ∃ y, es[PL]? = some y := ⟨_, List.getElem?_eq_getElem (by have := HN.out; omega)⟩
        obtain ⟨gx, ox, rfl, c0, c1, hg, cm⟩ := CO.out PL y wr hy hb.out
        obtain ⟨b0, b1⟩ := BX.out wr hb.out
        have CM : Hid (∀ W, Below w0.heap.size w0 W → Calls Tryz.prog 51 #[.agg #[.slice (some ⟨y.g, 0, none⟩) y.e.key.length y.c, .int .u64 y.e.id], .agg #[.slice px lx cx, .int .u64 ix]] W fun en w' => en = .returned (.int .i64 (ordE y.e x)) ∧ Below W.heap.size W w') := fun W hW => by
          obtain ⟨_, _, _, _, _, _, cm⟩ := CO.out PL y W hy hW
          exact cm
        have lb : w.heap.size < wr.heap.size := Nat.lt_of_lt_of_le LB.out hb.out.size
        have lg : gx < wr.heap.size := Nat.lt_of_lt_of_le hg hb.out.size
        have he : HE = decide (ordE y.e x = 0) := by
          rw [HHE.out]
          unfold hereB
          rw [← HPL.out, hy]
          have hyl : ltE y.e x = false := hI.out.up PL y (Nat.le_refl _) hy
          have := ord_of hyl
          show (!(ltE x y.e)) = _
          cases hq : ltE x y.e with
          | false => rw [eq_comm, Bool.not_false, decide_eq_true_eq]; exact this.1 hq
          | true =>
            rw [eq_comm, Bool.not_true, decide_eq_false_iff_not]
            exact fun h => by have := this.2 h; rw [hq] at this; cases this
        obtain ⟨R, hR⟩ : ∃ R, R = ordE y.e x := ⟨_, rfl⟩
        rw [← hR] at CM he
        subst he
        have KB2 : ∀ w2, Below wr.drew.heap.size wr.drew w2 → Below w.heap.size w w2 := fun w2 h2 => BB.out.trans ((hb.out.drew.trans (h2.mono hb.out.size)).mono BB.out.size)
        have i1 : (PL : Int) < (N : Int) := by omega
        have hd : decide ((PL : Int) < (N : Int)) = true := by simp; omega
        clear hR hI HR HPL HHE hy cm hg CO BX HN
        have KS : Hid (∀ w', Below wr.heap.size wr w' → w'.cell? ⟨gx, ox + PL * 2, none⟩ = some (.slice (some ⟨y.g, 0, none⟩) y.e.key.length y.c) ∧ w'.cell? ⟨gx, ox + PL * 2 + 1, none⟩ = some (.int .u64 y.e.id) ∧ w'.cell? ⟨w.heap.size, 0, none⟩ = some (.slice px lx cx) ∧ w'.cell? ⟨w.heap.size, 1, none⟩ = some (.int .u64 ix)) := fun w' hb2 => ⟨(hb2.cell (p := ⟨gx, ox + PL * 2, none⟩) lg).trans c0, (hb2.cell (p := ⟨gx, ox + PL * 2 + 1, none⟩) lg).trans c1, (hb2.cell (p := ⟨w.heap.size, 0, none⟩) lb).trans b0, (hb2.cell (p := ⟨w.heap.size, 1, none⟩) lb).trans b1⟩
        have i2 : (0 : Int) ≤ (PL : Int) := by omega
        have hRz : (R == 0) = decide (R = 0) := by by_cases hz : R = 0 <;> simp [hz]
        go_wp2_with fail
        refine wp_region_noPanic ?_
        refine wp_region_held_drew (S := fun w' : World => w'.cell? ⟨gx, ox + PL * 2, none⟩ = some (.slice (some ⟨y.g, 0, none⟩) y.e.key.length y.c) ∧ w'.cell? ⟨gx, ox + PL * 2 + 1, none⟩ = some (.int .u64 y.e.id) ∧ w'.cell? ⟨w.heap.size, 0, none⟩ = some (.slice px lx cx) ∧ w'.cell? ⟨w.heap.size, 1, none⟩ = some (.int .u64 ix)) (by kernel_rfl) (KS.out _ (Below.refl _ _).drew) (fun hH => ?_)
        refine tKx (i := 0) (v := .int .i64 ((PL : Int))) rfl rfl (by kernel_rfl) (fun _ _ _ h => h) ?_ hH ?_
        · intro w5 hSw; obtain ⟨s0, s1, s2, s3⟩ := hSw; go_simp
        simp only [zA9, zB9, zC9]
        refine tKx (i := 1) (v := .int .i64 ((PL : Int))) rfl rfl (by kernel_rfl) (fun _ _ _ h => h) ?_ hH ?_
        · intro w5 hSw; obtain ⟨s0, s1, s2, s3⟩ := hSw; go_simp
        simp only [zA9, zB9, zC9]
        refine tKx (i := 2) (v := .int .i64 ((N : Int))) rfl rfl (by kernel_rfl) (fun _ _ _ h => h) ?_ hH ?_
        · intro w5 hSw; obtain ⟨s0, s1, s2, s3⟩ := hSw; go_simp
        simp only [zA9, zB9, zC9]
        refine tKx (i := 3) (v := .bool true) rfl rfl (by kernel_rfl) (fun _ _ _ h => h) ?_ hH ?_
        · intro w5 hSw; obtain ⟨s0, s1, s2, s3⟩ := hSw; go_simp
        simp only [zA9, zB9, zC9]
        refine tKx (i := 4) (v := .bool true) rfl rfl (by kernel_rfl) (fun _ _ _ h => h) ?_ hH ?_
        · intro w5 hSw; obtain ⟨s0, s1, s2, s3⟩ := hSw; go_simp
        simp only [zA9, zB9, zC9]
        refine tKx (i := 5) (v := .func (.func 51) #[] #[]) rfl rfl (by kernel_rfl) (fun _ _ _ h => h) ?_ hH ?_
        · intro w5 hSw; obtain ⟨s0, s1, s2, s3⟩ := hSw; go_simp
        simp only [zA9, zB9, zC9]
        refine tKx (i := 6) (v := .slice (some ⟨gx, ox, none⟩) N c) rfl rfl (by kernel_rfl) (fun _ _ _ h => h) ?_ hH ?_
        · intro w5 hSw; obtain ⟨s0, s1, s2, s3⟩ := hSw; go_simp
        simp only [zA9, zB9, zC9]
        refine tKx (i := 7) (v := .int .i64 ((PL : Int))) rfl rfl (by kernel_rfl) (fun _ _ _ h => h) ?_ hH ?_
        · intro w5 hSw; obtain ⟨s0, s1, s2, s3⟩ := hSw; go_simp
        simp only [zA9, zB9, zC9]
        refine tKx (i := 8) (v := .pointer (some ⟨gx, ox + PL * 2, none⟩)) rfl rfl (by kernel_rfl) (fun _ _ _ h => h) ?_ hH ?_
        · intro w5 hSw; obtain ⟨s0, s1, s2, s3⟩ := hSw; go_simp
        simp only [zA9, zB9, zC9]
        refine tKx (i := 9) (v := .agg #[.slice (some ⟨y.g, 0, none⟩) y.e.key.length y.c, .int .u64 y.e.id]) rfl rfl (by kernel_rfl) (fun _ _ _ h => h) ?_ hH ?_
        · intro w5 hSw; obtain ⟨s0, s1, s2, s3⟩ := hSw; go_simp
        simp only [zA9, zB9, zC9]
        refine tKx (i := 10) (v := .agg #[.slice px lx cx, .int .u64 ix]) rfl rfl (by kernel_rfl) (fun _ _ _ h => h) ?_ hH ?_
        · intro w5 hSw; obtain ⟨s0, s1, s2, s3⟩ := hSw; go_simp
        simp only [zA9, zB9, zC9]
        have KB := mkHid ((Below.refl wr.heap.size wr).drew)
        generalize hW0 : wr.drew = W0 at KB hH ⊢
        refine wpAnyH_ready (rs := [11]) (by kernel_rfl) (by simp) ?_
        refine AllReadyH.cons rfl (fun K hK => ?_) AllReadyH.nil
        go_simp
        go_at_fn 51
        refine (CM.out _ (hb.out.trans (KB.out.mono hb.out.size))).mono ?_
        rintro e V1 ⟨rfl, hb2⟩
        go_wp2_with fail
        refine hK.out _ _ (KS.out _ (KB.out.trans (hb2.mono KB.out.size))) (fun hH => ?_)
        clear hK K
        replace KB := mkHid (KB.out.trans (hb2.mono KB.out.size))
        clear hb2
        refine tKx (i := 12) (v := .bool (decide (R = 0))) rfl rfl (by kernel_rfl) (fun _ _ _ h => h) ?_ hH ?_
        · intro w5 hSw; obtain ⟨s0, s1, s2, s3⟩ := hSw; go_simp
        simp only [zA9, zB9, zC9]
        refine tKx (i := 13) (v := .bool (decide (R = 0))) rfl rfl (by kernel_rfl) (fun _ _ _ h => h) ?_ hH ?_
        · intro w5 hSw; obtain ⟨s0, s1, s2, s3⟩ := hSw; go_simp
        simp only [zA9, zB9, zC9]
        refine wpAnyH_ready (rs := [14]) (by kernel_rfl) (by simp) ?_
        refine AllReadyH.cons rfl (fun K hK => ?_) AllReadyH.nil
        · go_simp
          refine hK.out _ _ (KS.out _ KB.out) (fun hH => ?_)
          clear hK K
          refine wpAnyH_ready (rs := [15]) (by kernel_rfl) (by simp) ?_
          refine AllReadyH.cons rfl (fun K hK => ?_) AllReadyH.nil
          · go_simp
            refine hK.out _ _ (KS.out _ KB.out) (fun hH => ?_)
            clear hK K
            refine wpAnyH_done (by kernel_rfl) ?_ _
            refine NoPanic.normal ?_
            have FN := BB.out.trans ((hb.out.trans (KB.out.mono hb.out.size)).mono BB.out.size)
            clear KB KS hH
            go_wp2_with fail
            refine bodyPost_ret (v := .tuple #[.int .i64 (PL : Int), .bool (decide (R = 0))]) (by simp [results, Tryz.results50, go_sem]) rfl ?_
            exact ⟨rfl, FN⟩
      · have he : HE = false := by
          rw [HHE.out]
          unfold hereB
          rw [← HPL.out, List.getElem?_eq_none (by have := HN.out; omega)]
        subst he
        have i1 : ¬ (PL : Int) < (N : Int) := by omega
        clear hI HR HPL HHE CO BX HN
        go_wp2_with fail
        refine wp_region_noPanic ?_
        refine wp_region_held_drew (S := fun w' : World => True) (by kernel_rfl) trivial (fun hH => ?_)
        refine tKx (i := 0) (v := .int .i64 ((PL : Int))) rfl rfl (by kernel_rfl) (fun _ _ _ h => h) ?_ hH ?_
        · intro w5 hSw; go_simp
        simp only [zA9, zB9, zC9]
        refine tKx (i := 1) (v := .int .i64 ((PL : Int))) rfl rfl (by kernel_rfl) (fun _ _ _ h => h) ?_ hH ?_
        · intro w5 hSw; go_simp
        simp only [zA9, zB9, zC9]
        refine tKx (i := 2) (v := .int .i64 ((N : Int))) rfl rfl (by kernel_rfl) (fun _ _ _ h => h) ?_ hH ?_
        · intro w5 hSw; go_simp
        simp only [zA9, zB9, zC9]
        refine tKx (i := 3) (v := .bool false) rfl rfl (by kernel_rfl) (fun _ _ _ h => h) ?_ hH ?_
        · intro w5 hSw; go_simp
        simp only [zA9, zB9, zC9]
        refine tKx (i := 4) (v := .bool false) rfl rfl (by kernel_rfl) (fun _ _ _ h => h) ?_ hH ?_
        · intro w5 hSw; go_simp
        simp only [zA9, zB9, zC9]
        refine take_at (i := 5) (v := undef) rfl rfl (by kernel_rfl) (by kernel_rfl) (by kernel_rfl) (fun _ _ _ h => h) (Or.inr ⟨by rfl, rfl⟩) hH ?_
        simp only [zA9, zB9, zC9]
        refine take_at (i := 6) (v := undef) rfl rfl (by kernel_rfl) (by kernel_rfl) (by kernel_rfl) (fun _ _ _ h => h) (Or.inr ⟨by rfl, rfl⟩) hH ?_
        simp only [zA9, zB9, zC9]
        refine take_at (i := 7) (v := undef) rfl rfl (by kernel_rfl) (by kernel_rfl) (by kernel_rfl) (fun _ _ _ h => h) (Or.inr ⟨by rfl, rfl⟩) hH ?_
        simp only [zA9, zB9, zC9]
        refine take_at (i := 8) (v := undef) rfl rfl (by kernel_rfl) (by kernel_rfl) (by kernel_rfl) (fun _ _ _ h => h) (Or.inr ⟨by rfl, rfl⟩) hH ?_
        simp only [zA9, zB9, zC9]
        refine take_at (i := 9) (v := undef) rfl rfl (by kernel_rfl) (by kernel_rfl) (by kernel_rfl) (fun _ _ _ h => h) (Or.inr ⟨by rfl, rfl⟩) hH ?_
        simp only [zA9, zB9, zC9]
        refine take_at (i := 10) (v := undef) rfl rfl (by kernel_rfl) (by kernel_rfl) (by kernel_rfl) (fun _ _ _ h => h) (Or.inr ⟨by rfl, rfl⟩) hH ?_
        simp only [zA9, zB9, zC9]
        refine take_at (i := 11) (v := undef) rfl rfl (by kernel_rfl) (by kernel_rfl) (by kernel_rfl) (fun _ _ _ h => h) (Or.inr ⟨by rfl, rfl⟩) hH ?_
        simp only [zA9, zB9, zC9]
        refine take_at (i := 12) (v := undef) rfl rfl (by kernel_rfl) (by kernel_rfl) (by kernel_rfl) (fun _ _ _ h => h) (Or.inr ⟨by rfl, rfl⟩) hH ?_
        simp only [zA9, zB9, zC9]
        refine tKx (i := 13) (v := .bool false) rfl rfl (by kernel_rfl) (fun _ _ _ h => h) ?_ hH ?_
        · intro w5 hSw; go_simp
        simp only [zA9, zB9, zC9]
        have KB := mkHid ((Below.refl wr.heap.size wr).drew)
        generalize hW0 : wr.drew = W0 at KB hH ⊢
        refine wpAnyH_ready (rs := [14]) (by kernel_rfl) (by simp) ?_
        refine AllReadyH.cons rfl (fun K hK => ?_) AllReadyH.nil
        · go_simp
          refine hK.out _ _ trivial (fun hH => ?_)
          clear hK K
          refine wpAnyH_ready (rs := [15]) (by kernel_rfl) (by simp) ?_
          refine AllReadyH.cons rfl (fun K hK => ?_) AllReadyH.nil
          · go_simp
            refine hK.out _ _ trivial (fun hH => ?_)
            clear hK K
            refine wpAnyH_done (by kernel_rfl) ?_ _
            refine NoPanic.normal ?_
            have FN := BB.out.trans ((hb.out.trans (KB.out.mono hb.out.size)).mono BB.out.size)
            clear KB hH
            go_wp2_with fail
            refine bodyPost_ret (v := .tuple #[.int .i64 (PL : Int), .bool false]) (by simp [results, Tryz.results50, go_sem]) rfl ?_
            exact ⟨rfl, FN⟩
end Go.Proofs.YtclcajnodoifjaaGreatDoor

