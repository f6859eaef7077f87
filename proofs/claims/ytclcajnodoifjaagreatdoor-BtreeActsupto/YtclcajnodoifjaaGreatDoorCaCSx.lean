/-
 The walk of drop whole.
-/
import Derived.Test.YtclcajnodoifjaaGreatDoorCaBSx
import Derived.Test.YtclcajnodoifjaaGreatDoorIAK
namespace Go.Proofs.YtclcajnodoifjaaGreatDoor
open Go.RowKit Go.Shelf Go.Joins Go.Maps
set_option maxRecDepth 100000

set_option maxHeartbeats 8000000 in
set_option maxRecDepth 1000000 in
theorem drop_here_off (T : Nat → Prop) (d : Nat) (n k k' : Nd Em) (m up : Em) (px : Option Addr) (cx lo hi : Nat) (v1 v2 : Value) (w : World) (hT : ∀ b, w.heap.size ≤ b → T b) (hn : ndIn T w (d + 1) n v1 v2) (hm : EnOff w px m.e) (hw : n.wf (d + 1) lo hi) (z0 : 1 ≤ n.es.length) (z1 : n.es.length ≤ 40) (hri : Rise ltM n.es) (hk : n.ks[place ltM m n.es]? = some k) (hla : k.lastN d = some up) (hwk : k'.wf d 7 16) (hpl : place ltM m n.es < n.es.length) (hno : hereB m.e n.es = true)
  (IH : ∀ (T : Nat → Prop) (w : World) (h1 h2 : Value), (∀ b, w.heap.size ≤ b → T b) → ndIn T w d k h1 h2 → KeyOk T w up → Calls Tryz.prog 27 #[.agg #[h1, h2], emV up] w fun en w' => NdQ T w d k' en w') :
  Calls Tryz.prog 27 #[.agg #[v1, v2], enV px cx m.e] w fun en w' => NdQ T w (d + 1) ((n.setE (place ltM m n.es) up).lessK (place ltM m n.es) k') en w' := by
 have zk := wf_klen hw
 obtain ⟨gx, ox, c, rfl, hc⟩ := hn.some.1 (by omega)
 obtain ⟨gy, oy, e, rfl, he⟩ := hn.some.2 (by omega)
 obtain ⟨a1, a2, a3, b1, b2, b3, q1, q2, q3, q4⟩ := hn.kid hk
 obtain ⟨N, hN⟩ : ∃ N, N = n.es.length := ⟨_, rfl⟩
 obtain ⟨K, hK⟩ : ∃ K, K = n.ks.length := ⟨_, rfl⟩
 rw [← hN, ← hK] at hn ⊢
 obtain ⟨lx, hlx⟩ : ∃ lx, lx = m.e.key.length := ⟨_, rfl⟩
 obtain ⟨ix, hix⟩ : ∃ ix, ix = m.e.id := ⟨_, rfl⟩
 unfold enV
 rw [← hlx, ← hix]
 obtain ⟨w0, hw0⟩ : ∃ w0, w0 = ((w.alloc (.cells #[.slice (some ⟨gx, ox, none⟩) N c, .slice (some ⟨gy, oy, none⟩) K e] 60)).alloc (.cells #[.slice px lx cx, .int .u64 ix] 65)).alloc (.cells #[.slice none 0 0, .slice none 0 0] 60) := ⟨_, rfl⟩
 obtain ⟨d0, d1, d2, bb, bs⟩ := bx3 w (.cells #[.slice (some ⟨gx, ox, none⟩) N c, .slice (some ⟨gy, oy, none⟩) K e] 60) (.cells #[.slice px lx cx, .int .u64 ix] 65) (.cells #[.slice none 0 0, .slice none 0 0] 60)
 rw [← hw0] at d0 d1 d2 bb bs
 obtain ⟨A, hA⟩ : ∃ A, A = place ltM m n.es := ⟨_, rfl⟩
 have hAl : A ≤ n.es.length := by rw [hA]; exact place_le _ _ _
 obtain ⟨HE, hHE⟩ : ∃ HE, HE = hereB m.e n.es := ⟨_, rfl⟩
 have BSF : Hid (Calls Tryz.prog 50 #[.slice (some ⟨gx, ox, none⟩) N c, .agg #[.slice px lx cx, .int .u64 ix], .func (.func 51) #[] #[]] w0 fun en w' => en = .returned (.tuple #[.int .i64 (A : Int), .bool HE]) ∧ Below w0.heap.size w0 w') := by
  rw [hA, hHE, hlx, hix]
  exact bsf_off T n.es _ m.e _ cx w0 (hn.ent.keeps (Keeps.of_below bb)) (hm.below bb) hri (by omega)
 have BB := mkHid bb
 have BX := mkHid (And.intro d0 (And.intro d1 d2))
 have BSZ := mkHid bs
 rw [← hA] at q1 q2 hk hpl ⊢
 have hH0 : HE = true := hHE.trans hno
 subst hH0
 have Q := mkHid (And.intro q1 (And.intro q2 q4))
 have hkl := wf_len hwk
 have hkw := wf_kid hw hk
 -- the last entry of the kid ahead
 have LC : Hid (∀ W, Below w.heap.size w W → Calls Tryz.prog 57 #[.agg #[.slice a1 a2 a3, .slice b1 b2 b3]] W fun en w' => en = .returned (.agg #[.slice (some ⟨up.g, 0, none⟩) up.e.key.length up.c, .int .u64 up.e.id]) ∧ KeyOk (fun b => T b ∧ b < w.heap.size) w' up ∧ Below W.heap.size W w') := fun W hW => last_any (fun b => T b ∧ b < w.heap.size) d k up _ _ W ((q3.mono (fun b hb ht => ⟨ht, hb⟩)).below hW) hkw hla
 -- the entries' copy
 obtain ⟨⟨p', N', c', xs⟩, x1, x2, x3, x4, x5⟩ := hn.ent.pc
 simp only [Pc.v, Value.slice.injEq] at x1
 obtain ⟨rfl, rfl, rfl⟩ := x1
 simp only at x2 x3 x5
 subst x3
 have CC : Hid (∀ W, Below w.heap.size w W → Calls Tryz.prog 58 #[.slice (some ⟨gx, ox, none⟩) N c] W fun en w' => ∃ gc oc cc, en = .returned (.slice (some ⟨gc, oc, none⟩) N cc) ∧ Nw W w' 65 2 (.slice (some ⟨gc, oc, none⟩) N cc) N (fl emE n.es) ∧ Below W.heap.size W w') := fun W hW => (CloneEn ⟨some ⟨gx, ox, none⟩, N, c, fl emE n.es⟩ W (x4.below hW) (by simp only; omega) (by simp only; omega)).mono (fun en w' h => by
  obtain ⟨v, h1, h2, h3⟩ := h
  rcases h2.row.2 with ⟨_, h0⟩ | ⟨g, o, c, cur, e, _⟩
  ·simp only at h0; omega
  ·exact ⟨g, o, c, by rw [← e]; exact h1, by rw [← e]; exact h2, h3⟩)
 have PC : Hid (∀ W, Below w.heap.size w W → w0.heap.size ≤ W.heap.size → KeyOk (fun b => T b ∧ b ≠ (w.heap.size + 1 + 1)) W up → Calls Tryz.prog 27 #[.agg #[.slice a1 a2 a3, .slice b1 b2 b3], .agg #[.slice (some ⟨up.g, 0, none⟩) up.e.key.length up.c, .int .u64 up.e.id]] W fun en w' => NdS (fun b => T b ∧ b ≠ (w.heap.size + 1 + 1)) W d k' en w') := fun W hW hs hu => (IH (fun b => T b ∧ b ≠ (w.heap.size + 1 + 1)) W _ _ (fun b hb => ⟨hT b (by omega), by omega⟩) ((q3.off (by omega)).below hW) hu).mono (fun _ _ h => h.toS)
 have hsl : (n.setE A up).es.length = n.es.length := by show (n.es.set A up).length = _; rw [List.length_set]
 have WC : Hid (∀ W gc oc cc p1 n1 c1 p2 n2 c2, w0.heap.size ≤ W.heap.size → ndIn (fun b => T b ∧ b ≠ (w.heap.size + 1 + 1)) W (d + 1) (n.setE A up) (.slice (some ⟨gc, oc, none⟩) N cc) (.slice (some ⟨gy, oy, none⟩) K e) → ndIn (fun b => T b ∧ b ≠ (w.heap.size + 1 + 1)) W d k' (.slice p1 n1 c1) (.slice p2 n2 c2) → Calls Tryz.prog 56 #[.agg #[.slice (some ⟨gc, oc, none⟩) N cc, .slice (some ⟨gy, oy, none⟩) K e], .int .i64 (A : Int), .agg #[.slice p1 n1 c1, .slice p2 n2 c2]] W fun en w' => NdS (fun b => T b ∧ b ≠ (w.heap.size + 1 + 1)) W (d + 1) ((n.setE A up).lessK A k') en w') := fun W gc oc cc p1 n1 c1 p2 n2 c2 hs hj hk' =>
  (withLess_any (fun b => T b ∧ b ≠ (w.heap.size + 1 + 1)) d (n.setE A up) k' A _ _ _ _ _ _ _ _ W (fun b hb => ⟨hT b (by omega), by omega⟩) hj hk' (setE_wf hw) hwk (by omega) (by omega) (by omega) (by omega)).mono (fun _ _ h => h.toS)
 -- the node with the other entry, in memory
 have ND1 : Hid (∀ W W' gc oc cc, Below w.heap.size w W → Below w.heap.size w W' → w0.heap.size ≤ W.heap.size → KeyOk (fun b => T b ∧ b ≠ (w.heap.size + 1 + 1)) W' up → (∀ g, Value.ownBlock (.slice (some ⟨gc, oc, none⟩) N cc) = some g → W.heap.size ≤ g) → shr W' 65 2 (.slice (some ⟨gc, oc, none⟩) N cc) N (fl emE (n.es.set A up)) → ndIn (fun b => T b ∧ b ≠ (w.heap.size + 1 + 1)) W' (d + 1) (n.setE A up) (.slice (some ⟨gc, oc, none⟩) N cc) (.slice (some ⟨gy, oy, none⟩) K e)) := fun W W' gc oc cc hW hW' hs hu hg hr => by
  have hn' := (hn.off (M := (w.heap.size + 1 + 1)) (by omega)).below hW'
  obtain ⟨f1, hs', f2, f3, f4⟩ := hn'
  refine ⟨⟨⟨by rw [hsl, ← x2]; exact hr, fun g hg' => ⟨hT g (by have := hg g hg'; omega), by have := hg g hg'; omega⟩⟩, fun q hq => ?_⟩, hs', f2, f3, f4⟩
  rcases List.mem_or_eq_of_mem_set hq with h | rfl
  ·exact f1.2 q h
  ·exact hu
 have HM : Hid (w.heap.size ≤ (w.heap.size + 1 + 1)) := by show _ ≤ _; omega
 have EO : Hid (∀ W gc oc cc, shr W 65 2 (.slice (some ⟨gc, oc, none⟩) N cc) N (fl emE n.es) → ∃ o1 o2, W.cell? ⟨gc, oc + A * 2, none⟩ = some o1 ∧ W.cell? ⟨gc, oc + A * 2 + 1, none⟩ = some o2 ∧ W.frozen? ⟨gc, oc + A * 2, none⟩ = false ∧ W.frozen? ⟨gc, oc + A * 2 + 1, none⟩ = false ∧ gc < W.heap.size) := fun W gc oc cc hr => by
  rcases hr.2 with ⟨e, _⟩ | ⟨g', off, cap, cur, e, hg, h1, h2, h3, h4⟩
  ·cases e
  cases e
  have k0 := h4 _ _ ((fl_get emE_len n.es A n.es[A] 0 (List.getElem?_eq_getElem hpl) (by omega)).trans rfl)
  have k1 := h4 _ _ ((fl_get emE_len n.es A n.es[A] 1 (List.getElem?_eq_getElem hpl) (by omega)).trans rfl)
  exact ⟨_, _, (cell_of_block hg _).trans k0, (cell_of_block hg _).trans (by rw [Nat.add_assoc]; exact k1), unfrozen_of_block hg _, unfrozen_of_block hg _, lt_of_heap hg⟩
 have HPL := mkHid hpl
 have i1 : (0 : Int) ≤ (A : Int) := by omega
 have i2 : (A : Int) < (K : Int) := by omega
 have i3 : (A : Int) < (N : Int) := by omega
 have i5 : A ≤ 100 := by omega
 have i6 : ¬ K = 0 := by omega
 have i7 : ((K : Int) == 0) = false := by rw [beq_eq_false_iff_ne]; omega
 have HW0 := mkHid hw0
 clear hT hn z0 z1 hri hm hw hk hwk IH zk hc he q1 q2 q3 q4 hN hK d0 d1 d2 bb bs hw0 hA hAl hkl hlx hix hno hHE hla hpl hkw x2 x4 x5 hsl
 go_enter Tryz.func27, Tryz.ntmps27
 go_wp2_with fail
 rw [← HW0.out]
 clear HW0
 refine BSF.out.mono ?_
 rintro en w1 ⟨rfl, hb1⟩
 have BW : Hid (Below w.heap.size w w1) := BB.out.trans (hb1.mono BB.out.size)
 have Z1 := mkHid hb1.size
 have f0 : w1.cell? ⟨w.heap.size, 0, none⟩ = some (.slice (some ⟨gx, ox, none⟩) N c) := (cell_of_block ((hb1.block _ (lt_of_heap BX.out.1)).trans BX.out.1) 0).trans rfl
 have f1 : w1.cell? ⟨w.heap.size, 1, none⟩ = some (.slice (some ⟨gy, oy, none⟩) K e) := (cell_of_block ((hb1.block _ (lt_of_heap BX.out.1)).trans BX.out.1) 1).trans rfl
 have f2 : w1.cell? ⟨gy, oy + A * 2, none⟩ = some (.slice a1 a2 a3) := (BW.out.cell (p := ⟨gy, oy + A * 2, none⟩) Q.out.2.2).trans Q.out.1
 have f3 : w1.cell? ⟨gy, oy + A * 2 + 1, none⟩ = some (.slice b1 b2 b3) := (BW.out.cell (p := ⟨gy, oy + A * 2 + 1, none⟩) Q.out.2.2).trans Q.out.2.1
 have B1H := mkHid hb1
 clear hb1 BSF
 go_wp2_with fail
 refine (LC.out _ BW.out).mono ?_
 rintro en w2 ⟨rfl, hup, hb2⟩
 clear f0 f1 f2 f3
 -- the boxes of the first world stand in w2 with one block more
 obtain ⟨W3, hW3⟩ : ∃ W3, W3 = w2.alloc (.cells #[.slice (some ⟨up.g, 0, none⟩) up.e.key.length up.c, .int .u64 up.e.id] 65) := ⟨_, rfl⟩
 have hb3 : Below w2.heap.size w2 W3 := by rw [hW3]; exact (Below.refl _ _).alloc (Nat.le_refl _) _
 have bu : W3.heap[w2.heap.size]? = some (.cells #[.slice (some ⟨up.g, 0, none⟩) up.e.key.length up.c, .int .u64 up.e.id] 65 (0, 0)) := by rw [hW3]; exact heap_alloc_new _ _
 have b03 : Below w0.heap.size w0 W3 := (B1H.out.trans (hb2.mono B1H.out.size)).trans (hb3.mono (Nat.le_trans B1H.out.size hb2.size))
 have bw3 : Below w.heap.size w W3 := BB.out.trans (b03.mono BB.out.size)
 have HU3 := mkHid (hup.keeps (Keeps.of_below hb3))
 have f0 : W3.cell? ⟨w.heap.size, 0, none⟩ = some (.slice (some ⟨gx, ox, none⟩) N c) := (cell_of_block ((b03.block _ (lt_of_heap BX.out.1)).trans BX.out.1) 0).trans rfl
 have f1 : ∀ o, (w2.alloc o).cell? ⟨w.heap.size, 0, none⟩ = some (.slice (some ⟨gx, ox, none⟩) N c) := fun o => (((Below.refl _ w2).alloc (Nat.le_refl _) o).cell (p := ⟨w.heap.size, 0, none⟩) (by have := B1H.out.size; have := hb2.size; have := lt_of_heap BX.out.1; show w.heap.size < _; omega)).trans ((cell_of_block ((hb2.block _ (by have := B1H.out.size; have := lt_of_heap BX.out.1; omega)).trans ((B1H.out.block _ (lt_of_heap BX.out.1)).trans BX.out.1)) 0).trans rfl)
 have B03 := mkHid b03
 have BW3 := mkHid bw3
 have BU := mkHid bu
 have HW3 := mkHid hW3
 have GU : Hid (w0.heap.size ≤ w2.heap.size ∧ w2.heap.size < W3.heap.size) := ⟨Nat.le_trans B1H.out.size hb2.size, lt_of_heap bu⟩
 clear hb3 bu b03 bw3 hup hb2 hW3 f0 LC
 go_wp2_with fail
 rw [← HW3.out]
 refine (CC.out _ BW3.out).mono ?_
 rintro en w4 ⟨gc, oc, cc, rfl, nw, hb4⟩
 clear f1 HW3
 have z0 := BSZ.out
 have z3 := GU.out
 have b04 : Below w0.heap.size w0 w4 := B03.out.trans (hb4.mono B03.out.size)
 have e0 : w4.heap[w.heap.size]? = _ := (b04.block _ (lt_of_heap BX.out.1)).trans BX.out.1
 have e2 : w4.heap[(w.heap.size + 1 + 1)]? = _ := (b04.block _ (lt_of_heap BX.out.2.2)).trans BX.out.2.2
 have eu : w4.heap[w2.heap.size]? = _ := (hb4.block _ (lt_of_heap BU.out)).trans BU.out
 have gcn : W3.heap.size ≤ gc := nw.new gc rfl
 obtain ⟨o1, o2, c0, c1, y0, y1, gl⟩ := EO.out w4 gc oc cc nw.row
 obtain ⟨gu, hgu⟩ : ∃ gu, gu = w2.heap.size := ⟨_, rfl⟩
 rw [← hgu] at eu
 have n1 : ¬ gc = w.heap.size := by omega
 have n2 : ¬ gu = w.heap.size := by omega
 have n3 : ¬ gc = gu := by omega
 have n4 : ¬ w.heap.size = gc := by omega
 have n5 : ¬ w.heap.size = gu := by omega
 have n6 : ¬ gu = gc := by omega
 have p0 : w4.cell? ⟨w.heap.size, 0, none⟩ = some (.slice (some ⟨gx, ox, none⟩) N c) := (cell_of_block e0 0).trans rfl
 have p1 : w4.cell? ⟨gu, 0, none⟩ = some (.slice (some ⟨up.g, 0, none⟩) up.e.key.length up.c) := (cell_of_block eu 0).trans rfl
 have p2 : w4.cell? ⟨gu, 1, none⟩ = some (.int .u64 up.e.id) := (cell_of_block eu 1).trans rfl
 have y2 := unfrozen_of_block e0 0
 obtain ⟨w6, hw6⟩ : ∃ w6, w6 = ((w4.setCell ⟨w.heap.size, 0, none⟩ (.slice (some ⟨gc, oc, none⟩) N cc)).setCell ⟨gc, oc + A * 2, none⟩ (.slice (some ⟨up.g, 0, none⟩) up.e.key.length up.c)).setCell ⟨gc, oc + A * 2 + 1, none⟩ (.int .u64 up.e.id) := ⟨_, rfl⟩
 have oth : ∀ b, b ≠ w.heap.size → b ≠ gc → w6.heap[b]? = w4.heap[b]? := fun b h1 h2 => by
  rw [hw6, heap_setCell_other _ _ _ _ (by exact h2), heap_setCell_other _ _ _ _ (by exact h2), heap_setCell_other _ _ _ _ (by exact h1)]
 have s6 : w6.heap.size = w4.heap.size := by rw [hw6]; simp
 have E0 : w6.heap[w.heap.size]? = some (.cells #[.slice (some ⟨gc, oc, none⟩) N cc, .slice (some ⟨gy, oy, none⟩) K e] 60 (0, 0)) := by
  rw [hw6, heap_setCell_other _ _ _ _ (by exact n4), heap_setCell_other _ _ _ _ (by exact n4)]
  exact (block_setCell e0 _).trans rfl
 have RC : Hid (w6.heap[(w.heap.size + 1 + 1)]? = some (.cells #[.slice none 0 0, .slice none 0 0] 60 (0, 0))) := (oth _ (by omega) (by omega)).trans e2
 have EU : w6.heap[gu]? = _ := (oth _ n2 n6).trans eu
 have b46 : Below w.heap.size w4 w6 := by
  rw [hw6]
  exact below_set (below_set (below_set (Below.refl w.heap.size w4) _ _ (Nat.le_refl _)) ⟨gc, oc + A * 2, none⟩ _ (by show w.heap.size ≤ gc; omega)) ⟨gc, oc + A * 2 + 1, none⟩ _ (by show w.heap.size ≤ gc; omega)
 have bw6 : Below w.heap.size w w6 := (BW3.out.trans (hb4.mono BW3.out.size)).trans b46
 have SR : shr w6 65 2 (.slice (some ⟨gc, oc, none⟩) N cc) N (fl emE (n.es.set A up)) := by
  rw [hw6]
  exact shr_set (nw.row.kept (Chg.of_cell w4 ⟨w.heap.size, 0, none⟩ _) (fun g hg h => by cases hg; exact n1 h)) HPL.out
 have b36 : Below w.heap.size W3 w6 := (hb4.mono (by omega)).trans b46
 have KU6 : KeyOk (fun b => T b ∧ b ≠ (w.heap.size + 1 + 1)) w6 up := (HU3.out.keeps ⟨b36.size, fun b cs t z hb hl => (b36.block b hb.2).trans hl⟩).mono (fun b _ h => ⟨h.1, by have := h.2; omega⟩)
 have HN6 := mkHid (ND1.out W3 w6 gc oc cc BW3.out bw6 (by omega) KU6 (fun g hg => by cases hg; exact gcn) SR)
 have HKU := mkHid KU6
 have Z6 : Hid (w0.heap.size ≤ w6.heap.size) := by have := hb4.size; show _ ≤ _; omega
 have UPC : Hid (∀ W, Chg (fun b => b = (w.heap.size + 1 + 1)) w6 W → Below w.heap.size w W) := fun W hc => bw6.trans (hc.below (by have := bw6.size; omega) (fun i hi => by omega))
 have KPC : Hid (∀ W, Chg (fun b => b = (w.heap.size + 1 + 1)) w6 W → Keeps (fun b => T b ∧ b ≠ (w.heap.size + 1 + 1)) w6 W) := fun W hc => Keeps.of_chg hc (fun b hb _ h => hb.2 h)
 have KS : Hid (∀ w', Chg (fun b => b = (w.heap.size + 1 + 1)) w6 w' → w'.cell? ⟨w.heap.size, 0, none⟩ = some (.slice (some ⟨gc, oc, none⟩) N cc) ∧ w'.cell? ⟨w.heap.size, 1, none⟩ = some (.slice (some ⟨gy, oy, none⟩) K e) ∧ w'.cell? ⟨gy, oy + A * 2, none⟩ = some (.slice a1 a2 a3) ∧ w'.cell? ⟨gy, oy + A * 2 + 1, none⟩ = some (.slice b1 b2 b3) ∧ w'.cell? ⟨gu, 0, none⟩ = some (.slice (some ⟨up.g, 0, none⟩) up.e.key.length up.c) ∧ w'.cell? ⟨gu, 1, none⟩ = some (.int .u64 up.e.id)) := fun w' hc => by
  have h0 : w'.heap[w.heap.size]? = _ := hc.at_ E0 (by omega)
  have h1 : w'.heap[gu]? = _ := hc.at_ EU (by omega)
  have c2 : ∀ o, w'.cell? ⟨gy, o, none⟩ = w.cell? ⟨gy, o, none⟩ := fun o => (UPC.out w' hc).cell (p := ⟨gy, o, none⟩) Q.out.2.2
  exact ⟨(cell_of_block h0 0).trans rfl, (cell_of_block h0 1).trans rfl, (c2 _).trans Q.out.1, (c2 _).trans Q.out.2.1, (cell_of_block h1 0).trans rfl, (cell_of_block h1 1).trans rfl⟩
 replace PC : Hid (∀ W, Chg (fun b => b = (w.heap.size + 1 + 1)) w6 W → Calls Tryz.prog 27 #[.agg #[.slice a1 a2 a3, .slice b1 b2 b3], .agg #[.slice (some ⟨up.g, 0, none⟩) up.e.key.length up.c, .int .u64 up.e.id]] W fun en w' => NdS (fun b => T b ∧ b ≠ (w.heap.size + 1 + 1)) W d k' en w') := fun W hc => PC.out W (UPC.out W hc) (Nat.le_trans Z6.out hc.size) (HKU.out.keeps (KPC.out W hc))
 replace WC : Hid (∀ W p1 n1 c1 p2 n2 c2, Chg (fun b => b = (w.heap.size + 1 + 1)) w6 W → ndIn (fun b => T b ∧ b ≠ (w.heap.size + 1 + 1)) W d k' (.slice p1 n1 c1) (.slice p2 n2 c2) → Calls Tryz.prog 56 #[.agg #[.slice (some ⟨gc, oc, none⟩) N cc, .slice (some ⟨gy, oy, none⟩) K e], .int .i64 (A : Int), .agg #[.slice p1 n1 c1, .slice p2 n2 c2]] W fun en w' => NdS (fun b => T b ∧ b ≠ (w.heap.size + 1 + 1)) W (d + 1) ((n.setE A up).lessK A k') en w') := fun W p1 n1 c1 p2 n2 c2 hc hj => WC.out W gc oc cc p1 n1 c1 p2 n2 c2 (Nat.le_trans Z6.out hc.size) (HN6.out.keeps (KPC.out W hc)) hj
 have HW6 := mkHid hw6
 have HGU := mkHid hgu
 clear z0 z3 b04 e0 e2 eu gcn gl oth s6 E0 EU b46 bw6 SR b36 KU6 hw6 nw hb4 ND1 HN6 HKU Z6 KPC EO CC BU GU B03 BW3 HU3 HPL
 rw [← HGU.out]
 clear hgu
 go_wp2_with fail
 rw [← HW6.out]
 clear HW6 c0 c1 y0 y1 y2 p0 p1 p2
 refine wp_region_noPanic ?_
 refine wp_region_held_drew (S := fun w' : World => w'.cell? ⟨w.heap.size, 0, none⟩ = some (.slice (some ⟨gc, oc, none⟩) N cc) ∧ w'.cell? ⟨w.heap.size, 1, none⟩ = some (.slice (some ⟨gy, oy, none⟩) K e) ∧ w'.cell? ⟨gy, oy + A * 2, none⟩ = some (.slice a1 a2 a3) ∧ w'.cell? ⟨gy, oy + A * 2 + 1, none⟩ = some (.slice b1 b2 b3) ∧ w'.cell? ⟨gu, 0, none⟩ = some (.slice (some ⟨up.g, 0, none⟩) up.e.key.length up.c) ∧ w'.cell? ⟨gu, 1, none⟩ = some (.int .u64 up.e.id)) (by kernel_rfl) (KS.out _ (Chg.refl _ _).drew) (fun hH => ?_)
 refine tKx (i := 0) (v := .agg #[.slice (some ⟨gc, oc, none⟩) N cc, .slice (some ⟨gy, oy, none⟩) K e]) rfl rfl (by kernel_rfl) (fun _ _ _ h => h) ?_ hH ?_
 ·intro w5 hSw; obtain ⟨s0, s1, s2, s3, s4, s5⟩ := hSw; go_simp
 simp only [zA9, zB9, zC9]
 refine tKx (i := 1) (v := .int .i64 ((A : Int))) rfl rfl (by kernel_rfl) (fun _ _ _ h => h) ?_ hH ?_
 ·intro w5 hSw; obtain ⟨s0, s1, s2, s3, s4, s5⟩ := hSw; go_simp
 simp only [zA9, zB9, zC9]
 refine tKx (i := 2) (v := .pointer (some ⟨w.heap.size, 1, none⟩)) rfl rfl (by kernel_rfl) (fun _ _ _ h => h) ?_ hH ?_
 ·intro w5 hSw; obtain ⟨s0, s1, s2, s3, s4, s5⟩ := hSw; go_simp
 simp only [zA9, zB9, zC9]
 refine tKx (i := 3) (v := .slice (some ⟨gy, oy, none⟩) K e) rfl rfl (by kernel_rfl) (fun _ _ _ h => h) ?_ hH ?_
 ·intro w5 hSw; obtain ⟨s0, s1, s2, s3, s4, s5⟩ := hSw; go_simp
 simp only [zA9, zB9, zC9]
 refine tKx (i := 4) (v := .int .i64 ((A : Int))) rfl rfl (by kernel_rfl) (fun _ _ _ h => h) ?_ hH ?_
 ·intro w5 hSw; obtain ⟨s0, s1, s2, s3, s4, s5⟩ := hSw; go_simp
 simp only [zA9, zB9, zC9]
 refine tKx (i := 5) (v := .pointer (some ⟨gy, oy + A * 2, none⟩)) rfl rfl (by kernel_rfl) (fun _ _ _ h => h) ?_ hH ?_
 ·intro w5 hSw; obtain ⟨s0, s1, s2, s3, s4, s5⟩ := hSw; go_simp
 simp only [zA9, zB9, zC9]
 refine tKx (i := 6) (v := .agg #[.slice a1 a2 a3, .slice b1 b2 b3]) rfl rfl (by kernel_rfl) (fun _ _ _ h => h) ?_ hH ?_
 ·intro w5 hSw; obtain ⟨s0, s1, s2, s3, s4, s5⟩ := hSw; go_simp
 simp only [zA9, zB9, zC9]
 refine tKx (i := 7) (v := .agg #[.slice (some ⟨up.g, 0, none⟩) up.e.key.length up.c, .int .u64 up.e.id]) rfl rfl (by kernel_rfl) (fun _ _ _ h => h) ?_ hH ?_
 ·intro w5 hSw; obtain ⟨s0, s1, s2, s3, s4, s5⟩ := hSw; go_simp
 simp only [zA9, zB9, zC9]
 have KB := mkHid ((Chg.refl (fun b => b = (w.heap.size + 1 + 1)) w6).drew)
 replace RC := mkHid (show w6.drew.heap[(w.heap.size + 1 + 1)]? = _ from RC.out)
 generalize hW0 : w6.drew = W0 at KB RC hH ⊢
 refine wpAnyH_ready (rs := [8]) (by kernel_rfl) (by simp) ?_
 refine AllReadyH.cons rfl (fun K hK => ?_) AllReadyH.nil
 ·go_simp
  go_at_call 27
  refine (PC.out _ KB.out).mono ?_
  rintro e W1 ⟨p1, n1, c1, p2, n2, c2, rfl, k1, hb⟩
  go_wp2_with fail
  refine hK.out _ _ (KS.out _ (KB.out.trans (chg_bl hb))) (fun hH => ?_)
  clear hK K
  replace RC := mkHid ((hb.block _ (lt_of_heap RC.out)).trans RC.out)
  have JN := mkHid (k1)
  replace KB := mkHid (KB.out.trans (chg_bl hb))
  clear hb
  refine wpAnyH_ready (rs := [9]) (by kernel_rfl) (by simp) ?_
  refine AllReadyH.cons rfl (fun K hK => ?_) AllReadyH.nil
  ·go_simp
   go_at_call 56
   refine (WC.out _ _ _ _ _ _ _ KB.out JN.out).mono ?_
   rintro e W2 ⟨p3, n3, c3, p4, n4, c4, rfl, k2, hb⟩
   go_wp2_with fail
   refine hK.out _ _ (KS.out _ (KB.out.trans (chg_bl hb))) (fun hH => ?_)
   clear hK K
   clear JN
   replace RC := mkHid ((hb.block _ (lt_of_heap RC.out)).trans RC.out)
   have WN := mkHid (k2)
   replace KB := mkHid (KB.out.trans (chg_bl hb))
   clear hb
   refine wpAnyH_ready (rs := [10]) (by kernel_rfl) (by simp) ?_
   refine AllReadyH.cons rfl (fun K hK => ?_) AllReadyH.nil
   ·have q0 : W2.cell? ⟨(w.heap.size + 1 + 1), 0, none⟩ = some (.slice none 0 0) := (cell_of_block RC.out 0).trans rfl
    have q1 : W2.cell? ⟨(w.heap.size + 1 + 1), 1, none⟩ = some (.slice none 0 0) := (cell_of_block RC.out 1).trans rfl
    have y0 := unfrozen_of_block RC.out 0
    have y1 := unfrozen_of_block RC.out 1
    go_simp
    refine hK.out _ _ (KS.out _ (chg_set (chg_set KB.out ⟨(w.heap.size + 1 + 1), 0, none⟩ (.slice p3 n3 c3) rfl) ⟨(w.heap.size + 1 + 1), 1, none⟩ (.slice p4 n4 c4) rfl)) (fun hH => ?_)
    clear hK K
    refine wpAnyH_done (by kernel_rfl) ?_ _
    refine NoPanic.normal ?_
    have FN := NdQ.ret (T := T) (w := w) HM.out WN.out (UPC.out _ KB.out)
    clear WN KB RC KS hH
    go_wp2_with fail
    refine bodyPost_ret (v := .agg #[.slice p3 n3 c3, .slice p4 n4 c4]) (by simp [results, Tryz.results27, go_sem, q0, q1]) rfl ?_
    exact FN
/-- an entry taken out -/
theorem drop_any_off : ∀ (d : Nat) (T : Nat → Prop) (n : Nd Em) (m : Em) (px : Option Addr) (cx lo : Nat) (v1 v2 : Value) (w : World), (∀ b, w.heap.size ≤ b → T b) → ndIn T w d n v1 v2 → EnOff w px m.e → n.wf d lo 16 → 1 ≤ n.es.length → Rise ltM n.fl → (∃ x ∈ n.fl, ltM x m = false ∧ ltM m x = false) →
  Calls Tryz.prog 27 #[.agg #[v1, v2], enV px cx m.e] w fun en w' => NdQ T w d (n.dropN ltM d m) en w'
 | 0, T, n, m, px, cx, lo, v1, v2, w, hT, hn, hm, hw, h1, hr, hx => by
  have hl := wf_len hw
  rw [fl_zero hw] at hr hx
  have hv2 := hn.2.2
  subst hv2
  obtain ⟨gx, ox, c, rfl, _⟩ := hn.some.1 (by omega)
  refine drop_leaf_off T n m px cx gx ox _ c w hT hn hm (by omega) hr ?_
  obtain ⟨x, hx1, hx2, _⟩ := hx
  rcases Nat.lt_or_ge (place ltM m n.es) n.es.length with h | h
  ·exact h
  ·have he : place ltM m n.es = n.es.length := Nat.le_antisymm (place_le _ _ _) h
   obtain ⟨i, hi⟩ := List.mem_iff_getElem?.1 hx1
   have := place_ahead (lt := ltM) (e := m) (by rw [he]; exact (List.getElem?_eq_some_iff.1 hi).1) hi
   rw [hx2] at this
   cases this
 | d + 1, T, n, m, px, cx, lo, v1, v2, w, hT, hn, hm, hw, h1, hr, hx => by
  have hl := wf_len hw
  have hkl := wf_klen hw
  have hes := es_rise (Or.inr hkl) hr
  obtain ⟨k, hk⟩ : ∃ k, n.ks[place ltM m n.es]? = some k := ⟨_, List.getElem?_eq_getElem (by have := place_le ltM m n.es; omega)⟩
  have hkw := wf_kid hw hk
  have har := around ord3M hkl hr hk
  have hkn := wf_len hkw
  have hcs : (∀ y, n.es[place ltM m n.es]? = some y → ltM m y = true) ∨ ∃ y, n.es[place ltM m n.es]? = some y ∧ ltM m y = false := by
   cases hq : n.es[place ltM m n.es]? with
   | none => exact Or.inl (fun y h => by cases h)
   | some y =>
    cases hl : ltM m y with
    | true => exact Or.inl (fun z h => by cases h; exact hl)
    | false => exact Or.inr ⟨y, rfl, hl⟩
  rcases hcs with hc | ⟨y0, hy0, hc⟩
  ·rw [dropN_no hk hc]
   have hno : hereB m.e n.es = false := by
    unfold hereB
    show (match n.es[place ltM m n.es]? with | some y => !(ltE m.e y.e) | none => false) = false
    cases hq : n.es[place ltM m n.es]? with
    | none => rfl
    | some y =>
     have hc : ltE m.e y.e = true := hc y hq
     show (!(ltE m.e y.e)) = false
     rw [hc]; rfl
   -- the entry lies in the kid
   have hin : ∃ x ∈ k.fl, ltM x m = false ∧ ltM m x = false := by
    obtain ⟨x, hx1, hx2, hx3⟩ := hx
    rw [fl_part hkl hk] at hx1
    rcases List.mem_append.1 hx1 with h | h
    ·have := har.2.1 x h
     rw [hx2] at this; cases this
    ·rcases List.mem_append.1 h with h | h
     ·exact ⟨x, h, hx2, hx3⟩
     ·exfalso
      have hrb := (rise_parts (lt := ltM) hkl hr hk).2.2
      obtain ⟨y, hy, hxy⟩ := behind_ge hkl hrb h
      have hc : ltM m y = true := hc y hy
      rcases hxy with hxy | rfl
      ·have := ord3M.trans hc hxy
       rw [hx3] at this; cases this
      ·rw [hx3] at hc; cases hc
   have hdw := (drop_ok ord3M d hkw (by omega) har.1 hin).2
   have hdn := wf_len hdw
   exact drop_inner_off T d n k _ m px cx lo 16 v1 v2 w hT hn hm hw h1 (by omega) hes hk (wf_mono hdw (by omega) (by omega)) hno (fun T w h1' h2' hT hk2 hm2 => drop_any_off d T k m px cx 8 h1' h2' w hT hk2 hm2 hkw (by omega) har.1 hin)
  ·obtain ⟨l, up, hup, hfl⟩ := last_ok d hkw (by omega)
   rw [dropN_yes hk hy0 hc hup]
   have hlt : place ltM m n.es < n.es.length := (List.getElem?_eq_some_iff.1 hy0).1
   have hyes : hereB m.e n.es = true := by
    unfold hereB
    show (match n.es[place ltM m n.es]? with | some y => !(ltE m.e y.e) | none => false) = true
    rw [hy0]
    have hc : ltE m.e y0.e = false := hc
    show (!(ltE m.e y0.e)) = true
    rw [hc]; rfl
   have hin : ∃ x ∈ k.fl, ltM x up = false ∧ ltM up x = false := ⟨up, by rw [hfl]; simp, irr ord3M up, irr ord3M up⟩
   have hdw := (drop_ok ord3M d hkw (by omega) har.1 hin).2
   have hdn := wf_len hdw
   exact drop_here_off T d n k _ m up px cx lo 16 v1 v2 w hT hn hm hw h1 (by omega) hes hk hup (wf_mono hdw (by omega) (by omega)) hlt hyes (fun T w h1' h2' hT hk2 hu2 => drop_any_off d T k up _ up.c 8 h1' h2' w hT hk2 hu2.at_.off hkw (by omega) har.1 hin)
end Go.Proofs.YtclcajnodoifjaaGreatDoor

