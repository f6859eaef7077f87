/-
  The walk of locksteplaw08.SpoilForm.
-/
import Derived.Test.YtecebjfcokmmkaaGreatDoorTfR
namespace Go.Proofs.YtecebjfcokmmkaaGreatDoor
open Go.RowKit Go.Shelf Go.Joins Go.Maps
set_option maxRecDepth 100000

/-- a block of so many cells at least -/
def blk (w : World) (g ty n : Nat) : Prop := ∃ cur : Array Value, w.heap[g]? = some (.cells cur ty (0, 0)) ∧ n ≤ cur.size
theorem blk.set {w : World} {g ty n : Nat} (h : blk w g ty n) (b o : Nat) (u : Value) : blk (w.setCell ⟨b, o, none⟩ u) g ty n := by
  obtain ⟨cur, h1, h2⟩ := h
  by_cases e : g = b
  · subst e
    exact ⟨_, block_setCell h1 u, by simpa using h2⟩
  · exact ⟨cur, (heap_setCell_other w ⟨b, o, none⟩ g u e).trans h1, h2⟩
theorem blk.cell {w : World} {g ty n : Nat} (h : blk w g ty n) {o : Nat} (ho : o < n) : (∃ v, w.cell? ⟨g, o, none⟩ = some v) ∧ w.frozen? ⟨g, o, none⟩ = false := by
  obtain ⟨cur, h1, h2⟩ := h
  refine ⟨⟨cur[o]'(by omega), (cell_of_block h1 o).trans (Array.getElem?_eq_getElem (by omega))⟩, unfrozen_of_block h1 o⟩
theorem blk_shr {w : World} {e sz n cap g : Nat} {xs : List Value} (h : shr w e sz (.slice (some ⟨g, 0, none⟩) n cap) n xs) : blk w g e (n * sz) := by
  rcases h.2 with ⟨e1, _⟩ | ⟨g', off, cap', cur, e1, hg, hnc, hcm, hsz, hcs⟩
  · cases e1
  · cases e1
    refine ⟨cur, hg, ?_⟩
    rcases hsz with h | h
    · have : n = 0 := by omega
      subst this; simp
    · rw [h, Nat.zero_add]; exact Nat.mul_le_mul_right _ hnc
/-- the keys' block, whose columns from place k on are as they were -/
def kbl (w : World) (gk m k : Nat) (L : List Kq) : Prop := blk w gk 46 (m * 3) ∧ ∀ i q, k ≤ i → L[i]? = some q → w.cell? ⟨gk, i * 3 + 1, none⟩ = some (.slice (some ⟨q.g, 0, none⟩) q.k.cs.length q.c)
theorem blk_ne {w : World} {g1 g2 t1 t2 n1 n2 : Nat} (h1 : blk w g1 t1 n1) (h2 : blk w g2 t2 n2) (hne : t1 ≠ t2) : g1 ≠ g2 := fun e => by
  obtain ⟨c1, h1, _⟩ := h1
  obtain ⟨c2, h2, _⟩ := h2
  rw [e, h2] at h1
  cases h1
  exact hne rfl
theorem cell_set_ne {w : World} {a b : Addr} {u v : Value} (h : w.cell? a = some v) (hne : a.block ≠ b.block) : (w.setCell b u).cell? a = some v := by
  rw [← h]
  exact World.cell?_of_block (heap_setCell_other w b a.block u hne)
theorem kbl.other {w : World} {gk m k : Nat} {L : List Kq} (h : kbl w gk m k L) (b o : Nat) (u : Value) (hb : b ≠ gk) : kbl (w.setCell ⟨b, o, none⟩ u) gk m k L :=
  ⟨h.1.set b o u, fun i q hi hq => cell_set_ne (h.2 i q hi hq) (fun e => hb e.symm)⟩
theorem kbl.here {w : World} {gk m k o : Nat} {L : List Kq} (h : kbl w gk m k L) (u : Value) (ho : o < (k + 1) * 3) : kbl (w.setCell ⟨gk, o, none⟩ u) gk m (k + 1) L := by
  refine ⟨h.1.set gk o u, fun i q hi hq => ?_⟩
  obtain ⟨cur, h1, h2⟩ := h.1
  have hc := h.2 i q (by omega) hq
  rw [cell_of_block h1] at hc
  refine (cell_of_block (block_setCell h1 u) (i * 3 + 1)).trans ?_
  have hne : o ≠ i * 3 + 1 := by omega
  rw [Array.getElem?_setIfInBounds, if_neg hne]
  exact hc
theorem kbl.next {w : World} {gk m k : Nat} {L : List Kq} (h : kbl w gk m k L) : kbl w gk m (k + 1) L := ⟨h.1, fun i q hi hq => h.2 i q (by omega) hq⟩
/-- what is left of a form that is written over -/
structure Sp (S : Nat → Prop) (W0 wr : World) (t : Tb) (gc gk k : Nat) (L : List Kq) : Prop where
  chg : Chg S W0 wr
  c : blk wr gc 52 (t.cs.length * 4)
  k : kbl wr gk t.ks.length k L
  i : ∀ q ∈ L, blk wr q.g 3 q.k.cs.length
theorem tyCI : (52 : Nat) ≠ 3 := by decide
theorem Sp.col {S : Nat → Prop} {W0 wr : World} {t : Tb} {gc gk k : Nat} {L : List Kq} (h : Sp S W0 wr t gc gk k L) (hs : S gc) (o : Nat) (u : Value) : Sp S W0 (wr.setCell ⟨gc, o, none⟩ u) t gc gk k L :=
  ⟨h.chg.set _ u hs, h.c.set _ _ _, h.k.other _ _ _ (blk_ne h.c h.k.1 tyCK), fun q hq => (h.i q hq).set _ _ _⟩
theorem Sp.int {S : Nat → Prop} {W0 wr : World} {t : Tb} {gc gk k : Nat} {L : List Kq} (h : Sp S W0 wr t gc gk k L) {q : Kq} (hq : q ∈ L) (hs : S q.g) (o : Nat) (u : Value) : Sp S W0 (wr.setCell ⟨q.g, o, none⟩ u) t gc gk k L :=
  ⟨h.chg.set _ u hs, h.c.set _ _ _, h.k.other _ _ _ (blk_ne (h.i q hq) h.k.1 tyIK), fun q hq => (h.i q hq).set _ _ _⟩
theorem Sp.key {S : Nat → Prop} {W0 wr : World} {t : Tb} {gc gk k o : Nat} {L : List Kq} (h : Sp S W0 wr t gc gk k L) (hs : S gk) (u : Value) (ho : o < (k + 1) * 3) : Sp S W0 (wr.setCell ⟨gk, o, none⟩ u) t gc gk (k + 1) L :=
  ⟨h.chg.set _ u hs, h.c.set _ _ _, h.k.here u ho, fun q hq => (h.i q hq).set _ _ _⟩
theorem Sp.key' {S : Nat → Prop} {W0 wr : World} {t : Tb} {gc gk k o : Nat} {L : List Kq} (h : Sp S W0 wr t gc gk (k + 1) L) (hs : S gk) (u : Value) (ho : o < (k + 1) * 3) : Sp S W0 (wr.setCell ⟨gk, o, none⟩ u) t gc gk (k + 1) L := by
  refine ⟨h.chg.set _ u hs, h.c.set _ _ _, ⟨h.k.1.set _ _ _, fun i q hi hq => ?_⟩, fun q hq => (h.i q hq).set _ _ _⟩
  obtain ⟨cur, h1, h2⟩ := h.k.1
  have hc := h.k.2 i q hi hq
  rw [cell_of_block h1] at hc
  refine (cell_of_block (block_setCell h1 u) (i * 3 + 1)).trans ?_
  have hne : o ≠ i * 3 + 1 := by omega
  rw [Array.getElem?_setIfInBounds, if_neg hne]
  exact hc
theorem Sp.start {wf w W0 : World} {lo gc cc gk ck : Nat} {t : Tb} {L : List Kq} (F : Fo wf lo t gc cc gk ck L) (hb : Below wf.heap.size wf w) (h0 : Below w.heap.size w W0) : Sp (fun i => lo ≤ i ∧ i < wf.heap.size) W0 W0 t gc gk 0 L := by
  have F0 := F.below (hb.trans (h0.mono hb.size))
  have e : L.length = t.ks.length := by rw [← F.hL, List.length_map]
  refine ⟨Chg.refl _ _, blk_shr F0.cols, ⟨blk_shr F0.keys, fun i q _ hq => shr_cells F0.keys (i * 3 + 1) _ ((fl_get kqE_len L i q 1 hq (by decide)).trans rfl)⟩, fun q hq => ?_⟩
  have := blk_shr (F0.ints q hq)
  rw [Nat.mul_one] at this
  exact this
set_option maxHeartbeats 8000000 in
set_option maxRecDepth 1000000 in
theorem Spoil_any (wf : World) (lo gc cc gk ck : Nat) (t : Tb) (L : List Kq) (F : Fo wf lo t gc cc gk ck L) (w : World) (hb : Below wf.heap.size wf w) (hG : tbG t) :
    Calls Tryz.prog 13 #[tbV t (some ⟨gc, 0, none⟩) (some ⟨gk, 0, none⟩) cc ck] w fun e w' => e = .returned (.tuple #[]) ∧ Chg (fun i => lo ≤ i ∧ i < wf.heap.size) w w' := by
  obtain ⟨W0, hW0⟩ : ∃ W0, W0 = w.alloc (.cells #[.string t.nm, .slice (some ⟨gc, 0, none⟩) t.cs.length cc, .slice (some ⟨gk, 0, none⟩) t.ks.length ck, .int .i64 t.pa, .int .i64 t.mo] 25) := ⟨_, rfl⟩
  have b0 : Below w.heap.size w W0 := by rw [hW0]; exact (Below.refl _ w).alloc (Nat.le_refl _) _
  have B0 : W0.heap[w.heap.size]? = some (.cells #[.string t.nm, .slice (some ⟨gc, 0, none⟩) t.cs.length cc, .slice (some ⟨gk, 0, none⟩) t.ks.length ck, .int .i64 t.pa, .int .i64 t.mo] 25 (0, 0)) := by rw [hW0]; exact at_alloc _ _ _
  have HS0 := mkHid (Sp.start F hb b0)
  have hsz := hb.size
  have sc : lo ≤ gc ∧ gc < wf.heap.size := ⟨F.loc, shr_lt F.cols⟩
  have sk : lo ≤ gk ∧ gk < wf.heap.size := ⟨F.lok, shr_lt F.keys⟩
  have si : Hid (∀ q ∈ L, lo ≤ q.g ∧ q.g < wf.heap.size) := fun q hq => ⟨F.loi q hq, shr_lt (F.ints q hq)⟩
  have hLl : L.length = t.ks.length := by rw [← F.hL, List.length_map]
  have HLL := mkHid hLl
  have hlm := hG.2.1
  have hln := hG.2.2.1
  have HQL : Hid (∀ q ∈ L, q.k.cs.length ≤ 100000000) := fun q hq => (hG.2.2.2.2 q.k (by rw [← F.hL]; exact List.mem_map.2 ⟨q, hq, rfl⟩)).2
  have HB0 := mkHid B0
  have HC0 : Hid (Chg (fun i => lo ≤ i ∧ i < wf.heap.size) w W0) := by show Chg _ _ _; rw [hW0]; exact Chg.of_alloc _ _ _
  have HW := mkHid hW0
  clear F hb hG b0 B0 hW0 hLl
  go_enter Tryz.func13, Tryz.ntmps13
  go_wp2_with fail
  rw [← HW.out]
  go_loopw [2] (fun s wr => ∃ k : Nat, s = .int .i64 k ∧ k ≤ t.cs.length ∧ Hid (Sp (fun i => lo ≤ i ∧ i < wf.heap.size) W0 wr t gc gk 0 L)) (fun s _ => t.cs.length - (intOf s).toNat)
  case atStart => exact ⟨0, rfl, Nat.zero_le _, HS0⟩
  case round =>
    obtain ⟨k, rfl, hk, hd⟩ := hrel
    have Br := hd.out.chg.at_ HB0.out (by omega)
    have j1 : wr.cell? ⟨w.heap.size, 1, none⟩ = some (.slice (some ⟨gc, 0, none⟩) t.cs.length cc) := (cell_of_block Br 1).trans rfl
    by_cases hkl : k < t.cs.length
    · obtain ⟨⟨x0, c0⟩, z0⟩ := hd.out.c.cell (o := k * 4) (by omega)
      obtain ⟨⟨x1, c1⟩, z1⟩ := hd.out.c.cell (o := k * 4 + 1) (by omega)
      obtain ⟨⟨x2, c2⟩, z2⟩ := hd.out.c.cell (o := k * 4 + 2) (by omega)
      obtain ⟨⟨x3, c3⟩, z3⟩ := hd.out.c.cell (o := k * 4 + 3) (by omega)
      have HN : Hid (∀ u0 u1 u2 u3, Sp (fun i => lo ≤ i ∧ i < wf.heap.size) W0 ((((wr.setCell ⟨gc, k * 4, none⟩ u0).setCell ⟨gc, k * 4 + 1, none⟩ u1).setCell ⟨gc, k * 4 + 2, none⟩ u2).setCell ⟨gc, k * 4 + 3, none⟩ u3) t gc gk 0 L) := fun u0 u1 u2 u3 => (((hd.out.col sc _ u0).col sc _ u1).col sc _ u2).col sc _ u3
      clear hd Br HS0
      go_wp2_with fail
      go_roundw
      case rel => exact ⟨k + 1, by go_num, hkl, HN.out _ _ _ _⟩
      case measure => simp [intOf]; omega
    · have HS1 := mkHid hd.out
      clear hd Br HS0
      go_wp2_with fail
      rename World => w1
      go_loopw [3, 4] (fun s _ wr => ∃ k : Nat, s = .int .i64 k ∧ k ≤ t.ks.length ∧ Hid (Sp (fun i => lo ≤ i ∧ i < wf.heap.size) W0 wr t gc gk k L)) (fun s _ _ => t.ks.length - (intOf s).toNat)
      case atStart => exact ⟨0, rfl, Nat.zero_le _, HS1⟩
      case round =>
        obtain ⟨k, rfl, hk, hd⟩ := hrel
        have Br := hd.out.chg.at_ HB0.out (by omega)
        have j2 : wr.cell? ⟨w.heap.size, 2, none⟩ = some (.slice (some ⟨gk, 0, none⟩) t.ks.length ck) := (cell_of_block Br 2).trans rfl
        by_cases hkl : k < t.ks.length
        · obtain ⟨q, hq⟩ : ∃ q, L[k]? = some q := ⟨L[k]'(by have := HLL.out; omega), List.getElem?_eq_getElem (by have := HLL.out; omega)⟩
          have hqm := List.mem_of_getElem? hq
          have hql := HQL.out q hqm
          have HQ := mkHid hq
          have HQM := mkHid hqm
          have HS2 := mkHid hd.out
          clear hd Br HS1 hq hqm
          go_wp2_with fail
          rename World => w2
          go_loopw [4] (fun s wr => ∃ m : Nat, s = .int .i64 m ∧ m ≤ q.k.cs.length ∧ Hid (Sp (fun i => lo ≤ i ∧ i < wf.heap.size) W0 wr t gc gk k L)) (fun s _ => q.k.cs.length - (intOf s).toNat)
          case atStart => exact ⟨0, rfl, Nat.zero_le _, HS2⟩
          case round =>
            obtain ⟨m, rfl, hm, hd⟩ := hrel
            have Br := hd.out.chg.at_ HB0.out (by omega)
            have i2 : wr.cell? ⟨w.heap.size, 2, none⟩ = some (.slice (some ⟨gk, 0, none⟩) t.ks.length ck) := (cell_of_block Br 2).trans rfl
            have ik := hd.out.k.2 k q (Nat.le_refl _) HQ.out
            by_cases hml : m < q.k.cs.length
            · obtain ⟨⟨x0, c0⟩, z0⟩ := (hd.out.i q HQM.out).cell (o := m) hml
              have HN : Hid (∀ u0, Sp (fun i => lo ≤ i ∧ i < wf.heap.size) W0 (wr.setCell ⟨q.g, m, none⟩ u0) t gc gk k L) := fun u0 => hd.out.int HQM.out (si.out q HQM.out) _ u0
              clear hd Br HS2
              go_wp2_with fail
              go_roundw
              case rel => exact ⟨m + 1, by go_num, hml, HN.out _⟩
              case measure => simp [intOf]; omega
            · obtain ⟨⟨x0, c0⟩, z0⟩ := hd.out.k.1.cell (o := k * 3) (by omega)
              obtain ⟨⟨x1, c1⟩, z1⟩ := hd.out.k.1.cell (o := k * 3 + 1) (by omega)
              obtain ⟨⟨x2, c2⟩, z2⟩ := hd.out.k.1.cell (o := k * 3 + 2) (by omega)
              have HN : Hid (∀ u0 u1 u2, Sp (fun i => lo ≤ i ∧ i < wf.heap.size) W0 (((wr.setCell ⟨gk, k * 3, none⟩ u0).setCell ⟨gk, k * 3 + 1, none⟩ u1).setCell ⟨gk, k * 3 + 2, none⟩ u2) t gc gk (k + 1) L) := fun u0 u1 u2 => ((hd.out.key sk u0 (by omega)).key' sk u1 (by omega)).key' sk u2 (by omega)
              clear hd Br HS2
              go_wp2_with fail
              go_roundw
              case rel => exact ⟨k + 1, by go_num, hkl, HN.out _ _ _⟩
              case measure => simp [intOf]; omega
        · have HC := mkHid (HC0.out.trans hd.out.chg)
          clear hd Br HS1
          go_wp2_with fail
          go_end0
          exact ⟨rfl, HC.out⟩
end Go.Proofs.YtecebjfcokmmkaaGreatDoor
