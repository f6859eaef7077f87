/-
  The walk of table.keptForm, itself.
-/
import Derived.Test.YtecebjfcokmmkaaGreatDoorTfU
namespace Go.Proofs.YtecebjfcokmmkaaGreatDoor
open Go.RowKit Go.Shelf Go.Joins Go.Maps
set_option maxRecDepth 100000

theorem below_grown {base : Nat} {a b : World} (h : a.grownBy b none) (hb : base ≤ a.heap.size) : Below base a b := ⟨h.os, h.tape, h.output, h.size, fun k hk => h.block k (by omega) (by simp)⟩
theorem take_at {P : Program} {ops : Array Oper} {Q : Exit → Act → World → Prop} {md : Region.Mode} {S : World → Prop} {i d : Nat} {oi : Oper} {v : Value} {fuel : Nat} {listed : Array Bool} {ts : Array Value} {df : List Deferred} {w : World} (hi : ops[i]? = some oi) (hd : oi.dst = some d)
    (hs : Region.noSelect ops = true) (hf : Region.free md ops listed i = true) (hr : (Region.ready md ops listed).contains i = true)
    (hQ : ∀ c a w, Q (.panic c) (a.put oi.dst v) w → Q (.panic c) a w) (hy : YieldsIf P ops S oi v ⟨ts, df⟩) (hS : S w)
    (h : wpAnyH P md ops Q S fuel (listed.setIfInBounds i true) ⟨ts.setIfInBounds d v, df⟩ w) : wpAnyH P md ops Q S (fuel + 1) listed ⟨ts, df⟩ w :=
  wpAnyH_take hi hs hf hr hQ hy hS (by rw [hd]; exact h)
/-- a copy in a new block -/
def ClR (w : World) (e sz n : Nat) (xs : List Value) (en : Ending) (w' : World) : Prop := ∃ g cap, en = .returned (.slice (some ⟨g, 0, none⟩) n cap) ∧ shr w' e sz (.slice (some ⟨g, 0, none⟩) n cap) n xs ∧ w.grownBy w' none ∧ w.heap.size ≤ g
theorem ClQ.toR {w : World} {e sz n : Nat} {xs : List Value} {en : Ending} {w' : World} (h : ClQ w e sz n xs en w') : ClR w e sz n xs en w' := by
  obtain ⟨cap, h1, h2, h3, h4⟩ := h
  exact ⟨_, cap, h1, h2, h3, by omega⟩
set_option maxHeartbeats 8000000 in
set_option maxRecDepth 1000000 in
theorem keptForm_any (t : Tb) (P Q : Option Addr) (C D : Nat) (w : World) (hin : tbIn w t P Q) (hG : tbG t) (hc0 : t.cs ≠ []) (hk0 : t.ks ≠ []) (hi0 : ∀ k ∈ t.ks, k.cs ≠ []) :
    Calls Tryz.prog 31 #[tbV t P Q C D] w fun e w' => FoQ w (plT t) e w' := by
  obtain ⟨gq, oq, R, rfl, hgq, hR, hRc, hRi⟩ := ky_rows hin.2 hk0
  rcases hin.1 with h | ⟨gp, op, rfl, hgp, hpc⟩
  · exact absurd h hc0
  have hCL : ∀ W, Below w.heap.size w W → ∀ j u, (fl clE t.cs)[j]? = some u → W.cell? ((⟨gp, op, none⟩ : Addr).add j) = some u := fun W hW j u hj => cl_cells (hin.below hW).1 _ rfl j u hj
  have CC : Hid (∀ W, Below w.heap.size w W → Calls Tryz.prog 50 #[.slice (some ⟨gp, op, none⟩) t.cs.length C] W fun e w' => ClR W 52 4 t.cs.length (fl clE t.cs) e w') := fun W hW => (CloneCl _ _ C _ W (fl_len clE_len _) (hCL W hW) (List.length_pos_iff.2 hc0) (by have := hG.2.1; omega)).mono (fun _ _ h => h.toR)
  have hRl : R.length = t.ks.length := by rw [← hR, List.length_map]
  have CK : Hid (∀ W, Below w.heap.size w W → Calls Tryz.prog 51 #[.slice (some ⟨gq, oq, none⟩) t.ks.length D] W fun e w' => ClR W 46 3 t.ks.length (fl krE R) e w') := fun W hW => (CloneKy _ _ D _ W (by rw [fl_len krE_len, hRl]) (fun j u hj => by
    rw [add_plain]
    exact (hW.cell (p := ⟨gq, oq + j, none⟩) hgq).trans (hRc j u hj)) (List.length_pos_iff.2 hk0) (by have := hG.2.2.1; omega)).mono (fun _ _ h => h.toR)
  have CI : Hid (∀ W (r : Kr), Below w.heap.size w W → r ∈ R → ∃ ad, r.p = some ad ∧ Calls Tryz.prog 52 #[.slice r.p r.k.cs.length r.c] W fun e w' => ClR W 3 1 r.k.cs.length (fl inE r.k.cs) e w') := fun W r hW hr => by
    have hrk : r.k ∈ t.ks := by rw [← hR]; exact List.mem_map.2 ⟨r, hr, rfl⟩
    have hne := hi0 r.k hrk
    have h1 := (hRi r hr).below hW
    have h2 := h1
    rcases h2 with h | ⟨g, o, e, _, _⟩
    · exact absurd h hne
    · rw [e] at h1 ⊢
      exact ⟨_, rfl, (CloneIn _ _ r.c _ W (fl_len inE_len _) (fun j u hj => in_cells h1 _ rfl j u hj) (List.length_pos_iff.2 hne) (by have := (hG.2.2.2.2 r.k hrk).2; omega)).mono (fun _ _ h => h.toR)⟩
  have hln := hG.2.2.1
  have hlm := hG.2.1
  have HR := mkHid hR
  have HRL := mkHid hRl
  obtain ⟨W0, hW0⟩ : ∃ W0, W0 = (w.alloc (.cells #[.string t.nm, .slice (some ⟨gp, op, none⟩) t.cs.length C, .slice (some ⟨gq, oq, none⟩) t.ks.length D, .int .i64 (max t.pa (-1)), .int .i64 t.mo] 25)).alloc (.cells #[.string ⟨#[]⟩, .slice none 0 0, .slice none 0 0, .int .i64 0, .int .i64 0] 25) := ⟨_, rfl⟩
  have b0 : Below w.heap.size w W0 := by rw [hW0]; exact ((Below.refl _ w).alloc (Nat.le_refl _) _).alloc (by simp) _
  have s0 : W0.heap.size = w.heap.size + 1 + 1 := by rw [hW0]; simp
  have B1 : W0.heap[w.heap.size]? = some (.cells #[.string t.nm, .slice (some ⟨gp, op, none⟩) t.cs.length C, .slice (some ⟨gq, oq, none⟩) t.ks.length D, .int .i64 (max t.pa (-1)), .int .i64 t.mo] 25 (0, 0)) := by
    rw [hW0, heap_alloc_old _ _ (by simp)]; exact at_alloc _ _ _
  have B2 : W0.heap[w.heap.size + 1]? = some (.cells #[.string ⟨#[]⟩, .slice none 0 0, .slice none 0 0, .int .i64 0, .int .i64 0] 25 (0, 0)) := by
    rw [hW0]
    have := at_alloc (w.alloc (.cells #[.string t.nm, .slice (some ⟨gp, op, none⟩) t.cs.length C, .slice (some ⟨gq, oq, none⟩) t.ks.length D, .int .i64 (max t.pa (-1)), .int .i64 t.mo] 25)) #[.string ⟨#[]⟩, .slice none 0 0, .slice none 0 0, .int .i64 0, .int .i64 0] 25
    simpa using this
  have CC0 := mkHid (CC.out W0 b0)
  have HB1 := mkHid B1
  have HB2 := mkHid B2
  have HS0 := mkHid s0
  have Hb0 := mkHid b0
  clear hin hG hc0 hk0 hi0 hRc hRi hpc hCL hR hRl hgp hgq CC B1 B2 s0 b0
  subst hW0
  go_enter Tryz.func31, Tryz.ntmps31
  go_wp2_with fail
  refine CC0.out.mono ?_
  rintro e w1 ⟨gc, cc, rfl, sC, g1, hgc⟩
  have B11 : w1.heap[w.heap.size]? = _ := (g1.block _ (by rw [HS0.out]; omega) (by simp)).trans HB1.out
  have B21 : w1.heap[w.heap.size + 1]? = _ := (g1.block _ (by rw [HS0.out]; omega) (by simp)).trans HB2.out
  have lc := shr_lt sC
  rw [HS0.out] at hgc
  have j1 : w1.cell? ⟨w.heap.size, 1, none⟩ = some (.slice (some ⟨gp, op, none⟩) t.cs.length C) := (cell_of_block B11 1).trans rfl
  have f1 := unfrozen_of_block B11 1
  obtain ⟨W2, hW2⟩ : ∃ W2, W2 = w1.setCell ⟨w.heap.size, 1, none⟩ (.slice (some ⟨gc, 0, none⟩) t.cs.length cc) := ⟨_, rfl⟩
  have c2 : Chg (fun i => i = w.heap.size) w1 W2 := by rw [hW2]; exact Chg.of_cell w1 ⟨w.heap.size, 1, none⟩ _
  have B12 : W2.heap[w.heap.size]? = some (.cells #[.string t.nm, .slice (some ⟨gc, 0, none⟩) t.cs.length cc, .slice (some ⟨gq, oq, none⟩) t.ks.length D, .int .i64 (max t.pa (-1)), .int .i64 t.mo] 25 (0, 0)) := by rw [hW2]; exact (block_setCell B11 _).trans rfl
  have B22 : W2.heap[w.heap.size + 1]? = _ := c2.at_ B21 (by omega)
  have sC2 := sC.kept c2 (fun g e => by cases e; show ¬ gc = w.heap.size; omega)
  have bw1 : Below w.heap.size w w1 := Hb0.out.trans (below_grown g1 (by rw [HS0.out]; omega))
  have bw2 : Below w.heap.size w W2 := bw1.trans (c2.below (by have := lt_of_heap B11; omega) (fun i e => by omega))
  have i2 : W2.cell? ⟨w.heap.size, 2, none⟩ = some (.slice (some ⟨gq, oq, none⟩) t.ks.length D) := (cell_of_block B12 2).trans rfl
  have CK2 := mkHid (CK.out W2 bw2)
  have HW2 := mkHid hW2
  have HB12 := mkHid B12
  have HB22 := mkHid B22
  have HC2 := mkHid sC2
  have Hbw2 := mkHid bw2
  have sz2 : w1.heap.size = W2.heap.size := by rw [hW2]; simp
  have hgc2 : gc < W2.heap.size := by omega
  clear g1 B11 B21 sC c2 B12 B22 sC2 bw1 bw2 HB1 HB2 HS0 Hb0 CC0 CK lc sz2
  subst hW2
  go_wp2_with fail
  refine CK2.out.mono ?_
  rintro e w3 ⟨gk, ck, rfl, sK, g3, hgk⟩
  obtain ⟨W2, hW2⟩ : ∃ W2, W2 = w1.setCell ⟨w.heap.size, 1, none⟩ (.slice (some ⟨gc, 0, none⟩) t.cs.length cc) := ⟨_, rfl⟩
  rw [← hW2] at g3 hgk HB12 HB22 HC2 Hbw2 hgc2
  have B13 : w3.heap[w.heap.size]? = _ := (g3.block _ (lt_of_heap HB12.out) (by simp)).trans HB12.out
  have B23 : w3.heap[w.heap.size + 1]? = _ := (g3.block _ (lt_of_heap HB22.out) (by simp)).trans HB22.out
  have sC3 := HC2.out.kept (Chg.of_none g3 (fun _ => False)) (fun _ _ h => h)
  have lk := shr_lt sK
  have k2 : w3.cell? ⟨w.heap.size, 2, none⟩ = some (.slice (some ⟨gq, oq, none⟩) t.ks.length D) := (cell_of_block B13 2).trans rfl
  have f2 := unfrozen_of_block B13 2
  obtain ⟨W4, hW4⟩ : ∃ W4, W4 = w3.setCell ⟨w.heap.size, 2, none⟩ (.slice (some ⟨gk, 0, none⟩) t.ks.length ck) := ⟨_, rfl⟩
  have c4 : Chg (fun i => i = w.heap.size) w3 W4 := by rw [hW4]; exact Chg.of_cell w3 ⟨w.heap.size, 2, none⟩ _
  have B14 : W4.heap[w.heap.size]? = some (.cells #[.string t.nm, .slice (some ⟨gc, 0, none⟩) t.cs.length cc, .slice (some ⟨gk, 0, none⟩) t.ks.length ck, .int .i64 (max t.pa (-1)), .int .i64 t.mo] 25 (0, 0)) := by rw [hW4]; exact (block_setCell B13 _).trans rfl
  have B24 : W4.heap[w.heap.size + 1]? = _ := c4.at_ B23 (by omega)
  have hb1 := lt_of_heap HB12.out
  have hb2 := lt_of_heap HB22.out
  have sC4 := sC3.kept c4 (fun g e => by cases e; show ¬ gc = w.heap.size; omega)
  have sK4 := sK.kept c4 (fun g e => by cases e; show ¬ gk = w.heap.size; omega)
  have bw4 : Below w.heap.size w W4 := (Hbw2.out.trans (below_grown g3 Hbw2.out.size)).trans (c4.below (by have := g3.size; omega) (fun i e => by omega))
  have n2 : W4.cell? ⟨w.heap.size, 2, none⟩ = some (.slice (some ⟨gk, 0, none⟩) t.ks.length ck) := (cell_of_block B14 2).trans rfl
  have HJ0 := mkHid (KJ.start (R := R) sK4)
  have hgg : gk ≠ gc := by omega
  have hgk1 : w.heap.size + 1 < gk := by omega
  have HB14 := mkHid B14
  have HB24 := mkHid B24
  have HSC := mkHid sC4
  have Hbw4 := mkHid bw4
  have hs4 : w.heap.size + 1 < W4.heap.size := lt_of_heap B24
  have HW4 := mkHid hW4
  clear g3 hgk HB12 HB22 HC2 Hbw2 hgc2 B13 B23 sC3 c4 B14 B24 sC4 sK4 bw4 sK lk hb1 hb2 CK2 i2 j1 f1 hW2 hW4
  go_wp2_with fail
  rw [← HW4.out]
  clear k2 f2 HW4
  go_loopw [3, 4, 20] (fun _ _ s wr => ∃ (k : Nat) (L : List Kq), s = .int .i64 k ∧ k ≤ t.ks.length ∧ Hid (KJ W4 wr gk ck k t.ks.length L R)) (fun _ _ s _ => t.ks.length - (intOf s).toNat)
  case atStart => exact ⟨0, [], rfl, Nat.zero_le _, HJ0⟩
  case round =>
    obtain ⟨k, L, rfl, hk, hd⟩ := hrel
    have hc4 := hd.out.chg
    have B1r : wr.heap[w.heap.size]? = _ := hc4.at_ HB14.out (by omega)
    have B2r : wr.heap[w.heap.size + 1]? = _ := hc4.at_ HB24.out (by omega)
    have bwr : Below w.heap.size w wr := Hbw4.out.trans (hc4.below (by omega) (fun i e => by omega))
    have zr := hc4.size
    by_cases hkl : k < t.ks.length
    · obtain ⟨r, hr⟩ : ∃ r, R[k]? = some r := ⟨R[k]'(by have := HRL.out; omega), List.getElem?_eq_getElem (by have := HRL.out; omega)⟩
      have hlt := shr_lt hd.out.row
      have hLk := hd.out.hk
      have hcell : ∀ i u, (krE r)[i]? = some u → wr.cell? ⟨gk, k * 3 + i, none⟩ = some u := fun i u hi => by
        refine shr_cells hd.out.row (k * 3 + i) u ?_
        have hl3 : (fl kqE L).length = k * 3 := by rw [fl_len kqE_len, hLk]
        rw [List.getElem?_append_right (by omega), hl3, Nat.add_sub_cancel_left, drop_at hr, fl_cons, List.getElem?_append_left (List.getElem?_eq_some_iff.1 hi).1]
        exact hi
      have d0 := hcell 0 _ rfl
      have d1 := hcell 1 _ rfl
      have d2 := hcell 2 _ rfl
      rw [Nat.add_zero] at d0
      obtain ⟨ad, had, _⟩ := CI.out wr r bwr (List.mem_of_getElem? hr)
      obtain ⟨WB, hWB⟩ : ∃ WB, WB = wr.alloc (.cells #[.string r.k.nm, .slice (some ad) r.k.cs.length r.c, .bool r.k.uq] 46) := ⟨_, rfl⟩
      have bB : Below wr.heap.size wr WB := by rw [hWB]; exact (Below.refl _ wr).alloc (Nat.le_refl _) _
      have sB : WB.heap.size = wr.heap.size + 1 := by rw [hWB]; simp
      have bwB : Below w.heap.size w WB := bwr.trans (bB.mono bwr.size)
      obtain ⟨_, _, CI1⟩ := CI.out WB.drew r bwB.drew (List.mem_of_getElem? hr)
      rw [had] at CI1 d1
      have HCI := mkHid CI1
      have t2 : WB.drew.cell? ⟨w.heap.size, 2, none⟩ = some (.slice (some ⟨gk, 0, none⟩) t.ks.length ck) := (bB.cell (p := ⟨w.heap.size, 2, none⟩) (by show w.heap.size < _; omega)).trans ((cell_of_block B1r 2).trans rfl)
      have t2' : WB.cell? ⟨w.heap.size, 2, none⟩ = some (.slice (some ⟨gk, 0, none⟩) t.ks.length ck) := t2
      have xb : WB.drew.cell? ⟨wr.heap.size, 1, none⟩ = some (.slice (some ad) r.k.cs.length r.c) := by rw [hWB]; simp
      have HLT : Hid (∀ (w5 : World), WB.drew.grownBy w5 none → (w5.cell? ⟨w.heap.size, 2, none⟩ = some (.slice (some ⟨gk, 0, none⟩) t.ks.length ck)) ∧ w5.cell? ⟨wr.heap.size, 1, none⟩ = some (.slice (some ad) r.k.cs.length r.c) ∧ (∃ v, w5.cell? ⟨gk, k * 3 + 1, none⟩ = some v) ∧ w5.frozen? ⟨gk, k * 3 + 1, none⟩ = false) := fun w5 h5 => by
        have h5' : WB.grownBy w5 none := ⟨h5.os, h5.tape, h5.output, h5.size, h5.block⟩
        refine ⟨h5.cell t2 (by simp), h5.cell xb (by simp), ?_⟩
        have ho : shr w5 46 3 (.slice (some ⟨gk, 0, none⟩) t.ks.length ck) t.ks.length (fl kqE L ++ fl krE (R.drop k)) := (hd.out.row.kept (chgBl bB) (fun g e => by cases e; show ¬ wr.heap.size ≤ gk; omega)).kept (Chg.of_none h5' (fun _ => False)) (fun _ _ h => h)
        exact (blk_shr ho).cell (o := k * 3 + 1) (by omega)
      have HNX : Hid (∀ (w5 : World) (g c : Nat), WB.drew.grownBy w5 none → shr w5 3 1 (.slice (some ⟨g, 0, none⟩) r.k.cs.length c) r.k.cs.length (fl inE r.k.cs) → WB.drew.heap.size ≤ g → ∃ L', KJ W4 (w5.setCell ⟨gk, k * 3 + 1, none⟩ (.slice (some ⟨g, 0, none⟩) r.k.cs.length c)) gk ck (k + 1) t.ks.length L' R) := fun w5 g c h5 hs hg => by
        have hg' : WB.heap.size ≤ g := hg
        refine ⟨_, hd.out.next hr ?_ hs (by omega)⟩
        exact ⟨h5.os.trans bB.os, h5.tape.trans bB.tape, h5.output.trans bB.output, by have : WB.heap.size ≤ w5.heap.size := h5.size; omega, fun i hi hn => by
          rw [h5.block i (by show i < WB.heap.size; omega) (by simp)]; exact bB.block i (by omega)⟩
      clear hd hc4 B1r B2r bwr hcell bB bwB CI1 HJ0 hr hLk
      subst hWB
      go_wp2_with fail
      refine wp_region_noPanic ?_
      refine wp_region_held_drew (S := fun w' => w'.cell? ⟨w.heap.size, 2, none⟩ = some (.slice (some ⟨gk, 0, none⟩) t.ks.length ck) ∧ w'.cell? ⟨wr.heap.size, 1, none⟩ = some (.slice (some ad) r.k.cs.length r.c)) (by kernel_rfl) (⟨t2, xb⟩) (fun hH => ?_)
      refine take_at (i := 0) (v := .pointer (some ⟨w.heap.size, 2, none⟩)) rfl rfl (by kernel_rfl) (by kernel_rfl) (by kernel_rfl) (fun _ _ _ h => h) (Or.inl ⟨by rfl, ?_⟩) hH ?_
      · intro w5 hSw; obtain ⟨q1, q2⟩ := hSw; go_simp
      simp only [List.setIfInBounds_toArray, List.set_cons_zero, List.set_cons_succ]
      refine take_at (i := 1) (v := .slice (some ⟨gk, 0, none⟩) t.ks.length ck) rfl rfl (by kernel_rfl) (by kernel_rfl) (by kernel_rfl) (fun _ _ _ h => h) (Or.inl ⟨by rfl, ?_⟩) hH ?_
      · intro w5 hSw; obtain ⟨q1, q2⟩ := hSw; go_simp
      simp only [List.setIfInBounds_toArray, List.set_cons_zero, List.set_cons_succ]
      refine take_at (i := 2) (v := .int .i64 (k : Int)) rfl rfl (by kernel_rfl) (by kernel_rfl) (by kernel_rfl) (fun _ _ _ h => h) (Or.inl ⟨by rfl, ?_⟩) hH ?_
      · intro w5 hSw; obtain ⟨q1, q2⟩ := hSw; go_simp
      simp only [List.setIfInBounds_toArray, List.set_cons_zero, List.set_cons_succ]
      refine take_at (i := 3) (v := .pointer (some ⟨wr.heap.size, 1, none⟩)) rfl rfl (by kernel_rfl) (by kernel_rfl) (by kernel_rfl) (fun _ _ _ h => h) (Or.inl ⟨by rfl, ?_⟩) hH ?_
      · intro w5 hSw; obtain ⟨q1, q2⟩ := hSw; go_simp
      simp only [List.setIfInBounds_toArray, List.set_cons_zero, List.set_cons_succ]
      refine take_at (i := 4) (v := .slice (some ad) r.k.cs.length r.c) rfl rfl (by kernel_rfl) (by kernel_rfl) (by kernel_rfl) (fun _ _ _ h => h) (Or.inl ⟨by rfl, ?_⟩) hH ?_
      · intro w5 hSw; obtain ⟨q1, q2⟩ := hSw; go_simp
      simp only [List.setIfInBounds_toArray, List.set_cons_zero, List.set_cons_succ]
      refine wpAnyH_ready (rs := [5]) (by kernel_rfl) (by simp) ?_
      refine AllReadyH.cons rfl (fun K hK => ?_) AllReadyH.nil
      go_simp
      refine HCI.out.mono ?_
      rintro e w5 ⟨g5, c5, rfl, s5, y5, h5⟩
      obtain ⟨l2, l5, ⟨v5, l3⟩, l4⟩ := HLT.out w5 y5
      have NX := mkHid (HNX.out w5 g5 c5 y5 s5 h5)
      clear s5 y5 h5
      have hH9 := hH
      clear hH
      refine hK.out _ _ (⟨l2, l5⟩) (fun hH => ?_)
      clear hK K
      try simp only [Act.put, List.setIfInBounds_toArray, List.set_cons_zero, List.set_cons_succ]
      refine take_at (i := 6) (v := .pointer (some ⟨gk, k * 3, none⟩)) rfl rfl (by kernel_rfl) (by kernel_rfl) (by kernel_rfl) (fun _ _ _ h => h) (Or.inl ⟨by rfl, ?_⟩) hH ?_
      · intro w5 hSw; obtain ⟨q1, q2⟩ := hSw; go_simp
      simp only [List.setIfInBounds_toArray, List.set_cons_zero, List.set_cons_succ]
      refine take_at (i := 7) (v := .pointer (some ⟨gk, k * 3 + 1, none⟩)) rfl rfl (by kernel_rfl) (by kernel_rfl) (by kernel_rfl) (fun _ _ _ h => h) (Or.inl ⟨by rfl, ?_⟩) hH ?_
      · intro w5 hSw; obtain ⟨q1, q2⟩ := hSw; go_simp
      simp only [List.setIfInBounds_toArray, List.set_cons_zero, List.set_cons_succ]
      refine wpAnyH_ready (rs := [8]) (by kernel_rfl) (by simp) ?_
      refine AllReadyH.cons rfl (fun K hK => ?_) AllReadyH.nil
      go_simp
      have hH9 := hH
      clear hH
      refine hK.out _ _ (⟨cell_set_ne l2 (by show w.heap.size ≠ gk; omega), cell_set_ne l5 (by show wr.heap.size ≠ gk; omega)⟩) (fun hH => ?_)
      clear hK K
      refine wpAnyH_done (by kernel_rfl) ?_ _
      refine NoPanic.normal ?_
      obtain ⟨L', HL'⟩ := NX.out
      go_wp2_with fail
      go_roundw
      case rel => exact ⟨k + 1, L', by go_num, hkl, HL'⟩
      case measure => simp [intOf]; omega
    · have hkm : k = t.ks.length := by omega
      subst hkm
      have HWR := mkHid bwr
      have i0 : wr.cell? ⟨w.heap.size, 0, none⟩ = some (.string t.nm) := (cell_of_block B1r 0).trans rfl
      have i1 : wr.cell? ⟨w.heap.size, 1, none⟩ = some (.slice (some ⟨gc, 0, none⟩) t.cs.length cc) := (cell_of_block B1r 1).trans rfl
      have i2 : wr.cell? ⟨w.heap.size, 2, none⟩ = some (.slice (some ⟨gk, 0, none⟩) t.ks.length ck) := (cell_of_block B1r 2).trans rfl
      have i3 : wr.cell? ⟨w.heap.size, 3, none⟩ = some (.int .i64 (max t.pa (-1))) := (cell_of_block B1r 3).trans rfl
      have i4 : wr.cell? ⟨w.heap.size, 4, none⟩ = some (.int .i64 t.mo) := (cell_of_block B1r 4).trans rfl
      have o0 : wr.cell? ⟨w.heap.size + 1, 0, none⟩ = some (.string ⟨#[]⟩) := (cell_of_block B2r 0).trans rfl
      have o1 : wr.cell? ⟨w.heap.size + 1, 1, none⟩ = some (.slice none 0 0) := (cell_of_block B2r 1).trans rfl
      have o2 : wr.cell? ⟨w.heap.size + 1, 2, none⟩ = some (.slice none 0 0) := (cell_of_block B2r 2).trans rfl
      have o3 : wr.cell? ⟨w.heap.size + 1, 3, none⟩ = some (.int .i64 0) := (cell_of_block B2r 3).trans rfl
      have o4 : wr.cell? ⟨w.heap.size + 1, 4, none⟩ = some (.int .i64 0) := (cell_of_block B2r 4).trans rfl
      have y0 := unfrozen_of_block B2r 0
      have y1 := unfrozen_of_block B2r 1
      have y2 := unfrozen_of_block B2r 2
      have y3 := unfrozen_of_block B2r 3
      have y4 := unfrozen_of_block B2r 4
      have HD := mkHid hd.out
      clear hd hc4 B1r B2r bwr HJ0
      go_wp2_with fail
      refine bodyPost_ret (v := tbV (plT t) (some ⟨gc, 0, none⟩) (some ⟨gk, 0, none⟩) cc ck) (by simp [results, Tryz.results31, go_sem, o0, o1, o2, o3, o4, plT]) rfl ?_
      have CF := (((((Chg.refl (fun i => i = w.heap.size + 1) wr).set ⟨w.heap.size + 1, 0, none⟩ (.string t.nm) rfl).set ⟨w.heap.size + 1, 1, none⟩ (.slice (some ⟨gc, 0, none⟩) t.cs.length cc) rfl).set ⟨w.heap.size + 1, 2, none⟩ (.slice (some ⟨gk, 0, none⟩) t.ks.length ck) rfl).set ⟨w.heap.size + 1, 3, none⟩ (.int .i64 (max t.pa (-1))) rfl).set ⟨w.heap.size + 1, 4, none⟩ (.int .i64 t.mo) rfl
      have D := HD.out
      have hrow := D.row
      rw [List.drop_eq_nil_of_le (by rw [HRL.out]; exact Nat.le_refl _)] at hrow
      refine ⟨_, _, _, _, L, rfl, ⟨?_, ?_, ?_, fun q hq => ?_, by show w.heap.size ≤ gc; omega, by show w.heap.size ≤ gk; omega, fun q hq => ?_⟩, HWR.out.trans (CF.below (by omega) (fun i e => by omega))⟩
      · exact (HSC.out.kept D.chg (fun g e => by cases e; exact fun e => hgg e.symm)).kept CF (fun g e => by cases e; show ¬ gc = w.heap.size + 1; omega)
      · have := hrow.kept CF (fun g e => by cases e; show ¬ gk = w.heap.size + 1; omega)
        rw [show fl krE [] = [] from rfl, List.append_nil] at this
        exact this
      · show L.map (·.k) = t.ks
        rw [D.hL, HR.out, List.take_length]
      · have := D.lo q hq
        exact (D.ints q hq).kept CF (fun g e => by cases e; show ¬ q.g = w.heap.size + 1; omega)
      · have := D.lo q hq
        omega
end Go.Proofs.YtecebjfcokmmkaaGreatDoor
