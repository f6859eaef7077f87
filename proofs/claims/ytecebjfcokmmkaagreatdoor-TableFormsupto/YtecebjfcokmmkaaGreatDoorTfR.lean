/-
  The walk of locksteplaw08.Form, itself.
-/
import Derived.Test.YtecebjfcokmmkaaGreatDoorTfQ
namespace Go.Proofs.YtecebjfcokmmkaaGreatDoor
open Go.RowKit Go.Shelf Go.Joins Go.Maps
set_option maxRecDepth 100000

theorem Chg.set {S : Nat → Prop} {w w' : World} (h : Chg S w w') (a : Addr) (u : Value) (ha : S a.block) : Chg S w (w'.setCell a u) := h.trans ((Chg.of_cell w' a u).mono (fun _ _ e => e ▸ ha))
theorem at_alloc (w : World) (cs : Array Value) (e : TypeId) : (w.alloc (.cells cs e)).heap[w.heap.size]? = some (.cells cs e (0, 0)) := heap_alloc_new _ _
set_option maxHeartbeats 8000000 in
set_option maxRecDepth 1000000 in
theorem Form_any (t : Tb) (P Q : Option Addr) (C D : Nat) (w : World) (hin : tbIn w t P Q) (hP : P = none → C = 0) (hG : tbG t) :
    Calls Tryz.prog 4 #[tbV t P Q C D] w fun e w' => FoQ w t e w' := by
  obtain ⟨W0, hW0⟩ : ∃ W0, W0 = (w.alloc (.cells #[.string t.nm, .slice P t.cs.length C, .slice Q t.ks.length D, .int .i64 t.pa, .int .i64 t.mo] 25)).alloc (.cells #[.string ⟨#[]⟩, .slice none 0 0, .slice none 0 0, .int .i64 0, .int .i64 0] 25) := ⟨_, rfl⟩
  have b0 : Below w.heap.size w W0 := by rw [hW0]; exact ((Below.refl _ w).alloc (Nat.le_refl _) _).alloc (by simp) _
  have s0 : W0.heap.size = w.heap.size + 1 + 1 := by rw [hW0]; simp
  have B1 : W0.heap[w.heap.size]? = some (.cells #[.string t.nm, .slice P t.cs.length C, .slice Q t.ks.length D, .int .i64 t.pa, .int .i64 t.mo] 25 (0, 0)) := by
    rw [hW0, heap_alloc_old _ _ (by simp)]; exact at_alloc _ _ _
  have B2 : W0.heap[w.heap.size + 1]? = some (.cells #[.string ⟨#[]⟩, .slice none 0 0, .slice none 0 0, .int .i64 0, .int .i64 0] 25 (0, 0)) := by
    rw [hW0]
    have := at_alloc (w.alloc (.cells #[.string t.nm, .slice P t.cs.length C, .slice Q t.ks.length D, .int .i64 t.pa, .int .i64 t.mo] 25)) #[.string ⟨#[]⟩, .slice none 0 0, .slice none 0 0, .int .i64 0, .int .i64 0] 25
    simpa using this
  have hI0 := hin.below b0
  obtain ⟨w1, w2, r1, r2, sC, g1, g2, z1, z2⟩ := rwCl.copy W0.drew P t.cs.length C (fl clE t.cs) (fl_len clE_len _) (fun e => by
    have h := hI0.1
    rw [e] at h
    rw [none_nilC h]; exact ⟨rfl, hP e⟩) (fun ad had j u hj => cl_cells hI0.1 ad had j u hj) (fl_one clE_one _) (by have := hG.2.1; omega)
  have sd : W0.drew.heap.size = w.heap.size + 1 + 1 := s0
  rw [sd] at r1 r2 sC z1 z2
  have g1' : W0.grownBy w1 none := ⟨g1.os, g1.tape, g1.output, g1.size, g1.block⟩
  have g2' : W0.grownBy w2 none := ⟨g2.os, g2.tape, g2.output, g2.size, g2.block⟩
  have B1a : w1.heap[w.heap.size]? = _ := (g1'.block _ (by omega) (by simp)).trans B1
  have B1b : w2.heap[w.heap.size]? = _ := (g2'.block _ (by omega) (by simp)).trans B1
  have B2b : w2.heap[w.heap.size + 1]? = _ := (g2'.block _ (by omega) (by simp)).trans B2
  have f1 : w1.cell? ⟨w.heap.size, 1, none⟩ = some (.slice P t.cs.length C) := (cell_of_block B1a 1).trans rfl
  have f2 : w2.cell? ⟨w.heap.size, 1, none⟩ = some (.slice P t.cs.length C) := (cell_of_block B1b 1).trans rfl
  have f3 : w2.frozen? ⟨w.heap.size, 1, none⟩ = false := unfrozen_of_block B1b 1
  obtain ⟨W3, hW3⟩ : ∃ W3, W3 = w2.setCell ⟨w.heap.size, 1, none⟩ (.slice (some ⟨w.heap.size + 1 + 1, 0, none⟩) t.cs.length (t.cs.length + 1)) := ⟨_, rfl⟩
  have c3 : Chg (fun i => i = w.heap.size) w2 W3 := by rw [hW3]; exact Chg.of_cell w2 ⟨w.heap.size, 1, none⟩ _
  have s3 : W3.heap.size = w.heap.size + 1 + 1 + 1 := by rw [hW3]; simp; omega
  have B13 : W3.heap[w.heap.size]? = some (.cells #[.string t.nm, .slice (some ⟨w.heap.size + 1 + 1, 0, none⟩) t.cs.length (t.cs.length + 1), .slice Q t.ks.length D, .int .i64 t.pa, .int .i64 t.mo] 25 (0, 0)) := by
    rw [hW3]; exact (block_setCell B1b _).trans rfl
  have B23 : W3.heap[w.heap.size + 1]? = _ := (c3.at_ B2b (by omega))
  have sC3 := sC.kept c3 (fun g e => by cases e; show ¬ w.heap.size + 1 + 1 = w.heap.size; omega)
  have bW3 : Below W0.heap.size W0 w2 := ⟨g2'.os, g2'.tape, g2'.output, g2'.size, fun k hk => g2'.block k hk (by simp)⟩
  have bw3 : Below w.heap.size w W3 := (b0.trans (bW3.mono b0.size)).trans (c3.below (by omega) (fun i e => by omega))
  obtain ⟨W4, r4, sK, g4, z4⟩ := rwKy.make0 W3 (t.ks.length + 1) (by have := hG.2.2.1; omega)
  rw [s3] at r4 sK z4
  have r4' : (Instr.makeSlice 23 (.int .i64 0) (.int .i64 ((t.ks.length : Int) + 1))).run Tryz.prog W3 = .ok (.slice (some ⟨w.heap.size + 1 + 1 + 1, 0, none⟩) 0 (t.ks.length + 1)) W4 := by simpa using r4
  have B14 : W4.heap[w.heap.size]? = _ := (g4.block _ (by omega) (by simp)).trans B13
  have B24 : W4.heap[w.heap.size + 1]? = _ := (g4.block _ (by omega) (by simp)).trans B23
  have sC4 := sC3.kept (Chg.of_none g4 (fun _ => False)) (fun _ _ h => h)
  have bw4 : Below w.heap.size w W4 := bw3.trans ⟨g4.os, g4.tape, g4.output, g4.size, fun k hk => g4.block k (by omega) (by simp)⟩
  have h2 : W3.cell? ⟨w.heap.size, 2, none⟩ = some (.slice Q t.ks.length D) := (cell_of_block B13 2).trans rfl
  have HK0 := mkHid (KI.start (t := t) sK)
  have HIN := mkHid hin
  have HSC := mkHid sC4
  have HB14 := mkHid B14
  have HB24 := mkHid B24
  have HBW := mkHid bw4
  have HZ4 := mkHid z4
  have hln := hG.2.2.1
  have hlm := hG.2.1
  have HG := mkHid hG
  have e1 := mkHid hW3
  clear hW3 hin hI0 b0 s0 B1 B2 sC g1 g2 z1 z2 sd g1' g2' B1a B1b B2b c3 s3 B13 B23 sC3 bW3 bw3 r4 sK g4 sC4 bw4 z4 hG B14 B24 hP
  have wl : IntKind.i64.wrap ((t.cs.length : Int) + 1) = (t.cs.length : Int) + 1 := by rw [IntKind.wrap_i64]; omega
  rw [← wl] at r1
  clear wl
  subst hW0
  go_enter Tryz.func4, Tryz.ntmps4
  go_upto_region 1 with fail
  go_cut [] from 6 to 14 (fun wx => wx = W3)
  case first =>
    go_region_law (first | (refine step_make 22 rfl (.const (.int .i64 0)) (.tmp 9) rfl rfl rfl r1 ?_) | (refine step_app 22 rfl (.tmp 10) (.tmp 12) rfl rfl rfl r2 ?_))
    all_goals (go_wp2_with fail; go_meet; case rel => exact e1.out.symm)
  case rest =>
    subst hcut
    clear r1 r2 f1 f2 f3 e1
    go_wp2_with (at_make; refine wp_make 23 rfl (.const (.int .i64 0)) (.tmp 18) rfl rfl rfl r4' ?_)
    go_loopw [3, 4, 5] (fun s3 s4 _ wr => ∃ (k : Nat) (L : List Kq), s4 = .int .i64 k ∧ k ≤ t.ks.length ∧ s3 = .slice (some ⟨w.heap.size + 1 + 1 + 1, 0, none⟩) k (t.ks.length + 1) ∧ Hid (KI W4 wr t (w.heap.size + 1 + 1 + 1) t.ks.length k L)) (fun _ s _ _ => t.ks.length - (intOf s).toNat)
    case atStart => exact ⟨0, [], rfl, Nat.zero_le _, rfl, HK0⟩
    case round =>
      obtain ⟨k, L, rfl, hk, rfl, hd⟩ := hrel
      have hc4 := hd.out.chg
      have B1r : wr.heap[w.heap.size]? = _ := hc4.at_ HB14.out (by show ¬ w.heap.size = w.heap.size + 1 + 1 + 1; omega)
      have B2r : wr.heap[w.heap.size + 1]? = _ := hc4.at_ HB24.out (by show ¬ w.heap.size + 1 = w.heap.size + 1 + 1 + 1; omega)
      have bwr : Below w.heap.size w wr := HBW.out.trans (hc4.below (by have := HZ4.out; omega) (fun i e => by omega))
      have j2 : wr.cell? ⟨w.heap.size, 2, none⟩ = some (.slice Q t.ks.length D) := (cell_of_block B1r 2).trans rfl
      have szr := hc4.size
      have hZ := HZ4.out
      by_cases hkl : k < t.ks.length
      · obtain ⟨ky, hky⟩ : ∃ x, t.ks[k]? = some x := ⟨t.ks[k], List.getElem?_eq_getElem hkl⟩
        have hI := (HIN.out.below bwr).2
        rcases hI with h | ⟨g, o, rfl, hg, hcs⟩
        · rw [h] at hky; simp at hky
        obtain ⟨Pk, Ck, d0, d1, d2, hi, hPk, hCk⟩ := hcs k ky hky
        have hcl := (HG.out.2.2.2.2 ky (List.mem_of_getElem? hky)).2
        obtain ⟨Wb, hWb⟩ : ∃ Wb, Wb = wr.alloc (.cells #[.string ky.nm, .slice Pk ky.cs.length Ck, .bool ky.uq] 46) := ⟨_, rfl⟩
        have bb : Below wr.heap.size wr Wb := by rw [hWb]; exact (Below.refl _ wr).alloc (Nat.le_refl _) _
        have sb : Wb.heap.size = wr.heap.size + 1 := by rw [hWb]; simp
        have Bb : Wb.heap[wr.heap.size]? = some (.cells #[.string ky.nm, .slice Pk ky.cs.length Ck, .bool ky.uq] 46 (0, 0)) := by rw [hWb]; exact at_alloc _ _ _
        have hib := hi.below bb
        obtain ⟨v1, v2, q1, q2, sI, y1, y2, x1, x2⟩ := rwIn.copy Wb.drew Pk ky.cs.length Ck (fl inE ky.cs) (fl_len inE_len _) (fun e => by
          rw [e] at hib
          rw [none_nil hib]; exact ⟨rfl, hPk e⟩) (fun ad had j u hj => in_cells hib ad had j u hj) (fl_one inE_one _) (by omega)
        have sbd : Wb.drew.heap.size = wr.heap.size + 1 := sb
        rw [sbd] at q1 q2 sI x1 x2
        have wl2 : IntKind.i64.wrap ((ky.cs.length : Int) + 1) = (ky.cs.length : Int) + 1 := by rw [IntKind.wrap_i64]; omega
        rw [← wl2] at q1
        have y1' : Wb.grownBy v1 none := ⟨y1.os, y1.tape, y1.output, y1.size, y1.block⟩
        have y2' : Wb.grownBy v2 none := ⟨y2.os, y2.tape, y2.output, y2.size, y2.block⟩
        have Bb1 : v1.heap[wr.heap.size]? = _ := (y1'.block _ (by omega) (by simp)).trans Bb
        have Bb2 : v2.heap[wr.heap.size]? = _ := (y2'.block _ (by omega) (by simp)).trans Bb
        have p1 : v1.cell? ⟨wr.heap.size, 1, none⟩ = some (.slice Pk ky.cs.length Ck) := (cell_of_block Bb1 1).trans rfl
        have p2 : v2.cell? ⟨wr.heap.size, 1, none⟩ = some (.slice Pk ky.cs.length Ck) := (cell_of_block Bb2 1).trans rfl
        have p3 : v2.frozen? ⟨wr.heap.size, 1, none⟩ = false := unfrozen_of_block Bb2 1
        obtain ⟨W5, hW5⟩ : ∃ W5, W5 = v2.setCell ⟨wr.heap.size, 1, none⟩ (.slice (some ⟨wr.heap.size + 1, 0, none⟩) ky.cs.length (ky.cs.length + 1)) := ⟨_, rfl⟩
        have c5 : Chg (fun i => i = wr.heap.size) v2 W5 := by rw [hW5]; exact Chg.of_cell v2 ⟨wr.heap.size, 1, none⟩ _
        have B5 : W5.heap[wr.heap.size]? = some (.cells #[.string ky.nm, .slice (some ⟨wr.heap.size + 1, 0, none⟩) ky.cs.length (ky.cs.length + 1), .bool ky.uq] 46 (0, 0)) := by
          rw [hW5]; exact (block_setCell Bb2 _).trans rfl
        have s5 : W5.heap.size = wr.heap.size + 1 + 1 := by rw [hW5]; simp; omega
        have n0 : W5.cell? ⟨wr.heap.size, 0, none⟩ = some (.string ky.nm) := (cell_of_block B5 0).trans rfl
        have n1 : W5.cell? ⟨wr.heap.size, 1, none⟩ = some (.slice (some ⟨wr.heap.size + 1, 0, none⟩) ky.cs.length (ky.cs.length + 1)) := (cell_of_block B5 1).trans rfl
        have n2 : W5.cell? ⟨wr.heap.size, 2, none⟩ = some (.bool ky.uq) := (cell_of_block B5 2).trans rfl
        have C5 : Chg (fun i => wr.heap.size ≤ i) wr W5 := ⟨c5.os.trans (y2'.os.trans bb.os), c5.tape.trans (y2'.tape.trans bb.tape), c5.output.trans (y2'.output.trans bb.output), by omega, fun i hi hn => by
          rw [c5.block i (by omega) (by omega), y2'.block i (by omega) (by simp), bb.block i (by omega)]⟩
        obtain ⟨W6, hW6⟩ : ∃ W6, W6 = W5.alloc (.cells #[.string ky.nm, .slice (some ⟨wr.heap.size + 1, 0, none⟩) ky.cs.length (ky.cs.length + 1), .bool ky.uq] 46) := ⟨_, rfl⟩
        have C6 : Chg (fun i => wr.heap.size ≤ i) W5 W6 := by rw [hW6]; exact Chg.of_alloc _ _ _
        have B6 : W6.heap[W5.heap.size]? = some (.cells #[.string ky.nm, .slice (some ⟨wr.heap.size + 1, 0, none⟩) ky.cs.length (ky.cs.length + 1), .bool ky.uq] 46 (0, 0)) := by
          rw [hW6]; exact at_alloc _ _ _
        have hgk : w.heap.size + 1 + 1 + 1 < wr.heap.size := by omega
        have row6 := (hd.out.row.kept C5 (fun g e => by cases e; show ¬ wr.heap.size ≤ w.heap.size + 1 + 1 + 1; omega)).kept C6 (fun g e => by cases e; show ¬ wr.heap.size ≤ w.heap.size + 1 + 1 + 1; omega)
        obtain ⟨W7, q7, row7, g7, x7⟩ := rwKy.fits row6 (news := kqE ⟨ky, wr.heap.size + 1, ky.cs.length + 1⟩) (m := 1) (c := 1) (P := some ⟨W5.heap.size, 0, none⟩) rfl (fun e => by cases e) (fun ad had j u hj => by
          cases had
          have hj3 : j < 3 := (List.getElem?_eq_some_iff.1 hj).1
          rw [add_plain, Nat.zero_add]
          refine (cell_of_block B6 j).trans ?_
          rcases (show j = 0 ∨ j = 1 ∨ j = 2 by omega) with rfl | rfl | rfl <;> exact hj) (kqE_one _) (by omega)
        have sI5 := sI.kept c5 (fun g e => by cases e; show ¬ wr.heap.size + 1 = wr.heap.size; omega)
        have sI6 := sI5.kept (show Chg (fun _ => False) W5 W6 by rw [hW6]; exact Chg.of_alloc _ _ _) (fun _ _ h => h)
        have C56 : Chg (fun i => wr.heap.size ≤ i) wr W6 := C5.trans C6
        have KN := mkHid (hd.out.next (q := ⟨ky, wr.heap.size + 1, ky.cs.length + 1⟩) hky C56 sI6 (by show wr.heap.size ≤ wr.heap.size + 1; omega) row7 g7)
        have H5 := mkHid hW5
        subst hW6
        clear hW5 hcs hky hi hPk hCk hib bb Bb y1 y2 x1 x2 sbd wl2 y1' y2' Bb1 Bb2 c5 B5 s5 C5 C6 B6 row6 row7 g7 x7 sI5 sI6 C56 sI hd hc4 B1r B2r bwr hg sb
        subst hWb
        go_upto_region 7 with fail
        go_cut [] from 32 to 40 (fun wx => wx = W5)
        case first =>
          go_region_law (first | (refine step_make 44 rfl (.const (.int .i64 0)) (.tmp 35) rfl rfl rfl q1 ?_) | (refine step_app 44 rfl (.tmp 36) (.tmp 38) rfl rfl rfl q2 ?_))
          all_goals (go_wp2_with fail; go_meet; case rel => exact H5.out.symm)
        case rest =>
          subst hcut
          clear q1 q2 p1 p2 p3 H5
          go_wp2_with (at_builtin; refine wp_app 23 rfl (.tmp 41) (.tmp 43) rfl rfl rfl q7 ?_)
          go_roundw
          case rel => exact ⟨k + 1, _, by go_num, hkl, rfl, KN⟩
          case measure => simp [intOf]; omega
      · have hkm : k = t.ks.length := by omega
        subst hkm
        have B1c := mkHid B1r
        have B2c := mkHid B2r
        have HWR := mkHid bwr
        have hlt1 := lt_of_heap B1r
        have hlt2 := lt_of_heap B2r
        have i0 : wr.cell? ⟨w.heap.size, 0, none⟩ = some (.string t.nm) := (cell_of_block B1r 0).trans rfl
        have i1 : wr.cell? ⟨w.heap.size, 1, none⟩ = some (.slice (some ⟨w.heap.size + 1 + 1, 0, none⟩) t.cs.length (t.cs.length + 1)) := (cell_of_block B1r 1).trans rfl
        have i3 : wr.cell? ⟨w.heap.size, 3, none⟩ = some (.int .i64 t.pa) := (cell_of_block B1r 3).trans rfl
        have i4 : wr.cell? ⟨w.heap.size, 4, none⟩ = some (.int .i64 t.mo) := (cell_of_block B1r 4).trans rfl
        have fz := unfrozen_of_block B1r 2
        have o0 : wr.cell? ⟨w.heap.size + 1, 0, none⟩ = some (.string ⟨#[]⟩) := (cell_of_block B2r 0).trans rfl
        have o1 : wr.cell? ⟨w.heap.size + 1, 1, none⟩ = some (.slice none 0 0) := (cell_of_block B2r 1).trans rfl
        have o2 : wr.cell? ⟨w.heap.size + 1, 2, none⟩ = some (.slice none 0 0) := (cell_of_block B2r 2).trans rfl
        have o3 : wr.cell? ⟨w.heap.size + 1, 3, none⟩ = some (.int .i64 0) := (cell_of_block B2r 3).trans rfl
        have o4 : wr.cell? ⟨w.heap.size + 1, 4, none⟩ = some (.int .i64 0) := (cell_of_block B2r 4).trans rfl
        have y0 := unfrozen_of_block B2r 0
        have y1 := unfrozen_of_block B2r 1
        have y2 := unfrozen_of_block B2r 2
        have y3 := unfrozen_of_block B2r 3
        have y4 := unfrozen_of_block B2r 4
        have HD := mkHid hd.out
        clear hd hc4 B1r B2r bwr HK0
        go_wp2_with fail
        refine bodyPost_ret (v := tbV t (some ⟨w.heap.size + 1 + 1, 0, none⟩) (some ⟨w.heap.size + 1 + 1 + 1, 0, none⟩) (t.cs.length + 1) (t.ks.length + 1)) (by simp [results, Tryz.results4, go_sem, o0, o1, o2, o3, o4]) rfl ?_
        have CF := (((((((Chg.refl (fun i => i = w.heap.size ∨ i = w.heap.size + 1) wr).set ⟨w.heap.size, 2, none⟩ (.slice (some ⟨w.heap.size + 1 + 1 + 1, 0, none⟩) t.ks.length (t.ks.length + 1)) (Or.inl rfl)).set ⟨w.heap.size + 1, 0, none⟩ (.string t.nm) (Or.inr rfl)).set ⟨w.heap.size + 1, 1, none⟩ (.slice (some ⟨w.heap.size + 1 + 1, 0, none⟩) t.cs.length (t.cs.length + 1)) (Or.inr rfl)).set ⟨w.heap.size + 1, 2, none⟩ (.slice (some ⟨w.heap.size + 1 + 1 + 1, 0, none⟩) t.ks.length (t.ks.length + 1)) (Or.inr rfl)).set ⟨w.heap.size + 1, 3, none⟩ (.int .i64 t.pa) (Or.inr rfl)).set ⟨w.heap.size + 1, 4, none⟩ (.int .i64 t.mo) (Or.inr rfl))
        have D := HD.out
        have hz := HZ4.out
        refine ⟨_, _, _, _, L, rfl, ⟨?_, ?_, ?_, fun q hq => ?_, by omega, by omega, fun q hq => ?_⟩, HWR.out.trans (CF.below (by omega) (fun i e => by omega))⟩
        · exact (HSC.out.kept D.chg (fun g e => by cases e; show ¬ w.heap.size + 1 + 1 = w.heap.size + 1 + 1 + 1; omega)).kept CF (fun g e => by cases e; show ¬ (w.heap.size + 1 + 1 = w.heap.size ∨ w.heap.size + 1 + 1 = w.heap.size + 1); omega)
        · exact D.row.kept CF (fun g e => by cases e; show ¬ (w.heap.size + 1 + 1 + 1 = w.heap.size ∨ w.heap.size + 1 + 1 + 1 = w.heap.size + 1); omega)
        · rw [D.hL, List.take_length]
        · have := D.lo q hq
          exact (D.ints q hq).kept CF (fun g e => by cases e; show ¬ (q.g = w.heap.size ∨ q.g = w.heap.size + 1); omega)
        · have := D.lo q hq
          omega
end Go.Proofs.YtecebjfcokmmkaaGreatDoor
