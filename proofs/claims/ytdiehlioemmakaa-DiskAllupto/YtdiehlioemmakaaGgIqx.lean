/-
  The law DiskAll.
-/
import Derived.Test.YtdiehlioemmakaaGgHqx
namespace Go.Proofs.Ytdiehlioemmakaa
open Go.RowKit Go.Maps Go.Joins

theorem wp_app (t : TypeId) {ops : Array Oper} {rest : List Oper} {o : Oper} {a : Act} {w : World} {Q : Exit → Act → World → Prop} (hgd : o.guard = none) (s x : Operand) (ho : o.op = .call { callee := .builtin .append, args := #[s, x], argTypes := #[t, t] })
    {v y v' : Value} {w' : World} (hs : a.eval s = v) (hx : a.eval x = y) (hr : ∀ ty, (Builtin.append_ #[t, t] ty #[v, y]).run Try.prog w = .ok v' w') (h : wpList Try.prog ops Q rest (a.put o.dst v') w') : wpList Try.prog ops Q (o :: rest) a w := by
  refine wpList_plain hgd fun K hK => ?_
  unfold Oper.wp execOp
  simp only [ho, resolve, invoke, builtin, Sem.run_bind, Sem.run_pure, Result.andThen_ok, List.map_toArray, List.map_cons, List.map_nil, hs, hx, hr]
  exact hK _ _ h
theorem AllQ.cur {w0 wr : World} {b prc g n cap N : Nat} (h : AllQ w0 wr b prc g n cap N) : Calls Try.prog 11 #[.pointer (some ⟨prc, 0, none⟩)] wr fun e w' => e = .returned (.bool true) ∧ wr.grownBy w' none := by
  obtain ⟨⟨Py, s, fp, fr, olds, G, hB, _⟩, _⟩ := h
  exact Stands_any hB.pr
theorem AllQ.begin {w w1 : World} {q : Int} {fp fr pr : Nat} (hB : Both (fun i => i = fp) w1 w.heap.size fp fr pr (st0 q) 0) (hb : Below w.heap.size w w1) : AllQ w (w1.alloc (.cells #[.pointer (some ⟨pr, 0, none⟩)] 23)) w.heap.size pr w1.heap.size 1 1 0 := by
  have g1 := World.grownBy_alloc w1 (.cells #[.pointer (some ⟨pr, 0, none⟩)] 23) none
  have hl := hB.lt
  have hfp : fp < w1.heap.size := hl.2.2.2 fp rfl
  refine ⟨⟨_, _, fp, fr, [], fun i => i = fp ∨ i = fr, hB.grow g1, fun o ho => by simp at ho, fun i hi => Or.inl hi, Or.inr rfl, fun i hi => ?_, ⟨⟨_, heap_alloc_new _ _, rfl, fun j p hj => ?_, fun j c hj => ?_⟩, rfl, Nat.le_refl _⟩, fun e => ?_, ?_⟩, bgrew hb g1 hb.size, hb.size, by omega⟩
  · have := g1.size
    rcases hi with hi | hi
    · have hi : i = fp := hi
      omega
    · have hi : i = fr := hi
      have := hl.1
      omega
  · rcases j with _ | j
    · simp at hj; subst hj; rfl
    · simp at hj
  · rcases j with _ | j
    · simp at hj; subst hj; exact ⟨_, rfl⟩
    · simp at hj
  · have e : w1.heap.size = fp := e
    omega
  · have := hl.1
    omega
set_option maxHeartbeats 8000000 in
set_option maxRecDepth 1000000 in
theorem DiskAll_bad (q : Int) (va : Value) (w : World) (h : q < 0 ∨ 16777216 < q) : Calls Try.prog 3 #[.int .i64 q, va] w fun e w' => e = .returned (.bool true) ∧ Below w.heap.size w w' := by
  have PL := mkHid (Begins_bad q w h)
  go_enter Try.func3, Try.ntmps3
  go_wp2_with fail
  refine PL.out.mono ?_
  rintro e wx ⟨rfl, hwx⟩; have hwx2 := hwx.symm; subst hwx2; clear hwx
  go_wp2_with fail
  go_ret
  exact ⟨rfl, Below.refl _ _⟩
set_option maxHeartbeats 8000000 in
set_option maxRecDepth 1000000 in
theorem DiskAll_ok (q : Int) (l : List AcV) (Pa : Option Addr) (Ca : Nat) (w : World) (h0 : 0 ≤ q) (h1 : q ≤ 16777216) (hl : l.length ≤ 1900000) (ha : acsIn w w.heap.size Pa l) : Calls Try.prog 3 #[.int .i64 q, .slice Pa l.length Ca] w fun e w' => e = .returned (.bool true) ∧ Below w.heap.size w w' := by
  have BG := mkHid (Begins_ok q w h0 h1)
  have AC := mkHid ha
  obtain ⟨L, hL⟩ : ∃ L, L = l.length := ⟨_, rfl⟩
  have HL := mkHid hL
  rw [← hL] at hl ⊢
  clear ha hL h0 h1
  unfold BegQ at BG
  go_enter Try.func3, Try.ntmps3
  go_wp2_with fail
  refine BG.out.mono ?_
  rintro e w1 ⟨fp0, fr0, pr0, rfl, B1, E1⟩
  have AQ0 := mkHid (AllQ.begin B1 E1)
  obtain ⟨W2, hW2⟩ : ∃ W2, W2 = w1.alloc (.cells #[.pointer (some ⟨pr0, 0, none⟩)] 23) := ⟨_, rfl⟩
  obtain ⟨g0, hg0⟩ : ∃ g0, g0 = w1.heap.size := ⟨_, rfl⟩
  rw [← hW2, ← hg0] at AQ0
  have HW2 := mkHid hW2
  have HG0 := mkHid hg0
  clear B1 E1 BG hW2 hg0
  go_wp2_with fail
  rw [← show W2 = _ from HW2.out, ← show g0 = _ from HG0.out]
  clear HW2 HG0
  go_loopw [5, 7, 8, 9] (fun s5 s7 s8 _ wr => ∃ (i prc g n cap : Nat), s5 = .pointer (some ⟨prc, 0, none⟩) ∧ s7 = .slice (some ⟨g, 0, none⟩) n cap ∧ s8 = .int .i64 (i : Int) ∧ i ≤ L ∧ Hid (AllQ w wr w.heap.size prc g n cap i)) (fun _ _ s8 _ _ => L - (intOf s8).toNat)
  case atStart => exact ⟨0, pr0, g0, 1, 1, rfl, rfl, rfl, Nat.zero_le _, AQ0⟩
  case round =>
    obtain ⟨i, prc, g, n, cap, rfl, rfl, rfl, hi, AQ⟩ := hrel
    by_cases hlt : i < L
    · have hlti : (i : Int) < (L : Int) := by omega
      obtain ⟨a, hga⟩ : ∃ a, l[i]? = some a := ⟨l[i]'(by have : L = l.length := HL.out; omega), List.getElem?_eq_getElem _⟩
      obtain ⟨ga, oa, rfl, hgb, hcs⟩ : ∃ g o, Pa = some ⟨g, o, none⟩ ∧ g < w.heap.size ∧ ∀ i a, l[i]? = some a → acAt w g (o + i * 6) a := by
        rcases AC.out.at_ with e | e
        · rw [e] at hga; simp at hga
        · exact e
      have HCS := mkHid hcs
      clear hcs
      have kc := ((HCS.out i a hga).chg (chgBl AQ.out.bel) (by omega)).1
      have hwk := World.block_lt_of_cell? wr _ kc
      have hwl := hwk
      by_cases hk9 : a.k = 9
      · rw [hk9] at kc
        clear hk9
        obtain ⟨⟨Py, s, fp, fr, olds, G, hB, hO, hP, hf, hG, hA, hng, hgf⟩, BL, bg, n21⟩ := AQ.out
        have f0 : wr.cell? ⟨prc, 0, none⟩ = some (.pointer (some ⟨fp, 0, none⟩)) := (cell_of_block hB.p 0).trans rfl
        have f1 : wr.cell? ⟨prc, 1, none⟩ = some (.pointer (some ⟨fr, 0, none⟩)) := (cell_of_block hB.p 1).trans rfl
        have hwp := lt_of_heap hB.p
        obtain ⟨st, mo, xs, us, d, j, PR⟩ := hB.split
        have hbd := hB.bd
        have hul := j.ul
        have hnm : ∀ p ∈ xs, p.1.length ≤ 64 := fun p hp => (nm_len (j.names (p.1, (p.2.l, p.2.k)) (List.mem_map.2 ⟨p, hp, rfl⟩))).2
        have CL := mkHid (Clone_dsk w.heap.size fp s.q st mo xs us wr j.so (by have := j.len.2; omega) hnm (by omega) d)
        have hlost : ∀ i, lostS us i → Py i := fun i hi => d.lostP hi
        have CPY : Hid (∀ w4, wr.grownBy w4 none → Calls Try.prog 9 #[.pointer (some ⟨fr, 0, none⟩)] w4 fun e w' => CyQ (ext (lostS us) wr w4) w4 s e w') := fun w4 g4 => refCopy_any fr s w4 (PR.away (Chg.of_none g4 _)).r (by omega) (by omega)
        have FIN : Hid (n ≤ 20 → ∀ (w4 w5 w6 W7 W8 : World) (f2 m2 fr2 pr2 g' cap' : Nat) (xs2 : List (List UInt8 × Fl)), wr.grownBy w4 none → absX xs2 = absX xs → Dsk (ext (lostS us) wr w4) w4 w.heap.size f2 s.q st (some m2) xs2 us → Rf (ext (lostS us) wr w4) w5 fr2 s → w4.heap.size ≤ fr2 → w4.grownBy w5 none → w6 = w5.alloc (.cells #[.pointer (some ⟨f2, 0, none⟩), .pointer (some ⟨fr2, 0, none⟩)] 34) → pr2 = w5.heap.size → W7 = w6.alloc (.cells #[.pointer (some ⟨pr2, 0, none⟩)] 23) → AlR W8 g' (n + 1) cap' (olds.map (·.pr) ++ [prc] ++ [pr2]) → Chg (fun i => i = g) W7 W8 → (g' = g ∨ W7.heap.size ≤ g') → AllQ w W8 w.heap.size pr2 g' (n + 1) cap' i) := fun hn20 w4 w5 w6 W7 W8 f2 m2 fr2 pr2 g' cap' xs2 k1 k2 k3 k4 k5 k6 k7 k8 k9 k10 k11 k12 => AllQ.clone hB hO hP hA hng BL bg hn20 j hlost PR k1 k2 k3 k4 k5 k6 k7 k8 k9 k10 k11 k12
        have ALR : Hid (∀ W, wr.grownBy W none → AlR W g n cap (olds.map (·.pr) ++ [prc])) := fun W gW => hA.grow gW
        have BLR : Hid (Below w.heap.size w wr ∧ w.heap.size ≤ wr.heap.size) := ⟨BL, BL.size⟩
        unfold ClQ at CL
        clear hB hO hP hf hG hA hng hgf BL bg d j PR hnm hlost hul hbd AQ AQ0
        go_wp2_with fail
        refine CL.out.mono ?_
        rintro e w4 ⟨f2, m2, xs2, rfl, ab4, D4, g4, hf2⟩
        have k1 := g4.cell f1 (by simp)
        have hwp4 := World.block_lt_of_cell? w4 _ k1
        have G4 := mkHid g4
        have CY := mkHid (CPY.out w4 g4)
        unfold CyQ at CY
        have AB4 := mkHid ab4
        have DD4 := mkHid D4
        clear ab4 D4 g4 CPY CL f0 f1
        by_cases hn20 : n ≤ 20
        · have hn20i : ¬ (20 : Int) < (n : Int) := by omega
          go_wp2_with fail
          refine CY.out.mono ?_
          rintro e w5 ⟨fr2, rfl, hf5, R5, g5⟩
          obtain ⟨w6, h6⟩ : ∃ w6, w6 = w5.alloc (.cells #[.pointer (some ⟨f2, 0, none⟩), .pointer (some ⟨fr2, 0, none⟩)] 34) := ⟨_, rfl⟩
          obtain ⟨pr2, hp2⟩ : ∃ pr2, pr2 = w5.heap.size := ⟨_, rfl⟩
          obtain ⟨W7, h7⟩ : ∃ W7, W7 = w6.alloc (.cells #[.pointer (some ⟨pr2, 0, none⟩)] 23) := ⟨_, rfl⟩
          have g6 : w5.grownBy w6 none := by rw [h6]; exact World.grownBy_alloc w5 _ none
          obtain ⟨g', cap', W8, run8, A8, c8, hg8⟩ := al_app (ALR.out w6 (grTrans (grTrans G4.out g5) g6)) pr2 (by omega) h7
          have AQ := mkHid (FIN.out hn20 w4 w5 w6 W7 W8 f2 m2 fr2 pr2 g' cap' xs2 G4.out AB4.out DD4.out R5 hf5 g5 h6 hp2 h7 A8 c8 hg8)
          have h76 : w6.heap.size = w5.heap.size + 1 := by rw [h6]; simp
          have HH : Hid (w6 = w5.alloc (.cells #[.pointer (some ⟨f2, 0, none⟩), .pointer (some ⟨fr2, 0, none⟩)] 34) ∧ pr2 = w5.heap.size ∧ W7 = w6.alloc (.cells #[.pointer (some ⟨pr2, 0, none⟩)] 23)) := ⟨h6, hp2, h7⟩
          rw [h7, hp2, h6] at run8
          rw [← h6, h76, h6] at run8
          clear hf5 R5 g5 g6 A8 c8 hg8 CY FIN ALR AB4 DD4 G4 BLR h6 hp2 h7 h76
          obtain ⟨⟨Py, s, fp, fr, olds, G, hB, hO, hP, hf, hG, hA, hng, hgf⟩, BL, bg, n21⟩ := AQ.out
          have cs := (HCS.out i a hga).chg (chgBl BL) (by omega)
          obtain ⟨c0, c1, c2, c3, c4, c5⟩ := cs
          have hok := (AC.out.ok a (List.mem_of_getElem? hga)).below BL
          have DO := mkHid (Does_any hB (by omega) a hok)
          have NEXT : Hid (∀ w', DoesQ Py W8 w.heap.size fp fr pr2 (i + 1) w' → AllQ w w' w.heap.size pr2 g' (n + 1) cap' (i + 1)) := fun w' hD => AllQ.does hB hO hP hf hG hA hng hgf BL bg n21 hD
          have hwlc := World.block_lt_of_cell? W8 _ c0
          clear hB hO hP hf hG hA hng hgf BL bg n21 hok AQ hga
          unfold AcV.val at DO
          go_wp2_with (at_builtin; refine wp_app 26 rfl (.tmp 55) (.tmp 57) rfl rfl rfl run8 ?_)
          rw [← show pr2 = _ from HH.out.2.1]
          clear HH run8
          refine DO.out.mono ?_
          rintro e w2 ⟨rfl, D2⟩
          have AQ2 := mkHid (NEXT.out w2 D2)
          have ST := mkHid AQ2.out.cur
          clear D2 NEXT DO c0 c1 c2 c3 c4 c5 hwlc
          go_wp2_with fail
          refine ST.out.mono ?_
          rintro e w3 ⟨rfl, g3⟩
          have AQ3 := mkHid (AQ2.out.grow g3)
          clear g3 AQ2 ST
          go_wp2_with fail
          go_roundw
          case rel => exact ⟨i + 1, pr2, g', (n + 1), cap', rfl, rfl, by go_num, hlt, AQ3⟩
          case measure => simp [intOf]; omega
        · have hn20i : (20 : Int) < (n : Int) := by omega
          have BF : Hid (Below w.heap.size w w4) := bgrew BLR.out.1 G4.out BLR.out.2
          clear CY FIN ALR AB4 DD4 G4 BLR
          go_wp2_with fail
          go_ret
          exact ⟨rfl, BF.out⟩
      · have hk9b : (a.k == 9) = false := by rw [beq_eq_false_iff_ne]; exact hk9
        clear AQ0
        obtain ⟨⟨Py, s, fp, fr, olds, G, hB, hO, hP, hf, hG, hA, hng, hgf⟩, BL, bg, n21⟩ := AQ.out
        have cs := (HCS.out i a hga).chg (chgBl BL) (by omega)
        obtain ⟨c0, c1, c2, c3, c4, c5⟩ := cs
        have hok := (AC.out.ok a (List.mem_of_getElem? hga)).below BL
        have DO := mkHid (Does_any hB (by omega) a hok)
        have NEXT : Hid (∀ w', DoesQ Py wr w.heap.size fp fr prc (i + 1) w' → AllQ w w' w.heap.size prc g n cap (i + 1)) := fun w' hD => AllQ.does hB hO hP hf hG hA hng hgf BL bg n21 hD
        have hwlc := World.block_lt_of_cell? wr _ c0
        clear hB hO hP hf hG hA hng hgf BL bg n21 hok AQ hga
        unfold AcV.val at DO
        go_wp2_with fail
        refine DO.out.mono ?_
        rintro e w2 ⟨rfl, D2⟩
        have AQ2 := mkHid (NEXT.out w2 D2)
        have ST := mkHid AQ2.out.cur
        clear D2 NEXT DO c0 c1 c2 c3 c4 c5 hwlc
        go_wp2_with fail
        refine ST.out.mono ?_
        rintro e w3 ⟨rfl, g3⟩
        have AQ3 := mkHid (AQ2.out.grow g3)
        clear g3 AQ2 ST
        go_wp2_with fail
        go_roundw
        case rel => exact ⟨i + 1, prc, g, n, cap, rfl, rfl, by go_num, hlt, AQ3⟩
        case measure => simp [intOf]; omega
    · have hlti : ¬ (i : Int) < (L : Int) := by omega
      have SS := mkHid AQ.out.stands
      have n21 := AQ.out.n21
      have BLR : Hid (Below w.heap.size w wr ∧ w.heap.size ≤ wr.heap.size) := ⟨AQ.out.bel, AQ.out.bel.size⟩
      clear AQ AQ0 AC HL
      go_wp2_with fail
      go_loopw [10] (fun s10 wq => ∃ (j : Nat), s10 = .int .i64 (j : Int) ∧ j ≤ n ∧ Hid (wr.grownBy wq none)) (fun s10 _ => n - (intOf s10).toNat)
      case atStart => exact ⟨0, rfl, Nat.zero_le _, gr_refl _⟩
      case round =>
        obtain ⟨j, rfl, hj, GR⟩ := hrel
        by_cases hltj : j < n
        · have hltji : (j : Int) < (n : Int) := by omega
          obtain ⟨p, hc, hst⟩ := SS.out j hltj
          have hcw := GR.out.cell hc (by simp)
          have hwc := World.block_lt_of_cell? _ _ hcw
          have ST := mkHid (hst _ GR.out)
          clear hc hst
          go_wp2_with fail
          refine ST.out.mono ?_
          rintro e w3 ⟨rfl, g3⟩
          have G3 := mkHid (grTrans GR.out g3)
          clear g3 ST
          go_wp2_with fail
          go_roundw
          case rel => exact ⟨j + 1, by go_num, hltj, G3⟩
          case measure => simp [intOf]; omega
        · have hltji : ¬ (j : Int) < (n : Int) := by omega
          have BF := mkHid (bgrew BLR.out.1 GR.out BLR.out.2)
          go_wp2_with fail
          go_ret
          exact ⟨rfl, BF.out⟩
end Go.Proofs.Ytdiehlioemmakaa

