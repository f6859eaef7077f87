/-
  The walk of locksteplaw02.RowcodeRows: it answers true.
-/
import Derived.Test.YtedacccedbchaaaDoorBgK
namespace Go.Proofs.YtedacccedbchaaaDoor
open Go.RowKit Go.Shelf

theorem own_caps {w : World} {base e sz n m C : Nat} {P : Option Addr} {xs : List Value} (h : w.ownsRow base e sz (.slice P m C) n xs) : n ≤ C ∧ C ≤ 9223372036854775807 := by
  obtain ⟨P', C', e, _, h1, h2⟩ := row_form h
  simp only [Value.slice.injEq] at e
  omega

set_option maxHeartbeats 4000000 in
set_option maxRecDepth 1000000 in
theorem RowcodeRows_true (P : Option Addr) (C : Nat) (l : List Rw) (PB : Option Addr) (CB : Nat) (b : List UInt8) (w : World) (hP : rowsIn w P l) (hr : ∀ r ∈ l, rwOk w r) (hl : l.length ≤ 1048576) (hk : ∀ r ∈ l, r.la.length ≤ 1048576) (hn : ∀ r ∈ l, r.p = none → r.c = 0)
    (hb : byIn w PB b) (hnb : PB = none → CB = 0) (hlb : b.length ≤ 1048576) (hcb : b.length ≤ CB) (hmb : CB ≤ 9223372036854775807) (hT : Tabs w) :
    Calls Tryd.prog 3 #[.slice P l.length C, .slice PB b.length CB] w fun e w' => e = .returned (.bool true) ∧ Below w.heap.size w w' := by
  have OW : Hid (Calls Tryd.prog 5 #[.slice P l.length C] w fun e w' => ∃ v' L, e = .returned v' ∧ ownsW w' w.heap.size v' L ∧ L.map (·.la) = l.map (·.la) ∧ (∀ r ∈ L, rwOwn w' w.heap.size r) ∧ Below w.heap.size w w') := Owned_any P C l w hP hr hn hl hk
  have ON : Hid (∀ W, Below w.heap.size w W → Calls Tryd.prog 6 #[.slice PB b.length CB] W fun e w' => ∃ v', e = .returned v' ∧ ownsB w' W.heap.size v' b ∧ Below W.heap.size W w' ∧ ∃ g cap, v' = .slice (some ⟨g, 0, none⟩) b.length cap) := fun W hW => own_any PB CB b W (hb.below hW) hnb (by omega)
  have LL : Hid (∀ W, Below w.heap.size w W → Lst W P l (l.map (·.la))) := fun W hW => (⟨hP, fun r h => (hr r h).1, rfl, by omega, fun r h => by have := hk r h; omega⟩ : Lst w P l (l.map (·.la))).below hW
  have HR : Hid (∀ r ∈ l, rwOk w r ∧ r.la.length ≤ 9223372036854775807) := fun r h => ⟨hr r h, by have := hk r h; omega⟩
  have HP : Hid (rowsIn w P l) := hP
  have HB : Hid (byIn w PB b) := hb
  have HT : Hid (Tabs w) := hT
  have hll : l.length ≤ 9223372036854775807 := by omega
  clear hP hr hk hn hb hnb hT
  go_enter Tryd.func3, Tryd.ntmps3
  go_wp2_with fail
  refine OW.out.mono ?_
  rintro e w1 ⟨v5, L, rfl, ho1, hLm, hLr, b1⟩
  obtain ⟨P5, C5, rfl, _, h51, h52⟩ := row_form ho1
  have hLl : L.length = l.length := by have := congrArg List.length hLm; simpa using this
  have HLL : Hid (L.length = l.length) := hLl
  rw [hLl] at ho1 h51
  have HO1 : Hid (ownsW w1 w.heap.size (.slice P5 l.length C5) L) := ho1
  have HLR : Hid (∀ r ∈ L, rwOwn w1 w.heap.size r) := hLr
  have HLM : Hid (L.map (·.la) = l.map (·.la)) := hLm
  rw [hLl]
  clear OW ho1 hLr hLl hLm
  go_wp2_with fail
  refine (ON.out _ b1).mono ?_
  rintro e w2 ⟨v6, rfl, ho2, hb2, g6, c6, rfl⟩
  have s1 := b1.size
  have b2 : Below w.heap.size w w2 := b1.trans (hb2.mono s1)
  have h6 : Hid (byIn w2 (some ⟨g6, 0, none⟩) b) := (show ownsB w2 w1.heap.size (Bv.val ⟨some ⟨g6, 0, none⟩, c6, b⟩) b from ho2).byIn
  obtain ⟨h61, h62⟩ := own_caps ho2
  have H2 : Hid (Lst w2 P5 L (l.map (·.la)) ∧ ∀ r ∈ L, rwOk w2 r) := by
    refine ⟨⟨?_, ?_, HLM.out, by rw [HLL.out]; exact hll, ?_⟩, fun r h => ((HLR.out r h).below hb2).ok⟩
    · have := (own_below HO1.out hb2)
      exact (show ownsW w2 w.heap.size (.slice P5 l.length C5) L from this).rows.2
    · exact fun r h => ((HLR.out r h).below hb2).ok.1
    · intro r h
      obtain ⟨_, _, _, _, h3, h4⟩ := row_form (HLR.out r h).1
      omega
  have HT2 : Hid (Tabs w2) := HT.out.below b2
  clear ON HO1 HLR ho2 hb2 b1 s1 HT
  go_wp2_with fail
  go_loopw [7] (fun si wr => ∃ k : Nat, si = .int .i64 k ∧ k ≤ l.length ∧ Hid (Below w2.heap.size w2 wr)) (fun si _ => l.length - (intOf si).toNat)
  case atStart => exact ⟨0, rfl, Nat.zero_le _, Below.refl _ _⟩
  case round =>
    obtain ⟨k, rfl, hk, hbr⟩ := hrel
    have br2 := b2.trans (hbr.out.mono b2.size)
    by_cases hlt : k < l.length
    · obtain ⟨x, hx⟩ : ∃ x, l[k]? = some x := ⟨l[k], List.getElem?_eq_getElem hlt⟩
      obtain ⟨a, ha⟩ : ∃ x, L[k]? = some x := ⟨L[k]'(by rw [HLL.out]; exact hlt), List.getElem?_eq_getElem _⟩
      have hax : a.la = x.la := by
        have := congrArg (fun z => z[k]?) HLM.out
        simp only [List.getElem?_map, ha, hx, Option.map_some, Option.some.injEq] at this
        exact this
      have hp := HP.out
      have hq := H2.out.1.i
      rcases hp with rfl | ⟨g, o1, rfl, hgw, hcs⟩
      · simp at hx
      rcases hq with rfl | ⟨h, o2, rfl, hhw, hch⟩
      · simp at ha
      have d1 := (br2.cell (p := ⟨g, o1 + k, none⟩) hgw).trans (hcs k x hx)
      have d2 := (hbr.out.cell (p := ⟨h, o2 + k, none⟩) hhw).trans (hch k a ha)
      have hoa := H2.out.2 a (List.mem_of_getElem? ha)
      obtain ⟨hox, hkx⟩ := HR.out x (List.mem_of_getElem? hx)
      have R1 : Hid (Calls Tryd.prog 7 #[.slice a.p a.la.length a.c] wr fun e w' => ∃ v', e = .returned (.tuple #[v', .int .i64 (rowE x.la)]) ∧ Below wr.heap.size wr w' ∧ ownsB w' wr.heap.size v' (rowX x.la)) := by
        have := row_x (hoa.below hbr.out) (HT2.out.below hbr.out)
        rw [hax] at this ⊢
        exact this
      have R2 : Hid (∀ W, Below wr.heap.size wr W → Calls Tryd.prog 8 #[.slice x.p x.la.length x.c] W fun e w' => ∃ v', e = .returned (.tuple #[v', .int .i64 (rowE x.la)]) ∧ Below W.heap.size W w' ∧ ownsB w' W.heap.size v' (rowX x.la)) := fun W hW => refrow_x ((hox.below br2).below hW) hkx
      have hxl := rowX_len x.la
      have hgr : g < wr.heap.size := Nat.lt_of_lt_of_le hgw br2.size
      have sr := hbr.out.size
      generalize rowX x.la = X at *
      generalize rowE x.la = E at *
      clear hcs hch hx ha hax hoa hox hkx hgw hhw
      go_wp2_with fail
      refine R1.out.mono ?_
      rintro e w3 ⟨v8, rfl, hb3, ho3⟩
      have d3 := (hb3.cell (p := ⟨g, o1 + k, none⟩) hgr).trans d1
      clear R1 d2 d1
      go_wp2_with fail
      refine (R2.out _ hb3).mono ?_
      rintro e w4 ⟨v10, rfl, hb4, ho4⟩
      have s3 := hb3.size
      have s4 := hb4.size
      have ho3' : ownsB w4 wr.heap.size v8 X := own_below ho3 hb4
      have b4 : Below w2.heap.size w2 w4 := hbr.out.trans ((hb3.mono sr).trans (hb4.mono (Nat.le_trans sr s3)))
      have TO : Hid (Calls Tryd.prog 9 #[v8, v10] w4 fun e w' => e = .returned (.bool true) ∧ Below w2.heap.size w4 w') := told_x ho3' ho4 hxl (Nat.le_trans s3 s4) sr
      clear R2 d3 ho3 ho4 hb3 hb4
      go_wp2_with fail
      refine TO.out.mono ?_
      rintro e w5 ⟨rfl, hb5⟩
      clear TO
      go_wp2_with fail
      go_roundw
      case rel => exact ⟨k + 1, by go_num, hlt, b4.trans hb5⟩
      case measure => simp [intOf]; omega
    · have hk0 : k = l.length := by omega
      subst hk0
      have B1 : Hid (Calls Tryd.prog 10 #[.slice P5 l.length C5] wr fun e w' => ∃ v', e = .returned (.tuple #[v', .int .i64 (bagE (l.map (·.la)))]) ∧ Below wr.heap.size wr w' ∧ ownsB w' wr.heap.size v' (bagX (l.map (·.la)))) := by
        have := bag_x P5 C5 L wr (H2.out.1.below hbr.out).i (fun r h => (H2.out.2 r h).below hbr.out) (HT2.out.below hbr.out)
        rw [HLL.out, HLM.out] at this
        exact this
      have B2 : Hid (∀ W, Below wr.heap.size wr W → Calls Tryd.prog 11 #[.slice P l.length C] W fun e w' => ∃ v', e = .returned (.tuple #[v', .int .i64 (bagE (l.map (·.la)))]) ∧ Below W.heap.size W w' ∧ ownsB w' W.heap.size v' (bagX (l.map (·.la)))) := fun W hW => refbag_x P C l W ((LL.out _ br2).below hW).i (fun r h => ((HR.out r h).1.below br2).below hW) (fun r h => (HR.out r h).2) hll
      have LS : Hid (∀ W, Below w2.heap.size w2 W → Calls Tryd.prog 12 #[.slice P5 l.length C5, .slice P l.length C] W fun e w' => e = .returned (.bool true) ∧ Below W.heap.size W w') := fun W hW => by
        have := lists_x (cP := C5) (cQ := C) (H2.out.1.below hW) (LL.out _ (b2.trans (hW.mono b2.size)))
        rw [HLL.out] at this
        exact this
      have hxl := bagX_len (l.map (·.la))
      have sr := hbr.out.size
      have Q1 : Hid (∀ W, Below w2.heap.size w2 W → Calls Tryd.prog 13 #[.slice (some ⟨g6, 0, none⟩) b.length c6] W fun e w' => ∃ P C, e = .returned (.tuple #[.slice P (rX b).length C, .int .i64 ((rCnt (rdRow b) : Nat) : Int), .int .i64 (rErr (rdRow b))]) ∧ Below W.heap.size W w' ∧ rowIn w' P (rX b) ∧ (rX b).length ≤ 9223372036854775807) := fun W hW => readrow_x _ c6 b W (h6.out.below hW) h61 h62 (by omega) (HT2.out.below hW)
      have Q2 : Hid (∀ W, Below w.heap.size w W → Calls Tryd.prog 14 #[.slice PB b.length CB] W fun e w' => ∃ P C, e = .returned (.tuple #[.slice P (rX b).length C, .int .i64 ((rCnt (rdRow b) : Nat) : Int), .int .i64 (rErr (rdRow b))]) ∧ Below W.heap.size W w' ∧ rowIn w' P (rX b) ∧ (rX b).length ≤ 9223372036854775807) := fun W hW => refreadrow_x PB CB b W (HB.out.below hW) hcb hmb (by omega)
      have Q3 : Hid (∀ W, Below w2.heap.size w2 W → Calls Tryd.prog 15 #[.slice (some ⟨g6, 0, none⟩) b.length c6] W fun e w' => ∃ P C L, e = .returned (.tuple #[.slice P (L : List Rw).length C, .int .i64 (bErr (rdBag b))]) ∧ Below W.heap.size W w' ∧ Lst w' P L (bX b)) := fun W hW => readbag_x _ c6 b W (h6.out.below hW) h61 h62 (by omega) (HT2.out.below hW)
      have Q4 : Hid (∀ W, Below w.heap.size w W → Calls Tryd.prog 16 #[.slice PB b.length CB] W fun e w' => ∃ P C L, e = .returned (.tuple #[.slice P (L : List Rw).length C, .int .i64 (bErr (rdBag b))]) ∧ Below W.heap.size W w' ∧ Lst w' P L (bX b)) := fun W hW => refreadbag_x PB CB b W (HB.out.below hW) hcb hmb (by omega)
      have CV : Hid (∀ W, Below w2.heap.size w2 W → (convert 23 9 (.slice (some ⟨g6, 0, none⟩) b.length c6)).run Tryd.prog W = .ok (.string ⟨b.toArray⟩) W ∧ (convert 23 9 (.slice PB b.length CB)).run Tryd.prog W = .ok (.string ⟨b.toArray⟩) W) := fun W hW => ⟨conv_in c6 (h6.out.below hW), conv_in CB (HB.out.below (b2.trans (hW.mono b2.size)))⟩
      have RR : Hid (∀ P Q cp cq W, rowIn W P (rX b) → rowIn W Q (rX b) → (rX b).length ≤ 9223372036854775807 → Calls Tryd.prog 17 #[.slice P (rX b).length cp, .slice Q (rX b).length cq] W fun e w' => e = .returned (.bool true) ∧ Below W.heap.size W w') := fun P Q cp cq W h1 h2 h3 => Rows2_eq P Q cp cq (rX b) W h1 h2 h3
      generalize rX b = R at *
      generalize bX b = BX at *
      generalize rCnt (rdRow b) = N1 at *
      generalize rErr (rdRow b) = E1 at *
      generalize bErr (rdBag b) = E2 at *
      generalize bagX (l.map (·.la)) = X at *
      generalize bagE (l.map (·.la)) = E at *
      clear HLL HLM HR HP LL H2 HT2 h6 HB h61 h62
      go_wp2_with fail
      refine B1.out.mono ?_
      rintro e w3 ⟨v12, rfl, hb3, ho3⟩
      clear B1
      go_wp2_with fail
      refine (B2.out _ hb3).mono ?_
      rintro e w4 ⟨v14, rfl, hb4, ho4⟩
      have s3 := hb3.size
      have s4 := hb4.size
      have ho3' : ownsB w4 wr.heap.size v12 X := own_below ho3 hb4
      have b4 : Below w2.heap.size w2 w4 := hbr.out.trans ((hb3.mono sr).trans (hb4.mono (Nat.le_trans sr s3)))
      have TO : Hid (Calls Tryd.prog 9 #[v12, v14] w4 fun e w' => e = .returned (.bool true) ∧ Below w2.heap.size w4 w') := told_x ho3' ho4 hxl (Nat.le_trans s3 s4) sr
      clear B2 ho3 ho4 hb3 hb4 ho3' hxl
      go_wp2_with fail
      refine TO.out.mono ?_
      rintro e w5 ⟨rfl, hb5⟩
      have b5 := b4.trans hb5
      clear TO hb5 b4
      go_wp2_with fail
      refine (LS.out _ b5).mono ?_
      rintro e w6 ⟨rfl, hb6⟩
      have b6 : Below w2.heap.size w2 w6 := b5.trans (hb6.mono b5.size)
      clear LS hb6 b5
      go_wp2_with fail
      refine (Q1.out _ b6).mono ?_
      rintro e w7 ⟨P16, C16, rfl, hb7, hr7, hrl⟩
      have b7 : Below w2.heap.size w2 w7 := b6.trans (hb7.mono b6.size)
      clear Q1 hb7 b6
      go_wp2_with fail
      refine (Q2.out _ (b2.trans (b7.mono b2.size))).mono ?_
      rintro e w8 ⟨P19, C19, rfl, hb8, hr8, _⟩
      have b8 : Below w2.heap.size w2 w8 := b7.trans (hb8.mono b7.size)
      have hr7 := hr7.below hb8
      clear Q2 hb8 b7
      go_wp2_with fail
      refine (Q3.out _ b8).mono ?_
      rintro e w9 ⟨P22, C22, L22, rfl, hb9, hL9⟩
      have b9 : Below w2.heap.size w2 w9 := b8.trans (hb9.mono b8.size)
      have hr7 := hr7.below hb9
      have hr8 := hr8.below hb9
      clear Q3 hb9 b8
      go_wp2_with fail
      refine (Q4.out _ (b2.trans (b9.mono b2.size))).mono ?_
      rintro e w10 ⟨P24, C24, L24, rfl, hb10, hL10⟩
      have b10 : Below w2.heap.size w2 w10 := b9.trans (hb10.mono b9.size)
      have hr7 := hr7.below hb10
      have hr8 := hr8.below hb10
      have hL9 := hL9.below hb10
      clear Q4 hb10 b9
      go_wp2_with fail
      refine (RR.out _ _ _ _ _ hr7 hr8 hrl).mono ?_
      rintro e w11 ⟨rfl, hb11⟩
      have b11 : Below w2.heap.size w2 w11 := b10.trans (hb11.mono b10.size)
      have hL9 := hL9.below hb11
      have hL10 := hL10.below hb11
      clear RR hr7 hr8 hb11 b10
      go_wp2_with fail
      refine (lists_x hL9 hL10).mono ?_
      rintro e w12 ⟨rfl, hb12⟩
      have b12 : Below w2.heap.size w2 w12 := b11.trans (hb12.mono b11.size)
      obtain ⟨cv1, cv2⟩ := CV.out _ b12
      clear hL9 hL10 hb12 b11 CV
      go_wp2_with fail
      go_ret
      exact ⟨rfl, b2.trans (b12.mono b2.size)⟩
end Go.Proofs.YtedacccedbchaaaDoor
