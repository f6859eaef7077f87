/-
  The walk of scan.
-/
import Derived.Test.YtfcolecglobcdaaGreatDoorLxL
namespace Go.Proofs.YtfcolecglobcdaaGreatDoor
open Go.RowKit Go.Shelf

set_option maxHeartbeats 1000000 in
set_option maxRecDepth 1000000 in
theorem scan_long (l : List UInt8) (bL : Nat) (w0 w : World) (hl : 65536 < l.length) (hB : Below w0.heap.size w0 w) (hL : LB w bL w0.heap.size []) :
    Calls Tryz.prog 36 #[.string ⟨l.toArray⟩, .func (.func 37) #[] #[.pointer (some ⟨bL, 0, none⟩)]] w fun e w' => e = .returned (.tuple #[.int .i64 (tks l).pos, .int .i64 (tks l).why]) ∧ LB w' bL w0.heap.size (tks l).l ∧ Below w0.heap.size w0 w' := by
  rw [tks_long hl]
  have hzl : (ByteArray.mk l.toArray).size = l.length := size_mk l
  have hli : (65536 : Int) < (l.length : Int) := by omega
  go_enter Tryz.func36, Tryz.ntmps36
  go_wp2_with fail
  go_ret2
  exact ⟨rfl, hL, hB⟩

set_option maxHeartbeats 4000000 in
set_option maxRecDepth 1000000 in
theorem scan_any (l : List UInt8) (bL : Nat) (w0 w : World) (hl : l.length ≤ 65536) (hW : LxW w0) (hB : Below w0.heap.size w0 w) (hL : LB w bL w0.heap.size []) :
    Calls Tryz.prog 36 #[.string ⟨l.toArray⟩, .func (.func 37) #[] #[.pointer (some ⟨bL, 0, none⟩)]] w fun e w' => e = .returned (.tuple #[.int .i64 (tks l).pos, .int .i64 (tks l).why]) ∧ LB w' bL w0.heap.size (tks l).l ∧ Below w0.heap.size w0 w' := by
  have FP : Hid (∀ w, Calls Tryz.prog 19 #[] w fun e w' => e = .returned (.agg #[.int .i64 0, .int .i64 1, .int .i64 1]) ∧ Below w.heap.size w w') := firstPlace_any
  have hzl : (ByteArray.mk l.toArray).size = l.length := size_mk l
  have hli : ¬ (65536 : Int) < (l.length : Int) := by omega
  have L0 : Hid (Left l (l.length + 1) 0 1 1 []) := by
    show _ ∧ _
    rw [tks_short hl, List.drop_zero]
    exact ⟨by simp, rfl, rfl⟩
  have HW : Hid (LxW w0) := hW
  clear hW
  go_enter Tryz.func36, Tryz.ntmps36
  go_wp2_with fail
  refine (FP.out _).mono ?_
  rintro e w1 ⟨rfl, hb1⟩
  have B1 := hB.trans (hb1.mono hB.size)
  have L1 := hL.below hb1
  have a1 : Below w1.heap.size w1 (w1.alloc (.cells #[.int .i64 0, .int .i64 1, .int .i64 1] 44)) := (Below.refl _ w1).alloc (Nat.le_refl _) _
  have B2 := B1.trans (a1.mono B1.size)
  have L2 := L1.below a1
  have H2 : HB (w1.alloc (.cells #[.int .i64 0, .int .i64 1, .int .i64 1] 44)) w1.heap.size 0 1 1 := heap_alloc_new _ _
  have hgb : w0.heap.size ≤ w1.heap.size := B1.size
  clear FP hb1 a1 L1 B1 hL hB
  go_wp2_with fail
  generalize w1.alloc (.cells #[.int .i64 0, .int .i64 1, .int .i64 1] 44) = w2 at *
  generalize w1.heap.size = g at *
  go_loopw [] (fun wr => ∃ (k fuel ln cl : Nat) (acc : List Tk), HB wr g k ln cl ∧ LB wr bL w0.heap.size acc ∧ Below w0.heap.size w0 wr ∧ Hid (Left l fuel k ln cl acc) ∧ l.length < k + fuel ∧ k ≤ l.length ∧ ln ≤ 1 + k ∧ 1 ≤ cl ∧ cl ≤ 1 + k ∧ acc.length ≤ k)
    (fun wr => l.length - (intOf ((wr.cell? ⟨g, 0, none⟩).getD undef)).toNat)
  case atStart => exact ⟨0, l.length + 1, 1, 1, [], H2, L2, B2, L0, by omega, by omega, by omega, by omega, by omega, by simp⟩
  case round =>
    obtain ⟨k, fuel, ln, cl, acc, hH, hLB, hBr, hLf, hfu, hk, hln, hc1, hcl, hacc⟩ := hrel
    obtain ⟨f, rfl⟩ : ∃ f, fuel = f + 1 := ⟨fuel - 1, by omega⟩
    have hms : (wr.cell? ⟨g, 0, none⟩).getD undef = .int .i64 (k : Nat) := by rw [hH.r3.c0]; rfl
    have hexk : (ByteArray.mk l.toArray).extract k l.length = ByteArray.mk (l.drop k).toArray := by rw [extract_mk, List.take_length]
    have RP : Hid (∀ w, LxW w → Calls Tryz.prog 59 #[.string ⟨(l.drop k).toArray⟩] w fun e w' => e = .returned (pcv (rdP (l.drop k))) ∧ Below w.heap.size w w') := fun w h => readPiece_any _ w (by rw [List.length_drop]; omega) h
    have PU : Hid (∀ (kd : Int) (tx : List UInt8) (v : Va) w, Calls Tryz.prog 60 #[.agg #[.int .i64 (k : Nat), .int .i64 (ln : Nat), .int .i64 (cl : Nat)], .agg #[.int .i64 kd, .string ⟨tx.toArray⟩, .int .i64 v.ty, .int .i64 v.n, .string v.s, .int .i64 0, .int .i64 0, .int .i64 0]] w fun e w' => e = .returned (tkv kd ⟨tx.toArray⟩ v.ty v.n v.s k ln cl) ∧ Below w.heap.size w w') := fun kd tx v w => put_any _ _ _ _ _ _ _ _ w
    have TE : Hid (∀ (t : Tk) w, LB w bL w0.heap.size acc → Calls Tryz.prog 37 #[.agg #[.int .i64 t.kind, .string ⟨t.text.toArray⟩, .int .i64 t.v.ty, .int .i64 t.v.n, .string t.v.s, .int .i64 (t.pos : Nat), .int .i64 (t.line : Nat), .int .i64 (t.col : Nat)], .pointer (some ⟨bL, 0, none⟩)] w fun e w' => e = .returned (.bool true) ∧ LB w' bL w0.heap.size (acc ++ [t]) ∧ Oth w0.heap.size w w') := fun t w h => tell_any t bL w0.heap.size acc w (by omega) h
    have hki : (k : Int) ≤ (l.length : Int) := by omega
    have hkb : (k : Int) ≤ 65536 := by omega
    have hsize : (rdP (l.drop k)).why = 0 → (rdP (l.drop k)).kind ≠ 6 → (rdP (l.drop k)).size ≤ l.length - k ∧ 1 ≤ (rdP (l.drop k)).size := by
      intro h0 h6
      rcases hD : l.drop k with _ | ⟨x, r⟩
      · rw [hD] at h6; exact absurd rfl h6
      · rw [hD] at h0
        have h1 := rdP_size h0
        have h2 := congrArg List.length hD
        rw [List.length_drop, List.length_cons] at h2
        omega
    have lbad := hLf.out.bad
    have lfin := hLf.out.fin
    have lskip := hLf.out.skip
    have ltell := hLf.out.tell
    have hahd : (rdP (l.drop k)).ahead ≤ 65536 ∧ -65536 ≤ (rdP (l.drop k)).ahead := rdP_ahead _ (by rw [List.length_drop]; omega)
    obtain ⟨D, hD⟩ : ∃ D, D = l.drop k := ⟨_, rfl⟩
    rw [← hD] at hexk RP hsize lbad lfin lskip ltell hahd
    have hDl : D.length = l.length - k := by rw [hD, List.length_drop]
    have hexX : ∀ n : Nat, (ByteArray.mk l.toArray).extract k (k + n) = ByteArray.mk (D.take n).toArray := fun n => by rw [extract_mk, List.drop_take, hD]; congr 3; omega
    clear hD hLf
    generalize rdP D = p at *
    obtain ⟨sz, kd, tx, ⟨vt, vn, vs⟩, wy, ah⟩ := p
    simp only at hsize lbad lfin lskip ltell hahd
    obtain ⟨_, c0, c1, c2, f0, f1, f2⟩ := hH.r3
    go_wp2_with fail
    refine (RP.out _ (HW.out.below hBr)).mono ?_
    rintro e w3 ⟨rfl, hb3⟩
    unfold pcv
    have a3 : Below w3.heap.size w3 (w3.alloc (.cells #[.int .i64 (sz : Nat), .int .i64 kd, .string ⟨tx.toArray⟩, .int .i64 vt, .int .i64 vn, .string vs, .int .i64 0, .int .i64 0, .int .i64 0, .int .i64 wy, .int .i64 ah] 82)) := (Below.refl _ w3).alloc (Nat.le_refl _) _
    have b34 := hb3.trans (a3.mono hb3.size)
    have H3 := hH.below hb3
    have PB : (w3.alloc (.cells #[.int .i64 (sz : Nat), .int .i64 kd, .string ⟨tx.toArray⟩, .int .i64 vt, .int .i64 vn, .string vs, .int .i64 0, .int .i64 0, .int .i64 0, .int .i64 wy, .int .i64 ah] 82)).heap[w3.heap.size]? = some (.cells #[.int .i64 (sz : Nat), .int .i64 kd, .string ⟨tx.toArray⟩, .int .i64 vt, .int .i64 vn, .string vs, .int .i64 0, .int .i64 0, .int .i64 0, .int .i64 wy, .int .i64 ah] 82 (0, 0)) := heap_alloc_new _ _
    have H4 := hH.below b34
    have L4 := hLB.below b34
    have B4 := hBr.trans (b34.mono hBr.size)
    have P4 := R11.new w3 82 (.int .i64 (sz : Nat)) (.int .i64 kd) (.string ⟨tx.toArray⟩) (.int .i64 vt) (.int .i64 vn) (.string vs) (.int .i64 0) (.int .i64 0) (.int .i64 0) (.int .i64 wy) (.int .i64 ah)
    clear RP hb3 a3 b34 hH hLB hBr c0 c1 c2 f0 f1 f2
    by_cases hwy : wy = 0
    · have hwb : (wy != 0) = false := by rw [hwy]; rfl
      by_cases hk0 : kd = 0
      · have hkb0 : (kd != 0) = false := by rw [hk0]; rfl
        obtain ⟨s1, s2⟩ := hsize hwy (by rw [hk0]; decide)
        have hL' := lskip hwy hk0
        clear lbad lfin lskip ltell hsize PU TE
        have hXl : (D.take sz).length = sz := by rw [List.length_take]; omega
        have BE : Hid (∀ w, Calls Tryz.prog 20 #[.agg #[.int .i64 (k : Nat), .int .i64 (ln : Nat), .int .i64 (cl : Nat)], .string ⟨(D.take sz).toArray⟩] w fun e w' => e = .returned (.agg #[.int .i64 ((k : Int) + (sz : Int)), .int .i64 ((beh ln cl (D.take sz)).1 : Nat), .int .i64 ((beh ln cl (D.take sz)).2 : Nat)]) ∧ Below w.heap.size w w') := fun w => by
          have h := behind_any k ln cl (D.take sz) w (by omega) (by omega) (by omega) hc1 (by omega)
          rw [hXl, Int.natCast_add] at h
          exact h
        have hbl := beh_le ln cl (D.take sz) hc1
        rw [hXl] at hbl
        have hexs := hexX sz
        have i1 : (k : Int) + (sz : Int) ≤ (l.length : Int) := by omega
        have i2 : (k : Int) ≤ (k : Int) + (sz : Int) := by omega
        have i3 : ((k : Int) + (sz : Int)).toNat = k + sz := by omega
        have hwr : IntKind.i64.wrap ((k : Int) + (sz : Int)) = (k : Int) + (sz : Int) := by rw [IntKind.wrap_i64]; omega
        generalize D.take sz = X at *
        obtain ⟨⟨A', B'⟩, hAB⟩ : ∃ q : Nat × Nat, q = beh ln cl X := ⟨_, rfl⟩
        rw [← hAB] at BE hbl hL'
        simp only at BE hbl hL'
        clear hAB hexX
        clear hk0 hwy
        go_wp2_with fail
        generalize w3.alloc (.cells #[.int .i64 (sz : Nat), .int .i64 kd, .string ⟨tx.toArray⟩, .int .i64 vt, .int .i64 vn, .string vs, .int .i64 0, .int .i64 0, .int .i64 0, .int .i64 wy, .int .i64 ah] 82) = w4 at *
        generalize w3.heap.size = gp at *
        have hS : Sc w0 bL g gp k ln cl sz acc w4 := ⟨H4, P4.c0, L4, B4⟩
        obtain ⟨_, c0, c1, c2, f0, f1, f2⟩ := H4.r3
        have d0 := P4.c0
        have hRel : ∀ w5, Below w4.drew.heap.size w4.drew w5 → HB (R3.set w5 g (.int .i64 ((k + sz : Nat) : Int)) (.int .i64 (A' : Nat)) (.int .i64 (B' : Nat))) g (k + sz) A' B' ∧ LB (R3.set w5 g (.int .i64 ((k + sz : Nat) : Int)) (.int .i64 (A' : Nat)) (.int .i64 (B' : Nat))) bL w0.heap.size acc ∧ Below w0.heap.size w0 (R3.set w5 g (.int .i64 ((k + sz : Nat) : Int)) (.int .i64 (A' : Nat)) (.int .i64 (B' : Nat))) := fun w5 hb5 => by
          have h5 := hS.drew.next hb5
          exact ⟨h5.h.put (k + sz) A' B', h5.l.set h5.h _ _ _, R3.set_below h5.b hgb _ _ _⟩
        have hR3 : ∀ w5, Below w4.drew.heap.size w4.drew w5 → R3 w5 g (.int .i64 (k : Nat)) (.int .i64 (ln : Nat)) (.int .i64 (cl : Nat)) := fun w5 hb5 => (hS.drew.next hb5).h.r3
        unfold R3.set at hRel
        have HR : Hid _ := hRel
        have HR3 : Hid _ := hR3
        have HFA : Hid (Left l f (k + sz) A' B' acc ∧ l.length < k + sz + f ∧ k + sz ≤ l.length ∧ A' ≤ 1 + (k + sz) ∧ 1 ≤ B' ∧ B' ≤ 1 + (k + sz) ∧ (acc).length ≤ k + sz ∧ l.length - (k + sz) < l.length - (intOf ((wr.cell? ⟨g, 0, none⟩).getD undef)).toNat) := ⟨hL', by omega, by omega, by omega, by omega, by omega, by first | omega | (simp; omega), by rw [hms]; simp [intOf]; omega⟩
        clear hRel hR3 hS hL' hbl H4 L4 B4 P4 L0 HW H2 L2 B2 hfu hacc hln hc1 hcl hms hDl s1 hahd hexk hl hXl
        go_region_with ((go_at_call 20; refine (BE.out _).mono ?_; rintro e w5 ⟨rfl, hb5⟩; obtain ⟨_, x0, x1, x2, y0, y1, y2⟩ := HR3.out w5 hb5))
        all_goals
          obtain ⟨h6, l6, b6⟩ := HR.out w5 hb5
          obtain ⟨m1, m2, m3, m4, m5, m6, m7, m8⟩ := HFA.out
          have c6 := h6.r3.c0
          rw [Int.natCast_add] at h6 l6 b6 c6
          go_wp2_with fail
          go_roundw
          case rel => exact ⟨k + sz, f, A', B', acc, h6, l6, b6, m1, m2, m3, m4, m5, m6, m7⟩
          case measure =>
            rw [c6]
            exact m8
      · have hkb0 : (kd != 0) = true := by rw [bne_iff_ne]; exact hk0
        by_cases h6 : kd = 6
        · have h6b : (kd == 6) = true := by rw [h6]; rfl
          obtain ⟨e1', e2', e3'⟩ := lfin hwy h6
          have PU1 := PU.out kd tx ⟨vt, vn, vs⟩
          have TE1 := TE.out ⟨kd, tx, ⟨vt, vn, vs⟩, k, ln, cl⟩
          simp only at PU1 TE1
          have PU2 : Hid _ := PU1
          have TE2 : Hid _ := TE1
          clear lbad lfin lskip ltell hsize PU TE PU1 TE1
          clear hk0 hwy h6
          have hlt3 := lt_of_heap H3
          obtain ⟨_, c0, c1, c2, f0, f1, f2⟩ := H3.r3
          obtain ⟨_, e0, e1, e2, _, _, _⟩ := H4.r3
          go_wp2_with fail
          refine (PU2.out _).mono ?_
          clear c0 c1 c2 f0 f1 f2 e0 e1 e2
          generalize w3.alloc (.cells #[.int .i64 (sz : Nat), .int .i64 kd, .string ⟨tx.toArray⟩, .int .i64 vt, .int .i64 vn, .string vs, .int .i64 0, .int .i64 0, .int .i64 0, .int .i64 wy, .int .i64 ah] 82) = w4 at *
          generalize w3.heap.size = gp at *
          rintro e w5 ⟨rfl, hb5⟩
          unfold tkv
          have H5 := H4.below hb5
          have L5 := L4.below hb5
          have B5 := B4.trans (hb5.mono B4.size)
          have P5 := (hb5.block gp (lt_of_heap PB)).trans PB
          clear H4 L4 B4 PB PU2 hb5 P4 H3
          go_wp2_with fail
          refine (TE2.out _ L5).mono ?_
          rintro e w6 ⟨rfl, L6, o6⟩
          have H6 := H5.oth o6
          have B6 := B5.trans o6.b
          have P6 := (o6.k gp _ _ _ P5 (by decide) (by decide)).trans P5
          clear H5 L5 B5 P5 TE2 o6
          have d0 : w6.cell? ⟨gp, 0, none⟩ = some (.int .i64 (sz : Nat)) := (Joins.cell_of_block P6 0).trans rfl
          have d1 : w6.cell? ⟨gp, 1, none⟩ = some (.int .i64 kd) := (Joins.cell_of_block P6 1).trans rfl
          obtain ⟨_, c0, c1, c2, f0, f1, f2⟩ := H6.r3
          go_wp2_with fail
          rw [e1', e2', e3']
          go_ret2
          exact ⟨rfl, L6, B6⟩
        · have h6b : (kd == 6) = false := by rw [beq_eq_false_iff_ne]; exact h6
          obtain ⟨s1, s2⟩ := hsize hwy h6
          have hL' := ltell hwy hk0 h6
          have PU1 := PU.out kd tx ⟨vt, vn, vs⟩
          have TE1 := TE.out ⟨kd, tx, ⟨vt, vn, vs⟩, k, ln, cl⟩
          simp only at PU1 TE1
          have PU2 : Hid _ := PU1
          have TE2 : Hid _ := TE1
          clear lbad lfin lskip ltell hsize PU TE PU1 TE1
          have hXl : (D.take sz).length = sz := by rw [List.length_take]; omega
          have BE : Hid (∀ w, Calls Tryz.prog 20 #[.agg #[.int .i64 (k : Nat), .int .i64 (ln : Nat), .int .i64 (cl : Nat)], .string ⟨(D.take sz).toArray⟩] w fun e w' => e = .returned (.agg #[.int .i64 ((k : Int) + (sz : Int)), .int .i64 ((beh ln cl (D.take sz)).1 : Nat), .int .i64 ((beh ln cl (D.take sz)).2 : Nat)]) ∧ Below w.heap.size w w') := fun w => by
            have h := behind_any k ln cl (D.take sz) w (by omega) (by omega) (by omega) hc1 (by omega)
            rw [hXl, Int.natCast_add] at h
            exact h
          have hbl := beh_le ln cl (D.take sz) hc1
          rw [hXl] at hbl
          have hexs := hexX sz
          have i1 : (k : Int) + (sz : Int) ≤ (l.length : Int) := by omega
          have i2 : (k : Int) ≤ (k : Int) + (sz : Int) := by omega
          have i3 : ((k : Int) + (sz : Int)).toNat = k + sz := by omega
          have hwr : IntKind.i64.wrap ((k : Int) + (sz : Int)) = (k : Int) + (sz : Int) := by rw [IntKind.wrap_i64]; omega
          generalize D.take sz = X at *
          obtain ⟨⟨A', B'⟩, hAB⟩ : ∃ q : Nat × Nat, q = beh ln cl X := ⟨_, rfl⟩
          rw [← hAB] at BE hbl hL'
          simp only at BE hbl hL'
          clear hAB hexX
          clear hk0 hwy h6
          have hlt3 := lt_of_heap H3
          obtain ⟨_, c0, c1, c2, f0, f1, f2⟩ := H3.r3
          obtain ⟨_, e0, e1, e2, _, _, _⟩ := H4.r3
          go_wp2_with fail
          refine (PU2.out _).mono ?_
          clear c0 c1 c2 f0 f1 f2 e0 e1 e2
          generalize w3.alloc (.cells #[.int .i64 (sz : Nat), .int .i64 kd, .string ⟨tx.toArray⟩, .int .i64 vt, .int .i64 vn, .string vs, .int .i64 0, .int .i64 0, .int .i64 0, .int .i64 wy, .int .i64 ah] 82) = w4 at *
          generalize w3.heap.size = gp at *
          rintro e w5 ⟨rfl, hb5⟩
          unfold tkv
          have H5 := H4.below hb5
          have L5 := L4.below hb5
          have B5 := B4.trans (hb5.mono B4.size)
          have P5 := (hb5.block gp (lt_of_heap PB)).trans PB
          clear H4 L4 B4 PB PU2 hb5 P4 H3
          go_wp2_with fail
          refine (TE2.out _ L5).mono ?_
          rintro e w6 ⟨rfl, L6, o6⟩
          have H6 := H5.oth o6
          have B6 := B5.trans o6.b
          have P6 := (o6.k gp _ _ _ P5 (by decide) (by decide)).trans P5
          clear H5 L5 B5 P5 TE2 o6
          have d0 : w6.cell? ⟨gp, 0, none⟩ = some (.int .i64 (sz : Nat)) := (Joins.cell_of_block P6 0).trans rfl
          have d1 : w6.cell? ⟨gp, 1, none⟩ = some (.int .i64 kd) := (Joins.cell_of_block P6 1).trans rfl
          obtain ⟨_, c0, c1, c2, f0, f1, f2⟩ := H6.r3
          go_wp2_with fail
          have hal : (acc ++ [(⟨kd, tx, ⟨vt, vn, vs⟩, k, ln, cl⟩ : Tk)]).length ≤ k + sz := by simp; omega
          generalize acc ++ [(⟨kd, tx, ⟨vt, vn, vs⟩, k, ln, cl⟩ : Tk)] = acc2 at *
          have hS : Sc w0 bL g gp k ln cl sz acc2 w6 := ⟨H6, d0, L6, B6⟩
          have hRel : ∀ w5, Below w6.drew.heap.size w6.drew w5 → HB (R3.set w5 g (.int .i64 ((k + sz : Nat) : Int)) (.int .i64 (A' : Nat)) (.int .i64 (B' : Nat))) g (k + sz) A' B' ∧ LB (R3.set w5 g (.int .i64 ((k + sz : Nat) : Int)) (.int .i64 (A' : Nat)) (.int .i64 (B' : Nat))) bL w0.heap.size acc2 ∧ Below w0.heap.size w0 (R3.set w5 g (.int .i64 ((k + sz : Nat) : Int)) (.int .i64 (A' : Nat)) (.int .i64 (B' : Nat))) := fun w5 hb5 => by
            have h5 := hS.drew.next hb5
            exact ⟨h5.h.put (k + sz) A' B', h5.l.set h5.h _ _ _, R3.set_below h5.b hgb _ _ _⟩
          have hR3 : ∀ w5, Below w6.drew.heap.size w6.drew w5 → R3 w5 g (.int .i64 (k : Nat)) (.int .i64 (ln : Nat)) (.int .i64 (cl : Nat)) := fun w5 hb5 => (hS.drew.next hb5).h.r3
          unfold R3.set at hRel
          have HR : Hid _ := hRel
          have HR3 : Hid _ := hR3
          have HFA : Hid (Left l f (k + sz) A' B' acc2 ∧ l.length < k + sz + f ∧ k + sz ≤ l.length ∧ A' ≤ 1 + (k + sz) ∧ 1 ≤ B' ∧ B' ≤ 1 + (k + sz) ∧ acc2.length ≤ k + sz ∧ l.length - (k + sz) < l.length - (intOf ((wr.cell? ⟨g, 0, none⟩).getD undef)).toNat) := ⟨hL', by omega, by omega, by omega, by omega, by omega, hal, by rw [hms]; simp [intOf]; omega⟩
          clear hRel hR3 hS hL' hbl H6 L6 B6 P6 L0 HW H2 L2 B2 hfu hacc hln hc1 hcl hms hDl s1 hahd hexk hl hXl
          go_region_with ((go_at_call 20; refine (BE.out _).mono ?_; rintro e w5 ⟨rfl, hb5⟩; obtain ⟨_, x0, x1, x2, y0, y1, y2⟩ := HR3.out w5 hb5))
          all_goals
            obtain ⟨h6, l6, b6⟩ := HR.out w5 hb5
            obtain ⟨m1, m2, m3, m4, m5, m6, m7, m8⟩ := HFA.out
            have c6 := h6.r3.c0
            rw [Int.natCast_add] at h6 l6 b6 c6
            go_wp2_with fail
            go_roundw
            case rel => exact ⟨k + sz, f, A', B', acc2, h6, l6, b6, m1, m2, m3, m4, m5, m6, m7⟩
            case measure =>
              rw [c6]
              exact m8
    · have hwb : (wy != 0) = true := by rw [bne_iff_ne]; exact hwy
      obtain ⟨e1, e2, e3⟩ := lbad hwy
      clear lbad lfin lskip ltell hsize PU TE
      go_wp2_with fail
      generalize w3.alloc (.cells #[.int .i64 (sz : Nat), .int .i64 kd, .string ⟨tx.toArray⟩, .int .i64 vt, .int .i64 vn, .string vs, .int .i64 0, .int .i64 0, .int .i64 0, .int .i64 wy, .int .i64 ah] 82) = w4 at *
      generalize w3.heap.size = gp at *
      obtain ⟨_, c0, c1, c2, f0, f1, f2⟩ := H4.r3
      obtain ⟨_, d0, d1, d2, d3, d4, d5, d6, d7, d8, d9, d10, _, _, _, _, _, _, _, _, _, _, _⟩ := P4
      go_quiet (fail)
      go_wp2_with fail
      have bq : Below w4.heap.size w4 (w4.drewN nq) := below_drewN (Below.refl _ w4) nq
      have L5 := L4.below bq
      have B5 := B4.trans (bq.mono B4.size)
      rw [e1, e2, e3]
      go_ret2
      exact ⟨rfl, L5, B5⟩
end Go.Proofs.YtfcolecglobcdaaGreatDoor
