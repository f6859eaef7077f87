/-
  The walk of locksteplaw02.RowcodeOrder.
-/
import Derived.Test.YtbepbgfppekhbaaDoorRoF
namespace Go.Proofs.YtbepbgfppekhbaaDoor
open Go.RowKit Go.Shelf

/-- two boxes, and what lay below them -/
@[reducible] def twoV (w0 : World) (A B : Nat) (a b : Va) (w' : World) : Prop := Below w0.heap.size w0 w' ∧ w'.cell? ⟨A, 0, none⟩ = some (.int .i64 a.ty) ∧ w'.cell? ⟨A, 1, none⟩ = some (.int .i64 a.n) ∧ w'.cell? ⟨A, 2, none⟩ = some (.string a.s) ∧ w'.cell? ⟨B, 0, none⟩ = some (.int .i64 b.ty) ∧ w'.cell? ⟨B, 1, none⟩ = some (.int .i64 b.n) ∧ w'.cell? ⟨B, 2, none⟩ = some (.string b.s)
theorem twoV.next {w0 w w' : World} {A B : Nat} {a b : Va} (h : twoV w0 A B a b w) (hA : A < w0.heap.size) (hB : B < w0.heap.size) (hb : Below w.heap.size w w') : twoV w0 A B a b w' := by
  obtain ⟨h0, a0, a1, a2, b0, b1, b2⟩ := h
  have s := h0.size
  have lA : A < w.heap.size := by omega
  have lB : B < w.heap.size := by omega
  exact ⟨h0.trans (hb.mono s), (hb.cell (p := ⟨A, 0, none⟩) lA).trans a0, (hb.cell (p := ⟨A, 1, none⟩) lA).trans a1, (hb.cell (p := ⟨A, 2, none⟩) lA).trans a2, (hb.cell (p := ⟨B, 0, none⟩) lB).trans b0, (hb.cell (p := ⟨B, 1, none⟩) lB).trans b1, (hb.cell (p := ⟨B, 2, none⟩) lB).trans b2⟩
theorem twoV.drew {w0 w : World} {A B : Nat} {a b : Va} (h : twoV w0 A B a b w) (hA : A < w0.heap.size) (hB : B < w0.heap.size) : twoV w0 A B a b w.drew := h.next hA hB (below_drewN (Below.refl _ w) 1)

set_option maxHeartbeats 4000000 in
set_option maxRecDepth 1000000 in
theorem RowcodeOrder_any (a b : Va) (r s : Rw) (w : World) (fa : fit a.n) (sa : a.s.size ≤ 9223372036854775807) (fb : fit b.n) (sb : b.s.size ≤ 9223372036854775807) (hr : rwOk w r) (_ : r.la.length ≤ 9223372036854775807) (hs : rwOk w s) (_ : s.la.length ≤ 9223372036854775807) (hT : Tabs w) :
    Calls Tryd.prog 3 #[.agg #[.int .i64 a.ty, .int .i64 a.n, .string a.s], .agg #[.int .i64 b.ty, .int .i64 b.n, .string b.s], .slice r.p r.la.length r.c, .slice s.p s.la.length s.c] w fun e w' => e = .returned (.bool true) ∧ Below w.heap.size w w' := by
  have LV : Hid (∀ w, Tabs w → Calls Tryd.prog 4 #[] w fun e w' => e = .returned (.bool true) ∧ Below w.heap.size w w') := fun w h => lives_any w h
  have VA : Hid (∀ w', Below w.heap.size w w' → Calls Tryd.prog 5 #[.agg #[.int .i64 a.ty, .int .i64 a.n, .string a.s]] w' _) := fun w' h => Value_all a w' fa sa (hT.below h)
  have VB : Hid (∀ w', Below w.heap.size w w' → Calls Tryd.prog 5 #[.agg #[.int .i64 b.ty, .int .i64 b.n, .string b.s]] w' _) := fun w' h => Value_all b w' fb sb (hT.below h)
  have RR : Hid (∀ w', Below w.heap.size w w' → Calls Tryd.prog 10 #[.slice r.p r.la.length r.c] w' _) := fun w' h => Row_any r.p r.c r.la w' (hr.below h).1 hr.2.1 hr.2.2 (hT.below h)
  have RS : Hid (∀ w', Below w.heap.size w w' → Calls Tryd.prog 10 #[.slice s.p s.la.length s.c] w' _) := fun w' h => Row_any s.p s.c s.la w' (hs.below h).1 hs.2.1 hs.2.2 (hT.below h)
  have OV : Hid (∀ w, Calls Tryd.prog 7 #[.agg #[.int .i64 a.ty, .int .i64 a.n, .string a.s], .agg #[.int .i64 b.ty, .int .i64 b.n, .string b.s]] w fun e w' => e = .returned (.int .i64 (ordV a b)) ∧ Below w.heap.size w w') := fun w => Order_any a b w fa fb
  have SV : Hid (∀ w, Calls Tryd.prog 9 #[.agg #[.int .i64 a.ty, .int .i64 a.n, .string a.s], .agg #[.int .i64 b.ty, .int .i64 b.n, .string b.s]] w fun e w' => e = .returned (.bool (ordV a b == 0)) ∧ Below w.heap.size w w') := fun w => Same_any a b w fa fb
  have RV : Hid (rowE r.la = 0 → ∀ w', Below w.heap.size w w' → Calls Tryd.prog 11 #[.slice r.p r.la.length r.c, .slice s.p s.la.length s.c] w' fun e w2 => e = .returned (.int .i64 (rowsV r.la s.la)) ∧ Below w'.heap.size w' w2) := fun h0 w' h => Rows_any r.p s.p r.c s.c r.la s.la w' (by have := (rowE_ok h0).1; omega) (hr.below h).1 (hs.below h).1 hr.2.1 hs.2.1
  have FR : Hid ((∀ v ∈ r.la, fit v.n) ∧ ∀ v ∈ s.la, fit v.n) := ⟨hr.2.1, hs.2.1⟩
  clear hr hs sa sb
  go_enter Tryd.func3, Tryd.ntmps3
  have F0 : Hid _ := Ft.new w a b
  have B0 : Hid (Below w.heap.size w ((w.alloc (.cells #[.int .i64 a.ty, .int .i64 a.n, .string a.s] 23)).alloc (.cells #[.int .i64 b.ty, .int .i64 b.n, .string b.s] 23))) := ((Below.refl _ w).alloc (Nat.le_refl _) _).alloc (by simp) _
  go_wp2_with fail
  refine (LV.out _ (hT.below B0.out)).mono ?_
  generalize (w.alloc (.cells #[.int .i64 a.ty, .int .i64 a.n, .string a.s] 23)).alloc (.cells #[.int .i64 b.ty, .int .i64 b.n, .string b.s] 23) = w0 at *
  rintro e w1 ⟨rfl, hb1⟩
  have b1 := B0.out.trans (hb1.mono B0.out.size)
  have F1 : Hid _ := F0.out.below hb1
  clear hb1 F0 B0
  obtain ⟨_, q0, q1, q2, q3, q4, q5⟩ := F1.out
  go_wp2_with fail
  refine (VA.out _ b1).mono ?_
  rintro e w2 ⟨v1, rfl, hb2, ho1⟩
  have b2 := b1.trans (hb2.mono b1.size)
  have F2 : Hid _ := F1.out.below hb2
  clear q0 q1 q2 q3 q4 q5 F1
  obtain ⟨_, q0, q1, q2, q3, q4, q5⟩ := F2.out
  go_wp2_with fail
  refine (VB.out _ b2).mono ?_
  rintro e w3 ⟨v2, rfl, hb3, ho2⟩
  have b3 := b2.trans (hb3.mono b2.size)
  have F3 : Hid _ := F2.out.below hb3
  clear q0 q1 q2 q3 q4 q5 F2
  obtain ⟨_, q0, q1, q2, q3, q4, q5⟩ := F3.out
  by_cases h1 : a.chk = 0
  · by_cases h2 : b.chk = 0
    · have B1 : Hid (Byt w3 v1 (valB a)) := (Byt.of (ho1 h1) (valB_ne h1)).below hb3
      have B2 : Hid (Byt w3 v2 (valB b)) := Byt.of (ho2 h2) (valB_ne h2)
      have OB : Hid (∀ w', twoV w3 w.heap.size (w.heap.size + 1) a b w' → Calls Tryd.prog 6 #[v1, v2] w' fun e w'' => e = .returned (.int .i64 (ordV a b)) ∧ Below w'.heap.size w' w'') := fun w' h => by
        have := order_byt (B1.out.below h.1) (B2.out.below h.1)
        rw [val_ord h1 h2 fa fb] at this
        refine this.mono ?_
        rintro e w2 ⟨rfl, rfl⟩
        exact ⟨rfl, Below.refl _ _⟩
      have BB : Hid (∀ w', twoV w3 w.heap.size (w.heap.size + 1) a b w' → Calls Tryd.prog 8 #[v1, v2] w' fun e w'' => e = .returned (.bool (ordV a b == 0)) ∧ Below w'.heap.size w' w'') := fun w' h => by
        have := begins_byt (B1.out.below h.1) (B2.out.below h.1)
        rw [beg_same h1 h2 fa fb] at this; exact this
      have lB : w.heap.size + 1 < w3.heap.size := F3.out.lt
      have lA : w.heap.size < w3.heap.size := by omega
      have T0 : twoV w3 w.heap.size (w.heap.size + 1) a b w3 := ⟨Below.refl _ _, q0, q1, q2, q3, q4, q5⟩
      clear ho1 ho2 hb2 hb3 b1 b2 B1 B2 q0 q1 q2 q3 q4 q5 F3
      rw [h1, h2]
      clear h1 h2
      generalize ordV a b = Z at *
      go_wp2_with fail
      go_region_held3 (fun w' => Below w3.heap.size w3 w' ∧ w'.cell? ⟨w.heap.size, 0, none⟩ = some (.int .i64 a.ty) ∧ w'.cell? ⟨w.heap.size, 1, none⟩ = some (.int .i64 a.n) ∧ w'.cell? ⟨w.heap.size, 2, none⟩ = some (.string a.s) ∧ w'.cell? ⟨w.heap.size + 1, 0, none⟩ = some (.int .i64 b.ty) ∧ w'.cell? ⟨w.heap.size + 1, 1, none⟩ = some (.int .i64 b.n) ∧ w'.cell? ⟨w.heap.size + 1, 2, none⟩ = some (.string b.s)) (first | exact twoV.drew T0 lA lB | exact twoV.next (by assumption) lA lB hb2) ((first | (go_at_call 6; refine (OB.out _ (by assumption)).mono ?_; rintro e w4 ⟨rfl, hb2⟩) | (go_at_call 7; refine (OV.out _).mono ?_; rintro e w4 ⟨rfl, hb2⟩) | (go_at_call 8; refine (BB.out _ (by assumption)).mono ?_; rintro e w4 ⟨rfl, hb2⟩) | (go_at_call 9; refine (SV.out _).mono ?_; rintro e w4 ⟨rfl, hb2⟩)))
      have T1 : twoV w3 w.heap.size (w.heap.size + 1) a b w4 := by assumption
      have b4 : Below w.heap.size w w4 := b3.trans (T1.1.mono b3.size)
      clear T0 T1
      go_wp2_with fail
      refine (RR.out _ b4).mono ?_
      rintro e w5 ⟨v3, rfl, hb5, ho3, _⟩
      have b5 := b4.trans (hb5.mono b4.size)
      go_wp2_with fail
      refine (RS.out _ b5).mono ?_
      rintro e w6 ⟨v4, rfl, hb6, ho4, _⟩
      have b6 := b5.trans (hb6.mono b5.size)
      by_cases h3 : rowE r.la = 0
      · by_cases h4 : rowE s.la = 0
        · have B3 : Hid (Byt w6 v3 (rowB r.la)) := (Byt.of (ho3 h3) (rowB_ne _)).below hb6
          have B4 : Hid (Byt w6 v4 (rowB s.la)) := Byt.of (ho4 h4) (rowB_ne _)
          have OR : Hid (Calls Tryd.prog 6 #[v3, v4] w6 fun e w' => e = .returned (.int .i64 (rowsV r.la s.la)) ∧ w' = w6) := by
            have := order_byt B3.out B4.out
            rw [rows_cmp (rowE_ok h3).2 (rowE_ok h4).2 FR.out.1 FR.out.2] at this; exact this
          have RW2 : Hid (Calls Tryd.prog 11 #[.slice r.p r.la.length r.c, .slice s.p s.la.length s.c] w6 fun e w2 => e = .returned (.int .i64 (rowsV r.la s.la)) ∧ Below w6.heap.size w6 w2) := RV.out h3 _ b6
          clear ho3 ho4 hb5 hb6 B3 B4
          rw [h3, h4]
          clear h3 h4
          generalize rowsV r.la s.la = Z at *
          go_wp2_with fail
          refine OR.out.mono ?_
          rintro e wx ⟨rfl, hwx⟩; have hwx2 := hwx.symm; subst hwx2; clear hwx
          go_wp2_with fail
          refine RW2.out.mono ?_
          rintro e w7 ⟨rfl, hb7⟩
          go_wp2_with fail
          go_ret
          exact ⟨rfl, b6.trans (hb7.mono b6.size)⟩
        · have hne : (rowE s.la != 0) = true := by rw [bne_iff_ne]; exact h4
          rw [h3]
          clear h3 h4 ho3 ho4
          go_wp2_with fail
          go_ret
          exact ⟨rfl, b6⟩
      · have hne : (rowE r.la != 0) = true := by rw [bne_iff_ne]; exact h3
        clear h3 ho3 ho4
        go_wp2_with fail
        go_ret
        exact ⟨rfl, b6⟩
    · have hne : (b.chk == 0) = false := by rw [beq_eq_false_iff_ne]; exact h2
      rw [h1]
      have b4 := b3
      clear h1 h2 ho1 ho2 hb2 hb3 b1 b2 q0 q1 q2 q3 q4 q5 F3
      go_wp2_with fail
      refine (RR.out _ b4).mono ?_
      rintro e w5 ⟨v3, rfl, hb5, ho3, _⟩
      have b5 := b4.trans (hb5.mono b4.size)
      go_wp2_with fail
      refine (RS.out _ b5).mono ?_
      rintro e w6 ⟨v4, rfl, hb6, ho4, _⟩
      have b6 := b5.trans (hb6.mono b5.size)
      by_cases h3 : rowE r.la = 0
      · by_cases h4 : rowE s.la = 0
        · have B3 : Hid (Byt w6 v3 (rowB r.la)) := (Byt.of (ho3 h3) (rowB_ne _)).below hb6
          have B4 : Hid (Byt w6 v4 (rowB s.la)) := Byt.of (ho4 h4) (rowB_ne _)
          have OR : Hid (Calls Tryd.prog 6 #[v3, v4] w6 fun e w' => e = .returned (.int .i64 (rowsV r.la s.la)) ∧ w' = w6) := by
            have := order_byt B3.out B4.out
            rw [rows_cmp (rowE_ok h3).2 (rowE_ok h4).2 FR.out.1 FR.out.2] at this; exact this
          have RW2 : Hid (Calls Tryd.prog 11 #[.slice r.p r.la.length r.c, .slice s.p s.la.length s.c] w6 fun e w2 => e = .returned (.int .i64 (rowsV r.la s.la)) ∧ Below w6.heap.size w6 w2) := RV.out h3 _ b6
          clear ho3 ho4 hb5 hb6 B3 B4
          rw [h3, h4]
          clear h3 h4
          generalize rowsV r.la s.la = Z at *
          go_wp2_with fail
          refine OR.out.mono ?_
          rintro e wx ⟨rfl, hwx⟩; have hwx2 := hwx.symm; subst hwx2; clear hwx
          go_wp2_with fail
          refine RW2.out.mono ?_
          rintro e w7 ⟨rfl, hb7⟩
          go_wp2_with fail
          go_ret
          exact ⟨rfl, b6.trans (hb7.mono b6.size)⟩
        · have hne : (rowE s.la != 0) = true := by rw [bne_iff_ne]; exact h4
          rw [h3]
          clear h3 h4 ho3 ho4
          go_wp2_with fail
          go_ret
          exact ⟨rfl, b6⟩
      · have hne : (rowE r.la != 0) = true := by rw [bne_iff_ne]; exact h3
        clear h3 ho3 ho4
        go_wp2_with fail
        go_ret
        exact ⟨rfl, b6⟩
  · have hne : (a.chk == 0) = false := by rw [beq_eq_false_iff_ne]; exact h1
    have b4 := b3
    clear h1 ho1 ho2 hb2 hb3 b1 b2 q0 q1 q2 q3 q4 q5 F3
    go_wp2_with fail
    refine (RR.out _ b4).mono ?_
    rintro e w5 ⟨v3, rfl, hb5, ho3, _⟩
    have b5 := b4.trans (hb5.mono b4.size)
    go_wp2_with fail
    refine (RS.out _ b5).mono ?_
    rintro e w6 ⟨v4, rfl, hb6, ho4, _⟩
    have b6 := b5.trans (hb6.mono b5.size)
    by_cases h3 : rowE r.la = 0
    · by_cases h4 : rowE s.la = 0
      · have B3 : Hid (Byt w6 v3 (rowB r.la)) := (Byt.of (ho3 h3) (rowB_ne _)).below hb6
        have B4 : Hid (Byt w6 v4 (rowB s.la)) := Byt.of (ho4 h4) (rowB_ne _)
        have OR : Hid (Calls Tryd.prog 6 #[v3, v4] w6 fun e w' => e = .returned (.int .i64 (rowsV r.la s.la)) ∧ w' = w6) := by
          have := order_byt B3.out B4.out
          rw [rows_cmp (rowE_ok h3).2 (rowE_ok h4).2 FR.out.1 FR.out.2] at this; exact this
        have RW2 : Hid (Calls Tryd.prog 11 #[.slice r.p r.la.length r.c, .slice s.p s.la.length s.c] w6 fun e w2 => e = .returned (.int .i64 (rowsV r.la s.la)) ∧ Below w6.heap.size w6 w2) := RV.out h3 _ b6
        clear ho3 ho4 hb5 hb6 B3 B4
        rw [h3, h4]
        clear h3 h4
        generalize rowsV r.la s.la = Z at *
        go_wp2_with fail
        refine OR.out.mono ?_
        rintro e wx ⟨rfl, hwx⟩; have hwx2 := hwx.symm; subst hwx2; clear hwx
        go_wp2_with fail
        refine RW2.out.mono ?_
        rintro e w7 ⟨rfl, hb7⟩
        go_wp2_with fail
        go_ret
        exact ⟨rfl, b6.trans (hb7.mono b6.size)⟩
      · have hne : (rowE s.la != 0) = true := by rw [bne_iff_ne]; exact h4
        rw [h3]
        clear h3 h4 ho3 ho4
        go_wp2_with fail
        go_ret
        exact ⟨rfl, b6⟩
    · have hne : (rowE r.la != 0) = true := by rw [bne_iff_ne]; exact h3
      clear h3 ho3 ho4
      go_wp2_with fail
      go_ret
      exact ⟨rfl, b6⟩
end Go.Proofs.YtbepbgfppekhbaaDoor
