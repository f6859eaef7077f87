/-
  The walk of the law ValueTexts.
-/
import Derived.Test.YtoboebibmelgkaaGreatDoorPaR
namespace Go.Proofs.YtoboebibmelgkaaGreatDoor
open Go.RowKit Go.Shelf

set_option maxHeartbeats 8000000 in
set_option maxRecDepth 1000000 in
theorem ValueTexts_any (a : Va) (s : ByteArray) (w : World) (fa : fit a.n) (sa : a.s.size ≤ 9223372036854775807) (ss : s.size ≤ 9223372036854775807) (hT : Tabs w) (hP : Pow w) (hM : Mx w) (hR : Rg w) :
    Calls Tryz.prog 4 #[.agg #[.int .i64 a.ty, .int .i64 a.n, .string a.s], .string s] w fun e w' => e = .returned (.bool true) ∧ Below w.heap.size w w' := by
  have LV : Hid (∀ w', Below w.heap.size w w' → Calls Tryz.prog 8 #[] w' fun e w'' => e = .returned (.bool true) ∧ Below w'.heap.size w' w'') := fun w' h => lives_any w' (hT.below h) (hP.below h)
  have hsl : s.data.toList.length = s.size := Array.length_toList
  obtain ⟨c3, hc3⟩ : ∃ c3, c3 = prs s.data.toList := ⟨_, rfl⟩
  have C1 : Hid (∀ w', Below w.heap.size w w' → Calls Tryz.prog 9 #[.agg #[.int .i64 a.ty, .int .i64 a.n, .string a.s]] w' fun e w'' => e = .returned (pvV a.ty a.n a.s) ∧ Below w'.heap.size w' w'') := fun w' h => Print_any a.ty a.n a.s w' fa sa (hT.below h) (hP.below h) (hM.below h)
  have C2 : Hid (∀ w', Below w.heap.size w w' → Calls Tryz.prog 10 #[.agg #[.int .i64 a.ty, .int .i64 a.n, .string a.s]] w' fun e w'' => e = .returned (pvV a.ty a.n a.s) ∧ Below w'.heap.size w' w'') := fun w' h => refPrint_any a.ty a.n a.s w' fa sa (hT.below h) (hP.below h) (hM.below h)
  have C3 : Hid (∀ w', Below w.heap.size w w' → Calls Tryz.prog 11 #[.string s] w' fun e w'' => e = .returned (av c3) ∧ Below w'.heap.size w' w'') := fun w' h => by
    have k := Parse_any s.data.toList w' (by omega) (hM.below h) (hR.below h) (hT.below h)
    rw [← bytes_of s, ← hc3] at k
    exact k
  have C4 : Hid (∀ w', Below w.heap.size w w' → Calls Tryz.prog 12 #[.string s] w' fun e w'' => e = .returned (av c3) ∧ Below w'.heap.size w' w'') := fun w' h => by
    have k := refParse_any s.data.toList w' (by omega)
    rw [← bytes_of s, ← hc3] at k
    exact k
  have C5 : Hid (chk a.ty a.n a.s = 0 → ∀ w', Below w.heap.size w w' → Calls Tryz.prog 11 #[.string ⟨(prV a.ty a.n a.s).toArray⟩] w' fun e w'' => e = .returned (av (plV a.ty a.n a.s, 0)) ∧ Below w'.heap.size w' w'') := fun hc w' h => by
    have k := Parse_any (prV a.ty a.n a.s) w' (by have := prV_len fa hc; omega) (hM.below h) (hR.below h) (hT.below h)
    rw [prs_prV fa hc] at k
    exact k
  have PL : Hid (chk a.ty a.n a.s = 0 → ∀ w', Below w.heap.size w w' → Calls Tryz.prog 13 #[.agg #[.int .i64 a.ty, .int .i64 a.n, .string a.s]] w' fun e w'' => e = .returned (ag (plV a.ty a.n a.s)) ∧ Below w'.heap.size w' w'') := fun hc w' _ => Plain_any a.ty a.n a.s w' (by
    unfold chk at hc
    by_cases h : a.ty < 0 ∨ 4 < a.ty ∨ (a.ty = 4 ∧ a.n ≠ 0 ∧ a.n ≠ 1)
    · rw [if_pos h] at hc; cases hc
    · omega)
  clear hc3 fa sa ss hT hP hM hR hsl
  obtain ⟨⟨ct, cn, cs⟩, ce⟩ := c3
  unfold av at C3 C4 C5
  simp only at C3 C4
  have A0 : Bx (w.alloc (.cells #[.int .i64 a.ty, .int .i64 a.n, .string a.s] 23)) w.heap.size a := Bx.new w a
  have B0 : Below w.heap.size w (w.alloc (.cells #[.int .i64 a.ty, .int .i64 a.n, .string a.s] 23)) := (Below.refl _ w).alloc (Nat.le_refl _) _
  by_cases hc : chk a.ty a.n a.s = 0
  · have eV : pvV a.ty a.n a.s = .tuple #[.string ⟨(prV a.ty a.n a.s).toArray⟩, .int .i64 0] := if_pos hc
    rw [eV] at C1 C2
    have C5 : Hid (∀ w', _) := C5.out hc
    have PL : Hid (∀ w', _) := PL.out hc
    clear hc eV
    unfold ag at PL
    generalize prV a.ty a.n a.s = X at *
    generalize plV a.ty a.n a.s = p at *
    obtain ⟨pt, pn, px⟩ := p
    simp only at C5 PL
    go_enter Tryz.func4, Tryz.ntmps4
    go_wp2_with fail
    generalize w.alloc (.cells #[.int .i64 a.ty, .int .i64 a.n, .string a.s] 23) = w0 at *
    refine (C1.out _ B0).mono ?_
    rintro e x1 ⟨rfl, hb1⟩
    have A1 := (A0.below hb1)
    have B1 := B0.trans (hb1.mono B0.size)
    clear hb1 B0 A0
    obtain ⟨_, A_0, A_1, A_2⟩ := id A1
    go_wp2_with fail
    clear A_0 A_1 A_2
    refine (C2.out _ B1).mono ?_
    rintro e x2 ⟨rfl, hb2⟩
    have A2 := (A1.below hb2)
    have B2 := B1.trans (hb2.mono B1.size)
    clear hb2 B1 A1
    obtain ⟨_, A_0, A_1, A_2⟩ := id A2
    go_wp2_with fail
    clear A_0 A_1 A_2
    refine (C3.out _ B2).mono ?_
    rintro e x3 ⟨rfl, hb3⟩
    have A3 := (A2.below hb3).alloc (.cells #[.int .i64 ct, .int .i64 cn, .string cs] 23)
    have S3 := Bx.new x3 ⟨ct, cn, cs⟩
    have B3 := (B2.trans (hb3.mono B2.size)).alloc (B2.trans (hb3.mono B2.size)).size (.cells #[.int .i64 ct, .int .i64 cn, .string cs] 23)
    clear hb3 B2 A2
    obtain ⟨_, A_0, A_1, A_2⟩ := id A3
    obtain ⟨_, S_0, S_1, S_2⟩ := id S3
    go_wp2_with fail
    generalize x3.alloc (.cells #[.int .i64 ct, .int .i64 cn, .string cs] 23) = w3 at *
    clear A_0 A_1 A_2 S_0 S_1 S_2
    refine (C4.out _ B3).mono ?_
    rintro e x4 ⟨rfl, hb4⟩
    have A4 := (A3.below hb4).alloc (.cells #[.int .i64 ct, .int .i64 cn, .string cs] 23)
    have S4 := (S3.below hb4).alloc (.cells #[.int .i64 ct, .int .i64 cn, .string cs] 23)
    have T4 := Bx.new x4 ⟨ct, cn, cs⟩
    have B4 := (B3.trans (hb4.mono B3.size)).alloc (B3.trans (hb4.mono B3.size)).size (.cells #[.int .i64 ct, .int .i64 cn, .string cs] 23)
    clear hb4 B3 A3 S3
    obtain ⟨_, A_0, A_1, A_2⟩ := id A4
    obtain ⟨_, S_0, S_1, S_2⟩ := id S4
    obtain ⟨_, T_0, T_1, T_2⟩ := id T4
    go_wp2_with fail
    generalize x4.alloc (.cells #[.int .i64 ct, .int .i64 cn, .string cs] 23) = w4 at *
    clear A_0 A_1 A_2 S_0 S_1 S_2 T_0 T_1 T_2
    refine (C5.out _ B4).mono ?_
    rintro e x5 ⟨rfl, hb5⟩
    have A5 := (A4.below hb5).alloc (.cells #[.int .i64 pt, .int .i64 pn, .string px] 23)
    have S5 := (S4.below hb5).alloc (.cells #[.int .i64 pt, .int .i64 pn, .string px] 23)
    have T5 := (T4.below hb5).alloc (.cells #[.int .i64 pt, .int .i64 pn, .string px] 23)
    have E5 := Bx.new x5 ⟨pt, pn, px⟩
    have B5 := (B4.trans (hb5.mono B4.size)).alloc (B4.trans (hb5.mono B4.size)).size (.cells #[.int .i64 pt, .int .i64 pn, .string px] 23)
    clear hb5 B4 A4 S4 T4
    obtain ⟨_, A_0, A_1, A_2⟩ := id A5
    obtain ⟨_, S_0, S_1, S_2⟩ := id S5
    obtain ⟨_, T_0, T_1, T_2⟩ := id T5
    obtain ⟨_, E_0, E_1, E_2⟩ := id E5
    go_wp2_with fail
    generalize x5.alloc (.cells #[.int .i64 pt, .int .i64 pn, .string px] 23) = w5 at *
    clear A_0 A_1 A_2 S_0 S_1 S_2 T_0 T_1 T_2 E_0 E_1 E_2
    have T0 : tw w w.heap.size x5.heap.size a ⟨pt, pn, px⟩ w5 := ⟨B5, A5.c0, A5.c1, A5.c2, E5.c0, E5.c1, E5.c2⟩
    clear A5 S5 T5 E5 B5 C1 C2 C3 C4 C5
    go_region_held3 (fun w' => Below w.heap.size w w' ∧ w'.cell? ⟨w.heap.size, 0, none⟩ = some (.int .i64 a.ty) ∧ w'.cell? ⟨w.heap.size, 1, none⟩ = some (.int .i64 a.n) ∧ w'.cell? ⟨w.heap.size, 2, none⟩ = some (.string a.s) ∧ w'.cell? ⟨x5.heap.size, 0, none⟩ = some (.int .i64 pt) ∧ w'.cell? ⟨x5.heap.size, 1, none⟩ = some (.int .i64 pn) ∧ w'.cell? ⟨x5.heap.size, 2, none⟩ = some (.string px)) (first | exact tw.drew T0 | exact tw.next (w := w) (A := w.heap.size) (B := x5.heap.size) (a := a) (b := ⟨pt, pn, px⟩) (by assumption) hb9) ((first | (go_at_call 13; refine (PL.out _ (And.left (by assumption))).mono ?_; rintro e w9 ⟨rfl, hb9⟩) | (go_at_call 8; refine (LV.out _ (And.left (by assumption))).mono ?_; rintro e w9 ⟨rfl, hb9⟩) | fail))
    have T1 : tw w w.heap.size x5.heap.size a ⟨pt, pn, px⟩ w9 := by assumption
    go_wp2_with fail
    go_ret
    exact ⟨rfl, T1.1⟩
  · have eV : pvV a.ty a.n a.s = .tuple #[.string ⟨#[]⟩, .int .i64 (chk a.ty a.n a.s)] := if_neg hc
    rw [eV] at C1 C2
    clear eV C5 PL
    generalize chk a.ty a.n a.s = c at *
    have hcb : (c != 0) = true := by rw [bne_iff_ne]; exact hc
    go_enter Tryz.func4, Tryz.ntmps4
    go_wp2_with fail
    generalize w.alloc (.cells #[.int .i64 a.ty, .int .i64 a.n, .string a.s] 23) = w0 at *
    refine (C1.out _ B0).mono ?_
    rintro e x1 ⟨rfl, hb1⟩
    have A1 := (A0.below hb1)
    have B1 := B0.trans (hb1.mono B0.size)
    clear hb1 B0 A0
    obtain ⟨_, A_0, A_1, A_2⟩ := id A1
    go_wp2_with fail
    clear A_0 A_1 A_2
    refine (C2.out _ B1).mono ?_
    rintro e x2 ⟨rfl, hb2⟩
    have A2 := (A1.below hb2)
    have B2 := B1.trans (hb2.mono B1.size)
    clear hb2 B1 A1
    obtain ⟨_, A_0, A_1, A_2⟩ := id A2
    go_wp2_with fail
    clear A_0 A_1 A_2
    refine (C3.out _ B2).mono ?_
    rintro e x3 ⟨rfl, hb3⟩
    have A3 := (A2.below hb3).alloc (.cells #[.int .i64 ct, .int .i64 cn, .string cs] 23)
    have S3 := Bx.new x3 ⟨ct, cn, cs⟩
    have B3 := (B2.trans (hb3.mono B2.size)).alloc (B2.trans (hb3.mono B2.size)).size (.cells #[.int .i64 ct, .int .i64 cn, .string cs] 23)
    clear hb3 B2 A2
    obtain ⟨_, A_0, A_1, A_2⟩ := id A3
    obtain ⟨_, S_0, S_1, S_2⟩ := id S3
    go_wp2_with fail
    generalize x3.alloc (.cells #[.int .i64 ct, .int .i64 cn, .string cs] 23) = w3 at *
    clear A_0 A_1 A_2 S_0 S_1 S_2
    refine (C4.out _ B3).mono ?_
    rintro e x4 ⟨rfl, hb4⟩
    have A4 := (A3.below hb4).alloc (.cells #[.int .i64 ct, .int .i64 cn, .string cs] 23)
    have S4 := (S3.below hb4).alloc (.cells #[.int .i64 ct, .int .i64 cn, .string cs] 23)
    have T4 := Bx.new x4 ⟨ct, cn, cs⟩
    have B4 := (B3.trans (hb4.mono B3.size)).alloc (B3.trans (hb4.mono B3.size)).size (.cells #[.int .i64 ct, .int .i64 cn, .string cs] 23)
    clear hb4 B3 A3 S3
    obtain ⟨_, A_0, A_1, A_2⟩ := id A4
    obtain ⟨_, S_0, S_1, S_2⟩ := id S4
    obtain ⟨_, T_0, T_1, T_2⟩ := id T4
    go_wp2_with fail
    generalize x4.alloc (.cells #[.int .i64 ct, .int .i64 cn, .string cs] 23) = w4 at *
    clear A_0 A_1 A_2 S_0 S_1 S_2 T_0 T_1 T_2
    refine (LV.out _ B4).mono ?_
    rintro e z1 ⟨rfl, hz1⟩
    go_wp2_with fail
    go_ret
    exact ⟨rfl, B4.trans (hz1.mono B4.size)⟩
end Go.Proofs.YtoboebibmelgkaaGreatDoor
