/-
  The reference's product of ten-thousandths.
-/
import Derived.Test.YtppcoimfgafbfaaGreatDoorReB
namespace Go.Proofs.YtppcoimfgafbfaaGreatDoor
open Go.RowKit Go.Shelf

set_option maxHeartbeats 4000000 in
set_option maxRecDepth 1000000 in
theorem product_dec (a b : Int) (w : World) (ha : fit a) (hb : fit b) :
    Calls Tryz.prog 33 #[.int .i64 a, .int .i64 b, .bool true] w fun e w' => e = .returned (.tuple #[.int .i64 (ovV (prd a b)), .bool (fitB (prd a b))]) ∧ Below w.heap.size w w' := by
  have h1 := abs_lt ha
  have h2 := abs_lt hb
  have S1 : Hid (∀ w, Calls Tryz.prog 23 #[.int .i64 a] w fun e w' => e = .returned (.int .u64 (a.natAbs : Int)) ∧ w' = w) := fun w => refSize_any a w ha
  have S2 : Hid (∀ w, Calls Tryz.prog 23 #[.int .i64 b] w fun e w' => e = .returned (.int .u64 (b.natAbs : Int)) ∧ w' = w) := fun w => refSize_any b w hb
  obtain ⟨x, hx⟩ : ∃ x, x = a.natAbs := ⟨_, rfl⟩
  obtain ⟨y, hy⟩ : ∃ y, y = b.natAbs := ⟨_, rfl⟩
  rw [← hx] at S1 h1
  rw [← hy] at S2 h2
  have pe := parts_eq x y
  obtain ⟨x1, hx1⟩ : ∃ x1, x1 = x / 10000 := ⟨_, rfl⟩
  obtain ⟨x0, hx0⟩ : ∃ x0, x0 = x % 10000 := ⟨_, rfl⟩
  obtain ⟨y1, hy1⟩ : ∃ y1, y1 = y / 10000 := ⟨_, rfl⟩
  obtain ⟨y0, hy0⟩ : ∃ y0, y0 = y % 10000 := ⟨_, rfl⟩
  have k1 : (x : Int) / 10000 = (x1 : Int) := by omega
  have k2 : (x : Int) % 10000 = (x0 : Int) := by omega
  have k3 : (y : Int) / 10000 = (y1 : Int) := by omega
  have k4 : (y : Int) % 10000 = (y0 : Int) := by omega
  rw [← hx1, ← hx0, ← hy1, ← hy0] at pe
  have T1 := fun w => times_any x1 y w (by omega) (by omega)
  have T2 := fun w => times_any x0 y1 w (by omega) (by omega)
  obtain ⟨U, hU⟩ : ∃ U, U = x1 * y := ⟨_, rfl⟩
  obtain ⟨V, hV⟩ : ∃ V, V = x0 * y1 := ⟨_, rfl⟩
  obtain ⟨Z, hZ⟩ : ∃ Z, Z = x0 * y0 := ⟨_, rfl⟩
  have hZl : Z ≤ 9999 * 9999 := by rw [hZ]; exact Nat.mul_le_mul (by omega) (by omega)
  have k5 : (x0 : Int) * (y0 : Int) = (Z : Int) := by rw [hZ]; simp
  obtain ⟨C, hC⟩ : ∃ C, C = (Z + 5000) / 10000 := ⟨_, rfl⟩
  have k6 : ((Z : Int) + 5000) / 10000 = (C : Int) := by omega
  rw [← hU] at T1 pe
  rw [← hV] at T2 pe
  rw [← hZ, ← hC] at pe
  obtain ⟨U1, hU1⟩ : ∃ U1, U1 = U % 18446744073709551616 := ⟨_, rfl⟩
  obtain ⟨V1, hV1⟩ : ∃ V1, V1 = V % 18446744073709551616 := ⟨_, rfl⟩
  rw [← hU1] at T1
  rw [← hV1] at T2
  obtain ⟨o1, ho1⟩ : ∃ o1, o1 = decide (U < 18446744073709551616) := ⟨_, rfl⟩
  obtain ⟨o2, ho2⟩ : ∃ o2, o2 = decide (V < 18446744073709551616) := ⟨_, rfl⟩
  rw [← ho1] at T1
  rw [← ho2] at T2
  have P1 := fun w => plus_any U1 V1 (o1 && o2) w (by omega) (by omega)
  obtain ⟨N2, hN2⟩ : ∃ N2, N2 = (U1 + V1) % 18446744073709551616 := ⟨_, rfl⟩
  obtain ⟨o3, ho3⟩ : ∃ o3, o3 = ((o1 && o2) && decide (U1 + V1 < 18446744073709551616)) := ⟨_, rfl⟩
  rw [← hN2, ← ho3] at P1
  have P2 := fun w => plus_any N2 C o3 w (by omega) (by omega)
  obtain ⟨N3, hN3⟩ : ∃ N3, N3 = (N2 + C) % 18446744073709551616 := ⟨_, rfl⟩
  obtain ⟨o4, ho4⟩ : ∃ o4, o4 = (o3 && decide (N2 + C < 18446744073709551616)) := ⟨_, rfl⟩
  rw [← hN3, ← ho4] at P2
  have hall : (o4 = true ↔ U + V + C < 18446744073709551616) ∧ (o4 = true → N3 = U + V + C) := by
    by_cases g1 : U < 18446744073709551616
    · rw [decide_eq_true g1] at ho1
      by_cases g2 : V < 18446744073709551616
      · rw [decide_eq_true g2] at ho2
        subst ho1 ho2
        by_cases g3 : U1 + V1 < 18446744073709551616
        · rw [decide_eq_true g3] at ho3
          subst ho3
          by_cases g4 : N2 + C < 18446744073709551616
          · rw [decide_eq_true g4] at ho4
            subst ho4
            exact ⟨⟨fun _ => by omega, fun _ => rfl⟩, fun _ => by omega⟩
          · rw [decide_eq_false g4] at ho4
            subst ho4
            exact ⟨⟨fun h => (by cases h), fun h => by omega⟩, fun h => (by cases h)⟩
        · rw [decide_eq_false g3] at ho3
          subst ho3 ho4
          exact ⟨⟨fun h => (by cases h), fun h => by omega⟩, fun h => (by cases h)⟩
      · rw [decide_eq_false g2] at ho2
        subst ho1 ho2 ho3 ho4
        exact ⟨⟨fun h => (by cases h), fun h => by omega⟩, fun h => (by cases h)⟩
    · rw [decide_eq_false g1] at ho1
      subst ho1 ho3 ho4
      exact ⟨⟨fun h => (by cases h), fun h => by omega⟩, fun h => (by cases h)⟩
  rw [pe] at hall
  have T1h : Hid (∀ w, _) := T1
  have T2h : Hid (∀ w, _) := T2
  have P1h : Hid (∀ w, _) := P1
  have P2h : Hid (∀ w, _) := P2
  have hZi : (Z : Int) + 5000 < 18446744073709551616 := by omega
  have g1 : IntKind.u64.wrap (x1 : Int) = (x1 : Int) := by rw [IntKind.wrap_u64]; omega
  have g2 : IntKind.u64.wrap (x0 : Int) = (x0 : Int) := by rw [IntKind.wrap_u64]; omega
  have g3 : IntKind.u64.wrap (y1 : Int) = (y1 : Int) := by rw [IntKind.wrap_u64]; omega
  have g4 : IntKind.u64.wrap (y0 : Int) = (y0 : Int) := by rw [IntKind.wrap_u64]; omega
  have g5 : IntKind.u64.wrap (Z : Int) = (Z : Int) := by rw [IntKind.wrap_u64]; omega
  have g6 : IntKind.u64.wrap ((Z : Int) + 5000) = (Z : Int) + 5000 := by rw [IntKind.wrap_u64]; omega
  have g7 : IntKind.u64.wrap (C : Int) = (C : Int) := by rw [IntKind.wrap_u64]; omega
  clear T1 T2 P1 P2 ho1 ho2 ho3 ho4 hN2 hN3 hU1 hV1 hU hV hZ hC pe hx1 hx0 hy1 hy0
  cases o4
  · have ov : ¬ fit (prd a b) := prd_over (by
      have := fun h => hall.1.2 h
      rw [← hx, ← hy]
      apply Nat.le_of_not_lt
      intro h
      cases this h)
    rw [ovV_out ov, fitB_out ov]
    obtain ⟨c, hd⟩ : ∃ c : Bool, (decide (a < 0) == decide (b < 0)) = c := ⟨_, rfl⟩
    clear ov hall hx hy h1 h2 ha hb
    go_enter Tryz.func33, Tryz.ntmps33
    go_wp2_with fail
    refine (S1.out _).mono ?_
    rintro e w1 ⟨rfl, rfl⟩
    go_wp2_with fail
    refine (S2.out _).mono ?_
    rintro e w1 ⟨rfl, rfl⟩
    go_wp2_with fail
    refine (T1h.out _).mono ?_
    rintro e w2 ⟨rfl, hb2⟩
    go_wp2_with fail
    refine (T2h.out _).mono ?_
    rintro e w3 ⟨rfl, hb3⟩
    have hb5 := hb2.trans (hb3.mono hb2.size)
    clear hb2 hb3
    cases o1
    all_goals
      simp only [Bool.true_and, Bool.false_and] at P1h
      go_wp2_with fail
      refine (P1h.out _).mono ?_
      rintro e wx ⟨rfl, hwx⟩; have hwx2 := hwx.symm; subst hwx2; clear hwx
      go_wp2_with fail
      refine (P2h.out _).mono ?_
      rintro e wx ⟨rfl, hwx⟩; have hwx2 := hwx.symm; subst hwx2; clear hwx
      go_wp2_with fail
      go_ret2
      exact ⟨rfl, hb5⟩
  · have hN := hall.2 rfl
    have hl := hall.1.1 rfl
    have hN3l : N3 < 18446744073709551616 := by omega
    by_cases hs : (a < 0) = (b < 0)
    · rw [prd_same hs, ← hx, ← hy, ← hN]
      have hd := sign_same hs
      have NR : Hid (∀ w, _) := fun w => near_any N3 false w hN3l
      simp only [if_false, Bool.false_eq_true] at NR
      clear hall hx hy h1 h2 ha hb hN hl hN3l hs
      go_enter Tryz.func33, Tryz.ntmps33
      go_wp2_with fail
      refine (S1.out _).mono ?_
      rintro e w1 ⟨rfl, rfl⟩
      go_wp2_with fail
      refine (S2.out _).mono ?_
      rintro e w1 ⟨rfl, rfl⟩
      go_wp2_with fail
      refine (T1h.out _).mono ?_
      rintro e w2 ⟨rfl, hb2⟩
      go_wp2_with fail
      refine (T2h.out _).mono ?_
      rintro e w3 ⟨rfl, hb3⟩
      have hb5 := hb2.trans (hb3.mono hb2.size)
      clear hb2 hb3
      cases o1
      all_goals
        simp only [Bool.true_and, Bool.false_and] at P1h
        go_wp2_with fail
        refine (P1h.out _).mono ?_
        rintro e wx ⟨rfl, hwx⟩; have hwx2 := hwx.symm; subst hwx2; clear hwx
        go_wp2_with fail
        refine (P2h.out _).mono ?_
        rintro e wx ⟨rfl, hwx⟩; have hwx2 := hwx.symm; subst hwx2; clear hwx
        go_wp2_with fail
        refine (NR.out _).mono ?_
        rintro e wx ⟨rfl, hwx⟩; have hwx2 := hwx.symm; subst hwx2; clear hwx
        go_wp2_with fail
        go_ret2
        exact ⟨rfl, hb5⟩
    · rw [prd_other hs, ← hx, ← hy, ← hN]
      have hd := sign_other hs
      have NR : Hid (∀ w, _) := fun w => near_any N3 true w hN3l
      simp only [if_true] at NR
      clear hall hx hy h1 h2 ha hb hN hl hN3l hs
      go_enter Tryz.func33, Tryz.ntmps33
      go_wp2_with fail
      refine (S1.out _).mono ?_
      rintro e w1 ⟨rfl, rfl⟩
      go_wp2_with fail
      refine (S2.out _).mono ?_
      rintro e w1 ⟨rfl, rfl⟩
      go_wp2_with fail
      refine (T1h.out _).mono ?_
      rintro e w2 ⟨rfl, hb2⟩
      go_wp2_with fail
      refine (T2h.out _).mono ?_
      rintro e w3 ⟨rfl, hb3⟩
      have hb5 := hb2.trans (hb3.mono hb2.size)
      clear hb2 hb3
      cases o1
      all_goals
        simp only [Bool.true_and, Bool.false_and] at P1h
        go_wp2_with fail
        refine (P1h.out _).mono ?_
        rintro e wx ⟨rfl, hwx⟩; have hwx2 := hwx.symm; subst hwx2; clear hwx
        go_wp2_with fail
        refine (P2h.out _).mono ?_
        rintro e wx ⟨rfl, hwx⟩; have hwx2 := hwx.symm; subst hwx2; clear hwx
        go_wp2_with fail
        refine (NR.out _).mono ?_
        rintro e wx ⟨rfl, hwx⟩; have hwx2 := hwx.symm; subst hwx2; clear hwx
        go_wp2_with fail
        go_ret2
        exact ⟨rfl, hb5⟩

end Go.Proofs.YtppcoimfgafbfaaGreatDoor
