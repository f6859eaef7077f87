/-
  The reference's reckoned, sign by sign.
-/
import Derived.Test.YtppcoimfgafbfaaGreatDoorReC
import Derived.Test.YtppcoimfgafbfaaGreatDoorReE
namespace Go.Proofs.YtppcoimfgafbfaaGreatDoor
open Go.RowKit Go.Shelf

set_option maxHeartbeats 2000000 in
set_option maxRecDepth 1000000 in
theorem reckoned_sum (a b : Int) (dec : Bool) (w : World) (ha : fit a) (hb : fit b) :
    Calls Tryz.prog 19 #[.string ⟨#[43]⟩, .int .i64 a, .int .i64 b, .bool dec] w fun e w' => e = .returned (.tuple #[.int .i64 (ovV (a + b)), .int .i64 (ovE (a + b))]) ∧ Below w.heap.size w w' := by
  have C := fun w => refSum_any a b w ha hb
  by_cases h : fit (a + b)
  · rw [ovV_in h, ovE_in h]
    rw [fitB_in h] at C
    have C2 : Hid (∀ w, _) := C
    clear C
    go_enter Tryz.func19, Tryz.ntmps19
    go_wp2_with fail
    refine (C2.out _).mono ?_
    rintro e wx ⟨n, rfl, hn, hwx⟩; have hwx2 := hwx.symm; subst hwx2; clear hwx
    obtain rfl := hn h
    clear hn
    go_wp2_with fail
    go_ret2
    exact ⟨rfl, Below.refl _ _⟩
  · rw [ovV_out h, ovE_out h]
    rw [fitB_out h] at C
    have C2 : Hid (∀ w, _) := C
    clear C
    go_enter Tryz.func19, Tryz.ntmps19
    go_wp2_with fail
    refine (C2.out _).mono ?_
    rintro e wx ⟨n, rfl, hn, hwx⟩; have hwx2 := hwx.symm; subst hwx2; clear hwx
    clear hn
    go_wp2_with fail
    go_ret2
    exact ⟨rfl, Below.refl _ _⟩

set_option maxHeartbeats 2000000 in
set_option maxRecDepth 1000000 in
theorem reckoned_dif (a b : Int) (dec : Bool) (w : World) (ha : fit a) (hb : fit b) :
    Calls Tryz.prog 19 #[.string ⟨#[45]⟩, .int .i64 a, .int .i64 b, .bool dec] w fun e w' => e = .returned (.tuple #[.int .i64 (ovV (a - b)), .int .i64 (ovE (a - b))]) ∧ Below w.heap.size w w' := by
  unfold fit at ha hb
  obtain ⟨n, hn⟩ : ∃ n, n = IntKind.i64.wrap (a - b) := ⟨_, rfl⟩
  have e1 : IntKind.i64.wrap (a - b) = n := hn.symm
  have hv : n = (a - b + 9223372036854775808) % 18446744073709551616 - 9223372036854775808 := by rw [hn, IntKind.wrap_i64]
  by_cases h : fit (a - b)
  · rw [ovV_in h, ovE_in h]
    unfold fit at h
    have e3 : n = a - b := by omega
    have e2 : (decide (0 ≤ b) == decide (n ≤ a)) = true := by
      by_cases h1 : 0 ≤ b <;> by_cases h2 : n ≤ a
      all_goals first
        | (exfalso; omega)
        | (simp [h1, h2]; done)
    rw [← e3]
    clear hn hv e3 h
    go_enter Tryz.func19, Tryz.ntmps19
    go_wp2_with fail
    go_ret2
    exact ⟨rfl, Below.refl _ _⟩
  · rw [ovV_out h, ovE_out h]
    unfold fit at h
    have e2 : (decide (0 ≤ b) == decide (n ≤ a)) = false := by
      by_cases h1 : 0 ≤ b <;> by_cases h2 : n ≤ a
      all_goals first
        | (exfalso; omega)
        | (simp [h1, h2]; done)
    clear hn hv h
    go_enter Tryz.func19, Tryz.ntmps19
    go_wp2_with fail
    go_ret2
    exact ⟨rfl, Below.refl _ _⟩

set_option maxHeartbeats 2000000 in
set_option maxRecDepth 1000000 in
theorem reckoned_mulW (a b : Int) (w : World) (ha : fit a) (hb : fit b) :
    Calls Tryz.prog 19 #[.string ⟨#[42]⟩, .int .i64 a, .int .i64 b, .bool false] w fun e w' => e = .returned (.tuple #[.int .i64 (ovV (a * b)), .int .i64 (ovE (a * b))]) ∧ Below w.heap.size w w' := by
  have C := fun w => product_whole a b w ha hb
  by_cases h : fit (a * b)
  · rw [ovV_in h, ovE_in h]
    rw [ovV_in h, fitB_in h] at C
    generalize a * b = x at *
    have C2 : Hid (∀ w, _) := C
    clear C
    go_enter Tryz.func19, Tryz.ntmps19
    go_wp2_with fail
    refine (C2.out _).mono ?_
    rintro e w1 ⟨rfl, hb1⟩
    go_wp2_with fail
    go_ret2
    exact ⟨rfl, hb1⟩
  · rw [ovV_out h, ovE_out h]
    rw [ovV_out h, fitB_out h] at C
    have C2 : Hid (∀ w, _) := C
    clear C
    go_enter Tryz.func19, Tryz.ntmps19
    go_wp2_with fail
    refine (C2.out _).mono ?_
    rintro e w1 ⟨rfl, hb1⟩
    go_wp2_with fail
    go_ret2
    exact ⟨rfl, hb1⟩

set_option maxHeartbeats 2000000 in
set_option maxRecDepth 1000000 in
theorem reckoned_mulP (a b : Int) (w : World) (ha : fit a) (hb : fit b) :
    Calls Tryz.prog 19 #[.string ⟨#[42]⟩, .int .i64 a, .int .i64 b, .bool true] w fun e w' => e = .returned (.tuple #[.int .i64 (ovV (prd a b)), .int .i64 (ovE (prd a b))]) ∧ Below w.heap.size w w' := by
  have C := fun w => product_dec a b w ha hb
  by_cases h : fit (prd a b)
  · rw [ovV_in h, ovE_in h]
    rw [ovV_in h, fitB_in h] at C
    generalize prd a b = x at *
    have C2 : Hid (∀ w, _) := C
    clear C
    go_enter Tryz.func19, Tryz.ntmps19
    go_wp2_with fail
    refine (C2.out _).mono ?_
    rintro e w1 ⟨rfl, hb1⟩
    go_wp2_with fail
    go_ret2
    exact ⟨rfl, hb1⟩
  · rw [ovV_out h, ovE_out h]
    rw [ovV_out h, fitB_out h] at C
    have C2 : Hid (∀ w, _) := C
    clear C
    go_enter Tryz.func19, Tryz.ntmps19
    go_wp2_with fail
    refine (C2.out _).mono ?_
    rintro e w1 ⟨rfl, hb1⟩
    go_wp2_with fail
    go_ret2
    exact ⟨rfl, hb1⟩

set_option maxHeartbeats 2000000 in
set_option maxRecDepth 1000000 in
theorem reckoned_zero (a : Int) (dec : Bool) (w : World) :
    Calls Tryz.prog 19 #[.string ⟨#[47]⟩, .int .i64 a, .int .i64 0, .bool dec] w fun e w' => e = .returned (.tuple #[.int .i64 0, .int .i64 11]) ∧ Below w.heap.size w w' := by
  go_enter Tryz.func19, Tryz.ntmps19
  go_wp2_with fail
  go_ret2
  exact ⟨rfl, Below.refl _ _⟩

set_option maxHeartbeats 2000000 in
set_option maxRecDepth 1000000 in
theorem reckoned_divW (a b : Int) (w : World) (ha : fit a) (hb : fit b) (h0 : b ≠ 0) :
    Calls Tryz.prog 19 #[.string ⟨#[47]⟩, .int .i64 a, .int .i64 b, .bool false] w fun e w' => e = .returned (.tuple #[.int .i64 (ovV (a.tdiv b)), .int .i64 (ovE (a.tdiv b))]) ∧ Below w.heap.size w w' := by
  have h1 := abs_lt ha
  have h2 := abs_lt hb
  have S1 : Hid (∀ w, Calls Tryz.prog 23 #[.int .i64 a] w fun e w' => e = .returned (.int .u64 (a.natAbs : Int)) ∧ w' = w) := fun w => refSize_any a w ha
  have S2 : Hid (∀ w, Calls Tryz.prog 23 #[.int .i64 b] w fun e w' => e = .returned (.int .u64 (b.natAbs : Int)) ∧ w' = w) := fun w => refSize_any b w hb
  have hbz : (b == 0) = false := by rw [beq_eq_false_iff_ne]; exact h0
  have hq : a.natAbs / b.natAbs ≤ a.natAbs := Nat.div_le_self _ _
  have Q := fun w => Quotient_0 a.natAbs b.natAbs w (by omega) (by omega) (by omega)
  obtain ⟨N, hN⟩ : ∃ N, N = a.natAbs / b.natAbs := ⟨_, rfl⟩
  have hNl : N < 18446744073709551616 := by omega
  rw [← hN] at Q
  have Q2 : Hid (∀ w, _) := Q
  by_cases hs : (a < 0) = (b < 0)
  · rw [tdiv_same hs, ← hN]
    have hd := sign_same hs
    have NR := fun w => near_any N false w hNl
    simp only [if_false, Bool.false_eq_true] at NR
    by_cases h : fit ((N : Int))
    · rw [ovV_in h, ovE_in h]
      rw [ovV_in h, fitB_in h] at NR
      have NR2 : Hid (∀ w, _) := NR
      clear NR
      clear Q hN hNl hq h1 h2 ha hb h0 hs h
      generalize a.natAbs = x at *
      generalize b.natAbs = y at *
      go_enter Tryz.func19, Tryz.ntmps19
      go_wp2_with fail
      refine (S1.out _).mono ?_
      rintro e wx ⟨rfl, hwx⟩; have hwx2 := hwx.symm; subst hwx2; clear hwx
      go_wp2_with fail
      refine (S2.out _).mono ?_
      rintro e wx ⟨rfl, hwx⟩; have hwx2 := hwx.symm; subst hwx2; clear hwx
      go_wp2_with fail
      refine (Q2.out _).mono ?_
      rintro e w2 ⟨rfl, hb2⟩
      go_wp2_with fail
      refine (NR2.out _).mono ?_
      rintro e wx ⟨rfl, hwx⟩; have hwx2 := hwx.symm; subst hwx2; clear hwx
      go_wp2_with fail
      go_ret2
      exact ⟨rfl, hb2⟩
    · rw [ovV_out h, ovE_out h]
      rw [ovV_out h, fitB_out h] at NR
      have NR2 : Hid (∀ w, _) := NR
      clear NR
      clear Q hN hNl hq h1 h2 ha hb h0 hs h
      generalize a.natAbs = x at *
      generalize b.natAbs = y at *
      go_enter Tryz.func19, Tryz.ntmps19
      go_wp2_with fail
      refine (S1.out _).mono ?_
      rintro e wx ⟨rfl, hwx⟩; have hwx2 := hwx.symm; subst hwx2; clear hwx
      go_wp2_with fail
      refine (S2.out _).mono ?_
      rintro e wx ⟨rfl, hwx⟩; have hwx2 := hwx.symm; subst hwx2; clear hwx
      go_wp2_with fail
      refine (Q2.out _).mono ?_
      rintro e w2 ⟨rfl, hb2⟩
      go_wp2_with fail
      refine (NR2.out _).mono ?_
      rintro e wx ⟨rfl, hwx⟩; have hwx2 := hwx.symm; subst hwx2; clear hwx
      go_wp2_with fail
      go_ret2
      exact ⟨rfl, hb2⟩
  · rw [tdiv_other hs, ← hN]
    have hd := sign_other hs
    have NR := fun w => near_any N true w hNl
    simp only [if_true] at NR
    by_cases h : fit (-(N : Int))
    · rw [ovV_in h, ovE_in h]
      rw [ovV_in h, fitB_in h] at NR
      have NR2 : Hid (∀ w, _) := NR
      clear NR
      clear Q hN hNl hq h1 h2 ha hb h0 hs h
      generalize a.natAbs = x at *
      generalize b.natAbs = y at *
      go_enter Tryz.func19, Tryz.ntmps19
      go_wp2_with fail
      refine (S1.out _).mono ?_
      rintro e wx ⟨rfl, hwx⟩; have hwx2 := hwx.symm; subst hwx2; clear hwx
      go_wp2_with fail
      refine (S2.out _).mono ?_
      rintro e wx ⟨rfl, hwx⟩; have hwx2 := hwx.symm; subst hwx2; clear hwx
      go_wp2_with fail
      refine (Q2.out _).mono ?_
      rintro e w2 ⟨rfl, hb2⟩
      go_wp2_with fail
      refine (NR2.out _).mono ?_
      rintro e wx ⟨rfl, hwx⟩; have hwx2 := hwx.symm; subst hwx2; clear hwx
      go_wp2_with fail
      go_ret2
      exact ⟨rfl, hb2⟩
    · rw [ovV_out h, ovE_out h]
      rw [ovV_out h, fitB_out h] at NR
      have NR2 : Hid (∀ w, _) := NR
      clear NR
      clear Q hN hNl hq h1 h2 ha hb h0 hs h
      generalize a.natAbs = x at *
      generalize b.natAbs = y at *
      go_enter Tryz.func19, Tryz.ntmps19
      go_wp2_with fail
      refine (S1.out _).mono ?_
      rintro e wx ⟨rfl, hwx⟩; have hwx2 := hwx.symm; subst hwx2; clear hwx
      go_wp2_with fail
      refine (S2.out _).mono ?_
      rintro e wx ⟨rfl, hwx⟩; have hwx2 := hwx.symm; subst hwx2; clear hwx
      go_wp2_with fail
      refine (Q2.out _).mono ?_
      rintro e w2 ⟨rfl, hb2⟩
      go_wp2_with fail
      refine (NR2.out _).mono ?_
      rintro e wx ⟨rfl, hwx⟩; have hwx2 := hwx.symm; subst hwx2; clear hwx
      go_wp2_with fail
      go_ret2
      exact ⟨rfl, hb2⟩

set_option maxHeartbeats 2000000 in
set_option maxRecDepth 1000000 in
theorem reckoned_divP (a b : Int) (w : World) (ha : fit a) (hb : fit b) (h0 : b ≠ 0) :
    Calls Tryz.prog 19 #[.string ⟨#[47]⟩, .int .i64 a, .int .i64 b, .bool true] w fun e w' => e = .returned (.tuple #[.int .i64 (ovV (quo a b)), .int .i64 (ovE (quo a b))]) ∧ Below w.heap.size w w' := by
  have h1 := abs_lt ha
  have h2 := abs_lt hb
  have S1 : Hid (∀ w, Calls Tryz.prog 23 #[.int .i64 a] w fun e w' => e = .returned (.int .u64 (a.natAbs : Int)) ∧ w' = w) := fun w => refSize_any a w ha
  have S2 : Hid (∀ w, Calls Tryz.prog 23 #[.int .i64 b] w fun e w' => e = .returned (.int .u64 (b.natAbs : Int)) ∧ w' = w) := fun w => refSize_any b w hb
  have hbz : (b == 0) = false := by rw [beq_eq_false_iff_ne]; exact h0
  obtain ⟨N, hN⟩ : ∃ N, N = nearN (a.natAbs * 10000) b.natAbs := ⟨_, rfl⟩
  have Q := fun w => Quotient_4 a.natAbs b.natAbs w (by omega) (by omega) h2
  rw [← hN] at Q
  by_cases hNl : N < 18446744073709551616
  · rw [decide_eq_true hNl] at Q
    have Q2 : Hid (∀ w, _) := Q
    by_cases hs : (a < 0) = (b < 0)
    · rw [quo_same hs, ← hN]
      have hd := sign_same hs
      have NR := fun w => near_any N false w hNl
      simp only [if_false, Bool.false_eq_true] at NR
      by_cases h : fit ((N : Int))
      · rw [ovV_in h, ovE_in h]
        rw [ovV_in h, fitB_in h] at NR
        have NR2 : Hid (∀ w, _) := NR
        clear NR
        clear Q hN h1 h2 ha hb h0 hs h
        generalize a.natAbs = x at *
        generalize b.natAbs = y at *
        go_enter Tryz.func19, Tryz.ntmps19
        go_wp2_with fail
        refine (S1.out _).mono ?_
        rintro e wx ⟨rfl, hwx⟩; have hwx2 := hwx.symm; subst hwx2; clear hwx
        go_wp2_with fail
        refine (S2.out _).mono ?_
        rintro e wx ⟨rfl, hwx⟩; have hwx2 := hwx.symm; subst hwx2; clear hwx
        go_wp2_with fail
        refine (Q2.out _).mono ?_
        rintro e w2 ⟨m, rfl, _, hm, hb2⟩
        obtain rfl := hm hNl
        clear hm
        go_wp2_with fail
        refine (NR2.out _).mono ?_
        rintro e wx ⟨rfl, hwx⟩; have hwx2 := hwx.symm; subst hwx2; clear hwx
        go_wp2_with fail
        go_ret2
        exact ⟨rfl, hb2⟩
      · rw [ovV_out h, ovE_out h]
        rw [ovV_out h, fitB_out h] at NR
        have NR2 : Hid (∀ w, _) := NR
        clear NR
        clear Q hN h1 h2 ha hb h0 hs h
        generalize a.natAbs = x at *
        generalize b.natAbs = y at *
        go_enter Tryz.func19, Tryz.ntmps19
        go_wp2_with fail
        refine (S1.out _).mono ?_
        rintro e wx ⟨rfl, hwx⟩; have hwx2 := hwx.symm; subst hwx2; clear hwx
        go_wp2_with fail
        refine (S2.out _).mono ?_
        rintro e wx ⟨rfl, hwx⟩; have hwx2 := hwx.symm; subst hwx2; clear hwx
        go_wp2_with fail
        refine (Q2.out _).mono ?_
        rintro e w2 ⟨m, rfl, _, hm, hb2⟩
        obtain rfl := hm hNl
        clear hm
        go_wp2_with fail
        refine (NR2.out _).mono ?_
        rintro e wx ⟨rfl, hwx⟩; have hwx2 := hwx.symm; subst hwx2; clear hwx
        go_wp2_with fail
        go_ret2
        exact ⟨rfl, hb2⟩
    · rw [quo_other hs, ← hN]
      have hd := sign_other hs
      have NR := fun w => near_any N true w hNl
      simp only [if_true] at NR
      by_cases h : fit (-(N : Int))
      · rw [ovV_in h, ovE_in h]
        rw [ovV_in h, fitB_in h] at NR
        have NR2 : Hid (∀ w, _) := NR
        clear NR
        clear Q hN h1 h2 ha hb h0 hs h
        generalize a.natAbs = x at *
        generalize b.natAbs = y at *
        go_enter Tryz.func19, Tryz.ntmps19
        go_wp2_with fail
        refine (S1.out _).mono ?_
        rintro e wx ⟨rfl, hwx⟩; have hwx2 := hwx.symm; subst hwx2; clear hwx
        go_wp2_with fail
        refine (S2.out _).mono ?_
        rintro e wx ⟨rfl, hwx⟩; have hwx2 := hwx.symm; subst hwx2; clear hwx
        go_wp2_with fail
        refine (Q2.out _).mono ?_
        rintro e w2 ⟨m, rfl, _, hm, hb2⟩
        obtain rfl := hm hNl
        clear hm
        go_wp2_with fail
        refine (NR2.out _).mono ?_
        rintro e wx ⟨rfl, hwx⟩; have hwx2 := hwx.symm; subst hwx2; clear hwx
        go_wp2_with fail
        go_ret2
        exact ⟨rfl, hb2⟩
      · rw [ovV_out h, ovE_out h]
        rw [ovV_out h, fitB_out h] at NR
        have NR2 : Hid (∀ w, _) := NR
        clear NR
        clear Q hN h1 h2 ha hb h0 hs h
        generalize a.natAbs = x at *
        generalize b.natAbs = y at *
        go_enter Tryz.func19, Tryz.ntmps19
        go_wp2_with fail
        refine (S1.out _).mono ?_
        rintro e wx ⟨rfl, hwx⟩; have hwx2 := hwx.symm; subst hwx2; clear hwx
        go_wp2_with fail
        refine (S2.out _).mono ?_
        rintro e wx ⟨rfl, hwx⟩; have hwx2 := hwx.symm; subst hwx2; clear hwx
        go_wp2_with fail
        refine (Q2.out _).mono ?_
        rintro e w2 ⟨m, rfl, _, hm, hb2⟩
        obtain rfl := hm hNl
        clear hm
        go_wp2_with fail
        refine (NR2.out _).mono ?_
        rintro e wx ⟨rfl, hwx⟩; have hwx2 := hwx.symm; subst hwx2; clear hwx
        go_wp2_with fail
        go_ret2
        exact ⟨rfl, hb2⟩
  · have ov : ¬ fit (quo a b) := by unfold fit quo; rw [← hN]; split <;> omega
    rw [ovV_out ov, ovE_out ov]
    rw [decide_eq_false hNl] at Q
    have Q2 : Hid (∀ w, _) := Q
    have hd : ∃ c : Bool, (decide (a < 0) == decide (b < 0)) = c := ⟨_, rfl⟩
    obtain ⟨c, hd⟩ := hd
    clear Q hN h1 h2 ha hb h0 ov hNl
    generalize a.natAbs = x at *
    generalize b.natAbs = y at *
    go_enter Tryz.func19, Tryz.ntmps19
    go_wp2_with fail
    refine (S1.out _).mono ?_
    rintro e wx ⟨rfl, hwx⟩; have hwx2 := hwx.symm; subst hwx2; clear hwx
    go_wp2_with fail
    refine (S2.out _).mono ?_
    rintro e wx ⟨rfl, hwx⟩; have hwx2 := hwx.symm; subst hwx2; clear hwx
    go_wp2_with fail
    refine (Q2.out _).mono ?_
    rintro e w2 ⟨m, rfl, _, hm, hb2⟩
    clear hm
    go_wp2_with fail
    go_ret2
    exact ⟨rfl, hb2⟩
end Go.Proofs.YtppcoimfgafbfaaGreatDoor
