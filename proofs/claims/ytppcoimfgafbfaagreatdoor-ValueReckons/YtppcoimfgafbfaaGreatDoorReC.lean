/-
  The reference's Quotient: a size by another one, digit by digit.
-/
import Derived.Test.YtppcoimfgafbfaaGreatDoorReD
import Derived.Test.YtppcoimfgafbfaaGreatDoorReQ
namespace Go.Proofs.YtppcoimfgafbfaaGreatDoor
open Go.RowKit Go.Shelf

theorem inner_up {d y l r k : Nat} (h : d * y + l = k * r) (hr : r < y) (hl : y - r ≤ l) : (d + 1) * y + (l - (y - r)) = (k + 1) * r := by
  rw [Nat.add_mul, Nat.add_mul]; omega
theorem inner_on {d y l r k : Nat} (h : d * y + l = k * r) : d * y + (l + r) = (k + 1) * r := by
  rw [Nat.add_mul]; omega
theorem outer_on {X n y r d l : Nat} (h : X = n * y + r) (g : d * y + l = 10 * r) : X * 10 = (n * 10 + d) * y + l := by
  rw [h, Nat.add_mul, Nat.add_mul, Nat.mul_right_comm]; omega

set_option maxHeartbeats 1000000 in
set_option maxRecDepth 1000000 in
theorem Quotient_0 (x y : Nat) (w : World) (hx : x < 18446744073709551616) (h0 : 0 < y) (hy : y < 18446744073709551616) :
    Calls Tryz.prog 35 #[.int .u64 (x : Int), .int .u64 (y : Int), .int .i64 0] w fun e w' => e = .returned (.tuple #[.int .u64 ((x / y : Nat) : Int), .bool true]) ∧ Below w.heap.size w w' := by
  obtain ⟨q, hq⟩ : ∃ q, q = x / y := ⟨_, rfl⟩
  obtain ⟨r, hr⟩ : ∃ r, r = x % y := ⟨_, rfl⟩
  have hql : q ≤ x := by rw [hq]; exact Nat.div_le_self _ _
  have hrl : r ≤ x := by rw [hr]; exact Nat.mod_le _ _
  have e1 : (x : Int).tdiv (y : Int) = (q : Int) := by rw [hq, Int.tdiv_eq_ediv_of_nonneg (by omega)]; simp
  have e2 : IntKind.u64.wrap (q : Int) = (q : Int) := by rw [IntKind.wrap_u64]; omega
  have e3 : (x : Int).tmod (y : Int) = (r : Int) := by rw [hr, Int.tmod_eq_emod_of_nonneg (by omega)]; simp
  have e4 : IntKind.u64.wrap (r : Int) = (r : Int) := by rw [IntKind.wrap_u64]; omega
  have e5 : ((y : Int) == 0) = false := by rw [beq_eq_false_iff_ne]; omega
  have d1 : (x : Int) / (y : Int) = (q : Int) := by rw [hq]; simp
  have d3 : (x : Int) % (y : Int) = (r : Int) := by rw [hr]; simp
  rw [← hq]
  clear hq hr hql hrl
  go_enter Tryz.func35, Tryz.ntmps35
  go_wp2_with fail
  go_quiet (fail)
  go_wp2_with fail
  go_loop [8, 9, 10, 11] (fun a _ c si => a = .int .u64 (q : Int) ∧ c = .bool true ∧ si = .int .i64 0) (fun _ _ _ _ => 0)
  case atStart => exact ⟨rfl, rfl, rfl⟩
  case round =>
    obtain ⟨rfl, rfl, rfl⟩ := hrel
    go_wp2_with fail
    go_ret2
    exact ⟨rfl, below_drewN (Below.refl _ _) _⟩

set_option maxHeartbeats 4000000 in
set_option maxRecDepth 1000000 in
theorem Quotient_4 (x y : Nat) (w : World) (hx : x < 18446744073709551616) (h0 : 0 < y) (hy : y ≤ 9223372036854775808) :
    Calls Tryz.prog 35 #[.int .u64 (x : Int), .int .u64 (y : Int), .int .i64 4] w fun e w' => ∃ n : Nat, e = .returned (.tuple #[.int .u64 (n : Int), .bool (decide (nearN (x * 10000) y < 18446744073709551616))]) ∧ n < 18446744073709551616 ∧ (nearN (x * 10000) y < 18446744073709551616 → n = nearN (x * 10000) y) ∧ Below w.heap.size w w' := by
  obtain ⟨q, hq⟩ : ∃ q, q = x / y := ⟨_, rfl⟩
  obtain ⟨r, hr⟩ : ∃ r, r = x % y := ⟨_, rfl⟩
  have hql : q ≤ x := by rw [hq]; exact Nat.div_le_self _ _
  have hry : r < y := by rw [hr]; exact Nat.mod_lt _ h0
  have hqr : x = q * y + r := by rw [hq, hr]; exact (Nat.div_add_mod' x y).symm
  have e1 : (x : Int).tdiv (y : Int) = (q : Int) := by rw [hq, Int.tdiv_eq_ediv_of_nonneg (by omega)]; simp
  have e2 : IntKind.u64.wrap (q : Int) = (q : Int) := by rw [IntKind.wrap_u64]; omega
  have e3 : (x : Int).tmod (y : Int) = (r : Int) := by rw [hr, Int.tmod_eq_emod_of_nonneg (by omega)]; simp
  have e4 : IntKind.u64.wrap (r : Int) = (r : Int) := by rw [IntKind.wrap_u64]; omega
  have e5 : ((y : Int) == 0) = false := by rw [beq_eq_false_iff_ne]; omega
  have d1 : (x : Int) / (y : Int) = (q : Int) := by rw [hq]; simp
  have d3 : (x : Int) % (y : Int) = (r : Int) := by rw [hr]; simp
  have TM : Hid (∀ (n : Nat) w, n < 18446744073709551616 → Calls Tryz.prog 48 #[.int .u64 (n : Int), .int .u64 10] w fun e w' => e = .returned (.tuple #[.int .u64 ((n * 10 % 18446744073709551616 : Nat) : Int), .bool (decide (n * 10 < 18446744073709551616))]) ∧ Below w.heap.size w w') := fun n w h => times_any n 10 w h (by omega)
  have PL : Hid (∀ (a b : Nat) (ok : Bool) w, a < 18446744073709551616 → b < 18446744073709551616 → Calls Tryz.prog 49 #[.int .u64 (a : Int), .int .u64 (b : Int), .bool ok] w fun e w' => e = .returned (.tuple #[.int .u64 (((a + b) % 18446744073709551616 : Nat) : Int), .bool (ok && decide (a + b < 18446744073709551616))]) ∧ w' = w) := fun a b ok w h1 h2 => plus_any a b ok w h1 h2
  have HQ : Hid (x * 10 ^ 0 = q * y + r) := by show _ = _; rw [Nat.pow_zero, Nat.mul_one]; exact hqr
  obtain ⟨K, hK⟩ : ∃ K, K = nearN (x * 10000) y := ⟨_, rfl⟩
  obtain ⟨O, hO⟩ : ∃ O, O = decide (K < 18446744073709551616) := ⟨_, rfl⟩
  rw [← hK, ← hO]
  have HK : Hid (K = nearN (x * 10000) y) := hK
  have HO : Hid (O = decide (K < 18446744073709551616)) := hO
  clear hK hO
  clear hq hr hqr
  go_enter Tryz.func35, Tryz.ntmps35
  go_wp2_with fail
  go_quiet (fail)
  go_wp2_with fail
  clear e1 e2 e3 e4 d1 d3
  go_loopw [8, 9, 10, 11, 12, 13, 14] (fun s8 s9 s10 s11 _ _ _ wr => ∃ (n r i : Nat) (ok : Bool), s8 = .int .u64 (n : Int) ∧ s9 = .int .u64 (r : Int) ∧ s10 = .bool ok ∧ s11 = .int .i64 (i : Int) ∧ i ≤ 4 ∧ r < y ∧ n < 18446744073709551616 ∧ Hid (ok = true → x * 10 ^ i = n * y + r) ∧ Hid (ok = false → 18446744073709551616 ≤ x * 10000 / y) ∧ Below w.heap.size w wr) (fun _ _ _ s11 _ _ _ _ => 4 - (intOf s11).toNat)
  case atStart => exact ⟨q, r, 0, true, rfl, rfl, rfl, rfl, by omega, hry, by omega, fun _ => HQ.out, fun h => (by cases h), below_drewN (Below.refl _ _) _⟩
  case round =>
    obtain ⟨n, r, i, ok, rfl, rfl, rfl, rfl, hi4, hry, hn, hE, hF, hbr⟩ := hrel
    by_cases hgo : i < 4 ∧ ok = true
    · obtain ⟨hi, rfl⟩ := hgo
      have hii : (i : Int) < 4 := by omega
      have hE2 : Hid (x * 10 ^ i = n * y + r) := hE.out rfl
      have yr : IntKind.u64.wrap ((y : Int) - (r : Int)) = (y : Int) - (r : Int) := by rw [IntKind.wrap_u64]; omega
      clear hE hF
      go_wp2_with fail
      go_loop [12, 13, 14] (fun s12 s13 s14 => ∃ d l k : Nat, s12 = .int .u64 (d : Int) ∧ s13 = .int .u64 (l : Int) ∧ s14 = .int .i64 (k : Int) ∧ k ≤ 10 ∧ d ≤ k ∧ l < y ∧ Hid (d * y + l = k * r)) (fun _ _ s14 => 10 - (intOf s14).toNat)
      case atStart => exact ⟨0, 0, 0, rfl, rfl, rfl, by omega, by omega, h0, by show 0 * y + 0 = 0 * r; simp⟩
      case round =>
        obtain ⟨d, l, k, rfl, rfl, rfl, hk, hdk, hly, hdl⟩ := hrel
        by_cases hk10 : k < 10
        · have hki : (k : Int) < 10 := by omega
          by_cases hup : y - r ≤ l
          · have c1 : (y : Int) - (r : Int) ≤ (l : Int) := by omega
            have nx : Hid ((d + 1) * y + (l - (y - r)) = (k + 1) * r) := inner_up hdl.out hry hup
            have u1 : IntKind.u64.wrap ((l : Int) - ((y : Int) - (r : Int))) = ((l - (y - r) : Nat) : Int) := by rw [IntKind.wrap_u64]; omega
            clear hdl hup
            go_wp2_with fail
            go_round
            case rel => exact ⟨d + 1, l - (y - r), k + 1, by first | rfl | (congr 1; omega), by first | rfl | (congr 1; omega), by go_num, by omega, by omega, by omega, nx⟩
            case measure => simp [intOf]; omega
          · have c1 : ¬ (y : Int) - (r : Int) ≤ (l : Int) := by omega
            have nx : Hid (d * y + (l + r) = (k + 1) * r) := inner_on hdl.out
            clear hdl
            go_wp2_with fail
            go_round
            case rel => exact ⟨d, l + r, k + 1, rfl, by first | rfl | (congr 1; omega), by go_num, by omega, by omega, by omega, nx⟩
            case measure => simp [intOf]; omega
        · obtain rfl : 10 = k := by omega
          have nx : Hid (x * 10 ^ (i + 1) = (n * 10 + d) * y + l) := by
            show _ = _
            rw [Nat.pow_succ, ← Nat.mul_assoc]; exact outer_on hE2.out hdl.out
          clear hdl hE2 yr
          go_wp2_with fail
          refine (TM.out n _ hn).mono ?_
          rintro e w2 ⟨rfl, hb2⟩
          have B2 := hbr.trans (hb2.mono hbr.size)
          obtain ⟨N, hN⟩ : ∃ N, N = n * 10 % 18446744073709551616 := ⟨_, rfl⟩
          obtain ⟨o1, ho1⟩ : ∃ o1, o1 = decide (n * 10 < 18446744073709551616) := ⟨_, rfl⟩
          rw [← hN, ← ho1]
          have PX := PL.out N d o1 w2 (by omega) (by omega)
          obtain ⟨N2, hN2⟩ : ∃ N2, N2 = (N + d) % 18446744073709551616 := ⟨_, rfl⟩
          obtain ⟨o2, ho2⟩ : ∃ o2, o2 = (o1 && decide (N + d < 18446744073709551616)) := ⟨_, rfl⟩
          rw [← hN2, ← ho2] at PX
          have PX2 : Hid (Calls Tryz.prog 49 #[.int .u64 (N : Int), .int .u64 (d : Int), .bool o1] w2 fun e w' => e = .returned (.tuple #[.int .u64 (N2 : Int), .bool o2]) ∧ w' = w2) := PX
          have ht : Hid (o2 = true → x * 10 ^ (i + 1) = N2 * y + l) := fun h => by
            rw [ho2, Bool.and_eq_true, ho1, decide_eq_true_eq, decide_eq_true_eq] at h
            rw [nx.out, show N2 = n * 10 + d by omega]
          have hf : Hid (o2 = false → 18446744073709551616 ≤ x * 10000 / y) := fun h => by
            have h5 : 18446744073709551616 ≤ n * 10 + d := by
              apply Nat.le_of_not_lt
              intro h6
              have t1 : o1 = true := by rw [ho1]; exact decide_eq_true (by omega)
              rw [ho2, t1, decide_eq_true (by omega)] at h
              cases h
            have h7 : x * 10 ^ (i + 1) ≤ x * 10000 := Nat.mul_le_mul_left _ (by
              have : 10 ^ (i + 1) ≤ 10 ^ 4 := Nat.pow_le_pow_right (by decide) (by omega)
              exact this)
            refine (Nat.le_div_iff_mul_le h0).2 ?_
            have h8 : 18446744073709551616 * y ≤ (n * 10 + d) * y := Nat.mul_le_mul_right _ h5
            have := nx.out
            omega
          have hN2l : N2 < 18446744073709551616 := by rw [hN2]; exact Nat.mod_lt _ (by decide)
          clear PX hN2 ho2 nx ho1 hN
          go_wp2_with fail
          refine PX2.out.mono ?_
          rintro e wx ⟨rfl, hwx⟩; have hwx2 := hwx.symm; subst hwx2; clear hwx
          go_wp2_with fail
          go_roundw
          case rel => exact ⟨N2, l, i + 1, o2, rfl, rfl, rfl, by go_num, by omega, hly, hN2l, ht, hf, B2⟩
          case measure => simp [intOf]; omega
    · have hK := HK.out
      cases ok
      · have hbig : 18446744073709551616 ≤ K := by
          rw [hK]; exact Nat.le_trans (hF.out rfl) (near_ge _ _)
        obtain rfl : false = O := by rw [HO.out]; exact (decide_eq_false (show ¬ K < 18446744073709551616 by omega)).symm
        have PX2 : Hid (∀ w2, Calls Tryz.prog 49 #[.int .u64 (n : Int), .int .u64 1, .bool false] w2 fun e w' => e = .returned (.tuple #[.int .u64 (((n + 1) % 18446744073709551616 : Nat) : Int), .bool false]) ∧ w' = w2) := fun w2 => PL.out n 1 false w2 hn (by omega)
        obtain ⟨M, hM⟩ : ∃ M, M = (n + 1) % 18446744073709551616 := ⟨_, rfl⟩
        rw [← hM] at PX2
        have hMl : M < 18446744073709551616 := by omega
        have yr : IntKind.u64.wrap ((y : Int) - (r : Int)) = (y : Int) - (r : Int) := by rw [IntKind.wrap_u64]; omega
        have BK : Hid (18446744073709551616 ≤ K) := hbig
        clear hE hF hgo hK hM hbig
        by_cases hup : y - r ≤ r
        · have c1 : (y : Int) - (r : Int) ≤ (r : Int) := by omega
          by_cases hii : (i : Int) < 4
          all_goals
            go_wp2_with fail
            refine (PX2.out _).mono ?_
            rintro e wx ⟨rfl, hwx⟩; have hwx2 := hwx.symm; subst hwx2; clear hwx
            go_wp2_with fail
            refine bodyPost_ret (v := .tuple #[.int .u64 (M : Int), .bool false]) (by simp [results, Tryz.results35, go_sem]) rfl ⟨M, rfl, hMl, fun h => absurd h (by have := BK.out; omega), hbr⟩
        · have c1 : ¬ (y : Int) - (r : Int) ≤ (r : Int) := by omega
          by_cases hii : (i : Int) < 4
          all_goals
            go_wp2_with fail
            refine bodyPost_ret (v := .tuple #[.int .u64 (n : Int), .bool false]) (by simp [results, Tryz.results35, go_sem]) rfl ⟨n, rfl, hn, fun h => absurd h (by have := BK.out; omega), hbr⟩
      · obtain rfl : 4 = i := by
          have : ¬ i < 4 := fun h => hgo ⟨h, rfl⟩
          omega
        have hT : x * 10000 = n * y + r := hE.out rfl
        have d1 : x * 10000 / y = n := by rw [hT, Nat.add_comm, Nat.add_mul_div_right _ _ h0, Nat.div_eq_of_lt hry, Nat.zero_add]
        have d2 : x * 10000 % y = r := by rw [hT, Nat.add_comm, Nat.add_mul_mod_self_right, Nat.mod_eq_of_lt hry]
        have hK2 : K = n + if y - r ≤ r then 1 else 0 := by rw [hK]; unfold nearN; rw [d1, d2]
        have yr : IntKind.u64.wrap ((y : Int) - (r : Int)) = (y : Int) - (r : Int) := by rw [IntKind.wrap_u64]; omega
        clear hE hF hgo hK hT d1 d2
        by_cases hup : y - r ≤ r
        · rw [if_pos hup] at hK2
          have c1 : (y : Int) - (r : Int) ≤ (r : Int) := by omega
          have PX := fun w2 => PL.out n 1 true w2 hn (by omega)
          rw [← hK2, Bool.true_and] at PX
          obtain ⟨M, hM⟩ : ∃ M, M = K % 18446744073709551616 := ⟨_, rfl⟩
          rw [← hM] at PX
          rw [← HO.out] at PX
          have PX2 : Hid (∀ w2, Calls Tryz.prog 49 #[.int .u64 (n : Int), .int .u64 1, .bool true] w2 fun e w' => e = .returned (.tuple #[.int .u64 (M : Int), .bool O]) ∧ w' = w2) := PX
          have hMl : M < 18446744073709551616 := by omega
          have hMK : Hid (K < 18446744073709551616 → M = K) := fun h => by rw [hM, Nat.mod_eq_of_lt h]
          clear PX hM hK2 hup
          go_wp2_with fail
          refine (PX2.out _).mono ?_
          rintro e wx ⟨rfl, hwx⟩; have hwx2 := hwx.symm; subst hwx2; clear hwx
          go_wp2_with fail
          refine bodyPost_ret (v := .tuple #[.int .u64 (M : Int), .bool O]) (by simp [results, Tryz.results35, go_sem]) rfl ⟨M, rfl, hMl, hMK.out, hbr⟩
        · rw [if_neg hup, Nat.add_zero] at hK2
          obtain rfl : K = n := hK2
          obtain rfl : true = O := by rw [HO.out]; exact (decide_eq_true hn).symm
          have c1 : ¬ (y : Int) - (r : Int) ≤ (r : Int) := by omega
          go_wp2_with fail
          refine bodyPost_ret (v := .tuple #[.int .u64 (K : Int), .bool true]) (by simp [results, Tryz.results35, go_sem]) rfl ⟨K, rfl, hn, by first | exact rfl | exact fun _ => rfl, hbr⟩
end Go.Proofs.YtppcoimfgafbfaaGreatDoor
