/-
  The walk of lockstepref02.readNumber.
-/
import Derived.Test.YtedacccedbchaaaDoorVaM
namespace Go.Proofs.YtedacccedbchaaaDoor
open Go.RowKit Go.Shelf

theorem vrd_form (E : Except Int (Va × Nat)) : ∃ t n s k e, vrd E = .tuple #[.agg #[.int .i64 t, .int .i64 n, .string s], .int .i64 k, .int .i64 e] := by
  rcases E with e | ⟨⟨t, n, s⟩, k⟩
  · exact ⟨0, 0, _, 0, e, rfl⟩
  · exact ⟨t, n, s, k, 0, rfl⟩

set_option maxHeartbeats 4000000 in
set_option maxRecDepth 1000000 in
theorem refReadNumber_any (p : Option Addr) (c : Nat) (l : List UInt8) (w : World) (hp : byIn w p l) (hc : l.length ≤ c) (hcm : c ≤ 9223372036854775807) :
    Calls Tryd.prog 46 #[.slice p l.length c] w fun e w' => e = .returned (vrd (rdNum l)) ∧ Below w.heap.size w w' := by
  by_cases h12 : l.length < 12
  · have e : rdNum l = .error 4 := if_pos h12
    rw [e]
    have hi : (l.length : Int) < 12 := by omega
    go_enter Tryd.func46, Tryd.ntmps46
    go_wp2_with fail
    refine bodyPost_ret (v := vrd (.error 4)) (by simp [results, Tryd.results46, go_sem, vrd]) rfl ⟨rfl, (Below.refl _ w).alloc (Nat.le_refl _) _⟩
  · have get : ∀ i, i < l.length → l[i]? = some (l.getD i 0) := fun i hi => by rw [List.getElem?_eq_getElem hi, List.getD_eq_getElem?_getD, List.getElem?_eq_getElem hi]; rfl
    rcases hp with rfl | ⟨g, off, rfl, hg, hcs⟩
    · simp at h12
    obtain ⟨b1, hb1⟩ : ∃ b, b = l.getD 1 0 := ⟨_, rfl⟩
    obtain ⟨b2, hb2⟩ : ∃ b, b = l.getD 2 0 := ⟨_, rfl⟩
    obtain ⟨b11, hb11⟩ : ∃ b, b = l.getD 11 0 := ⟨_, rfl⟩
    obtain ⟨m, hm⟩ : ∃ m, m = (l.drop 3).take 8 := ⟨_, rfl⟩
    have hml : m.length = 8 := by rw [hm, List.length_take, List.length_drop]; omega
    have c1 := hcs 1 b1 (by rw [hb1]; exact get 1 (by omega))
    have c2 := hcs 2 b2 (by rw [hb2]; exact get 2 (by omega))
    have c11 : Hid (w.cell? ⟨g, off + 11, none⟩ = some (.int .u8 (b11.toNat : Int))) := hcs 11 b11 (by rw [hb11]; exact get 11 (by omega))
    have cm : Hid (∀ k x, m[k]? = some x → w.cell? ⟨g, off + 3 + k, none⟩ = some (.int .u8 (x.toNat : Int))) := fun k x hx => by
      have hk := (List.getElem?_eq_some_iff.1 hx).1
      rw [hm, List.getElem?_take_of_lt (by omega), List.getElem?_drop] at hx
      have := hcs (3 + k) x hx
      rw [← Nat.add_assoc] at this; exact this
    have e : rdNum l = match numV (b1.toNat * 256 + b2.toNat) (beN m) b11.toNat with | some v => .ok (v, 12) | none => .error 20 := by
      unfold rdNum; rw [if_neg h12, ← hb1, ← hb2, ← hb11, ← hm]; rfl
    rw [e]
    have hx1 := b1.toNat_lt
    have hx2 := b2.toNat_lt
    have hx3 := b11.toNat_lt
    have hlo : beN m < 18446744073709551616 := by have := beN_lt m; rw [hml] at this; exact this
    have or1 := or8 b1.toNat b2 (by omega)
    have l12 : (12 : Int) ≤ (l.length : Int) := by omega
    have lc : (l.length : Int) ≤ (c : Int) := by omega
    obtain ⟨H, hH⟩ : ∃ H : Nat, H = b1.toNat * 256 + b2.toNat := ⟨_, rfl⟩
    rw [← hH] at or1 ⊢
    have R0 : Hid _ := Res.new w 0 0 ⟨#[]⟩
    have B0 : Hid (∀ o, Below w.heap.size w (w.alloc o)) := fun o => (Below.refl _ w).alloc (Nat.le_refl _) o
    have hHl : H < 65536 := by omega
    have eR : ∀ o : Option Va, (match o with | some v => Except.ok (ε := Int) (v, 12) | none => .error 20) = resN o := fun o => by cases o <;> rfl
    rw [eR]
    obtain ⟨L, hL0⟩ : ∃ L, L = beN m := ⟨_, rfl⟩
    rw [← hL0] at hlo ⊢
    have HL : Hid (L = beN m) := hL0
    obtain ⟨E, hE⟩ : ∃ E, E = resN (numV H L b11.toNat) := ⟨_, rfl⟩
    rw [← hE]
    have HE : Hid (E = resN (numV H L b11.toNat)) := hE
    have DV : Hid (∀ (h l : Nat) w, h < 10000 → l < 18446744073709551616 → Calls Tryd.prog 71 #[.int .u64 (h : Int), .int .u64 (l : Int)] w fun e w' => e = .returned (.tuple #[.int .u64 (((h * 18446744073709551616 + l) / 10000 : Nat) : Int), .int .u64 (((h * 18446744073709551616 + l) % 10000 : Nat) : Int)]) ∧ w' = w) := fun h l w g1 g2 => divided_any h l w g1 g2
    have SG : Hid (∀ (kd : Int) (mn : Bool) (u : Nat) w, u < 18446744073709551616 → Calls Tryd.prog 70 #[.int .i64 kd, .bool mn, .int .u64 (u : Int)] w fun e w' => e = .returned (vrd (sgn kd mn u)) ∧ Below w.heap.size w w') := fun kd mn u w g => signed_any kd mn u w g
    clear e eR hE hL0 hH hb1 hb2 hb11 hm get hcs h12
    go_enter Tryd.func46, Tryd.ntmps46
    go_wp2_with fail
    go_quiet (fail)
    go_wp2_with fail
    have BW := below_drewN (B0.out (.cells #[.int .i64 0, .int .i64 0, .string ⟨#[]⟩] 46)) nq
    have RW : Hid _ := R0.out.below (below_drewN (Below.refl _ _) nq)
    generalize (w.alloc (.cells #[.int .i64 0, .int .i64 0, .string ⟨#[]⟩] 46)).drewN nq = w2 at *
    have d11 := (BW.cell (p := ⟨g, off + 11, none⟩) hg).trans c11.out
    go_loop [6, 7] (fun sl sk => ∃ k : Nat, sk = .int .i64 (3 + (k : Int)) ∧ k ≤ 8 ∧ sl = .int .u64 ((beN (m.take k) : Nat) : Int)) (fun _ sk => (11 - intOf sk).toNat)
    case atStart => exact ⟨0, rfl, by omega, rfl⟩
    case round =>
      obtain ⟨k, rfl, hk, rfl⟩ := hrel
      by_cases hlt : k < 8
      · obtain ⟨x, hx⟩ : ∃ x, m[k]? = some x := ⟨m[k], List.getElem?_eq_getElem (by omega)⟩
        have dx := (BW.cell (p := ⟨g, off + 3 + k, none⟩) hg).trans (cm.out k x hx)
        rw [Nat.add_assoc] at dx
        have hn : Hid (beN (m.take (k + 1)) = beN (m.take k) * 256 + x.toNat) := beN_next hx
        have hL : beN (m.take k) < 72057594037927936 := by
          have h := beN_lt (m.take k)
          have h7 : (m.take k).length ≤ 7 := by rw [List.length_take]; omega
          have : 256 ^ (m.take k).length ≤ 256 ^ 7 := Nat.pow_le_pow_right (by omega) h7
          omega
        have o8 := or8 _ x hL
        have wx : IntKind.u64.wrap (x.toNat : Int) = (x.toNat : Int) := by have := x.toNat_lt; rw [IntKind.wrap_u64]; omega
        clear hx
        generalize beN (m.take k) = L1 at *
        go_wp2_with fail
        go_round
        case rel => exact ⟨k + 1, by first | go_num | (congr 1; omega), by omega, by rw [hn.out]; exact congrArg _ (by omega)⟩
        case measure => simp [intOf]; omega
      · obtain rfl : k = 8 := by omega
        rw [show beN (m.take 8) = L by rw [← hml, List.take_length]; exact HL.out.symm]
        obtain ⟨kd, hkd⟩ : ∃ kd, kd = b11.toNat := ⟨_, rfl⟩
        rw [← hkd] at d11 hx3
        have HE2 : Hid (E = resN (numV H L kd)) := by rw [hkd]; exact HE
        have R2 := RW.out
        clear HE hkd cm c1 c2 c11 or1 hml HL
        obtain ⟨_, r0, r1, r2, f0, f1, f2⟩ := id R2
        by_cases k1 : kd = 1
        · subst k1
          replace d11 : w2.cell? ⟨g, off + 11, none⟩ = some (.int .u8 1) := d11
          by_cases hp : 32768 ≤ H
          · obtain ⟨h, hh0⟩ : ∃ h, H = 32768 + h := ⟨H - 32768, by omega⟩
            have m0 : ¬ (H : Int) < 32768 := by omega
            have e5 : ((H : Int) + 32768) % 65536 = (h : Int) := by omega
            have hl2 : L < 18446744073709551616 := hlo
            by_cases hh : h < 10000
            · have t1 : ¬ (10000 : Int) ≤ (h : Int) := by omega
              obtain ⟨q, hq⟩ : ∃ q, q = (h * 18446744073709551616 + L) / 10000 := ⟨_, rfl⟩
              obtain ⟨r, hr⟩ : ∃ r, r = (h * 18446744073709551616 + L) % 10000 := ⟨_, rfl⟩
              have DV1 : Hid (∀ w, Calls Tryd.prog 71 #[.int .u64 (h : Int), .int .u64 (L : Int)] w fun e w' => e = .returned (.tuple #[.int .u64 (q : Int), .int .u64 (r : Int)]) ∧ w' = w) := fun w => by rw [hq, hr]; exact DV.out _ _ w hh hl2
              have hq64 : q < 18446744073709551616 := by rw [hq]; exact Nat.div_lt_of_lt_mul (by omega)
              by_cases hr0 : r = 0
              · have t2 : ((r : Int) != 0) = false := by rw [hr0]; rfl
                have HE3 : Hid (resN (numV H L 1) = sgn 1 false q) := by
                  show _ = _
                  rw [hq]; exact (by rw [hh0]; exact big_plus hh hlo (by rw [← hr]; exact hr0))
                clear hq hr hr0 hh
                have SC : Hid (Calls Tryd.prog 70 #[.int .i64 1, .bool false, .int .u64 (q : Int)] w2 fun e w'' => e = .returned (vrd E) ∧ Below w2.heap.size w2 w'') := by
                  have := SG.out 1 false q w2 (by omega)
                  rw [← HE3.out, ← HE2.out] at this; exact this
                obtain ⟨t, n, s, k, e0, hv⟩ := vrd_form E
                have HV : Hid (vrd E = _) := hv
                rw [hv] at SC
                clear HE2 HE3 hv hx1 hx2 hx3 lc hc hcm hk hlo hl2 hp hh0 hq64
                go_wp2_with fail
                refine (DV1.out _).mono ?_
                rintro e' wx ⟨rfl, hwx⟩; have hwx2 := hwx.symm; subst hwx2; clear hwx
                go_wp2_with fail
                refine SC.out.mono ?_
                rintro e' w3 ⟨rfl, hb3⟩
                have R3 := R2.below hb3
                have B3 := BW.trans (hb3.mono BW.size)
                obtain ⟨_, r3, r4, r5, f3, f4, f5⟩ := id R3
                go_wp2_with fail
                obtain ⟨_, x0, x1, x2, _, _, _⟩ := R3.put t n s
                refine bodyPost_ret (v := .tuple #[.agg #[.int .i64 t, .int .i64 n, .string s], .int .i64 k, .int .i64 e0]) (by simp [results, Tryd.results46, go_sem, x0, x1, x2]) rfl ⟨by rw [HV.out], ?_⟩
                exact ((B3.setCell (p := ⟨w.heap.size, 0, none⟩) (Nat.le_refl _) _).setCell (p := ⟨w.heap.size, 1, none⟩) (Nat.le_refl _) _).setCell (p := ⟨w.heap.size, 2, none⟩) (Nat.le_refl _) _
              · have t2 : ((r : Int) != 0) = true := by rw [bne_iff_ne]; omega
                have HE3 : Hid (resN (numV H L 1) = .error 20) := (by rw [hh0]; exact big_plus_no hh (by rw [← hr]; exact hr0))
                clear hq hr hr0 hh
                have hd2 : E = .error 20 := by rw [HE2.out]; exact HE3.out
                subst hd2
                clear HE2 HE3 hx1 hx2 hx3 lc hc hcm hk hlo hl2 hp hh0 hq64
                go_wp2_with fail
                refine (DV1.out _).mono ?_
                rintro e' wx ⟨rfl, hwx⟩; have hwx2 := hwx.symm; subst hwx2; clear hwx
                go_wp2_with fail
                obtain ⟨_, x0, x1, x2, _, _, _⟩ := R2.put 0 0 ⟨#[]⟩
                refine bodyPost_ret (v := vrd (.error 20)) (by simp [results, Tryd.results46, go_sem, vrd, x0, x1, x2]) rfl ⟨rfl, ?_⟩
                exact ((BW.setCell (p := ⟨w.heap.size, 0, none⟩) (Nat.le_refl _) _).setCell (p := ⟨w.heap.size, 1, none⟩) (Nat.le_refl _) _).setCell (p := ⟨w.heap.size, 2, none⟩) (Nat.le_refl _) _
            · have t1 : (10000 : Int) ≤ (h : Int) := by omega
              have HE3 : Hid (resN (numV H L 1) = .error 20) := (by rw [hh0]; exact big_far_plus hh)
              clear hh
              have hd2 : E = .error 20 := by rw [HE2.out]; exact HE3.out
              subst hd2
              clear HE2 HE3 hx1 hx2 hx3 lc hc hcm hk hlo hl2 hp hh0
              go_wp2_with fail
              obtain ⟨_, x0, x1, x2, _, _, _⟩ := R2.put 0 0 ⟨#[]⟩
              refine bodyPost_ret (v := vrd (.error 20)) (by simp [results, Tryd.results46, go_sem, vrd, x0, x1, x2]) rfl ⟨rfl, ?_⟩
              exact ((BW.setCell (p := ⟨w.heap.size, 0, none⟩) (Nat.le_refl _) _).setCell (p := ⟨w.heap.size, 1, none⟩) (Nat.le_refl _) _).setCell (p := ⟨w.heap.size, 2, none⟩) (Nat.le_refl _) _
          · by_cases hL0 : L = 0
            · have m0 : (H : Int) < 32768 := by omega
              obtain ⟨h0, hh0⟩ : ∃ h0 : Nat, h0 = H + 32768 := ⟨_, rfl⟩
              have e5 : ((H : Int) + 32768) % 65536 = (h0 : Int) := by omega
              obtain ⟨h1, hh1⟩ : ∃ h1 : Nat, h1 = 32767 - H := ⟨_, rfl⟩
              have e6 : (65535 : Int) - (h0 : Int) = (h1 : Int) := by omega
              obtain ⟨l2, hl0⟩ : ∃ l2 : Nat, l2 = 0 := ⟨_, rfl⟩
              have eL : IntKind.u64.wrap (-(L : Int)) = (l2 : Int) := by rw [IntKind.wrap_u64]; omega
              have z2 : ((l2 : Int) == 0) = true := by rw [hl0]; rfl
              obtain ⟨h2, hh2⟩ : ∃ h2 : Nat, h2 = 32768 - H := ⟨_, rfl⟩
              have e7 : (h1 : Int) + 1 = (h2 : Int) := by omega
              have hl2 : l2 < 18446744073709551616 := by omega
              have hU : h2 * 18446744073709551616 + l2 = (32768 - H) * 18446744073709551616 - L := by omega
              by_cases hh : h2 < 10000
              · have t1 : ¬ (10000 : Int) ≤ (h2 : Int) := by omega
                obtain ⟨q, hq⟩ : ∃ q, q = (h2 * 18446744073709551616 + l2) / 10000 := ⟨_, rfl⟩
                obtain ⟨r, hr⟩ : ∃ r, r = (h2 * 18446744073709551616 + l2) % 10000 := ⟨_, rfl⟩
                have DV1 : Hid (∀ w, Calls Tryd.prog 71 #[.int .u64 (h2 : Int), .int .u64 (l2 : Int)] w fun e w' => e = .returned (.tuple #[.int .u64 (q : Int), .int .u64 (r : Int)]) ∧ w' = w) := fun w => by rw [hq, hr]; exact DV.out _ _ w hh hl2
                have hq64 : q < 18446744073709551616 := by rw [hq]; exact Nat.div_lt_of_lt_mul (by omega)
                by_cases hr0 : r = 0
                · have t2 : ((r : Int) != 0) = false := by rw [hr0]; rfl
                  have HE3 : Hid (resN (numV H L 1) = sgn 1 true q) := by
                    show _ = _
                    rw [hq]; exact (big_minus (by omega) hlo hU (by rw [← hr]; exact hr0))
                  clear hq hr hr0 hh
                  have SC : Hid (Calls Tryd.prog 70 #[.int .i64 1, .bool true, .int .u64 (q : Int)] w2 fun e w'' => e = .returned (vrd E) ∧ Below w2.heap.size w2 w'') := by
                    have := SG.out 1 true q w2 (by omega)
                    rw [← HE3.out, ← HE2.out] at this; exact this
                  obtain ⟨t, n, s, k, e0, hv⟩ := vrd_form E
                  have HV : Hid (vrd E = _) := hv
                  rw [hv] at SC
                  clear HE2 HE3 hv hx1 hx2 hx3 lc hc hcm hk hlo hl2 hp hh0 hL0 hh1 hl0 hh2 hU hq64
                  go_wp2_with fail
                  refine (DV1.out _).mono ?_
                  rintro e' wx ⟨rfl, hwx⟩; have hwx2 := hwx.symm; subst hwx2; clear hwx
                  go_wp2_with fail
                  refine SC.out.mono ?_
                  rintro e' w3 ⟨rfl, hb3⟩
                  have R3 := R2.below hb3
                  have B3 := BW.trans (hb3.mono BW.size)
                  obtain ⟨_, r3, r4, r5, f3, f4, f5⟩ := id R3
                  go_wp2_with fail
                  obtain ⟨_, x0, x1, x2, _, _, _⟩ := R3.put t n s
                  refine bodyPost_ret (v := .tuple #[.agg #[.int .i64 t, .int .i64 n, .string s], .int .i64 k, .int .i64 e0]) (by simp [results, Tryd.results46, go_sem, x0, x1, x2]) rfl ⟨by rw [HV.out], ?_⟩
                  exact ((B3.setCell (p := ⟨w.heap.size, 0, none⟩) (Nat.le_refl _) _).setCell (p := ⟨w.heap.size, 1, none⟩) (Nat.le_refl _) _).setCell (p := ⟨w.heap.size, 2, none⟩) (Nat.le_refl _) _
                · have t2 : ((r : Int) != 0) = true := by rw [bne_iff_ne]; omega
                  have HE3 : Hid (resN (numV H L 1) = .error 20) := (big_minus_far (by omega) hlo hU (by rw [← hr]; exact hr0))
                  clear hq hr hr0 hh
                  have hd2 : E = .error 20 := by rw [HE2.out]; exact HE3.out
                  subst hd2
                  clear HE2 HE3 hx1 hx2 hx3 lc hc hcm hk hlo hl2 hp hh0 hL0 hh1 hl0 hh2 hU hq64
                  go_wp2_with fail
                  refine (DV1.out _).mono ?_
                  rintro e' wx ⟨rfl, hwx⟩; have hwx2 := hwx.symm; subst hwx2; clear hwx
                  go_wp2_with fail
                  obtain ⟨_, x0, x1, x2, _, _, _⟩ := R2.put 0 0 ⟨#[]⟩
                  refine bodyPost_ret (v := vrd (.error 20)) (by simp [results, Tryd.results46, go_sem, vrd, x0, x1, x2]) rfl ⟨rfl, ?_⟩
                  exact ((BW.setCell (p := ⟨w.heap.size, 0, none⟩) (Nat.le_refl _) _).setCell (p := ⟨w.heap.size, 1, none⟩) (Nat.le_refl _) _).setCell (p := ⟨w.heap.size, 2, none⟩) (Nat.le_refl _) _
              · have t1 : (10000 : Int) ≤ (h2 : Int) := by omega
                have HE3 : Hid (resN (numV H L 1) = .error 20) := (by rw [big_eq, big_far (by omega)]; rfl)
                clear hh
                have hd2 : E = .error 20 := by rw [HE2.out]; exact HE3.out
                subst hd2
                clear HE2 HE3 hx1 hx2 hx3 lc hc hcm hk hlo hl2 hp hh0 hL0 hh1 hl0 hh2 hU
                go_wp2_with fail
                obtain ⟨_, x0, x1, x2, _, _, _⟩ := R2.put 0 0 ⟨#[]⟩
                refine bodyPost_ret (v := vrd (.error 20)) (by simp [results, Tryd.results46, go_sem, vrd, x0, x1, x2]) rfl ⟨rfl, ?_⟩
                exact ((BW.setCell (p := ⟨w.heap.size, 0, none⟩) (Nat.le_refl _) _).setCell (p := ⟨w.heap.size, 1, none⟩) (Nat.le_refl _) _).setCell (p := ⟨w.heap.size, 2, none⟩) (Nat.le_refl _) _
            · have m0 : (H : Int) < 32768 := by omega
              obtain ⟨h0, hh0⟩ : ∃ h0 : Nat, h0 = H + 32768 := ⟨_, rfl⟩
              have e5 : ((H : Int) + 32768) % 65536 = (h0 : Int) := by omega
              obtain ⟨h1, hh1⟩ : ∃ h1 : Nat, h1 = 32767 - H := ⟨_, rfl⟩
              have e6 : (65535 : Int) - (h0 : Int) = (h1 : Int) := by omega
              obtain ⟨l2, hl0⟩ : ∃ l2 : Nat, l2 = 18446744073709551616 - L := ⟨_, rfl⟩
              have eL : IntKind.u64.wrap (-(L : Int)) = (l2 : Int) := by rw [IntKind.wrap_u64]; omega
              have z2 : ((l2 : Int) == 0) = false := by rw [beq_eq_false_iff_ne]; omega
              have hl2 : l2 < 18446744073709551616 := by omega
              have hU : h1 * 18446744073709551616 + l2 = (32768 - H) * 18446744073709551616 - L := by omega
              by_cases hh : h1 < 10000
              · have t1 : ¬ (10000 : Int) ≤ (h1 : Int) := by omega
                obtain ⟨q, hq⟩ : ∃ q, q = (h1 * 18446744073709551616 + l2) / 10000 := ⟨_, rfl⟩
                obtain ⟨r, hr⟩ : ∃ r, r = (h1 * 18446744073709551616 + l2) % 10000 := ⟨_, rfl⟩
                have DV1 : Hid (∀ w, Calls Tryd.prog 71 #[.int .u64 (h1 : Int), .int .u64 (l2 : Int)] w fun e w' => e = .returned (.tuple #[.int .u64 (q : Int), .int .u64 (r : Int)]) ∧ w' = w) := fun w => by rw [hq, hr]; exact DV.out _ _ w hh hl2
                have hq64 : q < 18446744073709551616 := by rw [hq]; exact Nat.div_lt_of_lt_mul (by omega)
                by_cases hr0 : r = 0
                · have t2 : ((r : Int) != 0) = false := by rw [hr0]; rfl
                  have HE3 : Hid (resN (numV H L 1) = sgn 1 true q) := by
                    show _ = _
                    rw [hq]; exact (big_minus (by omega) hlo hU (by rw [← hr]; exact hr0))
                  clear hq hr hr0 hh
                  have SC : Hid (Calls Tryd.prog 70 #[.int .i64 1, .bool true, .int .u64 (q : Int)] w2 fun e w'' => e = .returned (vrd E) ∧ Below w2.heap.size w2 w'') := by
                    have := SG.out 1 true q w2 (by omega)
                    rw [← HE3.out, ← HE2.out] at this; exact this
                  obtain ⟨t, n, s, k, e0, hv⟩ := vrd_form E
                  have HV : Hid (vrd E = _) := hv
                  rw [hv] at SC
                  clear HE2 HE3 hv hx1 hx2 hx3 lc hc hcm hk hlo hl2 hp hh0 hL0 hh1 hl0 hU hq64
                  go_wp2_with fail
                  refine (DV1.out _).mono ?_
                  rintro e' wx ⟨rfl, hwx⟩; have hwx2 := hwx.symm; subst hwx2; clear hwx
                  go_wp2_with fail
                  refine SC.out.mono ?_
                  rintro e' w3 ⟨rfl, hb3⟩
                  have R3 := R2.below hb3
                  have B3 := BW.trans (hb3.mono BW.size)
                  obtain ⟨_, r3, r4, r5, f3, f4, f5⟩ := id R3
                  go_wp2_with fail
                  obtain ⟨_, x0, x1, x2, _, _, _⟩ := R3.put t n s
                  refine bodyPost_ret (v := .tuple #[.agg #[.int .i64 t, .int .i64 n, .string s], .int .i64 k, .int .i64 e0]) (by simp [results, Tryd.results46, go_sem, x0, x1, x2]) rfl ⟨by rw [HV.out], ?_⟩
                  exact ((B3.setCell (p := ⟨w.heap.size, 0, none⟩) (Nat.le_refl _) _).setCell (p := ⟨w.heap.size, 1, none⟩) (Nat.le_refl _) _).setCell (p := ⟨w.heap.size, 2, none⟩) (Nat.le_refl _) _
                · have t2 : ((r : Int) != 0) = true := by rw [bne_iff_ne]; omega
                  have HE3 : Hid (resN (numV H L 1) = .error 20) := (big_minus_far (by omega) hlo hU (by rw [← hr]; exact hr0))
                  clear hq hr hr0 hh
                  have hd2 : E = .error 20 := by rw [HE2.out]; exact HE3.out
                  subst hd2
                  clear HE2 HE3 hx1 hx2 hx3 lc hc hcm hk hlo hl2 hp hh0 hL0 hh1 hl0 hU hq64
                  go_wp2_with fail
                  refine (DV1.out _).mono ?_
                  rintro e' wx ⟨rfl, hwx⟩; have hwx2 := hwx.symm; subst hwx2; clear hwx
                  go_wp2_with fail
                  obtain ⟨_, x0, x1, x2, _, _, _⟩ := R2.put 0 0 ⟨#[]⟩
                  refine bodyPost_ret (v := vrd (.error 20)) (by simp [results, Tryd.results46, go_sem, vrd, x0, x1, x2]) rfl ⟨rfl, ?_⟩
                  exact ((BW.setCell (p := ⟨w.heap.size, 0, none⟩) (Nat.le_refl _) _).setCell (p := ⟨w.heap.size, 1, none⟩) (Nat.le_refl _) _).setCell (p := ⟨w.heap.size, 2, none⟩) (Nat.le_refl _) _
              · have t1 : (10000 : Int) ≤ (h1 : Int) := by omega
                have HE3 : Hid (resN (numV H L 1) = .error 20) := (by rw [big_eq, big_far (by omega)]; rfl)
                clear hh
                have hd2 : E = .error 20 := by rw [HE2.out]; exact HE3.out
                subst hd2
                clear HE2 HE3 hx1 hx2 hx3 lc hc hcm hk hlo hl2 hp hh0 hL0 hh1 hl0 hU
                go_wp2_with fail
                obtain ⟨_, x0, x1, x2, _, _, _⟩ := R2.put 0 0 ⟨#[]⟩
                refine bodyPost_ret (v := vrd (.error 20)) (by simp [results, Tryd.results46, go_sem, vrd, x0, x1, x2]) rfl ⟨rfl, ?_⟩
                exact ((BW.setCell (p := ⟨w.heap.size, 0, none⟩) (Nat.le_refl _) _).setCell (p := ⟨w.heap.size, 1, none⟩) (Nat.le_refl _) _).setCell (p := ⟨w.heap.size, 2, none⟩) (Nat.le_refl _) _
        · by_cases k2 : kd = 2
          · subst k2
            replace d11 : w2.cell? ⟨g, off + 11, none⟩ = some (.int .u8 2) := d11
            by_cases hp : 32768 ≤ H
            · obtain ⟨h, hh0⟩ : ∃ h, H = 32768 + h := ⟨H - 32768, by omega⟩
              have m0 : ¬ (H : Int) < 32768 := by omega
              have e5 : ((H : Int) + 32768) % 65536 = (h : Int) := by omega
              have hl2 : L < 18446744073709551616 := hlo
              by_cases hz : h = 0
              · have t1 : ¬ (0 : Int) < (h : Int) := by omega
                have HE3 : Hid (resN (numV H L 2) = sgn 2 false L) := (by rw [hh0, hz]; exact dec_plus hlo)
                clear hz
                have SC : Hid (Calls Tryd.prog 70 #[.int .i64 2, .bool false, .int .u64 (L : Int)] w2 fun e w'' => e = .returned (vrd E) ∧ Below w2.heap.size w2 w'') := by
                  have := SG.out 2 false L w2 (by omega)
                  rw [← HE3.out, ← HE2.out] at this; exact this
                obtain ⟨t, n, s, k, e0, hv⟩ := vrd_form E
                have HV : Hid (vrd E = _) := hv
                rw [hv] at SC
                clear HE2 HE3 hv hx1 hx2 hx3 lc hc hcm hk hlo hl2 hp hh0
                go_wp2_with fail
                refine SC.out.mono ?_
                rintro e' w3 ⟨rfl, hb3⟩
                have R3 := R2.below hb3
                have B3 := BW.trans (hb3.mono BW.size)
                obtain ⟨_, r3, r4, r5, f3, f4, f5⟩ := id R3
                go_wp2_with fail
                obtain ⟨_, x0, x1, x2, _, _, _⟩ := R3.put t n s
                refine bodyPost_ret (v := .tuple #[.agg #[.int .i64 t, .int .i64 n, .string s], .int .i64 k, .int .i64 e0]) (by simp [results, Tryd.results46, go_sem, x0, x1, x2]) rfl ⟨by rw [HV.out], ?_⟩
                exact ((B3.setCell (p := ⟨w.heap.size, 0, none⟩) (Nat.le_refl _) _).setCell (p := ⟨w.heap.size, 1, none⟩) (Nat.le_refl _) _).setCell (p := ⟨w.heap.size, 2, none⟩) (Nat.le_refl _) _
              · have t1 : (0 : Int) < (h : Int) := by omega
                have HE3 : Hid (resN (numV H L 2) = .error 20) := dec_far hlo (Or.inl (by omega))
                clear hz
                have hd2 : E = .error 20 := by rw [HE2.out]; exact HE3.out
                subst hd2
                clear HE2 HE3 hx1 hx2 hx3 lc hc hcm hk hlo hl2 hp hh0
                go_wp2_with fail
                obtain ⟨_, x0, x1, x2, _, _, _⟩ := R2.put 0 0 ⟨#[]⟩
                refine bodyPost_ret (v := vrd (.error 20)) (by simp [results, Tryd.results46, go_sem, vrd, x0, x1, x2]) rfl ⟨rfl, ?_⟩
                exact ((BW.setCell (p := ⟨w.heap.size, 0, none⟩) (Nat.le_refl _) _).setCell (p := ⟨w.heap.size, 1, none⟩) (Nat.le_refl _) _).setCell (p := ⟨w.heap.size, 2, none⟩) (Nat.le_refl _) _
            · by_cases hL0 : L = 0
              · have m0 : (H : Int) < 32768 := by omega
                obtain ⟨h0, hh0⟩ : ∃ h0 : Nat, h0 = H + 32768 := ⟨_, rfl⟩
                have e5 : ((H : Int) + 32768) % 65536 = (h0 : Int) := by omega
                obtain ⟨h1, hh1⟩ : ∃ h1 : Nat, h1 = 32767 - H := ⟨_, rfl⟩
                have e6 : (65535 : Int) - (h0 : Int) = (h1 : Int) := by omega
                obtain ⟨l2, hl0⟩ : ∃ l2 : Nat, l2 = 0 := ⟨_, rfl⟩
                have eL : IntKind.u64.wrap (-(L : Int)) = (l2 : Int) := by rw [IntKind.wrap_u64]; omega
                have z2 : ((l2 : Int) == 0) = true := by rw [hl0]; rfl
                obtain ⟨h2, hh2⟩ : ∃ h2 : Nat, h2 = 32768 - H := ⟨_, rfl⟩
                have e7 : (h1 : Int) + 1 = (h2 : Int) := by omega
                have hl2 : l2 < 18446744073709551616 := by omega
                have hU : h2 * 18446744073709551616 + l2 = (32768 - H) * 18446744073709551616 - L := by omega
                have t1 : (0 : Int) < (h2 : Int) := by omega
                have HE3 : Hid (resN (numV H L 2) = .error 20) := (by rw [hL0]; exact dec_zero (by omega))
                have hd2 : E = .error 20 := by rw [HE2.out]; exact HE3.out
                subst hd2
                clear HE2 HE3 hx1 hx2 hx3 lc hc hcm hk hlo hl2 hp hh0 hL0 hh1 hl0 hh2 hU
                go_wp2_with fail
                obtain ⟨_, x0, x1, x2, _, _, _⟩ := R2.put 0 0 ⟨#[]⟩
                refine bodyPost_ret (v := vrd (.error 20)) (by simp [results, Tryd.results46, go_sem, vrd, x0, x1, x2]) rfl ⟨rfl, ?_⟩
                exact ((BW.setCell (p := ⟨w.heap.size, 0, none⟩) (Nat.le_refl _) _).setCell (p := ⟨w.heap.size, 1, none⟩) (Nat.le_refl _) _).setCell (p := ⟨w.heap.size, 2, none⟩) (Nat.le_refl _) _
              · have m0 : (H : Int) < 32768 := by omega
                obtain ⟨h0, hh0⟩ : ∃ h0 : Nat, h0 = H + 32768 := ⟨_, rfl⟩
                have e5 : ((H : Int) + 32768) % 65536 = (h0 : Int) := by omega
                obtain ⟨h1, hh1⟩ : ∃ h1 : Nat, h1 = 32767 - H := ⟨_, rfl⟩
                have e6 : (65535 : Int) - (h0 : Int) = (h1 : Int) := by omega
                obtain ⟨l2, hl0⟩ : ∃ l2 : Nat, l2 = 18446744073709551616 - L := ⟨_, rfl⟩
                have eL : IntKind.u64.wrap (-(L : Int)) = (l2 : Int) := by rw [IntKind.wrap_u64]; omega
                have z2 : ((l2 : Int) == 0) = false := by rw [beq_eq_false_iff_ne]; omega
                have hl2 : l2 < 18446744073709551616 := by omega
                have hU : h1 * 18446744073709551616 + l2 = (32768 - H) * 18446744073709551616 - L := by omega
                by_cases hz : h1 = 0
                · have t1 : ¬ (0 : Int) < (h1 : Int) := by omega
                  have HE3 : Hid (resN (numV H L 2) = sgn 2 true l2) := (by rw [show H = 32767 by omega, hl0]; exact dec_minus (by omega) hlo)
                  clear hz
                  have SC : Hid (Calls Tryd.prog 70 #[.int .i64 2, .bool true, .int .u64 (l2 : Int)] w2 fun e w'' => e = .returned (vrd E) ∧ Below w2.heap.size w2 w'') := by
                    have := SG.out 2 true l2 w2 (by omega)
                    rw [← HE3.out, ← HE2.out] at this; exact this
                  obtain ⟨t, n, s, k, e0, hv⟩ := vrd_form E
                  have HV : Hid (vrd E = _) := hv
                  rw [hv] at SC
                  clear HE2 HE3 hv hx1 hx2 hx3 lc hc hcm hk hlo hl2 hp hh0 hL0 hh1 hl0 hU
                  go_wp2_with fail
                  refine SC.out.mono ?_
                  rintro e' w3 ⟨rfl, hb3⟩
                  have R3 := R2.below hb3
                  have B3 := BW.trans (hb3.mono BW.size)
                  obtain ⟨_, r3, r4, r5, f3, f4, f5⟩ := id R3
                  go_wp2_with fail
                  obtain ⟨_, x0, x1, x2, _, _, _⟩ := R3.put t n s
                  refine bodyPost_ret (v := .tuple #[.agg #[.int .i64 t, .int .i64 n, .string s], .int .i64 k, .int .i64 e0]) (by simp [results, Tryd.results46, go_sem, x0, x1, x2]) rfl ⟨by rw [HV.out], ?_⟩
                  exact ((B3.setCell (p := ⟨w.heap.size, 0, none⟩) (Nat.le_refl _) _).setCell (p := ⟨w.heap.size, 1, none⟩) (Nat.le_refl _) _).setCell (p := ⟨w.heap.size, 2, none⟩) (Nat.le_refl _) _
                · have t1 : (0 : Int) < (h1 : Int) := by omega
                  have HE3 : Hid (resN (numV H L 2) = .error 20) := dec_far hlo (Or.inr (by omega))
                  clear hz
                  have hd2 : E = .error 20 := by rw [HE2.out]; exact HE3.out
                  subst hd2
                  clear HE2 HE3 hx1 hx2 hx3 lc hc hcm hk hlo hl2 hp hh0 hL0 hh1 hl0 hU
                  go_wp2_with fail
                  obtain ⟨_, x0, x1, x2, _, _, _⟩ := R2.put 0 0 ⟨#[]⟩
                  refine bodyPost_ret (v := vrd (.error 20)) (by simp [results, Tryd.results46, go_sem, vrd, x0, x1, x2]) rfl ⟨rfl, ?_⟩
                  exact ((BW.setCell (p := ⟨w.heap.size, 0, none⟩) (Nat.le_refl _) _).setCell (p := ⟨w.heap.size, 1, none⟩) (Nat.le_refl _) _).setCell (p := ⟨w.heap.size, 2, none⟩) (Nat.le_refl _) _
          · have n3 : IntKind.i64.wrap (kd : Int) = (kd : Int) := by rw [IntKind.wrap_i64]; omega
            have hd2 : E = .error 20 := by rw [HE2.out]; exact num_other k1 k2
            subst hd2
            have n1 : ((kd : Int) != 1) = true := by rw [bne_iff_ne]; omega
            have n2 : ((kd : Int) != 2) = true := by rw [bne_iff_ne]; omega
            clear HE2 k1 k2
            go_wp2_with fail
            obtain ⟨_, x0, x1, x2, _, _, _⟩ := R2.put 0 0 ⟨#[]⟩
            refine bodyPost_ret (v := vrd (.error 20)) (by simp [results, Tryd.results46, go_sem, vrd, x0, x1, x2]) rfl ⟨rfl, ?_⟩
            exact ((BW.setCell (p := ⟨w.heap.size, 0, none⟩) (Nat.le_refl _) _).setCell (p := ⟨w.heap.size, 1, none⟩) (Nat.le_refl _) _).setCell (p := ⟨w.heap.size, 2, none⟩) (Nat.le_refl _) _
end Go.Proofs.YtedacccedbchaaaDoor
