/-
  Walks: 'lives' of the law.
-/
import Derived.Test.YtpghkbbhcpcbdaaNuT
namespace Go.Proofs.Ytpghkbbhcpcbdaa
open Go.RowKit Go.Maps Go.Joins
variable {P : Nat → Prop} {w w' : World} {n c : Nat} {S : St} {L : Ly}

set_option maxHeartbeats 4000000 in
set_option maxRecDepth 100000 in
theorem lives_any (w0 : World) : Calls Try.prog 11 #[] w0 fun e w' => e = .returned (.bool true) ∧ w0.grownBy w' none := by
  go_enter Try.func11, Try.ntmps11
  go_wp2_with fail
  refine New_lv.mono ?_
  rintro e w1 ⟨n, rfl, N1⟩
  have S1 := mkHid ((N1.kept (World.grownBy_alloc w1 (.cells #[.int .u8 97] 5 (1, 2)) none)).send (g := w1.heap.size) (cap := 1) (x := 97) (OkS.begin 2) (by omega) (new_cell w1 _ _ _))
  rw [lv_e1] at S1
  have cv := conv_bb w1 (.int .u8 97)
  clear N1
  go_wp2_with fail
  refine S1.out.mono ?_
  rintro e w2 ⟨rfl, N2, _⟩
  have S2 := mkHid ((N2.kept (World.grownBy_alloc w2 (.cells #[.int .u8 98] 5 (1, 2)) none)).send (g := w2.heap.size) (cap := 1) (x := 98) okA (by omega) (new_cell w2 _ _ _))
  rw [show sendT (st0 2) 0 1 ⟨#[97]⟩ = lvA from rfl, lv_e2] at S2
  have cv2 := conv_bb w2 (.int .u8 98)
  clear N2 S1 cv
  go_wp2_with fail
  refine S2.out.mono ?_
  rintro e w3 ⟨rfl, N3, _⟩
  have N3 : LvN w0 n (0 + 1 + 1) lvB w3 := N3
  have S3 := mkHid (N3.deliver 1 okB (by omega))
  rw [lv_e3] at S3
  clear N3 S2 cv2
  go_wp2_with fail
  refine S3.out.mono ?_
  rintro e w4 ⟨rfl, N4, _⟩
  have N4 : LvN w0 n (0 + 1 + 1 + 1) lvC w4 := N4
  have S4 := mkHid (N4.deliver 0 okC (by omega))
  rw [lv_e4] at S4
  clear N4 S3
  go_wp2_with fail
  refine S4.out.mono ?_
  rintro e w5 ⟨rfl, N5, _⟩
  have N5 : LvN w0 n (0 + 1 + 1 + 1 + 1) lvD w5 := N5
  have S5 := mkHid (N5.tick 0 okD)
  rw [lv_e5] at S5
  clear N5 S4
  go_wp2_with fail
  refine S5.out.mono ?_
  rintro e w6 ⟨rfl, N6, _⟩
  have N6 : Hid (LvN w0 n (4 + 0) (lvE 0) w6) := N6
  clear S5
  go_wp2_with fail
  go_loopw [3] (fun s3 wr => ∃ (k : Nat), s3 = .int .i64 (k : Int) ∧ k ≤ 9 ∧ Hid (LvN w0 n (4 + k) (lvE k) wr)) (fun s3 _ => 9 - (intOf s3).toNat)
  case atStart => exact ⟨0, rfl, by omega, N6⟩
  case round =>
    obtain ⟨k, rfl, hk, NK⟩ := hrel
    by_cases hlt : k < 9
    · have hlti : (k : Int) < 9 := by omega
      have SK := mkHid (NK.out.deliver 0 (okE k hk) (by omega))
      clear NK
      go_wp2_with fail
      refine SK.out.mono ?_
      rintro e w7 ⟨rfl, N7, _⟩
      have N7 : Hid (LvN w0 n (4 + (k + 1)) (lvE (k + 1)) w7) := N7
      clear SK
      go_wp2_with fail
      go_roundw
      case rel => exact ⟨k + 1, by go_num, hlt, N7⟩
      case measure => simp [intOf]; omega
    · obtain rfl : k = 9 := by omega
      have R1 := mkHid (NK.out.recv1 lv_i1 _ _ lv_m1)
      clear NK
      go_wp2_with fail
      refine R1.out.mono ?_
      rintro e w7 ⟨g1, c1, rfl, kd1, by1, N7, _⟩
      have N7 : LvN w0 n (4 + 9) lvF w7 := N7
      have R2 := mkHid ((N7.kept (World.grownBy_alloc w7 (.cells #[.int .i64 0, .slice (some ⟨g1, 0, none⟩) 1 c1] 51) none)).recv1 lv_i2 _ _ lv_m2)
      have KD1 := mkHid kd1
      have BY1 := mkHid by1
      clear R1 N7 kd1 by1
      go_wp2_with fail
      refine R2.out.mono ?_
      rintro e w8 ⟨g2, c2, rfl, kd2, by2, N8, K8⟩
      have N8 : LvN w0 n (4 + 9) lvG w8 := N8
      have R3 := mkHid ((N8.kept (World.grownBy_alloc w8 (.cells #[.int .i64 0, .slice (some ⟨g2, 0, none⟩) 1 c2] 51) none)).recv0 1 lv_i3 lv_m3)
      have KD2 := mkHid kd2
      have BY2 := mkHid by2
      have HK8 := mkHid (K8.trans (Kp.of_grown (World.grownBy_alloc w8 (.cells #[.int .i64 0, .slice (some ⟨g2, 0, none⟩) 1 c2] 51) none)))
      clear R2 N8 kd2 by2 K8
      go_wp2_with fail
      refine R3.out.mono ?_
      rintro e w9 ⟨rfl, N9, K9⟩
      have K10 := K9.trans (Kp.of_grown (World.grownBy_alloc w9 (.cells #[.int .i64 0, .slice none 0 0] 51) none))
      obtain ⟨a1, a2⟩ := (HK8.out.trans K10).box KD1.out BY1.out
      obtain ⟨b1, b2⟩ := K10.box KD2.out BY2.out
      have G := mkHid (grown_none_trans N9.1 (World.grownBy_alloc w9 (.cells #[.int .i64 0, .slice none 0 0] 51) none))
      clear R3 N9 K9 K10 HK8 KD1 BY1 KD2 BY2
      go_wp2_with fail
      go_ret
      exact ⟨rfl, G.out⟩
end Go.Proofs.Ytpghkbbhcpcbdaa
