/-
  The walk of signSize.
-/
import Derived.Test.YtfcolecglobcdaaGreatDoorLxF
namespace Go.Proofs.YtfcolecglobcdaaGreatDoor
open Go.RowKit Go.Shelf

theorem ssF_hit {l g : List UInt8} {gs : List (List UInt8)} (h : g.isPrefixOf l = true) : ssF l (g :: gs) = g.length := by rw [ssF, if_pos h]
theorem ssF_miss {l g : List UInt8} {gs : List (List UInt8)} (h : g.isPrefixOf l = false) : ssF l (g :: gs) = ssF l gs := by rw [ssF, if_neg (by rw [h]; decide)]
theorem ix_0 (w : World) : (Instr.index 93 (.agg #[.string ⟨#[60, 61]⟩, .string ⟨#[62, 61]⟩, .string ⟨#[60, 62]⟩, .string ⟨#[124, 124]⟩, .string ⟨#[40]⟩, .string ⟨#[41]⟩, .string ⟨#[44]⟩, .string ⟨#[59]⟩, .string ⟨#[46]⟩, .string ⟨#[42]⟩, .string ⟨#[43]⟩, .string ⟨#[45]⟩, .string ⟨#[47]⟩, .string ⟨#[61]⟩, .string ⟨#[60]⟩, .string ⟨#[62]⟩]) (.int .i64 0)).run Tryz.prog w = .ok (.string ⟨#[60, 61]⟩) w := by kernel_rfl
theorem ix_1 (w : World) : (Instr.index 93 (.agg #[.string ⟨#[60, 61]⟩, .string ⟨#[62, 61]⟩, .string ⟨#[60, 62]⟩, .string ⟨#[124, 124]⟩, .string ⟨#[40]⟩, .string ⟨#[41]⟩, .string ⟨#[44]⟩, .string ⟨#[59]⟩, .string ⟨#[46]⟩, .string ⟨#[42]⟩, .string ⟨#[43]⟩, .string ⟨#[45]⟩, .string ⟨#[47]⟩, .string ⟨#[61]⟩, .string ⟨#[60]⟩, .string ⟨#[62]⟩]) (.int .i64 1)).run Tryz.prog w = .ok (.string ⟨#[62, 61]⟩) w := by kernel_rfl
theorem ix_2 (w : World) : (Instr.index 93 (.agg #[.string ⟨#[60, 61]⟩, .string ⟨#[62, 61]⟩, .string ⟨#[60, 62]⟩, .string ⟨#[124, 124]⟩, .string ⟨#[40]⟩, .string ⟨#[41]⟩, .string ⟨#[44]⟩, .string ⟨#[59]⟩, .string ⟨#[46]⟩, .string ⟨#[42]⟩, .string ⟨#[43]⟩, .string ⟨#[45]⟩, .string ⟨#[47]⟩, .string ⟨#[61]⟩, .string ⟨#[60]⟩, .string ⟨#[62]⟩]) (.int .i64 2)).run Tryz.prog w = .ok (.string ⟨#[60, 62]⟩) w := by kernel_rfl
theorem ix_3 (w : World) : (Instr.index 93 (.agg #[.string ⟨#[60, 61]⟩, .string ⟨#[62, 61]⟩, .string ⟨#[60, 62]⟩, .string ⟨#[124, 124]⟩, .string ⟨#[40]⟩, .string ⟨#[41]⟩, .string ⟨#[44]⟩, .string ⟨#[59]⟩, .string ⟨#[46]⟩, .string ⟨#[42]⟩, .string ⟨#[43]⟩, .string ⟨#[45]⟩, .string ⟨#[47]⟩, .string ⟨#[61]⟩, .string ⟨#[60]⟩, .string ⟨#[62]⟩]) (.int .i64 3)).run Tryz.prog w = .ok (.string ⟨#[124, 124]⟩) w := by kernel_rfl
theorem ix_4 (w : World) : (Instr.index 93 (.agg #[.string ⟨#[60, 61]⟩, .string ⟨#[62, 61]⟩, .string ⟨#[60, 62]⟩, .string ⟨#[124, 124]⟩, .string ⟨#[40]⟩, .string ⟨#[41]⟩, .string ⟨#[44]⟩, .string ⟨#[59]⟩, .string ⟨#[46]⟩, .string ⟨#[42]⟩, .string ⟨#[43]⟩, .string ⟨#[45]⟩, .string ⟨#[47]⟩, .string ⟨#[61]⟩, .string ⟨#[60]⟩, .string ⟨#[62]⟩]) (.int .i64 4)).run Tryz.prog w = .ok (.string ⟨#[40]⟩) w := by kernel_rfl
theorem ix_5 (w : World) : (Instr.index 93 (.agg #[.string ⟨#[60, 61]⟩, .string ⟨#[62, 61]⟩, .string ⟨#[60, 62]⟩, .string ⟨#[124, 124]⟩, .string ⟨#[40]⟩, .string ⟨#[41]⟩, .string ⟨#[44]⟩, .string ⟨#[59]⟩, .string ⟨#[46]⟩, .string ⟨#[42]⟩, .string ⟨#[43]⟩, .string ⟨#[45]⟩, .string ⟨#[47]⟩, .string ⟨#[61]⟩, .string ⟨#[60]⟩, .string ⟨#[62]⟩]) (.int .i64 5)).run Tryz.prog w = .ok (.string ⟨#[41]⟩) w := by kernel_rfl
theorem ix_6 (w : World) : (Instr.index 93 (.agg #[.string ⟨#[60, 61]⟩, .string ⟨#[62, 61]⟩, .string ⟨#[60, 62]⟩, .string ⟨#[124, 124]⟩, .string ⟨#[40]⟩, .string ⟨#[41]⟩, .string ⟨#[44]⟩, .string ⟨#[59]⟩, .string ⟨#[46]⟩, .string ⟨#[42]⟩, .string ⟨#[43]⟩, .string ⟨#[45]⟩, .string ⟨#[47]⟩, .string ⟨#[61]⟩, .string ⟨#[60]⟩, .string ⟨#[62]⟩]) (.int .i64 6)).run Tryz.prog w = .ok (.string ⟨#[44]⟩) w := by kernel_rfl
theorem ix_7 (w : World) : (Instr.index 93 (.agg #[.string ⟨#[60, 61]⟩, .string ⟨#[62, 61]⟩, .string ⟨#[60, 62]⟩, .string ⟨#[124, 124]⟩, .string ⟨#[40]⟩, .string ⟨#[41]⟩, .string ⟨#[44]⟩, .string ⟨#[59]⟩, .string ⟨#[46]⟩, .string ⟨#[42]⟩, .string ⟨#[43]⟩, .string ⟨#[45]⟩, .string ⟨#[47]⟩, .string ⟨#[61]⟩, .string ⟨#[60]⟩, .string ⟨#[62]⟩]) (.int .i64 7)).run Tryz.prog w = .ok (.string ⟨#[59]⟩) w := by kernel_rfl
theorem ix_8 (w : World) : (Instr.index 93 (.agg #[.string ⟨#[60, 61]⟩, .string ⟨#[62, 61]⟩, .string ⟨#[60, 62]⟩, .string ⟨#[124, 124]⟩, .string ⟨#[40]⟩, .string ⟨#[41]⟩, .string ⟨#[44]⟩, .string ⟨#[59]⟩, .string ⟨#[46]⟩, .string ⟨#[42]⟩, .string ⟨#[43]⟩, .string ⟨#[45]⟩, .string ⟨#[47]⟩, .string ⟨#[61]⟩, .string ⟨#[60]⟩, .string ⟨#[62]⟩]) (.int .i64 8)).run Tryz.prog w = .ok (.string ⟨#[46]⟩) w := by kernel_rfl
theorem ix_9 (w : World) : (Instr.index 93 (.agg #[.string ⟨#[60, 61]⟩, .string ⟨#[62, 61]⟩, .string ⟨#[60, 62]⟩, .string ⟨#[124, 124]⟩, .string ⟨#[40]⟩, .string ⟨#[41]⟩, .string ⟨#[44]⟩, .string ⟨#[59]⟩, .string ⟨#[46]⟩, .string ⟨#[42]⟩, .string ⟨#[43]⟩, .string ⟨#[45]⟩, .string ⟨#[47]⟩, .string ⟨#[61]⟩, .string ⟨#[60]⟩, .string ⟨#[62]⟩]) (.int .i64 9)).run Tryz.prog w = .ok (.string ⟨#[42]⟩) w := by kernel_rfl
theorem ix_10 (w : World) : (Instr.index 93 (.agg #[.string ⟨#[60, 61]⟩, .string ⟨#[62, 61]⟩, .string ⟨#[60, 62]⟩, .string ⟨#[124, 124]⟩, .string ⟨#[40]⟩, .string ⟨#[41]⟩, .string ⟨#[44]⟩, .string ⟨#[59]⟩, .string ⟨#[46]⟩, .string ⟨#[42]⟩, .string ⟨#[43]⟩, .string ⟨#[45]⟩, .string ⟨#[47]⟩, .string ⟨#[61]⟩, .string ⟨#[60]⟩, .string ⟨#[62]⟩]) (.int .i64 10)).run Tryz.prog w = .ok (.string ⟨#[43]⟩) w := by kernel_rfl
theorem ix_11 (w : World) : (Instr.index 93 (.agg #[.string ⟨#[60, 61]⟩, .string ⟨#[62, 61]⟩, .string ⟨#[60, 62]⟩, .string ⟨#[124, 124]⟩, .string ⟨#[40]⟩, .string ⟨#[41]⟩, .string ⟨#[44]⟩, .string ⟨#[59]⟩, .string ⟨#[46]⟩, .string ⟨#[42]⟩, .string ⟨#[43]⟩, .string ⟨#[45]⟩, .string ⟨#[47]⟩, .string ⟨#[61]⟩, .string ⟨#[60]⟩, .string ⟨#[62]⟩]) (.int .i64 11)).run Tryz.prog w = .ok (.string ⟨#[45]⟩) w := by kernel_rfl
theorem ix_12 (w : World) : (Instr.index 93 (.agg #[.string ⟨#[60, 61]⟩, .string ⟨#[62, 61]⟩, .string ⟨#[60, 62]⟩, .string ⟨#[124, 124]⟩, .string ⟨#[40]⟩, .string ⟨#[41]⟩, .string ⟨#[44]⟩, .string ⟨#[59]⟩, .string ⟨#[46]⟩, .string ⟨#[42]⟩, .string ⟨#[43]⟩, .string ⟨#[45]⟩, .string ⟨#[47]⟩, .string ⟨#[61]⟩, .string ⟨#[60]⟩, .string ⟨#[62]⟩]) (.int .i64 12)).run Tryz.prog w = .ok (.string ⟨#[47]⟩) w := by kernel_rfl
theorem ix_13 (w : World) : (Instr.index 93 (.agg #[.string ⟨#[60, 61]⟩, .string ⟨#[62, 61]⟩, .string ⟨#[60, 62]⟩, .string ⟨#[124, 124]⟩, .string ⟨#[40]⟩, .string ⟨#[41]⟩, .string ⟨#[44]⟩, .string ⟨#[59]⟩, .string ⟨#[46]⟩, .string ⟨#[42]⟩, .string ⟨#[43]⟩, .string ⟨#[45]⟩, .string ⟨#[47]⟩, .string ⟨#[61]⟩, .string ⟨#[60]⟩, .string ⟨#[62]⟩]) (.int .i64 13)).run Tryz.prog w = .ok (.string ⟨#[61]⟩) w := by kernel_rfl
theorem ix_14 (w : World) : (Instr.index 93 (.agg #[.string ⟨#[60, 61]⟩, .string ⟨#[62, 61]⟩, .string ⟨#[60, 62]⟩, .string ⟨#[124, 124]⟩, .string ⟨#[40]⟩, .string ⟨#[41]⟩, .string ⟨#[44]⟩, .string ⟨#[59]⟩, .string ⟨#[46]⟩, .string ⟨#[42]⟩, .string ⟨#[43]⟩, .string ⟨#[45]⟩, .string ⟨#[47]⟩, .string ⟨#[61]⟩, .string ⟨#[60]⟩, .string ⟨#[62]⟩]) (.int .i64 14)).run Tryz.prog w = .ok (.string ⟨#[60]⟩) w := by kernel_rfl
theorem ix_15 (w : World) : (Instr.index 93 (.agg #[.string ⟨#[60, 61]⟩, .string ⟨#[62, 61]⟩, .string ⟨#[60, 62]⟩, .string ⟨#[124, 124]⟩, .string ⟨#[40]⟩, .string ⟨#[41]⟩, .string ⟨#[44]⟩, .string ⟨#[59]⟩, .string ⟨#[46]⟩, .string ⟨#[42]⟩, .string ⟨#[43]⟩, .string ⟨#[45]⟩, .string ⟨#[47]⟩, .string ⟨#[61]⟩, .string ⟨#[60]⟩, .string ⟨#[62]⟩]) (.int .i64 15)).run Tryz.prog w = .ok (.string ⟨#[62]⟩) w := by kernel_rfl
set_option maxHeartbeats 4000000 in
set_option maxRecDepth 1000000 in
theorem signSize_any (l : List UInt8) (w : World) (hG : Sg w) :
    Calls Tryz.prog 54 #[.string ⟨l.toArray⟩] w fun e w' => e = .returned (.int .i64 (ssz l : Nat)) ∧ Below w.heap.size w w' := by
  have HP : Hid (∀ (p : List UInt8) (b : Bool) w, p.isPrefixOf l = b → Calls Tryz.prog 44 #[.string ⟨l.toArray⟩, .string ⟨p.toArray⟩] w fun e w' => e = .returned (.bool b) ∧ w' = w) := fun p b w h => HasPre l p b w h
  have s0 : w.cell? ⟨0, 0, none⟩ = some (.string ⟨#[60, 61]⟩) := hG 0 [60, 61] rfl
  have s1 : w.cell? ⟨0, 1, none⟩ = some (.string ⟨#[62, 61]⟩) := hG 1 [62, 61] rfl
  have s2 : w.cell? ⟨0, 2, none⟩ = some (.string ⟨#[60, 62]⟩) := hG 2 [60, 62] rfl
  have s3 : w.cell? ⟨0, 3, none⟩ = some (.string ⟨#[124, 124]⟩) := hG 3 [124, 124] rfl
  have s4 : w.cell? ⟨0, 4, none⟩ = some (.string ⟨#[40]⟩) := hG 4 [40] rfl
  have s5 : w.cell? ⟨0, 5, none⟩ = some (.string ⟨#[41]⟩) := hG 5 [41] rfl
  have s6 : w.cell? ⟨0, 6, none⟩ = some (.string ⟨#[44]⟩) := hG 6 [44] rfl
  have s7 : w.cell? ⟨0, 7, none⟩ = some (.string ⟨#[59]⟩) := hG 7 [59] rfl
  have s8 : w.cell? ⟨0, 8, none⟩ = some (.string ⟨#[46]⟩) := hG 8 [46] rfl
  have s9 : w.cell? ⟨0, 9, none⟩ = some (.string ⟨#[42]⟩) := hG 9 [42] rfl
  have s10 : w.cell? ⟨0, 10, none⟩ = some (.string ⟨#[43]⟩) := hG 10 [43] rfl
  have s11 : w.cell? ⟨0, 11, none⟩ = some (.string ⟨#[45]⟩) := hG 11 [45] rfl
  have s12 : w.cell? ⟨0, 12, none⟩ = some (.string ⟨#[47]⟩) := hG 12 [47] rfl
  have s13 : w.cell? ⟨0, 13, none⟩ = some (.string ⟨#[61]⟩) := hG 13 [61] rfl
  have s14 : w.cell? ⟨0, 14, none⟩ = some (.string ⟨#[60]⟩) := hG 14 [60] rfl
  have s15 : w.cell? ⟨0, 15, none⟩ = some (.string ⟨#[62]⟩) := hG 15 [62] rfl
  clear hG
  go_enter Tryz.func54, Tryz.ntmps54
  go_wp2_with fail
  clear s0 s1 s2 s3 s4 s5 s6 s7 s8 s9 s10 s11 s12 s13 s14 s15
  go_loopw [6] (fun s6 wr => ∃ (k : Nat), s6 = .int .i64 k ∧ k ≤ 16 ∧ Hid (ssz l = ssF l (sgs.drop k)) ∧ Hid (Below w.heap.size w wr)) (fun s6 _ => 16 - (intOf s6).toNat)
  case atStart => exact ⟨0, rfl, by omega, rfl, Below.refl _ _⟩
  case round =>
    obtain ⟨k, rfl, hk, hg, hbr⟩ := hrel
    have hkc : k = 0 ∨ k = 1 ∨ k = 2 ∨ k = 3 ∨ k = 4 ∨ k = 5 ∨ k = 6 ∨ k = 7 ∨ k = 8 ∨ k = 9 ∨ k = 10 ∨ k = 11 ∨ k = 12 ∨ k = 13 ∨ k = 14 ∨ k = 15 ∨ k = 16 := by omega
    rcases hkc with rfl | rfl | rfl | rfl | rfl | rfl | rfl | rfl | rfl | rfl | rfl | rfl | rfl | rfl | rfl | rfl | rfl
    · cases hp : ([60, 61] : List UInt8).isPrefixOf l with
      | true =>
        have HE : Hid (ssz l = 2) := hg.out.trans (ssF_hit hp)
        have C1 : Hid (∀ w, Calls Tryz.prog 44 #[.string ⟨l.toArray⟩, .string ⟨#[60, 61]⟩] w fun e w' => e = .returned (.bool true) ∧ w' = w) := fun w => HP.out [60, 61] true w hp
        have hix := ix_0 wr
        clear HP hp hg
        go_wp2_with fail
        refine (C1.out _).mono ?_
        rintro e w1 ⟨rfl, hwx⟩
        have hwy := hwx.symm
        subst hwy
        clear C1 hwx
        go_wp2_with fail
        go_ret
        exact ⟨by rw [HE.out]; rfl, hbr.out⟩
      | false =>
        have HE : Hid (ssz l = ssF l (sgs.drop 1)) := hg.out.trans (ssF_miss hp)
        have C1 : Hid (∀ w, Calls Tryz.prog 44 #[.string ⟨l.toArray⟩, .string ⟨#[60, 61]⟩] w fun e w' => e = .returned (.bool false) ∧ w' = w) := fun w => HP.out [60, 61] false w hp
        have hix := ix_0 wr
        clear HP hp hg
        go_wp2_with fail
        refine (C1.out _).mono ?_
        rintro e w1 ⟨rfl, hwx⟩
        have hwy := hwx.symm
        subst hwy
        clear C1 hwx
        go_wp2_with fail
        go_roundw
        case rel => exact ⟨1, by go_num, by omega, HE, hbr⟩
        case measure => simp [intOf]
    · cases hp : ([62, 61] : List UInt8).isPrefixOf l with
      | true =>
        have HE : Hid (ssz l = 2) := hg.out.trans (ssF_hit hp)
        have C1 : Hid (∀ w, Calls Tryz.prog 44 #[.string ⟨l.toArray⟩, .string ⟨#[62, 61]⟩] w fun e w' => e = .returned (.bool true) ∧ w' = w) := fun w => HP.out [62, 61] true w hp
        have hix := ix_1 wr
        clear HP hp hg
        go_wp2_with fail
        refine (C1.out _).mono ?_
        rintro e w1 ⟨rfl, hwx⟩
        have hwy := hwx.symm
        subst hwy
        clear C1 hwx
        go_wp2_with fail
        go_ret
        exact ⟨by rw [HE.out]; rfl, hbr.out⟩
      | false =>
        have HE : Hid (ssz l = ssF l (sgs.drop 2)) := hg.out.trans (ssF_miss hp)
        have C1 : Hid (∀ w, Calls Tryz.prog 44 #[.string ⟨l.toArray⟩, .string ⟨#[62, 61]⟩] w fun e w' => e = .returned (.bool false) ∧ w' = w) := fun w => HP.out [62, 61] false w hp
        have hix := ix_1 wr
        clear HP hp hg
        go_wp2_with fail
        refine (C1.out _).mono ?_
        rintro e w1 ⟨rfl, hwx⟩
        have hwy := hwx.symm
        subst hwy
        clear C1 hwx
        go_wp2_with fail
        go_roundw
        case rel => exact ⟨2, by go_num, by omega, HE, hbr⟩
        case measure => simp [intOf]
    · cases hp : ([60, 62] : List UInt8).isPrefixOf l with
      | true =>
        have HE : Hid (ssz l = 2) := hg.out.trans (ssF_hit hp)
        have C1 : Hid (∀ w, Calls Tryz.prog 44 #[.string ⟨l.toArray⟩, .string ⟨#[60, 62]⟩] w fun e w' => e = .returned (.bool true) ∧ w' = w) := fun w => HP.out [60, 62] true w hp
        have hix := ix_2 wr
        clear HP hp hg
        go_wp2_with fail
        refine (C1.out _).mono ?_
        rintro e w1 ⟨rfl, hwx⟩
        have hwy := hwx.symm
        subst hwy
        clear C1 hwx
        go_wp2_with fail
        go_ret
        exact ⟨by rw [HE.out]; rfl, hbr.out⟩
      | false =>
        have HE : Hid (ssz l = ssF l (sgs.drop 3)) := hg.out.trans (ssF_miss hp)
        have C1 : Hid (∀ w, Calls Tryz.prog 44 #[.string ⟨l.toArray⟩, .string ⟨#[60, 62]⟩] w fun e w' => e = .returned (.bool false) ∧ w' = w) := fun w => HP.out [60, 62] false w hp
        have hix := ix_2 wr
        clear HP hp hg
        go_wp2_with fail
        refine (C1.out _).mono ?_
        rintro e w1 ⟨rfl, hwx⟩
        have hwy := hwx.symm
        subst hwy
        clear C1 hwx
        go_wp2_with fail
        go_roundw
        case rel => exact ⟨3, by go_num, by omega, HE, hbr⟩
        case measure => simp [intOf]
    · cases hp : ([124, 124] : List UInt8).isPrefixOf l with
      | true =>
        have HE : Hid (ssz l = 2) := hg.out.trans (ssF_hit hp)
        have C1 : Hid (∀ w, Calls Tryz.prog 44 #[.string ⟨l.toArray⟩, .string ⟨#[124, 124]⟩] w fun e w' => e = .returned (.bool true) ∧ w' = w) := fun w => HP.out [124, 124] true w hp
        have hix := ix_3 wr
        clear HP hp hg
        go_wp2_with fail
        refine (C1.out _).mono ?_
        rintro e w1 ⟨rfl, hwx⟩
        have hwy := hwx.symm
        subst hwy
        clear C1 hwx
        go_wp2_with fail
        go_ret
        exact ⟨by rw [HE.out]; rfl, hbr.out⟩
      | false =>
        have HE : Hid (ssz l = ssF l (sgs.drop 4)) := hg.out.trans (ssF_miss hp)
        have C1 : Hid (∀ w, Calls Tryz.prog 44 #[.string ⟨l.toArray⟩, .string ⟨#[124, 124]⟩] w fun e w' => e = .returned (.bool false) ∧ w' = w) := fun w => HP.out [124, 124] false w hp
        have hix := ix_3 wr
        clear HP hp hg
        go_wp2_with fail
        refine (C1.out _).mono ?_
        rintro e w1 ⟨rfl, hwx⟩
        have hwy := hwx.symm
        subst hwy
        clear C1 hwx
        go_wp2_with fail
        go_roundw
        case rel => exact ⟨4, by go_num, by omega, HE, hbr⟩
        case measure => simp [intOf]
    · cases hp : ([40] : List UInt8).isPrefixOf l with
      | true =>
        have HE : Hid (ssz l = 1) := hg.out.trans (ssF_hit hp)
        have C1 : Hid (∀ w, Calls Tryz.prog 44 #[.string ⟨l.toArray⟩, .string ⟨#[40]⟩] w fun e w' => e = .returned (.bool true) ∧ w' = w) := fun w => HP.out [40] true w hp
        have hix := ix_4 wr
        clear HP hp hg
        go_wp2_with fail
        refine (C1.out _).mono ?_
        rintro e w1 ⟨rfl, hwx⟩
        have hwy := hwx.symm
        subst hwy
        clear C1 hwx
        go_wp2_with fail
        go_ret
        exact ⟨by rw [HE.out]; rfl, hbr.out⟩
      | false =>
        have HE : Hid (ssz l = ssF l (sgs.drop 5)) := hg.out.trans (ssF_miss hp)
        have C1 : Hid (∀ w, Calls Tryz.prog 44 #[.string ⟨l.toArray⟩, .string ⟨#[40]⟩] w fun e w' => e = .returned (.bool false) ∧ w' = w) := fun w => HP.out [40] false w hp
        have hix := ix_4 wr
        clear HP hp hg
        go_wp2_with fail
        refine (C1.out _).mono ?_
        rintro e w1 ⟨rfl, hwx⟩
        have hwy := hwx.symm
        subst hwy
        clear C1 hwx
        go_wp2_with fail
        go_roundw
        case rel => exact ⟨5, by go_num, by omega, HE, hbr⟩
        case measure => simp [intOf]
    · cases hp : ([41] : List UInt8).isPrefixOf l with
      | true =>
        have HE : Hid (ssz l = 1) := hg.out.trans (ssF_hit hp)
        have C1 : Hid (∀ w, Calls Tryz.prog 44 #[.string ⟨l.toArray⟩, .string ⟨#[41]⟩] w fun e w' => e = .returned (.bool true) ∧ w' = w) := fun w => HP.out [41] true w hp
        have hix := ix_5 wr
        clear HP hp hg
        go_wp2_with fail
        refine (C1.out _).mono ?_
        rintro e w1 ⟨rfl, hwx⟩
        have hwy := hwx.symm
        subst hwy
        clear C1 hwx
        go_wp2_with fail
        go_ret
        exact ⟨by rw [HE.out]; rfl, hbr.out⟩
      | false =>
        have HE : Hid (ssz l = ssF l (sgs.drop 6)) := hg.out.trans (ssF_miss hp)
        have C1 : Hid (∀ w, Calls Tryz.prog 44 #[.string ⟨l.toArray⟩, .string ⟨#[41]⟩] w fun e w' => e = .returned (.bool false) ∧ w' = w) := fun w => HP.out [41] false w hp
        have hix := ix_5 wr
        clear HP hp hg
        go_wp2_with fail
        refine (C1.out _).mono ?_
        rintro e w1 ⟨rfl, hwx⟩
        have hwy := hwx.symm
        subst hwy
        clear C1 hwx
        go_wp2_with fail
        go_roundw
        case rel => exact ⟨6, by go_num, by omega, HE, hbr⟩
        case measure => simp [intOf]
    · cases hp : ([44] : List UInt8).isPrefixOf l with
      | true =>
        have HE : Hid (ssz l = 1) := hg.out.trans (ssF_hit hp)
        have C1 : Hid (∀ w, Calls Tryz.prog 44 #[.string ⟨l.toArray⟩, .string ⟨#[44]⟩] w fun e w' => e = .returned (.bool true) ∧ w' = w) := fun w => HP.out [44] true w hp
        have hix := ix_6 wr
        clear HP hp hg
        go_wp2_with fail
        refine (C1.out _).mono ?_
        rintro e w1 ⟨rfl, hwx⟩
        have hwy := hwx.symm
        subst hwy
        clear C1 hwx
        go_wp2_with fail
        go_ret
        exact ⟨by rw [HE.out]; rfl, hbr.out⟩
      | false =>
        have HE : Hid (ssz l = ssF l (sgs.drop 7)) := hg.out.trans (ssF_miss hp)
        have C1 : Hid (∀ w, Calls Tryz.prog 44 #[.string ⟨l.toArray⟩, .string ⟨#[44]⟩] w fun e w' => e = .returned (.bool false) ∧ w' = w) := fun w => HP.out [44] false w hp
        have hix := ix_6 wr
        clear HP hp hg
        go_wp2_with fail
        refine (C1.out _).mono ?_
        rintro e w1 ⟨rfl, hwx⟩
        have hwy := hwx.symm
        subst hwy
        clear C1 hwx
        go_wp2_with fail
        go_roundw
        case rel => exact ⟨7, by go_num, by omega, HE, hbr⟩
        case measure => simp [intOf]
    · cases hp : ([59] : List UInt8).isPrefixOf l with
      | true =>
        have HE : Hid (ssz l = 1) := hg.out.trans (ssF_hit hp)
        have C1 : Hid (∀ w, Calls Tryz.prog 44 #[.string ⟨l.toArray⟩, .string ⟨#[59]⟩] w fun e w' => e = .returned (.bool true) ∧ w' = w) := fun w => HP.out [59] true w hp
        have hix := ix_7 wr
        clear HP hp hg
        go_wp2_with fail
        refine (C1.out _).mono ?_
        rintro e w1 ⟨rfl, hwx⟩
        have hwy := hwx.symm
        subst hwy
        clear C1 hwx
        go_wp2_with fail
        go_ret
        exact ⟨by rw [HE.out]; rfl, hbr.out⟩
      | false =>
        have HE : Hid (ssz l = ssF l (sgs.drop 8)) := hg.out.trans (ssF_miss hp)
        have C1 : Hid (∀ w, Calls Tryz.prog 44 #[.string ⟨l.toArray⟩, .string ⟨#[59]⟩] w fun e w' => e = .returned (.bool false) ∧ w' = w) := fun w => HP.out [59] false w hp
        have hix := ix_7 wr
        clear HP hp hg
        go_wp2_with fail
        refine (C1.out _).mono ?_
        rintro e w1 ⟨rfl, hwx⟩
        have hwy := hwx.symm
        subst hwy
        clear C1 hwx
        go_wp2_with fail
        go_roundw
        case rel => exact ⟨8, by go_num, by omega, HE, hbr⟩
        case measure => simp [intOf]
    · cases hp : ([46] : List UInt8).isPrefixOf l with
      | true =>
        have HE : Hid (ssz l = 1) := hg.out.trans (ssF_hit hp)
        have C1 : Hid (∀ w, Calls Tryz.prog 44 #[.string ⟨l.toArray⟩, .string ⟨#[46]⟩] w fun e w' => e = .returned (.bool true) ∧ w' = w) := fun w => HP.out [46] true w hp
        have hix := ix_8 wr
        clear HP hp hg
        go_wp2_with fail
        refine (C1.out _).mono ?_
        rintro e w1 ⟨rfl, hwx⟩
        have hwy := hwx.symm
        subst hwy
        clear C1 hwx
        go_wp2_with fail
        go_ret
        exact ⟨by rw [HE.out]; rfl, hbr.out⟩
      | false =>
        have HE : Hid (ssz l = ssF l (sgs.drop 9)) := hg.out.trans (ssF_miss hp)
        have C1 : Hid (∀ w, Calls Tryz.prog 44 #[.string ⟨l.toArray⟩, .string ⟨#[46]⟩] w fun e w' => e = .returned (.bool false) ∧ w' = w) := fun w => HP.out [46] false w hp
        have hix := ix_8 wr
        clear HP hp hg
        go_wp2_with fail
        refine (C1.out _).mono ?_
        rintro e w1 ⟨rfl, hwx⟩
        have hwy := hwx.symm
        subst hwy
        clear C1 hwx
        go_wp2_with fail
        go_roundw
        case rel => exact ⟨9, by go_num, by omega, HE, hbr⟩
        case measure => simp [intOf]
    · cases hp : ([42] : List UInt8).isPrefixOf l with
      | true =>
        have HE : Hid (ssz l = 1) := hg.out.trans (ssF_hit hp)
        have C1 : Hid (∀ w, Calls Tryz.prog 44 #[.string ⟨l.toArray⟩, .string ⟨#[42]⟩] w fun e w' => e = .returned (.bool true) ∧ w' = w) := fun w => HP.out [42] true w hp
        have hix := ix_9 wr
        clear HP hp hg
        go_wp2_with fail
        refine (C1.out _).mono ?_
        rintro e w1 ⟨rfl, hwx⟩
        have hwy := hwx.symm
        subst hwy
        clear C1 hwx
        go_wp2_with fail
        go_ret
        exact ⟨by rw [HE.out]; rfl, hbr.out⟩
      | false =>
        have HE : Hid (ssz l = ssF l (sgs.drop 10)) := hg.out.trans (ssF_miss hp)
        have C1 : Hid (∀ w, Calls Tryz.prog 44 #[.string ⟨l.toArray⟩, .string ⟨#[42]⟩] w fun e w' => e = .returned (.bool false) ∧ w' = w) := fun w => HP.out [42] false w hp
        have hix := ix_9 wr
        clear HP hp hg
        go_wp2_with fail
        refine (C1.out _).mono ?_
        rintro e w1 ⟨rfl, hwx⟩
        have hwy := hwx.symm
        subst hwy
        clear C1 hwx
        go_wp2_with fail
        go_roundw
        case rel => exact ⟨10, by go_num, by omega, HE, hbr⟩
        case measure => simp [intOf]
    · cases hp : ([43] : List UInt8).isPrefixOf l with
      | true =>
        have HE : Hid (ssz l = 1) := hg.out.trans (ssF_hit hp)
        have C1 : Hid (∀ w, Calls Tryz.prog 44 #[.string ⟨l.toArray⟩, .string ⟨#[43]⟩] w fun e w' => e = .returned (.bool true) ∧ w' = w) := fun w => HP.out [43] true w hp
        have hix := ix_10 wr
        clear HP hp hg
        go_wp2_with fail
        refine (C1.out _).mono ?_
        rintro e w1 ⟨rfl, hwx⟩
        have hwy := hwx.symm
        subst hwy
        clear C1 hwx
        go_wp2_with fail
        go_ret
        exact ⟨by rw [HE.out]; rfl, hbr.out⟩
      | false =>
        have HE : Hid (ssz l = ssF l (sgs.drop 11)) := hg.out.trans (ssF_miss hp)
        have C1 : Hid (∀ w, Calls Tryz.prog 44 #[.string ⟨l.toArray⟩, .string ⟨#[43]⟩] w fun e w' => e = .returned (.bool false) ∧ w' = w) := fun w => HP.out [43] false w hp
        have hix := ix_10 wr
        clear HP hp hg
        go_wp2_with fail
        refine (C1.out _).mono ?_
        rintro e w1 ⟨rfl, hwx⟩
        have hwy := hwx.symm
        subst hwy
        clear C1 hwx
        go_wp2_with fail
        go_roundw
        case rel => exact ⟨11, by go_num, by omega, HE, hbr⟩
        case measure => simp [intOf]
    · cases hp : ([45] : List UInt8).isPrefixOf l with
      | true =>
        have HE : Hid (ssz l = 1) := hg.out.trans (ssF_hit hp)
        have C1 : Hid (∀ w, Calls Tryz.prog 44 #[.string ⟨l.toArray⟩, .string ⟨#[45]⟩] w fun e w' => e = .returned (.bool true) ∧ w' = w) := fun w => HP.out [45] true w hp
        have hix := ix_11 wr
        clear HP hp hg
        go_wp2_with fail
        refine (C1.out _).mono ?_
        rintro e w1 ⟨rfl, hwx⟩
        have hwy := hwx.symm
        subst hwy
        clear C1 hwx
        go_wp2_with fail
        go_ret
        exact ⟨by rw [HE.out]; rfl, hbr.out⟩
      | false =>
        have HE : Hid (ssz l = ssF l (sgs.drop 12)) := hg.out.trans (ssF_miss hp)
        have C1 : Hid (∀ w, Calls Tryz.prog 44 #[.string ⟨l.toArray⟩, .string ⟨#[45]⟩] w fun e w' => e = .returned (.bool false) ∧ w' = w) := fun w => HP.out [45] false w hp
        have hix := ix_11 wr
        clear HP hp hg
        go_wp2_with fail
        refine (C1.out _).mono ?_
        rintro e w1 ⟨rfl, hwx⟩
        have hwy := hwx.symm
        subst hwy
        clear C1 hwx
        go_wp2_with fail
        go_roundw
        case rel => exact ⟨12, by go_num, by omega, HE, hbr⟩
        case measure => simp [intOf]
    · cases hp : ([47] : List UInt8).isPrefixOf l with
      | true =>
        have HE : Hid (ssz l = 1) := hg.out.trans (ssF_hit hp)
        have C1 : Hid (∀ w, Calls Tryz.prog 44 #[.string ⟨l.toArray⟩, .string ⟨#[47]⟩] w fun e w' => e = .returned (.bool true) ∧ w' = w) := fun w => HP.out [47] true w hp
        have hix := ix_12 wr
        clear HP hp hg
        go_wp2_with fail
        refine (C1.out _).mono ?_
        rintro e w1 ⟨rfl, hwx⟩
        have hwy := hwx.symm
        subst hwy
        clear C1 hwx
        go_wp2_with fail
        go_ret
        exact ⟨by rw [HE.out]; rfl, hbr.out⟩
      | false =>
        have HE : Hid (ssz l = ssF l (sgs.drop 13)) := hg.out.trans (ssF_miss hp)
        have C1 : Hid (∀ w, Calls Tryz.prog 44 #[.string ⟨l.toArray⟩, .string ⟨#[47]⟩] w fun e w' => e = .returned (.bool false) ∧ w' = w) := fun w => HP.out [47] false w hp
        have hix := ix_12 wr
        clear HP hp hg
        go_wp2_with fail
        refine (C1.out _).mono ?_
        rintro e w1 ⟨rfl, hwx⟩
        have hwy := hwx.symm
        subst hwy
        clear C1 hwx
        go_wp2_with fail
        go_roundw
        case rel => exact ⟨13, by go_num, by omega, HE, hbr⟩
        case measure => simp [intOf]
    · cases hp : ([61] : List UInt8).isPrefixOf l with
      | true =>
        have HE : Hid (ssz l = 1) := hg.out.trans (ssF_hit hp)
        have C1 : Hid (∀ w, Calls Tryz.prog 44 #[.string ⟨l.toArray⟩, .string ⟨#[61]⟩] w fun e w' => e = .returned (.bool true) ∧ w' = w) := fun w => HP.out [61] true w hp
        have hix := ix_13 wr
        clear HP hp hg
        go_wp2_with fail
        refine (C1.out _).mono ?_
        rintro e w1 ⟨rfl, hwx⟩
        have hwy := hwx.symm
        subst hwy
        clear C1 hwx
        go_wp2_with fail
        go_ret
        exact ⟨by rw [HE.out]; rfl, hbr.out⟩
      | false =>
        have HE : Hid (ssz l = ssF l (sgs.drop 14)) := hg.out.trans (ssF_miss hp)
        have C1 : Hid (∀ w, Calls Tryz.prog 44 #[.string ⟨l.toArray⟩, .string ⟨#[61]⟩] w fun e w' => e = .returned (.bool false) ∧ w' = w) := fun w => HP.out [61] false w hp
        have hix := ix_13 wr
        clear HP hp hg
        go_wp2_with fail
        refine (C1.out _).mono ?_
        rintro e w1 ⟨rfl, hwx⟩
        have hwy := hwx.symm
        subst hwy
        clear C1 hwx
        go_wp2_with fail
        go_roundw
        case rel => exact ⟨14, by go_num, by omega, HE, hbr⟩
        case measure => simp [intOf]
    · cases hp : ([60] : List UInt8).isPrefixOf l with
      | true =>
        have HE : Hid (ssz l = 1) := hg.out.trans (ssF_hit hp)
        have C1 : Hid (∀ w, Calls Tryz.prog 44 #[.string ⟨l.toArray⟩, .string ⟨#[60]⟩] w fun e w' => e = .returned (.bool true) ∧ w' = w) := fun w => HP.out [60] true w hp
        have hix := ix_14 wr
        clear HP hp hg
        go_wp2_with fail
        refine (C1.out _).mono ?_
        rintro e w1 ⟨rfl, hwx⟩
        have hwy := hwx.symm
        subst hwy
        clear C1 hwx
        go_wp2_with fail
        go_ret
        exact ⟨by rw [HE.out]; rfl, hbr.out⟩
      | false =>
        have HE : Hid (ssz l = ssF l (sgs.drop 15)) := hg.out.trans (ssF_miss hp)
        have C1 : Hid (∀ w, Calls Tryz.prog 44 #[.string ⟨l.toArray⟩, .string ⟨#[60]⟩] w fun e w' => e = .returned (.bool false) ∧ w' = w) := fun w => HP.out [60] false w hp
        have hix := ix_14 wr
        clear HP hp hg
        go_wp2_with fail
        refine (C1.out _).mono ?_
        rintro e w1 ⟨rfl, hwx⟩
        have hwy := hwx.symm
        subst hwy
        clear C1 hwx
        go_wp2_with fail
        go_roundw
        case rel => exact ⟨15, by go_num, by omega, HE, hbr⟩
        case measure => simp [intOf]
    · cases hp : ([62] : List UInt8).isPrefixOf l with
      | true =>
        have HE : Hid (ssz l = 1) := hg.out.trans (ssF_hit hp)
        have C1 : Hid (∀ w, Calls Tryz.prog 44 #[.string ⟨l.toArray⟩, .string ⟨#[62]⟩] w fun e w' => e = .returned (.bool true) ∧ w' = w) := fun w => HP.out [62] true w hp
        have hix := ix_15 wr
        clear HP hp hg
        go_wp2_with fail
        refine (C1.out _).mono ?_
        rintro e w1 ⟨rfl, hwx⟩
        have hwy := hwx.symm
        subst hwy
        clear C1 hwx
        go_wp2_with fail
        go_ret
        exact ⟨by rw [HE.out]; rfl, hbr.out⟩
      | false =>
        have HE : Hid (ssz l = ssF l (sgs.drop 16)) := hg.out.trans (ssF_miss hp)
        have C1 : Hid (∀ w, Calls Tryz.prog 44 #[.string ⟨l.toArray⟩, .string ⟨#[62]⟩] w fun e w' => e = .returned (.bool false) ∧ w' = w) := fun w => HP.out [62] false w hp
        have hix := ix_15 wr
        clear HP hp hg
        go_wp2_with fail
        refine (C1.out _).mono ?_
        rintro e w1 ⟨rfl, hwx⟩
        have hwy := hwx.symm
        subst hwy
        clear C1 hwx
        go_wp2_with fail
        go_roundw
        case rel => exact ⟨16, by go_num, by omega, HE, hbr⟩
        case measure => simp [intOf]
    · have HE : Hid (ssz l = 0) := hg.out
      clear HP hg
      go_wp2_with fail
      go_ret
      exact ⟨by rw [HE.out]; rfl, hbr.out⟩
theorem readSign_any (l : List UInt8) (w : World) (hG : Sg w) :
    Calls Tryz.prog 86 #[.string ⟨l.toArray⟩] w fun e w' => e = .returned (pcv (rdS l)) ∧ Below w.heap.size w w' := readSign_of l w (fun w h => signSize_any l w h) hG
end Go.Proofs.YtfcolecglobcdaaGreatDoor
