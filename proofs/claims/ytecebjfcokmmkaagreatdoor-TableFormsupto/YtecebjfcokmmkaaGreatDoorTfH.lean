/-
  The walk of table.Check.
-/
import Derived.Test.YtecebjfcokmmkaaGreatDoorTfG
namespace Go.Proofs.YtecebjfcokmmkaaGreatDoor
open Go.RowKit Go.Shelf
set_option maxRecDepth 100000

theorem eg_0 : ∀ args w, (callFunc 20 args).run Tryz.prog w = .ok (.enter 20 args) w := enters_of Tryz.func20 (by kernel_rfl) rfl
theorem eg_1 : ∀ args w, (callFunc 21 args).run Tryz.prog w = .ok (.enter 21 args) w := enters_of Tryz.func21 (by kernel_rfl) rfl
theorem eg_2 : ∀ args w, (callFunc 22 args).run Tryz.prog w = .ok (.enter 22 args) w := enters_of Tryz.func22 (by kernel_rfl) rfl
theorem eg_3 : ∀ args w, (callFunc 23 args).run Tryz.prog w = .ok (.enter 23 args) w := enters_of Tryz.func23 (by kernel_rfl) rfl
set_option maxHeartbeats 4000000 in
set_option maxRecDepth 1000000 in
theorem Check_tb (t : Tb) (P Q : Option Addr) (C D : Nat) (w : World) (hin : tbIn w t P Q) (hC : t.cs.length ≤ C) (hD : t.ks.length ≤ D) (hG : tbG t) (hT : Tabs w) :
    Calls Tryz.prog 6 #[tbV t P Q C D] w fun e w' => e = .returned (.int .i64 (tbK t)) ∧ Below w.heap.size w w' := by
  have hb1 : ∀ o, Below w.heap.size w (w.alloc o) := fun o => (Below.refl _ w).alloc (Nat.le_refl _) o
  obtain ⟨W0, hW0⟩ : ∃ W0, W0 = w.alloc (.cells #[.string t.nm, .slice P t.cs.length C, .slice Q t.ks.length D, .int .i64 t.pa, .int .i64 t.mo] 25) := ⟨_, rfl⟩
  have B0 : Below w.heap.size w W0 := by rw [hW0]; exact hb1 _
  have k0 : W0.cell? ⟨w.heap.size, 0, none⟩ = some (.string t.nm) := by rw [hW0]; simp
  have k1 : W0.cell? ⟨w.heap.size, 1, none⟩ = some (.slice P t.cs.length C) := by rw [hW0]; simp
  have k2 : W0.cell? ⟨w.heap.size, 2, none⟩ = some (.slice Q t.ks.length D) := by rw [hW0]; simp
  have k3 : W0.cell? ⟨w.heap.size, 3, none⟩ = some (.int .i64 t.pa) := by rw [hW0]; simp
  have k4 : W0.cell? ⟨w.heap.size, 4, none⟩ = some (.int .i64 t.mo) := by rw [hW0]; simp
  have z0 : w.heap.size < W0.heap.size := by rw [hW0]; simp
  have IN : Hid (Calls Tryz.prog 19 #[.string t.nm] W0 fun e w' => e = .returned (.bool (nmK t.nm)) ∧ Below W0.heap.size W0 w') := isName_any t.nm W0 hG.1 (hT.below B0)
  have HT := mkHid (hT.below B0)
  have HI := mkHid (hin.below B0)
  have HG := mkHid hG
  clear hin hT hG hb1
  have eT : tbK t = if nmK t.nm = false then 6 else if ¬ ckCols t = 0 then ckCols t else if ¬ ckKeys t = 0 then ckKeys t else if ¬ ckPrim t = 0 then ckPrim t else ckNum t := rfl
  generalize nmK t.nm = N at *
  cases N
  · rw [if_pos rfl] at eT
    rw [eT]
    subst hW0
    clear eT
    go_enter Tryz.func6, Tryz.ntmps6
    go_wp2_with (go_at_call 19; refine IN.out.mono ?_; rintro e w1 ⟨rfl, hb⟩)
    go_ret
    exact ⟨rfl, B0.trans (hb.mono B0.size)⟩
  · rw [if_neg (by simp)] at eT
    obtain ⟨E, hE⟩ : ∃ E, E = tbK t := ⟨_, rfl⟩
    rw [← hE]
    rw [eT] at hE
    have HE := mkHid hE
    subst hW0
    clear eT hE
    go_enter Tryz.func6, Tryz.ntmps6
    go_wp2_with (go_at_call 19; refine IN.out.mono ?_; rintro e w1 ⟨rfl, hb⟩)
    have b2 := B0
    obtain ⟨W2, hW2⟩ : ∃ W2, W2 = w1.alloc (.cells #[.func (.func 20) #[] #[], .func (.func 21) #[] #[], .func (.func 22) #[] #[], .func (.func 23) #[] #[]] 31) := ⟨_, rfl⟩
    have c0 : W2.cell? ⟨w1.heap.size, 0, none⟩ = some (.func (.func 20) #[] #[]) := by rw [hW2]; simp
    have c1 : W2.cell? ⟨w1.heap.size, 1, none⟩ = some (.func (.func 21) #[] #[]) := by rw [hW2]; simp
    have c2 : W2.cell? ⟨w1.heap.size, 2, none⟩ = some (.func (.func 22) #[] #[]) := by rw [hW2]; simp
    have c3 : W2.cell? ⟨w1.heap.size, 3, none⟩ = some (.func (.func 23) #[] #[]) := by rw [hW2]; simp
    have b12 : Below w1.heap.size w1 W2 := by rw [hW2]; exact (Below.refl _ _).alloc (Nat.le_refl _) _
    have bW := hb.trans (b12.mono hb.size)
    have z2 : w1.heap.size < W2.heap.size := by rw [hW2]; simp
    have zt := Nat.lt_of_lt_of_le z0 bW.size
    have HT2 := mkHid (HT.out.below bW)
    have HI2 := mkHid (HI.out.below bW)
    have t0 := (bW.cell (p := ⟨w.heap.size, 0, none⟩) z0).trans k0
    have t1 := (bW.cell (p := ⟨w.heap.size, 1, none⟩) z0).trans k1
    have t2 := (bW.cell (p := ⟨w.heap.size, 2, none⟩) z0).trans k2
    have t3 := (bW.cell (p := ⟨w.heap.size, 3, none⟩) z0).trans k3
    have t4 := (bW.cell (p := ⟨w.heap.size, 4, none⟩) z0).trans k4
    have BW : Hid (Below w.heap.size w W2) := B0.trans (bW.mono B0.size)
    have C0 : Hid (∀ W, tbIn W t P Q → Tabs W → Calls Tryz.prog 20 #[tbV t P Q C D] W fun e w' => e = .returned (.int .i64 (ckCols t)) ∧ Below W.heap.size W w') := fun W h hT => checkCols_any t P Q C D W h.1 hC HG.out hT
    have C1 : Hid (∀ W, tbIn W t P Q → Tabs W → Calls Tryz.prog 21 #[tbV t P Q C D] W fun e w' => e = .returned (.int .i64 (ckKeys t)) ∧ Below W.heap.size W w') := fun W h hT => checkKeys_any t P Q C D W h.2 hD HG.out hT
    have C2 : Hid (∀ W, tbIn W t P Q → ckKeys t = 0 → Calls Tryz.prog 22 #[tbV t P Q C D] W fun e w' => e = .returned (.int .i64 (ckPrim t)) ∧ Below W.heap.size W w') := fun W h q => checkPrimary_any t P Q C D W h q
    have C3 : Hid (∀ W, tbIn W t P Q → ckKeys t = 0 → Calls Tryz.prog 23 #[tbV t P Q C D] W fun e w' => e = .returned (.int .i64 (ckNum t)) ∧ Below W.heap.size W w') := fun W h q => checkNumbers_any t P Q C D W h q
    rw [← hW2]
    have HW := mkHid hW2
    clear hW2 b12 hb IN k0 k1 k2 k3 k4 bW b2
    go_loopw [4, 5, 12] (fun _ _ s wr => ∃ k : Nat, s = .int .i64 k ∧ k ≤ 4 ∧ Hid ((1 ≤ k → ckCols t = 0) ∧ (2 ≤ k → ckKeys t = 0) ∧ (3 ≤ k → ckPrim t = 0) ∧ (4 ≤ k → ckNum t = 0)) ∧ Below W2.heap.size W2 wr) (fun _ _ s _ => 4 - (intOf s).toNat)
    case atStart => exact ⟨0, rfl, Nat.zero_le _, ⟨fun h => absurd h (by decide), fun h => absurd h (by decide), fun h => absurd h (by decide), fun h => absurd h (by decide)⟩, Below.refl _ _⟩
    case round =>
      obtain ⟨k, rfl, hk, hd, hb⟩ := hrel
      have T := HT2.out.below hb
      have HT3 := mkHid T
      have HI3 := mkHid (HI2.out.below hb)
      have u0 := (hb.cell (p := ⟨w.heap.size, 0, none⟩) zt).trans t0
      have u1 := (hb.cell (p := ⟨w.heap.size, 1, none⟩) zt).trans t1
      have u2 := (hb.cell (p := ⟨w.heap.size, 2, none⟩) zt).trans t2
      have u3 := (hb.cell (p := ⟨w.heap.size, 3, none⟩) zt).trans t3
      have u4 := (hb.cell (p := ⟨w.heap.size, 4, none⟩) zt).trans t4
      rcases (show k = 0 ∨ k = 1 ∨ k = 2 ∨ k = 3 ∨ k = 4 by omega) with rfl | rfl | rfl | rfl | rfl
      · have cc := (hb.cell (p := ⟨w1.heap.size, 0, none⟩) z2).trans c0
        have eg := eg_0
        have CC := mkHid (C0.out wr HI3.out HT3.out)
        by_cases hz : ckCols t = 0
        · have h2 : Hid ((1 ≤ 0 + 1 → ckCols t = 0) ∧ (2 ≤ 0 + 1 → ckKeys t = 0) ∧ (3 ≤ 0 + 1 → ckPrim t = 0) ∧ (4 ≤ 0 + 1 → ckNum t = 0)) := ⟨fun _ => hz, fun h => absurd h (by decide), fun h => absurd h (by decide), fun h => absurd h (by decide)⟩
          rw [hz] at CC
          clear hd hz
          go_wp2_with (go_at_fn 20; refine CC.out.mono ?_; rintro e w3 ⟨rfl, hb3⟩)
          go_roundw
          case rel => exact ⟨1, by go_num, by decide, h2, hb.trans (hb3.mono hb.size)⟩
          case measure => simp [intOf]
        · have eE : Hid (E = ckCols t) := by show _ = _; rw [HE.out, if_pos hz]
          generalize ckCols t = G at *
          have hz2 : (G == 0) = false := by rw [beq_eq_false_iff_ne]; exact hz
          have eE2 := eE.out
          subst eE2
          clear hd hz
          go_wp2_with (go_at_fn 20; refine CC.out.mono ?_; rintro e w3 ⟨rfl, hb3⟩)
          go_ret
          exact ⟨rfl, BW.out.trans ((hb.trans (hb3.mono hb.size)).mono BW.out.size)⟩
      · have cc := (hb.cell (p := ⟨w1.heap.size, 1, none⟩) z2).trans c1
        have eg := eg_1
        have CC := mkHid (C1.out wr HI3.out HT3.out)
        by_cases hz : ckKeys t = 0
        · have h2 : Hid ((1 ≤ 1 + 1 → ckCols t = 0) ∧ (2 ≤ 1 + 1 → ckKeys t = 0) ∧ (3 ≤ 1 + 1 → ckPrim t = 0) ∧ (4 ≤ 1 + 1 → ckNum t = 0)) := ⟨fun _ => hd.out.1 (by decide), fun _ => hz, fun h => absurd h (by decide), fun h => absurd h (by decide)⟩
          rw [hz] at CC
          clear hd hz
          go_wp2_with (go_at_fn 21; refine CC.out.mono ?_; rintro e w3 ⟨rfl, hb3⟩)
          go_roundw
          case rel => exact ⟨2, by go_num, by decide, h2, hb.trans (hb3.mono hb.size)⟩
          case measure => simp [intOf]
        · have eE : Hid (E = ckKeys t) := by show _ = _; rw [HE.out, if_neg (fun h => h (hd.out.1 (by decide))), if_pos hz]
          generalize ckKeys t = G at *
          have hz2 : (G == 0) = false := by rw [beq_eq_false_iff_ne]; exact hz
          have eE2 := eE.out
          subst eE2
          clear hd hz
          go_wp2_with (go_at_fn 21; refine CC.out.mono ?_; rintro e w3 ⟨rfl, hb3⟩)
          go_ret
          exact ⟨rfl, BW.out.trans ((hb.trans (hb3.mono hb.size)).mono BW.out.size)⟩
      · have cc := (hb.cell (p := ⟨w1.heap.size, 2, none⟩) z2).trans c2
        have eg := eg_2
        have CC := mkHid (C2.out wr HI3.out (hd.out.2.1 (by decide)))
        by_cases hz : ckPrim t = 0
        · have h2 : Hid ((1 ≤ 2 + 1 → ckCols t = 0) ∧ (2 ≤ 2 + 1 → ckKeys t = 0) ∧ (3 ≤ 2 + 1 → ckPrim t = 0) ∧ (4 ≤ 2 + 1 → ckNum t = 0)) := ⟨fun _ => hd.out.1 (by decide), fun _ => hd.out.2.1 (by decide), fun _ => hz, fun h => absurd h (by decide)⟩
          rw [hz] at CC
          clear hd hz
          go_wp2_with (go_at_fn 22; refine CC.out.mono ?_; rintro e w3 ⟨rfl, hb3⟩)
          go_roundw
          case rel => exact ⟨3, by go_num, by decide, h2, hb.trans (hb3.mono hb.size)⟩
          case measure => simp [intOf]
        · have eE : Hid (E = ckPrim t) := by show _ = _; rw [HE.out, if_neg (fun h => h (hd.out.1 (by decide))), if_neg (fun h => h (hd.out.2.1 (by decide))), if_pos hz]
          generalize ckPrim t = G at *
          have hz2 : (G == 0) = false := by rw [beq_eq_false_iff_ne]; exact hz
          have eE2 := eE.out
          subst eE2
          clear hd hz
          go_wp2_with (go_at_fn 22; refine CC.out.mono ?_; rintro e w3 ⟨rfl, hb3⟩)
          go_ret
          exact ⟨rfl, BW.out.trans ((hb.trans (hb3.mono hb.size)).mono BW.out.size)⟩
      · have cc := (hb.cell (p := ⟨w1.heap.size, 3, none⟩) z2).trans c3
        have eg := eg_3
        have CC := mkHid (C3.out wr HI3.out (hd.out.2.1 (by decide)))
        by_cases hz : ckNum t = 0
        · have h2 : Hid ((1 ≤ 3 + 1 → ckCols t = 0) ∧ (2 ≤ 3 + 1 → ckKeys t = 0) ∧ (3 ≤ 3 + 1 → ckPrim t = 0) ∧ (4 ≤ 3 + 1 → ckNum t = 0)) := ⟨fun _ => hd.out.1 (by decide), fun _ => hd.out.2.1 (by decide), fun _ => hd.out.2.2.1 (by decide), fun _ => hz⟩
          rw [hz] at CC
          clear hd hz
          go_wp2_with (go_at_fn 23; refine CC.out.mono ?_; rintro e w3 ⟨rfl, hb3⟩)
          go_roundw
          case rel => exact ⟨4, by go_num, by decide, h2, hb.trans (hb3.mono hb.size)⟩
          case measure => simp [intOf]
        · have eE : Hid (E = ckNum t) := by show _ = _; rw [HE.out, if_neg (fun h => h (hd.out.1 (by decide))), if_neg (fun h => h (hd.out.2.1 (by decide))), if_neg (fun h => h (hd.out.2.2.1 (by decide)))]
          generalize ckNum t = G at *
          have hz2 : (G == 0) = false := by rw [beq_eq_false_iff_ne]; exact hz
          have eE2 := eE.out
          subst eE2
          clear hd hz
          go_wp2_with (go_at_fn 23; refine CC.out.mono ?_; rintro e w3 ⟨rfl, hb3⟩)
          go_ret
          exact ⟨rfl, BW.out.trans ((hb.trans (hb3.mono hb.size)).mono BW.out.size)⟩
      · have eE : E = 0 := by
          rw [HE.out, if_neg (fun h => h (hd.out.1 (by decide))), if_neg (fun h => h (hd.out.2.1 (by decide))), if_neg (fun h => h (hd.out.2.2.1 (by decide)))]
          exact hd.out.2.2.2 (by decide)
        subst eE
        go_wp2_with fail
        go_ret
        exact ⟨rfl, BW.out.trans (hb.mono BW.out.size)⟩
end Go.Proofs.YtecebjfcokmmkaaGreatDoor
