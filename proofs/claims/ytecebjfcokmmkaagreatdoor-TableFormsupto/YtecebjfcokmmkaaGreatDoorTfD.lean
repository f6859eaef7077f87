/-
  The walks of table.checkCols, checkKeys, hasCols, checkPrimary, checkNumbers and Check.
-/
import Derived.Test.YtecebjfcokmmkaaGreatDoorTfC
namespace Go.Proofs.YtecebjfcokmmkaaGreatDoor
open Go.RowKit Go.Shelf
set_option maxRecDepth 100000

theorem eg_col : ∀ args w, (callFunc 35 args).run Tryz.prog w = .ok (.enter 35 args) w := enters_of Tryz.func35 (by kernel_rfl) rfl
theorem eg_key : ∀ args w, (callFunc 38 args).run Tryz.prog w = .ok (.enter 38 args) w := enters_of Tryz.func38 (by kernel_rfl) rfl
theorem eg_nul : ∀ args w, (callFunc 40 args).run Tryz.prog w = .ok (.enter 40 args) w := enters_of Tryz.func40 (by kernel_rfl) rfl
/-- whether a column's name stands ahead -/
theorem twiceCol (l : List Cl) (k : Nat) (hk : k < l.length) (P : Option Addr) (C : Nat) (c : Cl) (b : Nat) (w : World) (hl : clIn w P l) (hn : l.length ≤ 100000000) (hc : w.cell? ⟨b, 0, none⟩ = some (.string c.nm)) :
    Calls Tryz.prog 34 #[.slice P k C, .func (.func 35) #[] #[.pointer (some ⟨b, 0, none⟩)]] w fun e w' => e = .returned (.bool ((l.take k).any (cnB c.nm))) ∧ Below w.heap.size w w' := by
  have h := ContainsFuncCl (l.take k) P C (cnB c.nm) 35 #[.pointer (some ⟨b, 0, none⟩)] eg_col w (hl.take k) (by rw [List.length_take]; omega) (fun W x _ hb => colName_any x c b W ((hb.cell (p := ⟨b, 0, none⟩) (World.block_lt_of_cell? w _ hc)).trans hc))
  rw [List.length_take, Nat.min_eq_left (by omega)] at h
  exact h
theorem colK_name {ah : List Cl} {c : Cl} (h : ah.any (cnB c.nm) = true ∨ nmK c.nm = false) : colK ah c = 6 := by unfold colK; rw [if_pos h]
theorem colK_type {ah : List Cl} {c : Cl} (h1 : ah.any (cnB c.nm) = false) (h2 : nmK c.nm = true) (h : c.ty < 1 ∨ 4 < c.ty) : colK ah c = 7 := by
  unfold colK; rw [if_neg (by rw [h1, h2]; simp), if_pos h]
theorem colK_most {ah : List Cl} {c : Cl} (h1 : ah.any (cnB c.nm) = false) (h2 : nmK c.nm = true) (h : ¬ (c.ty < 1 ∨ 4 < c.ty)) : colK ah c = if moK c = true then 0 else 1 := by
  unfold colK; rw [if_neg (by rw [h1, h2]; simp), if_neg h]

set_option maxHeartbeats 4000000 in
set_option maxRecDepth 1000000 in
theorem checkCols_any (t : Tb) (P Q : Option Addr) (C D : Nat) (w : World) (hl : clIn w P t.cs) (hC : t.cs.length ≤ C) (hG : tbG t) (hT : Tabs w) :
    Calls Tryz.prog 20 #[tbV t P Q C D] w fun e w' => e = .returned (.int .i64 (ckCols t)) ∧ Below w.heap.size w w' := by
  have hb1 : ∀ o, Below w.heap.size w (w.alloc o) := fun o => (Below.refl _ w).alloc (Nat.le_refl _) o
  by_cases h16 : 16 < t.cs.length
  · rw [show ckCols t = 2 by unfold ckCols; rw [if_pos h16]]
    go_enter Tryz.func20, Tryz.ntmps20
    go_wp2
    go_ret
    exact ⟨rfl, hb1 _⟩
  by_cases h0 : t.cs.length = 0
  · rw [show ckCols t = 1 by unfold ckCols; rw [if_neg h16, if_pos h0]]
    have h0' : ((t.cs.length : Int) == 0) = true := by rw [h0]; rfl
    go_enter Tryz.func20, Tryz.ntmps20
    go_wp2
    go_ret
    exact ⟨rfl, hb1 _⟩
  have h16' : ¬ (16 : Int) < (t.cs.length : Int) := by omega
  have h0' : ((t.cs.length : Int) == 0) = false := by rw [beq_eq_false_iff_ne]; omega
  obtain ⟨E, hE⟩ : ∃ E, E = fe (colI t.cs) 0 (t.cs.length - 0) := ⟨_, rfl⟩
  rw [show ckCols t = E by rw [hE]; unfold ckCols; rw [if_neg h16, if_neg h0]; rfl]
  have HE := mkHid hE
  obtain ⟨W0, hW0⟩ : ∃ W0, W0 = w.alloc (.cells #[.string t.nm, .slice P t.cs.length C, .slice Q t.ks.length D, .int .i64 t.pa, .int .i64 t.mo] 25) := ⟨_, rfl⟩
  have B0 : Below w.heap.size w W0 := by rw [hW0]; exact hb1 _
  have k1 : W0.cell? ⟨w.heap.size, 1, none⟩ = some (.slice P t.cs.length C) := by rw [hW0]; simp
  have z0 : w.heap.size < W0.heap.size := by rw [hW0]; simp
  have HL := mkHid (hl.below B0)
  have HT := mkHid (hT.below B0)
  have HG := mkHid hG
  have HW := mkHid hW0
  clear hE h16 h0 hb1 hl hT hG hW0
  go_enter Tryz.func20, Tryz.ntmps20
  go_wp2_with fail
  go_loopw [3, 4, 5, 17] (fun _ _ _ s17 wr => ∃ k : Nat, s17 = .int .i64 k ∧ k ≤ t.cs.length ∧ Hid (E = fe (colI t.cs) k (t.cs.length - k)) ∧ Below W0.heap.size W0 wr) (fun _ _ _ sk _ => t.cs.length - (intOf sk).toNat)
  case atStart => rw [← HW.out]; exact ⟨0, rfl, Nat.zero_le _, HE, Below.refl _ _⟩
  case round =>
    obtain ⟨k, rfl, hk, hd, hb⟩ := hrel
    have m1 := (hb.cell (p := ⟨w.heap.size, 1, none⟩) z0).trans k1
    by_cases hlt : k < t.cs.length
    · obtain ⟨c, hc⟩ : ∃ c, t.cs[k]? = some c := ⟨t.cs[k], List.getElem?_eq_getElem hlt⟩
      have hl2 := HL.out.below hb
      rcases hl2 with hl2 | ⟨g, o, rfl, hg, hcs⟩
      · rw [hl2] at hc; simp at hc
      obtain ⟨d0, d1, d2, d3⟩ := hcs k c hc
      have HX := mkHid hc
      obtain ⟨W1, hW1⟩ : ∃ W1, W1 = wr.alloc (.cells #[.string c.nm, .int .i64 c.ty, .int .i64 c.mo, .bool c.nn] 52) := ⟨_, rfl⟩
      have b1 : Below wr.heap.size wr W1 := by rw [hW1]; exact (Below.refl _ wr).alloc (Nat.le_refl _) _
      have zr : w.heap.size < wr.heap.size := Nat.lt_of_lt_of_le z0 hb.size
      have n1 := (b1.cell (p := ⟨w.heap.size, 1, none⟩) zr).trans m1
      have e0 : W1.cell? ⟨wr.heap.size, 0, none⟩ = some (.string c.nm) := by rw [hW1]; simp
      have e1 : W1.cell? ⟨wr.heap.size, 1, none⟩ = some (.int .i64 c.ty) := by rw [hW1]; simp
      have e2 : W1.cell? ⟨wr.heap.size, 2, none⟩ = some (.int .i64 c.mo) := by rw [hW1]; simp
      have e3 : W1.cell? ⟨wr.heap.size, 3, none⟩ = some (.bool c.nn) := by rw [hW1]; simp
      have z1 : wr.heap.size < W1.heap.size := by rw [hW1]; simp
      have TC := mkHid (twiceCol t.cs k hlt (some ⟨g, o, none⟩) C c wr.heap.size W1 ((HL.out.below hb).below b1) (by have := HG.out.2.1; omega) e0)
      have IN : Hid (∀ W, Tabs W → Calls Tryz.prog 19 #[.string c.nm] W fun e w' => e = .returned (.bool (nmK c.nm)) ∧ Below W.heap.size W w') := fun W h => isName_any c.nm W (HG.out.2.2.2.1 c (List.mem_of_getElem? hc)) h
      have HM : Hid (∀ W, Calls Tryz.prog 36 #[clV c] W fun e w' => e = .returned (.bool (moK c)) ∧ Below W.heap.size W w') := fun W => hasMost_any c W
      have HI := mkHid (colI_some hc)
      have T1 := mkHid ((HT.out.below hb).below b1)
      have B1 : Hid (Below W0.heap.size W0 W1) := hb.trans (b1.mono hb.size)
      clear hcs hc
      generalize hA : (t.cs.take k).any (cnB c.nm) = A at TC
      have HA := mkHid hA
      clear hA
      subst hW1
      cases A
      · go_wp2_with (go_at_call 34; refine TC.out.mono ?_; rintro e w2 ⟨rfl, hb2⟩; have f0 := (hb2.cell (p := ⟨wr.heap.size, 0, none⟩) z1).trans e0; have f1 := (hb2.cell (p := ⟨wr.heap.size, 1, none⟩) z1).trans e1; have f2 := (hb2.cell (p := ⟨wr.heap.size, 2, none⟩) z1).trans e2; have f3 := (hb2.cell (p := ⟨wr.heap.size, 3, none⟩) z1).trans e3; have z2 := Nat.lt_of_lt_of_le z1 hb2.size; have B2 := mkHid (B1.out.trans (hb2.mono B1.out.size)); have T2 := mkHid (T1.out.below hb2); clear hb2 e0 e1 e2 e3 n1 d0 d1 d2 d3)
        generalize hN : nmK c.nm = N at IN
        have HN := mkHid hN
        clear hN
        cases N
        · refine (IN.out _ T2.out).mono ?_
          rintro e w3 ⟨rfl, hb3⟩
          have hne : colK (t.cs.take k) c = 6 := colK_name (Or.inr HN.out)
          have eE : E = 6 := by rw [hd.out, fe_stop hlt (by rw [HI.out, hne]; decide), HI.out, hne]
          subst eE
          go_wp2_with fail
          go_ret
          exact ⟨rfl, B0.trans ((B2.out.trans (hb3.mono B2.out.size)).mono B0.size)⟩
        · refine (IN.out _ T2.out).mono ?_
          rintro e w3 ⟨rfl, hb3⟩
          have g0 := (hb3.cell (p := ⟨wr.heap.size, 0, none⟩) z2).trans f0
          have g1 := (hb3.cell (p := ⟨wr.heap.size, 1, none⟩) z2).trans f1
          have g2 := (hb3.cell (p := ⟨wr.heap.size, 2, none⟩) z2).trans f2
          have g3 := (hb3.cell (p := ⟨wr.heap.size, 3, none⟩) z2).trans f3
          have B3 := mkHid (B2.out.trans (hb3.mono B2.out.size))
          clear f0 f1 f2 f3 hb3
          by_cases hty : c.ty < 1 ∨ 4 < c.ty
          · have hne : colK (t.cs.take k) c = 7 := colK_type HA.out HN.out hty
            have eE : E = 7 := by rw [hd.out, fe_stop hlt (by rw [HI.out, hne]; decide), HI.out, hne]
            subst eE
            by_cases hty1 : c.ty < 1
            · go_wp2_with fail
              go_ret
              exact ⟨rfl, B0.trans (B3.out.mono B0.size)⟩
            · have hty2 : 4 < c.ty := by omega
              go_wp2_with fail
              go_ret
              exact ⟨rfl, B0.trans (B3.out.mono B0.size)⟩
          · have t1 : ¬ c.ty < 1 := by omega
            have t2 : ¬ 4 < c.ty := by omega
            have hne := colK_most HA.out HN.out hty
            clear hty
            generalize hM : moK c = M at HM hne
            clear hM
            cases M
            · have eE : E = 1 := by rw [hd.out, fe_stop hlt (by rw [HI.out, hne]; decide), HI.out, hne]; rfl
              subst eE
              go_wp2_with (go_at_call 36; refine (HM.out _).mono ?_; rintro e w4 ⟨rfl, hb4⟩)
              go_ret
              exact ⟨rfl, B0.trans ((B3.out.trans (hb4.mono B3.out.size)).mono B0.size)⟩
            · have eE : Hid (E = fe (colI t.cs) (k + 1) (t.cs.length - (k + 1))) := by
                show _ = _
                rw [hd.out, fe_pass hlt (by rw [HI.out, hne]; rfl)]
              clear hd
              go_wp2_with (go_at_call 36; refine (HM.out _).mono ?_; rintro e w4 ⟨rfl, hb4⟩)
              go_roundw
              case rel => exact ⟨k + 1, by go_num, hlt, eE, B3.out.trans (hb4.mono B3.out.size)⟩
              case measure => simp [intOf]; omega
      · go_wp2_with (go_at_call 34; refine TC.out.mono ?_; rintro e w2 ⟨rfl, hb2⟩)
        have hne : colK (t.cs.take k) c = 6 := colK_name (Or.inl HA.out)
        have eE : E = 6 := by rw [hd.out, fe_stop hlt (by rw [HI.out, hne]; decide), HI.out, hne]
        subst eE
        go_ret
        exact ⟨rfl, B0.trans ((B1.out.trans (hb2.mono B1.out.size)).mono B0.size)⟩
    · have eE : E = 0 := by rw [hd.out, fe_end _ _ _ (by omega)]
      subst eE
      go_wp2_with fail
      go_ret
      exact ⟨rfl, B0.trans (hb.mono B0.size)⟩
end Go.Proofs.YtecebjfcokmmkaaGreatDoor
