/-
  The walks of table.checkKeys, checkPrimary, checkNumbers.
-/
import Derived.Test.YtecebjfcokmmkaaGreatDoorTfE
namespace Go.Proofs.YtecebjfcokmmkaaGreatDoor
open Go.RowKit Go.Shelf
set_option maxRecDepth 100000

/-- whether a key's name stands ahead -/
theorem twiceKey (l : List Ky) (k : Nat) (hk : k < l.length) (P : Option Addr) (C : Nat) (nm : ByteArray) (b : Nat) (w : World) (hl : kyIn w P l) (hn : l.length ≤ 100000000) (hc : w.cell? ⟨b, 0, none⟩ = some (.string nm)) :
    Calls Tryz.prog 37 #[.slice P k C, .func (.func 38) #[] #[.pointer (some ⟨b, 0, none⟩)]] w fun e w' => e = .returned (.bool ((l.take k).any (knB nm))) ∧ Below w.heap.size w w' := by
  have h := ContainsFuncKy (l.take k) P C (knB nm) 38 #[.pointer (some ⟨b, 0, none⟩)] eg_key w (hl.take k) (by rw [List.length_take]; omega) (fun W x Q2 C2 _ hb => keyName_any x Q2 C2 nm b W ((hb.cell (p := ⟨b, 0, none⟩) (World.block_lt_of_cell? w _ hc)).trans hc))
  rw [List.length_take, Nat.min_eq_left (by omega)] at h
  exact h
theorem keyK_name {n : Nat} {ah : List Ky} {c : Ky} (h : ah.any (knB c.nm) = true ∨ nmK c.nm = false) : keyK n ah c = 6 := by unfold keyK; rw [if_pos h]
theorem keyK_cols {n : Nat} {ah : List Ky} {c : Ky} (h1 : ah.any (knB c.nm) = false) (h2 : nmK c.nm = true) : keyK n ah c = if kcK n c.cs = true then 0 else 1 := by
  unfold keyK; rw [if_neg (by rw [h1, h2]; simp)]

set_option maxHeartbeats 4000000 in
set_option maxRecDepth 1000000 in
theorem checkKeys_any (t : Tb) (P Q : Option Addr) (C D : Nat) (w : World) (hl : kyIn w Q t.ks) (hD : t.ks.length ≤ D) (hG : tbG t) (hT : Tabs w) :
    Calls Tryz.prog 21 #[tbV t P Q C D] w fun e w' => e = .returned (.int .i64 (ckKeys t)) ∧ Below w.heap.size w w' := by
  have hb1 : ∀ o, Below w.heap.size w (w.alloc o) := fun o => (Below.refl _ w).alloc (Nat.le_refl _) o
  by_cases h16 : 16 < t.ks.length
  · rw [show ckKeys t = 2 by unfold ckKeys; rw [if_pos h16]]
    go_enter Tryz.func21, Tryz.ntmps21
    go_wp2
    go_ret
    exact ⟨rfl, hb1 _⟩
  by_cases h0 : t.ks.length = 0
  · rw [show ckKeys t = 84 by unfold ckKeys; rw [if_neg h16, if_pos h0]]
    have h0' : ((t.ks.length : Int) == 0) = true := by rw [h0]; rfl
    go_enter Tryz.func21, Tryz.ntmps21
    go_wp2
    go_ret
    exact ⟨rfl, hb1 _⟩
  have h16' : ¬ (16 : Int) < (t.ks.length : Int) := by omega
  have h0' : ((t.ks.length : Int) == 0) = false := by rw [beq_eq_false_iff_ne]; omega
  obtain ⟨E, hE⟩ : ∃ E, E = fe (keyI t.cs.length t.ks) 0 (t.ks.length - 0) := ⟨_, rfl⟩
  rw [show ckKeys t = E by rw [hE]; unfold ckKeys; rw [if_neg h16, if_neg h0]; rfl]
  have HE := mkHid hE
  obtain ⟨W0, hW0⟩ : ∃ W0, W0 = w.alloc (.cells #[.string t.nm, .slice P t.cs.length C, .slice Q t.ks.length D, .int .i64 t.pa, .int .i64 t.mo] 25) := ⟨_, rfl⟩
  have B0 : Below w.heap.size w W0 := by rw [hW0]; exact hb1 _
  have k1 : W0.cell? ⟨w.heap.size, 2, none⟩ = some (.slice Q t.ks.length D) := by rw [hW0]; simp
  have k2 : W0.cell? ⟨w.heap.size, 1, none⟩ = some (.slice P t.cs.length C) := by rw [hW0]; simp
  have z0 : w.heap.size < W0.heap.size := by rw [hW0]; simp
  have HL := mkHid (hl.below B0)
  have HT := mkHid (hT.below B0)
  have HG := mkHid hG
  have HW := mkHid hW0
  clear hE h16 h0 hb1 hl hT hG hW0
  go_enter Tryz.func21, Tryz.ntmps21
  go_wp2_with fail
  go_loopw [3, 4, 5, 17] (fun _ _ _ s17 wr => ∃ k : Nat, s17 = .int .i64 k ∧ k ≤ t.ks.length ∧ Hid (E = fe (keyI t.cs.length t.ks) k (t.ks.length - k)) ∧ Below W0.heap.size W0 wr) (fun _ _ _ sk _ => t.ks.length - (intOf sk).toNat)
  case atStart => rw [← HW.out]; exact ⟨0, rfl, Nat.zero_le _, HE, Below.refl _ _⟩
  case round =>
    obtain ⟨k, rfl, hk, hd, hb⟩ := hrel
    have m1 := (hb.cell (p := ⟨w.heap.size, 2, none⟩) z0).trans k1
    have m2 := mkHid ((hb.cell (p := ⟨w.heap.size, 1, none⟩) z0).trans k2)
    by_cases hlt : k < t.ks.length
    · obtain ⟨c, hc⟩ : ∃ c, t.ks[k]? = some c := ⟨t.ks[k], List.getElem?_eq_getElem hlt⟩
      have hl2 := HL.out.below hb
      rcases hl2 with hl2 | ⟨g, o, rfl, hg, hcs⟩
      · rw [hl2] at hc; simp at hc
      obtain ⟨Qk, Ck, d0, d1, d2, hin, _, hCk⟩ := hcs k c hc
      have HX := mkHid hc
      obtain ⟨W1, hW1⟩ : ∃ W1, W1 = wr.alloc (.cells #[.string c.nm, .slice Qk c.cs.length Ck, .bool c.uq] 46) := ⟨_, rfl⟩
      have b1 : Below wr.heap.size wr W1 := by rw [hW1]; exact (Below.refl _ wr).alloc (Nat.le_refl _) _
      have zr : w.heap.size < wr.heap.size := Nat.lt_of_lt_of_le z0 hb.size
      have n1 := (b1.cell (p := ⟨w.heap.size, 2, none⟩) zr).trans m1
      have n2 := mkHid ((b1.cell (p := ⟨w.heap.size, 1, none⟩) zr).trans m2.out)
      have e0 : W1.cell? ⟨wr.heap.size, 0, none⟩ = some (.string c.nm) := by rw [hW1]; simp
      have e1 : W1.cell? ⟨wr.heap.size, 1, none⟩ = some (.slice Qk c.cs.length Ck) := by rw [hW1]; simp
      have e2 : W1.cell? ⟨wr.heap.size, 2, none⟩ = some (.bool c.uq) := by rw [hW1]; simp
      have z1 : wr.heap.size < W1.heap.size := by rw [hW1]; simp
      have zw : w.heap.size < W1.heap.size := by omega
      have TC := mkHid (twiceKey t.ks k hlt (some ⟨g, o, none⟩) D c.nm wr.heap.size W1 ((HL.out.below hb).below b1) (by have := HG.out.2.2.1; omega) e0)
      have IN : Hid (∀ W, Tabs W → Calls Tryz.prog 19 #[.string c.nm] W fun e w' => e = .returned (.bool (nmK c.nm)) ∧ Below W.heap.size W w') := fun W h => isName_any c.nm W (HG.out.2.2.2.2 c (List.mem_of_getElem? hc)).1 h
      have HM : Hid (∀ W, inIn W Qk c.cs → Calls Tryz.prog 39 #[kyV c Qk Ck, .int .i64 (t.cs.length : Int)] W fun e w' => e = .returned (.bool (kcK t.cs.length c.cs)) ∧ Below W.heap.size W w') := fun W h => hasCols_any c Qk Ck t.cs.length W h hCk (HG.out.2.2.2.2 c (List.mem_of_getElem? hc)).2
      have HI := mkHid (keyI_some (n := t.cs.length) hc)
      have T1 := mkHid ((HT.out.below hb).below b1)
      have I1 := mkHid (hin.below b1)
      have B1 : Hid (Below W0.heap.size W0 W1) := hb.trans (b1.mono hb.size)
      clear hcs hc hin hCk m2
      generalize hA : (t.ks.take k).any (knB c.nm) = A at TC
      have HA := mkHid hA
      clear hA
      subst hW1
      cases A
      · go_wp2_with (go_at_call 37; refine TC.out.mono ?_; rintro e w2 ⟨rfl, hb2⟩; have f0 := (hb2.cell (p := ⟨wr.heap.size, 0, none⟩) z1).trans e0; have f1 := (hb2.cell (p := ⟨wr.heap.size, 1, none⟩) z1).trans e1; have f2 := (hb2.cell (p := ⟨wr.heap.size, 2, none⟩) z1).trans e2; have f3 := mkHid ((hb2.cell (p := ⟨w.heap.size, 1, none⟩) zw).trans n2.out); have z2 := Nat.lt_of_lt_of_le z1 hb2.size; have zw2 := Nat.lt_of_lt_of_le zw hb2.size; have B2 := mkHid (B1.out.trans (hb2.mono B1.out.size)); have T2 := mkHid (T1.out.below hb2); have I2 := mkHid (I1.out.below hb2); clear hb2 e0 e1 e2 n1 n2 d0 d1 d2)
        generalize hN : nmK c.nm = N at IN
        have HN := mkHid hN
        clear hN
        cases N
        · refine (IN.out _ T2.out).mono ?_
          rintro e w3 ⟨rfl, hb3⟩
          have hne : keyK t.cs.length (t.ks.take k) c = 6 := keyK_name (Or.inr HN.out)
          have eE : E = 6 := by rw [hd.out, fe_stop hlt (by rw [HI.out, hne]; decide), HI.out, hne]
          subst eE
          go_wp2_with fail
          go_ret
          exact ⟨rfl, B0.trans ((B2.out.trans (hb3.mono B2.out.size)).mono B0.size)⟩
        · refine (IN.out _ T2.out).mono ?_
          rintro e w3 ⟨rfl, hb3⟩
          have g0 := (hb3.cell (p := ⟨wr.heap.size, 0, none⟩) z2).trans f0
          have g1 := (hb3.cell (p := ⟨wr.heap.size, 1, none⟩) z2).trans f1
          have g2 := (hb3.cell (p := ⟨wr.heap.size, 2, none⟩) z2).trans f2
          have g3 := (hb3.cell (p := ⟨w.heap.size, 1, none⟩) zw2).trans f3.out
          have B3 := mkHid (B2.out.trans (hb3.mono B2.out.size))
          have I3 := mkHid (I2.out.below hb3)
          clear f0 f1 f2 f3 hb3
          have hne := keyK_cols (n := t.cs.length) HA.out HN.out
          generalize hM : kcK t.cs.length c.cs = M at HM hne
          clear hM
          cases M
          · have eE : E = 1 := by rw [hd.out, fe_stop hlt (by rw [HI.out, hne]; decide), HI.out, hne]; rfl
            subst eE
            clear hne
            go_wp2_with (go_at_call 39; refine (HM.out _ I3.out).mono ?_; rintro e w4 ⟨rfl, hb4⟩)
            go_ret
            exact ⟨rfl, B0.trans ((B3.out.trans (hb4.mono B3.out.size)).mono B0.size)⟩
          · have eE : Hid (E = fe (keyI t.cs.length t.ks) (k + 1) (t.ks.length - (k + 1))) := by
              show _ = _
              rw [hd.out, fe_pass hlt (by rw [HI.out, hne]; rfl)]
            clear hd hne
            go_wp2_with (go_at_call 39; refine (HM.out _ I3.out).mono ?_; rintro e w4 ⟨rfl, hb4⟩)
            go_roundw
            case rel => exact ⟨k + 1, by go_num, hlt, eE, B3.out.trans (hb4.mono B3.out.size)⟩
            case measure => simp [intOf]; omega
      · go_wp2_with (go_at_call 37; refine TC.out.mono ?_; rintro e w2 ⟨rfl, hb2⟩)
        have hne : keyK t.cs.length (t.ks.take k) c = 6 := keyK_name (Or.inl HA.out)
        have eE : E = 6 := by rw [hd.out, fe_stop hlt (by rw [HI.out, hne]; decide), HI.out, hne]
        subst eE
        go_ret
        exact ⟨rfl, B0.trans ((B1.out.trans (hb2.mono B1.out.size)).mono B0.size)⟩
    · have eE : E = 0 := by rw [hd.out, fe_end _ _ _ (by omega)]
      subst eE
      go_wp2_with fail
      go_ret
      exact ⟨rfl, B0.trans (hb.mono B0.size)⟩
/-- what is known where the columns and keys are as they must be -/
theorem keyK_zero {n : Nat} {ah : List Ky} {k : Ky} (h : keyK n ah k = 0) : kcK n k.cs = true := by
  unfold keyK at h
  split at h
  · cases h
  · split at h
    · assumption
    · cases h
theorem kcK_bounds {n : Nat} {l : List Int} (h : kcK n l = true) : 1 ≤ l.length ∧ l.length ≤ 4 ∧ ∀ x ∈ l, 0 ≤ x ∧ x < (n : Int) := by
  unfold kcK at h
  simp only [Bool.and_eq_true, decide_eq_true_eq] at h
  obtain ⟨h1, h2, h3⟩ := h
  refine ⟨h1, h2, fun x hx => ?_⟩
  obtain ⟨i, hi, e⟩ := List.mem_iff_getElem.1 hx
  have := fe_zero h3 i (by omega) (by omega)
  rw [kcI_some (n := n) (show l[i]? = some x by rw [List.getElem?_eq_getElem hi, e])] at this
  split at this
  · cases this
  · rename_i hno
    exact ⟨by omega, by omega⟩
theorem ckKeys_first {t : Tb} (h : ckKeys t = 0) : ∃ k r, t.ks = k :: r ∧ kcK t.cs.length k.cs = true := by
  unfold ckKeys at h
  split at h
  · cases h
  · split at h
    · cases h
    · rename_i _ h0
      cases hk : t.ks with
      | nil => rw [hk] at h0; exact absurd rfl h0
      | cons k r =>
        refine ⟨k, r, rfl, ?_⟩
        have := fe_zero h 0 (Nat.le_refl _) (by omega)
        rw [keyI_some (show t.ks[0]? = some k by rw [hk]; rfl)] at this
        exact keyK_zero this
theorem ckKeys_each {t : Tb} (h : ckKeys t = 0) : t.ks.length ≤ 16 ∧ ∀ k ∈ t.ks, kcK t.cs.length k.cs = true := by
  unfold ckKeys at h
  split at h
  · cases h
  · split at h
    · cases h
    · rename_i h16 h0
      refine ⟨by omega, fun k hk => ?_⟩
      obtain ⟨i, hi, e⟩ := List.mem_iff_getElem.1 hk
      have := fe_zero h i (Nat.zero_le _) (by omega)
      rw [keyI_some (show t.ks[i]? = some k by rw [List.getElem?_eq_getElem hi, e])] at this
      exact keyK_zero this

set_option maxHeartbeats 4000000 in
set_option maxRecDepth 1000000 in
theorem checkPrimary_any (t : Tb) (P Q : Option Addr) (C D : Nat) (w : World) (hin : tbIn w t P Q) (h0 : ckKeys t = 0) :
    Calls Tryz.prog 22 #[tbV t P Q C D] w fun e w' => e = .returned (.int .i64 (ckPrim t)) ∧ Below w.heap.size w w' := by
  have hb1 : ∀ o, Below w.heap.size w (w.alloc o) := fun o => (Below.refl _ w).alloc (Nat.le_refl _) o
  obtain ⟨k, r, hk, hkc⟩ := ckKeys_first h0
  have hpos : 0 < t.ks.length := by rw [hk]; simp
  obtain ⟨W0, hW0⟩ : ∃ W0, W0 = w.alloc (.cells #[.string t.nm, .slice P t.cs.length C, .slice Q t.ks.length D, .int .i64 t.pa, .int .i64 t.mo] 25) := ⟨_, rfl⟩
  have B0 : Below w.heap.size w W0 := by rw [hW0]; exact hb1 _
  have k1 : W0.cell? ⟨w.heap.size, 2, none⟩ = some (.slice Q t.ks.length D) := by rw [hW0]; simp
  have k2 : W0.cell? ⟨w.heap.size, 1, none⟩ = some (.slice P t.cs.length C) := by rw [hW0]; simp
  have z0 : w.heap.size < W0.heap.size := by rw [hW0]; simp
  have hIn := hin.below B0
  have hk0 : t.ks[0]? = some k := by rw [hk]; rfl
  rcases hIn.2 with h | ⟨g, o, rfl, hg, hcs⟩
  · rw [h] at hk; cases hk
  obtain ⟨Qk, Ck, d0, d1, d2, hi, _, hCk⟩ := hcs 0 k hk0
  rw [Nat.zero_mul, Nat.add_zero] at d0 d1 d2
  have hkb := kcK_bounds hkc
  have CF : Hid (Calls Tryz.prog 41 #[.slice Qk k.cs.length Ck, .func (.func 40) #[] #[.pointer (some ⟨w.heap.size, 0, none⟩)]] W0 fun e w' => e = .returned (.bool (k.cs.any (nuB t.cs))) ∧ Below W0.heap.size W0 w') :=
    ContainsFuncIn k.cs Qk Ck (nuB t.cs) 40 #[.pointer (some ⟨w.heap.size, 0, none⟩)] eg_nul W0 hi (by omega) (fun W x hx hb => (nullCol_any t.cs P C x w.heap.size W ((hb.cell (p := ⟨w.heap.size, 1, none⟩) z0).trans k2) (hIn.1.below hb) (hkb.2.2 x hx).1 (hkb.2.2 x hx).2).mono (fun e w' h => ⟨h.1, by rw [h.2]; exact Below.refl _ _⟩))
  have eP : ckPrim t = if k.uq = false ∨ k.cs.any (nuB t.cs) = true then 84 else 0 := by unfold ckPrim; rw [hk]
  rw [eP]
  clear hIn hcs hi hkc hkb eP h0 k2 hin hk0 hk
  generalize k.cs.any (nuB t.cs) = A at *
  cases hu : k.uq
  · rw [if_pos (Or.inl rfl)]
    rw [hu] at d2
    subst hW0
    clear CF
    go_enter Tryz.func22, Tryz.ntmps22
    go_wp2_with fail
    go_ret
    exact ⟨rfl, B0⟩
  · rw [hu] at d2
    cases A
    · rw [if_neg (by simp)]
      subst hW0
      go_enter Tryz.func22, Tryz.ntmps22
      go_wp2_with (go_at_call 41; refine CF.out.mono ?_; rintro e w1 ⟨rfl, hb⟩)
      go_ret
      exact ⟨rfl, B0.trans (hb.mono B0.size)⟩
    · rw [if_pos (Or.inr rfl)]
      subst hW0
      go_enter Tryz.func22, Tryz.ntmps22
      go_wp2_with (go_at_call 41; refine CF.out.mono ?_; rintro e w1 ⟨rfl, hb⟩)
      go_ret
      exact ⟨rfl, B0.trans (hb.mono B0.size)⟩
end Go.Proofs.YtecebjfcokmmkaaGreatDoor
