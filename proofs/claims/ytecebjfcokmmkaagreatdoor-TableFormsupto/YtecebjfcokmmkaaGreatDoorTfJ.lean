/-
  The walk of lockstepref08.key.
-/
import Derived.Test.YtecebjfcokmmkaaGreatDoorTfI
namespace Go.Proofs.YtecebjfcokmmkaaGreatDoor
open Go.RowKit Go.Shelf
set_option maxRecDepth 100000

theorem mem_next {l : List Int} {k : Nat} {x c : Int} (h : l[k]? = some x) (hne : ¬ x = c) (h0 : ¬ c ∈ l.take k) : ¬ c ∈ l.take (k + 1) := by
  rw [List.take_add_one, h]
  intro hm
  rcases List.mem_append.1 hm with hm | hm
  · exact h0 hm
  · simp at hm; exact hne hm.symm
set_option maxHeartbeats 8000000 in
set_option maxRecDepth 1000000 in
theorem refKey_any (t : Tb) (P Q : Option Addr) (C D i : Nat) (c : Ky) (hc : t.ks[i]? = some c) (w : World) (hl : kyIn w Q t.ks) (hG : tbG t) :
    Calls Tryz.prog 26 #[tbV t P Q C D, .int .i64 (i : Int)] w fun e w' => e = .returned (.int .i64 (keyI t.cs.length t.ks i)) ∧ Below w.heap.size w w' := by
  have hlt : i < t.ks.length := (List.getElem?_eq_some_iff.1 hc).1
  obtain ⟨E, hE⟩ : ∃ E, E = keyI t.cs.length t.ks i := ⟨_, rfl⟩
  rw [← hE]
  rw [keyI_some hc] at hE
  have HE := mkHid hE
  clear hE
  obtain ⟨W0, hW0⟩ : ∃ W0, W0 = w.alloc (.cells #[.string t.nm, .slice P t.cs.length C, .slice Q t.ks.length D, .int .i64 t.pa, .int .i64 t.mo] 25) := ⟨_, rfl⟩
  have b0 : Below w.heap.size w W0 := by rw [hW0]; exact (Below.refl _ w).alloc (Nat.le_refl _) _
  have s0 : W0.heap.size = w.heap.size + 1 := by rw [hW0]; simp
  have k1 : W0.cell? ⟨w.heap.size, 1, none⟩ = some (.slice P t.cs.length C) := by rw [hW0]; simp
  have k2 : W0.cell? ⟨w.heap.size, 2, none⟩ = some (.slice Q t.ks.length D) := by rw [hW0]; simp
  have hl0 := hl.below b0
  have HL := mkHid hl0
  rcases hl0 with h | ⟨g, o, rfl, hg, hcs⟩
  · rw [h] at hc; simp at hc
  obtain ⟨Qk, Ck, d0, d1, d2, hin, _, hCk⟩ := hcs i c hc
  clear hcs
  obtain ⟨W1, hW1⟩ : ∃ W1, W1 = W0.alloc (.cells #[.string c.nm, .slice Qk c.cs.length Ck, .bool c.uq] 46) := ⟨_, rfl⟩
  have b1 : Below W0.heap.size W0 W1 := by rw [hW1]; exact (Below.refl _ W0).alloc (Nat.le_refl _) _
  have e0 : W1.cell? ⟨w.heap.size + 1, 0, none⟩ = some (.string c.nm) := by rw [hW1, ← s0]; simp
  have e1 : W1.cell? ⟨w.heap.size + 1, 1, none⟩ = some (.slice Qk c.cs.length Ck) := by rw [hW1, ← s0]; simp
  have m1 := (b1.cell (p := ⟨w.heap.size, 1, none⟩) (by show w.heap.size < _; omega)).trans k1
  have m2 := (b1.cell (p := ⟨w.heap.size, 2, none⟩) (by show w.heap.size < _; omega)).trans k2
  have z1 : w.heap.size + 1 < W1.heap.size := by rw [hW1]; simp; omega
  have B1 := mkHid (b0.trans (b1.mono b0.size))
  have HL1 := mkHid (HL.out.below b1)
  have HI1 := mkHid (hin.below b1)
  have hG2 := hG.2.2.2.2 c (List.mem_of_getElem? hc)
  have hlc := hG2.2
  have IN : Hid (∀ W, Calls Tryz.prog 24 #[.string c.nm] W fun e w' => e = .returned (.bool (nmK c.nm)) ∧ Below W.heap.size W w') := fun W => refName_any c.nm W hG2.1
  have hln := hG.2.2.1
  have hlm := hG.2.1
  generalize hN : nmK c.nm = N at IN
  have HN := mkHid hN
  have HS0 := mkHid s0
  clear hN hin HL hl hG hG2 b0 b1 s0
  cases N
  · have eE : E = 6 := by rw [HE.out]; exact keyK_name (Or.inr HN.out)
    subst eE hW1 hW0
    go_enter Tryz.func26, Tryz.ntmps26
    go_wp2_with (go_at_call 24; refine (IN.out _).mono ?_; rintro e w2 ⟨rfl, hb2⟩)
    go_ret
    exact ⟨rfl, B1.out.trans (hb2.mono B1.out.size)⟩
  · subst hW1 hW0
    go_enter Tryz.func26, Tryz.ntmps26
    go_wp2_with (go_at_call 24; refine (IN.out _).mono ?_; rintro e w2 ⟨rfl, hb2⟩)
    have f0 := (hb2.cell (p := ⟨w.heap.size + 1, 0, none⟩) z1).trans e0
    have f1 := (hb2.cell (p := ⟨w.heap.size + 1, 1, none⟩) z1).trans e1
    have zz1 : w.heap.size < w2.heap.size := by have := hb2.size; omega
    have f2 := (hb2.cell (p := ⟨w.heap.size, 1, none⟩) (by show w.heap.size < _; omega)).trans m1
    have f3 := (hb2.cell (p := ⟨w.heap.size, 2, none⟩) (by show w.heap.size < _; omega)).trans m2
    have z2 := Nat.lt_of_lt_of_le z1 hb2.size
    have HL2 := mkHid (HL1.out.below hb2)
    have HI2 := mkHid (HI1.out.below hb2)
    have B2 := mkHid (B1.out.trans (hb2.mono B1.out.size))
    clear hb2 e0 e1 d0 d1 d2 z1 m1 m2 k1 k2 HL1 HI1 B1 HS0 hg
    go_loopw [6] (fun s wr => ∃ k : Nat, s = .int .i64 k ∧ k ≤ i ∧ Hid ((t.ks.take k).any (knB c.nm) = false) ∧ Below w2.heap.size w2 wr) (fun s _ => i - (intOf s).toNat)
    case atStart => exact ⟨0, rfl, Nat.zero_le _, rfl, Below.refl _ _⟩
    case round =>
      obtain ⟨k, rfl, hk, hd, hb⟩ := hrel
      have g0 := (hb.cell (p := ⟨w.heap.size + 1, 0, none⟩) z2).trans f0
      have g1 := (hb.cell (p := ⟨w.heap.size + 1, 1, none⟩) z2).trans f1
      have g2 := (hb.cell (p := ⟨w.heap.size, 1, none⟩) zz1).trans f2
      have g3 := (hb.cell (p := ⟨w.heap.size, 2, none⟩) zz1).trans f3
      have BR := mkHid (B2.out.trans (hb.mono B2.out.size))
      by_cases hki : k < i
      · obtain ⟨x, hx⟩ : ∃ x, t.ks[k]? = some x := ⟨t.ks[k]'(by omega), List.getElem?_eq_getElem (by omega)⟩
        have hl2 := HL2.out.below hb
        rcases hl2 with hl2 | ⟨g', o', e', hg', hcs⟩
        · rw [hl2] at hx; simp at hx
        cases e'
        obtain ⟨_, _, x0, _⟩ := hcs k x hx
        have hkl : k < t.ks.length := by omega
        have HX := mkHid hx
        clear hcs hx hg'
        cases hq : knB c.nm x
        · have hd2 : Hid ((t.ks.take (k + 1)).any (knB c.nm) = false) := any_next HX.out hq hd.out
          have hq2 : (x.nm.toList == c.nm.toList) = false := hq
          clear hd hq
          go_wp2_with fail
          go_quiet (fail)
          go_wp2_with fail
          go_roundw
          case rel => exact ⟨k + 1, by go_num, hki, hd2, below_drewN hb _⟩
          case measure => simp [intOf]; omega
        · have hA : (t.ks.take i).any (knB c.nm) = true := any_hit (show (t.ks.take i)[k]? = some x by rw [List.getElem?_take, if_pos hki]; exact HX.out) hq
          have eE : E = 6 := by rw [HE.out]; exact keyK_name (Or.inl hA)
          have hq2 : (x.nm.toList == c.nm.toList) = true := hq
          subst eE
          clear hd hq hA
          go_wp2_with fail
          go_quiet (fail)
          go_wp2_with fail
          go_ret
          exact ⟨rfl, below_drewN BR.out _⟩
      · have hA : (t.ks.take i).any (knB c.nm) = false := by
          have := hd.out
          rw [show k = i by omega] at this; exact this
        have hne := keyK_cols (n := t.cs.length) hA HN.out
        have HE2 : Hid (E = if kcK t.cs.length c.cs = true then 0 else 1) := HE.out.trans hne
        clear hA hd hne HE
        have HI3 := mkHid (HI2.out.below hb)
        clear f0 f1 f2 f3 HL2 HI2 B2
        by_cases c0 : c.cs.length = 0
        · have eE : E = 1 := by rw [HE2.out, kcK_short c0]; rfl
          have c0' : (c.cs.length : Int) < 1 := by omega
          subst eE
          clear c0 HE2
          go_wp2_with fail
          go_ret
          exact ⟨rfl, BR.out⟩
        by_cases c4 : 4 < c.cs.length
        · have eE : E = 1 := by rw [HE2.out, kcK_long c4]; rfl
          have c0' : ¬ (c.cs.length : Int) < 1 := by omega
          have c4' : (4 : Int) < (c.cs.length : Int) := by omega
          subst eE
          clear c0 HE2
          go_wp2_with fail
          go_ret
          exact ⟨rfl, BR.out⟩
        have c0' : ¬ (c.cs.length : Int) < 1 := by omega
        have c4' : ¬ (4 : Int) < (c.cs.length : Int) := by omega
        have HE3 : Hid (E = if fe (kcI t.cs.length c.cs) 0 (c.cs.length - 0) = 0 then 0 else 1) := by
          show _ = _
          rw [HE2.out, kcK_in c0 c4]
          by_cases h : fe (kcI t.cs.length c.cs) 0 (c.cs.length - 0) = 0
          · rw [if_pos h, if_pos (decide_eq_true h)]
          · rw [if_neg h, if_neg (by rw [decide_eq_false h]; decide)]
        have zr := Nat.lt_of_lt_of_le z2 hb.size
        have zr2 := Nat.lt_of_lt_of_le zz1 hb.size
        clear HE2 hb
        rename World => w3
        clear c0 c4
        go_wp2_with fail
        go_loopw [7, 8] (fun s _ wr => ∃ j : Nat, s = .int .i64 j ∧ j ≤ c.cs.length ∧ Hid (E = if fe (kcI t.cs.length c.cs) j (c.cs.length - j) = 0 then 0 else 1) ∧ Below w3.heap.size w3 wr) (fun s _ _ => c.cs.length - (intOf s).toNat)
        case atStart => exact ⟨0, rfl, Nat.zero_le _, HE3, Below.refl _ _⟩
        case round =>
          obtain ⟨j, rfl, hj, hd, hb⟩ := hrel
          have q1 := (hb.cell (p := ⟨w.heap.size + 1, 1, none⟩) zr).trans g1
          have q2 := (hb.cell (p := ⟨w.heap.size, 1, none⟩) zr2).trans g2
          have BQ := mkHid (BR.out.trans (hb.mono BR.out.size))
          by_cases hjl : j < c.cs.length
          · obtain ⟨x, hx⟩ : ∃ x, c.cs[j]? = some x := ⟨c.cs[j], List.getElem?_eq_getElem hjl⟩
            have hi2 := HI3.out.below hb
            have HI4 := mkHid hi2
            rcases hi2 with hi2 | ⟨gi, oi, rfl, hgi, hcs⟩
            · rw [hi2] at hx; simp at hx
            have x0 := hcs j x hx
            have HI := mkHid (kcI_some (n := t.cs.length) hx)
            clear hcs hx
            by_cases h1 : x < 0
            · have eE : E = 1 := by
                rw [hd.out, if_neg]
                rw [fe_stop hjl (by rw [HI.out, if_pos (Or.inl h1)]; decide), HI.out, if_pos (Or.inl h1)]; decide
              have h1d : decide (x < 0) = true := decide_eq_true h1
              subst eE
              clear hd h1
              go_wp2_with fail
              go_quiet (fail)
              go_wp2_with fail
              go_ret
              exact ⟨rfl, below_drewN BQ.out _⟩
            have h1d : decide (x < 0) = false := decide_eq_false h1
            by_cases h2 : (t.cs.length : Int) ≤ x
            · have eE : E = 1 := by
                rw [hd.out, if_neg]
                rw [fe_stop hjl (by rw [HI.out, if_pos (Or.inr (Or.inl h2))]; decide), HI.out, if_pos (Or.inr (Or.inl h2))]; decide
              have h2d : decide ((t.cs.length : Int) ≤ x) = true := decide_eq_true h2
              subst eE
              clear hd h1 h2
              go_wp2_with fail
              go_quiet (fail)
              go_wp2_with fail
              go_ret
              exact ⟨rfl, below_drewN BQ.out _⟩
            have h2d : decide ((t.cs.length : Int) ≤ x) = false := decide_eq_false h2
            have HM : Hid (x ∈ c.cs.take j → E = 1) := fun h3 => by
              rw [hd.out, if_neg]
              rw [fe_stop hjl (by rw [HI.out, if_pos (Or.inr (Or.inr h3))]; decide), HI.out, if_pos (Or.inr (Or.inr h3))]; decide
            have HP : Hid (¬ x ∈ c.cs.take j → E = if fe (kcI t.cs.length c.cs) (j + 1) (c.cs.length - (j + 1)) = 0 then 0 else 1) := fun h3 => by
              rw [hd.out, fe_pass hjl (by rw [HI.out, if_neg (fun h => h.elim h1 (fun h => h.elim h2 h3))])]
            have ys := hb.size
            have zq : w.heap.size + 1 < wr.heap.size := by omega
            clear hd h1 h2
            go_wp2_with fail
            go_quiet (fail)
            have q3 : (wr.drewN nq).cell? ⟨w.heap.size + 1, 1, none⟩ = some (.slice (some ⟨gi, oi, none⟩) c.cs.length Ck) := q1
            have q4 := mkHid (HI4.out.below (below_drewN (Below.refl _ wr) nq))
            have q5 := mkHid (below_drewN BQ.out nq)
            have q6 := mkHid (below_drewN hb nq)
            have q7 : w.heap.size + 1 < (wr.drewN nq).heap.size := zq
            have q8 : (wr.drewN nq).cell? ⟨gi, oi + j, none⟩ = some (.int .i64 x) := x0
            go_wp2_with fail
            generalize wr.drewN nq = w4 at q3 q4 q5 q6 q7 q8 ⊢
            clear q1 q2 x0 hgi hb HI4 zq BQ
            go_loopw [8] (fun s wr => ∃ m : Nat, s = .int .i64 m ∧ m ≤ j ∧ Hid (¬ x ∈ c.cs.take m) ∧ Below w4.heap.size w4 wr) (fun s _ => j - (intOf s).toNat)
            case atStart => exact ⟨0, rfl, Nat.zero_le _, (by show ¬ _; simp), Below.refl _ _⟩
            case round =>
              obtain ⟨m, rfl, hm, hd, hb⟩ := hrel
              have r3 := (hb.cell (p := ⟨w.heap.size + 1, 1, none⟩) q7).trans q3
              have r8 := (hb.cell (p := ⟨gi, oi + j, none⟩) (World.block_lt_of_cell? w4 _ q8)).trans q8
              have r5 := mkHid (q5.out.trans (hb.mono q5.out.size))
              have r6 := mkHid (q6.out.trans (hb.mono q6.out.size))
              by_cases hmj : m < j
              · obtain ⟨y, hy⟩ : ∃ y, c.cs[m]? = some y := ⟨c.cs[m]'(by omega), List.getElem?_eq_getElem (by omega)⟩
                have hi2 := q4.out.below hb
                rcases hi2 with hi2 | ⟨g2', o2', e2', hg2', hcs⟩
                · rw [hi2] at hy; simp at hy
                cases e2'
                have y0 := hcs m y hy
                have HY := mkHid hy
                have hml : m < c.cs.length := by omega
                clear hcs hy hg2'
                by_cases hq : y = x
                · have hq2 : (y == x) = true := by rw [beq_iff_eq]; exact hq
                  have eE : E = 1 := HM.out (by
                    rw [← hq]
                    exact List.mem_of_getElem? (show (c.cs.take j)[m]? = some y by rw [List.getElem?_take, if_pos hmj]; exact HY.out))
                  subst eE
                  clear hd hq
                  go_wp2_with fail
                  go_quiet (fail)
                  go_wp2_with fail
                  go_ret
                  exact ⟨rfl, below_drewN r5.out _⟩
                · have hq2 : (y == x) = false := by rw [beq_eq_false_iff_ne]; exact hq
                  have hd2 : Hid (¬ x ∈ c.cs.take (m + 1)) := mem_next HY.out hq hd.out
                  clear hd hq
                  go_wp2_with fail
                  go_quiet (fail)
                  go_wp2_with fail
                  go_roundw
                  case rel => exact ⟨m + 1, by go_num, hmj, hd2, below_drewN hb _⟩
                  case measure => simp [intOf]; omega
              · have hd2 : Hid (E = if fe (kcI t.cs.length c.cs) (j + 1) (c.cs.length - (j + 1)) = 0 then 0 else 1) := HP.out (by
                  have := hd.out
                  rw [show m = j by omega] at this; exact this)
                clear hd
                go_wp2_with fail
                go_roundw
                case rel => exact ⟨j + 1, by go_num, hjl, hd2, r6.out⟩
                case measure => simp [intOf]; omega
          · have eE : E = 0 := by rw [hd.out, fe_end _ _ _ (by omega)]; rfl
            subst eE
            go_wp2_with fail
            go_ret
            exact ⟨rfl, BQ.out⟩
end Go.Proofs.YtecebjfcokmmkaaGreatDoor
