/-
  The walks of lockstepref08.column and key.
-/
import Derived.Test.YtecebjfcokmmkaaGreatDoorTfH
namespace Go.Proofs.YtecebjfcokmmkaaGreatDoor
open Go.RowKit Go.Shelf
set_option maxRecDepth 100000

set_option maxHeartbeats 4000000 in
set_option maxRecDepth 1000000 in
theorem refColumn_any (l : List Cl) (P : Option Addr) (C i : Nat) (c : Cl) (hc : l[i]? = some c) (w : World) (hl : clIn w P l) (hn : l.length ≤ 100000000) (hs : c.nm.size ≤ 9223372036854775807) :
    Calls Tryz.prog 25 #[.slice P l.length C, .int .i64 (i : Int)] w fun e w' => e = .returned (.int .i64 (colI l i)) ∧ Below w.heap.size w w' := by
  have hlt : i < l.length := (List.getElem?_eq_some_iff.1 hc).1
  obtain ⟨E, hE⟩ : ∃ E, E = colI l i := ⟨_, rfl⟩
  rw [← hE]
  rw [colI_some hc] at hE
  have HE := mkHid hE
  clear hE
  have HL := mkHid hl
  rcases hl with rfl | ⟨g, o, rfl, hg, hcs⟩
  · simp at hc
  obtain ⟨d0, d1, d2, d3⟩ := hcs i c hc
  clear hcs
  obtain ⟨W1, hW1⟩ : ∃ W1, W1 = w.alloc (.cells #[.string c.nm, .int .i64 c.ty, .int .i64 c.mo, .bool c.nn] 52) := ⟨_, rfl⟩
  have b1 : Below w.heap.size w W1 := by rw [hW1]; exact (Below.refl _ w).alloc (Nat.le_refl _) _
  have e0 : W1.cell? ⟨w.heap.size, 0, none⟩ = some (.string c.nm) := by rw [hW1]; simp
  have e1 : W1.cell? ⟨w.heap.size, 1, none⟩ = some (.int .i64 c.ty) := by rw [hW1]; simp
  have e2 : W1.cell? ⟨w.heap.size, 2, none⟩ = some (.int .i64 c.mo) := by rw [hW1]; simp
  have z1 : w.heap.size < W1.heap.size := by rw [hW1]; simp
  have IN : Hid (∀ W, Calls Tryz.prog 24 #[.string c.nm] W fun e w' => e = .returned (.bool (nmK c.nm)) ∧ Below W.heap.size W w') := fun W => refName_any c.nm W hs
  generalize hN : nmK c.nm = N at IN
  have HN := mkHid hN
  clear hN
  cases N
  · have eE : E = 6 := by rw [HE.out]; exact colK_name (Or.inr HN.out)
    subst eE hW1
    go_enter Tryz.func25, Tryz.ntmps25
    go_wp2_with (go_at_call 24; refine (IN.out _).mono ?_; rintro e w2 ⟨rfl, hb2⟩)
    go_ret
    exact ⟨rfl, b1.trans (hb2.mono b1.size)⟩
  · subst hW1
    go_enter Tryz.func25, Tryz.ntmps25
    go_wp2_with (go_at_call 24; refine (IN.out _).mono ?_; rintro e w2 ⟨rfl, hb2⟩)
    have f0 := (hb2.cell (p := ⟨w.heap.size, 0, none⟩) z1).trans e0
    have f1 := (hb2.cell (p := ⟨w.heap.size, 1, none⟩) z1).trans e1
    have f2 := (hb2.cell (p := ⟨w.heap.size, 2, none⟩) z1).trans e2
    have z2 := Nat.lt_of_lt_of_le z1 hb2.size
    have HL2 := mkHid ((HL.out.below b1).below hb2)
    have B2 := mkHid (b1.trans (hb2.mono b1.size))
    clear hb2 e0 e1 e2 d0 d1 d2 d3 b1 z1
    go_loopw [6] (fun s wr => ∃ k : Nat, s = .int .i64 k ∧ k ≤ i ∧ Hid ((l.take k).any (cnB c.nm) = false) ∧ Below w2.heap.size w2 wr) (fun s _ => i - (intOf s).toNat)
    case atStart => exact ⟨0, rfl, Nat.zero_le _, rfl, Below.refl _ _⟩
    case round =>
      obtain ⟨k, rfl, hk, hd, hb⟩ := hrel
      have g0 := (hb.cell (p := ⟨w.heap.size, 0, none⟩) z2).trans f0
      have g1 := (hb.cell (p := ⟨w.heap.size, 1, none⟩) z2).trans f1
      have g2 := (hb.cell (p := ⟨w.heap.size, 2, none⟩) z2).trans f2
      have BR := mkHid (B2.out.trans (hb.mono B2.out.size))
      by_cases hki : k < i
      · obtain ⟨x, hx⟩ : ∃ x, l[k]? = some x := ⟨l[k]'(by omega), List.getElem?_eq_getElem (by omega)⟩
        have hl2 := HL2.out.below hb
        rcases hl2 with hl2 | ⟨g', o', e', hg', hcs⟩
        · rw [hl2] at hx; simp at hx
        cases e'
        obtain ⟨x0, _, _, _⟩ := hcs k x hx
        have hkl : k < l.length := by omega
        have HX := mkHid hx
        clear hcs hx hg'
        cases hq : cnB c.nm x
        · have hd2 : Hid ((l.take (k + 1)).any (cnB c.nm) = false) := any_next HX.out hq hd.out
          have hq2 : (x.nm.toList == c.nm.toList) = false := hq
          clear hd hq
          go_wp2_with fail
          go_quiet (fail)
          go_wp2_with fail
          go_roundw
          case rel => exact ⟨k + 1, by go_num, hki, hd2, below_drewN hb _⟩
          case measure => simp [intOf]; omega
        · have hA : (l.take i).any (cnB c.nm) = true := any_hit (show (l.take i)[k]? = some x by rw [List.getElem?_take, if_pos hki]; exact HX.out) hq
          have eE : E = 6 := by rw [HE.out]; exact colK_name (Or.inl hA)
          have hq2 : (x.nm.toList == c.nm.toList) = true := hq
          subst eE
          clear hd hq hA
          go_wp2_with fail
          go_quiet (fail)
          go_wp2_with fail
          go_ret
          exact ⟨rfl, below_drewN BR.out _⟩
      · have hA : (l.take i).any (cnB c.nm) = false := by
          have := hd.out
          rw [show k = i by omega] at this; exact this
        by_cases hty : c.ty < 1 ∨ 4 < c.ty
        · have eE : E = 7 := by rw [HE.out]; exact colK_type hA HN.out hty
          subst eE
          clear hA hd
          by_cases hty1 : c.ty < 1
          · go_wp2_with fail
            go_ret
            exact ⟨rfl, BR.out⟩
          · have hty2 : 4 < c.ty := by omega
            go_wp2_with fail
            go_ret
            exact ⟨rfl, BR.out⟩
        · have t1 : ¬ c.ty < 1 := by omega
          have t2 : ¬ 4 < c.ty := by omega
          have hne := colK_most hA HN.out hty
          clear hty hA hd
          by_cases h3 : c.ty = 3
          · have b3 : (c.ty == 3) = true := by rw [beq_iff_eq]; exact h3
            have b3n : (c.ty != 3) = false := by rw [h3]; rfl
            by_cases m1 : c.mo < 1
            · have eE : E = 1 := by rw [HE.out, hne]; unfold moK; rw [if_pos h3, decide_eq_false (show ¬ 1 ≤ c.mo by omega)]; rfl
              subst eE
              clear hne h3
              go_wp2_with fail
              go_ret
              exact ⟨rfl, BR.out⟩
            · by_cases m2 : 4096 < c.mo
              · have eE : E = 1 := by rw [HE.out, hne]; unfold moK; rw [if_pos h3, decide_eq_false (show ¬ c.mo ≤ 4096 by omega), Bool.and_false]; rfl
                subst eE
                clear hne h3
                go_wp2_with fail
                go_ret
                exact ⟨rfl, BR.out⟩
              · have eE : E = 0 := by rw [HE.out, hne]; unfold moK; rw [if_pos h3, decide_eq_true (show c.mo ≤ 4096 by omega), decide_eq_true (show 1 ≤ c.mo by omega)]; rfl
                subst eE
                clear hne h3
                go_wp2_with fail
                go_ret
                exact ⟨rfl, BR.out⟩
          · have b3 : (c.ty == 3) = false := by rw [beq_eq_false_iff_ne]; exact h3
            have b3n : (c.ty != 3) = true := by rw [bne_iff_ne]; exact h3
            by_cases m0 : c.mo = 0
            · have eE : E = 0 := by rw [HE.out, hne]; unfold moK; rw [if_neg h3, m0]; rfl
              have m1 : (c.mo == 0) = true := by rw [beq_iff_eq]; exact m0
              have m1n : (c.mo != 0) = false := by rw [m0]; rfl
              subst eE
              clear hne h3 m0
              go_wp2_with fail
              go_ret
              exact ⟨rfl, BR.out⟩
            · have m1 : (c.mo == 0) = false := by rw [beq_eq_false_iff_ne]; exact m0
              have m1n : (c.mo != 0) = true := by rw [bne_iff_ne]; exact m0
              have eE : E = 1 := by rw [HE.out, hne]; unfold moK; rw [if_neg h3, m1]; rfl
              subst eE
              clear hne h3 m0
              go_wp2_with fail
              go_ret
              exact ⟨rfl, BR.out⟩
end Go.Proofs.YtecebjfcokmmkaaGreatDoor
