/-
  The walks of table.hasCols, checkKeys, checkPrimary, checkNumbers.
-/
import Derived.Test.YtecebjfcokmmkaaGreatDoorTfD
namespace Go.Proofs.YtecebjfcokmmkaaGreatDoor
open Go.RowKit Go.Shelf
set_option maxRecDepth 100000

theorem kcK_short {n : Nat} {l : List Int} (h : l.length = 0) : kcK n l = false := by unfold kcK; rw [h]; rfl
theorem kcK_long {n : Nat} {l : List Int} (h : 4 < l.length) : kcK n l = false := by
  unfold kcK; rw [decide_eq_false (show ¬ l.length ≤ 4 by omega)]; simp
theorem kcK_in {n : Nat} {l : List Int} (h1 : ¬ l.length = 0) (h2 : ¬ 4 < l.length) : kcK n l = decide (fe (kcI n l) 0 (l.length - 0) = 0) := by
  unfold kcK
  rw [decide_eq_true (show 1 ≤ l.length by omega), decide_eq_true (show l.length ≤ 4 by omega)]; simp

set_option maxHeartbeats 4000000 in
set_option maxRecDepth 1000000 in
theorem hasCols_any (k : Ky) (Q : Option Addr) (C n : Nat) (w : World) (hq : inIn w Q k.cs) (hC : k.cs.length ≤ C) (hn : k.cs.length ≤ 100000000) :
    Calls Tryz.prog 39 #[kyV k Q C, .int .i64 (n : Int)] w fun e w' => e = .returned (.bool (kcK n k.cs)) ∧ Below w.heap.size w w' := by
  have hb1 : ∀ o, Below w.heap.size w (w.alloc o) := fun o => (Below.refl _ w).alloc (Nat.le_refl _) o
  by_cases h0 : k.cs.length = 0
  · rw [kcK_short h0]
    have h0' : ((k.cs.length : Int) == 0) = true := by rw [h0]; rfl
    clear hq
    go_enter Tryz.func39, Tryz.ntmps39
    go_wp2_with fail
    go_ret
    exact ⟨rfl, hb1 _⟩
  have h0' : ((k.cs.length : Int) == 0) = false := by rw [beq_eq_false_iff_ne]; omega
  by_cases h4 : 4 < k.cs.length
  · rw [kcK_long h4]
    have h4' : (4 : Int) < (k.cs.length : Int) := by omega
    clear hq
    go_enter Tryz.func39, Tryz.ntmps39
    go_wp2_with fail
    go_ret
    exact ⟨rfl, hb1 _⟩
  have h4' : ¬ (4 : Int) < (k.cs.length : Int) := by omega
  rw [kcK_in h0 h4]
  obtain ⟨E, hE⟩ : ∃ E, E = fe (kcI n k.cs) 0 (k.cs.length - 0) := ⟨_, rfl⟩
  rw [← hE]
  obtain ⟨B, hB⟩ : ∃ B, B = decide (E = 0) := ⟨_, rfl⟩
  rw [← hB]
  have HE := mkHid hE
  have HB := mkHid hB
  clear hB
  rcases hq with hq | ⟨g, o, rfl, hg, hcs⟩
  · rw [hq] at h0; exact absurd rfl h0
  have HC : Hid (inIn w (some ⟨g, o, none⟩) k.cs) := Or.inr ⟨g, o, rfl, hg, hcs⟩
  clear hE hcs h0 h4
  go_enter Tryz.func39, Tryz.ntmps39
  go_wp2_with fail
  go_loop [5, 6, 20] (fun _ _ s => ∃ i : Nat, s = .int .i64 i ∧ i ≤ k.cs.length ∧ Hid (E = fe (kcI n k.cs) i (k.cs.length - i))) (fun _ _ s => k.cs.length - (intOf s).toNat)
  case atStart => exact ⟨0, rfl, Nat.zero_le _, HE⟩
  case round =>
    obtain ⟨i, rfl, hi, hd⟩ := hrel
    by_cases hlt : i < k.cs.length
    · obtain ⟨c, hc⟩ : ∃ c, k.cs[i]? = some c := ⟨k.cs[i], List.getElem?_eq_getElem hlt⟩
      have hIn := HC.out.below (hb1 (.cells #[.string k.nm, .slice (some ⟨g, o, none⟩) k.cs.length C, .bool k.uq] 46))
      have CT := Contains_any (k.cs.take i) (some ⟨g, o, none⟩) C c _ (hIn.take i) (by rw [List.length_take]; omega)
      rw [List.length_take, Nat.min_eq_left (by omega)] at CT
      rcases hIn with hIn | ⟨g', o', e', hg', hcs⟩
      · rw [hIn] at hc; simp at hc
      cases e'
      have d0 := hcs i c hc
      have HI := kcI_some (n := n) hc
      clear hcs hc hg'
      by_cases h1 : c < 0
      · have eE : ¬ E = 0 := by
          rw [hd.out, fe_stop hlt (by rw [HI, if_pos (Or.inl h1)]; decide), HI, if_pos (Or.inl h1)]; decide
        have eB : B = false := by rw [HB.out, decide_eq_false eE]
        subst eB
        clear CT HI hd HE eE HB
        go_wp2_with fail
        go_ret
        exact ⟨rfl, hb1 _⟩
      by_cases h2 : (n : Int) ≤ c
      · have eE : ¬ E = 0 := by
          rw [hd.out, fe_stop hlt (by rw [HI, if_pos (Or.inr (Or.inl h2))]; decide), HI, if_pos (Or.inr (Or.inl h2))]; decide
        have eB : B = false := by rw [HB.out, decide_eq_false eE]
        subst eB
        clear CT HI hd HE eE HB
        go_wp2_with fail
        go_ret
        exact ⟨rfl, hb1 _⟩
      by_cases h3 : c ∈ k.cs.take i
      · have eE : ¬ E = 0 := by
          rw [hd.out, fe_stop hlt (by rw [HI, if_pos (Or.inr (Or.inr h3))]; decide), HI, if_pos (Or.inr (Or.inr h3))]; decide
        have eB : B = false := by rw [HB.out, decide_eq_false eE]
        subst eB
        rw [decide_eq_true h3] at CT
        have CT := mkHid CT
        clear HI hd HE h3 eE HB
        go_wp2_with (go_at_call 42; refine CT.out.mono ?_; rintro e wx ⟨rfl, hwx⟩; have hwx2 := hwx.symm; subst hwx2; clear hwx)
        go_ret
        exact ⟨rfl, hb1 _⟩
      · have eE : Hid (E = fe (kcI n k.cs) (i + 1) (k.cs.length - (i + 1))) := by
          show _ = _
          rw [hd.out, fe_pass hlt (by rw [HI, if_neg (fun h => h.elim h1 (fun h => h.elim h2 h3))])]
        rw [decide_eq_false h3] at CT
        have CT := mkHid CT
        clear HI hd HE h3
        go_wp2_with (go_at_call 42; refine CT.out.mono ?_; rintro e wx ⟨rfl, hwx⟩; have hwx2 := hwx.symm; subst hwx2; clear hwx)
        go_round
        case rel => exact ⟨i + 1, by go_num, hlt, eE⟩
        case measure => simp [intOf]; omega
    · have eB : B = true := by rw [HB.out, decide_eq_true (show E = 0 by rw [hd.out, fe_end _ _ _ (by omega)])]
      subst eB
      clear hd HE
      go_wp2_with fail
      go_ret
      exact ⟨rfl, hb1 _⟩
end Go.Proofs.YtecebjfcokmmkaaGreatDoor
