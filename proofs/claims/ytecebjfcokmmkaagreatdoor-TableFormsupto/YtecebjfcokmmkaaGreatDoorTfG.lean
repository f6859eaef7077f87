/-
  The walks of table.checkNumbers and Check.
-/
import Derived.Test.YtecebjfcokmmkaaGreatDoorTfF
namespace Go.Proofs.YtecebjfcokmmkaaGreatDoor
open Go.RowKit Go.Shelf
set_option maxRecDepth 100000

set_option maxHeartbeats 4000000 in
set_option maxRecDepth 1000000 in
theorem checkNumbers_any (t : Tb) (P Q : Option Addr) (C D : Nat) (w : World) (hin : tbIn w t P Q) (h0 : ckKeys t = 0) :
    Calls Tryz.prog 23 #[tbV t P Q C D] w fun e w' => e = .returned (.int .i64 (ckNum t)) ∧ Below w.heap.size w w' := by
  have hb1 : ∀ o, Below w.heap.size w (w.alloc o) := fun o => (Below.refl _ w).alloc (Nat.le_refl _) o
  obtain ⟨k, r, hk, hkc⟩ := ckKeys_first h0
  have hpos : 0 < t.ks.length := by rw [hk]; simp
  obtain ⟨W0, hW0⟩ : ∃ W0, W0 = w.alloc (.cells #[.string t.nm, .slice P t.cs.length C, .slice Q t.ks.length D, .int .i64 t.pa, .int .i64 t.mo] 25) := ⟨_, rfl⟩
  have B0 : Below w.heap.size w W0 := by rw [hW0]; exact hb1 _
  have hk0 : t.ks[0]? = some k := by rw [hk]; rfl
  have hIn := hin.below B0
  rcases hIn.2 with h | ⟨g, o, rfl, hg, hcs⟩
  · rw [h] at hk; cases hk
  obtain ⟨Qk, Ck, d0, d1, d2, hi, _, hCk⟩ := hcs 0 k hk0
  rw [Nat.zero_mul, Nat.add_zero] at d0 d1 d2
  have hkb := kcK_bounds hkc
  have CT : Hid (∀ W, Below W0.heap.size W0 W → Calls Tryz.prog 42 #[.slice Qk k.cs.length Ck, .int .i64 t.pa] W fun e w' => e = .returned (.bool (decide (t.pa ∈ k.cs))) ∧ w' = W) := fun W hW => Contains_any k.cs Qk Ck t.pa _ (hi.below hW) (by omega)
  have eP : ckNum t = if (0 ≤ t.pa ∧ ¬ t.pa ∈ k.cs) ∨ t.mo < 1 ∨ 4096 < t.mo then 1 else 0 := by unfold ckNum; rw [hk]
  rw [eP]
  clear hIn hcs hi hkc hkb eP h0 hin hk0 hk d0 d2
  have y1 : W0.drew.cell? ⟨g, o + 1, none⟩ = some (.slice Qk k.cs.length Ck) := d1
  have y2 : W0.drew.cell? ⟨w.heap.size, 2, none⟩ = some (.slice (some ⟨g, o, none⟩) t.ks.length D) := by rw [hW0]; simp
  have y3 : W0.drew.cell? ⟨w.heap.size, 3, none⟩ = some (.int .i64 t.pa) := by rw [hW0]; simp
  obtain ⟨HS, hHS⟩ : ∃ HS : World → Prop, HS = fun w' => Below W0.heap.size W0 w' := ⟨_, rfl⟩
  have hS : Hid (HS W0.drew) := by show HS _; rw [hHS]; exact (Below.refl _ W0).drew
  have hSB : Hid (∀ w', HS w' → Below W0.heap.size W0 w') := fun w' h => by rw [hHS] at h; exact h
  replace CT : Hid (∀ W, HS W → Calls Tryz.prog 42 #[.slice Qk k.cs.length Ck, .int .i64 t.pa] W fun e w' => e = .returned (.bool (decide (t.pa ∈ k.cs))) ∧ w' = W) := fun W h => CT.out W (by rw [hHS] at h; exact h)
  clear hHS
  subst hW0
  by_cases hp : 0 ≤ t.pa
  · by_cases hm : t.pa ∈ k.cs
    · rw [decide_eq_true hm] at CT
      have hno : ¬ (0 ≤ t.pa ∧ ¬ t.pa ∈ k.cs) := fun h => h.2 hm
      clear hm
      by_cases h1 : t.mo < 1
      · rw [if_pos (Or.inr (Or.inl h1))]
        clear hno
        go_enter Tryz.func23, Tryz.ntmps23
        go_wp2_with fail
        go_region_held3 (fun w' => HS w' ∧ w'.cell? ⟨w.heap.size, 3, none⟩ = some (.int .i64 t.pa) ∧ w'.cell? ⟨w.heap.size, 2, none⟩ = some (.slice (some ⟨g, o, none⟩) t.ks.length D) ∧ w'.cell? ⟨g, o + 1, none⟩ = some (.slice Qk k.cs.length Ck)) (first | exact ⟨hS.out, y3, y2, y1⟩ | assumption | fail) ((go_at_call 42; refine (CT.out _ (by assumption)).mono ?_; rintro e wx ⟨rfl, hwx⟩; subst hwx))
        go_wp2_with fail
        go_ret
        exact ⟨rfl, B0.trans ((hSB.out _ (by assumption)).mono B0.size)⟩
      · by_cases h2 : 4096 < t.mo
        · rw [if_pos (Or.inr (Or.inr h2))]
          clear hno
          go_enter Tryz.func23, Tryz.ntmps23
          go_wp2_with fail
          go_region_held3 (fun w' => HS w' ∧ w'.cell? ⟨w.heap.size, 3, none⟩ = some (.int .i64 t.pa) ∧ w'.cell? ⟨w.heap.size, 2, none⟩ = some (.slice (some ⟨g, o, none⟩) t.ks.length D) ∧ w'.cell? ⟨g, o + 1, none⟩ = some (.slice Qk k.cs.length Ck)) (first | exact ⟨hS.out, y3, y2, y1⟩ | assumption | fail) ((go_at_call 42; refine (CT.out _ (by assumption)).mono ?_; rintro e wx ⟨rfl, hwx⟩; subst hwx))
          go_wp2_with fail
          go_ret
          exact ⟨rfl, B0.trans ((hSB.out _ (by assumption)).mono B0.size)⟩
        · rw [if_neg (fun h => h.elim hno (fun h => h.elim h1 h2))]
          clear hno
          go_enter Tryz.func23, Tryz.ntmps23
          go_wp2_with fail
          go_region_held3 (fun w' => HS w' ∧ w'.cell? ⟨w.heap.size, 3, none⟩ = some (.int .i64 t.pa) ∧ w'.cell? ⟨w.heap.size, 2, none⟩ = some (.slice (some ⟨g, o, none⟩) t.ks.length D) ∧ w'.cell? ⟨g, o + 1, none⟩ = some (.slice Qk k.cs.length Ck)) (first | exact ⟨hS.out, y3, y2, y1⟩ | assumption | fail) ((go_at_call 42; refine (CT.out _ (by assumption)).mono ?_; rintro e wx ⟨rfl, hwx⟩; subst hwx))
          go_wp2_with fail
          go_ret
          exact ⟨rfl, B0.trans ((hSB.out _ (by assumption)).mono B0.size)⟩
    · rw [decide_eq_false hm] at CT
      rw [if_pos (Or.inl ⟨hp, hm⟩)]
      clear hm
      go_enter Tryz.func23, Tryz.ntmps23
      go_wp2_with fail
      go_region_held3 (fun w' => HS w' ∧ w'.cell? ⟨w.heap.size, 3, none⟩ = some (.int .i64 t.pa) ∧ w'.cell? ⟨w.heap.size, 2, none⟩ = some (.slice (some ⟨g, o, none⟩) t.ks.length D) ∧ w'.cell? ⟨g, o + 1, none⟩ = some (.slice Qk k.cs.length Ck)) (first | exact ⟨hS.out, y3, y2, y1⟩ | assumption | fail) ((go_at_call 42; refine (CT.out _ (by assumption)).mono ?_; rintro e wx ⟨rfl, hwx⟩; subst hwx))
      go_wp2_with fail
      go_ret
      exact ⟨rfl, B0.trans ((hSB.out _ (by assumption)).mono B0.size)⟩
  · have hno : ¬ (0 ≤ t.pa ∧ ¬ t.pa ∈ k.cs) := fun h => hp h.1
    have hp2 : decide (0 ≤ t.pa) = false := decide_eq_false hp
    clear hp
    by_cases h1 : t.mo < 1
    · rw [if_pos (Or.inr (Or.inl h1))]
      clear hno CT
      go_enter Tryz.func23, Tryz.ntmps23
      go_wp2_with fail
      go_quiet (fail)
      go_wp2_with fail
      go_ret
      exact ⟨rfl, below_drewN B0 _⟩
    · by_cases h2 : 4096 < t.mo
      · rw [if_pos (Or.inr (Or.inr h2))]
        clear hno CT
        go_enter Tryz.func23, Tryz.ntmps23
        go_wp2_with fail
        go_quiet (fail)
        go_wp2_with fail
        go_ret
        exact ⟨rfl, below_drewN B0 _⟩
      · rw [if_neg (fun h => h.elim hno (fun h => h.elim h1 h2))]
        clear hno CT
        go_enter Tryz.func23, Tryz.ntmps23
        go_wp2_with fail
        go_quiet (fail)
        go_wp2_with fail
        go_ret
        exact ⟨rfl, below_drewN B0 _⟩
end Go.Proofs.YtecebjfcokmmkaaGreatDoor
