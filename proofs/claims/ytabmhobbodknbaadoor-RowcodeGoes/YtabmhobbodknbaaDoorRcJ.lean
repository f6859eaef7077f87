/-
  The walk of locksteplaw02.lives.
-/
import Derived.Test.YtabmhobbodknbaaDoorRcI
import Derived.Laws.IdiomStrings
namespace Go.Proofs.YtabmhobbodknbaaDoor
open Go.RowKit Go.Shelf

theorem ownsB.form {w : World} {base : Nat} {v : Value} {l : List UInt8} (h : ownsB w base v l) (hl : l ≠ []) : ∃ g cap, v = .slice (some ⟨g, 0, none⟩) l.length cap ∧ g < w.heap.size ∧ ∀ k x, l[k]? = some x → w.cell? ⟨g, k, none⟩ = some (.int .u8 (x.toNat : Int)) := by
  rcases h.2 with ⟨_, h0⟩ | ⟨g, cap, cur, rfl, _, hcur, _⟩
  · exact absurd (List.eq_nil_of_length_eq_zero h0) hl
  · refine ⟨g, cap, rfl, ?_, fun k x hx => ?_⟩
    · rcases Nat.lt_or_ge g w.heap.size with h | h
      · exact h
      · rw [Array.getElem?_eq_none h] at hcur; cases hcur
    · have hk := (List.getElem?_eq_some_iff.1 hx).1
      have := World.ownsRow.cellAt h k (by omega)
      rw [this]; exact by8_get hx
theorem one_bytes : valB ⟨1, 1, ⟨#[]⟩⟩ = [2, 128, 0, 0, 0, 0, 0, 0, 0, 39, 16, 1] := by decide
theorem null_bytes : rowB [⟨0, 0, ⟨#[]⟩⟩] = [1, 0] := by decide
theorem null_ok : rowE [⟨0, 0, ⟨#[]⟩⟩] = 0 := by decide

set_option maxHeartbeats 4000000 in
set_option maxRecDepth 1000000 in
theorem lives_any (w : World) (hT : Tabs w) : Calls Tryd.prog 12 #[] w fun e w' => e = .returned (.bool true) ∧ Below w.heap.size w w' := by
  have VA : Hid (∀ w, Tabs w → Calls Tryd.prog 17 #[.agg #[.int .i64 1, .int .i64 1, .string ⟨#[]⟩]] w fun e w' => ∃ v', e = .returned (.tuple #[v', .int .i64 0]) ∧ Below w.heap.size w w' ∧ ownsB w' w.heap.size v' [2, 128, 0, 0, 0, 0, 0, 0, 0, 39, 16, 1]) := fun w h => by
    have := Value_any ⟨1, 1, ⟨#[]⟩⟩ w (by show fit 1; unfold fit; omega) (by show (0 : Nat) ≤ _; omega) h (by decide)
    rw [one_bytes] at this; exact this
  have RA : Hid (∀ p w, Tabs w → rowIn w p [⟨0, 0, ⟨#[]⟩⟩] → Calls Tryd.prog 13 #[.slice p 1 1] w fun e w' => ∃ v', e = .returned (.tuple #[v', .int .i64 0]) ∧ Below w.heap.size w w' ∧ ownsB w' w.heap.size v' [1, 0]) := fun p w h hr => by
    have := Row_any p 1 [⟨0, 0, ⟨#[]⟩⟩] w hr (by intro v hv; simp at hv; subst hv; show fit 0; unfold fit; omega) (by intro v hv; simp at hv; subst hv; show (0 : Nat) ≤ _; omega) h
    rw [null_ok, null_bytes] at this
    refine this.mono ?_
    rintro e w' ⟨v', rfl, h1, h2, _⟩
    exact ⟨v', rfl, h1, h2 rfl⟩
  have HA : Hid (∀ w, Calls Tryd.prog 14 #[.slice none 0 0] w fun e w' => e = .returned (.int .u64 14695981039346656037) ∧ w' = w) := fun w => Hash_any 0 (.slice none 0 0) [] w (ownsB_nil _ _) (by simp)
  go_enter Tryd.func12, Tryd.ntmps12
  go_wp2_with fail
  refine (VA.out _ hT).mono ?_
  rintro e w1 ⟨v1, rfl, hb1, ho1⟩
  obtain ⟨g1, cap1, hv1, hg1, hc1⟩ := ho1.form (by simp)
  rw [hv1]
  clear hv1 ho1
  have hr1 : Hid (∀ t, rowIn (w1.alloc (.cells #[.int .i64 0, .int .i64 0, .string ⟨#[]⟩] t)) (some ⟨w1.heap.size, 0, none⟩) [⟨0, 0, ⟨#[]⟩⟩]) := fun t => by
    refine Or.inr ⟨w1.heap.size, 0, rfl, by simp, fun i v hv => ?_⟩
    have hi : i = 0 := by have := (List.getElem?_eq_some_iff.1 hv).1; simp at this; exact this
    subst hi; simp at hv; subst hv
    go_simp
  have hT1 : Hid (∀ o, Tabs (w1.alloc o)) := fun o => (hT.below hb1).below ((Below.refl _ _).alloc (Nat.le_refl _) o)
  have HC1 : Hid _ := hc1
  clear hc1
  go_wp2_with fail
  refine (RA.out _ _ (hT1.out _) (hr1.out _)).mono ?_
  rintro e w2 ⟨v2, rfl, hb2, ho2⟩
  obtain ⟨g2, cap2, hv2, hg2, hc2⟩ := ho2.form (by simp)
  rw [hv2]
  clear hv2 ho2
  have hB : Below w1.heap.size w1 w2 := ((Below.refl _ w1).alloc (Nat.le_refl _) _).trans (hb2.mono (by simp))
  have tS : Tryd.prog.underlying 9 = some .string := by kernel_rfl
  have tU : Tryd.prog.underlying 5 = some (.int .u8) := by kernel_rfl
  have ad : ∀ g j : Nat, (⟨g, 0, none⟩ : Addr).add j = ⟨g, j, none⟩ := fun g j => by simp [Addr.add]; intro h; exact h.symm
  have cv1 : (convert 47 9 (.slice (some ⟨g1, 0, none⟩) 12 cap1)).run Tryd.prog w2 = .ok (.string ⟨#[2, 128, 0, 0, 0, 0, 0, 0, 0, 39, 16, 1]⟩) w2 := run_convert_bytes_back (P := Tryd.prog) w2 47 9 5 ⟨g1, 0, none⟩ cap1 [2, 128, 0, 0, 0, 0, 0, 0, 0, 39, 16, 1] u8Slice tU tS (fun j hj => by
    rw [ad, hB.cell (p := ⟨g1, j, none⟩) hg1]
    exact HC1.out j _ (List.getElem?_eq_getElem hj))
  have cv2 : (convert 47 9 (.slice (some ⟨g2, 0, none⟩) 2 cap2)).run Tryd.prog w2 = .ok (.string ⟨#[1, 0]⟩) w2 := run_convert_bytes_back (P := Tryd.prog) w2 47 9 5 ⟨g2, 0, none⟩ cap2 [1, 0] u8Slice tU tS (fun j hj => by
    rw [ad]
    exact hc2 j _ (List.getElem?_eq_getElem hj))
  clear tS tU ad
  have hbb : Hid (Below w.heap.size w w2) := hb1.trans (hB.mono hb1.size)
  clear hb1 hb2 hB hc2 HC1 hr1 hT1
  go_wp2_with fail
  refine (HA.out _).mono ?_
  rintro e wx ⟨rfl, rfl⟩
  go_wp2_with fail
  go_ret
  exact ⟨rfl, hbb.out⟩
end Go.Proofs.YtabmhobbodknbaaDoor
