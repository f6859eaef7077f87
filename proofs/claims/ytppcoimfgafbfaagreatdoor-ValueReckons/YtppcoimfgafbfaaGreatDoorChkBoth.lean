/-
  The walk of lockstepref01.both: the first error of two values.
-/
import Derived.Test.YtppcoimfgafbfaaGreatDoorChkRef
namespace Go.Proofs.YtppcoimfgafbfaaGreatDoor
open Go.RowKit Go.Shelf

set_option maxHeartbeats 1000000 in
theorem both_any (ty n : Int) (s : ByteArray) (ty' n' : Int) (s' : ByteArray) (w : World) :
    Calls Tryz.prog 16 #[.agg #[.int .i64 ty, .int .i64 n, .string s], .agg #[.int .i64 ty', .int .i64 n', .string s']] w fun e w' => e = .returned (.int .i64 (chk2 (chk ty n s) (chk ty' n' s'))) ∧ Below w.heap.size w w' := by
  generalize hc : chk ty n s = c
  have c1 : ∀ w, Calls Tryz.prog 21 #[.agg #[.int .i64 ty, .int .i64 n, .string s]] w fun e w' => e = .returned (.int .i64 c) ∧ Below w.heap.size w w' := fun w => hc ▸ refCheck_any ty n s w
  have C1 : Hid (∀ w, Calls Tryz.prog 21 #[.agg #[.int .i64 ty, .int .i64 n, .string s]] w fun e w' => e = .returned (.int .i64 c) ∧ Below w.heap.size w w') := c1
  clear hc c1
  by_cases h : c = 0
  · subst h
    rw [chk2, if_pos rfl]
    go_enter Tryz.func16, Tryz.ntmps16
    go_wp2_with fail
    refine (C1.out _).mono ?_
    rintro e w1 ⟨rfl, hb⟩
    have hz := hb.size
    simp at hz
    obtain ⟨hc, hf⟩ := bcell hb
    go_wp2_with fail
    refine (refCheck_any _ _ _ _).mono ?_
    rintro e w2 ⟨rfl, hb2⟩
    go_wp2_with fail
    go_ret
    exact ⟨rfl, (((Below.refl _ w).alloc (Nat.le_refl _) _).alloc (by simp) _).trans ((hb.mono (by simp; omega)).trans (hb2.mono (by omega)))⟩
  · rw [chk2, if_neg h]
    have hne : (c != 0) = true := by rw [bne_iff_ne]; exact h
    go_enter Tryz.func16, Tryz.ntmps16
    go_wp2_with fail
    refine (C1.out _).mono ?_
    rintro e w1 ⟨rfl, hb⟩
    go_wp2_with fail
    go_ret
    exact ⟨rfl, (((Below.refl _ w).alloc (Nat.le_refl _) _).alloc (by simp) _).trans (hb.mono (by simp; omega))⟩
end Go.Proofs.YtppcoimfgafbfaaGreatDoor
