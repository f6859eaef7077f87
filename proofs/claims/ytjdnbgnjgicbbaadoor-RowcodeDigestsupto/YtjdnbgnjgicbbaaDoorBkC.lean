/-
  The walk of rowcode.numberOf; bytes that came in.
-/
import Derived.Test.YtjdnbgnjgicbbaaDoorBkB
namespace Go.Proofs.YtjdnbgnjgicbbaaDoor
open Go.RowKit Go.Shelf

/-- 64 bits with their sign -/
def i64n (lo : Nat) : Int := if lo < 9223372036854775808 then (lo : Int) else (lo : Int) - 18446744073709551616
theorem i64n_wrap {lo : Nat} (h : lo < 18446744073709551616) : IntKind.i64.wrap (lo : Int) = i64n lo := by
  unfold i64n; split
  · rw [IntKind.wrap_i64]; omega
  · rw [IntKind.wrap_i64]; omega
theorem i64n_fit {lo : Nat} (h : lo < 18446744073709551616) : fit (i64n lo) := by
  unfold i64n fit; split <;> omega
/-- the number that two words and a type tell -/
def numV (hi lo kd : Nat) : Option Va :=
  if kd = 1 then whV hi lo else if kd = 2 then (if (hi : Int) = 32768 + i64n lo / 9223372036854775808 then some ⟨2, i64n lo, ⟨#[]⟩⟩ else none) else none

set_option maxHeartbeats 2000000 in
set_option maxRecDepth 1000000 in
theorem numberOf_any (hi lo kd : Nat) (w : World) (h1 : hi < 65536) (h2 : lo < 18446744073709551616) (h3 : kd < 256) :
    Calls Tryd.prog 38 #[.int .u64 (hi : Int), .int .u64 (lo : Int), .int .u8 (kd : Int)] w fun e w' => e = .returned (vopt (numV hi lo kd)) ∧ Below w.heap.size w w' := by
  have R0 : Hid _ := Res.new w 0 0 ⟨#[]⟩
  have B0 : Hid (∀ o, Below w.heap.size w (w.alloc o)) := fun o => (Below.refl _ w).alloc (Nat.le_refl _) o
  by_cases k1 : kd = 1
  · subst k1
    have e : numV hi lo 1 = whV hi lo := rfl
    rw [e]
    have WH : Hid (∀ w, Calls Tryd.prog 45 #[.int .u64 (hi : Int), .int .u64 (lo : Int)] w fun e w' => e = .returned (vopt (whV hi lo)) ∧ Below w.heap.size w w') := fun w => wholeOf_any hi lo w h1 h2
    clear e
    generalize whV hi lo = o at *
    rcases o with _ | ⟨t, n, s⟩
    · go_enter Tryd.func38, Tryd.ntmps38
      go_wp2_with fail
      refine (WH.out _).mono ?_
      rintro e w1 ⟨rfl, hb1⟩
      have R1 := R0.out.below hb1
      have B1 := (B0.out _).trans (hb1.mono (B0.out _).size)
      obtain ⟨_, c0, c1, c2, f0, f1, f2⟩ := R1
      unfold vopt
      go_wp2_with fail
      refine bodyPost_ret (v := vopt none) (by simp [results, Tryd.results38, go_sem, vopt, c0, c1, c2]) rfl ⟨rfl, ?_⟩
      exact ((B1.setCell (p := ⟨w.heap.size, 0, none⟩) (Nat.le_refl _) _).setCell (p := ⟨w.heap.size, 1, none⟩) (Nat.le_refl _) _).setCell (p := ⟨w.heap.size, 2, none⟩) (Nat.le_refl _) _
    · go_enter Tryd.func38, Tryd.ntmps38
      go_wp2_with fail
      refine (WH.out _).mono ?_
      rintro e w1 ⟨rfl, hb1⟩
      have R1 := R0.out.below hb1
      have B1 := (B0.out _).trans (hb1.mono (B0.out _).size)
      obtain ⟨_, c0, c1, c2, f0, f1, f2⟩ := R1
      unfold vopt
      go_wp2_with fail
      refine bodyPost_ret (v := vopt (some ⟨t, n, s⟩)) (by simp [results, Tryd.results38, go_sem, vopt, c0, c1, c2]) rfl ⟨rfl, ?_⟩
      exact ((B1.setCell (p := ⟨w.heap.size, 0, none⟩) (Nat.le_refl _) _).setCell (p := ⟨w.heap.size, 1, none⟩) (Nat.le_refl _) _).setCell (p := ⟨w.heap.size, 2, none⟩) (Nat.le_refl _) _
  · by_cases k2 : kd = 2
    · subst k2
      have e : numV hi lo 2 = if (hi : Int) = 32768 + i64n lo / 9223372036854775808 then some ⟨2, i64n lo, ⟨#[]⟩⟩ else none := rfl
      rw [e]
      have wr := i64n_wrap h2
      have hf := i64n_fit h2
      unfold fit at hf
      clear e h2 k1
      generalize i64n lo = n at *
      obtain ⟨D, hD⟩ : ∃ D, D = n / 9223372036854775808 := ⟨_, rfl⟩
      have hDr : -1 ≤ D ∧ D ≤ 0 := by omega
      rw [← hD]
      have eD : n / 9223372036854775808 = D := hD.symm
      clear hD
      by_cases hh : (hi : Int) = 32768 + D
      · rw [if_pos hh]
        have hne : ((hi : Int) != 32768 + D) = false := by simp [hh]
        go_enter Tryd.func38, Tryd.ntmps38
        go_wp2_with fail
        refine bodyPost_ret (v := vopt (some ⟨2, n, ⟨#[]⟩⟩)) (by simp [results, Tryd.results38, go_sem, vopt]) rfl ⟨rfl, ((Below.refl _ w).alloc (Nat.le_refl _) _).alloc (by simp) _⟩
      · rw [if_neg hh]
        have hne : ((hi : Int) != 32768 + D) = true := by rw [bne_iff_ne]; exact hh
        go_enter Tryd.func38, Tryd.ntmps38
        go_wp2_with fail
        refine bodyPost_ret (v := vopt none) (by simp [results, Tryd.results38, go_sem, vopt]) rfl ⟨rfl, ((Below.refl _ w).alloc (Nat.le_refl _) _).alloc (by simp) _⟩
    · have e : numV hi lo kd = none := by unfold numV; rw [if_neg k1, if_neg k2]
      rw [e]
      have n1 : ((kd : Int) == 1) = false := by rw [beq_eq_false_iff_ne]; omega
      have n2 : ((kd : Int) == 2) = false := by rw [beq_eq_false_iff_ne]; omega
      clear k1 k2 e
      go_enter Tryd.func38, Tryd.ntmps38
      go_wp2_with fail
      refine bodyPost_ret (v := vopt none) (by simp [results, Tryd.results38, go_sem, vopt]) rfl ⟨rfl, (Below.refl _ w).alloc (Nat.le_refl _) _⟩
end Go.Proofs.YtjdnbgnjgicbbaaDoor
