/-
  The document's way to read a number comes to the same.
-/
import Derived.Test.YtedacccedbchaaaDoorVaC
namespace Go.Proofs.YtedacccedbchaaaDoor

def resN : Option Va → Except Int (Va × Nat)
  | some v => .ok (v, 12)
  | none => .error 20
theorem sgn_no {kd : Int} {mn : Bool} {u : Nat} (h : 9223372036854775808 < u ∨ (u = 9223372036854775808 ∧ mn = false)) : sgn kd mn u = .error 20 := if_pos h
theorem sgn_no_plus {kd : Int} {u : Nat} (h : 9223372036854775808 ≤ u) : sgn kd false u = .error 20 := by
  rcases Nat.lt_or_eq_of_le h with g | g
  · exact sgn_no (Or.inl g)
  · exact sgn_no (Or.inr ⟨g.symm, rfl⟩)
theorem sgn_no_minus {kd : Int} {u : Nat} (h : 9223372036854775808 < u) : sgn kd true u = .error 20 := sgn_no (Or.inl h)
theorem sgn_plus {kd : Int} {u : Nat} (h : u < 9223372036854775808) : sgn kd false u = .ok (⟨kd, (u : Int), ⟨#[]⟩⟩, 12) := by unfold sgn; rw [if_neg (by omega)]; rfl
theorem sgn_minus {kd : Int} {u : Nat} (h : u ≤ 9223372036854775808) : sgn kd true u = .ok (⟨kd, -(u : Int), ⟨#[]⟩⟩, 12) := by unfold sgn; rw [if_neg (by simp; omega)]; rfl
theorem num_other {H L kd : Nat} (h1 : ¬ kd = 1) (h2 : ¬ kd = 2) : resN (numV H L kd) = .error 20 := by unfold numV; rw [if_neg h1, if_neg h2]; rfl
theorem dec_eq (H L : Nat) : numV H L 2 = if (H : Int) = 32768 + i64n L / 9223372036854775808 then some ⟨2, i64n L, ⟨#[]⟩⟩ else none := rfl
theorem big_eq (H L : Nat) : numV H L 1 = whV H L := rfl
theorem i64_lo {L : Nat} (h : L < 9223372036854775808) : i64n L = (L : Int) := if_pos h
theorem i64_hi {L : Nat} (h : ¬ L < 9223372036854775808) : i64n L = (L : Int) - 18446744073709551616 := if_neg h
theorem dec_far {H L : Nat} (hL : L < 18446744073709551616) (h : 32768 < H ∨ H < 32767) : resN (numV H L 2) = .error 20 := by
  rw [dec_eq, if_neg]
  · rfl
  · by_cases g : L < 9223372036854775808
    · rw [i64_lo g]; omega
    · rw [i64_hi g]; omega
theorem dec_plus {L : Nat} (hL : L < 18446744073709551616) : resN (numV 32768 L 2) = sgn 2 false L := by
  rw [dec_eq]
  by_cases g : L < 9223372036854775808
  · rw [i64_lo g, if_pos (by omega), sgn_plus g]; rfl
  · rw [i64_hi g, if_neg (by omega), sgn_no_plus (by omega)]; rfl
theorem dec_minus {L : Nat} (h0 : 0 < L) (hL : L < 18446744073709551616) : resN (numV 32767 L 2) = sgn 2 true (18446744073709551616 - L) := by
  rw [dec_eq]
  by_cases g : L < 9223372036854775808
  · rw [i64_lo g, if_neg (by omega), sgn_no_minus (by omega)]; rfl
  · rw [i64_hi g, if_pos (by omega), sgn_minus (by omega)]
    show Except.ok (_, 12) = _
    have : (L : Int) - 18446744073709551616 = -((18446744073709551616 - L : Nat) : Int) := by omega
    rw [this]
theorem dec_zero {H : Nat} (h : H < 32768) : resN (numV H 0 2) = .error 20 := by
  rw [dec_eq, i64_lo (by omega), if_neg (by omega)]; rfl
theorem big_at {d L : Nat} (h : d < 10000) : whV (27768 + d) L = if (d * 18446744073709551616 + L) % 10000 = 0 then some ⟨1, (((d * 18446744073709551616 + L) / 10000 : Nat) : Int) - 9223372036854775808, ⟨#[]⟩⟩ else none := by
  unfold whV
  rw [show 27768 + d - 27768 = d by omega]
  by_cases e : (d * 18446744073709551616 + L) % 10000 = 0
  · rw [if_pos ⟨by omega, by omega, e⟩, if_pos e]
  · rw [if_neg (fun x => e x.2.2), if_neg e]
theorem big_far {H L : Nat} (h : 37768 ≤ H ∨ H < 27768) : whV H L = none := by unfold whV; rw [if_neg (by omega)]
theorem up_mod (h L : Nat) : ((h + 5000) * 18446744073709551616 + L) % 10000 = (h * 18446744073709551616 + L) % 10000 ∧ ((h + 5000) * 18446744073709551616 + L) / 10000 = (h * 18446744073709551616 + L) / 10000 + 9223372036854775808 := by
  have e : (h + 5000) * 18446744073709551616 + L = (h * 18446744073709551616 + L) + 9223372036854775808 * 10000 := by omega
  rw [e]
  exact ⟨Nat.add_mul_mod_self_right _ _ _, Nat.add_mul_div_right _ _ (by decide)⟩
theorem big_plus_no {h L : Nat} (hh : h < 10000) (hr : ¬ (h * 18446744073709551616 + L) % 10000 = 0) : resN (numV (32768 + h) L 1) = .error 20 := by
  rw [big_eq]
  by_cases g : h < 5000
  · rw [show 32768 + h = 27768 + (h + 5000) by omega, big_at (by omega), (up_mod h L).1, if_neg hr]; rfl
  · rw [big_far (by omega)]; rfl
theorem big_plus {h L : Nat} (hh : h < 10000) (hL : L < 18446744073709551616) (hr : (h * 18446744073709551616 + L) % 10000 = 0) : resN (numV (32768 + h) L 1) = sgn 1 false ((h * 18446744073709551616 + L) / 10000) := by
  rw [big_eq]
  by_cases g : h < 5000
  · have hu : (h * 18446744073709551616 + L) / 10000 < 9223372036854775808 := Nat.div_lt_of_lt_mul (by omega)
    rw [show 32768 + h = 27768 + (h + 5000) by omega, big_at (by omega), (up_mod h L).1, if_pos hr, (up_mod h L).2, sgn_plus hu]
    generalize (h * 18446744073709551616 + L) / 10000 = q
    show Except.ok (_, 12) = _
    rw [show (((q + 9223372036854775808 : Nat) : Int)) - 9223372036854775808 = (q : Int) by omega]
  · have hu : 9223372036854775808 ≤ (h * 18446744073709551616 + L) / 10000 := (Nat.le_div_iff_mul_le (by decide)).2 (by omega)
    rw [big_far (by omega), sgn_no_plus hu]; rfl
theorem big_far_plus {h L : Nat} (hh : ¬ h < 10000) : resN (numV (32768 + h) L 1) = .error 20 := by rw [big_eq, big_far (by omega)]; rfl
/-- below nought: U is how far; d = 32768 - H -/
theorem big_minus_far {H L U : Nat} (hH : H < 32768) (hL : L < 18446744073709551616) (hU : U = (32768 - H) * 18446744073709551616 - L) (hr : ¬ U % 10000 = 0) : resN (numV H L 1) = .error 20 := by
  rw [big_eq]
  by_cases g : H < 27768
  · rw [big_far (by omega)]; rfl
  · obtain ⟨d, rfl⟩ : ∃ d, H = 27768 + d := ⟨H - 27768, by omega⟩
    rw [big_at (by omega), if_neg]
    · rfl
    · intro hm
      obtain ⟨M, hM⟩ : ∃ M, M = d * 18446744073709551616 + L := ⟨_, rfl⟩
      rw [← hM] at hm
      have e : U + M = 9223372036854775808 * 10000 := by omega
      apply hr
      clear hU hM
      omega
theorem big_minus {H L U : Nat} (hH : H < 32768) (hL : L < 18446744073709551616) (hU : U = (32768 - H) * 18446744073709551616 - L) (hr : U % 10000 = 0) : resN (numV H L 1) = sgn 1 true (U / 10000) := by
  rw [big_eq]
  by_cases g : H < 27768
  · have hu : 9223372036854775808 < U / 10000 := by
      have : 9223372036854775808 * 10000 < U := by omega
      clear hU
      omega
    rw [big_far (by omega), sgn_no_minus hu]; rfl
  · obtain ⟨d, rfl⟩ : ∃ d, H = 27768 + d := ⟨H - 27768, by omega⟩
    obtain ⟨M, hM⟩ : ∃ M, M = d * 18446744073709551616 + L := ⟨_, rfl⟩
    have e : U + M = 9223372036854775808 * 10000 := by omega
    have hm : M % 10000 = 0 := by clear hU hM; omega
    have hq : ((M / 10000 : Nat) : Int) - 9223372036854775808 = -((U / 10000 : Nat) : Int) := by clear hU hM; omega
    have hu : U / 10000 ≤ 9223372036854775808 := by clear hU hM; omega
    rw [big_at (by omega), ← hM, if_pos hm, hq, sgn_minus hu]
    rfl
end Go.Proofs.YtedacccedbchaaaDoor
