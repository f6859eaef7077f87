/-
  Walks: the small calls; a packet that flies.
-/
import Derived.Test.YtbdlamlplfogjaaNtC
import Derived.RegionTactic
import Derived.BigRegion
import Derived.BigQuiet
import Derived.Deep.QuietTactic
namespace Go.Proofs.Ytbdlamlplfogjaa
open Go.RowKit Go.Maps Go.Joins
variable {P : Nat → Prop} {w w' : World} {n c : Nat} {S : St} {L : Ly}

set_option maxHeartbeats 1000000 in
set_option maxRecDepth 100000 in
theorem has_any (h : NetL P w n c S L) (k : Int) : Calls Try.prog 47 #[.pointer (some ⟨n, 0, none⟩), .int .i64 k] w fun e w' => e = .returned (.bool (decide (0 ≤ k ∧ k < S.N))) ∧ w' = w := by
  obtain ⟨c0, _⟩ := h.cs
  by_cases h1 : 0 ≤ k
  · by_cases h2 : k < S.N
    · rw [decide_eq_true ⟨h1, h2⟩]
      go_enter Try.func47, Try.ntmps47
      go_wp2_with fail
      go_ret
      exact ⟨rfl, rfl⟩
    · rw [decide_eq_false (fun e => h2 e.2)]
      go_enter Try.func47, Try.ntmps47
      go_wp2_with fail
      go_ret
      exact ⟨rfl, rfl⟩
  · rw [decide_eq_false (fun e => h1 e.1)]
    go_enter Try.func47, Try.ntmps47
    go_wp2_with fail
    go_ret
    exact ⟨rfl, rfl⟩
/-- whether it is there -/
def isS (S : St) (k : Int) : Bool := decide (0 ≤ k ∧ k < S.N) && !S.dn k.toNat
set_option maxHeartbeats 1000000 in
set_option maxRecDepth 100000 in
theorem Is_any (h : NetL P w n c S L) (k : Int) : Calls Try.prog 20 #[.pointer (some ⟨n, 0, none⟩), .int .i64 k] w fun e w' => e = .returned (.bool (isS S k)) ∧ w' = w := by
  obtain ⟨c0, _⟩ := h.cs
  have HS := mkHid (has_any h k)
  by_cases h1 : 0 ≤ k ∧ k < S.N
  · obtain ⟨i, rfl⟩ : ∃ i : Nat, k = (i : Int) := ⟨k.toNat, by omega⟩
    have hi : i < S.N := by omega
    obtain ⟨d0, _, _⟩ := h.cn hi
    have e : isS S (i : Int) = !S.dn i := by simp [isS, hi]
    rw [decide_eq_true h1] at HS
    rw [e]
    have h2 : (i : Int) < (S.N : Int) := by omega
    clear h h1 e
    go_enter Try.func20, Try.ntmps20
    go_wp2_with fail
    refine HS.out.mono ?_
    rintro e w1 ⟨rfl, hwx⟩; have hwx2 := hwx.symm; subst hwx2; clear hwx
    go_wp2_with fail
    go_ret
    exact ⟨rfl, rfl⟩
  · have e : isS S k = false := by simp only [isS, decide_eq_false h1, Bool.false_and]
    rw [decide_eq_false h1] at HS
    rw [e]
    clear h h1 e
    go_enter Try.func20, Try.ntmps20
    go_wp2_with fail
    refine HS.out.mono ?_
    rintro e w1 ⟨rfl, hwx⟩; have hwx2 := hwx.symm; subst hwx2; clear hwx
    go_wp2_with fail
    go_ret
    exact ⟨rfl, rfl⟩
set_option maxHeartbeats 1000000 in
set_option maxRecDepth 100000 in
theorem flies_any (h : NetL P w n c S L) (k : Int) : Calls Try.prog 59 #[.pointer (some ⟨n, 0, none⟩), .int .i64 k] w fun e w' => e = .returned (.bool (decide (0 ≤ k ∧ k < S.fl.length))) ∧ w' = w := by
  obtain ⟨_, _, c2, _⟩ := h.cs
  obtain ⟨pf, cap, hfv, _⟩ := h.fly.form
  rw [hfv] at c2
  clear hfv h
  by_cases h1 : 0 ≤ k
  · by_cases h2 : k < S.fl.length
    · rw [decide_eq_true ⟨h1, h2⟩]
      go_enter Try.func59, Try.ntmps59
      go_wp2_with fail
      go_ret
      exact ⟨rfl, rfl⟩
    · rw [decide_eq_false (fun e => h2 e.2)]
      go_enter Try.func59, Try.ntmps59
      go_wp2_with fail
      go_ret
      exact ⟨rfl, rfl⟩
  · rw [decide_eq_false (fun e => h1 e.1)]
    go_enter Try.func59, Try.ntmps59
    go_wp2_with fail
    go_ret
    exact ⟨rfl, rfl⟩
set_option maxHeartbeats 1000000 in
set_option maxRecDepth 100000 in
theorem epoch_any (x : Wy) (v : Value) (w : World) (hb : x.b < 1000000000000) : Calls Try.prog 50 #[wyV x v] w fun e w' => e = .returned (.int .u64 ((x.b + 1 : Nat) : Int)) ∧ w.grownBy w' none := by
  unfold wyV
  go_enter Try.func50, Try.ntmps50
  go_wp2_with fail
  go_ret
  exact ⟨rfl, World.grownBy_alloc w _ none⟩
set_option maxHeartbeats 1000000 in
set_option maxRecDepth 100000 in
theorem sent_any (x : Wy) (p : Option Addr) (cap : Nat) (w : World) (hb : x.t < 1000000000000) (hl : x.us.length < 1000000000000) : Calls Try.prog 49 #[wyV x (.slice p x.us.length cap)] w fun e w' => e = .returned (.int .u64 ((x.t + x.us.length : Nat) : Int)) ∧ w.grownBy w' none := by
  unfold wyV
  go_enter Try.func49, Try.ntmps49
  go_wp2_with fail
  go_ret
  exact ⟨rfl, World.grownBy_alloc w _ none⟩
set_option maxHeartbeats 1000000 in
set_option maxRecDepth 100000 in
theorem goes_any (p : Pk) (w : World) : Calls Try.prog 46 #[pkV p] w fun e w' => e = .returned (ky (if p.ack then p.t else p.f) (if p.ack then p.f else p.t)) ∧ w.grownBy w' none := by
  unfold pkV ky
  cases ha : p.ack with
  | true =>
    go_enter Try.func46, Try.ntmps46
    go_wp2_with fail
    refine bodyPost_ret (v := .agg #[.int .i64 p.t, .int .i64 p.f]) (by simp [results, Try.results46, go_sem]) rfl ?_
    exact ⟨rfl, grown_al (grown_al (grown_refl w) _) _⟩
  | false =>
    go_enter Try.func46, Try.ntmps46
    go_wp2_with fail
    refine bodyPost_ret (v := .agg #[.int .i64 p.f, .int .i64 p.t]) (by simp [results, Try.results46, go_sem]) rfl ?_
    exact ⟨rfl, grown_al (grown_al (grown_refl w) _) _⟩
end Go.Proofs.Ytbdlamlplfogjaa
