/-
  The walk of locksteplaw02.RowcodeGoes: two digests, the rows front to back and back to front.
-/
import Derived.Test.YtedacccedbchaaaDoorRcK
namespace Go.Proofs.YtedacccedbchaaaDoor
open Go.RowKit Go.Shelf

theorem errs_all : ∀ {l : List Va}, errs l = 0 → ∀ v ∈ l, v.chk = 0
  | [], _, v, hv => by simp at hv
  | x :: l, h, v, hv => by
    by_cases h0 : x.chk = 0
    · rw [errs_pass h0] at h
      rcases List.mem_cons.1 hv with rfl | hv
      · exact h0
      · exact errs_all h v hv
    · rw [errs_stop h0] at h; exact absurd h h0
theorem rowE_ok {la : List Va} (h : rowE la = 0) : la.length ≤ 16 ∧ ∀ v ∈ la, v.chk = 0 := by
  unfold rowE at h
  split at h
  · omega
  · exact ⟨by omega, errs_all h⟩
theorem rowB_len {la : List Va} (h : rowE la = 0) : (rowB la).length ≤ 1000000 := by
  obtain ⟨h1, h2⟩ := rowE_ok h
  have := rowsB_len la h2
  unfold rowB; rw [List.length_append]; simp; omega

/-- a row that came in: its slice, its values -/
structure Rw where
  p : Option Addr
  c : Nat
  la : List Va
/-- the rows of a list lie behind its place -/
def rowsIn (w : World) (P : Option Addr) (l : List Rw) : Prop := l = [] ∨ ∃ g off, P = some ⟨g, off, none⟩ ∧ g < w.heap.size ∧
  ∀ i r, l[i]? = some r → w.cell? ⟨g, off + i, none⟩ = some (.slice r.p r.la.length r.c)
/-- a row's values lie where it says -/
def rwOk (w : World) (r : Rw) : Prop := rowIn w r.p r.la ∧ (∀ v ∈ r.la, fit v.n) ∧ ∀ v ∈ r.la, v.s.size ≤ 9223372036854775807
theorem rwOk.below {w w' : World} {r : Rw} (h : rwOk w r) (hb : Below w.heap.size w w') : rwOk w' r := ⟨h.1.below hb, h.2⟩

def hsh (r : Rw) : Int := (hashN (rowB r.la) : Int)
def addS (S : Int) (r : Rw) : Int := if rowE r.la = 0 then (S + hsh r) % 18446744073709551616 else S
def addR (R : Int) (r : Rw) : Int := if rowE r.la = 0 then R + 1 else R
def subS (S : Int) (r : Rw) : Int := if rowE r.la = 0 then (S - hsh r) % 18446744073709551616 else S
def subR (R : Int) (r : Rw) : Int := if rowE r.la = 0 then R - 1 else R
theorem back_S {S : Int} {r : Rw} (h0 : 0 ≤ S) (h1 : S < 18446744073709551616) : addS (subS S r) r = S := by
  unfold addS subS; split
  · omega
  · rfl
theorem back_R {R : Int} {r : Rw} : addR (subR R r) r = R := by
  unfold addR subR; split
  · omega
  · rfl

theorem row_good {r : Rw} {w : World} (hr : rwOk w r) (h : rowE r.la = 0) (hT : Tabs w) :
    Calls Tryd.prog 7 #[.slice r.p r.la.length r.c] w fun e w' => ∃ v', e = .returned (.tuple #[v', .int .i64 0]) ∧ Below w.heap.size w w' ∧ ownsB w' w.heap.size v' (rowB r.la) := by
  have := Row_any r.p r.c r.la w hr.1 hr.2.1 hr.2.2 hT
  rw [h] at this
  refine this.mono ?_
  rintro e w' ⟨v', rfl, hb, ho, _⟩
  exact ⟨v', rfl, hb, ho rfl⟩
theorem row_bad {r : Rw} {w : World} (hr : rwOk w r) (hT : Tabs w) :
    Calls Tryd.prog 7 #[.slice r.p r.la.length r.c] w fun e w' => ∃ v', e = .returned (.tuple #[v', .int .i64 (rowE r.la)]) ∧ Below w.heap.size w w' := by
  refine (Row_any r.p r.c r.la w hr.1 hr.2.1 hr.2.2 hT).mono ?_
  rintro e w' ⟨v', rfl, hb, _⟩
  exact ⟨v', rfl, hb⟩

end Go.Proofs.YtedacccedbchaaaDoor
