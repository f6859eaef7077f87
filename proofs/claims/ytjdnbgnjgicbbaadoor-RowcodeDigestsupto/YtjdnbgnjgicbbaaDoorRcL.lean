/-
  The walk of locksteplaw02.RowcodeGoes: two digests, the rows front to back and back to front.
-/
import Derived.Test.YtjdnbgnjgicbbaaDoorRcK
namespace Go.Proofs.YtjdnbgnjgicbbaaDoor
open Go.RowKit Go.Shelf

theorem errs_all : ∀ {l : List Va}, errs l = 0 → ∀ v ∈ l, v.chk = 0
  | [], _, v, hv => by simp at hv
  | x :: l, h, v, hv => by
    by_cases h0 : x.chk = 0
    · rw [errs_pass h0] at h
      rcases List.mem_cons.1 hv with rfl | hv
      · exact h0
      · exact errs_all h v hv
    · rw [errs_stop h0] at h; exact absurd h h0
theorem rowE_ok {la : List Va} (h : rowE la = 0) : la.length ≤ 16 ∧ ∀ v ∈ la, v.chk = 0 := by
  unfold rowE at h
  split at h
  · omega
  · exact ⟨by omega, errs_all h⟩
theorem rowB_len {la : List Va} (h : rowE la = 0) : (rowB la).length ≤ 1000000 := by
  obtain ⟨h1, h2⟩ := rowE_ok h
  have := rowsB_len la h2
  unfold rowB; rw [List.length_append]; simp; omega

/-- a row that came in: its slice, its values -/
structure Rw where
  p : Option Addr
  c : Nat
  la : List Va
/-- the rows of a list lie behind its place -/
def rowsIn (w : World) (P : Option Addr) (l : List Rw) : Prop := l = [] ∨ ∃ g off, P = some ⟨g, off, none⟩ ∧ g < w.heap.size ∧
  ∀ i r, l[i]? = some r → w.cell? ⟨g, off + i, none⟩ = some (.slice r.p r.la.length r.c)
/-- a row's values lie where it says -/
def rwOk (w : World) (r : Rw) : Prop := rowIn w r.p r.la ∧ (∀ v ∈ r.la, fit v.n) ∧ ∀ v ∈ r.la, v.s.size ≤ 9223372036854775807
theorem rwOk.below {w w' : World} {r : Rw} (h : rwOk w r) (hb : Below w.heap.size w w') : rwOk w' r := ⟨h.1.below hb, h.2⟩

def hsh (r : Rw) : Int := (hashN (rowB r.la) : Int)
def addS (S : Int) (r : Rw) : Int := if rowE r.la = 0 then (S + hsh r) % 18446744073709551616 else S
def addR (R : Int) (r : Rw) : Int := if rowE r.la = 0 then R + 1 else R
def subS (S : Int) (r : Rw) : Int := if rowE r.la = 0 then (S - hsh r) % 18446744073709551616 else S
def subR (R : Int) (r : Rw) : Int := if rowE r.la = 0 then R - 1 else R
theorem back_S {S : Int} {r : Rw} (h0 : 0 ≤ S) (h1 : S < 18446744073709551616) : addS (subS S r) r = S := by
  unfold addS subS; split
  · omega
  · rfl
theorem back_R {R : Int} {r : Rw} : addR (subR R r) r = R := by
  unfold addR subR; split
  · omega
  · rfl

theorem row_good {r : Rw} {w : World} (hr : rwOk w r) (h : rowE r.la = 0) (hT : Tabs w) :
    Calls Tryd.prog 31 #[.slice r.p r.la.length r.c] w fun e w' => ∃ v', e = .returned (.tuple #[v', .int .i64 0]) ∧ Below w.heap.size w w' ∧ ownsB w' w.heap.size v' (rowB r.la) := by
  have := Row_any r.p r.c r.la w hr.1 hr.2.1 hr.2.2 hT
  rw [h] at this
  refine this.mono ?_
  rintro e w' ⟨v', rfl, hb, ho, _⟩
  exact ⟨v', rfl, hb, ho rfl⟩
theorem row_bad {r : Rw} {w : World} (hr : rwOk w r) (hT : Tabs w) :
    Calls Tryd.prog 31 #[.slice r.p r.la.length r.c] w fun e w' => ∃ v', e = .returned (.tuple #[v', .int .i64 (rowE r.la)]) ∧ Below w.heap.size w w' := by
  refine (Row_any r.p r.c r.la w hr.1 hr.2.1 hr.2.2 hT).mono ?_
  rintro e w' ⟨v', rfl, hb, _⟩
  exact ⟨v', rfl, hb⟩

theorem Add_any (D : Nat) (S R : Int) (r : Rw) (w : World) (hR : rowE r.la = 0 → -9223372036854775808 ≤ R ∧ R ≤ 9223372036854775806) (hr : rwOk w r) (hT : Tabs w) (hD : dig w D S R) :
    Calls Tryd.prog 18 #[.pointer (some ⟨D, 0, none⟩), .slice r.p r.la.length r.c] w fun e w' => e = .returned (.int .i64 (rowE r.la)) ∧ But D w w' ∧ dig w' D (addS S r) (addR R r) := by
  by_cases h : rowE r.la = 0
  · have e1 : addS S r = (S + hsh r) % 18446744073709551616 := if_pos h
    have e2 : addR R r = R + 1 := if_pos h
    rw [e1, e2, h]
    exact Add_good D S R (hashN (rowB r.la)) (rowB r.la) r.p r.c r.la w (hR h) (row_good hr h hT) (fun base v w ho => Hash_any base v _ w ho (Nat.le_trans (rowB_len h) (by decide))) hD
  · have e1 : addS S r = S := if_neg h
    have e2 : addR R r = R := if_neg h
    rw [e1, e2]
    refine (Add_bad D r.p r.c r.la w (rowE r.la) (by rw [bne_iff_ne]; exact h) (row_bad hr hT)).mono ?_
    rintro e w' ⟨rfl, hb⟩
    exact ⟨rfl, But.of hb, hD.below hb⟩

theorem Drop_any (D : Nat) (S R : Int) (r : Rw) (w : World) (hR : rowE r.la = 0 → -9223372036854775807 ≤ R ∧ R ≤ 9223372036854775807) (hr : rwOk w r) (hT : Tabs w) (hD : dig w D S R) :
    Calls Tryd.prog 17 #[.pointer (some ⟨D, 0, none⟩), .slice r.p r.la.length r.c] w fun e w' => e = .returned (.int .i64 (rowE r.la)) ∧ But D w w' ∧ dig w' D (subS S r) (subR R r) := by
  by_cases h : rowE r.la = 0
  · have e1 : subS S r = (S - hsh r) % 18446744073709551616 := if_pos h
    have e2 : subR R r = R - 1 := if_pos h
    rw [e1, e2, h]
    exact Drop_good D S R (hashN (rowB r.la)) (rowB r.la) r.p r.c r.la w (hR h) (row_good hr h hT) (fun base v w ho => Hash_any base v _ w ho (Nat.le_trans (rowB_len h) (by decide))) hD
  · have e1 : subS S r = S := if_neg h
    have e2 : subR R r = R := if_neg h
    rw [e1, e2]
    refine (Drop_bad D r.p r.c r.la w (rowE r.la) (by rw [bne_iff_ne]; exact h) (row_bad hr hT)).mono ?_
    rintro e w' ⟨rfl, hb⟩
    exact ⟨rfl, But.of hb, hD.below hb⟩

/-- all below a base is as it was -/
theorem But.below {D : Nat} {w w' : World} (h : But D w w') {base : Nat} (hb : base ≤ D) (hs : base ≤ w.heap.size) : Below base w w' :=
  ⟨h.os, h.tape, h.output, h.size, fun k hk => h.block k (Nat.lt_of_lt_of_le hk hs) (by omega)⟩
theorem But.dig {D E : Nat} {w w' : World} (h : But D w w') {S R : Int} (hd : dig w E S R) (hne : E ≠ D) : dig w' E S R := (h.block E hd.lt hne).trans hd

def sumR (l : List Rw) : Int := (l.map hsh).sum
theorem sumR_next {l : List Rw} {k : Nat} {r : Rw} (h : l[k]? = some r) : sumR (l.take (k + 1)) = sumR (l.take k) + hsh r := by
  unfold sumR
  rw [List.take_add_one, h, List.map_append, sum_app]
  congr 1
theorem sumR_rev (l : List Rw) : sumR l.reverse = sumR l := by
  unfold sumR; rw [List.map_reverse]; exact sum_rev _
/-- a sum, within 64 bits -/
def md (S : Int) : Int := S % 18446744073709551616
theorem md_lo (S : Int) : 0 ≤ md S := by unfold md; omega
theorem md_hi (S : Int) : md S < 18446744073709551616 := by unfold md; omega
theorem add_md {l : List Rw} {k : Nat} {r : Rw} (h : l[k]? = some r) (h0 : rowE r.la = 0) : addS (md (sumR (l.take k))) r = md (sumR (l.take (k + 1))) := by
  rw [sumR_next h]; unfold addS md; rw [if_pos h0]; omega
theorem sub_md {T : Int} {l : List Rw} {k : Nat} {r : Rw} (h : l[k]? = some r) (h0 : rowE r.la = 0) : subS (md (T - sumR (l.take k))) r = md (T - sumR (l.take (k + 1))) := by
  rw [sumR_next h]; unfold subS md; rw [if_pos h0]; omega
theorem add_r {R : Int} {r : Rw} (h0 : rowE r.la = 0) : addR R r = R + 1 := if_pos h0
theorem sub_r {R : Int} {r : Rw} (h0 : rowE r.la = 0) : subR R r = R - 1 := if_pos h0
end Go.Proofs.YtjdnbgnjgicbbaaDoor
