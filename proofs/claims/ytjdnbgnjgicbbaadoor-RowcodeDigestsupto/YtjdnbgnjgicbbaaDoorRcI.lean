/-
  The walks of (*rowcode.Digest).Add, Sum and Len.
-/
import Derived.Test.YtjdnbgnjgicbbaaDoorRcH
import Derived.Deep.RegionWith
namespace Go.Proofs.YtjdnbgnjgicbbaaDoor
open Go.RowKit Go.Shelf

/-- all that lay there is as it was, but for block D -/
structure But (D : Nat) (w w' : World) : Prop where
  os : w'.os = w.os
  tape : w'.tape = w.tape
  output : w'.output = w.output
  size : w.heap.size ≤ w'.heap.size
  block : ∀ k, k < w.heap.size → k ≠ D → w'.heap[k]? = w.heap[k]?
theorem But.of {D : Nat} {w w' : World} (h : Below w.heap.size w w') : But D w w' := ⟨h.os, h.tape, h.output, h.size, fun k hk _ => h.block k hk⟩
theorem But.set {D : Nat} {w w' : World} (h : But D w w') {p : Addr} (hp : p.block = D) (u : Value) : But D w (w'.setCell p u) := by
  have e : (w'.setCell p u).os = w'.os ∧ (w'.setCell p u).tape = w'.tape ∧ (w'.setCell p u).output = w'.output ∧ w'.heap.size ≤ (w'.setCell p u).heap.size := by
    have b := (Below.refl 0 w').setCell (p := p) (Nat.zero_le _) u
    exact ⟨b.os, b.tape, b.output, b.size⟩
  exact ⟨e.1.trans h.os, e.2.1.trans h.tape, e.2.2.1.trans h.output, Nat.le_trans h.size e.2.2.2, fun k hk hne => (Below.heap_setCell w' p u k (by rw [hp]; exact hne)).trans (h.block k hk hne)⟩
/-- a digest's block -/
def dig (w : World) (D : Nat) (S R : Int) : Prop := w.heap[D]? = some (.cells #[.int .u64 S, .int .i64 R] 39 (0, 0))
theorem dig.lt {w : World} {D : Nat} {S R : Int} (h : dig w D S R) : D < w.heap.size := by
  rcases Nat.lt_or_ge D w.heap.size with g | g
  · exact g
  · unfold dig at h; rw [Array.getElem?_eq_none g] at h; cases h
theorem dig.c0 {w : World} {D : Nat} {S R : Int} (h : dig w D S R) : w.cell? ⟨D, 0, none⟩ = some (.int .u64 S) := by unfold dig at h; simp [World.cell?, h]
theorem dig.c1 {w : World} {D : Nat} {S R : Int} (h : dig w D S R) : w.cell? ⟨D, 1, none⟩ = some (.int .i64 R) := by unfold dig at h; simp [World.cell?, h]
theorem dig.f0 {w : World} {D : Nat} {S R : Int} (h : dig w D S R) : w.frozen? ⟨D, 0, none⟩ = false := by unfold dig at h; simp [World.frozen?, h]
theorem dig.f1 {w : World} {D : Nat} {S R : Int} (h : dig w D S R) : w.frozen? ⟨D, 1, none⟩ = false := by unfold dig at h; simp [World.frozen?, h]
theorem dig.below {w w' : World} {D : Nat} {S R : Int} (h : dig w D S R) (hb : Below w.heap.size w w') : dig w' D S R := (hb.block D h.lt).trans h

theorem dig.set0 {w : World} {D : Nat} {S R S' : Int} (h : dig w D S R) : dig (w.setCell ⟨D, 0, none⟩ (.int .u64 S')) D S' R := by
  have hlt := h.lt
  unfold dig at h
  have h' : w.heap[D] = .cells #[.int .u64 S, .int .i64 R] 39 (0, 0) := by simpa [Array.getElem?_eq_getElem hlt] using h
  show (w.heap.modify D _)[D]? = _
  rw [Array.getElem?_eq_getElem (by simpa using hlt), Array.getElem_modify_self, h']
  rfl
theorem dig.set1 {w : World} {D : Nat} {S R R' : Int} (h : dig w D S R) : dig (w.setCell ⟨D, 1, none⟩ (.int .i64 R')) D S R' := by
  have hlt := h.lt
  unfold dig at h
  have h' : w.heap[D] = .cells #[.int .u64 S, .int .i64 R] 39 (0, 0) := by simpa [Array.getElem?_eq_getElem hlt] using h
  show (w.heap.modify D _)[D]? = _
  rw [Array.getElem?_eq_getElem (by simpa using hlt), Array.getElem_modify_self, h']
  rfl

set_option maxHeartbeats 2000000 in
set_option maxRecDepth 1000000 in
theorem Add_bad (D : Nat) (p : Option Addr) (c : Nat) (la : List Va) (w : World) (E : Int) (hE : (E != 0) = true)
    (RO : Hid (Calls Tryd.prog 31 #[.slice p la.length c] w fun e w' => ∃ v', e = .returned (.tuple #[v', .int .i64 E]) ∧ Below w.heap.size w w')) :
    Calls Tryd.prog 18 #[.pointer (some ⟨D, 0, none⟩), .slice p la.length c] w fun e w' => e = .returned (.int .i64 E) ∧ Below w.heap.size w w' := by
  go_enter Tryd.func18, Tryd.ntmps18
  go_wp2_with fail
  refine RO.out.mono ?_
  rintro e w1 ⟨v1, rfl, hb1⟩
  go_wp2_with fail
  go_ret
  exact ⟨rfl, hb1⟩

set_option maxHeartbeats 4000000 in
set_option maxRecDepth 1000000 in
theorem Add_good (D : Nat) (S R : Int) (H : Nat) (l : List UInt8) (p : Option Addr) (c : Nat) (la : List Va) (w : World) (hR : -9223372036854775808 ≤ R ∧ R ≤ 9223372036854775806)
    (RO : Hid (Calls Tryd.prog 31 #[.slice p la.length c] w fun e w' => ∃ v', e = .returned (.tuple #[v', .int .i64 0]) ∧ Below w.heap.size w w' ∧ ownsB w' w.heap.size v' l))
    (HA : Hid (∀ base v w, ownsB w base v l → Calls Tryd.prog 12 #[v] w fun e w' => e = .returned (.int .u64 (H : Int)) ∧ w' = w)) (hD : dig w D S R) :
    Calls Tryd.prog 18 #[.pointer (some ⟨D, 0, none⟩), .slice p la.length c] w fun e w' => e = .returned (.int .i64 0) ∧ But D w w' ∧ dig w' D ((S + H) % 18446744073709551616) (R + 1) := by
  go_enter Tryd.func18, Tryd.ntmps18
  go_wp2_with fail
  refine RO.out.mono ?_
  rintro e w1 ⟨v1, rfl, hb1, ho1⟩
  have d1 := hD.below hb1
  have c0 := d1.c0
  have c1 := d1.c1
  have f0 := d1.f0
  have f1 := d1.f1
  go_wp2_with fail
  go_region_with ((go_at_call 12; refine (HA.out w.heap.size v1 _ (ho1.below (below_drewN (Below.refl _ _) 1))).mono ?_; rintro e w2 ⟨rfl, rfl⟩))
  all_goals
    go_wp2_with fail
    go_ret
    have bd : Below w.heap.size w (w1.drewN 1) := below_drewN hb1 1
    refine ⟨rfl, ((But.of (D := D) bd).set (p := ⟨D, 0, none⟩) rfl _).set (p := ⟨D, 1, none⟩) rfl _, ?_⟩
    have dd := ((hD.below bd).set0 (S' := IntKind.u64.wrap (S + H))).set1 (R' := R + 1)
    have e : IntKind.u64.wrap (S + H) = (S + H) % 18446744073709551616 := IntKind.wrap_u64 _
    rw [e] at dd
    rw [e]; exact dd
set_option maxHeartbeats 2000000 in
set_option maxRecDepth 1000000 in
theorem Drop_bad (D : Nat) (p : Option Addr) (c : Nat) (la : List Va) (w : World) (E : Int) (hE : (E != 0) = true)
    (RO : Hid (Calls Tryd.prog 31 #[.slice p la.length c] w fun e w' => ∃ v', e = .returned (.tuple #[v', .int .i64 E]) ∧ Below w.heap.size w w')) :
    Calls Tryd.prog 17 #[.pointer (some ⟨D, 0, none⟩), .slice p la.length c] w fun e w' => e = .returned (.int .i64 E) ∧ Below w.heap.size w w' := by
  go_enter Tryd.func17, Tryd.ntmps17
  go_wp2_with fail
  refine RO.out.mono ?_
  rintro e w1 ⟨v1, rfl, hb1⟩
  go_wp2_with fail
  go_ret
  exact ⟨rfl, hb1⟩

set_option maxHeartbeats 4000000 in
set_option maxRecDepth 1000000 in
theorem Drop_good (D : Nat) (S R : Int) (H : Nat) (l : List UInt8) (p : Option Addr) (c : Nat) (la : List Va) (w : World) (hR : -9223372036854775807 ≤ R ∧ R ≤ 9223372036854775807)
    (RO : Hid (Calls Tryd.prog 31 #[.slice p la.length c] w fun e w' => ∃ v', e = .returned (.tuple #[v', .int .i64 0]) ∧ Below w.heap.size w w' ∧ ownsB w' w.heap.size v' l))
    (HA : Hid (∀ base v w, ownsB w base v l → Calls Tryd.prog 12 #[v] w fun e w' => e = .returned (.int .u64 (H : Int)) ∧ w' = w)) (hD : dig w D S R) :
    Calls Tryd.prog 17 #[.pointer (some ⟨D, 0, none⟩), .slice p la.length c] w fun e w' => e = .returned (.int .i64 0) ∧ But D w w' ∧ dig w' D ((S - H) % 18446744073709551616) (R - 1) := by
  go_enter Tryd.func17, Tryd.ntmps17
  go_wp2_with fail
  refine RO.out.mono ?_
  rintro e w1 ⟨v1, rfl, hb1, ho1⟩
  have d1 := hD.below hb1
  have c0 := d1.c0
  have c1 := d1.c1
  have f0 := d1.f0
  have f1 := d1.f1
  go_wp2_with fail
  go_region_with ((go_at_call 12; refine (HA.out w.heap.size v1 _ (ho1.below (below_drewN (Below.refl _ _) 1))).mono ?_; rintro e w2 ⟨rfl, rfl⟩))
  all_goals
    go_wp2_with fail
    go_ret
    have bd : Below w.heap.size w (w1.drewN 1) := below_drewN hb1 1
    refine ⟨rfl, ((But.of (D := D) bd).set (p := ⟨D, 0, none⟩) rfl _).set (p := ⟨D, 1, none⟩) rfl _, ?_⟩
    have dd := ((hD.below bd).set0 (S' := IntKind.u64.wrap (S - H))).set1 (R' := R - 1)
    have e : IntKind.u64.wrap (S - H) = (S - H) % 18446744073709551616 := IntKind.wrap_u64 _
    rw [e] at dd
    rw [e]; exact dd

set_option maxHeartbeats 1000000 in
theorem Sum_any (D : Nat) (S R : Int) (w : World) (hD : dig w D S R) : Calls Tryd.prog 14 #[.pointer (some ⟨D, 0, none⟩)] w fun e w' => e = .returned (.int .u64 S) ∧ w' = w := by
  have c0 := hD.c0
  go_enter Tryd.func14, Tryd.ntmps14
  go_wp2
  go_ret
  exact ⟨rfl, rfl⟩
set_option maxHeartbeats 1000000 in
theorem Len_any (D : Nat) (S R : Int) (w : World) (hD : dig w D S R) : Calls Tryd.prog 15 #[.pointer (some ⟨D, 0, none⟩)] w fun e w' => e = .returned (.int .i64 R) ∧ w' = w := by
  have c1 := hD.c1
  go_enter Tryd.func15, Tryd.ntmps15
  go_wp2
  go_ret
  exact ⟨rfl, rfl⟩
end Go.Proofs.YtjdnbgnjgicbbaaDoor
