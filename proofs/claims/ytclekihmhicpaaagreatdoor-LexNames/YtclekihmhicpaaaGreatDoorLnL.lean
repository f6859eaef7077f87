/-
  The walk of the statement LexNames.
-/
import Derived.Test.YtclekihmhicpaaaGreatDoorLnJ
import Derived.Test.YtclekihmhicpaaaGreatDoorLxU
namespace Go.Proofs.YtclekihmhicpaaaGreatDoor
open Go.RowKit Go.Shelf

set_option maxHeartbeats 4000000 in
set_option maxRecDepth 1000000 in
theorem LexNames_gen (l : List UInt8) (n x y z : Int) (w : World) (hW : LxW w)
    (W1 : ∀ w, LxW w → Calls Tryz.prog 6 #[.string ⟨l.toArray⟩, .int .i64 n] w fun e w' => e = .returned (.tuple #[.int .i64 x, .int .i64 y, .int .i64 z]) ∧ Below w.heap.size w w')
    (W2 : ∀ w, Calls Tryz.prog 7 #[.string ⟨l.toArray⟩, .int .i64 n] w fun e w' => e = .returned (.tuple #[.int .i64 x, .int .i64 y, .int .i64 z]) ∧ Below w.heap.size w w') :
    Calls Tryz.prog 3 #[.string ⟨l.toArray⟩, .int .i64 n] w fun e w' => e = .returned (.bool true) ∧ Below w.heap.size w w' := by
  have W1 : Hid (∀ w, LxW w → Calls Tryz.prog 6 #[.string ⟨l.toArray⟩, .int .i64 n] w fun e w' => e = .returned (.tuple #[.int .i64 x, .int .i64 y, .int .i64 z]) ∧ Below w.heap.size w w') := W1
  have W2 : Hid (∀ w, Calls Tryz.prog 7 #[.string ⟨l.toArray⟩, .int .i64 n] w fun e w' => e = .returned (.tuple #[.int .i64 x, .int .i64 y, .int .i64 z]) ∧ Below w.heap.size w w') := W2
  have Q1 : Hid (∀ w, LxW w → Calls Tryz.prog 8 #[.string ⟨l.toArray⟩] w fun e w' => e = .returned (.tuple #[.string ⟨(qoS l).toArray⟩, .int .i64 (qoE l)]) ∧ Below w.heap.size w w') := fun w h => Quote_any l w h.m
  have Q2 : Hid (∀ w, Calls Tryz.prog 9 #[.string ⟨l.toArray⟩] w fun e w' => e = .returned (.tuple #[.string ⟨(qoS l).toArray⟩, .int .i64 (qoE l)]) ∧ Below w.heap.size w w') := fun w => refQuote_any l w
  have N1 : Hid (∀ w, Calls Tryz.prog 10 #[.string ⟨l.toArray⟩] w fun e w' => e = .returned (.bool (nmB l)) ∧ Below w.heap.size w w') := fun w => Name_any l w
  have N2 : Hid (∀ w, Calls Tryz.prog 11 #[.string ⟨l.toArray⟩] w fun e w' => e = .returned (.bool (nmB l)) ∧ Below w.heap.size w w') := fun w => refName_any l w
  have P1 : Hid (∀ w, Calls Tryz.prog 12 #[.string ⟨l.toArray⟩] w fun e w' => e = .returned (.bool (plB l)) ∧ Below w.heap.size w w') := fun w => Plain_any' l w
  have P2 : Hid (∀ w, Calls Tryz.prog 13 #[.string ⟨l.toArray⟩] w fun e w' => e = .returned (.bool (plB l)) ∧ Below w.heap.size w w') := fun w => (pl_eq l).symm ▸ refPlain_any l w
  have LV : Hid (∀ w, LxW w → Calls Tryz.prog 14 #[] w fun e w' => e = .returned (.bool true) ∧ Below w.heap.size w w') := lives_any
  have HW : Hid (LxW w) := hW
  generalize qoE l = qe at *
  generalize qoS l = qs at *
  generalize nmB l = nb at *
  generalize plB l = pb at *
  have rx : (x == x) = true := by simp
  have ry : (y == y) = true := by simp
  have rz : (z == z) = true := by simp
  have rq : (qe == qe) = true := by simp
  have rs : (qs == qs) = true := by simp
  have rn : (nb == nb) = true := by simp
  have rp : (pb == pb) = true := by simp
  clear hW
  go_enter Tryz.func3, Tryz.ntmps3
  go_wp2_with fail
  refine (W1.out _ HW.out).mono ?_
  rintro e w1 ⟨rfl, hb1⟩
  have B1 := hb1
  go_wp2_with fail
  refine (W2.out _).mono ?_
  rintro e w2 ⟨rfl, hb2⟩
  have B2 := B1.trans (hb2.mono B1.size)
  go_wp2_with fail
  refine (Q1.out _ (HW.out.below B2)).mono ?_
  rintro e w3 ⟨rfl, hb3⟩
  have B3 := B2.trans (hb3.mono B2.size)
  go_wp2_with fail
  refine (Q2.out _).mono ?_
  rintro e w4 ⟨rfl, hb4⟩
  have B4 := B3.trans (hb4.mono B3.size)
  go_wp2_with fail
  refine (N1.out _).mono ?_
  rintro e w5 ⟨rfl, hb5⟩
  have B5 := B4.trans (hb5.mono B4.size)
  go_wp2_with fail
  refine (N2.out _).mono ?_
  rintro e w6 ⟨rfl, hb6⟩
  have B6 := B5.trans (hb6.mono B5.size)
  go_wp2_with fail
  refine (P1.out _).mono ?_
  rintro e w7 ⟨rfl, hb7⟩
  have B7 := B6.trans (hb7.mono B6.size)
  go_wp2_with fail
  refine (P2.out _).mono ?_
  rintro e w8 ⟨rfl, hb8⟩
  have B8 := B7.trans (hb8.mono B7.size)
  go_wp2_with fail
  refine (LV.out _ (HW.out.below B8)).mono ?_
  rintro e w9 ⟨rfl, hb9⟩
  have B9 := B8.trans (hb9.mono B8.size)
  go_wp2_with fail
  go_ret
  exact ⟨rfl, B9⟩

theorem LexNames_any (l : List UInt8) (n : Int) (w : World) (hs : l.length ≤ 2000000) (hW : LxW w) :
    Calls Tryz.prog 3 #[.string ⟨l.toArray⟩, .int .i64 n] w fun e w' => e = .returned (.bool true) ∧ Below w.heap.size w w' := by
  by_cases h : n < 0 ∨ (l.length : Int) < n
  · exact LexNames_gen l n 0 0 1 w hW (fun w _ => Where_bad l n w h) (fun w => refWhere_bad l n w h)
  · obtain ⟨A, rfl⟩ : ∃ A : Nat, n = A := ⟨n.toNat, by omega⟩
    have hA : A ≤ l.length := by omega
    exact LexNames_gen l A _ _ _ w hW (fun w h => Where_any l A w hA hs h.t) (fun w => refWhere_any l A w hA hs)

theorem mk_toN (a : ByteArray) : (ByteArray.mk a.data.toList.toArray) = a := by cases a; simp
theorem LexNames_bytes (a : ByteArray) (n : Int) (w : World) (hs : a.data.toList.length ≤ 2000000) (hW : LxW w) :
    Calls Tryz.prog 3 #[.string a, .int .i64 n] w fun e w' => e = .returned (.bool true) ∧ Below w.heap.size w w' := by
  have h := LexNames_any a.data.toList n w hs hW
  rw [mk_toN] at h
  exact h
end Go.Proofs.YtclekihmhicpaaaGreatDoor
