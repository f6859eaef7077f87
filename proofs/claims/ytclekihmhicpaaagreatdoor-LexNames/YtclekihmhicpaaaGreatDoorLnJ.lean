/-
  The walks of Quote, of both.
-/
import Derived.Test.YtclekihmhicpaaaGreatDoorLnI
namespace Go.Proofs.YtclekihmhicpaaaGreatDoor
open Go.RowKit Go.Shelf

/-- a name as it is written, and what is wrong -/
def qoS (l : List UInt8) : List UInt8 := if nmB l = false then [] else if plB l = true ∧ ownB l = false then l else 34 :: (qdq l ++ [34])
def qoE (l : List UInt8) : Int := if nmB l = false then 6 else 0
theorem nm_len {l : List UInt8} (h : nmB l = true) : l.length ≤ 32 := by
  unfold nmB at h
  simp only [Bool.and_eq_true, decide_eq_true_eq] at h
  exact h.1.2
theorem pl_none {l : List UInt8} (h : plB l = true) : (32 : UInt8) ∉ l := by
  rw [pl_eq] at h
  unfold rpB at h
  rw [Bool.and_eq_true] at h
  intro e
  have := List.all_eq_true.1 h.2 32 e
  exact absurd this (by decide)
theorem cont_own {l : List UInt8} (h : plB l = true) : Lib.contains ownW (32 :: (l ++ [32])) = ownB l := own_eq l (pl_none h)
set_option maxHeartbeats 2000000 in
set_option maxRecDepth 1000000 in
theorem refQuote_any (l : List UInt8) (w : World) : Calls Tryz.prog 9 #[.string ⟨l.toArray⟩] w fun e w' => e = .returned (.tuple #[.string ⟨(qoS l).toArray⟩, .int .i64 (qoE l)]) ∧ Below w.heap.size w w' := by
  have NA : Hid (∀ w, Calls Tryz.prog 11 #[.string ⟨l.toArray⟩] w fun e w' => e = .returned (.bool (nmB l)) ∧ Below w.heap.size w w') := fun w => refName_any l w
  have PL : Hid (∀ w, Calls Tryz.prog 13 #[.string ⟨l.toArray⟩] w fun e w' => e = .returned (.bool (plB l)) ∧ Below w.heap.size w w') := fun w => (pl_eq l).symm ▸ refPlain_any l w
  cases hn : nmB l with
  | false =>
    rw [hn] at NA
    have E1 : Hid (qoS l = []) := by show _ = _; unfold qoS; rw [if_pos hn]
    have E2 : Hid (qoE l = 6) := by show _ = _; unfold qoE; rw [if_pos hn]
    clear hn PL
    go_enter Tryz.func9, Tryz.ntmps9
    go_wp2_with fail
    refine (NA.out _).mono ?_
    rintro e w1 ⟨rfl, hb1⟩
    clear NA
    go_wp2_with fail
    rw [E1.out, E2.out]
    go_ret2
    exact ⟨rfl, hb1⟩
  | true =>
    rw [hn] at NA
    have hl := nm_len hn
    have E2 : Hid (qoE l = 0) := by show _ = _; unfold qoE; rw [if_neg (by rw [hn]; decide)]
    have hq : qoS l = if plB l = true ∧ ownB l = false then l else 34 :: (qdq l ++ [34]) := by unfold qoS; rw [if_neg (by rw [hn]; decide)]
    have QU : Hid (∀ w, Calls Tryz.prog 26 #[.string ⟨l.toArray⟩, .int .u8 34] w fun e w' => e = .returned (.string ⟨(34 :: (qdq l ++ [34])).toArray⟩) ∧ Below w.heap.size w w') := fun w => Quoted34_any l w (by omega)
    cases hp : plB l with
    | false =>
      rw [hp] at PL
      have E1 : Hid (qoS l = 34 :: (qdq l ++ [34])) := by show _ = _; rw [hq, if_neg (by rw [hp]; rintro ⟨h, _⟩; cases h)]
      generalize (34 :: (qdq l ++ [34]) : List UInt8) = U at *
      clear hn hp hq
      go_enter Tryz.func9, Tryz.ntmps9
      go_wp2_with fail
      refine (NA.out _).mono ?_
      rintro e w1 ⟨rfl, hb1⟩
      clear NA
      go_wp2_with fail
      refine (PL.out _).mono ?_
      rintro e w2 ⟨rfl, hb2⟩
      have B2 := hb1.trans (hb2.mono hb1.size)
      clear PL hb1 hb2
      go_wp2_with fail
      refine (QU.out _).mono ?_
      rintro e w3 ⟨rfl, hb3⟩
      have B3 := B2.trans (hb3.mono B2.size)
      clear QU hb3
      go_wp2_with fail
      rw [E1.out, E2.out]
      go_ret2
      exact ⟨rfl, B3⟩
    | true =>
      rw [hp] at PL
      have OW : Hid (∀ w, Calls Tryz.prog 25 #[.string ⟨l.toArray⟩] w fun e w' => e = .returned (.bool (ownB l)) ∧ Below w.heap.size w w') := fun w => Own_any l w
      cases ho : ownB l with
      | true =>
        rw [ho] at OW
        have E1 : Hid (qoS l = 34 :: (qdq l ++ [34])) := by show _ = _; rw [hq, if_neg (by rw [ho]; rintro ⟨_, h⟩; cases h)]
        generalize (34 :: (qdq l ++ [34]) : List UInt8) = U at *
        clear hn hp hq ho
        go_enter Tryz.func9, Tryz.ntmps9
        go_wp2_with fail
        refine (NA.out _).mono ?_
        rintro e w1 ⟨rfl, hb1⟩
        clear NA
        go_wp2_with fail
        refine (PL.out _).mono ?_
        rintro e w2 ⟨rfl, hb2⟩
        have B2 := hb1.trans (hb2.mono hb1.size)
        clear PL hb1 hb2
        go_wp2_with fail
        refine (OW.out _).mono ?_
        rintro e w4 ⟨rfl, hb4⟩
        have B4 := B2.trans (hb4.mono B2.size)
        clear OW hb4
        go_wp2_with fail
        refine (QU.out _).mono ?_
        rintro e w3 ⟨rfl, hb3⟩
        have B3 := B4.trans (hb3.mono B4.size)
        clear QU hb3
        go_wp2_with fail
        rw [E1.out, E2.out]
        go_ret2
        exact ⟨rfl, B3⟩
      | false =>
        rw [ho] at OW
        have E1 : Hid (qoS l = l) := by show _ = _; rw [hq, if_pos ⟨hp, ho⟩]
        clear hn hp hq ho QU
        go_enter Tryz.func9, Tryz.ntmps9
        go_wp2_with fail
        refine (NA.out _).mono ?_
        rintro e w1 ⟨rfl, hb1⟩
        clear NA
        go_wp2_with fail
        refine (PL.out _).mono ?_
        rintro e w2 ⟨rfl, hb2⟩
        have B2 := hb1.trans (hb2.mono hb1.size)
        clear PL hb1 hb2
        go_wp2_with fail
        refine (OW.out _).mono ?_
        rintro e w4 ⟨rfl, hb4⟩
        have B4 := B2.trans (hb4.mono B2.size)
        clear OW hb4
        go_wp2_with fail
        rw [E1.out, E2.out]
        go_ret2
        exact ⟨rfl, B4⟩
set_option maxHeartbeats 2000000 in
set_option maxRecDepth 1000000 in
theorem Quote_any (l : List UInt8) (w : World) (hM : Mx w) : Calls Tryz.prog 8 #[.string ⟨l.toArray⟩] w fun e w' => e = .returned (.tuple #[.string ⟨(qoS l).toArray⟩, .int .i64 (qoE l)]) ∧ Below w.heap.size w w' := by
  have NA : Hid (∀ w, Calls Tryz.prog 10 #[.string ⟨l.toArray⟩] w fun e w' => e = .returned (.bool (nmB l)) ∧ Below w.heap.size w w') := fun w => Name_any l w
  have PL : Hid (∀ w, Calls Tryz.prog 12 #[.string ⟨l.toArray⟩] w fun e w' => e = .returned (.bool (plB l)) ∧ Below w.heap.size w w') := fun w => Plain_any' l w
  have HM : Hid (Mx w) := hM
  clear hM
  cases hn : nmB l with
  | false =>
    rw [hn] at NA
    have E1 : Hid (qoS l = []) := by show _ = _; unfold qoS; rw [if_pos hn]
    have E2 : Hid (qoE l = 6) := by show _ = _; unfold qoE; rw [if_pos hn]
    clear hn PL
    go_enter Tryz.func8, Tryz.ntmps8
    go_wp2_with fail
    refine (NA.out _).mono ?_
    rintro e w1 ⟨rfl, hb1⟩
    clear NA
    go_wp2_with fail
    rw [E1.out, E2.out]
    go_ret2
    exact ⟨rfl, hb1⟩
  | true =>
    rw [hn] at NA
    have hl := nm_len hn
    have E2 : Hid (qoE l = 0) := by show _ = _; unfold qoE; rw [if_neg (by rw [hn]; decide)]
    have hq : qoS l = if plB l = true ∧ ownB l = false then l else 34 :: (qdq l ++ [34]) := by unfold qoS; rw [if_neg (by rw [hn]; decide)]
    have QU : Hid (∀ w, Mx w → Calls Tryz.prog 24 #[.string ⟨l.toArray⟩] w fun e w' => e = .returned (.string ⟨(34 :: (qdq l ++ [34])).toArray⟩) ∧ Below w.heap.size w w') := fun w hM => inQuotes_any l w hl hM
    cases hp : plB l with
    | false =>
      rw [hp] at PL
      have E1 : Hid (qoS l = 34 :: (qdq l ++ [34])) := by show _ = _; rw [hq, if_neg (by rw [hp]; rintro ⟨h, _⟩; cases h)]
      generalize (34 :: (qdq l ++ [34]) : List UInt8) = U at *
      clear hn hp hq
      go_enter Tryz.func8, Tryz.ntmps8
      go_wp2_with fail
      refine (NA.out _).mono ?_
      rintro e w1 ⟨rfl, hb1⟩
      clear NA
      go_wp2_with fail
      refine (PL.out _).mono ?_
      rintro e w2 ⟨rfl, hb2⟩
      have B2 := hb1.trans (hb2.mono hb1.size)
      clear PL hb1 hb2
      go_wp2_with fail
      refine (QU.out _ (HM.out.below B2)).mono ?_
      rintro e w3 ⟨rfl, hb3⟩
      have B3 := B2.trans (hb3.mono B2.size)
      clear QU hb3
      go_wp2_with fail
      rw [E1.out, E2.out]
      go_ret2
      exact ⟨rfl, B3⟩
    | true =>
      rw [hp] at PL
      have OW : Hid (∀ w, Mx w → Calls Tryz.prog 23 #[.string ⟨ownW.toArray⟩, .string ⟨(32 :: (l ++ [32])).toArray⟩] w fun e w' => e = .returned (.bool (ownB l)) ∧ Below w.heap.size w w') := fun w hM => by
        have h := Contains_any ⟨ownW.toArray⟩ ⟨(32 :: (l ++ [32])).toArray⟩ w hM (by rw [size_mk]; decide)
        have e : Lib.contains (ByteArray.mk ownW.toArray).data.toList (ByteArray.mk (32 :: (l ++ [32])).toArray).data.toList = ownB l := by
          show Lib.contains ownW.toArray.toList (32 :: (l ++ [32]) : List UInt8).toArray.toList = _
          rw [List.toList_toArray, List.toList_toArray, cont_own hp]
        rw [e] at h
        exact h.mono (fun _ _ h => ⟨h.1, h.2 ▸ Below.refl _ _⟩)
      have s1 : (⟨#[32]⟩ : ByteArray) ++ ⟨l.toArray⟩ = ⟨(32 :: l).toArray⟩ := add_mk [32] l
      have s2 : (⟨(32 :: l).toArray⟩ : ByteArray) ++ ⟨#[32]⟩ = ⟨(32 :: (l ++ [32])).toArray⟩ := add_mk (32 :: l) [32]
      have s3 : 1 + l.length ≤ 9223372036854775807 := by omega
      have s4 : (32 :: l).length + 1 ≤ 9223372036854775807 := by simp; omega
      have s5 : (ByteArray.mk l.toArray).size = l.length := size_mk _
      obtain ⟨X1, hX1⟩ : ∃ X : List UInt8, X = 32 :: l := ⟨_, rfl⟩
      obtain ⟨X2, hX2⟩ : ∃ X : List UInt8, X = 32 :: (l ++ [32]) := ⟨_, rfl⟩
      rw [← hX1] at s1 s2 s4
      rw [← hX2] at s2 OW
      have s6 : (ByteArray.mk X1.toArray).size = X1.length := size_mk _
      clear hX1 hX2
      cases ho : ownB l with
      | true =>
        rw [ho] at OW
        have E1 : Hid (qoS l = 34 :: (qdq l ++ [34])) := by show _ = _; rw [hq, if_neg (by rw [ho]; rintro ⟨_, h⟩; cases h)]
        generalize (34 :: (qdq l ++ [34]) : List UInt8) = U at *
        clear hn hp hq ho
        go_enter Tryz.func8, Tryz.ntmps8
        go_wp2_with fail
        refine (NA.out _).mono ?_
        rintro e w1 ⟨rfl, hb1⟩
        clear NA
        go_wp2_with fail
        refine (PL.out _).mono ?_
        rintro e w2 ⟨rfl, hb2⟩
        have B2 := hb1.trans (hb2.mono hb1.size)
        clear PL hb1 hb2
        go_wp2_with fail
        refine (OW.out _ (HM.out.below B2)).mono ?_
        rintro e w4 ⟨rfl, hb4⟩
        have B4 := B2.trans (hb4.mono B2.size)
        clear OW hb4
        go_wp2_with fail
        refine (QU.out _ (HM.out.below B4)).mono ?_
        rintro e w3 ⟨rfl, hb3⟩
        have B3 := B4.trans (hb3.mono B4.size)
        clear QU hb3
        go_wp2_with fail
        rw [E1.out, E2.out]
        go_ret2
        exact ⟨rfl, B3⟩
      | false =>
        rw [ho] at OW
        have E1 : Hid (qoS l = l) := by show _ = _; rw [hq, if_pos ⟨hp, ho⟩]
        clear hn hp hq ho QU
        go_enter Tryz.func8, Tryz.ntmps8
        go_wp2_with fail
        refine (NA.out _).mono ?_
        rintro e w1 ⟨rfl, hb1⟩
        clear NA
        go_wp2_with fail
        refine (PL.out _).mono ?_
        rintro e w2 ⟨rfl, hb2⟩
        have B2 := hb1.trans (hb2.mono hb1.size)
        clear PL hb1 hb2
        go_wp2_with fail
        refine (OW.out _ (HM.out.below B2)).mono ?_
        rintro e w4 ⟨rfl, hb4⟩
        have B4 := B2.trans (hb4.mono B2.size)
        clear OW hb4
        go_wp2_with fail
        rw [E1.out, E2.out]
        go_ret2
        exact ⟨rfl, B4⟩
end Go.Proofs.YtclekihmhicpaaaGreatDoor
