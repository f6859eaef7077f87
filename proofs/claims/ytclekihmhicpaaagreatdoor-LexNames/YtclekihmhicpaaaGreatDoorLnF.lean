/-
  Names, of both: lex's Name and Plain, the reference's Name.
-/
import Derived.Test.YtclekihmhicpaaaGreatDoorLnE
namespace Go.Proofs.YtclekihmhicpaaaGreatDoor
open Go.RowKit Go.Shelf

/-- whether a text can be a name -/
def nmB (l : List UInt8) : Bool := decide (l ≠ []) && decide (l.length ≤ 32) && decide (badA l < 0)
def plB (l : List UInt8) : Bool := nmB l && decide (wsz l = l.length) && (Lib.toLowerA l == l)
set_option maxHeartbeats 2000000 in
set_option maxRecDepth 1000000 in
theorem Name_any (l : List UInt8) (w : World) : Calls Tryz.prog 10 #[.string ⟨l.toArray⟩] w fun e w' => e = .returned (.bool (nmB l)) ∧ Below w.heap.size w w' := by
  have BC : Hid (∀ w, Calls Tryz.prog 27 #[.string ⟨l.toArray⟩] w fun e w' => e = .returned (.int .i64 (badA l)) ∧ Below w.heap.size w w') := fun w => badCharacter_any l w
  have hzl : (ByteArray.mk l.toArray).size = l.length := size_mk l
  unfold nmB
  generalize badA l = B at *
  by_cases h0 : l = []
  · have b0 : (l == ([] : List UInt8)) = true := by rw [h0]; rfl
    have HE : Hid ((decide (l ≠ []) && decide (l.length ≤ 32) && decide (B < 0)) = false) := by show _ = _; rw [h0]; rfl
    generalize (decide (l ≠ []) && decide (l.length ≤ 32) && decide (B < 0)) = V at *
    clear h0 BC
    go_enter Tryz.func10, Tryz.ntmps10
    go_wp2_with fail
    rw [HE.out]
    go_ret
    exact ⟨rfl, Below.refl _ _⟩
  have b0 : (l == ([] : List UInt8)) = false := by rw [beq_eq_false_iff_ne]; exact h0
  by_cases h1 : l.length ≤ 32
  · have i1 : (l.length : Int) ≤ 32 := by omega
    have HE : Hid ((decide (l ≠ []) && decide (l.length ≤ 32) && decide (B < 0)) = decide (B < 0)) := by show _ = _; rw [decide_eq_true h0, decide_eq_true h1]; rfl
    generalize (decide (l ≠ []) && decide (l.length ≤ 32) && decide (B < 0)) = V at *
    clear h0 h1
    go_enter Tryz.func10, Tryz.ntmps10
    go_wp2_with fail
    refine (BC.out _).mono ?_
    rintro e w1 ⟨rfl, hb1⟩
    clear BC
    go_wp2_with fail
    rw [HE.out]
    go_ret
    exact ⟨rfl, hb1⟩
  · have i1 : ¬ (l.length : Int) ≤ 32 := by omega
    have HE : Hid ((decide (l ≠ []) && decide (l.length ≤ 32) && decide (B < 0)) = false) := by show _ = _; rw [decide_eq_false h1]; simp
    generalize (decide (l ≠ []) && decide (l.length ≤ 32) && decide (B < 0)) = V at *
    clear h0 h1 BC
    go_enter Tryz.func10, Tryz.ntmps10
    go_wp2_with fail
    rw [HE.out]
    go_ret
    exact ⟨rfl, Below.refl _ _⟩
set_option maxHeartbeats 2000000 in
set_option maxRecDepth 1000000 in
theorem refName_any (l : List UInt8) (w : World) : Calls Tryz.prog 11 #[.string ⟨l.toArray⟩] w fun e w' => e = .returned (.bool (nmB l)) ∧ Below w.heap.size w w' := by
  have hzl : (ByteArray.mk l.toArray).size = l.length := size_mk l
  by_cases h0 : l.length < 1
  · have i0 : (l.length : Int) < 1 := by omega
    have HE : Hid (nmB l = false) := by
      show _ = _
      have : l = [] := List.eq_nil_of_length_eq_zero (by omega)
      rw [this]; rfl
    clear h0
    go_enter Tryz.func11, Tryz.ntmps11
    go_wp2_with fail
    rw [HE.out]
    go_ret
    exact ⟨rfl, Below.refl _ _⟩
  have i0 : ¬ (l.length : Int) < 1 := by omega
  by_cases h1 : 32 < l.length
  · have i1 : (32 : Int) < (l.length : Int) := by omega
    have HE : Hid (nmB l = false) := by show _ = _; unfold nmB; rw [decide_eq_false (by omega : ¬ l.length ≤ 32)]; simp
    clear h0 h1
    go_enter Tryz.func11, Tryz.ntmps11
    go_wp2_with fail
    rw [HE.out]
    go_ret
    exact ⟨rfl, Below.refl _ _⟩
  have i1 : ¬ (32 : Int) < (l.length : Int) := by omega
  have HN : Hid (nmB l = decide (badA l < 0)) := by
    show _ = _
    unfold nmB
    rw [decide_eq_true (by omega : l.length ≤ 32), decide_eq_true (by rintro rfl; simp at h0 : l ≠ [])]; rfl
  have FI : Hid (∀ (k : Nat) w, Calls Tryz.prog 22 #[.string ⟨(l.drop k).toArray⟩] w fun e w' => e = .returned (.tuple #[.int .i32 (fst1 (l.drop k)), .int .i64 (fst2 (l.drop k) : Nat)]) ∧ Below w.heap.size w w') := fun k w => first_any _ w (by rw [List.length_drop]; omega)
  have hex : ∀ k, (ByteArray.mk l.toArray).extract k l.length = ByteArray.mk (l.drop k).toArray := fun k => by rw [extract_mk, List.take_length]
  have H0 : Hid (badF l.length 0 (l.drop 0) = badA l) := rfl
  go_enter Tryz.func11, Tryz.ntmps11
  go_wp2_with fail
  go_loopw [3] (fun s3 wr => ∃ (i f : Nat), s3 = .int .i64 (i : Nat) ∧ i ≤ l.length ∧ l.length ≤ i + f ∧ Hid (badF f i (l.drop i) = badA l) ∧ Hid (Below w.heap.size w wr)) (fun s3 _ => l.length - (intOf s3).toNat)
  case atStart => exact ⟨0, l.length, rfl, by omega, by omega, H0, Below.refl _ _⟩
  case round =>
    obtain ⟨i, f, rfl, hi, hf, hst, hbr⟩ := hrel
    by_cases hlt : i < l.length
    · have hlti : (i : Int) < (l.length : Int) := by omega
      obtain ⟨f, rfl⟩ : ∃ g, f = g + 1 := ⟨f - 1, by omega⟩
      have hexi := hex i
      have hii : (i : Int) ≤ (l.length : Int) := by omega
      have hwp := wd_pos l i
      have h4 := wd_four l i
      have hwl := wd_le l i hlt
      have hne : ¬ l.drop i = [] := by intro e; have := congrArg List.length e; simp at this; omega
      have h2 := hst.out
      rw [badF, if_neg hne] at h2
      have F0 := FI.out i
      have hf2 : fst2 (l.drop i) = if badHere (l.drop i) = true then 0 else wd l i := by unfold fst2 wd; simp [hne]
      cases hB : badHere (l.drop i) with
      | true =>
        rw [hB, if_pos rfl] at hf2
        rw [hB, if_pos rfl] at h2
        have HE : Hid (nmB l = false) := by show _ = _; rw [HN.out, ← h2]; simp
        rw [hf2] at F0
        have F1 : Hid _ := F0
        generalize fst1 (l.drop i) = R at *
        generalize l.drop i = D at *
        clear hst h2 FI hex H0 HN hB hf2 F0 hne
        go_wp2_with fail
        refine (F1.out _).mono ?_
        rintro e w1 ⟨rfl, hb1⟩
        have B1 := hbr.out.trans (hb1.mono hbr.out.size)
        clear F1 hb1
        go_wp2_with fail
        rw [HE.out]
        go_ret
        exact ⟨rfl, B1⟩
      | false =>
        rw [hB, if_neg (by decide)] at hf2
        rw [hB, if_neg (by decide), List.drop_drop] at h2
        have HE : Hid (badF f (i + wd l i) (l.drop (i + wd l i)) = badA l) := h2
        rw [hf2] at F0
        have F1 : Hid _ := F0
        generalize wd l i = W at *
        generalize fst1 (l.drop i) = R at *
        generalize l.drop i = D at *
        have nb : ((W : Int) == 0) = false := by rw [beq_eq_false_iff_ne]; omega
        clear hst h2 FI hex H0 HN hB hf2 F0 hne
        go_wp2_with fail
        refine (F1.out _).mono ?_
        rintro e w1 ⟨rfl, hb1⟩
        have B1 := hbr.out.trans (hb1.mono hbr.out.size)
        clear F1 hb1
        go_wp2_with fail
        go_roundw
        case rel => exact ⟨i + W, f, by go_num, by omega, by omega, HE, B1⟩
        case measure => simp [intOf]; omega
    · have hlti : ¬ (i : Int) < (l.length : Int) := by omega
      have h2 := hst.out
      rw [List.drop_eq_nil_of_le (by omega), badF_end] at h2
      have HE : Hid (nmB l = true) := by show _ = _; rw [HN.out, ← h2]; rfl
      have hbb := hbr.out
      clear hst h2 FI hex H0 HN hbr
      go_wp2_with fail
      rw [HE.out]
      go_ret
      exact ⟨rfl, hbb⟩
set_option maxHeartbeats 2000000 in
set_option maxRecDepth 1000000 in
theorem Plain_any' (l : List UInt8) (w : World) : Calls Tryz.prog 12 #[.string ⟨l.toArray⟩] w fun e w' => e = .returned (.bool (plB l)) ∧ Below w.heap.size w w' := by
  have NA : Hid (∀ w, Calls Tryz.prog 10 #[.string ⟨l.toArray⟩] w fun e w' => e = .returned (.bool (nmB l)) ∧ Below w.heap.size w w') := fun w => Name_any l w
  have hzl : (ByteArray.mk l.toArray).size = l.length := size_mk l
  unfold plB
  cases hn : nmB l with
  | false =>
    rw [hn] at NA
    have HE : Hid ((false && decide (wsz l = l.length) && (Lib.toLowerA l == l)) = false) := rfl
    generalize (false && decide (wsz l = l.length) && (Lib.toLowerA l == l)) = V at *
    clear hn
    go_enter Tryz.func12, Tryz.ntmps12
    go_wp2_with fail
    refine (NA.out _).mono ?_
    rintro e w1 ⟨rfl, hb1⟩
    clear NA
    go_wp2_with fail
    rw [HE.out]
    go_ret
    exact ⟨rfl, hb1⟩
  | true =>
    rw [hn] at NA
    have hl : l.length ≤ 32 := by
      unfold nmB at hn
      simp only [Bool.and_eq_true, decide_eq_true_eq] at hn
      exact hn.1.2
    have WS : Hid (∀ w, Calls Tryz.prog 28 #[.string ⟨l.toArray⟩] w fun e w' => e = .returned (.int .i64 (wsz l : Nat)) ∧ Below w.heap.size w w') := fun w => wordSize_any l w (by omega)
    by_cases hw : wsz l = l.length
    · have TL : Hid (∀ w, Calls Tryz.prog 29 #[.string ⟨l.toArray⟩] w fun e w' => e = .returned (.string ⟨(Lib.toLowerA l).toArray⟩) ∧ Below w.heap.size w w') := fun w => ToLower_any l w (by omega) (by
        have := wsz_ascii l
        rw [hw, List.take_length] at this
        exact this)
      have HE : Hid ((true && decide (wsz l = l.length) && (Lib.toLowerA l == l)) = (Lib.toLowerA l == l)) := by show _ = _; rw [decide_eq_true hw]; rfl
      rw [hw] at WS
      generalize (true && decide (wsz l = l.length) && (Lib.toLowerA l == l)) = V at *
      generalize Lib.toLowerA l = L2 at *
      have hwb : ((l.length : Int) == (l.length : Int)) = true := by simp
      clear hn hw hl
      go_enter Tryz.func12, Tryz.ntmps12
      go_wp2_with fail
      refine (NA.out _).mono ?_
      rintro e w1 ⟨rfl, hb1⟩
      clear NA
      go_wp2_with fail
      refine (WS.out _).mono ?_
      rintro e w2 ⟨rfl, hb2⟩
      have B2 := hb1.trans (hb2.mono hb1.size)
      clear WS hb1 hb2
      go_wp2_with fail
      refine (TL.out _).mono ?_
      rintro e w3 ⟨rfl, hb3⟩
      have B3 := B2.trans (hb3.mono B2.size)
      clear TL hb3 B2
      go_wp2_with fail
      rw [HE.out]
      go_ret
      exact ⟨rfl, B3⟩
    · have HE : Hid ((true && decide (wsz l = l.length) && (Lib.toLowerA l == l)) = false) := by show _ = _; rw [decide_eq_false hw]; rfl
      have hwb : (((wsz l : Nat) : Int) == (l.length : Int)) = false := by rw [beq_eq_false_iff_ne]; omega
      generalize (true && decide (wsz l = l.length) && (Lib.toLowerA l == l)) = V at *
      generalize wsz l = W at *
      clear hn hw hl
      go_enter Tryz.func12, Tryz.ntmps12
      go_wp2_with fail
      refine (NA.out _).mono ?_
      rintro e w1 ⟨rfl, hb1⟩
      clear NA
      go_wp2_with fail
      refine (WS.out _).mono ?_
      rintro e w2 ⟨rfl, hb2⟩
      have B2 := hb1.trans (hb2.mono hb1.size)
      clear WS hb1 hb2
      go_wp2_with fail
      rw [HE.out]
      go_ret
      exact ⟨rfl, B2⟩
end Go.Proofs.YtclekihmhicpaaaGreatDoor
