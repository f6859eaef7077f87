/-
  The walks of the reference's Where and Name, and of lex's Name and Plain.
-/
import Derived.Test.YtclekihmhicpaaaGreatDoorLnD
namespace Go.Proofs.YtclekihmhicpaaaGreatDoor
open Go.RowKit Go.Shelf

theorem bad_width {l : List UInt8} (h : badHere l = true) : (Lib.decodeL l).2 = 1 := by
  by_cases hr : (Lib.decodeL l).1 = 65533
  · refine decode_bad l hr ?_
    rw [← pre_repl]
    unfold badHere at h
    rw [hr] at h
    simpa using h
  · have h0 : (Lib.decodeL l).1 = 0 := by
      unfold badHere at h
      rw [decide_eq_false hr] at h
      simpa using h
    have h1 := Lib.runeLen_decode l hr
    rw [h0] at h1
    have : Lib.runeLen ((0 : Nat) : Int) = 1 := by decide
    omega
theorem nl_at {l : List UInt8} {k : Nat} {x : UInt8} (hx : l[k]? = some x) : (Lib.decodeL (l.drop k)).1 = 10 ↔ x.toNat = 10 := by
  rw [drop_of_get hx]
  by_cases h : x.toNat < 128
  · rw [Lib.decodeL_ascii x _ h]
  · have h1 := dec_drop (x :: l.drop (k + 1)) 0
    rw [List.drop_zero] at h1
    have h2 := (decode_high ⟨(x :: l.drop (k + 1)).toArray⟩ 0 (by rw [size_mk]; simp) (by
      have : (ByteArray.mk (x :: l.drop (k + 1)).toArray)[0]'(by rw [size_mk]; simp) = x := rfl
      rw [this]; omega)).1
    rw [h1]
    omega
theorem whF_stop {l : List UInt8} {A f i a b : Nat} (h : i < A) (h2 : A < i + wd l i) : whF l A (f + 1) i a b = (a, b) := by rw [whF, if_pos h, if_pos h2]
theorem whF_nl {l : List UInt8} {A f i a b : Nat} (h : i < A) (h2 : ¬ A < i + wd l i) (h3 : (Lib.decodeL (l.drop i)).1 = 10) : whF l A (f + 1) i a b = whF l A f (i + wd l i) (a + 1) 1 := by rw [whF, if_pos h, if_neg h2, if_pos h3]
theorem whF_other {l : List UInt8} {A f i a b : Nat} (h : i < A) (h2 : ¬ A < i + wd l i) (h3 : ¬ (Lib.decodeL (l.drop i)).1 = 10) : whF l A (f + 1) i a b = whF l A f (i + wd l i) a (b + 1) := by rw [whF, if_pos h, if_neg h2, if_neg h3]
theorem whF_end {l : List UInt8} {A f i a b : Nat} (h : ¬ i < A) : whF l A f i a b = (a, b) := by cases f with
  | zero => rfl
  | succ f => rw [whF, if_neg h]
theorem whF_all (l : List UInt8) (A : Nat) (hA : A ≤ l.length) : whF l A (A + 1) 0 1 1 = whr l A := by
  have hB := bgn_le l A
  have hl : (l.take (bgn l A)).length = bgn l A := by rw [List.length_take]; omega
  have h := wh_eq l A hA (A + 1) (l.take (bgn l A)).length 0 1 1 (noSpan_zero l) (by omega) (by omega) (by omega)
  rw [List.drop_zero] at h
  exact h
set_option maxHeartbeats 2000000 in
set_option maxRecDepth 1000000 in
theorem refWhere_any (l : List UInt8) (A : Nat) (w : World) (hA : A ≤ l.length) (hs : l.length ≤ 2000000) :
    Calls Tryz.prog 7 #[.string ⟨l.toArray⟩, .int .i64 (A : Nat)] w fun e w' => e = .returned (.tuple #[.int .i64 ((whr l A).1 : Nat), .int .i64 ((whr l A).2 : Nat), .int .i64 0]) ∧ Below w.heap.size w w' := by
  have FI : Hid (∀ (k : Nat) w, Calls Tryz.prog 22 #[.string ⟨(l.drop k).toArray⟩] w fun e w' => e = .returned (.tuple #[.int .i32 (fst1 (l.drop k)), .int .i64 (fst2 (l.drop k) : Nat)]) ∧ Below w.heap.size w w') := fun k w => first_any _ w (by rw [List.length_drop]; omega)
  have hzl : (ByteArray.mk l.toArray).size = l.length := size_mk l
  have hex : ∀ k, (ByteArray.mk l.toArray).extract k l.length = ByteArray.mk (l.drop k).toArray := fun k => by rw [extract_mk, List.take_length]
  have H0 : Hid (whF l A (A + 1) 0 1 1 = whr l A) := whF_all l A hA
  have i1 : ¬ (A : Int) < 0 := by omega
  have i2 : ¬ (l.length : Int) < (A : Int) := by omega
  go_enter Tryz.func7, Tryz.ntmps7
  go_wp2_with fail
  go_loopw [7, 8, 9] (fun s7 s8 s9 wr => ∃ (i f a b : Nat), s7 = .int .i64 (a : Nat) ∧ s8 = .int .i64 (b : Nat) ∧ s9 = .int .i64 (i : Nat) ∧ i ≤ A ∧ A < i + f ∧ a ≤ 1 + i ∧ b ≤ 1 + i ∧ Hid (whF l A f i a b = whr l A) ∧ Hid (Below w.heap.size w wr)) (fun _ _ s9 _ => A - (intOf s9).toNat)
  case atStart => exact ⟨0, A + 1, 1, 1, rfl, rfl, rfl, by omega, by omega, by omega, by omega, H0, Below.refl _ _⟩
  case round =>
    obtain ⟨i, f, a, b, rfl, rfl, rfl, hi, hf, ha, hb, hst, hbr⟩ := hrel
    by_cases hlt : i < A
    · have hlti : (i : Int) < (A : Int) := by omega
      obtain ⟨f, rfl⟩ : ∃ g, f = g + 1 := ⟨f - 1, by omega⟩
      obtain ⟨x, hx⟩ : ∃ x, l[i]? = some x := ⟨l[i]'(by omega), List.getElem?_eq_getElem _⟩
      have hgt := get_mk hx
      have hnl := nl_at hx
      have hexi := hex i
      have hii : (i : Int) ≤ (l.length : Int) := by omega
      have hij : (i : Int) < (l.length : Int) := by omega
      have hsz := wd_pos l i
      have h4 := wd_four l i
      have hwl := wd_le l i (by omega)
      have hne : l.drop i ≠ [] := by intro e; have := congrArg List.length e; simp at this; omega
      obtain ⟨r1, n2, F1, hn2⟩ : ∃ (r1 : Int) (n2 : Nat), Hid (∀ w, Calls Tryz.prog 22 #[.string ⟨(l.drop i).toArray⟩] w fun e w' => e = .returned (.tuple #[.int .i32 r1, .int .i64 (n2 : Nat)]) ∧ Below w.heap.size w w') ∧ ((n2 = 0 ∧ wd l i = 1) ∨ (n2 ≠ 0 ∧ n2 = wd l i)) := by
        refine ⟨fst1 (l.drop i), fst2 (l.drop i), fun w => FI.out i w, ?_⟩
        unfold fst2
        by_cases hB : badHere (l.drop i) = true
        · exact Or.inl ⟨if_pos (Or.inr hB), bad_width hB⟩
        · rw [if_neg (fun h => h.elim hne hB)]
          exact Or.inr ⟨by unfold wd at hsz; omega, rfl⟩
      have h0 := hst.out
      by_cases h2 : A < i + wd l i
      · rw [whF_stop hlt h2] at h0
        have HE : Hid (whr l A = (a, b)) := h0.symm
        have b2 : (A : Int) < (i : Int) + (wd l i : Int) := by omega
        generalize wd l i = W at *
        generalize l.drop i = D at *
        clear hst h0 FI hex H0 hx hnl hne h2
        rcases hn2 with ⟨rfl, rfl⟩ | ⟨hn0, rfl⟩
        · omega
        · have nb : ((n2 : Int) == 0) = false := by rw [beq_eq_false_iff_ne]; omega
          clear hn0
          go_wp2_with fail
          refine (F1.out _).mono ?_
          rintro e w1 ⟨rfl, hb1⟩
          have B1 := hbr.out.trans (hb1.mono hbr.out.size)
          clear F1 hb1
          go_wp2_with fail
          rw [HE.out]
          go_ret3
          exact ⟨rfl, B1⟩
      · have b2 : ¬ (A : Int) < (i : Int) + (wd l i : Int) := by omega
        by_cases h10 : x.toNat = 10
        · have n10 : ((x.toNat : Int) == 10) = true := by rw [beq_iff_eq]; omega
          rw [whF_nl hlt h2 (hnl.2 h10)] at h0
          have HE : Hid (whF l A f (i + wd l i) (a + 1) 1 = whr l A) := h0
          generalize wd l i = W at *
          generalize l.drop i = D at *
          clear hst h0 FI hex H0 hx hnl hne h2 h10
          rcases hn2 with ⟨rfl, rfl⟩ | ⟨hn0, rfl⟩
          · go_wp2_with fail
            refine (F1.out _).mono ?_
            rintro e w1 ⟨rfl, hb1⟩
            have B1 := hbr.out.trans (hb1.mono hbr.out.size)
            clear F1 hb1
            go_wp2_with fail
            go_roundw
            case rel => exact ⟨i + 1, f, a + 1, 1, by go_num, rfl, by go_num, by omega, by omega, by omega, by omega, HE, B1⟩
            case measure => simp [intOf]; omega
          · have nb : ((n2 : Int) == 0) = false := by rw [beq_eq_false_iff_ne]; omega
            clear hn0
            go_wp2_with fail
            refine (F1.out _).mono ?_
            rintro e w1 ⟨rfl, hb1⟩
            have B1 := hbr.out.trans (hb1.mono hbr.out.size)
            clear F1 hb1
            go_wp2_with fail
            go_roundw
            case rel => exact ⟨i + n2, f, a + 1, 1, by go_num, rfl, by go_num, by omega, by omega, by omega, by omega, HE, B1⟩
            case measure => simp [intOf]; omega
        · have n10 : ((x.toNat : Int) == 10) = false := by rw [beq_eq_false_iff_ne]; omega
          rw [whF_other hlt h2 (fun h => h10 (hnl.1 h))] at h0
          have HE : Hid (whF l A f (i + wd l i) a (b + 1) = whr l A) := h0
          generalize wd l i = W at *
          generalize l.drop i = D at *
          clear hst h0 FI hex H0 hx hnl hne h2 h10
          rcases hn2 with ⟨rfl, rfl⟩ | ⟨hn0, rfl⟩
          · go_wp2_with fail
            refine (F1.out _).mono ?_
            rintro e w1 ⟨rfl, hb1⟩
            have B1 := hbr.out.trans (hb1.mono hbr.out.size)
            clear F1 hb1
            go_wp2_with fail
            go_roundw
            case rel => exact ⟨i + 1, f, a, b + 1, by go_num, by go_num, by go_num, by omega, by omega, by omega, by omega, HE, B1⟩
            case measure => simp [intOf]; omega
          · have nb : ((n2 : Int) == 0) = false := by rw [beq_eq_false_iff_ne]; omega
            clear hn0
            go_wp2_with fail
            refine (F1.out _).mono ?_
            rintro e w1 ⟨rfl, hb1⟩
            have B1 := hbr.out.trans (hb1.mono hbr.out.size)
            clear F1 hb1
            go_wp2_with fail
            go_roundw
            case rel => exact ⟨i + n2, f, a, b + 1, by go_num, by go_num, by go_num, by omega, by omega, by omega, by omega, HE, B1⟩
            case measure => simp [intOf]; omega
    · have hlti : ¬ (i : Int) < (A : Int) := by omega
      have h0 := hst.out
      rw [whF_end hlt] at h0
      have HE : Hid (whr l A = (a, b)) := h0.symm
      have hbb := hbr.out
      clear hst h0 FI hex H0 hbr
      go_wp2_with fail
      rw [HE.out]
      go_ret3
      exact ⟨rfl, hbb⟩
set_option maxHeartbeats 2000000 in
set_option maxRecDepth 1000000 in
theorem refWhere_bad (l : List UInt8) (n : Int) (w : World) (h : n < 0 ∨ (l.length : Int) < n) :
    Calls Tryz.prog 7 #[.string ⟨l.toArray⟩, .int .i64 n] w fun e w' => e = .returned (.tuple #[.int .i64 0, .int .i64 0, .int .i64 1]) ∧ Below w.heap.size w w' := by
  have hzl : (ByteArray.mk l.toArray).size = l.length := size_mk l
  by_cases h1 : n < 0
  · clear h
    go_enter Tryz.func7, Tryz.ntmps7
    go_wp2_with fail
    go_ret3
    exact ⟨rfl, Below.refl _ _⟩
  · have h2 : (l.length : Int) < n := h.resolve_left h1
    clear h
    go_enter Tryz.func7, Tryz.ntmps7
    go_wp2_with fail
    go_ret3
    exact ⟨rfl, Below.refl _ _⟩
end Go.Proofs.YtclekihmhicpaaaGreatDoor
