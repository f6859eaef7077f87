/-
  Print, of both: a literal.
-/
import Derived.Test.YtoboebibmelgkaaGreatDoorPaI
namespace Go.Proofs.YtoboebibmelgkaaGreatDoor
open Go.RowKit Go.Shelf

theorem FormatInt_any (n : Int) (w : World) (hn : fit n) (hP : Pow w) :
    Calls Tryz.prog 21 #[.int .i64 n, .int .i64 10] w fun e w' => e = .returned (.string ⟨(Lib.itoa n).toArray⟩) ∧ Below w.heap.size w w' := by
  refine (Any.strconv_FormatInt_10 Tryz.laysFormat n hn.1 hn.2 w hP).mono ?_
  rintro e w' ⟨rfl, k, os, rfl⟩
  exact ⟨rfl, Lib.below_grow _ _ (Nat.le_refl _) _ _⟩

set_option maxHeartbeats 4000000 in
set_option maxRecDepth 1000000 in
theorem Quoted_any (l : List UInt8) (w : World) (hs : l.length ≤ 9000) :
    Calls Tryz.prog 26 #[.string ⟨l.toArray⟩, .int .u8 39] w fun e w' => e = .returned (.string ⟨(39 :: (qd l ++ [39])).toArray⟩) ∧ Below w.heap.size w w' := by
  have hzl : (ByteArray.mk l.toArray).size = l.length := size_mk l
  have hli : (l.length : Int) ≤ 9000 := by omega
  have ON : Hid (ownsB (w.alloc (.cells #[.int .u8 39] 5)) w.heap.size (.slice (some ⟨w.heap.size, 0, none⟩) 1 1) [39]) := own_one w 39
  have HQ : Hid (39 :: (qd l ++ [39]) = [39] ++ (qd (l.drop 0) ++ [39])) := rfl
  generalize 39 :: (qd l ++ [39]) = U at *
  go_enter Tryz.func26, Tryz.ntmps26
  go_wp2_with fail
  go_loopw [5, 6] (fun s4 s5 wr => ∃ (k : Nat) (T : List UInt8), s5 = .int .i64 k ∧ k ≤ l.length ∧ T.length ≤ 2 * k + 1 ∧ Hid (U = T ++ (qd (l.drop k) ++ [39])) ∧ Hid (ownsB wr w.heap.size s4 T) ∧ Hid (Below w.heap.size w wr)) (fun _ s5 _ => l.length - (intOf s5).toNat)
  case atStart => exact ⟨0, [39], rfl, Nat.zero_le _, by simp, HQ, ON, (Below.refl _ w).alloc (Nat.le_refl _) _⟩
  case round =>
    obtain ⟨k, T, rfl, hk, hTk, hd, ho, hbr⟩ := hrel
    clear HQ ON
    have sb := hbr.out.size
    by_cases hlt : k < l.length
    · obtain ⟨x, hx⟩ : ∃ x, l[k]? = some x := ⟨l[k], List.getElem?_eq_getElem hlt⟩
      have hgx := get_mk hx
      have hlti : (k : Int) < (l.length : Int) := by omega
      have hd1 := hd.out
      rw [drop_at hx] at hd1
      have ho2 := ho.out
      by_cases hx39 : x = 39
      · subst hx39
        rw [qd, if_pos rfl] at hd1
        have hd2 : Hid (U = (T ++ [39] ++ [39]) ++ (qd (l.drop (k + 1)) ++ [39])) := by show _ = _; rw [hd1]; simp
        clear hd hd1 ho hx
        go_wp2_with (at_builtin; first | (refine app_b rfl (.tmp 15) (.tmp 19) rfl w.heap.size _ T [39] _ rfl ho2 rfl rfl (by simp only [List.length_cons, List.length_nil]; omega) sb ?_; intro v3 w3 ho3 hb3 hs3) | (refine app_b rfl (.tmp 26) (.tmp 28) rfl w.heap.size _ (T ++ [39]) [39] _ rfl ho3 rfl rfl (by simp only [List.length_cons, List.length_nil, List.length_append]; omega) hs3 ?_; intro v4 w4 ho4 hb4 hs4))
        go_roundw
        case rel => exact ⟨k + 1, T ++ [39] ++ [39], by go_num, hlt, by simp; omega, hd2, ho4, (hbr.out.trans hb3).trans hb4⟩
        case measure => simp [intOf]; omega
      · rw [qd, if_neg hx39] at hd1
        have hd2 : Hid (U = (T ++ [x]) ++ (qd (l.drop (k + 1)) ++ [39])) := by show _ = _; rw [hd1]; simp
        have hxi : ((x.toNat : Int) == 39) = false := by
          rw [beq_eq_false_iff_ne]; intro e; exact hx39 (UInt8.toNat_inj.1 (by show x.toNat = 39; omega))
        clear hd hd1 ho hx
        go_wp2_with (at_builtin; refine app_b rfl (.tmp 15) (.tmp 19) rfl w.heap.size _ T [x] _ rfl ho2 rfl rfl (by simp only [List.length_cons, List.length_nil]; omega) sb ?_; intro v3 w3 ho3 hb3 hs3)
        go_roundw
        case rel => exact ⟨k + 1, T ++ [x], by go_num, hlt, by simp; omega, hd2, ho3, hbr.out.trans hb3⟩
        case measure => simp [intOf]; omega
    · have hk0 : k = l.length := by omega
      have hlti : ¬ (k : Int) < (l.length : Int) := by omega
      have hd1 := hd.out
      rw [List.drop_eq_nil_of_le (by omega)] at hd1
      have hd2 : U = T ++ [39] := hd1
      have ho2 := ho.out
      subst hd2
      clear hd hd1 ho
      go_wp2_with (at_builtin; refine app_b rfl (.tmp 30) (.tmp 32) rfl w.heap.size _ T [39] _ rfl ho2 rfl rfl (by simp only [List.length_cons, List.length_nil]; omega) sb ?_; intro v3 w3 ho3 hb3 hs3; have cv := conv_own ho3)
      go_ret
      exact ⟨rfl, hbr.out.trans hb3⟩

/-- a literal's signs -/
def prV (ty n : Int) (s : ByteArray) : List UInt8 :=
  if ty = 1 then Lib.itoa n else if ty = 2 then decL n else if ty = 3 then 39 :: (qd s.data.toList ++ [39]) else if ty = 4 then (if n = 1 then [84, 82, 85, 69] else [70, 65, 76, 83, 69]) else [78, 85, 76, 76]
/-- what Print answers -/
def pvV (ty n : Int) (s : ByteArray) : Value := if chk ty n s = 0 then .tuple #[.string ⟨(prV ty n s).toArray⟩, .int .i64 0] else .tuple #[.string ⟨#[]⟩, .int .i64 (chk ty n s)]
theorem quo_add (l : List UInt8) : (⟨#[39]⟩ : ByteArray) ++ ⟨l.toArray⟩ ++ ⟨#[39]⟩ = ⟨(39 :: (l ++ [39])).toArray⟩ := by
  have e : (⟨#[39]⟩ : ByteArray) = ⟨[39].toArray⟩ := rfl
  rw [e, add_mk, add_mk]; simp
theorem bytes_of (s : ByteArray) : s = ⟨s.data.toList.toArray⟩ := by cases s; simp
set_option maxHeartbeats 1000000 in
theorem printTruth_any (n : Int) (w : World) : Calls Tryz.prog 24 #[.int .i64 n] w fun e w' => e = .returned (.string (if n = 1 then ⟨#[84, 82, 85, 69]⟩ else ⟨#[70, 65, 76, 83, 69]⟩)) ∧ w' = w := by
  by_cases h : n = 1
  · subst h
    go_enter Tryz.func24, Tryz.ntmps24
    go_wp2_with fail
    go_ret
    exact ⟨rfl, rfl⟩
  · rw [if_neg h]
    have hb : (n == 1) = false := by rw [beq_eq_false_iff_ne]; exact h
    go_enter Tryz.func24, Tryz.ntmps24
    go_wp2_with fail
    go_ret
    exact ⟨rfl, rfl⟩

set_option maxHeartbeats 4000000 in
set_option maxRecDepth 1000000 in
theorem Print_any (ty n : Int) (s : ByteArray) (w : World) (hn : fit n) (hs : s.size ≤ 9223372036854775807) (hT : Tabs w) (hP : Pow w) (hM : Mx w) :
    Calls Tryz.prog 9 #[.agg #[.int .i64 ty, .int .i64 n, .string s]] w fun e w' => e = .returned (pvV ty n s) ∧ Below w.heap.size w w' := by
  have CK : Hid (∀ w, Tabs w → Calls Tryz.prog 14 #[.agg #[.int .i64 ty, .int .i64 n, .string s]] w fun e w' => e = .returned (.int .i64 (chk ty n s)) ∧ Below w.heap.size w w') := fun w h => Check_any ty n s w hs h
  have B0 : Hid (∀ o, Below w.heap.size w (w.alloc o)) := fun o => (Below.refl _ w).alloc (Nat.le_refl _) o
  have HP : Hid (Pow w) := hP
  have HM : Hid (Mx w) := hM
  have HT : Hid (Tabs w) := hT
  clear hP hM hT
  by_cases hc : chk ty n s = 0
  · have eV : pvV ty n s = .tuple #[.string ⟨(prV ty n s).toArray⟩, .int .i64 0] := if_pos hc
    rw [eV]
    clear eV
    rw [hc] at CK
    have h5 : ty = 0 ∨ ty = 1 ∨ ty = 2 ∨ ty = 3 ∨ ty = 4 := by
      unfold chk at hc
      by_cases h : ty < 0 ∨ 4 < ty ∨ (ty = 4 ∧ n ≠ 0 ∧ n ≠ 1)
      · rw [if_pos h] at hc; cases hc
      · omega
    have hst : ty = 3 → s.size ≤ 4096 := by rintro rfl; rw [chk_text] at hc; exact (chkT_zero hc).1
    clear hc
    rcases h5 with rfl | rfl | rfl | rfl | rfl
    · show Calls _ _ _ _ fun e w' => e = .returned (.tuple #[.string ⟨#[78, 85, 76, 76]⟩, .int .i64 0]) ∧ _
      clear hst
      go_enter Tryz.func9, Tryz.ntmps9
      go_wp2_with fail
      refine (CK.out _ (HT.out.below (B0.out _))).mono ?_
      rintro e w1 ⟨rfl, hb1⟩
      have B1 := (B0.out _).trans (hb1.mono (B0.out _).size)
      obtain ⟨hc1, hf1⟩ := bcell hb1
      clear CK
      go_wp2_with fail
      go_ret2
      exact ⟨rfl, B1⟩
    · show Calls _ _ _ _ fun e w' => e = .returned (.tuple #[.string ⟨(Lib.itoa n).toArray⟩, .int .i64 0]) ∧ _
      have FI : Hid (∀ w, Pow w → Calls Tryz.prog 21 #[.int .i64 n, .int .i64 10] w fun e w' => e = .returned (.string ⟨(Lib.itoa n).toArray⟩) ∧ Below w.heap.size w w') := fun w h => FormatInt_any n w hn h
      generalize Lib.itoa n = X at *
      clear hst
      go_enter Tryz.func9, Tryz.ntmps9
      go_wp2_with fail
      refine (CK.out _ (HT.out.below (B0.out _))).mono ?_
      rintro e w1 ⟨rfl, hb1⟩
      have B1 := (B0.out _).trans (hb1.mono (B0.out _).size)
      obtain ⟨hc1, hf1⟩ := bcell hb1
      clear CK
      go_wp2_with fail
      refine (FI.out _ (HP.out.below B1)).mono ?_
      rintro e w2 ⟨rfl, hb2⟩
      have B2 := B1.trans (hb2.mono B1.size)
      clear FI
      go_wp2_with fail
      go_ret2
      exact ⟨rfl, B2⟩
    · show Calls _ _ _ _ fun e w' => e = .returned (.tuple #[.string ⟨(decL n).toArray⟩, .int .i64 0]) ∧ _
      rw [← decT_is]
      have FI : Hid (∀ w, Pow w → Calls Tryz.prog 22 #[.int .i64 n] w fun e w' => e = .returned (.string (decT n)) ∧ Below w.heap.size w w') := fun w h => printParts_any n w hn h
      generalize decT n = X at *
      clear hst
      go_enter Tryz.func9, Tryz.ntmps9
      go_wp2_with fail
      refine (CK.out _ (HT.out.below (B0.out _))).mono ?_
      rintro e w1 ⟨rfl, hb1⟩
      have B1 := (B0.out _).trans (hb1.mono (B0.out _).size)
      obtain ⟨hc1, hf1⟩ := bcell hb1
      clear CK
      go_wp2_with fail
      refine (FI.out _ (HP.out.below B1)).mono ?_
      rintro e w2 ⟨rfl, hb2⟩
      have B2 := B1.trans (hb2.mono B1.size)
      clear FI
      go_wp2_with fail
      go_ret2
      exact ⟨rfl, B2⟩
    · show Calls _ _ _ _ fun e w' => e = .returned (.tuple #[.string ⟨(39 :: (qd s.data.toList ++ [39])).toArray⟩, .int .i64 0]) ∧ _
      have hs4 := hst rfl
      clear hst
      have FI : Hid (∀ w, Mx w → Calls Tryz.prog 23 #[.string s, .string ⟨#[39]⟩, .string ⟨#[39, 39]⟩] w fun e w' => e = .returned (.string ⟨(qd s.data.toList).toArray⟩) ∧ Below w.heap.size w w') := fun w h => by
        have h := ReplaceAll_any s ⟨#[39]⟩ ⟨#[39, 39]⟩ w h (by omega) (by decide) (by decide)
        have e : Lib.replaceAll s.data.toList (ByteArray.mk #[39]).data.toList (ByteArray.mk #[39, 39]).data.toList = qd s.data.toList := qd_rpl _
        rw [e] at h
        exact h
      have hql := qd_len s.data.toList
      have hsl : s.data.toList.length = s.size := Array.length_toList
      rw [hsl] at hql
      rw [← quo_add]
      generalize qd s.data.toList = X at *
      have hzX : (ByteArray.mk X.toArray).size = X.length := size_mk X
      go_enter Tryz.func9, Tryz.ntmps9
      go_wp2_with fail
      refine (CK.out _ (HT.out.below (B0.out _))).mono ?_
      rintro e w1 ⟨rfl, hb1⟩
      have B1 := (B0.out _).trans (hb1.mono (B0.out _).size)
      obtain ⟨hc1, hf1⟩ := bcell hb1
      clear CK
      go_wp2_with fail
      refine (FI.out _ (HM.out.below B1)).mono ?_
      rintro e w2 ⟨rfl, hb2⟩
      have B2 := B1.trans (hb2.mono B1.size)
      clear FI
      go_wp2_with fail
      go_ret2
      exact ⟨rfl, B2⟩
    · clear hst
      have e : ByteArray.mk (prV 4 n s).toArray = if n = 1 then ⟨#[84, 82, 85, 69]⟩ else ⟨#[70, 65, 76, 83, 69]⟩ := by
        unfold prV
        by_cases h1 : n = 1
        · simp [h1]
        · simp [h1]
      rw [e]
      have FI : Hid (∀ w, Calls Tryz.prog 24 #[.int .i64 n] w fun e w' => e = .returned (.string (if n = 1 then ⟨#[84, 82, 85, 69]⟩ else ⟨#[70, 65, 76, 83, 69]⟩)) ∧ w' = w) := fun w => printTruth_any n w
      clear e
      generalize (if n = 1 then (⟨#[84, 82, 85, 69]⟩ : ByteArray) else ⟨#[70, 65, 76, 83, 69]⟩) = X at *
      go_enter Tryz.func9, Tryz.ntmps9
      go_wp2_with fail
      refine (CK.out _ (HT.out.below (B0.out _))).mono ?_
      rintro e w1 ⟨rfl, hb1⟩
      have B1 := (B0.out _).trans (hb1.mono (B0.out _).size)
      obtain ⟨hc1, hf1⟩ := bcell hb1
      clear CK
      go_wp2_with fail
      refine (FI.out _).mono ?_
      rintro e w2 ⟨rfl, rfl⟩
      clear FI
      go_wp2_with fail
      go_ret2
      exact ⟨rfl, B1⟩
  · have eV : pvV ty n s = .tuple #[.string ⟨#[]⟩, .int .i64 (chk ty n s)] := if_neg hc
    rw [eV]
    clear eV
    generalize chk ty n s = c at *
    have hcb : (c != 0) = true := by rw [bne_iff_ne]; exact hc
    go_enter Tryz.func9, Tryz.ntmps9
    go_wp2_with fail
    refine (CK.out _ (HT.out.below (B0.out _))).mono ?_
    rintro e w1 ⟨rfl, hb1⟩
    have B1 := (B0.out _).trans (hb1.mono (B0.out _).size)
    obtain ⟨hc1, hf1⟩ := bcell hb1
    clear CK
    go_wp2_with fail
    go_ret2
    exact ⟨rfl, B1⟩

set_option maxHeartbeats 4000000 in
set_option maxRecDepth 1000000 in
theorem refPrint_any (ty n : Int) (s : ByteArray) (w : World) (hn : fit n) (hs : s.size ≤ 9223372036854775807) (hT : Tabs w) (hP : Pow w) (hM : Mx w) :
    Calls Tryz.prog 10 #[.agg #[.int .i64 ty, .int .i64 n, .string s]] w fun e w' => e = .returned (pvV ty n s) ∧ Below w.heap.size w w' := by
  have CK : Hid (∀ w, Calls Tryz.prog 18 #[.agg #[.int .i64 ty, .int .i64 n, .string s]] w fun e w' => e = .returned (.int .i64 (chk ty n s)) ∧ Below w.heap.size w w') := fun w => refCheck_any ty n s w
  have B0 : Hid (∀ o, Below w.heap.size w (w.alloc o)) := fun o => (Below.refl _ w).alloc (Nat.le_refl _) o
  have HP : Hid (Pow w) := hP
  have HM : Hid (Mx w) := hM
  have HT : Hid (Tabs w) := hT
  clear hP hM hT
  by_cases hc : chk ty n s = 0
  · have eV : pvV ty n s = .tuple #[.string ⟨(prV ty n s).toArray⟩, .int .i64 0] := if_pos hc
    rw [eV]
    clear eV
    rw [hc] at CK
    have h5 : ty = 0 ∨ ty = 1 ∨ ty = 2 ∨ ty = 3 ∨ ty = 4 := by
      unfold chk at hc
      by_cases h : ty < 0 ∨ 4 < ty ∨ (ty = 4 ∧ n ≠ 0 ∧ n ≠ 1)
      · rw [if_pos h] at hc; cases hc
      · omega
    have hst : ty = 3 → s.size ≤ 4096 := by rintro rfl; rw [chk_text] at hc; exact (chkT_zero hc).1
    clear hc
    rcases h5 with rfl | rfl | rfl | rfl | rfl
    · show Calls _ _ _ _ fun e w' => e = .returned (.tuple #[.string ⟨#[78, 85, 76, 76]⟩, .int .i64 0]) ∧ _
      clear hst
      go_enter Tryz.func10, Tryz.ntmps10
      go_wp2_with fail
      refine (CK.out _).mono ?_
      rintro e w1 ⟨rfl, hb1⟩
      have B1 := (B0.out _).trans (hb1.mono (B0.out _).size)
      obtain ⟨hc1, hf1⟩ := bcell hb1
      clear CK
      go_wp2_with fail
      go_ret2
      exact ⟨rfl, B1⟩
    · show Calls _ _ _ _ fun e w' => e = .returned (.tuple #[.string ⟨(Lib.itoa n).toArray⟩, .int .i64 0]) ∧ _
      have FI : Hid (∀ w, Pow w → Calls Tryz.prog 21 #[.int .i64 n, .int .i64 10] w fun e w' => e = .returned (.string ⟨(Lib.itoa n).toArray⟩) ∧ Below w.heap.size w w') := fun w h => FormatInt_any n w hn h
      generalize Lib.itoa n = X at *
      clear hst
      go_enter Tryz.func10, Tryz.ntmps10
      go_wp2_with fail
      refine (CK.out _).mono ?_
      rintro e w1 ⟨rfl, hb1⟩
      have B1 := (B0.out _).trans (hb1.mono (B0.out _).size)
      obtain ⟨hc1, hf1⟩ := bcell hb1
      clear CK
      go_wp2_with fail
      refine (FI.out _ (HP.out.below B1)).mono ?_
      rintro e w2 ⟨rfl, hb2⟩
      have B2 := B1.trans (hb2.mono B1.size)
      clear FI
      go_wp2_with fail
      go_ret2
      exact ⟨rfl, B2⟩
    · show Calls _ _ _ _ fun e w' => e = .returned (.tuple #[.string ⟨(decL n).toArray⟩, .int .i64 0]) ∧ _
      rw [← decT_is]
      have FI : Hid (∀ w, Pow w → Calls Tryz.prog 25 #[.int .i64 n] w fun e w' => e = .returned (.string (decT n)) ∧ Below w.heap.size w w') := fun w h => refDec_any n w hn h
      generalize decT n = X at *
      clear hst
      go_enter Tryz.func10, Tryz.ntmps10
      go_wp2_with fail
      refine (CK.out _).mono ?_
      rintro e w1 ⟨rfl, hb1⟩
      have B1 := (B0.out _).trans (hb1.mono (B0.out _).size)
      obtain ⟨hc1, hf1⟩ := bcell hb1
      clear CK
      go_wp2_with fail
      refine (FI.out _ (HP.out.below B1)).mono ?_
      rintro e w2 ⟨rfl, hb2⟩
      have B2 := B1.trans (hb2.mono B1.size)
      clear FI
      go_wp2_with fail
      go_ret2
      exact ⟨rfl, B2⟩
    · show Calls _ _ _ _ fun e w' => e = .returned (.tuple #[.string ⟨(39 :: (qd s.data.toList ++ [39])).toArray⟩, .int .i64 0]) ∧ _
      have hs4 := hst rfl
      clear hst
      have FI : Hid (∀ w, Calls Tryz.prog 26 #[.string s, .int .u8 39] w fun e w' => e = .returned (.string ⟨(39 :: (qd s.data.toList ++ [39])).toArray⟩) ∧ Below w.heap.size w w') := fun w => by
        have h := Quoted_any s.data.toList w (by have : s.data.toList.length = s.size := Array.length_toList
                                                 omega)
        rw [← bytes_of s] at h
        exact h
      generalize 39 :: (qd s.data.toList ++ [39]) = X at *
      go_enter Tryz.func10, Tryz.ntmps10
      go_wp2_with fail
      refine (CK.out _).mono ?_
      rintro e w1 ⟨rfl, hb1⟩
      have B1 := (B0.out _).trans (hb1.mono (B0.out _).size)
      obtain ⟨hc1, hf1⟩ := bcell hb1
      clear CK
      go_wp2_with fail
      refine (FI.out _).mono ?_
      rintro e w2 ⟨rfl, hb2⟩
      have B2 := B1.trans (hb2.mono B1.size)
      clear FI
      go_wp2_with fail
      go_ret2
      exact ⟨rfl, B2⟩
    · clear hst
      by_cases h1 : n = 1
      · subst h1
        show Calls _ _ _ _ fun e w' => e = .returned (.tuple #[.string ⟨#[84, 82, 85, 69]⟩, .int .i64 0]) ∧ _
        go_enter Tryz.func10, Tryz.ntmps10
        go_wp2_with fail
        refine (CK.out _).mono ?_
        rintro e w1 ⟨rfl, hb1⟩
        have B1 := (B0.out _).trans (hb1.mono (B0.out _).size)
        obtain ⟨hc1, hf1⟩ := bcell hb1
        clear CK
        go_wp2_with fail
        go_ret2
        exact ⟨rfl, B1⟩
      · have e : prV 4 n s = [70, 65, 76, 83, 69] := by unfold prV; simp [h1]
        rw [e]
        have hb : (n == 1) = false := by rw [beq_eq_false_iff_ne]; exact h1
        go_enter Tryz.func10, Tryz.ntmps10
        go_wp2_with fail
        refine (CK.out _).mono ?_
        rintro e w1 ⟨rfl, hb1⟩
        have B1 := (B0.out _).trans (hb1.mono (B0.out _).size)
        obtain ⟨hc1, hf1⟩ := bcell hb1
        clear CK
        go_wp2_with fail
        go_ret2
        exact ⟨rfl, B1⟩
  · have eV : pvV ty n s = .tuple #[.string ⟨#[]⟩, .int .i64 (chk ty n s)] := if_neg hc
    rw [eV]
    clear eV
    generalize chk ty n s = c at *
    have hcb : (c != 0) = true := by rw [bne_iff_ne]; exact hc
    go_enter Tryz.func10, Tryz.ntmps10
    go_wp2_with fail
    refine (CK.out _).mono ?_
    rintro e w1 ⟨rfl, hb1⟩
    have B1 := (B0.out _).trans (hb1.mono (B0.out _).size)
    obtain ⟨hc1, hf1⟩ := bcell hb1
    clear CK
    go_wp2_with fail
    go_ret2
    exact ⟨rfl, B1⟩
end Go.Proofs.YtoboebibmelgkaaGreatDoor
