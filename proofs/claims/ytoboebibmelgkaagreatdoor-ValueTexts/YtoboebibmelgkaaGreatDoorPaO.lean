/-
  lockstepref01.Cast.
-/
import Derived.Test.YtoboebibmelgkaaGreatDoorPaN
namespace Go.Proofs.YtoboebibmelgkaaGreatDoor
open Go.RowKit Go.Shelf

theorem fitB_ov (x : Int) : (fitB x = true ∧ ovE x = 0) ∨ (fitB x = false ∧ ovE x = 10) := by
  unfold fitB ovE
  by_cases h : -9223372036854775808 ≤ x ∧ x ≤ 9223372036854775807
  · left; simp [h]
  · right; rw [if_neg h, decide_eq_false h]; exact ⟨rfl, rfl⟩

set_option maxHeartbeats 4000000 in
set_option maxRecDepth 1000000 in
theorem refCast_num (n : Int) (s : ByteArray) (w : World) (hn : fit n) :
    Calls Tryz.prog 6 #[.agg #[.int .i64 1, .int .i64 n, .string s], .int .i64 2] w fun e w' => e = .returned (av (cN 1 n 2)) ∧ Below w.heap.size w w' := by
  have V0 : Hid (Res ((w.alloc (.cells #[.int .i64 1, .int .i64 n, .string s] 23)).alloc (.cells #[.int .i64 0, .int .i64 0, .string ⟨#[]⟩] 23)) w.heap.size 1 n s) := (Res.new w 1 n s).alloc _
  have R0 : Hid (Res ((w.alloc (.cells #[.int .i64 1, .int .i64 n, .string s] 23)).alloc (.cells #[.int .i64 0, .int .i64 0, .string ⟨#[]⟩] 23)) (w.heap.size + 1) 0 0 ⟨#[]⟩) := Res.new2 w _
  have B0 : Hid (Below w.heap.size w ((w.alloc (.cells #[.int .i64 1, .int .i64 n, .string s] 23)).alloc (.cells #[.int .i64 0, .int .i64 0, .string ⟨#[]⟩] 23))) := two_allocs w _ _
  have CK : Hid (∀ w, Calls Tryz.prog 18 #[.agg #[.int .i64 1, .int .i64 n, .string s]] w fun e w' => e = .returned (.int .i64 (chk 1 n s)) ∧ Below w.heap.size w w') := fun w => refCheck_any 1 n s w
  have hc : chk 1 n s = 0 := by unfold chk; rw [if_neg (by omega), if_neg (by omega)]
  rw [hc] at CK
  clear hc
  have SC : Hid (∀ w, Calls Tryz.prog 19 #[.agg #[.int .i64 1, .int .i64 n, .string s]] w fun e w' => e = .returned (.tuple #[.int .i64 (ovV (n * 10000)), .bool (fitB (n * 10000))]) ∧ Below w.heap.size w w') := fun w => scaled_one n s w hn
  have e1 : cN 1 n 2 = if ovE (n * 10000) = 0 then (⟨2, ovV (n * 10000), ⟨#[]⟩⟩, 0) else (⟨0, 0, ⟨#[]⟩⟩, ovE (n * 10000)) := by unfold cN; rw [if_neg (by decide), if_pos (by decide)]
  rw [e1]
  clear e1
  rcases fitB_ov (n * 10000) with ⟨hf, hz⟩ | ⟨hf, hz⟩
  · rw [hz, if_pos rfl]
    rw [hf] at SC
    generalize ovV (n * 10000) = X at *
    clear hf hz
    go_enter Tryz.func6, Tryz.ntmps6
    go_wp2_with fail
    refine (CK.out _).mono ?_
    rintro e w1 ⟨rfl, hb1⟩
    have V1 := V0.out.below hb1
    have R1 := R0.out.below hb1
    have B1 := B0.out.trans (hb1.mono B0.out.size)
    clear CK hb1 R0 B0 V0
    obtain ⟨_, v0, v1, v2, _, _, _⟩ := id V1
    obtain ⟨_, c0, c1, c2, f0, f1, f2⟩ := id R1
    go_wp2_with fail
    refine (SC.out _).mono ?_
    rintro e w2 ⟨rfl, hb2⟩
    have R2 := R1.below hb2
    have B2 := B1.trans (hb2.mono B1.size)
    clear SC hb2 R1 B1 V1 v0 v1 v2 c0 c1 c2 f0 f1 f2
    obtain ⟨_, c0, c1, c2, f0, f1, f2⟩ := id R2
    go_wp2_with fail
    obtain ⟨_, x0, x1, x2, _, _, _⟩ := R2.put 2 X ⟨#[]⟩
    refine bodyPost_ret (v := av (⟨2, X, ⟨#[]⟩⟩, 0)) (by simp [results, Tryz.results6, go_sem, av, x0, x1, x2]) rfl ⟨rfl, ?_⟩
    exact ((B2.setCell (p := ⟨(w.heap.size + 1), 0, none⟩) (Nat.le_succ _) _).setCell (p := ⟨(w.heap.size + 1), 1, none⟩) (Nat.le_succ _) _).setCell (p := ⟨(w.heap.size + 1), 2, none⟩) (Nat.le_succ _) _
  · rw [hz, if_neg (by decide)]
    rw [hf] at SC
    generalize ovV (n * 10000) = X at *
    clear hf hz
    go_enter Tryz.func6, Tryz.ntmps6
    go_wp2_with fail
    refine (CK.out _).mono ?_
    rintro e w1 ⟨rfl, hb1⟩
    have V1 := V0.out.below hb1
    have R1 := R0.out.below hb1
    have B1 := B0.out.trans (hb1.mono B0.out.size)
    clear CK hb1 R0 B0 V0
    obtain ⟨_, v0, v1, v2, _, _, _⟩ := id V1
    obtain ⟨_, c0, c1, c2, f0, f1, f2⟩ := id R1
    go_wp2_with fail
    refine (SC.out _).mono ?_
    rintro e w2 ⟨rfl, hb2⟩
    have R2 := R1.below hb2
    have B2 := B1.trans (hb2.mono B1.size)
    clear SC hb2 R1 B1 V1 v0 v1 v2 c0 c1 c2 f0 f1 f2
    obtain ⟨_, c0, c1, c2, f0, f1, f2⟩ := id R2
    go_wp2_with fail
    obtain ⟨_, x0, x1, x2, _, _, _⟩ := R2.put 0 0 ⟨#[]⟩
    refine bodyPost_ret (v := av (⟨0, 0, ⟨#[]⟩⟩, 10)) (by simp [results, Tryz.results6, go_sem, av, x0, x1, x2]) rfl ⟨rfl, ?_⟩
    exact ((B2.setCell (p := ⟨(w.heap.size + 1), 0, none⟩) (Nat.le_succ _) _).setCell (p := ⟨(w.heap.size + 1), 1, none⟩) (Nat.le_succ _) _).setCell (p := ⟨(w.heap.size + 1), 2, none⟩) (Nat.le_succ _) _

set_option maxHeartbeats 4000000 in
set_option maxRecDepth 1000000 in
theorem refCast_any (ty n : Int) (s : ByteArray) (tu : Int) (w : World) (hn : fit n) (hs : s.size ≤ 9223372036854775807) (hM : Mx w) (hT : Tabs w) (hP : Pow w) :
    Calls Tryz.prog 6 #[.agg #[.int .i64 ty, .int .i64 n, .string s], .int .i64 tu] w fun e w' => e = .returned (av (cst ty n s tu)) ∧ Below w.heap.size w w' := by
  by_cases h12 : ty = 1 ∧ tu = 2
  · obtain ⟨rfl, rfl⟩ := h12
    have hc : chk 1 n s = 0 := by unfold chk; rw [if_neg (by omega), if_neg (by omega)]
    have e : cst 1 n s 2 = cN 1 n 2 := by
      unfold cst
      rw [if_neg (by decide), if_pos hc, if_neg (by decide), if_neg (by decide), if_neg (by decide), if_neg (by decide)]
    rw [e]
    exact refCast_num n s w hn
  have V0 : Hid (Res ((w.alloc (.cells #[.int .i64 ty, .int .i64 n, .string s] 23)).alloc (.cells #[.int .i64 0, .int .i64 0, .string ⟨#[]⟩] 23)) w.heap.size ty n s) := (Res.new w ty n s).alloc _
  have R0 : Hid (Res ((w.alloc (.cells #[.int .i64 ty, .int .i64 n, .string s] 23)).alloc (.cells #[.int .i64 0, .int .i64 0, .string ⟨#[]⟩] 23)) (w.heap.size + 1) 0 0 ⟨#[]⟩) := Res.new2 w _
  have B0 : Hid (Below w.heap.size w ((w.alloc (.cells #[.int .i64 ty, .int .i64 n, .string s] 23)).alloc (.cells #[.int .i64 0, .int .i64 0, .string ⟨#[]⟩] 23))) := two_allocs w _ _
  have CK : Hid (∀ w, Calls Tryz.prog 18 #[.agg #[.int .i64 ty, .int .i64 n, .string s]] w fun e w' => e = .returned (.int .i64 (chk ty n s)) ∧ Below w.heap.size w w') := fun w => refCheck_any ty n s w
  have HM : Hid (Mx w) := hM
  have HT : Hid (Tabs w) := hT
  have HP : Hid (Pow w) := hP
  clear hM hT hP
  by_cases ht : tu < 1 ∨ 4 < tu
  · have e1 : cst ty n s tu = bad 1 := if_pos ht
    rw [e1]
    clear e1
    rcases ht with ht | ht
    · go_enter Tryz.func6, Tryz.ntmps6
      go_wp2_with fail
      refine bodyPost_ret (v := av (⟨0, 0, ⟨#[]⟩⟩, 1)) (by simp [results, Tryz.results6, go_sem, av]) rfl ⟨rfl, two_allocs w _ _⟩
    · have ht2 : ¬ tu < 1 := by omega
      go_enter Tryz.func6, Tryz.ntmps6
      go_wp2_with fail
      refine bodyPost_ret (v := av (⟨0, 0, ⟨#[]⟩⟩, 1)) (by simp [results, Tryz.results6, go_sem, av]) rfl ⟨rfl, two_allocs w _ _⟩
  have t1 : ¬ tu < 1 := by omega
  have t4 : ¬ 4 < tu := by omega
  by_cases hc : chk ty n s = 0
  · have e1 : cst ty n s tu = if ty = 0 then (⟨0, 0, ⟨#[]⟩⟩, 0) else if ty = tu then (plV ty n s, 0) else if ty = 3 then cT (prs s.data.toList) tu else if tu = 3 then (⟨3, 0, ⟨(prV ty n s).toArray⟩⟩, 0) else cN ty n tu := (if_neg ht).trans (if_pos hc)
    rw [e1]
    clear e1
    have h5 : ty = 0 ∨ ty = 1 ∨ ty = 2 ∨ ty = 3 ∨ ty = 4 := by
      unfold chk at hc
      by_cases h : ty < 0 ∨ 4 < ty ∨ (ty = 4 ∧ n ≠ 0 ∧ n ≠ 1)
      · rw [if_pos h] at hc; cases hc
      · omega
    have hst : ty = 3 → s.size ≤ 4096 := by rintro rfl; rw [chk_text] at hc; exact (chkT_zero hc).1
    have hpv : pvV ty n s = .tuple #[.string ⟨(prV ty n s).toArray⟩, .int .i64 0] := if_pos hc
    have HPV : Hid (pvV ty n s = .tuple #[.string ⟨(prV ty n s).toArray⟩, .int .i64 0]) := hpv
    rw [hc] at CK
    clear hc hpv
    have ON : Hid (∀ w, Calls Tryz.prog 13 #[.agg #[.int .i64 ty, .int .i64 n, .string s]] w fun e w' => e = .returned (ag (plV ty n s)) ∧ Below w.heap.size w w') := fun w => Plain_any ty n s w h5
    by_cases hty : ty = 0
    · subst hty
      rw [if_pos rfl]
      have ez : plV 0 n s = ⟨0, 0, ⟨#[]⟩⟩ := rfl
      rw [ez] at ON
      clear hst HPV h5 ht ez
      go_enter Tryz.func6, Tryz.ntmps6
      go_wp2_with fail
      refine (CK.out _).mono ?_
      rintro e w1 ⟨rfl, hb1⟩
      have V1 := V0.out.below hb1
      have R1 := R0.out.below hb1
      have B1 := B0.out.trans (hb1.mono B0.out.size)
      clear CK hb1 R0 B0 V0
      obtain ⟨_, v0, v1, v2, _, _, _⟩ := id V1
      obtain ⟨_, c0, c1, c2, f0, f1, f2⟩ := id R1
      go_wp2_with fail
      refine (ON.out _).mono ?_
      rintro e w2 ⟨rfl, hb2⟩
      have R2 := R1.below hb2
      have B2 := B1.trans (hb2.mono B1.size)
      clear ON hb2 R1 B1 V1 v0 v1 v2 c0 c1 c2 f0 f1 f2
      unfold ag
      obtain ⟨_, c0, c1, c2, f0, f1, f2⟩ := id R2
      go_wp2_with fail
      obtain ⟨_, x0, x1, x2, _, _, _⟩ := R2.put 0 0 ⟨#[]⟩
      refine bodyPost_ret (v := av (⟨0, 0, ⟨#[]⟩⟩, 0)) (by simp [results, Tryz.results6, go_sem, av, x0, x1, x2]) rfl ⟨rfl, ?_⟩
      exact ((B2.setCell (p := ⟨(w.heap.size + 1), 0, none⟩) (Nat.le_succ _) _).setCell (p := ⟨(w.heap.size + 1), 1, none⟩) (Nat.le_succ _) _).setCell (p := ⟨(w.heap.size + 1), 2, none⟩) (Nat.le_succ _) _
    rw [if_neg hty]
    have b0 : (ty == 0) = false := by rw [beq_eq_false_iff_ne]; exact hty
    by_cases he : ty = tu
    · subst he
      rw [if_pos rfl]
      generalize plV ty n s = A at *
      obtain ⟨aty, an, asx⟩ := A
      clear hst HPV h5 ht hty h12
      go_enter Tryz.func6, Tryz.ntmps6
      go_wp2_with fail
      refine (CK.out _).mono ?_
      rintro e w1 ⟨rfl, hb1⟩
      have V1 := V0.out.below hb1
      have R1 := R0.out.below hb1
      have B1 := B0.out.trans (hb1.mono B0.out.size)
      clear CK hb1 R0 B0 V0
      obtain ⟨_, v0, v1, v2, _, _, _⟩ := id V1
      obtain ⟨_, c0, c1, c2, f0, f1, f2⟩ := id R1
      go_wp2_with fail
      refine (ON.out _).mono ?_
      rintro e w2 ⟨rfl, hb2⟩
      have R2 := R1.below hb2
      have B2 := B1.trans (hb2.mono B1.size)
      clear ON hb2 R1 B1 V1 v0 v1 v2 c0 c1 c2 f0 f1 f2
      unfold ag
      obtain ⟨_, c0, c1, c2, f0, f1, f2⟩ := id R2
      go_wp2_with fail
      obtain ⟨_, x0, x1, x2, _, _, _⟩ := R2.put aty an asx
      refine bodyPost_ret (v := av (⟨aty, an, asx⟩, 0)) (by simp [results, Tryz.results6, go_sem, av, x0, x1, x2]) rfl ⟨rfl, ?_⟩
      exact ((B2.setCell (p := ⟨(w.heap.size + 1), 0, none⟩) (Nat.le_succ _) _).setCell (p := ⟨(w.heap.size + 1), 1, none⟩) (Nat.le_succ _) _).setCell (p := ⟨(w.heap.size + 1), 2, none⟩) (Nat.le_succ _) _
    rw [if_neg he]
    have be : (ty == tu) = false := by rw [beq_eq_false_iff_ne]; exact he
    clear ON
    by_cases h3 : ty = 3
    · subst h3
      rw [if_pos rfl]
      have hs4 := hst rfl
      have hsl : s.data.toList.length = s.size := Array.length_toList
      have PS : Hid (∀ w, Calls Tryz.prog 12 #[.string s] w fun e w' => e = .returned (av (prs s.data.toList)) ∧ Below w.heap.size w w') := fun w => by
        have h := refParse_any s.data.toList w (by omega)
        rw [← bytes_of s] at h
        exact h
      have hft := prs_fit s.data.toList
      generalize prs s.data.toList = A at *
      obtain ⟨⟨pty, pn, psx⟩, E⟩ := A
      simp only at hft
      have bu : (tu == 3) = false := by rw [beq_eq_false_iff_ne]; exact fun e => he e.symm
      clear hst HPV h5 ht hty hsl
      by_cases hE : E = 0
      · subst hE
        have e1 : cT (⟨pty, pn, psx⟩, 0) tu = if pty = tu then (⟨pty, pn, psx⟩, 0) else if pty = 1 ∧ tu = 2 then cN 1 pn 2 else bad 3 := rfl
        rw [e1]
        clear e1
        by_cases h1 : pty = tu
        · subst h1
          rw [if_pos rfl]
          go_enter Tryz.func6, Tryz.ntmps6
          go_wp2_with fail
          refine (CK.out _).mono ?_
          rintro e w1 ⟨rfl, hb1⟩
          have V1 := V0.out.below hb1
          have R1 := R0.out.below hb1
          have B1 := B0.out.trans (hb1.mono B0.out.size)
          clear CK hb1 R0 B0 V0
          obtain ⟨_, v0, v1, v2, _, _, _⟩ := id V1
          obtain ⟨_, c0, c1, c2, f0, f1, f2⟩ := id R1
          go_wp2_with fail
          refine (PS.out _).mono ?_
          rintro e w2 ⟨rfl, hb2⟩
          have U2 := Res.new w2 pty pn psx
          have R2 := (R1.below hb2).alloc (.cells #[.int .i64 pty, .int .i64 pn, .string psx] 23)
          have B2a := B1.trans (hb2.mono B1.size)
          have B2 := B2a.alloc B2a.size (.cells #[.int .i64 pty, .int .i64 pn, .string psx] 23)
          clear PS hb2 R1 B1 V1 v0 v1 v2 c0 c1 c2 f0 f1 f2 B2a
          unfold av
          obtain ⟨_, u0, u1, u2, _, _, _⟩ := id U2
          obtain ⟨_, c0, c1, c2, f0, f1, f2⟩ := id R2
          go_wp2_with fail
          obtain ⟨_, x0, x1, x2, _, _, _⟩ := R2.put pty pn psx
          refine bodyPost_ret (v := av (⟨pty, pn, psx⟩, 0)) (by simp [results, Tryz.results6, go_sem, av, x0, x1, x2]) rfl ⟨rfl, ?_⟩
          exact ((B2.setCell (p := ⟨(w.heap.size + 1), 0, none⟩) (Nat.le_succ _) _).setCell (p := ⟨(w.heap.size + 1), 1, none⟩) (Nat.le_succ _) _).setCell (p := ⟨(w.heap.size + 1), 2, none⟩) (Nat.le_succ _) _
        rw [if_neg h1]
        have h1b : (pty == tu) = false := by rw [beq_eq_false_iff_ne]; exact h1
        by_cases h2 : pty = 1 ∧ tu = 2
        · rw [if_pos h2]
          obtain ⟨rfl, rfl⟩ := h2
          have CN : Hid (∀ w, Calls Tryz.prog 6 #[.agg #[.int .i64 1, .int .i64 pn, .string psx], .int .i64 2] w fun e w' => e = .returned (av (cN 1 pn 2)) ∧ Below w.heap.size w w') := fun w => refCast_num pn psx w hft
          generalize cN 1 pn 2 = A at *
          obtain ⟨⟨aty, an, asx⟩, ae⟩ := A
          clear h1
          go_enter Tryz.func6, Tryz.ntmps6
          go_wp2_with fail
          refine (CK.out _).mono ?_
          rintro e w1 ⟨rfl, hb1⟩
          have V1 := V0.out.below hb1
          have R1 := R0.out.below hb1
          have B1 := B0.out.trans (hb1.mono B0.out.size)
          clear CK hb1 R0 B0 V0
          obtain ⟨_, v0, v1, v2, _, _, _⟩ := id V1
          obtain ⟨_, c0, c1, c2, f0, f1, f2⟩ := id R1
          go_wp2_with fail
          refine (PS.out _).mono ?_
          rintro e w2 ⟨rfl, hb2⟩
          have U2 := Res.new w2 1 pn psx
          have R2 := (R1.below hb2).alloc (.cells #[.int .i64 1, .int .i64 pn, .string psx] 23)
          have B2a := B1.trans (hb2.mono B1.size)
          have B2 := B2a.alloc B2a.size (.cells #[.int .i64 1, .int .i64 pn, .string psx] 23)
          clear PS hb2 R1 B1 V1 v0 v1 v2 c0 c1 c2 f0 f1 f2 B2a
          unfold av
          obtain ⟨_, u0, u1, u2, _, _, _⟩ := id U2
          obtain ⟨_, c0, c1, c2, f0, f1, f2⟩ := id R2
          go_wp2_with fail
          refine (CN.out _).mono ?_
          rintro e w3 ⟨rfl, hb3⟩
          have R3 := R2.below hb3
          have B3 := B2.trans (hb3.mono B2.size)
          clear CN hb3 R2 B2 U2 u0 u1 u2 c0 c1 c2 f0 f1 f2
          unfold av
          obtain ⟨_, c0, c1, c2, f0, f1, f2⟩ := id R3
          go_wp2_with fail
          obtain ⟨_, x0, x1, x2, _, _, _⟩ := R3.put aty an asx
          refine bodyPost_ret (v := av (⟨aty, an, asx⟩, ae)) (by simp [results, Tryz.results6, go_sem, av, x0, x1, x2]) rfl ⟨rfl, ?_⟩
          exact ((B3.setCell (p := ⟨(w.heap.size + 1), 0, none⟩) (Nat.le_succ _) _).setCell (p := ⟨(w.heap.size + 1), 1, none⟩) (Nat.le_succ _) _).setCell (p := ⟨(w.heap.size + 1), 2, none⟩) (Nat.le_succ _) _
        rw [if_neg h2]
        by_cases h3 : pty = 1
        · subst h3
          have h2b : (tu == 2) = false := by rw [beq_eq_false_iff_ne]; exact fun e => h2 ⟨rfl, e⟩
          clear h2 h1
          go_enter Tryz.func6, Tryz.ntmps6
          go_wp2_with fail
          refine (CK.out _).mono ?_
          rintro e w1 ⟨rfl, hb1⟩
          have V1 := V0.out.below hb1
          have R1 := R0.out.below hb1
          have B1 := B0.out.trans (hb1.mono B0.out.size)
          clear CK hb1 R0 B0 V0
          obtain ⟨_, v0, v1, v2, _, _, _⟩ := id V1
          obtain ⟨_, c0, c1, c2, f0, f1, f2⟩ := id R1
          go_wp2_with fail
          refine (PS.out _).mono ?_
          rintro e w2 ⟨rfl, hb2⟩
          have U2 := Res.new w2 1 pn psx
          have R2 := (R1.below hb2).alloc (.cells #[.int .i64 1, .int .i64 pn, .string psx] 23)
          have B2a := B1.trans (hb2.mono B1.size)
          have B2 := B2a.alloc B2a.size (.cells #[.int .i64 1, .int .i64 pn, .string psx] 23)
          clear PS hb2 R1 B1 V1 v0 v1 v2 c0 c1 c2 f0 f1 f2 B2a
          unfold av
          obtain ⟨_, u0, u1, u2, _, _, _⟩ := id U2
          obtain ⟨_, c0, c1, c2, f0, f1, f2⟩ := id R2
          go_wp2_with fail
          obtain ⟨_, x0, x1, x2, _, _, _⟩ := R2.put 0 0 ⟨#[]⟩
          refine bodyPost_ret (v := av (⟨0, 0, ⟨#[]⟩⟩, 3)) (by simp [results, Tryz.results6, go_sem, av, x0, x1, x2]) rfl ⟨rfl, ?_⟩
          exact ((B2.setCell (p := ⟨(w.heap.size + 1), 0, none⟩) (Nat.le_succ _) _).setCell (p := ⟨(w.heap.size + 1), 1, none⟩) (Nat.le_succ _) _).setCell (p := ⟨(w.heap.size + 1), 2, none⟩) (Nat.le_succ _) _
        have h3b : (pty == 1) = false := by rw [beq_eq_false_iff_ne]; exact h3
        clear h2 h1 h3
        go_enter Tryz.func6, Tryz.ntmps6
        go_wp2_with fail
        refine (CK.out _).mono ?_
        rintro e w1 ⟨rfl, hb1⟩
        have V1 := V0.out.below hb1
        have R1 := R0.out.below hb1
        have B1 := B0.out.trans (hb1.mono B0.out.size)
        clear CK hb1 R0 B0 V0
        obtain ⟨_, v0, v1, v2, _, _, _⟩ := id V1
        obtain ⟨_, c0, c1, c2, f0, f1, f2⟩ := id R1
        go_wp2_with fail
        refine (PS.out _).mono ?_
        rintro e w2 ⟨rfl, hb2⟩
        have U2 := Res.new w2 pty pn psx
        have R2 := (R1.below hb2).alloc (.cells #[.int .i64 pty, .int .i64 pn, .string psx] 23)
        have B2a := B1.trans (hb2.mono B1.size)
        have B2 := B2a.alloc B2a.size (.cells #[.int .i64 pty, .int .i64 pn, .string psx] 23)
        clear PS hb2 R1 B1 V1 v0 v1 v2 c0 c1 c2 f0 f1 f2 B2a
        unfold av
        obtain ⟨_, u0, u1, u2, _, _, _⟩ := id U2
        obtain ⟨_, c0, c1, c2, f0, f1, f2⟩ := id R2
        go_wp2_with fail
        obtain ⟨_, x0, x1, x2, _, _, _⟩ := R2.put 0 0 ⟨#[]⟩
        refine bodyPost_ret (v := av (⟨0, 0, ⟨#[]⟩⟩, 3)) (by simp [results, Tryz.results6, go_sem, av, x0, x1, x2]) rfl ⟨rfl, ?_⟩
        exact ((B2.setCell (p := ⟨(w.heap.size + 1), 0, none⟩) (Nat.le_succ _) _).setCell (p := ⟨(w.heap.size + 1), 1, none⟩) (Nat.le_succ _) _).setCell (p := ⟨(w.heap.size + 1), 2, none⟩) (Nat.le_succ _) _
      · have e1 : cT (⟨pty, pn, psx⟩, E) tu = bad E := if_neg hE
        rw [e1]
        clear e1
        have hEb : (E != 0) = true := by rw [bne_iff_ne]; exact hE
        go_enter Tryz.func6, Tryz.ntmps6
        go_wp2_with fail
        refine (CK.out _).mono ?_
        rintro e w1 ⟨rfl, hb1⟩
        have V1 := V0.out.below hb1
        have R1 := R0.out.below hb1
        have B1 := B0.out.trans (hb1.mono B0.out.size)
        clear CK hb1 R0 B0 V0
        obtain ⟨_, v0, v1, v2, _, _, _⟩ := id V1
        obtain ⟨_, c0, c1, c2, f0, f1, f2⟩ := id R1
        go_wp2_with fail
        refine (PS.out _).mono ?_
        rintro e w2 ⟨rfl, hb2⟩
        have U2 := Res.new w2 pty pn psx
        have R2 := (R1.below hb2).alloc (.cells #[.int .i64 pty, .int .i64 pn, .string psx] 23)
        have B2a := B1.trans (hb2.mono B1.size)
        have B2 := B2a.alloc B2a.size (.cells #[.int .i64 pty, .int .i64 pn, .string psx] 23)
        clear PS hb2 R1 B1 V1 v0 v1 v2 c0 c1 c2 f0 f1 f2 B2a
        unfold av
        obtain ⟨_, u0, u1, u2, _, _, _⟩ := id U2
        obtain ⟨_, c0, c1, c2, f0, f1, f2⟩ := id R2
        go_wp2_with fail
        obtain ⟨_, x0, x1, x2, _, _, _⟩ := R2.put 0 0 ⟨#[]⟩
        refine bodyPost_ret (v := av (⟨0, 0, ⟨#[]⟩⟩, E)) (by simp [results, Tryz.results6, go_sem, av, x0, x1, x2]) rfl ⟨rfl, ?_⟩
        exact ((B2.setCell (p := ⟨(w.heap.size + 1), 0, none⟩) (Nat.le_succ _) _).setCell (p := ⟨(w.heap.size + 1), 1, none⟩) (Nat.le_succ _) _).setCell (p := ⟨(w.heap.size + 1), 2, none⟩) (Nat.le_succ _) _
    rw [if_neg h3]
    have b3 : (ty != 3) = true := by rw [bne_iff_ne]; exact h3
    by_cases hu : tu = 3
    · subst hu
      rw [if_pos rfl]
      have PR : Hid (∀ w, Tabs w → Pow w → Mx w → Calls Tryz.prog 10 #[.agg #[.int .i64 ty, .int .i64 n, .string s]] w fun e w' => e = .returned (.tuple #[.string ⟨(prV ty n s).toArray⟩, .int .i64 0]) ∧ Below w.heap.size w w') := fun w h1 h2 h3 => by have h := refPrint_any ty n s w hn hs h1 h2 h3; rw [HPV.out] at h; exact h
      generalize prV ty n s = X at *
      clear hst HPV h5 ht hty he h3 be h12
      go_enter Tryz.func6, Tryz.ntmps6
      go_wp2_with fail
      refine (CK.out _).mono ?_
      rintro e w1 ⟨rfl, hb1⟩
      have V1 := V0.out.below hb1
      have R1 := R0.out.below hb1
      have B1 := B0.out.trans (hb1.mono B0.out.size)
      clear CK hb1 R0 B0 V0
      obtain ⟨_, v0, v1, v2, _, _, _⟩ := id V1
      obtain ⟨_, c0, c1, c2, f0, f1, f2⟩ := id R1
      go_wp2_with fail
      refine (PR.out _ (HT.out.below B1) (HP.out.below B1) (HM.out.below B1)).mono ?_
      rintro e w2 ⟨rfl, hb2⟩
      have R2 := R1.below hb2
      have B2 := B1.trans (hb2.mono B1.size)
      clear PR hb2 R1 B1 V1 v0 v1 v2 c0 c1 c2 f0 f1 f2
      obtain ⟨_, c0, c1, c2, f0, f1, f2⟩ := id R2
      go_wp2_with fail
      obtain ⟨_, x0, x1, x2, _, _, _⟩ := R2.put 3 0 ⟨X.toArray⟩
      refine bodyPost_ret (v := av (⟨3, 0, ⟨X.toArray⟩⟩, 0)) (by simp [results, Tryz.results6, go_sem, av, x0, x1, x2]) rfl ⟨rfl, ?_⟩
      exact ((B2.setCell (p := ⟨(w.heap.size + 1), 0, none⟩) (Nat.le_succ _) _).setCell (p := ⟨(w.heap.size + 1), 1, none⟩) (Nat.le_succ _) _).setCell (p := ⟨(w.heap.size + 1), 2, none⟩) (Nat.le_succ _) _
    rw [if_neg hu]
    have bu : (tu == 3) = false := by rw [beq_eq_false_iff_ne]; exact hu
    have hq1 : -9223372036854775808 ≤ n.tdiv 10000 := by have := hn.1; have := hn.2; rw [Int.tdiv_eq_ediv, show Int.sign 10000 = 1 from rfl]; split <;> omega
    have hq2 : n.tdiv 10000 ≤ 9223372036854775807 := by have := hn.1; have := hn.2; rw [Int.tdiv_eq_ediv, show Int.sign 10000 = 1 from rfl]; split <;> omega
    by_cases h21 : ty = 2 ∧ tu = 1
    · obtain ⟨rfl, rfl⟩ := h21
      have e1 : cN 2 n 1 = (⟨1, n.tdiv 10000, ⟨#[]⟩⟩, 0) := if_pos (by decide)
      rw [e1]
      clear hst HPV h5 ht hty he h3 hu h12 e1
      go_enter Tryz.func6, Tryz.ntmps6
      go_wp2_with fail
      refine (CK.out _).mono ?_
      rintro e w1 ⟨rfl, hb1⟩
      have V1 := V0.out.below hb1
      have R1 := R0.out.below hb1
      have B1 := B0.out.trans (hb1.mono B0.out.size)
      clear CK hb1 R0 B0 V0
      obtain ⟨_, v0, v1, v2, _, _, _⟩ := id V1
      obtain ⟨_, c0, c1, c2, f0, f1, f2⟩ := id R1
      go_wp2_with fail
      obtain ⟨_, x0, x1, x2, _, _, _⟩ := R1.put 1 (n.tdiv 10000) ⟨#[]⟩
      refine bodyPost_ret (v := av (⟨1, n.tdiv 10000, ⟨#[]⟩⟩, 0)) (by simp [results, Tryz.results6, go_sem, av, x0, x1, x2]) rfl ⟨rfl, ?_⟩
      exact ((B1.setCell (p := ⟨(w.heap.size + 1), 0, none⟩) (Nat.le_succ _) _).setCell (p := ⟨(w.heap.size + 1), 1, none⟩) (Nat.le_succ _) _).setCell (p := ⟨(w.heap.size + 1), 2, none⟩) (Nat.le_succ _) _
    have e1 : cN ty n tu = bad 7 := by unfold cN; rw [if_neg h21, if_neg h12]
    rw [e1]
    clear e1
    by_cases k1 : ty = 1
    · subst k1
      have k2 : (tu == 2) = false := by rw [beq_eq_false_iff_ne]; exact fun e => h12 ⟨rfl, e⟩
      clear hst HPV h5 ht hty he h3 hu h12 h21
      go_enter Tryz.func6, Tryz.ntmps6
      go_wp2_with fail
      refine (CK.out _).mono ?_
      rintro e w1 ⟨rfl, hb1⟩
      have V1 := V0.out.below hb1
      have R1 := R0.out.below hb1
      have B1 := B0.out.trans (hb1.mono B0.out.size)
      clear CK hb1 R0 B0 V0
      obtain ⟨_, v0, v1, v2, _, _, _⟩ := id V1
      obtain ⟨_, c0, c1, c2, f0, f1, f2⟩ := id R1
      go_wp2_with fail
      obtain ⟨_, x0, x1, x2, _, _, _⟩ := R1.put 0 0 ⟨#[]⟩
      refine bodyPost_ret (v := av (⟨0, 0, ⟨#[]⟩⟩, 7)) (by simp [results, Tryz.results6, go_sem, av, x0, x1, x2]) rfl ⟨rfl, ?_⟩
      exact ((B1.setCell (p := ⟨(w.heap.size + 1), 0, none⟩) (Nat.le_succ _) _).setCell (p := ⟨(w.heap.size + 1), 1, none⟩) (Nat.le_succ _) _).setCell (p := ⟨(w.heap.size + 1), 2, none⟩) (Nat.le_succ _) _
    have k1b : (ty == 1) = false := by rw [beq_eq_false_iff_ne]; exact k1
    by_cases k2 : ty = 2
    · subst k2
      have k2 : (tu == 1) = false := by rw [beq_eq_false_iff_ne]; exact fun e => h21 ⟨rfl, e⟩
      clear hst HPV h5 ht hty he h3 hu h12 h21
      go_enter Tryz.func6, Tryz.ntmps6
      go_wp2_with fail
      refine (CK.out _).mono ?_
      rintro e w1 ⟨rfl, hb1⟩
      have V1 := V0.out.below hb1
      have R1 := R0.out.below hb1
      have B1 := B0.out.trans (hb1.mono B0.out.size)
      clear CK hb1 R0 B0 V0
      obtain ⟨_, v0, v1, v2, _, _, _⟩ := id V1
      obtain ⟨_, c0, c1, c2, f0, f1, f2⟩ := id R1
      go_wp2_with fail
      obtain ⟨_, x0, x1, x2, _, _, _⟩ := R1.put 0 0 ⟨#[]⟩
      refine bodyPost_ret (v := av (⟨0, 0, ⟨#[]⟩⟩, 7)) (by simp [results, Tryz.results6, go_sem, av, x0, x1, x2]) rfl ⟨rfl, ?_⟩
      exact ((B1.setCell (p := ⟨(w.heap.size + 1), 0, none⟩) (Nat.le_succ _) _).setCell (p := ⟨(w.heap.size + 1), 1, none⟩) (Nat.le_succ _) _).setCell (p := ⟨(w.heap.size + 1), 2, none⟩) (Nat.le_succ _) _
    have k2b : (ty == 2) = false := by rw [beq_eq_false_iff_ne]; exact k2
    clear hst HPV h5 ht hty he h3 hu h12 h21 k1 k2
    go_enter Tryz.func6, Tryz.ntmps6
    go_wp2_with fail
    refine (CK.out _).mono ?_
    rintro e w1 ⟨rfl, hb1⟩
    have V1 := V0.out.below hb1
    have R1 := R0.out.below hb1
    have B1 := B0.out.trans (hb1.mono B0.out.size)
    clear CK hb1 R0 B0 V0
    obtain ⟨_, v0, v1, v2, _, _, _⟩ := id V1
    obtain ⟨_, c0, c1, c2, f0, f1, f2⟩ := id R1
    go_wp2_with fail
    obtain ⟨_, x0, x1, x2, _, _, _⟩ := R1.put 0 0 ⟨#[]⟩
    refine bodyPost_ret (v := av (⟨0, 0, ⟨#[]⟩⟩, 7)) (by simp [results, Tryz.results6, go_sem, av, x0, x1, x2]) rfl ⟨rfl, ?_⟩
    exact ((B1.setCell (p := ⟨(w.heap.size + 1), 0, none⟩) (Nat.le_succ _) _).setCell (p := ⟨(w.heap.size + 1), 1, none⟩) (Nat.le_succ _) _).setCell (p := ⟨(w.heap.size + 1), 2, none⟩) (Nat.le_succ _) _
  · have e1 : cst ty n s tu = bad (chk ty n s) := (if_neg ht).trans (if_neg hc)
    rw [e1]
    generalize chk ty n s = c at *
    clear e1 ht h12
    have hcb : (c != 0) = true := by rw [bne_iff_ne]; exact hc
    go_enter Tryz.func6, Tryz.ntmps6
    go_wp2_with fail
    refine (CK.out _).mono ?_
    rintro e w1 ⟨rfl, hb1⟩
    have V1 := V0.out.below hb1
    have R1 := R0.out.below hb1
    have B1 := B0.out.trans (hb1.mono B0.out.size)
    clear CK hb1 R0 B0 V0
    obtain ⟨_, v0, v1, v2, _, _, _⟩ := id V1
    obtain ⟨_, c0, c1, c2, f0, f1, f2⟩ := id R1
    go_wp2_with fail
    obtain ⟨_, x0, x1, x2, _, _, _⟩ := R1.put 0 0 ⟨#[]⟩
    refine bodyPost_ret (v := av (⟨0, 0, ⟨#[]⟩⟩, c)) (by simp [results, Tryz.results6, go_sem, av, x0, x1, x2]) rfl ⟨rfl, ?_⟩
    exact ((B1.setCell (p := ⟨(w.heap.size + 1), 0, none⟩) (Nat.le_succ _) _).setCell (p := ⟨(w.heap.size + 1), 1, none⟩) (Nat.le_succ _) _).setCell (p := ⟨(w.heap.size + 1), 2, none⟩) (Nat.le_succ _) _
end Go.Proofs.YtoboebibmelgkaaGreatDoor
