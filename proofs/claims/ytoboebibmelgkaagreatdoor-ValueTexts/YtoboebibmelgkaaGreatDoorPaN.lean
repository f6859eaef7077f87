/-
  Cast, of both: the walks.
-/
import Derived.Test.YtoboebibmelgkaaGreatDoorPaL
namespace Go.Proofs.YtoboebibmelgkaaGreatDoor
open Go.RowKit Go.Shelf


set_option maxHeartbeats 4000000 in
set_option maxRecDepth 1000000 in
theorem Cast_any (ty n : Int) (s : ByteArray) (tu : Int) (w : World) (hn : fit n) (hs : s.size ≤ 9223372036854775807) (hM : Mx w) (hR : Rg w) (hT : Tabs w) (hP : Pow w) :
    Calls Tryz.prog 5 #[.agg #[.int .i64 ty, .int .i64 n, .string s], .int .i64 tu] w fun e w' => e = .returned (av (cst ty n s tu)) ∧ Below w.heap.size w w' := by
  have V0 : Hid (Res ((w.alloc (.cells #[.int .i64 ty, .int .i64 n, .string s] 23)).alloc (.cells #[.int .i64 0, .int .i64 0, .string ⟨#[]⟩] 23)) w.heap.size ty n s) := (Res.new w ty n s).alloc _
  have R0 : Hid (Res ((w.alloc (.cells #[.int .i64 ty, .int .i64 n, .string s] 23)).alloc (.cells #[.int .i64 0, .int .i64 0, .string ⟨#[]⟩] 23)) (w.heap.size + 1) 0 0 ⟨#[]⟩) := Res.new2 w _
  have B0 : Hid (Below w.heap.size w ((w.alloc (.cells #[.int .i64 ty, .int .i64 n, .string s] 23)).alloc (.cells #[.int .i64 0, .int .i64 0, .string ⟨#[]⟩] 23))) := two_allocs w _ _
  have CK : Hid (∀ w, Tabs w → Calls Tryz.prog 14 #[.agg #[.int .i64 ty, .int .i64 n, .string s]] w fun e w' => e = .returned (.int .i64 (chk ty n s)) ∧ Below w.heap.size w w') := fun w h => Check_any ty n s w hs h
  have HM : Hid (Mx w) := hM
  have HR : Hid (Rg w) := hR
  have HT : Hid (Tabs w) := hT
  have HP : Hid (Pow w) := hP
  clear hM hR hT hP
  by_cases ht : tu < 1 ∨ 4 < tu
  · have e1 : cst ty n s tu = bad 1 := if_pos ht
    rw [e1]
    clear e1
    rcases ht with ht | ht
    · go_enter Tryz.func5, Tryz.ntmps5
      go_wp2_with fail
      refine bodyPost_ret (v := av (⟨0, 0, ⟨#[]⟩⟩, 1)) (by simp [results, Tryz.results5, go_sem, av]) rfl ⟨rfl, two_allocs w _ _⟩
    · have ht2 : ¬ tu < 1 := by omega
      go_enter Tryz.func5, Tryz.ntmps5
      go_wp2_with fail
      refine bodyPost_ret (v := av (⟨0, 0, ⟨#[]⟩⟩, 1)) (by simp [results, Tryz.results5, go_sem, av]) rfl ⟨rfl, two_allocs w _ _⟩
  have t1 : ¬ tu < 1 := by omega
  have t4 : ¬ 4 < tu := by omega
  by_cases hc : chk ty n s = 0
  · have e1 : cst ty n s tu = if ty = 0 then (⟨0, 0, ⟨#[]⟩⟩, 0) else if ty = tu then (plV ty n s, 0) else if ty = 3 then cT (prs s.data.toList) tu else if tu = 3 then (⟨3, 0, ⟨(prV ty n s).toArray⟩⟩, 0) else cN ty n tu := (if_neg ht).trans (if_pos hc)
    rw [e1]
    clear e1
    have h5 : ty = 0 ∨ ty = 1 ∨ ty = 2 ∨ ty = 3 ∨ ty = 4 := by
      unfold chk at hc
      by_cases h : ty < 0 ∨ 4 < ty ∨ (ty = 4 ∧ n ≠ 0 ∧ n ≠ 1)
      · rw [if_pos h] at hc; cases hc
      · omega
    have hst : ty = 3 → s.size ≤ 4096 := by rintro rfl; rw [chk_text] at hc; exact (chkT_zero hc).1
    have hpv : pvV ty n s = .tuple #[.string ⟨(prV ty n s).toArray⟩, .int .i64 0] := if_pos hc
    have HPV : Hid (pvV ty n s = .tuple #[.string ⟨(prV ty n s).toArray⟩, .int .i64 0]) := hpv
    rw [hc] at CK
    clear hc hpv
    by_cases hty : ty = 0
    · subst hty
      rw [if_pos rfl]
      clear hst HPV h5 ht
      go_enter Tryz.func5, Tryz.ntmps5
      go_wp2_with fail
      refine (CK.out _ (HT.out.below B0.out)).mono ?_
      rintro e w1 ⟨rfl, hb1⟩
      have V1 := V0.out.below hb1
      have R1 := R0.out.below hb1
      have B1 := B0.out.trans (hb1.mono B0.out.size)
      clear CK hb1 R0 B0 V0
      obtain ⟨_, v0, v1, v2, _, _, _⟩ := id V1
      obtain ⟨_, c0, c1, c2, f0, f1, f2⟩ := id R1
      go_wp2_with fail
      obtain ⟨_, x0, x1, x2, _, _, _⟩ := R1.put 0 0 ⟨#[]⟩
      refine bodyPost_ret (v := av (⟨0, 0, ⟨#[]⟩⟩, 0)) (by simp [results, Tryz.results5, go_sem, av, x0, x1, x2]) rfl ⟨rfl, ?_⟩
      exact ((B1.setCell (p := ⟨(w.heap.size + 1), 0, none⟩) (Nat.le_succ _) _).setCell (p := ⟨(w.heap.size + 1), 1, none⟩) (Nat.le_succ _) _).setCell (p := ⟨(w.heap.size + 1), 2, none⟩) (Nat.le_succ _) _
    rw [if_neg hty]
    have b0 : (ty == 0) = false := by rw [beq_eq_false_iff_ne]; exact hty
    by_cases he : ty = tu
    · subst he
      rw [if_pos rfl]
      have ON : Hid (∀ w, Calls Tryz.prog 15 #[.agg #[.int .i64 ty, .int .i64 n, .string s]] w fun e w' => e = .returned (ag (plV ty n s)) ∧ Below w.heap.size w w') := fun w => onlyNamed_any ty n s w (by omega)
      generalize plV ty n s = A at *
      obtain ⟨aty, an, asx⟩ := A
      clear hst HPV h5 ht hty
      go_enter Tryz.func5, Tryz.ntmps5
      go_wp2_with fail
      refine (CK.out _ (HT.out.below B0.out)).mono ?_
      rintro e w1 ⟨rfl, hb1⟩
      have V1 := V0.out.below hb1
      have R1 := R0.out.below hb1
      have B1 := B0.out.trans (hb1.mono B0.out.size)
      clear CK hb1 R0 B0 V0
      obtain ⟨_, v0, v1, v2, _, _, _⟩ := id V1
      obtain ⟨_, c0, c1, c2, f0, f1, f2⟩ := id R1
      go_wp2_with fail
      refine (ON.out _).mono ?_
      rintro e w2 ⟨rfl, hb2⟩
      have R2 := R1.below hb2
      have B2 := B1.trans (hb2.mono B1.size)
      clear ON hb2 R1 B1 V1 v0 v1 v2 c0 c1 c2 f0 f1 f2
      unfold ag
      obtain ⟨_, c0, c1, c2, f0, f1, f2⟩ := id R2
      go_wp2_with fail
      obtain ⟨_, x0, x1, x2, _, _, _⟩ := R2.put aty an asx
      refine bodyPost_ret (v := av (⟨aty, an, asx⟩, 0)) (by simp [results, Tryz.results5, go_sem, av, x0, x1, x2]) rfl ⟨rfl, ?_⟩
      exact ((B2.setCell (p := ⟨(w.heap.size + 1), 0, none⟩) (Nat.le_succ _) _).setCell (p := ⟨(w.heap.size + 1), 1, none⟩) (Nat.le_succ _) _).setCell (p := ⟨(w.heap.size + 1), 2, none⟩) (Nat.le_succ _) _
    rw [if_neg he]
    have be : (ty == tu) = false := by rw [beq_eq_false_iff_ne]; exact he
    by_cases h3 : ty = 3
    · subst h3
      rw [if_pos rfl]
      have hs4 := hst rfl
      have CT : Hid (∀ w, Mx w → Rg w → Tabs w → Calls Tryz.prog 16 #[.string s, .int .i64 tu] w fun e w' => e = .returned (av (cT (prs s.data.toList) tu)) ∧ Below w.heap.size w w') := fun w h1 h2 h3 => castText_any s tu w hs4 (by omega) h1 h2 h3
      generalize cT (prs s.data.toList) tu = A at *
      obtain ⟨⟨aty, an, asx⟩, ae⟩ := A
      clear hst HPV h5 ht hty he
      go_enter Tryz.func5, Tryz.ntmps5
      go_wp2_with fail
      refine (CK.out _ (HT.out.below B0.out)).mono ?_
      rintro e w1 ⟨rfl, hb1⟩
      have V1 := V0.out.below hb1
      have R1 := R0.out.below hb1
      have B1 := B0.out.trans (hb1.mono B0.out.size)
      clear CK hb1 R0 B0 V0
      obtain ⟨_, v0, v1, v2, _, _, _⟩ := id V1
      obtain ⟨_, c0, c1, c2, f0, f1, f2⟩ := id R1
      go_wp2_with fail
      refine (CT.out _ (HM.out.below B1) (HR.out.below B1) (HT.out.below B1)).mono ?_
      rintro e w2 ⟨rfl, hb2⟩
      have R2 := R1.below hb2
      have B2 := B1.trans (hb2.mono B1.size)
      clear CT hb2 R1 B1 V1 v0 v1 v2 c0 c1 c2 f0 f1 f2
      unfold av
      obtain ⟨_, c0, c1, c2, f0, f1, f2⟩ := id R2
      go_wp2_with fail
      obtain ⟨_, x0, x1, x2, _, _, _⟩ := R2.put aty an asx
      refine bodyPost_ret (v := av (⟨aty, an, asx⟩, ae)) (by simp [results, Tryz.results5, go_sem, av, x0, x1, x2]) rfl ⟨rfl, ?_⟩
      exact ((B2.setCell (p := ⟨(w.heap.size + 1), 0, none⟩) (Nat.le_succ _) _).setCell (p := ⟨(w.heap.size + 1), 1, none⟩) (Nat.le_succ _) _).setCell (p := ⟨(w.heap.size + 1), 2, none⟩) (Nat.le_succ _) _
    rw [if_neg h3]
    have b3 : (ty == 3) = false := by rw [beq_eq_false_iff_ne]; exact h3
    by_cases hu : tu = 3
    · subst hu
      rw [if_pos rfl]
      have PR : Hid (∀ w, Tabs w → Pow w → Mx w → Calls Tryz.prog 9 #[.agg #[.int .i64 ty, .int .i64 n, .string s]] w fun e w' => e = .returned (.tuple #[.string ⟨(prV ty n s).toArray⟩, .int .i64 0]) ∧ Below w.heap.size w w') := fun w h1 h2 h3 => by have h := Print_any ty n s w hn hs h1 h2 h3; rw [HPV.out] at h; exact h
      generalize prV ty n s = X at *
      clear hst HPV h5 ht hty he h3 be
      go_enter Tryz.func5, Tryz.ntmps5
      go_wp2_with fail
      refine (CK.out _ (HT.out.below B0.out)).mono ?_
      rintro e w1 ⟨rfl, hb1⟩
      have V1 := V0.out.below hb1
      have R1 := R0.out.below hb1
      have B1 := B0.out.trans (hb1.mono B0.out.size)
      clear CK hb1 R0 B0 V0
      obtain ⟨_, v0, v1, v2, _, _, _⟩ := id V1
      obtain ⟨_, c0, c1, c2, f0, f1, f2⟩ := id R1
      go_wp2_with fail
      refine (PR.out _ (HT.out.below B1) (HP.out.below B1) (HM.out.below B1)).mono ?_
      rintro e w2 ⟨rfl, hb2⟩
      have R2 := R1.below hb2
      have B2 := B1.trans (hb2.mono B1.size)
      clear PR hb2 R1 B1 V1 v0 v1 v2 c0 c1 c2 f0 f1 f2
      obtain ⟨_, c0, c1, c2, f0, f1, f2⟩ := id R2
      go_wp2_with fail
      obtain ⟨_, x0, x1, x2, _, _, _⟩ := R2.put 3 0 ⟨X.toArray⟩
      refine bodyPost_ret (v := av (⟨3, 0, ⟨X.toArray⟩⟩, 0)) (by simp [results, Tryz.results5, go_sem, av, x0, x1, x2]) rfl ⟨rfl, ?_⟩
      exact ((B2.setCell (p := ⟨(w.heap.size + 1), 0, none⟩) (Nat.le_succ _) _).setCell (p := ⟨(w.heap.size + 1), 1, none⟩) (Nat.le_succ _) _).setCell (p := ⟨(w.heap.size + 1), 2, none⟩) (Nat.le_succ _) _
    rw [if_neg hu]
    have bu : (tu == 3) = false := by rw [beq_eq_false_iff_ne]; exact hu
    have CN : Hid (∀ w, Calls Tryz.prog 17 #[.agg #[.int .i64 ty, .int .i64 n, .string s], .int .i64 tu] w fun e w' => e = .returned (av (cN ty n tu)) ∧ Below w.heap.size w w') := fun w => castNumber_any ty n tu s w hn (by omega) (by omega) he
    generalize cN ty n tu = A at *
    obtain ⟨⟨aty, an, asx⟩, ae⟩ := A
    clear hst HPV h5 ht hty he h3 hu
    go_enter Tryz.func5, Tryz.ntmps5
    go_wp2_with fail
    refine (CK.out _ (HT.out.below B0.out)).mono ?_
    rintro e w1 ⟨rfl, hb1⟩
    have V1 := V0.out.below hb1
    have R1 := R0.out.below hb1
    have B1 := B0.out.trans (hb1.mono B0.out.size)
    clear CK hb1 R0 B0 V0
    obtain ⟨_, v0, v1, v2, _, _, _⟩ := id V1
    obtain ⟨_, c0, c1, c2, f0, f1, f2⟩ := id R1
    go_wp2_with fail
    refine (CN.out _).mono ?_
    rintro e w2 ⟨rfl, hb2⟩
    have R2 := R1.below hb2
    have B2 := B1.trans (hb2.mono B1.size)
    clear CN hb2 R1 B1 V1 v0 v1 v2 c0 c1 c2 f0 f1 f2
    unfold av
    obtain ⟨_, c0, c1, c2, f0, f1, f2⟩ := id R2
    go_wp2_with fail
    obtain ⟨_, x0, x1, x2, _, _, _⟩ := R2.put aty an asx
    refine bodyPost_ret (v := av (⟨aty, an, asx⟩, ae)) (by simp [results, Tryz.results5, go_sem, av, x0, x1, x2]) rfl ⟨rfl, ?_⟩
    exact ((B2.setCell (p := ⟨(w.heap.size + 1), 0, none⟩) (Nat.le_succ _) _).setCell (p := ⟨(w.heap.size + 1), 1, none⟩) (Nat.le_succ _) _).setCell (p := ⟨(w.heap.size + 1), 2, none⟩) (Nat.le_succ _) _
  · have e1 : cst ty n s tu = bad (chk ty n s) := (if_neg ht).trans (if_neg hc)
    rw [e1]
    generalize chk ty n s = c at *
    clear e1 ht
    have hcb : (c != 0) = true := by rw [bne_iff_ne]; exact hc
    go_enter Tryz.func5, Tryz.ntmps5
    go_wp2_with fail
    refine (CK.out _ (HT.out.below B0.out)).mono ?_
    rintro e w1 ⟨rfl, hb1⟩
    have V1 := V0.out.below hb1
    have R1 := R0.out.below hb1
    have B1 := B0.out.trans (hb1.mono B0.out.size)
    clear CK hb1 R0 B0 V0
    obtain ⟨_, v0, v1, v2, _, _, _⟩ := id V1
    obtain ⟨_, c0, c1, c2, f0, f1, f2⟩ := id R1
    go_wp2_with fail
    obtain ⟨_, x0, x1, x2, _, _, _⟩ := R1.put 0 0 ⟨#[]⟩
    refine bodyPost_ret (v := av (⟨0, 0, ⟨#[]⟩⟩, c)) (by simp [results, Tryz.results5, go_sem, av, x0, x1, x2]) rfl ⟨rfl, ?_⟩
    exact ((B1.setCell (p := ⟨(w.heap.size + 1), 0, none⟩) (Nat.le_succ _) _).setCell (p := ⟨(w.heap.size + 1), 1, none⟩) (Nat.le_succ _) _).setCell (p := ⟨(w.heap.size + 1), 2, none⟩) (Nat.le_succ _) _
end Go.Proofs.YtoboebibmelgkaaGreatDoor
