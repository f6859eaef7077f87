/-
  The walks of value.parseNumber, parseText and Parse.
-/
import Derived.Test.YtfcolecglobcdaaGreatDoorPaB
namespace Go.Proofs.YtfcolecglobcdaaGreatDoor
open Go.RowKit Go.Shelf

theorem hasP (l : List UInt8) (c : UInt8) : Lib.hasPrefix l [c] = (l.head? == some c) := by
  unfold Lib.hasPrefix
  rcases l with _ | ⟨x, r⟩
  · rfl
  · show (c == x && true) = (some x == some c)
    rw [Bool.and_true]
    by_cases h : x = c
    · subst h; simp
    · rw [beq_eq_false_iff_ne.2 (fun e => h e.symm), beq_eq_false_iff_ne.2 (fun e => h (Option.some.inj e))]
theorem trimP (l : List UInt8) (c : UInt8) : Lib.trimPrefix l [c] = if l.head? == some c then l.drop 1 else l := by
  unfold Lib.trimPrefix
  rw [hasP]; rfl
theorem rep_is (c : Nat) : Lib.repeatL [48] c = List.replicate c 48 := by
  induction c with
  | zero => rfl
  | succ n ih => simp [Lib.repeatL, ih, List.replicate_succ]
theorem add_mk (a b : List UInt8) : (ByteArray.mk a.toArray) ++ (ByteArray.mk b.toArray) = ByteArray.mk (a ++ b).toArray := by
  apply ByteArray.ext
  simp
theorem size_mk (a : List UInt8) : (ByteArray.mk a.toArray).size = a.length := by show a.toArray.size = _; simp
theorem whole_digits {l : List UInt8} (h : whole l = true) : allD l = true ∧ l ≠ [] := by
  unfold whole at h
  simp only [Bool.and_eq_true] at h
  refine ⟨h.1.2, ?_⟩
  rintro rfl
  simp at h
theorem fin_rd (ty : Int) (l : List UInt8) (neg : Bool) : fin ty (dval 0 l) neg = if rdE l neg = 0 then (⟨ty, rdV l neg, ⟨#[]⟩⟩, 0) else (⟨0, 0, ⟨#[]⟩⟩, rdE l neg) := by
  unfold fin rdE rdV
  generalize dval 0 l = n
  by_cases h : n ≤ 18446744073709551615
  · rw [if_pos h, if_pos h]
    cases neg
    · by_cases h2 : n < 9223372036854775808
      · have hf : fit (n : Int) := ⟨by omega, by omega⟩
        simp only [sgn, Bool.false_eq_true, if_false]
        rw [if_pos h2, ovE_in hf, ovV_in hf, if_pos rfl]
      · have hf : ¬ fit (n : Int) := fun hf => by have := hf.2; omega
        simp only [sgn, Bool.false_eq_true, if_false]
        rw [if_neg h2, ovE_out hf, if_neg (by decide)]
    · by_cases h2 : n ≤ 9223372036854775808
      · have hf : fit (-(n : Int)) := ⟨by omega, by omega⟩
        simp only [sgn, if_true]
        rw [if_pos h2, ovE_in hf, ovV_in hf, if_pos rfl]
      · have hf : ¬ fit (-(n : Int)) := fun hf => by have := hf.1; omega
        simp only [sgn, if_true]
        rw [if_neg h2, ovE_out hf, if_neg (by decide)]
  · rw [if_neg h, if_neg h, if_neg (show ¬ (10 : Int) = 0 by decide)]
    cases neg
    · simp only [Bool.false_eq_true, if_false]; rw [if_neg (by omega)]
    · simp only [if_true]; rw [if_neg (by omega)]
theorem number_all (ty n e : Int) (w : World) : Calls Tryz.prog 145 #[.int .i64 ty, .int .i64 n, .int .i64 e] w fun r w' => r = .returned (av (if e = 0 then (⟨ty, n, ⟨#[]⟩⟩, 0) else (⟨0, 0, ⟨#[]⟩⟩, e))) ∧ Below w.heap.size w w' := by
  by_cases h : e = 0
  · subst h; exact number_ok ty n w
  · rw [if_neg h]; exact number_err ty n e w h

set_option maxHeartbeats 4000000 in
set_option maxRecDepth 1000000 in
theorem parseNumber_any (l u : List UInt8) (neg : Bool) (w : World) (hn : (l.head? == some 45) = neg) (hu : (if l.head? == some 45 then l.drop 1 else l) = u) (hs : l.length ≤ 9000) (hM : Mx w) (hR : Rg w) :
    Calls Tryz.prog 131 #[.string ⟨l.toArray⟩] w fun e w' => e = .returned (av (prN u neg)) ∧ Below w.heap.size w w' := by
  have hus : u.length ≤ 9000 := by
    rw [← hu]
    split
    · rw [List.length_drop]; omega
    · exact hs
  have CP : Hid (∀ w, Calls Tryz.prog 128 #[.string ⟨l.toArray⟩, .string ⟨#[45]⟩] w fun e w' => e = .returned (.tuple #[.string ⟨u.toArray⟩, .bool neg]) ∧ w' = w) := fun w => by
    have h := CutPrefix_any ⟨l.toArray⟩ ⟨#[45]⟩ w
    have e1 : Lib.trimPrefix (ByteArray.mk l.toArray).data.toList (ByteArray.mk #[45]).data.toList = u := by
      show Lib.trimPrefix l.toArray.toList [45] = u
      rw [List.toList_toArray, trimP]; exact hu
    have e2 : Lib.hasPrefix (ByteArray.mk l.toArray).data.toList (ByteArray.mk #[45]).data.toList = neg := by
      show Lib.hasPrefix l.toArray.toList [45] = neg
      rw [List.toList_toArray, hasP]; exact hn
    rw [e1, e2] at h
    exact h
  obtain ⟨W, hW⟩ : ∃ W, W = (cutP u).1 := ⟨_, rfl⟩
  obtain ⟨FR, hFR⟩ : ∃ FR, FR = (cutP u).2.1 := ⟨_, rfl⟩
  obtain ⟨pt, hpt⟩ : ∃ pt, pt = (cutP u).2.2 := ⟨_, rfl⟩
  have CU : Hid (∀ w, Mx w → Calls Tryz.prog 103 #[.string ⟨u.toArray⟩, .string ⟨#[46]⟩] w fun e w' => e = .returned (.tuple #[.string ⟨W.toArray⟩, .string ⟨FR.toArray⟩, .bool pt]) ∧ Below w.heap.size w w') := fun w hM => by
    have h := Cut_any ⟨u.toArray⟩ ⟨#[46]⟩ w hM (by rw [size_mk]; omega)
    simp only [cutP_is, ← hW, ← hFR, ← hpt] at h
    exact h
  have hsz : W.length ≤ 9000 ∧ FR.length ≤ 9000 := by
    have : ∀ v : List UInt8, (cutP v).1.length ≤ v.length ∧ (cutP v).2.1.length ≤ v.length := by
      intro v
      induction v with
      | nil => simp [cutP]
      | cons x r ih =>
        unfold cutP
        split
        · simp
        · simp; omega
    have := this u
    rw [← hW, ← hFR] at this
    omega
  have IW : Hid (∀ w, Calls Tryz.prog 143 #[.string ⟨W.toArray⟩] w fun e w' => e = .returned (.bool (whole W)) ∧ Below w.heap.size w w') := fun w => isWhole_any W w
  have hN : prN u neg = if whole W = false then bad 3 else if pt = false then (if neg = true ∧ W = [48] then bad 3 else fin 1 (dval 0 W) neg) else if FR = [] ∨ 4 < FR.length ∨ allD FR = false then bad 3 else fin 2 (dval 0 (W ++ FR ++ List.replicate (4 - FR.length) 48)) neg := by
    unfold prN; rw [← hW, ← hFR, ← hpt]
  rw [hN]
  have R0 : Hid (Res (w.alloc (.cells #[.int .i64 0, .int .i64 0, .string ⟨#[]⟩] 35)) w.heap.size 0 0 ⟨#[]⟩) := Res.new w 0 0 ⟨#[]⟩
  have B0 : Hid (Below w.heap.size w (w.alloc (.cells #[.int .i64 0, .int .i64 0, .string ⟨#[]⟩] 35))) := (Below.refl _ w).alloc (Nat.le_refl _) _
  have HM : Hid (Mx w) := hM
  have HR : Hid (Rg w) := hR
  clear hN hM hR hn hu hs hus hW hFR hpt
  cases hw : whole W
  · rw [hw] at IW
    rw [if_pos rfl]
    go_enter Tryz.func131, Tryz.ntmps131
    go_wp2_with fail
    refine (CP.out _).mono ?_
    rintro e w1 ⟨rfl, rfl⟩
    clear CP
    have R1 := R0.out
    have B1 := B0.out
    clear R0 B0
    go_wp2_with fail
    refine (CU.out _ (HM.out.below B1)).mono ?_
    rintro e w2 ⟨rfl, hb⟩
    have R2 := R1.below hb
    have B2 := B1.trans (hb.mono B1.size)
    clear CU R1 B1 hb
    go_wp2_with fail
    refine (IW.out _).mono ?_
    rintro e w3 ⟨rfl, hb⟩
    have R3 := R2.below hb
    have B3 := B2.trans (hb.mono B2.size)
    clear IW R2 B2 hb
    obtain ⟨_, c0, c1, c2, f0, f1, f2⟩ := id R3
    go_wp2_with fail
    obtain ⟨_, x0, x1, x2, _, _, _⟩ := R3.put 0 0 ⟨#[]⟩
    refine bodyPost_ret (v := av (⟨0, 0, ⟨#[]⟩⟩, 3)) (by simp [results, Tryz.results131, go_sem, av, x0, x1, x2]) rfl ⟨rfl, ?_⟩
    exact ((B3.setCell (p := ⟨w.heap.size, 0, none⟩) (Nat.le_refl _) _).setCell (p := ⟨w.heap.size, 1, none⟩) (Nat.le_refl _) _).setCell (p := ⟨w.heap.size, 2, none⟩) (Nat.le_refl _) _
  · rw [hw] at IW
    rw [if_neg (by simp)]
    obtain ⟨hal, hne⟩ := whole_digits hw
    cases pt
    · rw [if_pos rfl]
      by_cases h48 : neg = true ∧ W = [48]
      · rw [if_pos h48]
        obtain ⟨rfl, h48⟩ := h48
        have h48b : (W == [48]) = true := by rw [h48]; rfl
        clear hw hal hne hsz h48
        go_enter Tryz.func131, Tryz.ntmps131
        go_wp2_with fail
        refine (CP.out _).mono ?_
        rintro e w1 ⟨rfl, rfl⟩
        clear CP
        have R1 := R0.out
        have B1 := B0.out
        clear R0 B0
        go_wp2_with fail
        refine (CU.out _ (HM.out.below B1)).mono ?_
        rintro e w2 ⟨rfl, hb⟩
        have R2 := R1.below hb
        have B2 := B1.trans (hb.mono B1.size)
        clear CU R1 B1 hb
        go_wp2_with fail
        refine (IW.out _).mono ?_
        rintro e w3 ⟨rfl, hb⟩
        have R3 := R2.below hb
        have B3 := B2.trans (hb.mono B2.size)
        clear IW R2 B2 hb
        obtain ⟨_, c0, c1, c2, f0, f1, f2⟩ := id R3
        go_wp2_with fail
        obtain ⟨_, x0, x1, x2, _, _, _⟩ := R3.put 0 0 ⟨#[]⟩
        refine bodyPost_ret (v := av (⟨0, 0, ⟨#[]⟩⟩, 3)) (by simp [results, Tryz.results131, go_sem, av, x0, x1, x2]) rfl ⟨rfl, ?_⟩
        exact ((B3.setCell (p := ⟨w.heap.size, 0, none⟩) (Nat.le_refl _) _).setCell (p := ⟨w.heap.size, 1, none⟩) (Nat.le_refl _) _).setCell (p := ⟨w.heap.size, 2, none⟩) (Nat.le_refl _) _
      · rw [if_neg h48, fin_rd]
        obtain ⟨V, hV⟩ : ∃ V, V = rdV W neg := ⟨_, rfl⟩
        obtain ⟨E, hE⟩ : ∃ E, E = rdE W neg := ⟨_, rfl⟩
        have RN : Hid (∀ w, Rg w → Calls Tryz.prog 144 #[.string ⟨W.toArray⟩, .bool neg] w fun e w' => e = .returned (.tuple #[.int .i64 V, .int .i64 E]) ∧ Below w.heap.size w w') := fun w hR => by
          rw [hV, hE]; exact readNumber_any W neg w (by omega) hal hne hR
        have NU : Hid (∀ w, Calls Tryz.prog 145 #[.int .i64 1, .int .i64 V, .int .i64 E] w fun r w' => r = .returned (av (if E = 0 then (⟨1, V, ⟨#[]⟩⟩, 0) else (⟨0, 0, ⟨#[]⟩⟩, E))) ∧ Below w.heap.size w w') := fun w => number_all 1 V E w
        rw [← hV, ← hE]
        clear hV hE hw hal hne hsz
        have h48b : (neg && (W == [48])) = false := by
          cases neg
          · rfl
          · have : ¬ W = [48] := fun e => h48 ⟨rfl, e⟩
            simpa using this
        clear h48
        by_cases h0 : E = 0
        · rw [if_pos h0] at NU ⊢
          subst h0
          rcases neg with _ | _
          · go_enter Tryz.func131, Tryz.ntmps131
            go_wp2_with fail
            refine (CP.out _).mono ?_
            rintro e w1 ⟨rfl, rfl⟩
            clear CP
            have R1 := R0.out
            have B1 := B0.out
            clear R0 B0
            go_wp2_with fail
            refine (CU.out _ (HM.out.below B1)).mono ?_
            rintro e w2 ⟨rfl, hb⟩
            have R2 := R1.below hb
            have B2 := B1.trans (hb.mono B1.size)
            clear CU R1 B1 hb
            go_wp2_with fail
            refine (IW.out _).mono ?_
            rintro e w3 ⟨rfl, hb⟩
            have R3 := R2.below hb
            have B3 := B2.trans (hb.mono B2.size)
            clear IW R2 B2 hb
            go_wp2_with fail
            refine (RN.out _ (HR.out.below B3)).mono ?_
            rintro e w4 ⟨rfl, hb⟩
            have R4 := R3.below hb
            have B4 := B3.trans (hb.mono B3.size)
            clear RN R3 B3 hb
            go_wp2_with fail
            refine (NU.out _).mono ?_
            rintro e w5 ⟨rfl, hb⟩
            have R5 := R4.below hb
            have B5 := B4.trans (hb.mono B4.size)
            clear NU hb
            unfold av
            obtain ⟨_, c0, c1, c2, f0, f1, f2⟩ := id R5
            go_wp2_with fail
            obtain ⟨_, x0, x1, x2, _, _, _⟩ := R5.put 1 V ⟨#[]⟩
            refine bodyPost_ret (v := av (⟨1, V, ⟨#[]⟩⟩, 0)) (by simp [results, Tryz.results131, go_sem, av, x0, x1, x2]) rfl ⟨rfl, ?_⟩
            exact ((B5.setCell (p := ⟨w.heap.size, 0, none⟩) (Nat.le_refl _) _).setCell (p := ⟨w.heap.size, 1, none⟩) (Nat.le_refl _) _).setCell (p := ⟨w.heap.size, 2, none⟩) (Nat.le_refl _) _
          · have h48c : (W == [48]) = false := by simpa using h48b
            go_enter Tryz.func131, Tryz.ntmps131
            go_wp2_with fail
            refine (CP.out _).mono ?_
            rintro e w1 ⟨rfl, rfl⟩
            clear CP
            have R1 := R0.out
            have B1 := B0.out
            clear R0 B0
            go_wp2_with fail
            refine (CU.out _ (HM.out.below B1)).mono ?_
            rintro e w2 ⟨rfl, hb⟩
            have R2 := R1.below hb
            have B2 := B1.trans (hb.mono B1.size)
            clear CU R1 B1 hb
            go_wp2_with fail
            refine (IW.out _).mono ?_
            rintro e w3 ⟨rfl, hb⟩
            have R3 := R2.below hb
            have B3 := B2.trans (hb.mono B2.size)
            clear IW R2 B2 hb
            go_wp2_with fail
            refine (RN.out _ (HR.out.below B3)).mono ?_
            rintro e w4 ⟨rfl, hb⟩
            have R4 := R3.below hb
            have B4 := B3.trans (hb.mono B3.size)
            clear RN R3 B3 hb
            go_wp2_with fail
            refine (NU.out _).mono ?_
            rintro e w5 ⟨rfl, hb⟩
            have R5 := R4.below hb
            have B5 := B4.trans (hb.mono B4.size)
            clear NU hb
            unfold av
            obtain ⟨_, c0, c1, c2, f0, f1, f2⟩ := id R5
            go_wp2_with fail
            obtain ⟨_, x0, x1, x2, _, _, _⟩ := R5.put 1 V ⟨#[]⟩
            refine bodyPost_ret (v := av (⟨1, V, ⟨#[]⟩⟩, 0)) (by simp [results, Tryz.results131, go_sem, av, x0, x1, x2]) rfl ⟨rfl, ?_⟩
            exact ((B5.setCell (p := ⟨w.heap.size, 0, none⟩) (Nat.le_refl _) _).setCell (p := ⟨w.heap.size, 1, none⟩) (Nat.le_refl _) _).setCell (p := ⟨w.heap.size, 2, none⟩) (Nat.le_refl _) _
        · rw [if_neg h0] at NU ⊢
          have h0b : (E != 0) = true := by rw [bne_iff_ne]; exact h0
          rcases neg with _ | _
          · go_enter Tryz.func131, Tryz.ntmps131
            go_wp2_with fail
            refine (CP.out _).mono ?_
            rintro e w1 ⟨rfl, rfl⟩
            clear CP
            have R1 := R0.out
            have B1 := B0.out
            clear R0 B0
            go_wp2_with fail
            refine (CU.out _ (HM.out.below B1)).mono ?_
            rintro e w2 ⟨rfl, hb⟩
            have R2 := R1.below hb
            have B2 := B1.trans (hb.mono B1.size)
            clear CU R1 B1 hb
            go_wp2_with fail
            refine (IW.out _).mono ?_
            rintro e w3 ⟨rfl, hb⟩
            have R3 := R2.below hb
            have B3 := B2.trans (hb.mono B2.size)
            clear IW R2 B2 hb
            go_wp2_with fail
            refine (RN.out _ (HR.out.below B3)).mono ?_
            rintro e w4 ⟨rfl, hb⟩
            have R4 := R3.below hb
            have B4 := B3.trans (hb.mono B3.size)
            clear RN R3 B3 hb
            go_wp2_with fail
            refine (NU.out _).mono ?_
            rintro e w5 ⟨rfl, hb⟩
            have R5 := R4.below hb
            have B5 := B4.trans (hb.mono B4.size)
            clear NU hb
            unfold av
            obtain ⟨_, c0, c1, c2, f0, f1, f2⟩ := id R5
            go_wp2_with fail
            obtain ⟨_, x0, x1, x2, _, _, _⟩ := R5.put 0 0 ⟨#[]⟩
            refine bodyPost_ret (v := av (⟨0, 0, ⟨#[]⟩⟩, E)) (by simp [results, Tryz.results131, go_sem, av, x0, x1, x2]) rfl ⟨rfl, ?_⟩
            exact ((B5.setCell (p := ⟨w.heap.size, 0, none⟩) (Nat.le_refl _) _).setCell (p := ⟨w.heap.size, 1, none⟩) (Nat.le_refl _) _).setCell (p := ⟨w.heap.size, 2, none⟩) (Nat.le_refl _) _
          · have h48c : (W == [48]) = false := by simpa using h48b
            go_enter Tryz.func131, Tryz.ntmps131
            go_wp2_with fail
            refine (CP.out _).mono ?_
            rintro e w1 ⟨rfl, rfl⟩
            clear CP
            have R1 := R0.out
            have B1 := B0.out
            clear R0 B0
            go_wp2_with fail
            refine (CU.out _ (HM.out.below B1)).mono ?_
            rintro e w2 ⟨rfl, hb⟩
            have R2 := R1.below hb
            have B2 := B1.trans (hb.mono B1.size)
            clear CU R1 B1 hb
            go_wp2_with fail
            refine (IW.out _).mono ?_
            rintro e w3 ⟨rfl, hb⟩
            have R3 := R2.below hb
            have B3 := B2.trans (hb.mono B2.size)
            clear IW R2 B2 hb
            go_wp2_with fail
            refine (RN.out _ (HR.out.below B3)).mono ?_
            rintro e w4 ⟨rfl, hb⟩
            have R4 := R3.below hb
            have B4 := B3.trans (hb.mono B3.size)
            clear RN R3 B3 hb
            go_wp2_with fail
            refine (NU.out _).mono ?_
            rintro e w5 ⟨rfl, hb⟩
            have R5 := R4.below hb
            have B5 := B4.trans (hb.mono B4.size)
            clear NU hb
            unfold av
            obtain ⟨_, c0, c1, c2, f0, f1, f2⟩ := id R5
            go_wp2_with fail
            obtain ⟨_, x0, x1, x2, _, _, _⟩ := R5.put 0 0 ⟨#[]⟩
            refine bodyPost_ret (v := av (⟨0, 0, ⟨#[]⟩⟩, E)) (by simp [results, Tryz.results131, go_sem, av, x0, x1, x2]) rfl ⟨rfl, ?_⟩
            exact ((B5.setCell (p := ⟨w.heap.size, 0, none⟩) (Nat.le_refl _) _).setCell (p := ⟨w.heap.size, 1, none⟩) (Nat.le_refl _) _).setCell (p := ⟨w.heap.size, 2, none⟩) (Nat.le_refl _) _
    · rw [if_neg (by simp)]
      by_cases hf1 : FR = []
      · rw [if_pos (Or.inl hf1)]
        have hl1 : (FR.length : Int) < 1 := by rw [hf1]; decide
        clear hw hal hne hsz hf1
        go_enter Tryz.func131, Tryz.ntmps131
        go_wp2_with fail
        refine (CP.out _).mono ?_
        rintro e w1 ⟨rfl, rfl⟩
        clear CP
        have R1 := R0.out
        have B1 := B0.out
        clear R0 B0
        go_wp2_with fail
        refine (CU.out _ (HM.out.below B1)).mono ?_
        rintro e w2 ⟨rfl, hb⟩
        have R2 := R1.below hb
        have B2 := B1.trans (hb.mono B1.size)
        clear CU R1 B1 hb
        go_wp2_with fail
        refine (IW.out _).mono ?_
        rintro e w3 ⟨rfl, hb⟩
        have R3 := R2.below hb
        have B3 := B2.trans (hb.mono B2.size)
        clear IW R2 B2 hb
        obtain ⟨_, c0, c1, c2, f0, f1, f2⟩ := id R3
        go_wp2_with fail
        obtain ⟨_, x0, x1, x2, _, _, _⟩ := R3.put 0 0 ⟨#[]⟩
        refine bodyPost_ret (v := av (⟨0, 0, ⟨#[]⟩⟩, 3)) (by simp [results, Tryz.results131, go_sem, av, x0, x1, x2]) rfl ⟨rfl, ?_⟩
        exact ((B3.setCell (p := ⟨w.heap.size, 0, none⟩) (Nat.le_refl _) _).setCell (p := ⟨w.heap.size, 1, none⟩) (Nat.le_refl _) _).setCell (p := ⟨w.heap.size, 2, none⟩) (Nat.le_refl _) _
      have hl1 : ¬ (FR.length : Int) < 1 := by have := List.length_pos_iff.2 hf1; omega
      by_cases hf2 : 4 < FR.length
      · rw [if_pos (Or.inr (Or.inl hf2))]
        have hl2 : (4 : Int) < (FR.length : Int) := by omega
        clear hw hal hne hsz hf1 hf2
        go_enter Tryz.func131, Tryz.ntmps131
        go_wp2_with fail
        refine (CP.out _).mono ?_
        rintro e w1 ⟨rfl, rfl⟩
        clear CP
        have R1 := R0.out
        have B1 := B0.out
        clear R0 B0
        go_wp2_with fail
        refine (CU.out _ (HM.out.below B1)).mono ?_
        rintro e w2 ⟨rfl, hb⟩
        have R2 := R1.below hb
        have B2 := B1.trans (hb.mono B1.size)
        clear CU R1 B1 hb
        go_wp2_with fail
        refine (IW.out _).mono ?_
        rintro e w3 ⟨rfl, hb⟩
        have R3 := R2.below hb
        have B3 := B2.trans (hb.mono B2.size)
        clear IW R2 B2 hb
        obtain ⟨_, c0, c1, c2, f0, f1, f2⟩ := id R3
        go_wp2_with fail
        obtain ⟨_, x0, x1, x2, _, _, _⟩ := R3.put 0 0 ⟨#[]⟩
        refine bodyPost_ret (v := av (⟨0, 0, ⟨#[]⟩⟩, 3)) (by simp [results, Tryz.results131, go_sem, av, x0, x1, x2]) rfl ⟨rfl, ?_⟩
        exact ((B3.setCell (p := ⟨w.heap.size, 0, none⟩) (Nat.le_refl _) _).setCell (p := ⟨w.heap.size, 1, none⟩) (Nat.le_refl _) _).setCell (p := ⟨w.heap.size, 2, none⟩) (Nat.le_refl _) _
      have hl2 : ¬ (4 : Int) < (FR.length : Int) := by omega
      have AD : Hid (∀ w, Calls Tryz.prog 146 #[.string ⟨FR.toArray⟩] w fun e w' => e = .returned (.bool (allD FR)) ∧ Below w.heap.size w w') := fun w => allDigits_any ⟨FR.toArray⟩ w
      cases hf3 : allD FR
      · rw [if_pos (Or.inr (Or.inr rfl))]
        rw [hf3] at AD
        clear hw hal hne hsz hf1 hf2 hf3
        go_enter Tryz.func131, Tryz.ntmps131
        go_wp2_with fail
        refine (CP.out _).mono ?_
        rintro e w1 ⟨rfl, rfl⟩
        clear CP
        have R1 := R0.out
        have B1 := B0.out
        clear R0 B0
        go_wp2_with fail
        refine (CU.out _ (HM.out.below B1)).mono ?_
        rintro e w2 ⟨rfl, hb⟩
        have R2 := R1.below hb
        have B2 := B1.trans (hb.mono B1.size)
        clear CU R1 B1 hb
        go_wp2_with fail
        refine (IW.out _).mono ?_
        rintro e w3 ⟨rfl, hb⟩
        have R3 := R2.below hb
        have B3 := B2.trans (hb.mono B2.size)
        clear IW R2 B2 hb
        go_wp2_with fail
        refine (AD.out _).mono ?_
        rintro e w4 ⟨rfl, hb⟩
        have R4 := R3.below hb
        have B4 := B3.trans (hb.mono B3.size)
        clear AD hb
        obtain ⟨_, c0, c1, c2, f0, f1, f2⟩ := id R4
        go_wp2_with fail
        obtain ⟨_, x0, x1, x2, _, _, _⟩ := R4.put 0 0 ⟨#[]⟩
        refine bodyPost_ret (v := av (⟨0, 0, ⟨#[]⟩⟩, 3)) (by simp [results, Tryz.results131, go_sem, av, x0, x1, x2]) rfl ⟨rfl, ?_⟩
        exact ((B4.setCell (p := ⟨w.heap.size, 0, none⟩) (Nat.le_refl _) _).setCell (p := ⟨w.heap.size, 1, none⟩) (Nat.le_refl _) _).setCell (p := ⟨w.heap.size, 2, none⟩) (Nat.le_refl _) _
      · rw [if_neg (by simp [hf1, hf2]), fin_rd]
        rw [hf3] at AD
        have hall : allD (W ++ FR ++ List.replicate (4 - FR.length) 48) = true := by
          unfold allD at hal hf3 ⊢
          rw [List.all_append, List.all_append, hal, hf3]
          simp only [Bool.true_and, List.all_replicate]
          split <;> rfl
        have hnn : W ++ FR ++ List.replicate (4 - FR.length) 48 ≠ [] := by
          intro e
          have := congrArg List.length e
          rw [List.length_append, List.length_append] at this
          simp at this
          exact hne this.1.1
        obtain ⟨L, hL⟩ : ∃ L, L = W ++ FR ++ List.replicate (4 - FR.length) 48 := ⟨_, rfl⟩
        rw [← hL] at hall hnn ⊢
        have hLl : L.length ≤ 100000 := by rw [hL]; simp; omega
        have a1 : (ByteArray.mk W.toArray) ++ (ByteArray.mk FR.toArray) = ByteArray.mk (W ++ FR).toArray := add_mk W FR
        have a2 : (ByteArray.mk (W ++ FR).toArray) ++ (ByteArray.mk (List.replicate (4 - FR.length) 48).toArray) = ByteArray.mk L.toArray := by rw [hL]; exact add_mk _ _
        have z1 : (ByteArray.mk W.toArray).size = W.length := size_mk W
        have z2 : (ByteArray.mk FR.toArray).size = FR.length := size_mk FR
        have z3 : (ByteArray.mk (W ++ FR).toArray).size = W.length + FR.length := by rw [size_mk, List.length_append]
        have z4 : (ByteArray.mk (List.replicate (4 - FR.length) (48 : UInt8)).toArray).size = 4 - FR.length := by rw [size_mk, List.length_replicate]
        obtain ⟨c, hcd⟩ : ∃ c : Nat, c = 4 - FR.length := ⟨_, rfl⟩
        have hci : (4 : Int) - (FR.length : Int) = (c : Int) := by omega
        have RP : Hid (∀ w, Calls Tryz.prog 147 #[.string ⟨#[48]⟩, .int .i64 c] w fun e w' => e = .returned (.string ⟨(List.replicate c 48).toArray⟩) ∧ Below w.heap.size w w') := fun w => by
          have h := Repeat_any ⟨#[48]⟩ c w (by omega) (by decide)
          simp only [rep_is] at h
          exact h
        rw [← hcd] at a2 z4
        obtain ⟨V, hV⟩ : ∃ V, V = rdV L neg := ⟨_, rfl⟩
        obtain ⟨E, hE⟩ : ∃ E, E = rdE L neg := ⟨_, rfl⟩
        have RN : Hid (∀ w, Rg w → Calls Tryz.prog 144 #[.string ⟨L.toArray⟩, .bool neg] w fun e w' => e = .returned (.tuple #[.int .i64 V, .int .i64 E]) ∧ Below w.heap.size w w') := fun w hR => by
          rw [hV, hE]; exact readNumber_any L neg w (by omega) hall hnn hR
        have NU : Hid (∀ w, Calls Tryz.prog 145 #[.int .i64 2, .int .i64 V, .int .i64 E] w fun r w' => r = .returned (av (if E = 0 then (⟨2, V, ⟨#[]⟩⟩, 0) else (⟨0, 0, ⟨#[]⟩⟩, E))) ∧ Below w.heap.size w w') := fun w => number_all 2 V E w
        rw [← hV, ← hE]
        have hw1 : (W.length : Int) ≤ 9000 := by omega
        have hw2 : (FR.length : Int) ≤ 4 := by omega
        have hw3 : (c : Int) ≤ 4 := by omega
        generalize List.replicate c (48 : UInt8) = RL at *
        clear hV hE hw hal hne hsz hf1 hf2 hf3 hall hnn hL hLl hcd
        by_cases h0 : E = 0
        · rw [if_pos h0] at NU ⊢
          subst h0
          go_enter Tryz.func131, Tryz.ntmps131
          go_wp2_with fail
          refine (CP.out _).mono ?_
          rintro e w1 ⟨rfl, rfl⟩
          clear CP
          have R1 := R0.out
          have B1 := B0.out
          clear R0 B0
          go_wp2_with fail
          refine (CU.out _ (HM.out.below B1)).mono ?_
          rintro e w2 ⟨rfl, hb⟩
          have R2 := R1.below hb
          have B2 := B1.trans (hb.mono B1.size)
          clear CU R1 B1 hb
          go_wp2_with fail
          refine (IW.out _).mono ?_
          rintro e w3 ⟨rfl, hb⟩
          have R3 := R2.below hb
          have B3 := B2.trans (hb.mono B2.size)
          clear IW R2 B2 hb
          go_wp2_with fail
          refine (AD.out _).mono ?_
          rintro e w4 ⟨rfl, hb⟩
          have R4 := R3.below hb
          have B4 := B3.trans (hb.mono B3.size)
          clear AD hb
          go_wp2_with fail
          refine (RP.out _).mono ?_
          rintro e w5 ⟨rfl, hb⟩
          have R5 := R4.below hb
          have B5 := B4.trans (hb.mono B4.size)
          clear RP hb
          go_wp2_with fail
          refine (RN.out _ (HR.out.below B5)).mono ?_
          rintro e w6 ⟨rfl, hb⟩
          have R6 := R5.below hb
          have B6 := B5.trans (hb.mono B5.size)
          clear RN R5 B5 hb
          go_wp2_with fail
          refine (NU.out _).mono ?_
          rintro e w7 ⟨rfl, hb⟩
          have R7 := R6.below hb
          have B7 := B6.trans (hb.mono B6.size)
          clear NU hb
          unfold av
          obtain ⟨_, c0, c1, c2, f0, f1, f2⟩ := id R7
          go_wp2_with fail
          obtain ⟨_, x0, x1, x2, _, _, _⟩ := R7.put 2 V ⟨#[]⟩
          refine bodyPost_ret (v := av (⟨2, V, ⟨#[]⟩⟩, 0)) (by simp [results, Tryz.results131, go_sem, av, x0, x1, x2]) rfl ⟨rfl, ?_⟩
          exact ((B7.setCell (p := ⟨w.heap.size, 0, none⟩) (Nat.le_refl _) _).setCell (p := ⟨w.heap.size, 1, none⟩) (Nat.le_refl _) _).setCell (p := ⟨w.heap.size, 2, none⟩) (Nat.le_refl _) _
        · rw [if_neg h0] at NU ⊢
          have h0b : (E != 0) = true := by rw [bne_iff_ne]; exact h0
          go_enter Tryz.func131, Tryz.ntmps131
          go_wp2_with fail
          refine (CP.out _).mono ?_
          rintro e w1 ⟨rfl, rfl⟩
          clear CP
          have R1 := R0.out
          have B1 := B0.out
          clear R0 B0
          go_wp2_with fail
          refine (CU.out _ (HM.out.below B1)).mono ?_
          rintro e w2 ⟨rfl, hb⟩
          have R2 := R1.below hb
          have B2 := B1.trans (hb.mono B1.size)
          clear CU R1 B1 hb
          go_wp2_with fail
          refine (IW.out _).mono ?_
          rintro e w3 ⟨rfl, hb⟩
          have R3 := R2.below hb
          have B3 := B2.trans (hb.mono B2.size)
          clear IW R2 B2 hb
          go_wp2_with fail
          refine (AD.out _).mono ?_
          rintro e w4 ⟨rfl, hb⟩
          have R4 := R3.below hb
          have B4 := B3.trans (hb.mono B3.size)
          clear AD hb
          go_wp2_with fail
          refine (RP.out _).mono ?_
          rintro e w5 ⟨rfl, hb⟩
          have R5 := R4.below hb
          have B5 := B4.trans (hb.mono B4.size)
          clear RP hb
          go_wp2_with fail
          refine (RN.out _ (HR.out.below B5)).mono ?_
          rintro e w6 ⟨rfl, hb⟩
          have R6 := R5.below hb
          have B6 := B5.trans (hb.mono B5.size)
          clear RN R5 B5 hb
          go_wp2_with fail
          refine (NU.out _).mono ?_
          rintro e w7 ⟨rfl, hb⟩
          have R7 := R6.below hb
          have B7 := B6.trans (hb.mono B6.size)
          clear NU hb
          unfold av
          obtain ⟨_, c0, c1, c2, f0, f1, f2⟩ := id R7
          go_wp2_with fail
          obtain ⟨_, x0, x1, x2, _, _, _⟩ := R7.put 0 0 ⟨#[]⟩
          refine bodyPost_ret (v := av (⟨0, 0, ⟨#[]⟩⟩, E)) (by simp [results, Tryz.results131, go_sem, av, x0, x1, x2]) rfl ⟨rfl, ?_⟩
          exact ((B7.setCell (p := ⟨w.heap.size, 0, none⟩) (Nat.le_refl _) _).setCell (p := ⟨w.heap.size, 1, none⟩) (Nat.le_refl _) _).setCell (p := ⟨w.heap.size, 2, none⟩) (Nat.le_refl _) _
end Go.Proofs.YtfcolecglobcdaaGreatDoor
