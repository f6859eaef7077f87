/-
  lockstepref01.Parse: what it answers, and that this is what Parse answers.
-/
import Derived.Test.YtoboebibmelgkaaGreatDoorPaG
import Derived.Test.YtoboebibmelgkaaGreatDoorPaF
namespace Go.Proofs.YtoboebibmelgkaaGreatDoor
open Go.RowKit Go.Shelf

theorem cutP_off : ∀ {l : List UInt8}, (cutP l).2.2 = false → (cutP l).1 = l
  | [], _ => rfl
  | x :: r, h => by
    by_cases hx : x = 46
    · rw [cutP, if_pos hx] at h; cases h
    · rw [cutP, if_neg hx] at h ⊢
      show x :: (cutP r).1 = x :: r
      rw [cutP_off (l := r) h]
theorem cutP_len : ∀ l : List UInt8, (cutP l).1.length ≤ l.length
  | [] => Nat.le_refl _
  | x :: r => by
    by_cases hx : x = 46
    · rw [cutP, if_pos hx]; simp
    · rw [cutP, if_neg hx]
      have := cutP_len r
      simp; omega
def led (u : List UInt8) (neg : Bool) : Bool := decide (1 < (cutP u).1.length) && (cutP u).1.head? == some 48 || (u == [48] && neg && !(cutP u).2.2)
theorem nm_pr (u : List UInt8) (neg : Bool) : (if led u neg = true then bad 3 else nmS u neg) = prN u neg := by
  have hoff := cutP_off (l := u)
  unfold led nmS prN whole
  generalize (cutP u).2.1 = F
  generalize (cutP u).2.2 = pt at *
  generalize (cutP u).1 = W at *
  rcases W with _ | ⟨x, r⟩
  · rcases pt with _ | _
    · obtain rfl := hoff rfl
      simp
    · simp
  · by_cases hx : x = 48
    · subst hx
      rcases r with _ | ⟨y, r⟩
      · have e1 : allD [48] = true := rfl
        rcases pt with _ | _
        · obtain rfl := hoff rfl
          cases neg <;> simp [e1]
        · rw [e1]
          rcases hF : allD F with _ | _
          · simp
          · rcases F with _ | ⟨z, t⟩
            · simp
            · simp
      · simp
    · have e0 : (some x == some (48 : UInt8)) = false := by simpa using hx
      rcases hW : allD (x :: r) with _ | _
      · have hu : ∀ b : Bool, (u == [48] && neg && !pt) = false := by
          intro _
          rcases pt with _ | _
          · obtain rfl := hoff rfl
            have : ((x :: r) == [48]) = false := by rw [beq_eq_false_iff_ne]; intro e; injection e with e _; exact hx e
            rw [this]; rfl
          · simp
        rw [hu true]
        simp [hx]
      · have hu : (u == [48] && neg && !pt) = false := by
          rcases pt with _ | _
          · obtain rfl := hoff rfl
            have : ((x :: r) == [48]) = false := by rw [beq_eq_false_iff_ne]; intro e; injection e with e _; exact hx e
            rw [this]; rfl
          · simp
        rw [hu]
        rcases pt with _ | _
        · simp [hx]
        · rcases hF : allD F with _ | _
          · simp [hx]
          · rcases F with _ | ⟨z, t⟩
            · simp [hx]
            · simp [hx]
/-- what the reference says of a literal that is no name -/
def rfS (l : List UInt8) : Va × Int :=
  match uqS l with
  | some t => if chkT ⟨t.toArray⟩ = 0 then (⟨3, 0, ⟨t.toArray⟩⟩, 0) else bad (chkT ⟨t.toArray⟩)
  | none => if led (if l.head? == some 45 then l.drop 1 else l) (l.head? == some 45) = true then bad 3 else nmS (if l.head? == some 45 then l.drop 1 else l) (l.head? == some 45)
theorem rfS_is (l : List UInt8) : rfS l = if l.head? = some 39 then prT l else if l.head? = some 45 then prN (l.drop 1) true else prN l false := by
  unfold rfS
  by_cases h : l.head? = some 39
  · rw [if_pos h]
    have hn : (l.head? == some 45) = false := by rw [h]; rfl
    rw [hn]
    simp only [Bool.false_eq_true, if_false]
    rw [nm_pr]
    have hb : prN l false = bad 3 := by
      rcases l with _ | ⟨x, r⟩
      · cases h
      · obtain rfl : x = 39 := by simpa using h
        have e : whole (cutP (39 :: r)).1 = false := by
          rw [cutP, if_neg (by decide)]
          show whole (39 :: (cutP r).1) = false
          unfold whole
          have : allD (39 :: (cutP r).1) = false := by unfold allD; rw [List.all_cons]; rfl
          rw [this]; rfl
        unfold prN
        rw [if_pos e]
    unfold uqS prT
    by_cases h2 : l.length < 2 ∨ l.getLast? ≠ some 39
    · rw [if_pos (by rcases h2 with h2 | h2; exact Or.inl h2; exact Or.inr (Or.inr h2)), if_pos h2]
      exact hb
    · rw [if_neg (by rintro (h3 | h3 | h3); exact h2 (Or.inl h3); exact h3 h; exact h2 (Or.inr h3)), if_neg h2]
      rcases unq ((l.drop 1).dropLast) with _ | t
      · exact hb
      · rfl
  · rw [if_neg h]
    have hu : uqS l = none := if_pos (Or.inr (Or.inl h))
    rw [hu]
    show (if led _ _ = true then bad 3 else nmS _ _) = _
    rw [nm_pr]
    by_cases h5 : l.head? = some 45
    · have hn : (l.head? == some 45) = true := by rw [h5]; rfl
      rw [hn, if_pos h5, if_pos rfl]
    · have hn : (l.head? == some 45) = false := by rw [beq_eq_false_iff_ne]; exact h5
      rw [hn, if_neg h5]; rfl
theorem two_allocs (w : World) (a b : Obj) : Below w.heap.size w ((w.alloc a).alloc b) := by
  have h := (Below.refl _ w).alloc (Nat.le_refl _) a
  exact h.alloc h.size _
set_option maxHeartbeats 1000000 in
theorem refTruth_at (b : Bool) (w : World) : Calls Tryz.prog 31 #[.bool b] w fun e w' => e = .returned (.agg #[.int .i64 4, .int .i64 (if b then 1 else 0), .string ⟨#[]⟩]) ∧ Below w.heap.size w w' := by
  cases b
  · go_enter Tryz.func31, Tryz.ntmps31
    go_wp2_with fail
    refine bodyPost_ret (v := .agg #[.int .i64 4, .int .i64 0, .string ⟨#[]⟩]) (by simp [results, Tryz.results31, go_sem]) rfl ⟨rfl, two_allocs w _ _⟩
  · go_enter Tryz.func31, Tryz.ntmps31
    go_wp2_with fail
    refine bodyPost_ret (v := .agg #[.int .i64 4, .int .i64 1, .string ⟨#[]⟩]) (by simp [results, Tryz.results31, go_sem]) rfl ⟨rfl, two_allocs w _ _⟩


set_option maxHeartbeats 4000000 in
set_option maxRecDepth 1000000 in
/-- what follows the sign -/
theorem refParse_any (l : List UInt8) (w : World) (hs : l.length ≤ 9223372036854775807) :
    Calls Tryz.prog 12 #[.string ⟨l.toArray⟩] w fun e w' => e = .returned (av (prs l)) ∧ Below w.heap.size w w' := by
  have hzl : (ByteArray.mk l.toArray).size = l.length := size_mk l
  by_cases h1 : 8194 < l.length
  · have e : prs l = bad 2 := if_pos h1
    rw [e]
    have h1i : (8194 : Int) < (l.length : Int) := by omega
    go_enter Tryz.func12, Tryz.ntmps12
    go_wp2_with fail
    refine bodyPost_ret (v := av (⟨0, 0, ⟨#[]⟩⟩, 2)) (by simp [results, Tryz.results12, go_sem, av]) rfl ⟨rfl, (Below.refl _ w).alloc (Nat.le_refl _) _⟩
  have h1i : ¬ (8194 : Int) < (l.length : Int) := by omega
  have e1 : prs l = if l = [78, 85, 76, 76] then (⟨0, 0, ⟨#[]⟩⟩, 0) else if l = [84, 82, 85, 69] then (⟨4, 1, ⟨#[]⟩⟩, 0) else if l = [70, 65, 76, 83, 69] then (⟨4, 0, ⟨#[]⟩⟩, 0) else rfS l := by rw [rfS_is]; exact if_neg h1
  rw [e1]
  clear e1
  have TR : Hid (∀ b w, Calls Tryz.prog 31 #[.bool b] w fun e w' => e = .returned (.agg #[.int .i64 4, .int .i64 (if b then 1 else 0), .string ⟨#[]⟩]) ∧ Below w.heap.size w w') := refTruth_at
  have R0 : Hid (Res (w.alloc (.cells #[.int .i64 0, .int .i64 0, .string ⟨#[]⟩] 23)) w.heap.size 0 0 ⟨#[]⟩) := Res.new w 0 0 ⟨#[]⟩
  have B0 : Hid (Below w.heap.size w (w.alloc (.cells #[.int .i64 0, .int .i64 0, .string ⟨#[]⟩] 23))) := (Below.refl _ w).alloc (Nat.le_refl _) _
  have hl9 : l.length ≤ 9000 := by omega
  have PS : Hid (l.length ≤ 9000) := hl9
  have hNE : Hid (0 = 0) := rfl
  clear hl9 h1 hs
  by_cases hN : l = [78, 85, 76, 76]
  · rw [if_pos hN]
    have hb : (l == [78, 85, 76, 76]) = true := by rw [hN]; rfl
    clear hN
    go_enter Tryz.func12, Tryz.ntmps12
    go_wp2_with fail
    refine bodyPost_ret (v := av (⟨0, 0, ⟨#[]⟩⟩, 0)) (by simp [results, Tryz.results12, go_sem, av]) rfl ⟨rfl, (Below.refl _ w).alloc (Nat.le_refl _) _⟩
  rw [if_neg hN]
  have hNb : (l == [78, 85, 76, 76]) = false := by rw [beq_eq_false_iff_ne]; exact hN
  clear hN
  by_cases hTr : l = [84, 82, 85, 69]
  · rw [if_pos hTr]
    have hb : (l == [84, 82, 85, 69]) = true := by rw [hTr]; rfl
    clear hTr PS hNE
    go_enter Tryz.func12, Tryz.ntmps12
    go_wp2_with fail
    refine (TR.out _ _).mono ?_
    rintro e w1 ⟨rfl, hb1⟩
    have R1 := R0.out.below hb1
    have B1 := B0.out.trans (hb1.mono B0.out.size)
    clear TR hb1
    obtain ⟨_, c0, c1, c2, f0, f1, f2⟩ := id R1
    go_wp2_with fail
    obtain ⟨_, x0, x1, x2, _, _, _⟩ := R1.put 4 1 ⟨#[]⟩
    refine bodyPost_ret (v := av (⟨4, 1, ⟨#[]⟩⟩, 0)) (by simp [results, Tryz.results12, go_sem, av, x0, x1, x2]) rfl ⟨rfl, ?_⟩
    exact ((B1.setCell (p := ⟨w.heap.size, 0, none⟩) (Nat.le_refl _) _).setCell (p := ⟨w.heap.size, 1, none⟩) (Nat.le_refl _) _).setCell (p := ⟨w.heap.size, 2, none⟩) (Nat.le_refl _) _
  rw [if_neg hTr]
  have hTrb : (l == [84, 82, 85, 69]) = false := by rw [beq_eq_false_iff_ne]; exact hTr
  clear hTr
  by_cases hFa : l = [70, 65, 76, 83, 69]
  · rw [if_pos hFa]
    have hb : (l == [70, 65, 76, 83, 69]) = true := by rw [hFa]; rfl
    clear hFa PS hNE
    go_enter Tryz.func12, Tryz.ntmps12
    go_wp2_with fail
    refine (TR.out _ _).mono ?_
    rintro e w1 ⟨rfl, hb1⟩
    have R1 := R0.out.below hb1
    have B1 := B0.out.trans (hb1.mono B0.out.size)
    clear TR hb1
    obtain ⟨_, c0, c1, c2, f0, f1, f2⟩ := id R1
    go_wp2_with fail
    obtain ⟨_, x0, x1, x2, _, _, _⟩ := R1.put 4 0 ⟨#[]⟩
    refine bodyPost_ret (v := av (⟨4, 0, ⟨#[]⟩⟩, 0)) (by simp [results, Tryz.results12, go_sem, av, x0, x1, x2]) rfl ⟨rfl, ?_⟩
    exact ((B1.setCell (p := ⟨w.heap.size, 0, none⟩) (Nat.le_refl _) _).setCell (p := ⟨w.heap.size, 1, none⟩) (Nat.le_refl _) _).setCell (p := ⟨w.heap.size, 2, none⟩) (Nat.le_refl _) _
  rw [if_neg hFa]
  have hFab : (l == [70, 65, 76, 83, 69]) = false := by rw [beq_eq_false_iff_ne]; exact hFa
  clear hFa
  clear TR
  have hl9 := PS.out
  have UQ : Hid (∀ w, Calls Tryz.prog 32 #[.string ⟨l.toArray⟩] w fun e w' => e = .returned (uqV (uqS l)) ∧ Below w.heap.size w w') := fun w => unquoted_any l w hl9
  unfold rfS
  rcases huq : uqS l with _ | t
  · have UQ2 : Hid (∀ w, Calls Tryz.prog 32 #[.string ⟨l.toArray⟩] w fun e w' => e = .returned (.tuple #[.string ⟨#[]⟩, .bool false]) ∧ Below w.heap.size w w') := fun w => by have h := UQ.out w; rw [huq] at h; exact h
    clear UQ huq
    show Calls _ _ _ _ fun e w' => e = .returned (av (if led (if l.head? == some 45 then l.drop 1 else l) (l.head? == some 45) = true then bad 3 else nmS (if l.head? == some 45 then l.drop 1 else l) (l.head? == some 45))) ∧ _
    by_cases hE : l = []
    · have hneg : (l.head? == some 45) = false := by rw [hE]; rfl
      rw [hneg]
      simp only [Bool.false_eq_true, if_false]
      have hl0i : ¬ (0 : Int) < (l.length : Int) := by rw [hE]; simp
      clear hE hneg
      obtain ⟨W, hW⟩ : ∃ W, W = (cutP l).1 := ⟨_, rfl⟩
      obtain ⟨FR, hFR⟩ : ∃ FR, FR = (cutP l).2.1 := ⟨_, rfl⟩
      obtain ⟨pt, hpt⟩ : ∃ pt, pt = (cutP l).2.2 := ⟨_, rfl⟩
      have hzW : (ByteArray.mk W.toArray).size = W.length := size_mk W
      have hzu : (ByteArray.mk l.toArray).size = l.length := size_mk l
      have hWl : (W.length : Int) ≤ 9000 := by have := cutP_len l; rw [hW]; omega
      have SP : Hid (∀ w, Calls Tryz.prog 33 #[.string ⟨l.toArray⟩] w fun e w' => e = .returned (.tuple #[.string ⟨W.toArray⟩, .string ⟨FR.toArray⟩, .bool pt]) ∧ Below w.heap.size w w') := fun w => by rw [hW, hFR, hpt]; exact split_any l w (by omega)
      have NM : Hid (∀ w, Calls Tryz.prog 34 #[.string ⟨l.toArray⟩, .bool false] w fun e w' => e = .returned (av (nmS l false)) ∧ Below w.heap.size w w') := fun w => Number_any l false w (by omega)
      have LD : Hid (led l false = (decide (1 < W.length) && W.head? == some 48 || (l == [48] && false && !pt))) := by rw [hW, hpt]; exact rfl
      have hu1 : l = [48] → W = [48] ∧ pt = false := by rintro h; rw [hW, hpt, h]; exact ⟨rfl, rfl⟩
      generalize nmS l false = A at *
      clear hW hFR hpt
      by_cases hA : 1 < W.length
      · obtain ⟨y, hy⟩ : ∃ y, W[0]? = some y := ⟨W[0]'(by omega), List.getElem?_eq_getElem (by omega)⟩
        have hgy := get_mk hy
        have hhy : W.head? = some y := by rw [List.head?_eq_getElem?]; exact hy
        have hAi : (1 : Int) < (W.length : Int) := by omega
        have hA0 : 0 < W.length := by omega
        have hub : (l == [48]) = false := by rw [beq_eq_false_iff_ne]; intro h; rw [(hu1 h).1] at hA; simp at hA
        by_cases hy8 : y = 48
        · subst hy8
          have hled : led l false = true := by rw [LD.out, hhy]; simp [hA]
          rw [if_pos hled]
          clear hled LD NM hu1 hy hhy
          go_enter Tryz.func12, Tryz.ntmps12
          go_wp2_with fail
          refine (UQ2.out _).mono ?_
          rintro e w1 ⟨rfl, hb1⟩
          have R1 := R0.out.below hb1
          have B1 := B0.out.trans (hb1.mono B0.out.size)
          clear UQ2 hb1
          go_wp2_with fail
          refine (SP.out _).mono ?_
          rintro e w2 ⟨rfl, hb2⟩
          have R2 := R1.below hb2
          have B2 := B1.trans (hb2.mono B1.size)
          clear SP hb2 R1 B1
          obtain ⟨_, c0, c1, c2, f0, f1, f2⟩ := id R2
          go_wp2_with fail
          obtain ⟨_, x0, x1, x2, _, _, _⟩ := R2.put 0 0 ⟨#[]⟩
          refine bodyPost_ret (v := av (⟨0, 0, ⟨#[]⟩⟩, 3)) (by simp [results, Tryz.results12, go_sem, av, x0, x1, x2]) rfl ⟨rfl, ?_⟩
          exact ((B2.setCell (p := ⟨w.heap.size, 0, none⟩) (Nat.le_refl _) _).setCell (p := ⟨w.heap.size, 1, none⟩) (Nat.le_refl _) _).setCell (p := ⟨w.heap.size, 2, none⟩) (Nat.le_refl _) _
        · have hled : led l false = false := by rw [LD.out, hhy, hub]; simp [hy8]
          rw [if_neg (by rw [hled]; exact Bool.false_ne_true)]
          have hyi : ((y.toNat : Int) == 48) = false := by rw [beq_eq_false_iff_ne]; intro e; exact hy8 (UInt8.toNat_inj.1 (by show y.toNat = 48; omega))
          clear hled LD hu1 hy hhy
          obtain ⟨⟨ty, n, sx⟩, E⟩ := A
          go_enter Tryz.func12, Tryz.ntmps12
          go_wp2_with fail
          refine (UQ2.out _).mono ?_
          rintro e w1 ⟨rfl, hb1⟩
          have R1 := R0.out.below hb1
          have B1 := B0.out.trans (hb1.mono B0.out.size)
          clear UQ2 hb1
          go_wp2_with fail
          refine (SP.out _).mono ?_
          rintro e w2 ⟨rfl, hb2⟩
          have R2 := R1.below hb2
          have B2 := B1.trans (hb2.mono B1.size)
          clear SP hb2 R1 B1
          go_wp2_with fail
          refine (NM.out _).mono ?_
          rintro e w3 ⟨rfl, hb3⟩
          have R3 := R2.below hb3
          have B3 := B2.trans (hb3.mono B2.size)
          clear NM hb3 R2 B2
          unfold av
          obtain ⟨_, c0, c1, c2, f0, f1, f2⟩ := id R3
          go_wp2_with fail
          obtain ⟨_, x0, x1, x2, _, _, _⟩ := R3.put ty n sx
          refine bodyPost_ret (v := av (⟨ty, n, sx⟩, E)) (by simp [results, Tryz.results12, go_sem, av, x0, x1, x2]) rfl ⟨rfl, ?_⟩
          exact ((B3.setCell (p := ⟨w.heap.size, 0, none⟩) (Nat.le_refl _) _).setCell (p := ⟨w.heap.size, 1, none⟩) (Nat.le_refl _) _).setCell (p := ⟨w.heap.size, 2, none⟩) (Nat.le_refl _) _
      have hAi : ¬ (1 : Int) < (W.length : Int) := by omega
      by_cases h48 : l = [48]
      · obtain ⟨rfl, rfl⟩ := hu1 h48
        have hub : (l == [48]) = true := by rw [h48]; rfl
        have hled : led l false = false := by rw [LD.out, hub]; rfl
        rw [if_neg (by rw [hled]; exact Bool.false_ne_true)]
        clear hled LD hu1 h48
        obtain ⟨⟨ty, n, sx⟩, E⟩ := A
        go_enter Tryz.func12, Tryz.ntmps12
        go_wp2_with fail
        refine (UQ2.out _).mono ?_
        rintro e w1 ⟨rfl, hb1⟩
        have R1 := R0.out.below hb1
        have B1 := B0.out.trans (hb1.mono B0.out.size)
        clear UQ2 hb1
        go_wp2_with fail
        refine (SP.out _).mono ?_
        rintro e w2 ⟨rfl, hb2⟩
        have R2 := R1.below hb2
        have B2 := B1.trans (hb2.mono B1.size)
        clear SP hb2 R1 B1
        go_wp2_with fail
        refine (NM.out _).mono ?_
        rintro e w3 ⟨rfl, hb3⟩
        have R3 := R2.below hb3
        have B3 := B2.trans (hb3.mono B2.size)
        clear NM hb3 R2 B2
        unfold av
        obtain ⟨_, c0, c1, c2, f0, f1, f2⟩ := id R3
        go_wp2_with fail
        obtain ⟨_, x0, x1, x2, _, _, _⟩ := R3.put ty n sx
        refine bodyPost_ret (v := av (⟨ty, n, sx⟩, E)) (by simp [results, Tryz.results12, go_sem, av, x0, x1, x2]) rfl ⟨rfl, ?_⟩
        exact ((B3.setCell (p := ⟨w.heap.size, 0, none⟩) (Nat.le_refl _) _).setCell (p := ⟨w.heap.size, 1, none⟩) (Nat.le_refl _) _).setCell (p := ⟨w.heap.size, 2, none⟩) (Nat.le_refl _) _
      · have hub : (l == [48]) = false := by rw [beq_eq_false_iff_ne]; exact h48
        have hled : led l false = false := by rw [LD.out, hub]; simp [hA]
        rw [if_neg (by rw [hled]; exact Bool.false_ne_true)]
        clear hled LD hu1 h48
        obtain ⟨⟨ty, n, sx⟩, E⟩ := A
        go_enter Tryz.func12, Tryz.ntmps12
        go_wp2_with fail
        refine (UQ2.out _).mono ?_
        rintro e w1 ⟨rfl, hb1⟩
        have R1 := R0.out.below hb1
        have B1 := B0.out.trans (hb1.mono B0.out.size)
        clear UQ2 hb1
        go_wp2_with fail
        refine (SP.out _).mono ?_
        rintro e w2 ⟨rfl, hb2⟩
        have R2 := R1.below hb2
        have B2 := B1.trans (hb2.mono B1.size)
        clear SP hb2 R1 B1
        go_wp2_with fail
        refine (NM.out _).mono ?_
        rintro e w3 ⟨rfl, hb3⟩
        have R3 := R2.below hb3
        have B3 := B2.trans (hb3.mono B2.size)
        clear NM hb3 R2 B2
        unfold av
        obtain ⟨_, c0, c1, c2, f0, f1, f2⟩ := id R3
        go_wp2_with fail
        obtain ⟨_, x0, x1, x2, _, _, _⟩ := R3.put ty n sx
        refine bodyPost_ret (v := av (⟨ty, n, sx⟩, E)) (by simp [results, Tryz.results12, go_sem, av, x0, x1, x2]) rfl ⟨rfl, ?_⟩
        exact ((B3.setCell (p := ⟨w.heap.size, 0, none⟩) (Nat.le_refl _) _).setCell (p := ⟨w.heap.size, 1, none⟩) (Nat.le_refl _) _).setCell (p := ⟨w.heap.size, 2, none⟩) (Nat.le_refl _) _
    obtain ⟨x, hx⟩ : ∃ x, l[0]? = some x := by
      rcases l with _ | ⟨x, r⟩
      · exact absurd rfl hE
      · exact ⟨x, rfl⟩
    have hgx := get_mk hx
    have hhx : l.head? = some x := by rw [List.head?_eq_getElem?]; exact hx
    have hl0n : 0 < l.length := List.length_pos_iff.2 hE
    have hl0i : (0 : Int) < (l.length : Int) := by omega
    by_cases hx5 : x = 45
    · subst hx5
      have hneg : (l.head? == some 45) = true := by rw [hhx]; rfl
      rw [hneg]
      simp only [if_true]
      obtain ⟨u, hu⟩ : ∃ u, u = l.drop 1 := ⟨_, rfl⟩
      rw [← hu]
      have hul : u.length ≤ 9000 := by rw [hu, List.length_drop]; omega
      have hex : (ByteArray.mk l.toArray).extract 1 l.length = ByteArray.mk u.toArray := by rw [extract_mk, List.take_length, hu]
      have hl1 : (1 : Int) ≤ (l.length : Int) := by omega
      clear hE hneg hhx hx hu
      obtain ⟨W, hW⟩ : ∃ W, W = (cutP u).1 := ⟨_, rfl⟩
      obtain ⟨FR, hFR⟩ : ∃ FR, FR = (cutP u).2.1 := ⟨_, rfl⟩
      obtain ⟨pt, hpt⟩ : ∃ pt, pt = (cutP u).2.2 := ⟨_, rfl⟩
      have hzW : (ByteArray.mk W.toArray).size = W.length := size_mk W
      have hzu : (ByteArray.mk u.toArray).size = u.length := size_mk u
      have hWl : (W.length : Int) ≤ 9000 := by have := cutP_len u; rw [hW]; omega
      have SP : Hid (∀ w, Calls Tryz.prog 33 #[.string ⟨u.toArray⟩] w fun e w' => e = .returned (.tuple #[.string ⟨W.toArray⟩, .string ⟨FR.toArray⟩, .bool pt]) ∧ Below w.heap.size w w') := fun w => by rw [hW, hFR, hpt]; exact split_any u w (by omega)
      have NM : Hid (∀ w, Calls Tryz.prog 34 #[.string ⟨u.toArray⟩, .bool true] w fun e w' => e = .returned (av (nmS u true)) ∧ Below w.heap.size w w') := fun w => Number_any u true w (by omega)
      have LD : Hid (led u true = (decide (1 < W.length) && W.head? == some 48 || (u == [48] && true && !pt))) := by rw [hW, hpt]; exact rfl
      have hu1 : u = [48] → W = [48] ∧ pt = false := by rintro h; rw [hW, hpt, h]; exact ⟨rfl, rfl⟩
      generalize nmS u true = A at *
      clear hW hFR hpt
      by_cases hA : 1 < W.length
      · obtain ⟨y, hy⟩ : ∃ y, W[0]? = some y := ⟨W[0]'(by omega), List.getElem?_eq_getElem (by omega)⟩
        have hgy := get_mk hy
        have hhy : W.head? = some y := by rw [List.head?_eq_getElem?]; exact hy
        have hAi : (1 : Int) < (W.length : Int) := by omega
        have hA0 : 0 < W.length := by omega
        have hub : (u == [48]) = false := by rw [beq_eq_false_iff_ne]; intro h; rw [(hu1 h).1] at hA; simp at hA
        by_cases hy8 : y = 48
        · subst hy8
          have hled : led u true = true := by rw [LD.out, hhy]; simp [hA]
          rw [if_pos hled]
          clear hled LD NM hu1 hy hhy
          go_enter Tryz.func12, Tryz.ntmps12
          go_wp2_with fail
          refine (UQ2.out _).mono ?_
          rintro e w1 ⟨rfl, hb1⟩
          have R1 := R0.out.below hb1
          have B1 := B0.out.trans (hb1.mono B0.out.size)
          clear UQ2 hb1
          go_wp2_with fail
          refine (SP.out _).mono ?_
          rintro e w2 ⟨rfl, hb2⟩
          have R2 := R1.below hb2
          have B2 := B1.trans (hb2.mono B1.size)
          clear SP hb2 R1 B1
          obtain ⟨_, c0, c1, c2, f0, f1, f2⟩ := id R2
          go_wp2_with fail
          obtain ⟨_, x0, x1, x2, _, _, _⟩ := R2.put 0 0 ⟨#[]⟩
          refine bodyPost_ret (v := av (⟨0, 0, ⟨#[]⟩⟩, 3)) (by simp [results, Tryz.results12, go_sem, av, x0, x1, x2]) rfl ⟨rfl, ?_⟩
          exact ((B2.setCell (p := ⟨w.heap.size, 0, none⟩) (Nat.le_refl _) _).setCell (p := ⟨w.heap.size, 1, none⟩) (Nat.le_refl _) _).setCell (p := ⟨w.heap.size, 2, none⟩) (Nat.le_refl _) _
        · have hled : led u true = false := by rw [LD.out, hhy, hub]; simp [hy8]
          rw [if_neg (by rw [hled]; exact Bool.false_ne_true)]
          have hyi : ((y.toNat : Int) == 48) = false := by rw [beq_eq_false_iff_ne]; intro e; exact hy8 (UInt8.toNat_inj.1 (by show y.toNat = 48; omega))
          clear hled LD hu1 hy hhy
          obtain ⟨⟨ty, n, sx⟩, E⟩ := A
          go_enter Tryz.func12, Tryz.ntmps12
          go_wp2_with fail
          refine (UQ2.out _).mono ?_
          rintro e w1 ⟨rfl, hb1⟩
          have R1 := R0.out.below hb1
          have B1 := B0.out.trans (hb1.mono B0.out.size)
          clear UQ2 hb1
          go_wp2_with fail
          refine (SP.out _).mono ?_
          rintro e w2 ⟨rfl, hb2⟩
          have R2 := R1.below hb2
          have B2 := B1.trans (hb2.mono B1.size)
          clear SP hb2 R1 B1
          go_wp2_with fail
          refine (NM.out _).mono ?_
          rintro e w3 ⟨rfl, hb3⟩
          have R3 := R2.below hb3
          have B3 := B2.trans (hb3.mono B2.size)
          clear NM hb3 R2 B2
          unfold av
          obtain ⟨_, c0, c1, c2, f0, f1, f2⟩ := id R3
          go_wp2_with fail
          obtain ⟨_, x0, x1, x2, _, _, _⟩ := R3.put ty n sx
          refine bodyPost_ret (v := av (⟨ty, n, sx⟩, E)) (by simp [results, Tryz.results12, go_sem, av, x0, x1, x2]) rfl ⟨rfl, ?_⟩
          exact ((B3.setCell (p := ⟨w.heap.size, 0, none⟩) (Nat.le_refl _) _).setCell (p := ⟨w.heap.size, 1, none⟩) (Nat.le_refl _) _).setCell (p := ⟨w.heap.size, 2, none⟩) (Nat.le_refl _) _
      have hAi : ¬ (1 : Int) < (W.length : Int) := by omega
      by_cases h48 : u = [48]
      · obtain ⟨rfl, rfl⟩ := hu1 h48
        have hub : (u == [48]) = true := by rw [h48]; rfl
        have hled : led u true = true := by rw [LD.out, hub]; rfl
        rw [if_pos hled]
        clear hled LD NM hu1 h48
        go_enter Tryz.func12, Tryz.ntmps12
        go_wp2_with fail
        refine (UQ2.out _).mono ?_
        rintro e w1 ⟨rfl, hb1⟩
        have R1 := R0.out.below hb1
        have B1 := B0.out.trans (hb1.mono B0.out.size)
        clear UQ2 hb1
        go_wp2_with fail
        refine (SP.out _).mono ?_
        rintro e w2 ⟨rfl, hb2⟩
        have R2 := R1.below hb2
        have B2 := B1.trans (hb2.mono B1.size)
        clear SP hb2 R1 B1
        obtain ⟨_, c0, c1, c2, f0, f1, f2⟩ := id R2
        go_wp2_with fail
        obtain ⟨_, x0, x1, x2, _, _, _⟩ := R2.put 0 0 ⟨#[]⟩
        refine bodyPost_ret (v := av (⟨0, 0, ⟨#[]⟩⟩, 3)) (by simp [results, Tryz.results12, go_sem, av, x0, x1, x2]) rfl ⟨rfl, ?_⟩
        exact ((B2.setCell (p := ⟨w.heap.size, 0, none⟩) (Nat.le_refl _) _).setCell (p := ⟨w.heap.size, 1, none⟩) (Nat.le_refl _) _).setCell (p := ⟨w.heap.size, 2, none⟩) (Nat.le_refl _) _
      · have hub : (u == [48]) = false := by rw [beq_eq_false_iff_ne]; exact h48
        have hled : led u true = false := by rw [LD.out, hub]; simp [hA]
        rw [if_neg (by rw [hled]; exact Bool.false_ne_true)]
        clear hled LD hu1 h48
        obtain ⟨⟨ty, n, sx⟩, E⟩ := A
        go_enter Tryz.func12, Tryz.ntmps12
        go_wp2_with fail
        refine (UQ2.out _).mono ?_
        rintro e w1 ⟨rfl, hb1⟩
        have R1 := R0.out.below hb1
        have B1 := B0.out.trans (hb1.mono B0.out.size)
        clear UQ2 hb1
        go_wp2_with fail
        refine (SP.out _).mono ?_
        rintro e w2 ⟨rfl, hb2⟩
        have R2 := R1.below hb2
        have B2 := B1.trans (hb2.mono B1.size)
        clear SP hb2 R1 B1
        go_wp2_with fail
        refine (NM.out _).mono ?_
        rintro e w3 ⟨rfl, hb3⟩
        have R3 := R2.below hb3
        have B3 := B2.trans (hb3.mono B2.size)
        clear NM hb3 R2 B2
        unfold av
        obtain ⟨_, c0, c1, c2, f0, f1, f2⟩ := id R3
        go_wp2_with fail
        obtain ⟨_, x0, x1, x2, _, _, _⟩ := R3.put ty n sx
        refine bodyPost_ret (v := av (⟨ty, n, sx⟩, E)) (by simp [results, Tryz.results12, go_sem, av, x0, x1, x2]) rfl ⟨rfl, ?_⟩
        exact ((B3.setCell (p := ⟨w.heap.size, 0, none⟩) (Nat.le_refl _) _).setCell (p := ⟨w.heap.size, 1, none⟩) (Nat.le_refl _) _).setCell (p := ⟨w.heap.size, 2, none⟩) (Nat.le_refl _) _
    · have hneg : (l.head? == some 45) = false := by rw [hhx]; simpa using hx5
      rw [hneg]
      simp only [Bool.false_eq_true, if_false]
      have hxi : ((x.toNat : Int) == 45) = false := by rw [beq_eq_false_iff_ne]; intro e; exact hx5 (UInt8.toNat_inj.1 (by show x.toNat = 45; omega))
      clear hE hneg hhx hx
      obtain ⟨W, hW⟩ : ∃ W, W = (cutP l).1 := ⟨_, rfl⟩
      obtain ⟨FR, hFR⟩ : ∃ FR, FR = (cutP l).2.1 := ⟨_, rfl⟩
      obtain ⟨pt, hpt⟩ : ∃ pt, pt = (cutP l).2.2 := ⟨_, rfl⟩
      have hzW : (ByteArray.mk W.toArray).size = W.length := size_mk W
      have hzu : (ByteArray.mk l.toArray).size = l.length := size_mk l
      have hWl : (W.length : Int) ≤ 9000 := by have := cutP_len l; rw [hW]; omega
      have SP : Hid (∀ w, Calls Tryz.prog 33 #[.string ⟨l.toArray⟩] w fun e w' => e = .returned (.tuple #[.string ⟨W.toArray⟩, .string ⟨FR.toArray⟩, .bool pt]) ∧ Below w.heap.size w w') := fun w => by rw [hW, hFR, hpt]; exact split_any l w (by omega)
      have NM : Hid (∀ w, Calls Tryz.prog 34 #[.string ⟨l.toArray⟩, .bool false] w fun e w' => e = .returned (av (nmS l false)) ∧ Below w.heap.size w w') := fun w => Number_any l false w (by omega)
      have LD : Hid (led l false = (decide (1 < W.length) && W.head? == some 48 || (l == [48] && false && !pt))) := by rw [hW, hpt]; exact rfl
      have hu1 : l = [48] → W = [48] ∧ pt = false := by rintro h; rw [hW, hpt, h]; exact ⟨rfl, rfl⟩
      generalize nmS l false = A at *
      clear hW hFR hpt
      by_cases hA : 1 < W.length
      · obtain ⟨y, hy⟩ : ∃ y, W[0]? = some y := ⟨W[0]'(by omega), List.getElem?_eq_getElem (by omega)⟩
        have hgy := get_mk hy
        have hhy : W.head? = some y := by rw [List.head?_eq_getElem?]; exact hy
        have hAi : (1 : Int) < (W.length : Int) := by omega
        have hA0 : 0 < W.length := by omega
        have hub : (l == [48]) = false := by rw [beq_eq_false_iff_ne]; intro h; rw [(hu1 h).1] at hA; simp at hA
        by_cases hy8 : y = 48
        · subst hy8
          have hled : led l false = true := by rw [LD.out, hhy]; simp [hA]
          rw [if_pos hled]
          clear hled LD NM hu1 hy hhy
          go_enter Tryz.func12, Tryz.ntmps12
          go_wp2_with fail
          refine (UQ2.out _).mono ?_
          rintro e w1 ⟨rfl, hb1⟩
          have R1 := R0.out.below hb1
          have B1 := B0.out.trans (hb1.mono B0.out.size)
          clear UQ2 hb1
          go_wp2_with fail
          refine (SP.out _).mono ?_
          rintro e w2 ⟨rfl, hb2⟩
          have R2 := R1.below hb2
          have B2 := B1.trans (hb2.mono B1.size)
          clear SP hb2 R1 B1
          obtain ⟨_, c0, c1, c2, f0, f1, f2⟩ := id R2
          go_wp2_with fail
          obtain ⟨_, x0, x1, x2, _, _, _⟩ := R2.put 0 0 ⟨#[]⟩
          refine bodyPost_ret (v := av (⟨0, 0, ⟨#[]⟩⟩, 3)) (by simp [results, Tryz.results12, go_sem, av, x0, x1, x2]) rfl ⟨rfl, ?_⟩
          exact ((B2.setCell (p := ⟨w.heap.size, 0, none⟩) (Nat.le_refl _) _).setCell (p := ⟨w.heap.size, 1, none⟩) (Nat.le_refl _) _).setCell (p := ⟨w.heap.size, 2, none⟩) (Nat.le_refl _) _
        · have hled : led l false = false := by rw [LD.out, hhy, hub]; simp [hy8]
          rw [if_neg (by rw [hled]; exact Bool.false_ne_true)]
          have hyi : ((y.toNat : Int) == 48) = false := by rw [beq_eq_false_iff_ne]; intro e; exact hy8 (UInt8.toNat_inj.1 (by show y.toNat = 48; omega))
          clear hled LD hu1 hy hhy
          obtain ⟨⟨ty, n, sx⟩, E⟩ := A
          go_enter Tryz.func12, Tryz.ntmps12
          go_wp2_with fail
          refine (UQ2.out _).mono ?_
          rintro e w1 ⟨rfl, hb1⟩
          have R1 := R0.out.below hb1
          have B1 := B0.out.trans (hb1.mono B0.out.size)
          clear UQ2 hb1
          go_wp2_with fail
          refine (SP.out _).mono ?_
          rintro e w2 ⟨rfl, hb2⟩
          have R2 := R1.below hb2
          have B2 := B1.trans (hb2.mono B1.size)
          clear SP hb2 R1 B1
          go_wp2_with fail
          refine (NM.out _).mono ?_
          rintro e w3 ⟨rfl, hb3⟩
          have R3 := R2.below hb3
          have B3 := B2.trans (hb3.mono B2.size)
          clear NM hb3 R2 B2
          unfold av
          obtain ⟨_, c0, c1, c2, f0, f1, f2⟩ := id R3
          go_wp2_with fail
          obtain ⟨_, x0, x1, x2, _, _, _⟩ := R3.put ty n sx
          refine bodyPost_ret (v := av (⟨ty, n, sx⟩, E)) (by simp [results, Tryz.results12, go_sem, av, x0, x1, x2]) rfl ⟨rfl, ?_⟩
          exact ((B3.setCell (p := ⟨w.heap.size, 0, none⟩) (Nat.le_refl _) _).setCell (p := ⟨w.heap.size, 1, none⟩) (Nat.le_refl _) _).setCell (p := ⟨w.heap.size, 2, none⟩) (Nat.le_refl _) _
      have hAi : ¬ (1 : Int) < (W.length : Int) := by omega
      by_cases h48 : l = [48]
      · obtain ⟨rfl, rfl⟩ := hu1 h48
        have hub : (l == [48]) = true := by rw [h48]; rfl
        have hled : led l false = false := by rw [LD.out, hub]; rfl
        rw [if_neg (by rw [hled]; exact Bool.false_ne_true)]
        clear hled LD hu1 h48
        obtain ⟨⟨ty, n, sx⟩, E⟩ := A
        go_enter Tryz.func12, Tryz.ntmps12
        go_wp2_with fail
        refine (UQ2.out _).mono ?_
        rintro e w1 ⟨rfl, hb1⟩
        have R1 := R0.out.below hb1
        have B1 := B0.out.trans (hb1.mono B0.out.size)
        clear UQ2 hb1
        go_wp2_with fail
        refine (SP.out _).mono ?_
        rintro e w2 ⟨rfl, hb2⟩
        have R2 := R1.below hb2
        have B2 := B1.trans (hb2.mono B1.size)
        clear SP hb2 R1 B1
        go_wp2_with fail
        refine (NM.out _).mono ?_
        rintro e w3 ⟨rfl, hb3⟩
        have R3 := R2.below hb3
        have B3 := B2.trans (hb3.mono B2.size)
        clear NM hb3 R2 B2
        unfold av
        obtain ⟨_, c0, c1, c2, f0, f1, f2⟩ := id R3
        go_wp2_with fail
        obtain ⟨_, x0, x1, x2, _, _, _⟩ := R3.put ty n sx
        refine bodyPost_ret (v := av (⟨ty, n, sx⟩, E)) (by simp [results, Tryz.results12, go_sem, av, x0, x1, x2]) rfl ⟨rfl, ?_⟩
        exact ((B3.setCell (p := ⟨w.heap.size, 0, none⟩) (Nat.le_refl _) _).setCell (p := ⟨w.heap.size, 1, none⟩) (Nat.le_refl _) _).setCell (p := ⟨w.heap.size, 2, none⟩) (Nat.le_refl _) _
      · have hub : (l == [48]) = false := by rw [beq_eq_false_iff_ne]; exact h48
        have hled : led l false = false := by rw [LD.out, hub]; simp [hA]
        rw [if_neg (by rw [hled]; exact Bool.false_ne_true)]
        clear hled LD hu1 h48
        obtain ⟨⟨ty, n, sx⟩, E⟩ := A
        go_enter Tryz.func12, Tryz.ntmps12
        go_wp2_with fail
        refine (UQ2.out _).mono ?_
        rintro e w1 ⟨rfl, hb1⟩
        have R1 := R0.out.below hb1
        have B1 := B0.out.trans (hb1.mono B0.out.size)
        clear UQ2 hb1
        go_wp2_with fail
        refine (SP.out _).mono ?_
        rintro e w2 ⟨rfl, hb2⟩
        have R2 := R1.below hb2
        have B2 := B1.trans (hb2.mono B1.size)
        clear SP hb2 R1 B1
        go_wp2_with fail
        refine (NM.out _).mono ?_
        rintro e w3 ⟨rfl, hb3⟩
        have R3 := R2.below hb3
        have B3 := B2.trans (hb3.mono B2.size)
        clear NM hb3 R2 B2
        unfold av
        obtain ⟨_, c0, c1, c2, f0, f1, f2⟩ := id R3
        go_wp2_with fail
        obtain ⟨_, x0, x1, x2, _, _, _⟩ := R3.put ty n sx
        refine bodyPost_ret (v := av (⟨ty, n, sx⟩, E)) (by simp [results, Tryz.results12, go_sem, av, x0, x1, x2]) rfl ⟨rfl, ?_⟩
        exact ((B3.setCell (p := ⟨w.heap.size, 0, none⟩) (Nat.le_refl _) _).setCell (p := ⟨w.heap.size, 1, none⟩) (Nat.le_refl _) _).setCell (p := ⟨w.heap.size, 2, none⟩) (Nat.le_refl _) _
  · have UQ2 : Hid (∀ w, Calls Tryz.prog 32 #[.string ⟨l.toArray⟩] w fun e w' => e = .returned (.tuple #[.string ⟨t.toArray⟩, .bool true]) ∧ Below w.heap.size w w') := fun w => by have h := UQ.out w; rw [huq] at h; exact h
    clear UQ huq
    show Calls _ _ _ _ fun e w' => e = .returned (av (if chkT ⟨t.toArray⟩ = 0 then (⟨3, 0, ⟨t.toArray⟩⟩, 0) else bad (chkT ⟨t.toArray⟩))) ∧ _
    have CK : Hid (∀ w, Calls Tryz.prog 18 #[.agg #[.int .i64 3, .int .i64 0, .string ⟨t.toArray⟩]] w fun e w' => e = .returned (.int .i64 (chkT ⟨t.toArray⟩)) ∧ Below w.heap.size w w') := fun w => by have h := refCheck_any 3 0 ⟨t.toArray⟩ w; rw [chk_text] at h; exact h
    generalize chkT ⟨t.toArray⟩ = c at *
    go_enter Tryz.func12, Tryz.ntmps12
    go_wp2_with fail
    refine (UQ2.out _).mono ?_
    rintro e w1 ⟨rfl, hb1⟩
    have R1 := R0.out.below hb1
    have B1 := B0.out.trans (hb1.mono B0.out.size)
    clear UQ2 hb1
    go_wp2_with fail
    have V0 : Hid (Res (w1.alloc (.cells #[.int .i64 3, .int .i64 0, .string ⟨t.toArray⟩] 23)) w1.heap.size 3 0 ⟨t.toArray⟩) := Res.new w1 3 0 ⟨t.toArray⟩
    refine (CK.out _).mono ?_
    rintro e w2 ⟨rfl, hb2⟩
    have V2 := V0.out.below hb2
    have R2 := (R1.alloc _).below hb2
    have B1a := B1.alloc B1.size (.cells #[.int .i64 3, .int .i64 0, .string ⟨t.toArray⟩] 23)
    have B2 := B1a.trans (hb2.mono B1a.size)
    clear CK hb2 R1 B1 B1a V0
    obtain ⟨_, v0, v1, v2, _, _, _⟩ := V2
    obtain ⟨_, c0, c1, c2, f0, f1, f2⟩ := id R2
    by_cases hc : c = 0
    · subst hc
      go_wp2_with fail
      obtain ⟨_, x0, x1, x2, _, _, _⟩ := R2.put 3 0 ⟨t.toArray⟩
      refine bodyPost_ret (v := av (⟨3, 0, ⟨t.toArray⟩⟩, 0)) (by simp [results, Tryz.results12, go_sem, av, x0, x1, x2]) rfl ⟨rfl, ?_⟩
      exact ((B2.setCell (p := ⟨w.heap.size, 0, none⟩) (Nat.le_refl _) _).setCell (p := ⟨w.heap.size, 1, none⟩) (Nat.le_refl _) _).setCell (p := ⟨w.heap.size, 2, none⟩) (Nat.le_refl _) _
    · go_wp2_with fail
      obtain ⟨_, x0, x1, x2, _, _, _⟩ := R2.put 0 0 ⟨#[]⟩
      refine bodyPost_ret (v := av (⟨0, 0, ⟨#[]⟩⟩, c)) (by simp [results, Tryz.results12, go_sem, av, x0, x1, x2]) rfl ⟨rfl, ?_⟩
      exact ((B2.setCell (p := ⟨w.heap.size, 0, none⟩) (Nat.le_refl _) _).setCell (p := ⟨w.heap.size, 1, none⟩) (Nat.le_refl _) _).setCell (p := ⟨w.heap.size, 2, none⟩) (Nat.le_refl _) _
end Go.Proofs.YtoboebibmelgkaaGreatDoor
