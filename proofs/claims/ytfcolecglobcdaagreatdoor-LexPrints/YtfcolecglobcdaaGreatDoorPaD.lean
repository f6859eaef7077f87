/-
  The walks of value.parseText and Parse.
-/
import Derived.Test.YtfcolecglobcdaaGreatDoorPaC
namespace Go.Proofs.YtfcolecglobcdaaGreatDoor
open Go.RowKit Go.Shelf

theorem extract_mk (l : List UInt8) (a b : Nat) : (ByteArray.mk l.toArray).extract a b = ByteArray.mk ((l.take b).drop a).toArray := by
  apply ByteArray.ext
  rw [ByteArray.data_extract]
  show l.toArray.extract a b = ((l.take b).drop a).toArray
  rw [List.extract_toArray, List.drop_take]
set_option maxHeartbeats 4000000 in
set_option maxRecDepth 1000000 in
theorem parseText_any (l : List UInt8) (w : World) (hs : l.length ≤ 9000) (hM : Mx w) (hT : Tabs w) :
    Calls Tryz.prog 130 #[.string ⟨l.toArray⟩] w fun e w' => e = .returned (av (prT l)) ∧ Below w.heap.size w w' := by
  have R0 : Hid (Res (w.alloc (.cells #[.int .i64 0, .int .i64 0, .string ⟨#[]⟩] 35)) w.heap.size 0 0 ⟨#[]⟩) := Res.new w 0 0 ⟨#[]⟩
  have B0 : Hid (Below w.heap.size w (w.alloc (.cells #[.int .i64 0, .int .i64 0, .string ⟨#[]⟩] 35))) := (Below.refl _ w).alloc (Nat.le_refl _) _
  have HM : Hid (Mx w) := hM
  have HT : Hid (Tabs w) := hT
  have hzl : (ByteArray.mk l.toArray).size = l.length := size_mk l
  clear hM hT
  by_cases h2 : l.length < 2
  · have e : prT l = bad 3 := if_pos (Or.inl h2)
    rw [e]
    have h2i : (l.length : Int) < 2 := by omega
    go_enter Tryz.func130, Tryz.ntmps130
    go_wp2_with fail
    refine bodyPost_ret (v := av (⟨0, 0, ⟨#[]⟩⟩, 3)) (by simp [results, Tryz.results130, go_sem, av]) rfl ⟨rfl, (Below.refl _ w).alloc (Nat.le_refl _) _⟩
  have h2i : ¬ (l.length : Int) < 2 := by omega
  have hne : l ≠ [] := by rintro rfl; simp at h2
  obtain ⟨y, hy⟩ : ∃ y, l.getLast? = some y := ⟨_, List.getLast?_eq_some_getLast hne⟩
  have hget : ∀ h, (ByteArray.mk l.toArray)[l.length - 1]'h = y := by
    intro h
    rw [List.getLast?_eq_getElem?] at hy
    have hl : l.length - 1 < l.length := by omega
    rw [List.getElem?_eq_getElem hl] at hy
    exact Option.some.inj hy
  have hti : ((l.length : Int) - 1).toNat = l.length - 1 := by omega
  have hi1 : (0 : Int) ≤ (l.length : Int) - 1 := by omega
  have hi2 : (l.length : Int) - 1 < (l.length : Int) := by omega
  have hi3 : l.length - 1 < l.length := by omega
  have hi4 : (1 : Int) ≤ (l.length : Int) - 1 := by omega
  have hi5 : (l.length : Int) - 1 ≤ (l.length : Int) := by omega
  have hli : (l.length : Int) ≤ 9000 := by omega
  by_cases hy39 : y = 39
  · subst hy39
    obtain ⟨J, hJ⟩ : ∃ J, J = (l.drop 1).dropLast := ⟨_, rfl⟩
    have hJl : J.length ≤ 9000 := by rw [hJ]; simp; omega
    have hex : (ByteArray.mk l.toArray).extract 1 (l.length - 1) = ByteArray.mk J.toArray := by
      rw [extract_mk, hJ, List.dropLast_eq_take, List.drop_take]
      simp
    have e : prT l = match unq J with
        | none => bad 3
        | some t => if chkT ⟨t.toArray⟩ = 0 then (⟨3, 0, ⟨t.toArray⟩⟩, 0) else bad (chkT ⟨t.toArray⟩) := by
      unfold prT
      rw [if_neg (by simp [hy]; omega), ← hJ]
      cases unq J <;> rfl
    rw [e]
    have RA : Hid (∀ w new, Mx w → (ByteArray.mk new.toArray).size ≤ 2 → ([39, 39] : List UInt8) ≠ new → Calls Tryz.prog 42 #[.string ⟨J.toArray⟩, .string ⟨#[39, 39]⟩, .string ⟨new.toArray⟩] w fun e w' => e = .returned (.string ⟨(rpl new J).toArray⟩) ∧ Below w.heap.size w w') := fun w new hM hn hne => by
      have h := ReplaceAll_any ⟨J.toArray⟩ ⟨#[39, 39]⟩ ⟨new.toArray⟩ w hM (by rw [size_mk]; omega) (by decide) hn
      have e1 : Lib.replaceAll (ByteArray.mk J.toArray).data.toList (ByteArray.mk #[39, 39]).data.toList (ByteArray.mk new.toArray).data.toList = rpl new J := by
        show Lib.replaceAll J.toArray.toList [39, 39] new.toArray.toList = _
        rw [List.toList_toArray, List.toList_toArray]
        exact rpl_is new hne J.length J (Nat.le_refl _)
      rw [e1] at h
      exact h
    have RA1 : Hid (∀ w, Mx w → Calls Tryz.prog 42 #[.string ⟨J.toArray⟩, .string ⟨#[39, 39]⟩, .string ⟨#[]⟩] w fun e w' => e = .returned (.string ⟨(rpl [] J).toArray⟩) ∧ Below w.heap.size w w') := fun w hM => RA.out w [] hM (by decide) (by decide)
    have hr1 : (rpl [] J).length ≤ 9000 := by
      have : ∀ (n : Nat) (v : List UInt8), v.length ≤ n → (rpl [] v).length ≤ v.length := by
        intro n
        induction n with
        | zero => intro v hv; have : v = [] := List.eq_nil_of_length_eq_zero (by omega); subst this; simp [rpl]
        | succ n ih =>
          intro v hv
          match v with
          | [] => simp [rpl]
          | [x] => simp [rpl]
          | x :: y :: r =>
            rw [rpl]
            split
            · have := ih r (by simp at hv; omega); simp; omega
            · have := ih (y :: r) (by simp at hv ⊢; omega); simp at this ⊢; omega
      have := this J.length J (Nat.le_refl _)
      omega
    have CO : Hid (∀ w, Mx w → Calls Tryz.prog 23 #[.string ⟨(rpl [] J).toArray⟩, .string ⟨#[39]⟩] w fun e w' => e = .returned (.bool (unq J).isNone) ∧ w' = w) := fun w hM => by
      have h := Contains_any ⟨(rpl [] J).toArray⟩ ⟨#[39]⟩ w hM (by rw [size_mk]; omega)
      have e1 : Lib.contains (ByteArray.mk (rpl [] J).toArray).data.toList (ByteArray.mk #[39]).data.toList = (unq J).isNone := by
        show Lib.contains (rpl [] J).toArray.toList [39] = _
        rw [List.toList_toArray, has_one]
        exact unq_none J.length J (Nat.le_refl _)
      rw [e1] at h
      exact h
    rcases hu : unq J with _ | t
    · rw [hu] at CO
      show Calls _ _ _ _ fun e w' => e = .returned (av (bad 3)) ∧ _
      generalize rpl [] J = Z at *
      clear RA e hy hJ hJl hr1 hne hs h2 hu
      go_enter Tryz.func130, Tryz.ntmps130
      go_wp2_with fail
      refine (RA1.out _ (HM.out.below B0.out)).mono ?_
      rintro e w1 ⟨rfl, hb⟩
      have R1 := R0.out.below hb
      have B1 := B0.out.trans (hb.mono B0.out.size)
      clear RA1 R0 B0 hb
      go_wp2_with fail
      refine (CO.out _ (HM.out.below B1)).mono ?_
      rintro e w2 ⟨rfl, hw2⟩
      obtain rfl : w1 = w2 := hw2.symm
      clear CO
      obtain ⟨_, c0, c1, c2, f0, f1, f2⟩ := id R1
      go_wp2_with fail
      obtain ⟨_, x0, x1, x2, _, _, _⟩ := R1.put 0 0 ⟨#[]⟩
      refine bodyPost_ret (v := av (⟨0, 0, ⟨#[]⟩⟩, 3)) (by simp [results, Tryz.results130, go_sem, av, x0, x1, x2]) rfl ⟨rfl, ?_⟩
      exact ((B1.setCell (p := ⟨w.heap.size, 0, none⟩) (Nat.le_refl _) _).setCell (p := ⟨w.heap.size, 1, none⟩) (Nat.le_refl _) _).setCell (p := ⟨w.heap.size, 2, none⟩) (Nat.le_refl _) _
    · rw [hu] at CO
      show Calls _ _ _ _ fun e w' => e = .returned (av (if chkT ⟨t.toArray⟩ = 0 then (⟨3, 0, ⟨t.toArray⟩⟩, 0) else bad (chkT ⟨t.toArray⟩))) ∧ _
      have ht : rpl [39] J = t := unq_some J.length J t (Nat.le_refl _) hu
      have htl : t.length ≤ 9223372036854775807 := by
        have : ∀ (n : Nat) (v : List UInt8), v.length ≤ n → (rpl [39] v).length ≤ v.length := by
          intro n
          induction n with
          | zero => intro v hv; have : v = [] := List.eq_nil_of_length_eq_zero (by omega); subst this; simp [rpl]
          | succ n ih =>
            intro v hv
            match v with
            | [] => simp [rpl]
            | [x] => simp [rpl]
            | x :: y :: r =>
              rw [rpl]
              split
              · have := ih r (by simp at hv; omega); simp; omega
              · have := ih (y :: r) (by simp at hv ⊢; omega); simp at this ⊢; omega
        have := this J.length J (Nat.le_refl _)
        rw [ht] at this
        omega
      have RA2 : Hid (∀ w, Mx w → Calls Tryz.prog 42 #[.string ⟨J.toArray⟩, .string ⟨#[39, 39]⟩, .string ⟨#[39]⟩] w fun e w' => e = .returned (.string ⟨t.toArray⟩) ∧ Below w.heap.size w w') := fun w hM => by
        have := RA.out w [39] hM (by decide) (by decide)
        rw [ht] at this
        exact this
      have CT : Hid (∀ w, Tabs w → Calls Tryz.prog 96 #[.string ⟨t.toArray⟩] w fun e w' => e = .returned (.int .i64 (chkT ⟨t.toArray⟩)) ∧ Below w.heap.size w w') := fun w h => checkText_any ⟨t.toArray⟩ w (by rw [size_mk]; exact htl) h
      generalize rpl [] J = Z at *
      generalize chkT ⟨t.toArray⟩ = E at *
      clear RA e hy hJ hJl hr1 hne hs h2 hu ht htl
      by_cases h0 : E = 0
      · rw [if_pos h0]
        subst h0
        go_enter Tryz.func130, Tryz.ntmps130
        go_wp2_with fail
        refine (RA1.out _ (HM.out.below B0.out)).mono ?_
        rintro e w1 ⟨rfl, hb⟩
        have R1 := R0.out.below hb
        have B1 := B0.out.trans (hb.mono B0.out.size)
        clear RA1 R0 B0 hb
        go_wp2_with fail
        refine (CO.out _ (HM.out.below B1)).mono ?_
        rintro e w2 ⟨rfl, hw2⟩
        obtain rfl : w1 = w2 := hw2.symm
        clear CO hw2
        go_wp2_with fail
        refine (RA2.out _ (HM.out.below B1)).mono ?_
        rintro e w3 ⟨rfl, hb⟩
        have R3 := R1.below hb
        have B3 := B1.trans (hb.mono B1.size)
        clear RA2 R1 B1 hb
        go_wp2_with fail
        refine (CT.out _ (HT.out.below B3)).mono ?_
        rintro e w4 ⟨rfl, hb⟩
        have R4 := R3.below hb
        have B4 := B3.trans (hb.mono B3.size)
        clear CT R3 B3 hb
        obtain ⟨_, c0, c1, c2, f0, f1, f2⟩ := id R4
        go_wp2_with fail
        obtain ⟨_, x0, x1, x2, _, _, _⟩ := R4.put 3 0 ⟨t.toArray⟩
        refine bodyPost_ret (v := av (⟨3, 0, ⟨t.toArray⟩⟩, 0)) (by simp [results, Tryz.results130, go_sem, av, x0, x1, x2]) rfl ⟨rfl, ?_⟩
        exact ((B4.setCell (p := ⟨w.heap.size, 0, none⟩) (Nat.le_refl _) _).setCell (p := ⟨w.heap.size, 1, none⟩) (Nat.le_refl _) _).setCell (p := ⟨w.heap.size, 2, none⟩) (Nat.le_refl _) _
      · rw [if_neg h0]
        have h0b : (E != 0) = true := by rw [bne_iff_ne]; exact h0
        show Calls _ _ _ _ fun e w' => e = .returned (av (⟨0, 0, ⟨#[]⟩⟩, E)) ∧ _
        go_enter Tryz.func130, Tryz.ntmps130
        go_wp2_with fail
        refine (RA1.out _ (HM.out.below B0.out)).mono ?_
        rintro e w1 ⟨rfl, hb⟩
        have R1 := R0.out.below hb
        have B1 := B0.out.trans (hb.mono B0.out.size)
        clear RA1 R0 B0 hb
        go_wp2_with fail
        refine (CO.out _ (HM.out.below B1)).mono ?_
        rintro e w2 ⟨rfl, hw2⟩
        obtain rfl : w1 = w2 := hw2.symm
        clear CO hw2
        go_wp2_with fail
        refine (RA2.out _ (HM.out.below B1)).mono ?_
        rintro e w3 ⟨rfl, hb⟩
        have R3 := R1.below hb
        have B3 := B1.trans (hb.mono B1.size)
        clear RA2 R1 B1 hb
        go_wp2_with fail
        refine (CT.out _ (HT.out.below B3)).mono ?_
        rintro e w4 ⟨rfl, hb⟩
        have R4 := R3.below hb
        have B4 := B3.trans (hb.mono B3.size)
        clear CT R3 B3 hb
        obtain ⟨_, c0, c1, c2, f0, f1, f2⟩ := id R4
        go_wp2_with fail
        obtain ⟨_, x0, x1, x2, _, _, _⟩ := R4.put 0 0 ⟨#[]⟩
        refine bodyPost_ret (v := av (⟨0, 0, ⟨#[]⟩⟩, E)) (by simp [results, Tryz.results130, go_sem, av, x0, x1, x2]) rfl ⟨rfl, ?_⟩
        exact ((B4.setCell (p := ⟨w.heap.size, 0, none⟩) (Nat.le_refl _) _).setCell (p := ⟨w.heap.size, 1, none⟩) (Nat.le_refl _) _).setCell (p := ⟨w.heap.size, 2, none⟩) (Nat.le_refl _) _
  · have e : prT l = bad 3 := if_pos (Or.inr (by rw [hy]; simpa using hy39))
    rw [e]
    have hyi : ((y.toNat : Int) != 39) = true := by
      rw [bne_iff_ne]
      intro e
      exact hy39 (UInt8.toNat_inj.1 (by show y.toNat = 39; omega))
    clear e hy hne h2 hs
    go_enter Tryz.func130, Tryz.ntmps130
    go_wp2_with fail
    refine bodyPost_ret (v := av (⟨0, 0, ⟨#[]⟩⟩, 3)) (by simp [results, Tryz.results130, go_sem, av]) rfl ⟨rfl, (Below.refl _ w).alloc (Nat.le_refl _) _⟩

set_option maxHeartbeats 1000000 in
theorem truth_at (b : Bool) (w : World) : Calls Tryz.prog 129 #[.bool b] w fun e w' => e = .returned (.agg #[.int .i64 4, .int .i64 (if b then 1 else 0), .string ⟨#[]⟩]) ∧ Below w.heap.size w w' := by
  cases b
  · go_enter Tryz.func129, Tryz.ntmps129
    go_wp2_with fail
    refine bodyPost_ret (v := .agg #[.int .i64 4, .int .i64 0, .string ⟨#[]⟩]) (by simp [results, Tryz.results129, go_sem]) rfl ⟨rfl, (Below.refl _ w).alloc (Nat.le_refl _) _⟩
  · go_enter Tryz.func129, Tryz.ntmps129
    go_wp2_with fail
    refine bodyPost_ret (v := .agg #[.int .i64 4, .int .i64 1, .string ⟨#[]⟩]) (by simp [results, Tryz.results129, go_sem]) rfl ⟨rfl, (Below.refl _ w).alloc (Nat.le_refl _) _⟩

set_option maxHeartbeats 4000000 in
set_option maxRecDepth 1000000 in
theorem Parse_any (l : List UInt8) (w : World) (hs : l.length ≤ 9223372036854775807) (hM : Mx w) (hR : Rg w) (hT : Tabs w) :
    Calls Tryz.prog 107 #[.string ⟨l.toArray⟩] w fun e w' => e = .returned (av (prs l)) ∧ Below w.heap.size w w' := by
  have hzl : (ByteArray.mk l.toArray).size = l.length := size_mk l
  by_cases h1 : 8194 < l.length
  · have e : prs l = bad 2 := if_pos h1
    rw [e]
    have h1i : (8194 : Int) < (l.length : Int) := by omega
    go_enter Tryz.func107, Tryz.ntmps107
    go_wp2_with fail
    refine bodyPost_ret (v := av (⟨0, 0, ⟨#[]⟩⟩, 2)) (by simp [results, Tryz.results107, go_sem, av]) rfl ⟨rfl, (Below.refl _ w).alloc (Nat.le_refl _) _⟩
  have h1i : ¬ (8194 : Int) < (l.length : Int) := by omega
  have e1 : prs l = if l = [78, 85, 76, 76] then (⟨0, 0, ⟨#[]⟩⟩, 0) else if l = [84, 82, 85, 69] then (⟨4, 1, ⟨#[]⟩⟩, 0) else if l = [70, 65, 76, 83, 69] then (⟨4, 0, ⟨#[]⟩⟩, 0) else if l.head? = some 39 then prT l else if l.head? = some 45 then prN (l.drop 1) true else prN l false := if_neg h1
  rw [e1]
  clear e1
  have TR : Hid (∀ b w, Calls Tryz.prog 129 #[.bool b] w fun e w' => e = .returned (.agg #[.int .i64 4, .int .i64 (if b then 1 else 0), .string ⟨#[]⟩]) ∧ Below w.heap.size w w') := truth_at
  have R0 : Hid (Res (w.alloc (.cells #[.int .i64 0, .int .i64 0, .string ⟨#[]⟩] 35)) w.heap.size 0 0 ⟨#[]⟩) := Res.new w 0 0 ⟨#[]⟩
  have B0 : Hid (Below w.heap.size w (w.alloc (.cells #[.int .i64 0, .int .i64 0, .string ⟨#[]⟩] 35))) := (Below.refl _ w).alloc (Nat.le_refl _) _
  by_cases hN : l = [78, 85, 76, 76]
  · rw [if_pos hN]
    have hb : (l == [78, 85, 76, 76]) = true := by rw [hN]; rfl
    clear hN
    go_enter Tryz.func107, Tryz.ntmps107
    go_wp2_with fail
    refine bodyPost_ret (v := av (⟨0, 0, ⟨#[]⟩⟩, 0)) (by simp [results, Tryz.results107, go_sem, av]) rfl ⟨rfl, (Below.refl _ w).alloc (Nat.le_refl _) _⟩
  rw [if_neg hN]
  have hNb : (l == [78, 85, 76, 76]) = false := by rw [beq_eq_false_iff_ne]; exact hN
  by_cases hTr : l = [84, 82, 85, 69]
  · rw [if_pos hTr]
    have hb : (l == [84, 82, 85, 69]) = true := by rw [hTr]; rfl
    clear hN hTr
    go_enter Tryz.func107, Tryz.ntmps107
    go_wp2_with fail
    refine (TR.out _ _).mono ?_
    rintro e w1 ⟨rfl, hb1⟩
    have R1 := R0.out.below hb1
    have B1 := B0.out.trans (hb1.mono B0.out.size)
    clear TR hb1
    obtain ⟨_, c0, c1, c2, f0, f1, f2⟩ := id R1
    go_wp2_with fail
    obtain ⟨_, x0, x1, x2, _, _, _⟩ := R1.put 4 1 ⟨#[]⟩
    refine bodyPost_ret (v := av (⟨4, 1, ⟨#[]⟩⟩, 0)) (by simp [results, Tryz.results107, go_sem, av, x0, x1, x2]) rfl ⟨rfl, ?_⟩
    exact ((B1.setCell (p := ⟨w.heap.size, 0, none⟩) (Nat.le_refl _) _).setCell (p := ⟨w.heap.size, 1, none⟩) (Nat.le_refl _) _).setCell (p := ⟨w.heap.size, 2, none⟩) (Nat.le_refl _) _
  rw [if_neg hTr]
  have hTb : (l == [84, 82, 85, 69]) = false := by rw [beq_eq_false_iff_ne]; exact hTr
  by_cases hFa : l = [70, 65, 76, 83, 69]
  · rw [if_pos hFa]
    have hb : (l == [70, 65, 76, 83, 69]) = true := by rw [hFa]; rfl
    clear hN hTr hFa
    go_enter Tryz.func107, Tryz.ntmps107
    go_wp2_with fail
    refine (TR.out _ _).mono ?_
    rintro e w1 ⟨rfl, hb1⟩
    have R1 := R0.out.below hb1
    have B1 := B0.out.trans (hb1.mono B0.out.size)
    clear TR hb1
    obtain ⟨_, c0, c1, c2, f0, f1, f2⟩ := id R1
    go_wp2_with fail
    obtain ⟨_, x0, x1, x2, _, _, _⟩ := R1.put 4 0 ⟨#[]⟩
    refine bodyPost_ret (v := av (⟨4, 0, ⟨#[]⟩⟩, 0)) (by simp [results, Tryz.results107, go_sem, av, x0, x1, x2]) rfl ⟨rfl, ?_⟩
    exact ((B1.setCell (p := ⟨w.heap.size, 0, none⟩) (Nat.le_refl _) _).setCell (p := ⟨w.heap.size, 1, none⟩) (Nat.le_refl _) _).setCell (p := ⟨w.heap.size, 2, none⟩) (Nat.le_refl _) _
  rw [if_neg hFa]
  have hFb : (l == [70, 65, 76, 83, 69]) = false := by rw [beq_eq_false_iff_ne]; exact hFa
  have HP : Hid (∀ w, Calls Tryz.prog 44 #[.string ⟨l.toArray⟩, .string ⟨#[39]⟩] w fun e w' => e = .returned (.bool (l.head? == some 39)) ∧ w' = w) := fun w => by
    have h := HasPrefix_any ⟨l.toArray⟩ ⟨#[39]⟩ w
    have e2 : Lib.hasPrefix (ByteArray.mk l.toArray).data.toList (ByteArray.mk #[39]).data.toList = (l.head? == some 39) := by
      show Lib.hasPrefix l.toArray.toList [39] = _
      rw [List.toList_toArray, hasP]
    rw [e2] at h
    exact h
  have HM : Hid (Mx w) := hM
  have HR : Hid (Rg w) := hR
  have HT : Hid (Tabs w) := hT
  have hl9 : l.length ≤ 9000 := by omega
  clear hN hTr hFa TR hM hR hT
  by_cases hq : l.head? = some 39
  · rw [if_pos hq]
    have hqb : (l.head? == some 39) = true := by rw [hq]; rfl
    rw [hqb] at HP
    have PT : Hid (∀ w, Mx w → Tabs w → Calls Tryz.prog 130 #[.string ⟨l.toArray⟩] w fun e w' => e = .returned (av (prT l)) ∧ Below w.heap.size w w') := fun w hM hT => parseText_any l w hl9 hM hT
    generalize prT l = A at *
    obtain ⟨⟨ty, n, sx⟩, E⟩ := A
    clear hq hqb hl9
    go_enter Tryz.func107, Tryz.ntmps107
    go_wp2_with fail
    refine (HP.out _).mono ?_
    rintro e w1 ⟨rfl, rfl⟩
    clear HP
    go_wp2_with fail
    refine (PT.out _ (HM.out.below B0.out) (HT.out.below B0.out)).mono ?_
    rintro e w2 ⟨rfl, hb1⟩
    have R1 := R0.out.below hb1
    have B1 := B0.out.trans (hb1.mono B0.out.size)
    clear PT hb1
    unfold av
    obtain ⟨_, c0, c1, c2, f0, f1, f2⟩ := id R1
    go_wp2_with fail
    obtain ⟨_, x0, x1, x2, _, _, _⟩ := R1.put ty n sx
    refine bodyPost_ret (v := av (⟨ty, n, sx⟩, E)) (by simp [results, Tryz.results107, go_sem, av, x0, x1, x2]) rfl ⟨rfl, ?_⟩
    exact ((B1.setCell (p := ⟨w.heap.size, 0, none⟩) (Nat.le_refl _) _).setCell (p := ⟨w.heap.size, 1, none⟩) (Nat.le_refl _) _).setCell (p := ⟨w.heap.size, 2, none⟩) (Nat.le_refl _) _
  · rw [if_neg hq]
    have hqb : (l.head? == some 39) = false := by rw [beq_eq_false_iff_ne]; exact hq
    rw [hqb] at HP
    have e2 : (if l.head? = some 45 then prN (l.drop 1) true else prN l false) = prN (if l.head? == some 45 then l.drop 1 else l) (l.head? == some 45) := by
      by_cases h : l.head? = some 45
      · rw [if_pos h]; simp [h]
      · have h2 : (l.head? == some 45) = false := by rw [beq_eq_false_iff_ne]; exact h
        rw [if_neg h, h2]; rfl
    rw [e2]
    have PN : Hid (∀ w, Mx w → Rg w → Calls Tryz.prog 131 #[.string ⟨l.toArray⟩] w fun e w' => e = .returned (av (prN (if l.head? == some 45 then l.drop 1 else l) (l.head? == some 45))) ∧ Below w.heap.size w w') := fun w hM hR => parseNumber_any l _ _ w rfl rfl hl9 hM hR
    generalize prN (if l.head? == some 45 then l.drop 1 else l) (l.head? == some 45) = A at *
    obtain ⟨⟨ty, n, sx⟩, E⟩ := A
    clear hq hqb hl9 e2
    go_enter Tryz.func107, Tryz.ntmps107
    go_wp2_with fail
    refine (HP.out _).mono ?_
    rintro e w1 ⟨rfl, rfl⟩
    clear HP
    go_wp2_with fail
    refine (PN.out _ (HM.out.below B0.out) (HR.out.below B0.out)).mono ?_
    rintro e w2 ⟨rfl, hb1⟩
    have R1 := R0.out.below hb1
    have B1 := B0.out.trans (hb1.mono B0.out.size)
    clear PN hb1
    unfold av
    obtain ⟨_, c0, c1, c2, f0, f1, f2⟩ := id R1
    go_wp2_with fail
    obtain ⟨_, x0, x1, x2, _, _, _⟩ := R1.put ty n sx
    refine bodyPost_ret (v := av (⟨ty, n, sx⟩, E)) (by simp [results, Tryz.results107, go_sem, av, x0, x1, x2]) rfl ⟨rfl, ?_⟩
    exact ((B1.setCell (p := ⟨w.heap.size, 0, none⟩) (Nat.le_refl _) _).setCell (p := ⟨w.heap.size, 1, none⟩) (Nat.le_refl _) _).setCell (p := ⟨w.heap.size, 2, none⟩) (Nat.le_refl _) _
end Go.Proofs.YtfcolecglobcdaaGreatDoor
