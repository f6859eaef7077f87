/-
  The walk of lockstepref01.Number.
-/
import Derived.Test.YtoboebibmelgkaaGreatDoorPaE
import Derived.Test.YtoboebibmelgkaaGreatDoorPaD
namespace Go.Proofs.YtoboebibmelgkaaGreatDoor
open Go.RowKit Go.Shelf

/-- a number without its sign, as the reference reads it -/
def nmS (u : List UInt8) (neg : Bool) : Va × Int :=
  if (allD (cutP u).1 && !(cutP u).1.isEmpty) = false then bad 3
  else if (cutP u).2.2 = false then fin 1 (dval 0 (cutP u).1) neg
  else if (allD (cutP u).2.1 && !(cutP u).2.1.isEmpty) = false ∨ 4 < (cutP u).2.1.length then bad 3
  else fin 2 (dval 0 ((cutP u).1 ++ (cutP u).2.1 ++ List.replicate (4 - (cutP u).2.1.length) 48)) neg
theorem dval_four {p : List UInt8} (h : p.length = 4) (a : Nat) : dval a p = a * 10000 + dval 0 p := by
  match p, h with
  | [x, y, z, t], _ =>
    have e : ∀ b, dval b [x, y, z, t] = (((b * 10 + (x.toNat - 48)) * 10 + (y.toNat - 48)) * 10 + (z.toNat - 48)) * 10 + (t.toNat - 48) := fun _ => rfl
    rw [e, e]; omega
theorem fin_ok (ty : Int) (n : Nat) (neg : Bool) (hf : fitB (if neg = true then -(n : Int) else (n : Int)) = true) : fin ty n neg = (⟨ty, ovV (if neg = true then -(n : Int) else (n : Int)), ⟨#[]⟩⟩, 0) := by
  have hf2 : fit (if neg = true then -(n : Int) else (n : Int)) := by unfold fitB at hf; rw [decide_eq_true_eq] at hf; exact hf
  rw [ovV_in hf2]
  unfold fin
  cases neg
  · simp only [Bool.false_eq_true, if_false] at hf2 ⊢
    rw [if_pos (by have := hf2.2; omega)]
  · simp only [if_true] at hf2 ⊢
    rw [if_pos (by have := hf2.1; omega)]
theorem fin_over (ty : Int) (n : Nat) (neg : Bool) (hf : fitB (if neg = true then -(n : Int) else (n : Int)) = false ∨ 18446744073709551615 < n) : fin ty n neg = bad 10 := by
  have hf2 : ¬ fit (if neg = true then -(n : Int) else (n : Int)) := by
    rcases hf with h | h
    · unfold fitB at h; rw [decide_eq_false_iff_not] at h; exact h
    · intro h2
      cases neg
      · simp only [Bool.false_eq_true, if_false] at h2; have := h2.2; omega
      · simp only [if_true] at h2; have := h2.1; omega
  unfold fin bad
  cases neg
  · simp only [Bool.false_eq_true, if_false] at hf2 ⊢
    rw [if_neg (fun h => hf2 ⟨by omega, by omega⟩)]
  · simp only [if_true] at hf2 ⊢
    rw [if_neg (fun h => hf2 ⟨by omega, by omega⟩)]

set_option maxHeartbeats 4000000 in
set_option maxRecDepth 1000000 in
theorem Number_any (u : List UInt8) (neg : Bool) (w : World) (hs : u.length ≤ 9000) :
    Calls Tryz.prog 34 #[.string ⟨u.toArray⟩, .bool neg] w fun e w' => e = .returned (av (nmS u neg)) ∧ Below w.heap.size w w' := by
  obtain ⟨W, hW⟩ : ∃ W, W = (cutP u).1 := ⟨_, rfl⟩
  obtain ⟨FR, hFR⟩ : ∃ FR, FR = (cutP u).2.1 := ⟨_, rfl⟩
  obtain ⟨pt, hpt⟩ : ∃ pt, pt = (cutP u).2.2 := ⟨_, rfl⟩
  have SP : Hid (∀ w, Calls Tryz.prog 33 #[.string ⟨u.toArray⟩] w fun e w' => e = .returned (.tuple #[.string ⟨W.toArray⟩, .string ⟨FR.toArray⟩, .bool pt]) ∧ Below w.heap.size w w') := fun w => by rw [hW, hFR, hpt]; exact split_any u w (by omega)
  have hsz : W.length ≤ 9000 ∧ FR.length ≤ 9000 := by
    have : ∀ v : List UInt8, (cutP v).1.length ≤ v.length ∧ (cutP v).2.1.length ≤ v.length := by
      intro v
      induction v with
      | nil => simp [cutP]
      | cons x r ih =>
        unfold cutP
        split
        · simp
        · simp; omega
    have := this u
    rw [← hW, ← hFR] at this
    omega
  have D1 : Hid (∀ w, Calls Tryz.prog 59 #[.string ⟨W.toArray⟩] w fun e w' => dgP W w e w') := fun w => digits_any W w (by omega)
  have D2 : Hid (∀ w, Calls Tryz.prog 59 #[.string ⟨FR.toArray⟩] w fun e w' => dgP FR w e w') := fun w => digits_any FR w (by omega)
  have NE : Hid (∀ (m : Nat) w, m < 18446744073709551616 → Calls Tryz.prog 62 #[.int .u64 (m : Int), .bool neg] w fun e w' => e = .returned (.tuple #[.int .i64 (ovV (if neg = true then -(m : Int) else (m : Int))), .bool (fitB (if neg = true then -(m : Int) else (m : Int)))]) ∧ w' = w) := fun m w h => near_any m neg w h
  have hN : nmS u neg = if (allD W && !W.isEmpty) = false then bad 3 else if pt = false then fin 1 (dval 0 W) neg else if (allD FR && !FR.isEmpty) = false ∨ 4 < FR.length then bad 3 else fin 2 (dval 0 (W ++ FR ++ List.replicate (4 - FR.length) 48)) neg := by
    unfold nmS; rw [← hW, ← hFR, ← hpt]
  have R0 : Hid (Res (w.alloc (.cells #[.int .i64 0, .int .i64 0, .string ⟨#[]⟩] 23)) w.heap.size 0 0 ⟨#[]⟩) := Res.new w 0 0 ⟨#[]⟩
  have B0 : Hid (Below w.heap.size w (w.alloc (.cells #[.int .i64 0, .int .i64 0, .string ⟨#[]⟩] 23))) := (Below.refl _ w).alloc (Nat.le_refl _) _
  obtain ⟨A, hA⟩ : ∃ A, A = nmS u neg := ⟨_, rfl⟩
  rw [← hA]
  rw [hN] at hA
  have HA : Hid (A = _) := hA
  clear hN hW hFR hpt hs hA
  go_enter Tryz.func34, Tryz.ntmps34
  go_wp2_with fail
  refine (SP.out _).mono ?_
  rintro e w1 ⟨rfl, hb⟩
  have R1 := R0.out.below hb
  have B1 := B0.out.trans (hb.mono B0.out.size)
  clear SP R0 B0 hb
  go_wp2_with fail
  refine (D1.out _).mono ?_
  rintro e w2 ⟨m, f, ok, rfl, hb, hok, hdg⟩
  have R2 := R1.below hb
  have B2 := B1.trans (hb.mono B1.size)
  clear D1 R1 B1 hb
  have ha := HA.out
  rw [← hok] at ha
  clear HA hok
  rcases ok with _ | _
  · rw [if_pos rfl] at ha
    subst ha
    clear hdg NE D2
    obtain ⟨_, c0, c1, c2, f0, f1, f2⟩ := id R2
    go_wp2_with fail
    obtain ⟨_, x0, x1, x2, _, _, _⟩ := R2.put 0 0 ⟨#[]⟩
    refine bodyPost_ret (v := av (⟨0, 0, ⟨#[]⟩⟩, 3)) (by simp [results, Tryz.results34, go_sem, av, x0, x1, x2]) rfl ⟨rfl, ?_⟩
    exact ((B2.setCell (p := ⟨w.heap.size, 0, none⟩) (Nat.le_refl _) _).setCell (p := ⟨w.heap.size, 1, none⟩) (Nat.le_refl _) _).setCell (p := ⟨w.heap.size, 2, none⟩) (Nat.le_refl _) _
  · rw [if_neg (by simp)] at ha
    obtain ⟨hm, hf, hmd⟩ := hdg rfl
    clear hdg
    rcases pt with _ | _
    · rw [if_pos rfl] at ha
      have HA : Hid (A = fin 1 (dval 0 W) neg) := ha
      have N1 : Hid (∀ w, Calls Tryz.prog 62 #[.int .u64 (m : Int), .bool neg] w fun e w' => e = .returned (.tuple #[.int .i64 (ovV (if neg = true then -(m : Int) else (m : Int))), .bool (fitB (if neg = true then -(m : Int) else (m : Int)))]) ∧ w' = w) := fun w => NE.out m w hm
      have HF : Hid (f = decide (dval 0 W ≤ 18446744073709551615) ∧ (f = true → m = dval 0 W)) := ⟨hf, hmd⟩
      obtain ⟨V, hV⟩ : ∃ V, V = ovV (if neg = true then -(m : Int) else (m : Int)) := ⟨_, rfl⟩
      obtain ⟨K, hK⟩ : ∃ K, K = fitB (if neg = true then -(m : Int) else (m : Int)) := ⟨_, rfl⟩
      rw [← hV, ← hK] at N1
      have HV : Hid (V = ovV (if neg = true then -(m : Int) else (m : Int)) ∧ K = fitB (if neg = true then -(m : Int) else (m : Int))) := ⟨hV, hK⟩
      clear ha hm hf hmd hV hK NE D2 hsz
      rcases f with _ | _
      · obtain rfl : A = bad 10 := HA.out.trans (fin_over 1 _ neg (Or.inr (by have := HF.out.1; rw [eq_comm, decide_eq_false_iff_not] at this; omega)))
        go_wp2_with fail
        refine (N1.out _).mono ?_
        rintro e w9 ⟨rfl, hw9⟩
        obtain rfl : w2 = w9 := hw9.symm
        clear N1 hw9
        obtain ⟨_, c0, c1, c2, f0, f1, f2⟩ := id R2
        go_wp2_with fail
        obtain ⟨_, x0, x1, x2, _, _, _⟩ := R2.put 0 0 ⟨#[]⟩
        refine bodyPost_ret (v := av (⟨0, 0, ⟨#[]⟩⟩, 10)) (by simp [results, Tryz.results34, go_sem, av, x0, x1, x2]) rfl ⟨rfl, ?_⟩
        exact ((B2.setCell (p := ⟨w.heap.size, 0, none⟩) (Nat.le_refl _) _).setCell (p := ⟨w.heap.size, 1, none⟩) (Nat.le_refl _) _).setCell (p := ⟨w.heap.size, 2, none⟩) (Nat.le_refl _) _
      · rcases K with _ | _
        · obtain rfl : A = bad 10 := HA.out.trans (by rw [← HF.out.2 rfl]; exact fin_over 1 m neg (Or.inl HV.out.2.symm))
          go_wp2_with fail
          refine (N1.out _).mono ?_
          rintro e w9 ⟨rfl, hw9⟩
          obtain rfl : w2 = w9 := hw9.symm
          clear N1 hw9
          obtain ⟨_, c0, c1, c2, f0, f1, f2⟩ := id R2
          go_wp2_with fail
          obtain ⟨_, x0, x1, x2, _, _, _⟩ := R2.put 0 0 ⟨#[]⟩
          refine bodyPost_ret (v := av (⟨0, 0, ⟨#[]⟩⟩, 10)) (by simp [results, Tryz.results34, go_sem, av, x0, x1, x2]) rfl ⟨rfl, ?_⟩
          exact ((B2.setCell (p := ⟨w.heap.size, 0, none⟩) (Nat.le_refl _) _).setCell (p := ⟨w.heap.size, 1, none⟩) (Nat.le_refl _) _).setCell (p := ⟨w.heap.size, 2, none⟩) (Nat.le_refl _) _
        · obtain rfl : A = (⟨1, V, ⟨#[]⟩⟩, 0) := HA.out.trans (by rw [← HF.out.2 rfl, HV.out.1]; exact fin_ok 1 m neg HV.out.2.symm)
          go_wp2_with fail
          refine (N1.out _).mono ?_
          rintro e w9 ⟨rfl, hw9⟩
          obtain rfl : w2 = w9 := hw9.symm
          clear N1 hw9
          obtain ⟨_, c0, c1, c2, f0, f1, f2⟩ := id R2
          go_wp2_with fail
          obtain ⟨_, x0, x1, x2, _, _, _⟩ := R2.put 1 V ⟨#[]⟩
          refine bodyPost_ret (v := av (⟨1, V, ⟨#[]⟩⟩, 0)) (by simp [results, Tryz.results34, go_sem, av, x0, x1, x2]) rfl ⟨rfl, ?_⟩
          exact ((B2.setCell (p := ⟨w.heap.size, 0, none⟩) (Nat.le_refl _) _).setCell (p := ⟨w.heap.size, 1, none⟩) (Nat.le_refl _) _).setCell (p := ⟨w.heap.size, 2, none⟩) (Nat.le_refl _) _
    · rw [if_neg (by simp)] at ha
      have HF : Hid (f = decide (dval 0 W ≤ 18446744073709551615) ∧ (f = true → m = dval 0 W)) := ⟨hf, hmd⟩
      have HA : Hid (A = _) := ha
      clear ha hf hmd
      go_wp2_with fail
      refine (D2.out _).mono ?_
      rintro e w3 ⟨m2, f2, ok2, rfl, hb, hok, _⟩
      have R3 := R2.below hb
      have B3 := B2.trans (hb.mono B2.size)
      clear D2 R2 B2 hb
      have ha := HA.out
      rw [← hok] at ha
      clear HA
      rcases ok2 with _ | _
      · rw [if_pos (Or.inl rfl)] at ha
        subst ha
        clear NE hok
        obtain ⟨_, c0, c1, c2, f0, f1, f2⟩ := id R3
        go_wp2_with fail
        obtain ⟨_, x0, x1, x2, _, _, _⟩ := R3.put 0 0 ⟨#[]⟩
        refine bodyPost_ret (v := av (⟨0, 0, ⟨#[]⟩⟩, 3)) (by simp [results, Tryz.results34, go_sem, av, x0, x1, x2]) rfl ⟨rfl, ?_⟩
        exact ((B3.setCell (p := ⟨w.heap.size, 0, none⟩) (Nat.le_refl _) _).setCell (p := ⟨w.heap.size, 1, none⟩) (Nat.le_refl _) _).setCell (p := ⟨w.heap.size, 2, none⟩) (Nat.le_refl _) _
      · by_cases h4 : 4 < FR.length
        · rw [if_pos (Or.inr h4)] at ha
          subst ha
          have h4i : (4 : Int) < (FR.length : Int) := by omega
          have hz4 : (ByteArray.mk FR.toArray).size = FR.length := size_mk FR
          clear NE hok h4
          obtain ⟨_, c0, c1, c2, f0, f1, f2⟩ := id R3
          go_wp2_with fail
          obtain ⟨_, x0, x1, x2, _, _, _⟩ := R3.put 0 0 ⟨#[]⟩
          refine bodyPost_ret (v := av (⟨0, 0, ⟨#[]⟩⟩, 3)) (by simp [results, Tryz.results34, go_sem, av, x0, x1, x2]) rfl ⟨rfl, ?_⟩
          exact ((B3.setCell (p := ⟨w.heap.size, 0, none⟩) (Nat.le_refl _) _).setCell (p := ⟨w.heap.size, 1, none⟩) (Nat.le_refl _) _).setCell (p := ⟨w.heap.size, 2, none⟩) (Nat.le_refl _) _
        · rw [if_neg (by simp [h4])] at ha
          have HA : Hid (A = fin 2 (dval 0 (W ++ FR ++ List.replicate (4 - FR.length) 48)) neg) := ha
          have HO : Hid (allD FR = true) := by
            show _ = _
            have := hok.symm
            simp only [Bool.and_eq_true] at this
            exact this.1
          have h4i : ¬ (4 : Int) < (FR.length : Int) := by omega
          have hz4 : (ByteArray.mk FR.toArray).size = FR.length := size_mk FR
          clear ha hok
          go_wp2_with fail
          go_loopw [7] (fun s7 wr => ∃ j : Nat, s7 = .string ⟨(FR ++ List.replicate j 48).toArray⟩ ∧ FR.length + j ≤ 4 ∧ Hid (wr = w3)) (fun s7 _ => 4 - (match s7 with | .string b => b.size | _ => 0))
          case atStart => exact ⟨0, by simp, by omega, rfl⟩
          case round =>
            obtain ⟨j, rfl, hj, hw⟩ := hrel
            obtain rfl : w3 = wr := hw.out.symm
            have hzj : (ByteArray.mk (FR ++ List.replicate j 48).toArray).size = FR.length + j := by rw [size_mk, List.length_append, List.length_replicate]
            by_cases hl4 : FR.length + j < 4
            · have hl4i : ((FR.length + j : Nat) : Int) < 4 := by omega
              have hl4j : (FR.length : Int) + (j : Int) < 4 := by omega
              have hadd : (ByteArray.mk (FR ++ List.replicate j 48).toArray) ++ (ByteArray.mk #[48]) = ByteArray.mk (FR ++ List.replicate (j + 1) 48).toArray := by
                have := add_mk (FR ++ List.replicate j 48) [48]
                rw [List.append_assoc, ← List.replicate_succ'] at this
                exact this
              have hz1 : (ByteArray.mk #[48]).size = 1 := rfl
              generalize hG1 : (ByteArray.mk (FR ++ List.replicate j 48).toArray) = S1 at *
              generalize hG2 : (ByteArray.mk (FR ++ List.replicate (j + 1) 48).toArray) = S2 at *
              have hz2 : S2.size = FR.length + (j + 1) := by rw [← hG2, size_mk, List.length_append, List.length_replicate]
              go_wp2_with fail
              go_roundw
              case rel => exact ⟨j + 1, by rw [← hG2], by omega, by first | exact rfl | exact True.intro⟩
              case measure => simp [hzj, hz2]; omega
            · have hl4i : ¬ ((FR.length + j : Nat) : Int) < 4 := by omega
              have hl4j : ¬ (FR.length : Int) + (j : Int) < 4 := by omega
              obtain rfl : 4 - FR.length = j := by omega
              obtain ⟨P4, hP4⟩ : ∃ P4, P4 = FR ++ List.replicate (4 - FR.length) 48 := ⟨_, rfl⟩
              have hP4l : P4.length = 4 := by rw [hP4, List.length_append, List.length_replicate]; omega
              have hPa : allD P4 = true := by
                rw [hP4]
                have := HO.out
                unfold allD at this ⊢
                rw [List.all_append, this, List.all_replicate]
                split <;> rfl
              have hP9 : dval 0 P4 ≤ 9999 := by
                match P4, hP4l, hPa with
                | [x, y, z, t], _, h =>
                  simp only [allD, List.all_cons, List.all_nil, Bool.and_true, Bool.and_eq_true, isD, decide_eq_true_eq] at h
                  have e : dval 0 [x, y, z, t] = (((0 * 10 + (x.toNat - 48)) * 10 + (y.toNat - 48)) * 10 + (z.toNat - 48)) * 10 + (t.toNat - 48) := rfl
                  rw [e]; omega
              have D3 : Hid (∀ w, Calls Tryz.prog 59 #[.string ⟨P4.toArray⟩] w fun e w' => ∃ b, e = .returned (.tuple #[.int .u64 ((dval 0 P4 : Nat) : Int), .bool true, .bool b]) ∧ Below w.heap.size w w') := fun w => by
                refine (digits_any P4 w (by omega)).mono ?_
                rintro e w' ⟨m4, f4, ok4, rfl, hb4, hok4, hd4⟩
                have hk4 : ok4 = true := by
                  rw [hok4, hPa]
                  rcases P4 with _ | ⟨a, b⟩
                  · simp at hP4l
                  · rfl
                obtain ⟨_, q2, q3⟩ := hd4 hk4
                rw [decide_eq_true (by omega)] at q2
                subst q2
                exact ⟨ok4, by rw [q3 rfl], hb4⟩
              rw [← hP4]
              have hval : dval 0 (W ++ FR ++ List.replicate (4 - FR.length) 48) = dval 0 W * 10000 + dval 0 P4 := by
                rw [List.append_assoc, ← hP4, dval_app, dval_four hP4l]
              have HA2 := HA.out
              rw [hval] at HA2
              have HF2 := HF.out
              generalize dval 0 P4 = d4 at *
              generalize dval 0 W = dW at *
              have TI : Hid (∀ w, Calls Tryz.prog 60 #[.int .u64 (m : Nat), .int .u64 10000] w fun e w' => e = .returned (.tuple #[.int .u64 ((m * 10000 % 18446744073709551616 : Nat) : Int), .bool (decide (m * 10000 < 18446744073709551616))]) ∧ Below w.heap.size w w') := fun w => times_any m 10000 w hm (by decide)
              have PL : Hid (∀ w, Calls Tryz.prog 61 #[.int .u64 ((m * 10000 % 18446744073709551616 : Nat) : Int), .int .u64 (d4 : Int), .bool (decide (m * 10000 < 18446744073709551616))] w fun e w' => e = .returned (.tuple #[.int .u64 (((m * 10000 % 18446744073709551616 + d4) % 18446744073709551616 : Nat) : Int), .bool (decide (m * 10000 < 18446744073709551616) && decide (m * 10000 % 18446744073709551616 + d4 < 18446744073709551616))]) ∧ w' = w) := fun w => plus_any _ _ _ w (Nat.mod_lt _ (by decide)) (by omega)
              obtain ⟨M, hM⟩ : ∃ M, M = (m * 10000 % 18446744073709551616 + d4) % 18446744073709551616 := ⟨_, rfl⟩
              obtain ⟨O, hO⟩ : ∃ O, O = (decide (m * 10000 < 18446744073709551616) && decide (m * 10000 % 18446744073709551616 + d4 < 18446744073709551616)) := ⟨_, rfl⟩
              have hMl : M < 18446744073709551616 := by rw [hM]; exact Nat.mod_lt _ (by decide)
              have key : ((f && O) = true → M = dW * 10000 + d4) ∧ ((f && O) = false → 18446744073709551615 < dW * 10000 + d4) := by
                obtain ⟨g1, g2⟩ := HF2
                cases f
                · refine ⟨(fun h => by cases h), fun _ => ?_⟩
                  have : ¬ dW ≤ 18446744073709551615 := fun h => by rw [decide_eq_true h] at g1; cases g1
                  omega
                · have := g2 rfl
                  subst this
                  rw [hO, hM, Bool.true_and]
                  by_cases a : m * 10000 < 18446744073709551616
                  · rw [decide_eq_true a, Nat.mod_eq_of_lt a, Bool.true_and]
                    refine ⟨fun h => ?_, fun h => ?_⟩
                    · rw [decide_eq_true_eq] at h; exact Nat.mod_eq_of_lt h
                    · rw [decide_eq_false_iff_not] at h; omega
                  · rw [decide_eq_false a, Bool.false_and]
                    exact ⟨(fun h => by cases h), fun _ => by omega⟩
              rw [← hM, ← hO] at PL
              have N1 : Hid (∀ w, Calls Tryz.prog 62 #[.int .u64 (M : Int), .bool neg] w fun e w' => e = .returned (.tuple #[.int .i64 (ovV (if neg = true then -(M : Int) else (M : Int))), .bool (fitB (if neg = true then -(M : Int) else (M : Int)))]) ∧ w' = w) := fun w => NE.out M w hMl
              obtain ⟨V, hV⟩ : ∃ V, V = ovV (if neg = true then -(M : Int) else (M : Int)) := ⟨_, rfl⟩
              obtain ⟨K, hK⟩ : ∃ K, K = fitB (if neg = true then -(M : Int) else (M : Int)) := ⟨_, rfl⟩
              rw [← hV, ← hK] at N1
              have HV : Hid (V = ovV (if neg = true then -(M : Int) else (M : Int)) ∧ K = fitB (if neg = true then -(M : Int) else (M : Int))) := ⟨hV, hK⟩
              have HKEY : Hid (((f && O) = true → M = dW * 10000 + d4) ∧ ((f && O) = false → 18446744073709551615 < dW * 10000 + d4)) := key
              have HA3 : Hid (A = fin 2 (dW * 10000 + d4) neg) := HA2
              generalize decide (m * 10000 < 18446744073709551616) = O1 at *
              generalize m * 10000 % 18446744073709551616 = M1 at *
              have hz5 : (ByteArray.mk P4.toArray).size = 4 := by rw [size_mk, hP4l]
              clear NE HA HA2 HF HF2 key hV hK hM hO hMl hP4 hP4l hPa hP9 hval HO hzj hj hm hsz
              go_wp2_with fail
              refine (D3.out _).mono ?_
              rintro e w4 ⟨b4, rfl, hb⟩
              have R4 := R3.below hb
              have B4 := B3.trans (hb.mono B3.size)
              clear D3 R3 B3 hb
              go_wp2_with fail
              refine (TI.out _).mono ?_
              rintro e w5 ⟨rfl, hb⟩
              have R5 := R4.below hb
              have B5 := B4.trans (hb.mono B4.size)
              clear TI R4 B4 hb
              go_wp2_with fail
              refine (PL.out _).mono ?_
              rintro e w6 ⟨rfl, hw6⟩
              obtain rfl : w5 = w6 := hw6.symm
              clear PL hw6
              rcases f with _ | _
              · obtain rfl : A = bad 10 := HA3.out.trans (fin_over 2 _ neg (Or.inr (HKEY.out.2 rfl)))
                go_wp2_with fail
                refine (N1.out _).mono ?_
                rintro e w9 ⟨rfl, hw9⟩
                obtain rfl : w5 = w9 := hw9.symm
                clear N1 hw9
                obtain ⟨_, c0, c1, c2, f0, f1, f2⟩ := id R5
                go_wp2_with fail
                obtain ⟨_, x0, x1, x2, _, _, _⟩ := R5.put 0 0 ⟨#[]⟩
                refine bodyPost_ret (v := av (⟨0, 0, ⟨#[]⟩⟩, 10)) (by simp [results, Tryz.results34, go_sem, av, x0, x1, x2]) rfl ⟨rfl, ?_⟩
                exact ((B5.setCell (p := ⟨w.heap.size, 0, none⟩) (Nat.le_refl _) _).setCell (p := ⟨w.heap.size, 1, none⟩) (Nat.le_refl _) _).setCell (p := ⟨w.heap.size, 2, none⟩) (Nat.le_refl _) _
              · rcases O with _ | _
                · obtain rfl : A = bad 10 := HA3.out.trans (fin_over 2 _ neg (Or.inr (HKEY.out.2 rfl)))
                  go_wp2_with fail
                  refine (N1.out _).mono ?_
                  rintro e w9 ⟨rfl, hw9⟩
                  obtain rfl : w5 = w9 := hw9.symm
                  clear N1 hw9
                  obtain ⟨_, c0, c1, c2, f0, f1, f2⟩ := id R5
                  go_wp2_with fail
                  obtain ⟨_, x0, x1, x2, _, _, _⟩ := R5.put 0 0 ⟨#[]⟩
                  refine bodyPost_ret (v := av (⟨0, 0, ⟨#[]⟩⟩, 10)) (by simp [results, Tryz.results34, go_sem, av, x0, x1, x2]) rfl ⟨rfl, ?_⟩
                  exact ((B5.setCell (p := ⟨w.heap.size, 0, none⟩) (Nat.le_refl _) _).setCell (p := ⟨w.heap.size, 1, none⟩) (Nat.le_refl _) _).setCell (p := ⟨w.heap.size, 2, none⟩) (Nat.le_refl _) _
                · rcases K with _ | _
                  · obtain rfl : A = bad 10 := HA3.out.trans (by rw [← HKEY.out.1 rfl]; exact fin_over 2 M neg (Or.inl HV.out.2.symm))
                    go_wp2_with fail
                    refine (N1.out _).mono ?_
                    rintro e w9 ⟨rfl, hw9⟩
                    obtain rfl : w5 = w9 := hw9.symm
                    clear N1 hw9
                    obtain ⟨_, c0, c1, c2, f0, f1, f2⟩ := id R5
                    go_wp2_with fail
                    obtain ⟨_, x0, x1, x2, _, _, _⟩ := R5.put 0 0 ⟨#[]⟩
                    refine bodyPost_ret (v := av (⟨0, 0, ⟨#[]⟩⟩, 10)) (by simp [results, Tryz.results34, go_sem, av, x0, x1, x2]) rfl ⟨rfl, ?_⟩
                    exact ((B5.setCell (p := ⟨w.heap.size, 0, none⟩) (Nat.le_refl _) _).setCell (p := ⟨w.heap.size, 1, none⟩) (Nat.le_refl _) _).setCell (p := ⟨w.heap.size, 2, none⟩) (Nat.le_refl _) _
                  · obtain rfl : A = (⟨2, V, ⟨#[]⟩⟩, 0) := HA3.out.trans (by rw [← HKEY.out.1 rfl, HV.out.1]; exact fin_ok 2 M neg HV.out.2.symm)
                    go_wp2_with fail
                    refine (N1.out _).mono ?_
                    rintro e w9 ⟨rfl, hw9⟩
                    obtain rfl : w5 = w9 := hw9.symm
                    clear N1 hw9
                    obtain ⟨_, c0, c1, c2, f0, f1, f2⟩ := id R5
                    go_wp2_with fail
                    obtain ⟨_, x0, x1, x2, _, _, _⟩ := R5.put 2 V ⟨#[]⟩
                    refine bodyPost_ret (v := av (⟨2, V, ⟨#[]⟩⟩, 0)) (by simp [results, Tryz.results34, go_sem, av, x0, x1, x2]) rfl ⟨rfl, ?_⟩
                    exact ((B5.setCell (p := ⟨w.heap.size, 0, none⟩) (Nat.le_refl _) _).setCell (p := ⟨w.heap.size, 1, none⟩) (Nat.le_refl _) _).setCell (p := ⟨w.heap.size, 2, none⟩) (Nat.le_refl _) _
end Go.Proofs.YtoboebibmelgkaaGreatDoor
