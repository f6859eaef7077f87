/-
  The walks of readSign, readWord, readParam, readAny, readLine, readRemark.
-/
import Derived.Test.YtfcolecglobcdaaGreatDoorLxD
namespace Go.Proofs.YtfcolecglobcdaaGreatDoor
open Go.RowKit Go.Shelf

set_option maxHeartbeats 1000000 in
set_option maxRecDepth 1000000 in
theorem readSign_of (l : List UInt8) (w : World) (hS : ∀ w : World, Sg w → Calls Tryz.prog 54 #[.string ⟨l.toArray⟩] w fun e w' => e = .returned (.int .i64 (ssz l : Nat)) ∧ Below w.heap.size w w') (hG : Sg w) :
    Calls Tryz.prog 86 #[.string ⟨l.toArray⟩] w fun e w' => e = .returned (pcv (rdS l)) ∧ Below w.heap.size w w' := by
  have SS : Hid (∀ w, Sg w → Calls Tryz.prog 54 #[.string ⟨l.toArray⟩] w fun e w' => e = .returned (.int .i64 (ssz l : Nat)) ∧ Below w.heap.size w w') := hS
  have HG : Hid (Sg w) := hG
  have hle := ssz_le l
  have hzl : (ByteArray.mk l.toArray).size = l.length := size_mk l
  clear hS hG
  have P0 : Hid (R11 (w.alloc (.cells #[.int .i64 0, .int .i64 0, .string ⟨#[]⟩, .int .i64 0, .int .i64 0, .string ⟨#[]⟩, .int .i64 0, .int .i64 0, .int .i64 0, .int .i64 0, .int .i64 0] 82)) w.heap.size (.int .i64 0) (.int .i64 0) (.string ⟨#[]⟩) (.int .i64 0) (.int .i64 0) (.string ⟨#[]⟩) (.int .i64 0) (.int .i64 0) (.int .i64 0) (.int .i64 0) (.int .i64 0)) := R11.new w 82 (.int .i64 0) (.int .i64 0) (.string ⟨#[]⟩) (.int .i64 0) (.int .i64 0) (.string ⟨#[]⟩) (.int .i64 0) (.int .i64 0) (.int .i64 0) (.int .i64 0) (.int .i64 0)
  have B0 : Hid (Below w.heap.size w (w.alloc (.cells #[.int .i64 0, .int .i64 0, .string ⟨#[]⟩, .int .i64 0, .int .i64 0, .string ⟨#[]⟩, .int .i64 0, .int .i64 0, .int .i64 0, .int .i64 0, .int .i64 0] 82))) := (Below.refl _ w).alloc (Nat.le_refl _) _
  unfold rdS
  by_cases h : ssz l = 0
  · rw [if_pos h]
    have hb : (((ssz l : Nat) : Int) == 0) = true := by rw [h]; rfl
    generalize ssz l = n at *
    clear h hle
    go_enter Tryz.func86, Tryz.ntmps86
    go_wp2_with fail
    refine (SS.out _ (HG.out.below B0.out)).mono ?_
    rintro e w1 ⟨rfl, hb1⟩
    have P1 := P0.out.below hb1
    have B1 := B0.out.trans (hb1.mono B0.out.size)
    clear SS hb1
    obtain ⟨_, c0, c1, c2, c3, c4, c5, c6, c7, c8, c9, c10, f0, f1, f2, f3, f4, f5, f6, f7, f8, f9, f10⟩ := id P1
    go_wp2_with fail
    obtain ⟨_, x0, x1, x2, x3, x4, x5, x6, x7, x8, x9, x10, _, _, _, _, _, _, _, _, _, _, _⟩ := P1.put (.int .i64 0) (.int .i64 0) (.string ⟨#[]⟩) (.int .i64 0) (.int .i64 0) (.string ⟨#[]⟩) (.int .i64 0) (.int .i64 0) (.int .i64 0) (.int .i64 30) (.int .i64 0)
    unfold R11.set at x0 x1 x2 x3 x4 x5 x6 x7 x8 x9 x10
    refine bodyPost_ret (v := pcv (pcE 30)) (by simp [results, Tryz.results86, go_sem, pcv, pcE, v0, x0, x1, x2, x3, x4, x5, x6, x7, x8, x9, x10]) rfl ⟨rfl, ?_⟩
    exact R11.set_below B1 (Nat.le_refl _) _ _ _ _ _ _ _ _ _ _ _
  · rw [if_neg h]
    have hb : (((ssz l : Nat) : Int) == 0) = false := by rw [beq_eq_false_iff_ne]; omega
    have hex : (ByteArray.mk l.toArray).extract 0 (ssz l) = ByteArray.mk (l.take (ssz l)).toArray := by rw [extract_mk, List.drop_zero]
    generalize ssz l = n at *
    have hle2 : (n : Int) ≤ (l.length : Int) := by omega
    clear h
    go_enter Tryz.func86, Tryz.ntmps86
    go_wp2_with fail
    refine (SS.out _ (HG.out.below B0.out)).mono ?_
    rintro e w1 ⟨rfl, hb1⟩
    have P1 := P0.out.below hb1
    have B1 := B0.out.trans (hb1.mono B0.out.size)
    clear SS hb1
    obtain ⟨_, c0, c1, c2, c3, c4, c5, c6, c7, c8, c9, c10, f0, f1, f2, f3, f4, f5, f6, f7, f8, f9, f10⟩ := id P1
    go_wp2_with fail
    obtain ⟨_, x0, x1, x2, x3, x4, x5, x6, x7, x8, x9, x10, _, _, _, _, _, _, _, _, _, _, _⟩ := P1.put (.int .i64 n) (.int .i64 5) (.string ⟨(l.take n).toArray⟩) (.int .i64 0) (.int .i64 0) (.string ⟨#[]⟩) (.int .i64 0) (.int .i64 0) (.int .i64 0) (.int .i64 0) (.int .i64 0)
    unfold R11.set at x0 x1 x2 x3 x4 x5 x6 x7 x8 x9 x10
    refine bodyPost_ret (v := pcv (pcT n 5 (l.take n))) (by simp [results, Tryz.results86, go_sem, pcv, pcT, v0, x0, x1, x2, x3, x4, x5, x6, x7, x8, x9, x10]) rfl ⟨rfl, ?_⟩
    exact R11.set_below B1 (Nat.le_refl _) _ _ _ _ _ _ _ _ _ _ _
theorem wtl_ascii : ∀ (r : List UInt8) (b : UInt8), b ∈ r.take (wtl r) → b.toNat < 128
  | [], b, h => by simp at h
  | x :: r, b, h => by
    rw [wtl] at h
    split at h
    · rename_i hx
      rw [List.take_succ_cons, List.mem_cons] at h
      rcases h with rfl | h
      · simp only [isL, isD, Bool.or_eq_true, decide_eq_true_eq] at hx; omega
      · exact wtl_ascii r b h
    · simp at h
theorem wsz_ascii : ∀ (r : List UInt8) (b : UInt8), b ∈ r.take (wsz r) → b.toNat < 128
  | [], b, h => by simp at h
  | x :: r, b, h => by
    rw [wsz] at h
    split at h
    · rename_i hx
      rw [List.take_succ_cons, List.mem_cons] at h
      rcases h with rfl | h
      · simp only [isL, decide_eq_true_eq] at hx; omega
      · exact wtl_ascii r b h
    · simp at h
set_option maxHeartbeats 1000000 in
set_option maxRecDepth 1000000 in
theorem readWord_any (l : List UInt8) (w : World) (hs : l.length ≤ 100000) :
    Calls Tryz.prog 81 #[.string ⟨l.toArray⟩] w fun e w' => e = .returned (pcv (rdW l)) ∧ Below w.heap.size w w' := by
  have WS : Hid (∀ w, Calls Tryz.prog 28 #[.string ⟨l.toArray⟩] w fun e w' => e = .returned (.int .i64 (wsz l : Nat)) ∧ Below w.heap.size w w') := fun w => wordSize_any l w hs
  have TL : Hid (∀ w, Calls Tryz.prog 29 #[.string ⟨(l.take (wsz l)).toArray⟩] w fun e w' => e = .returned (.string ⟨(Lib.toLowerA (l.take (wsz l))).toArray⟩) ∧ Below w.heap.size w w') := fun w => ToLower_any _ w (by rw [List.length_take]; omega) (wsz_ascii l)
  have hle := wsz_le l
  have hzl : (ByteArray.mk l.toArray).size = l.length := size_mk l
  have P0 : Hid (R11 (w.alloc (.cells #[.int .i64 0, .int .i64 0, .string ⟨#[]⟩, .int .i64 0, .int .i64 0, .string ⟨#[]⟩, .int .i64 0, .int .i64 0, .int .i64 0, .int .i64 0, .int .i64 0] 82)) w.heap.size (.int .i64 0) (.int .i64 0) (.string ⟨#[]⟩) (.int .i64 0) (.int .i64 0) (.string ⟨#[]⟩) (.int .i64 0) (.int .i64 0) (.int .i64 0) (.int .i64 0) (.int .i64 0)) := R11.new w 82 (.int .i64 0) (.int .i64 0) (.string ⟨#[]⟩) (.int .i64 0) (.int .i64 0) (.string ⟨#[]⟩) (.int .i64 0) (.int .i64 0) (.int .i64 0) (.int .i64 0) (.int .i64 0)
  have B0 : Hid (Below w.heap.size w (w.alloc (.cells #[.int .i64 0, .int .i64 0, .string ⟨#[]⟩, .int .i64 0, .int .i64 0, .string ⟨#[]⟩, .int .i64 0, .int .i64 0, .int .i64 0, .int .i64 0, .int .i64 0] 82))) := (Below.refl _ w).alloc (Nat.le_refl _) _
  unfold rdW
  have hex : (ByteArray.mk l.toArray).extract 0 (wsz l) = ByteArray.mk (l.take (wsz l)).toArray := by rw [extract_mk, List.drop_zero]
  by_cases h : 32 < wsz l
  · rw [if_pos h]
    generalize wsz l = n at *
    have hgt : (32 : Int) < (n : Int) := by omega
    clear TL hex h hle hs
    go_enter Tryz.func81, Tryz.ntmps81
    go_wp2_with fail
    refine (WS.out _).mono ?_
    rintro e w1 ⟨rfl, hb1⟩
    have P1 := P0.out.below hb1
    have B1 := B0.out.trans (hb1.mono B0.out.size)
    clear WS hb1
    obtain ⟨_, c0, c1, c2, c3, c4, c5, c6, c7, c8, c9, c10, f0, f1, f2, f3, f4, f5, f6, f7, f8, f9, f10⟩ := id P1
    go_wp2_with fail
    obtain ⟨_, x0, x1, x2, x3, x4, x5, x6, x7, x8, x9, x10, _, _, _, _, _, _, _, _, _, _, _⟩ := P1.put (.int .i64 0) (.int .i64 0) (.string ⟨#[]⟩) (.int .i64 0) (.int .i64 0) (.string ⟨#[]⟩) (.int .i64 0) (.int .i64 0) (.int .i64 0) (.int .i64 6) (.int .i64 0)
    unfold R11.set at x0 x1 x2 x3 x4 x5 x6 x7 x8 x9 x10
    refine bodyPost_ret (v := pcv (pcE 6)) (by simp [results, Tryz.results81, go_sem, pcv, pcE, v0, x0, x1, x2, x3, x4, x5, x6, x7, x8, x9, x10]) rfl ⟨rfl, ?_⟩
    exact R11.set_below B1 (Nat.le_refl _) _ _ _ _ _ _ _ _ _ _ _
  · rw [if_neg h]
    generalize wsz l = n at *
    have hgt : ¬ (32 : Int) < (n : Int) := by omega
    have hle2 : (n : Int) ≤ (l.length : Int) := by omega
    generalize Lib.toLowerA (l.take n) = T at *
    clear h hs
    go_enter Tryz.func81, Tryz.ntmps81
    go_wp2_with fail
    refine (WS.out _).mono ?_
    rintro e w1 ⟨rfl, hb1⟩
    have P1 := P0.out.below hb1
    have B1 := B0.out.trans (hb1.mono B0.out.size)
    clear WS hb1
    go_wp2_with fail
    refine (TL.out _).mono ?_
    rintro e w2 ⟨rfl, hb2⟩
    have P2 := P1.below hb2
    have B2 := B1.trans (hb2.mono B1.size)
    clear TL hb2
    obtain ⟨_, c0, c1, c2, c3, c4, c5, c6, c7, c8, c9, c10, f0, f1, f2, f3, f4, f5, f6, f7, f8, f9, f10⟩ := id P2
    go_wp2_with fail
    obtain ⟨_, x0, x1, x2, x3, x4, x5, x6, x7, x8, x9, x10, _, _, _, _, _, _, _, _, _, _, _⟩ := P2.put (.int .i64 n) (.int .i64 1) (.string ⟨T.toArray⟩) (.int .i64 0) (.int .i64 0) (.string ⟨#[]⟩) (.int .i64 0) (.int .i64 0) (.int .i64 0) (.int .i64 0) (.int .i64 0)
    unfold R11.set at x0 x1 x2 x3 x4 x5 x6 x7 x8 x9 x10
    refine bodyPost_ret (v := pcv (pcT n 1 T)) (by simp [results, Tryz.results81, go_sem, pcv, pcT, v0, x0, x1, x2, x3, x4, x5, x6, x7, x8, x9, x10]) rfl ⟨rfl, ?_⟩
    exact R11.set_below B2 (Nat.le_refl _) _ _ _ _ _ _ _ _ _ _ _
set_option maxHeartbeats 1000000 in
set_option maxRecDepth 1000000 in
theorem readParam_any (l : List UInt8) (w : World) (hs : l.length ≤ 100000) (h1 : 1 ≤ l.length) :
    Calls Tryz.prog 85 #[.string ⟨l.toArray⟩] w fun e w' => e = .returned (pcv (rdM l)) ∧ Below w.heap.size w w' := by
  obtain ⟨D, hD⟩ : ∃ D, D = l.drop 1 := ⟨_, rfl⟩
  have hDl : D.length = l.length - 1 := by rw [hD, List.length_drop]
  have hex0 : (ByteArray.mk l.toArray).extract 1 l.length = ByteArray.mk D.toArray := by rw [extract_mk, List.take_length, hD]
  have hex : ∀ n : Nat, (ByteArray.mk l.toArray).extract 1 (1 + n) = ByteArray.mk (D.take n).toArray := fun n => by rw [extract_mk, List.drop_take, hD]; congr 3; omega
  unfold rdM
  rw [← hD]
  clear hD
  have WS : Hid (∀ w, Calls Tryz.prog 28 #[.string ⟨D.toArray⟩] w fun e w' => e = .returned (.int .i64 (wsz D : Nat)) ∧ Below w.heap.size w w') := fun w => wordSize_any _ w (by omega)
  have TL : Hid (∀ w, Calls Tryz.prog 29 #[.string ⟨(D.take (wsz D)).toArray⟩] w fun e w' => e = .returned (.string ⟨(Lib.toLowerA (D.take (wsz D))).toArray⟩) ∧ Below w.heap.size w w') := fun w => ToLower_any _ w (by rw [List.length_take]; omega) (wsz_ascii _)
  have hle := wsz_le D
  rw [hDl] at hle
  have hzl : (ByteArray.mk l.toArray).size = l.length := size_mk l
  have P0 : Hid (R11 (w.alloc (.cells #[.int .i64 0, .int .i64 0, .string ⟨#[]⟩, .int .i64 0, .int .i64 0, .string ⟨#[]⟩, .int .i64 0, .int .i64 0, .int .i64 0, .int .i64 0, .int .i64 0] 82)) w.heap.size (.int .i64 0) (.int .i64 0) (.string ⟨#[]⟩) (.int .i64 0) (.int .i64 0) (.string ⟨#[]⟩) (.int .i64 0) (.int .i64 0) (.int .i64 0) (.int .i64 0) (.int .i64 0)) := R11.new w 82 (.int .i64 0) (.int .i64 0) (.string ⟨#[]⟩) (.int .i64 0) (.int .i64 0) (.string ⟨#[]⟩) (.int .i64 0) (.int .i64 0) (.int .i64 0) (.int .i64 0) (.int .i64 0)
  have B0 : Hid (Below w.heap.size w (w.alloc (.cells #[.int .i64 0, .int .i64 0, .string ⟨#[]⟩, .int .i64 0, .int .i64 0, .string ⟨#[]⟩, .int .i64 0, .int .i64 0, .int .i64 0, .int .i64 0, .int .i64 0] 82))) := (Below.refl _ w).alloc (Nat.le_refl _) _
  generalize wsz D = n at *
  have h1i : (1 : Int) ≤ (l.length : Int) := by omega
  by_cases h0 : n = 0
  · rw [if_pos (Or.inl h0)]
    have hb0 : ((n : Int) == 0) = true := by rw [beq_iff_eq]; omega
    clear TL hex h0 hle hs hDl
    go_enter Tryz.func85, Tryz.ntmps85
    go_wp2_with fail
    refine (WS.out _).mono ?_
    rintro e w1 ⟨rfl, hb1⟩
    have P1 := P0.out.below hb1
    have B1 := B0.out.trans (hb1.mono B0.out.size)
    clear WS hb1
    obtain ⟨_, c0, c1, c2, c3, c4, c5, c6, c7, c8, c9, c10, f0, f1, f2, f3, f4, f5, f6, f7, f8, f9, f10⟩ := id P1
    go_wp2_with fail
    obtain ⟨_, x0, x1, x2, x3, x4, x5, x6, x7, x8, x9, x10, _, _, _, _, _, _, _, _, _, _, _⟩ := P1.put (.int .i64 0) (.int .i64 0) (.string ⟨#[]⟩) (.int .i64 0) (.int .i64 0) (.string ⟨#[]⟩) (.int .i64 0) (.int .i64 0) (.int .i64 0) (.int .i64 6) (.int .i64 0)
    unfold R11.set at x0 x1 x2 x3 x4 x5 x6 x7 x8 x9 x10
    refine bodyPost_ret (v := pcv (pcE 6)) (by simp [results, Tryz.results85, go_sem, pcv, pcE, v0, x0, x1, x2, x3, x4, x5, x6, x7, x8, x9, x10]) rfl ⟨rfl, ?_⟩
    exact R11.set_below B1 (Nat.le_refl _) _ _ _ _ _ _ _ _ _ _ _
  have hb0 : ((n : Int) == 0) = false := by rw [beq_eq_false_iff_ne]; omega
  by_cases h : 32 < n
  · rw [if_pos (Or.inr h)]
    have hgt : (32 : Int) < (n : Int) := by omega
    clear TL hex h hle hs h0 hDl
    go_enter Tryz.func85, Tryz.ntmps85
    go_wp2_with fail
    refine (WS.out _).mono ?_
    rintro e w1 ⟨rfl, hb1⟩
    have P1 := P0.out.below hb1
    have B1 := B0.out.trans (hb1.mono B0.out.size)
    clear WS hb1
    obtain ⟨_, c0, c1, c2, c3, c4, c5, c6, c7, c8, c9, c10, f0, f1, f2, f3, f4, f5, f6, f7, f8, f9, f10⟩ := id P1
    go_wp2_with fail
    obtain ⟨_, x0, x1, x2, x3, x4, x5, x6, x7, x8, x9, x10, _, _, _, _, _, _, _, _, _, _, _⟩ := P1.put (.int .i64 0) (.int .i64 0) (.string ⟨#[]⟩) (.int .i64 0) (.int .i64 0) (.string ⟨#[]⟩) (.int .i64 0) (.int .i64 0) (.int .i64 0) (.int .i64 6) (.int .i64 0)
    unfold R11.set at x0 x1 x2 x3 x4 x5 x6 x7 x8 x9 x10
    refine bodyPost_ret (v := pcv (pcE 6)) (by simp [results, Tryz.results85, go_sem, pcv, pcE, v0, x0, x1, x2, x3, x4, x5, x6, x7, x8, x9, x10]) rfl ⟨rfl, ?_⟩
    exact R11.set_below B1 (Nat.le_refl _) _ _ _ _ _ _ _ _ _ _ _
  · rw [if_neg (by omega)]
    have hgt : ¬ (32 : Int) < (n : Int) := by omega
    have hle2 : (1 : Int) + (n : Int) ≤ (l.length : Int) := by omega
    have hle3 : (1 : Int) ≤ (1 : Int) + (n : Int) := by omega
    have htn : ((1 : Int) + (n : Int)).toNat = 1 + n := by omega
    have hexn := hex n
    generalize Lib.toLowerA (D.take n) = T at *
    clear h hs hex hDl
    go_enter Tryz.func85, Tryz.ntmps85
    go_wp2_with fail
    refine (WS.out _).mono ?_
    rintro e w1 ⟨rfl, hb1⟩
    have P1 := P0.out.below hb1
    have B1 := B0.out.trans (hb1.mono B0.out.size)
    clear WS hb1
    go_wp2_with fail
    refine (TL.out _).mono ?_
    rintro e w2 ⟨rfl, hb2⟩
    have P2 := P1.below hb2
    have B2 := B1.trans (hb2.mono B1.size)
    clear TL hb2
    obtain ⟨_, c0, c1, c2, c3, c4, c5, c6, c7, c8, c9, c10, f0, f1, f2, f3, f4, f5, f6, f7, f8, f9, f10⟩ := id P2
    go_wp2_with fail
    obtain ⟨_, x0, x1, x2, x3, x4, x5, x6, x7, x8, x9, x10, _, _, _, _, _, _, _, _, _, _, _⟩ := P2.put (.int .i64 ((1 : Int) + (n : Int))) (.int .i64 4) (.string ⟨T.toArray⟩) (.int .i64 0) (.int .i64 0) (.string ⟨#[]⟩) (.int .i64 0) (.int .i64 0) (.int .i64 0) (.int .i64 0) (.int .i64 0)
    unfold R11.set at x0 x1 x2 x3 x4 x5 x6 x7 x8 x9 x10
    refine bodyPost_ret (v := pcv (pcT (1 + n) 4 T)) (by simp [results, Tryz.results85, go_sem, pcv, pcT, v0, x0, x1, x2, x3, x4, x5, x6, x7, x8, x9, x10]) rfl ⟨rfl, ?_⟩
    exact R11.set_below B2 (Nat.le_refl _) _ _ _ _ _ _ _ _ _ _ _
set_option maxHeartbeats 1000000 in
set_option maxRecDepth 1000000 in
theorem readAny_any (l : List UInt8) (k : Int) (t : List UInt8) (v : Va) (w : World) :
    Calls Tryz.prog 104 #[.string ⟨l.toArray⟩, tkv k ⟨t.toArray⟩ v.ty v.n v.s 0 0 0] w fun e w' => e = .returned (pcv (rdA l k t v)) ∧ Below w.heap.size w w' := by
  have BC : Hid (∀ w, Calls Tryz.prog 27 #[.string ⟨l.toArray⟩] w fun e w' => e = .returned (.int .i64 (badA l)) ∧ Below w.heap.size w w') := fun w => badCharacter_any l w
  have hzl : (ByteArray.mk l.toArray).size = l.length := size_mk l
  obtain ⟨ty, n, s⟩ := v
  unfold rdA tkv
  generalize badA l = b at *
  have hz1 : (w.alloc (.cells #[.int .i64 k, .string ⟨t.toArray⟩, .int .i64 ty, .int .i64 n, .string s, .int .i64 0, .int .i64 0, .int .i64 0] 37)).heap.size = w.heap.size + 1 := by simp
  have T0 : Hid (R8 ((w.alloc (.cells #[.int .i64 k, .string ⟨t.toArray⟩, .int .i64 ty, .int .i64 n, .string s, .int .i64 0, .int .i64 0, .int .i64 0] 37)).alloc (.cells #[.int .i64 0, .int .i64 0, .string ⟨#[]⟩, .int .i64 0, .int .i64 0, .string ⟨#[]⟩, .int .i64 0, .int .i64 0, .int .i64 0, .int .i64 0, .int .i64 0] 82)) w.heap.size (.int .i64 k) (.string ⟨t.toArray⟩) (.int .i64 ty) (.int .i64 n) (.string s) (.int .i64 0) (.int .i64 0) (.int .i64 0)) := (R8.new w 37 (.int .i64 k) (.string ⟨t.toArray⟩) (.int .i64 ty) (.int .i64 n) (.string s) (.int .i64 0) (.int .i64 0) (.int .i64 0)).alloc _
  have P0 : Hid (R11 ((w.alloc (.cells #[.int .i64 k, .string ⟨t.toArray⟩, .int .i64 ty, .int .i64 n, .string s, .int .i64 0, .int .i64 0, .int .i64 0] 37)).alloc (.cells #[.int .i64 0, .int .i64 0, .string ⟨#[]⟩, .int .i64 0, .int .i64 0, .string ⟨#[]⟩, .int .i64 0, .int .i64 0, .int .i64 0, .int .i64 0, .int .i64 0] 82)) (w.heap.size + 1) (.int .i64 0) (.int .i64 0) (.string ⟨#[]⟩) (.int .i64 0) (.int .i64 0) (.string ⟨#[]⟩) (.int .i64 0) (.int .i64 0) (.int .i64 0) (.int .i64 0) (.int .i64 0)) := by
    have h := R11.new (w.alloc (.cells #[.int .i64 k, .string ⟨t.toArray⟩, .int .i64 ty, .int .i64 n, .string s, .int .i64 0, .int .i64 0, .int .i64 0] 37)) 82 (.int .i64 0) (.int .i64 0) (.string ⟨#[]⟩) (.int .i64 0) (.int .i64 0) (.string ⟨#[]⟩) (.int .i64 0) (.int .i64 0) (.int .i64 0) (.int .i64 0) (.int .i64 0)
    rw [hz1] at h
    exact h
  have B0 : Hid (Below w.heap.size w ((w.alloc (.cells #[.int .i64 k, .string ⟨t.toArray⟩, .int .i64 ty, .int .i64 n, .string s, .int .i64 0, .int .i64 0, .int .i64 0] 37)).alloc (.cells #[.int .i64 0, .int .i64 0, .string ⟨#[]⟩, .int .i64 0, .int .i64 0, .string ⟨#[]⟩, .int .i64 0, .int .i64 0, .int .i64 0, .int .i64 0, .int .i64 0] 82))) := ((Below.refl _ w).alloc (Nat.le_refl _) _).alloc (by rw [hz1]; omega) _
  clear hz1
  by_cases h : 0 ≤ b
  · rw [if_pos h]
    go_enter Tryz.func104, Tryz.ntmps104
    go_wp2_with fail
    refine (BC.out _).mono ?_
    rintro e w1 ⟨rfl, hb1⟩
    have T1 := T0.out.below hb1
    have P1 := P0.out.below hb1
    have B1 := B0.out.trans (hb1.mono B0.out.size)
    clear BC hb1
    obtain ⟨_, c0, c1, c2, c3, c4, c5, c6, c7, c8, c9, c10, f0, f1, f2, f3, f4, f5, f6, f7, f8, f9, f10⟩ := id P1
    go_wp2_with fail
    obtain ⟨_, x0, x1, x2, x3, x4, x5, x6, x7, x8, x9, x10, _, _, _, _, _, _, _, _, _, _, _⟩ := P1.put (.int .i64 0) (.int .i64 0) (.string ⟨#[]⟩) (.int .i64 0) (.int .i64 0) (.string ⟨#[]⟩) (.int .i64 0) (.int .i64 0) (.int .i64 0) (.int .i64 30) (.int .i64 b)
    unfold R11.set at x0 x1 x2 x3 x4 x5 x6 x7 x8 x9 x10
    refine bodyPost_ret (v := pcv ⟨0, 0, [], v0, 30, b⟩) (by simp [results, Tryz.results104, go_sem, pcv, v0, x0, x1, x2, x3, x4, x5, x6, x7, x8, x9, x10]) rfl ⟨rfl, ?_⟩
    exact R11.set_below B1 (by omega) _ _ _ _ _ _ _ _ _ _ _
  · rw [if_neg h]
    go_enter Tryz.func104, Tryz.ntmps104
    go_wp2_with fail
    refine (BC.out _).mono ?_
    rintro e w1 ⟨rfl, hb1⟩
    have T1 := T0.out.below hb1
    have P1 := P0.out.below hb1
    have B1 := B0.out.trans (hb1.mono B0.out.size)
    clear BC hb1
    obtain ⟨_, t0, t1, t2, t3, t4, t5, t6, t7, _, _, _, _, _, _, _, _⟩ := id T1
    obtain ⟨_, c0, c1, c2, c3, c4, c5, c6, c7, c8, c9, c10, f0, f1, f2, f3, f4, f5, f6, f7, f8, f9, f10⟩ := id P1
    go_wp2_with fail
    obtain ⟨_, x0, x1, x2, x3, x4, x5, x6, x7, x8, x9, x10, _, _, _, _, _, _, _, _, _, _, _⟩ := P1.put (.int .i64 l.length) (.int .i64 k) (.string ⟨t.toArray⟩) (.int .i64 ty) (.int .i64 n) (.string s) (.int .i64 0) (.int .i64 0) (.int .i64 0) (.int .i64 0) (.int .i64 0)
    unfold R11.set at x0 x1 x2 x3 x4 x5 x6 x7 x8 x9 x10
    refine bodyPost_ret (v := pcv ⟨l.length, k, t, ⟨ty, n, s⟩, 0, 0⟩) (by simp [results, Tryz.results104, go_sem, pcv, x0, x1, x2, x3, x4, x5, x6, x7, x8, x9, x10]) rfl ⟨rfl, ?_⟩
    exact R11.set_below B1 (by omega) _ _ _ _ _ _ _ _ _ _ _
end Go.Proofs.YtfcolecglobcdaaGreatDoor
