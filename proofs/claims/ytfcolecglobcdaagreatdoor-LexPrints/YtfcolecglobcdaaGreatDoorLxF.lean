/-
  The walks of readLine, readRemark, readQuoted, readText.
-/
import Derived.Test.YtfcolecglobcdaaGreatDoorLxE
namespace Go.Proofs.YtfcolecglobcdaaGreatDoor
open Go.RowKit Go.Shelf

set_option maxHeartbeats 1000000 in
set_option maxRecDepth 1000000 in
theorem readLine_any (l : List UInt8) (w : World) (hs : l.length ≤ 100000) (hM : Mx w) :
    Calls Tryz.prog 79 #[.string ⟨l.toArray⟩] w fun e w' => e = .returned (pcv (rdL l)) ∧ Below w.heap.size w w' := by
  have CU : Hid (∀ w, Mx w → Calls Tryz.prog 103 #[.string ⟨l.toArray⟩, .string ⟨#[10]⟩] w fun e w' => e = .returned (.tuple #[.string ⟨(Lib.cut l [10]).1.toArray⟩, .string ⟨(Lib.cut l [10]).2.1.toArray⟩, .bool (Lib.cut l [10]).2.2]) ∧ Below w.heap.size w w') := fun w hM => Cut_any ⟨l.toArray⟩ ⟨#[10]⟩ w hM (by rw [size_mk]; exact hs)
  have HM : Hid (Mx w) := hM
  have CA : Hid (∀ w, Calls Tryz.prog 104 #[.string ⟨(Lib.cut l [10]).1.toArray⟩, .agg #[.int .i64 0, .string ⟨#[]⟩, .int .i64 0, .int .i64 0, .string ⟨#[]⟩, .int .i64 0, .int .i64 0, .int .i64 0]] w fun e w' => e = .returned (pcv (rdA (Lib.cut l [10]).1 0 [] v0)) ∧ Below w.heap.size w w') := fun w => readAny_any (Lib.cut l [10]).1 0 [] v0 w
  have P0 : Hid (R11 (w.alloc (.cells #[.int .i64 0, .int .i64 0, .string ⟨#[]⟩, .int .i64 0, .int .i64 0, .string ⟨#[]⟩, .int .i64 0, .int .i64 0, .int .i64 0, .int .i64 0, .int .i64 0] 82)) w.heap.size (.int .i64 0) (.int .i64 0) (.string ⟨#[]⟩) (.int .i64 0) (.int .i64 0) (.string ⟨#[]⟩) (.int .i64 0) (.int .i64 0) (.int .i64 0) (.int .i64 0) (.int .i64 0)) := R11.new w 82 (.int .i64 0) (.int .i64 0) (.string ⟨#[]⟩) (.int .i64 0) (.int .i64 0) (.string ⟨#[]⟩) (.int .i64 0) (.int .i64 0) (.int .i64 0) (.int .i64 0) (.int .i64 0)
  have B0 : Hid (Below w.heap.size w (w.alloc (.cells #[.int .i64 0, .int .i64 0, .string ⟨#[]⟩, .int .i64 0, .int .i64 0, .string ⟨#[]⟩, .int .i64 0, .int .i64 0, .int .i64 0, .int .i64 0, .int .i64 0] 82))) := (Below.refl _ w).alloc (Nat.le_refl _) _
  unfold rdL
  generalize rdA (Lib.cut l [10]).1 0 [] v0 = p at *
  generalize (Lib.cut l [10]).2.2 = c2 at *
  generalize (Lib.cut l [10]).2.1 = c1 at *
  generalize (Lib.cut l [10]).1 = c0 at *
  obtain ⟨sz, kd, tx, ⟨vt, vn, vs⟩, wy, ah⟩ := p
  clear hM hs
  go_enter Tryz.func79, Tryz.ntmps79
  go_wp2_with fail
  refine (CU.out _ (HM.out.below B0.out)).mono ?_
  rintro e w1 ⟨rfl, hb1⟩
  have P1 := P0.out.below hb1
  have B1 := B0.out.trans (hb1.mono B0.out.size)
  clear CU hb1
  go_wp2_with fail
  refine (CA.out _).mono ?_
  rintro e w2 ⟨rfl, hb2⟩
  have P2 := P1.below hb2
  have B2 := B1.trans (hb2.mono B1.size)
  clear CA hb2
  unfold pcv
  obtain ⟨_, c0, c1, c2, c3, c4, c5, c6, c7, c8, c9, c10, f0, f1, f2, f3, f4, f5, f6, f7, f8, f9, f10⟩ := id P2
  go_wp2_with fail
  obtain ⟨_, x0, x1, x2, x3, x4, x5, x6, x7, x8, x9, x10, _, _, _, _, _, _, _, _, _, _, _⟩ := P2.put (.int .i64 sz) (.int .i64 kd) (.string ⟨tx.toArray⟩) (.int .i64 vt) (.int .i64 vn) (.string vs) (.int .i64 0) (.int .i64 0) (.int .i64 0) (.int .i64 wy) (.int .i64 ah)
  unfold R11.set at x0 x1 x2 x3 x4 x5 x6 x7 x8 x9 x10
  refine bodyPost_ret (v := pcv ⟨sz, kd, tx, ⟨vt, vn, vs⟩, wy, ah⟩) (by simp [results, Tryz.results79, go_sem, pcv, x0, x1, x2, x3, x4, x5, x6, x7, x8, x9, x10]) rfl ⟨rfl, ?_⟩
  exact R11.set_below B2 (Nat.le_refl _) _ _ _ _ _ _ _ _ _ _ _
set_option maxHeartbeats 1000000 in
set_option maxRecDepth 1000000 in
theorem readRemark_any (l : List UInt8) (w : World) (hs : l.length ≤ 100000) (h2 : 2 ≤ l.length) (hM : Mx w) :
    Calls Tryz.prog 80 #[.string ⟨l.toArray⟩] w fun e w' => e = .returned (pcv (rdR l)) ∧ Below w.heap.size w w' := by
  obtain ⟨D, hD⟩ : ∃ D, D = l.drop 2 := ⟨_, rfl⟩
  have hDl : D.length = l.length - 2 := by rw [hD, List.length_drop]
  have hex0 : (ByteArray.mk l.toArray).extract 2 l.length = ByteArray.mk D.toArray := by rw [extract_mk, List.take_length, hD]
  unfold rdR
  rw [← hD]
  clear hD
  have IX : Hid (∀ w, Mx w → Calls Tryz.prog 41 #[.string ⟨D.toArray⟩, .string ⟨#[42, 47]⟩] w fun e w' => e = .returned (.int .i64 (Lib.index D [42, 47])) ∧ Below w.heap.size w w') := fun w hM => (Index_any D [42, 47] w hM (by omega)).mono (fun _ _ h => ⟨h.1, h.2 ▸ Below.refl _ _⟩)
  have HM : Hid (Mx w) := hM
  have hzl : (ByteArray.mk l.toArray).size = l.length := size_mk l
  have h2i : (2 : Int) ≤ (l.length : Int) := by omega
  have P0 : Hid (R11 (w.alloc (.cells #[.int .i64 0, .int .i64 0, .string ⟨#[]⟩, .int .i64 0, .int .i64 0, .string ⟨#[]⟩, .int .i64 0, .int .i64 0, .int .i64 0, .int .i64 0, .int .i64 0] 82)) w.heap.size (.int .i64 0) (.int .i64 0) (.string ⟨#[]⟩) (.int .i64 0) (.int .i64 0) (.string ⟨#[]⟩) (.int .i64 0) (.int .i64 0) (.int .i64 0) (.int .i64 0) (.int .i64 0)) := R11.new w 82 (.int .i64 0) (.int .i64 0) (.string ⟨#[]⟩) (.int .i64 0) (.int .i64 0) (.string ⟨#[]⟩) (.int .i64 0) (.int .i64 0) (.int .i64 0) (.int .i64 0) (.int .i64 0)
  have B0 : Hid (Below w.heap.size w (w.alloc (.cells #[.int .i64 0, .int .i64 0, .string ⟨#[]⟩, .int .i64 0, .int .i64 0, .string ⟨#[]⟩, .int .i64 0, .int .i64 0, .int .i64 0, .int .i64 0, .int .i64 0] 82))) := (Below.refl _ w).alloc (Nat.le_refl _) _
  by_cases h0 : Lib.index D [42, 47] < 0
  · rw [if_pos h0]
    generalize Lib.index D [42, 47] = i at *
    clear hM hs h2 hDl
    go_enter Tryz.func80, Tryz.ntmps80
    go_wp2_with fail
    refine (IX.out _ (HM.out.below B0.out)).mono ?_
    rintro e w1 ⟨rfl, hb1⟩
    have P1 := P0.out.below hb1
    have B1 := B0.out.trans (hb1.mono B0.out.size)
    clear IX hb1
    obtain ⟨_, c0, c1, c2, c3, c4, c5, c6, c7, c8, c9, c10, f0, f1, f2, f3, f4, f5, f6, f7, f8, f9, f10⟩ := id P1
    go_wp2_with fail
    obtain ⟨_, x0, x1, x2, x3, x4, x5, x6, x7, x8, x9, x10, _, _, _, _, _, _, _, _, _, _, _⟩ := P1.put (.int .i64 0) (.int .i64 0) (.string ⟨#[]⟩) (.int .i64 0) (.int .i64 0) (.string ⟨#[]⟩) (.int .i64 0) (.int .i64 0) (.int .i64 0) (.int .i64 31) (.int .i64 0)
    unfold R11.set at x0 x1 x2 x3 x4 x5 x6 x7 x8 x9 x10
    refine bodyPost_ret (v := pcv (pcE 31)) (by simp [results, Tryz.results80, go_sem, pcv, pcE, v0, x0, x1, x2, x3, x4, x5, x6, x7, x8, x9, x10]) rfl ⟨rfl, ?_⟩
    exact R11.set_below B1 (Nat.le_refl _) _ _ _ _ _ _ _ _ _ _ _
  · rw [if_neg h0]
    have hr := Lib.index_room D [42, 47] (by omega)
    have hr2 : ([42, 47] : List UInt8).length = 2 := rfl
    obtain ⟨i, hi⟩ : ∃ i : Nat, Lib.index D [42, 47] = (i : Int) := ⟨(Lib.index D [42, 47]).toNat, by omega⟩
    rw [hi] at IX hr ⊢
    rw [show ((i : Int)).toNat = i from rfl]
    have hle : (2 : Int) + (i : Int) + 2 ≤ (l.length : Int) := by omega
    have hle0 : (0 : Int) ≤ (2 : Int) + (i : Int) + 2 := by omega
    have htn : ((2 : Int) + (i : Int) + 2).toNat = 2 + i + 2 := by omega
    have hex : (ByteArray.mk l.toArray).extract 0 (2 + i + 2) = ByteArray.mk (l.take (2 + i + 2)).toArray := by rw [extract_mk, List.drop_zero]
    have hib : (i : Int) ≤ 100000 := by omega
    clear hr hr2 h0 hi
    generalize l.take (2 + i + 2) = L2 at *
    have CA : Hid (∀ w, Calls Tryz.prog 104 #[.string ⟨L2.toArray⟩, .agg #[.int .i64 0, .string ⟨#[]⟩, .int .i64 0, .int .i64 0, .string ⟨#[]⟩, .int .i64 0, .int .i64 0, .int .i64 0]] w fun e w' => e = .returned (pcv (rdA L2 0 [] v0)) ∧ Below w.heap.size w w') := fun w => readAny_any L2 0 [] v0 w
    generalize rdA L2 0 [] v0 = p at *
    obtain ⟨sz, kd, tx, ⟨vt, vn, vs⟩, wy, ah⟩ := p
    have h0i : ¬ (i : Int) < 0 := by omega
    clear hM hs h2 hDl
    go_enter Tryz.func80, Tryz.ntmps80
    go_wp2_with fail
    refine (IX.out _ (HM.out.below B0.out)).mono ?_
    rintro e w1 ⟨rfl, hb1⟩
    have P1 := P0.out.below hb1
    have B1 := B0.out.trans (hb1.mono B0.out.size)
    clear IX hb1
    go_wp2_with fail
    refine (CA.out _).mono ?_
    rintro e w2 ⟨rfl, hb2⟩
    have P2 := P1.below hb2
    have B2 := B1.trans (hb2.mono B1.size)
    clear CA hb2
    unfold pcv
    obtain ⟨_, c0, c1, c2, c3, c4, c5, c6, c7, c8, c9, c10, f0, f1, f2, f3, f4, f5, f6, f7, f8, f9, f10⟩ := id P2
    go_wp2_with fail
    obtain ⟨_, x0, x1, x2, x3, x4, x5, x6, x7, x8, x9, x10, _, _, _, _, _, _, _, _, _, _, _⟩ := P2.put (.int .i64 sz) (.int .i64 kd) (.string ⟨tx.toArray⟩) (.int .i64 vt) (.int .i64 vn) (.string vs) (.int .i64 0) (.int .i64 0) (.int .i64 0) (.int .i64 wy) (.int .i64 ah)
    unfold R11.set at x0 x1 x2 x3 x4 x5 x6 x7 x8 x9 x10
    refine bodyPost_ret (v := pcv ⟨sz, kd, tx, ⟨vt, vn, vs⟩, wy, ah⟩) (by simp [results, Tryz.results80, go_sem, pcv, x0, x1, x2, x3, x4, x5, x6, x7, x8, x9, x10]) rfl ⟨rfl, ?_⟩
    exact R11.set_below B2 (Nat.le_refl _) _ _ _ _ _ _ _ _ _ _ _
theorem qsz_two {l : List UInt8} (h : qsz l ≠ 0) : 2 ≤ qsz l := by
  rcases l with _ | ⟨q, r⟩
  · exact absurd rfl h
  · rw [qsz] at h ⊢
    by_cases h0 : qz q r = 0
    · rw [if_pos h0] at h; exact absurd rfl h
    · rw [if_neg h0]; omega
set_option maxHeartbeats 1000000 in
set_option maxRecDepth 1000000 in
theorem readQuoted_any (l : List UInt8) (w : World) (hs : l.length ≤ 100000) (h1 : l ≠ []) (hM : Mx w) :
    Calls Tryz.prog 83 #[.string ⟨l.toArray⟩] w fun e w' => e = .returned (pcv (rdQ l)) ∧ Below w.heap.size w w' := by
  have QS : Hid (∀ w, Calls Tryz.prog 109 #[.string ⟨l.toArray⟩] w fun e w' => e = .returned (.int .i64 (qsz l : Nat)) ∧ Below w.heap.size w w') := by
    rcases l with _ | ⟨q, r⟩
    · exact absurd rfl h1
    · exact fun w => quoteSize_any q r w hs
  have HM : Hid (Mx w) := hM
  have hzl : (ByteArray.mk l.toArray).size = l.length := size_mk l
  have P0 : Hid (R11 (w.alloc (.cells #[.int .i64 0, .int .i64 0, .string ⟨#[]⟩, .int .i64 0, .int .i64 0, .string ⟨#[]⟩, .int .i64 0, .int .i64 0, .int .i64 0, .int .i64 0, .int .i64 0] 82)) w.heap.size (.int .i64 0) (.int .i64 0) (.string ⟨#[]⟩) (.int .i64 0) (.int .i64 0) (.string ⟨#[]⟩) (.int .i64 0) (.int .i64 0) (.int .i64 0) (.int .i64 0) (.int .i64 0)) := R11.new w 82 (.int .i64 0) (.int .i64 0) (.string ⟨#[]⟩) (.int .i64 0) (.int .i64 0) (.string ⟨#[]⟩) (.int .i64 0) (.int .i64 0) (.int .i64 0) (.int .i64 0) (.int .i64 0)
  have B0 : Hid (Below w.heap.size w (w.alloc (.cells #[.int .i64 0, .int .i64 0, .string ⟨#[]⟩, .int .i64 0, .int .i64 0, .string ⟨#[]⟩, .int .i64 0, .int .i64 0, .int .i64 0, .int .i64 0, .int .i64 0] 82))) := (Below.refl _ w).alloc (Nat.le_refl _) _
  have hle := qsz_le l
  unfold rdQ
  by_cases h0 : qsz l = 0
  · rw [if_pos h0]
    have hb : (((qsz l : Nat) : Int) == 0) = true := by rw [h0]; rfl
    generalize qsz l = n at *
    clear h0 hle hs hM h1
    go_enter Tryz.func83, Tryz.ntmps83
    go_wp2_with fail
    refine (QS.out _).mono ?_
    rintro e w1 ⟨rfl, hb1⟩
    have P1 := P0.out.below hb1
    have B1 := B0.out.trans (hb1.mono B0.out.size)
    clear QS hb1
    obtain ⟨_, c0, c1, c2, c3, c4, c5, c6, c7, c8, c9, c10, f0, f1, f2, f3, f4, f5, f6, f7, f8, f9, f10⟩ := id P1
    go_wp2_with fail
    obtain ⟨_, x0, x1, x2, x3, x4, x5, x6, x7, x8, x9, x10, _, _, _, _, _, _, _, _, _, _, _⟩ := P1.put (.int .i64 0) (.int .i64 0) (.string ⟨#[]⟩) (.int .i64 0) (.int .i64 0) (.string ⟨#[]⟩) (.int .i64 0) (.int .i64 0) (.int .i64 0) (.int .i64 31) (.int .i64 0)
    unfold R11.set at x0 x1 x2 x3 x4 x5 x6 x7 x8 x9 x10
    refine bodyPost_ret (v := pcv (pcE 31)) (by simp [results, Tryz.results83, go_sem, pcv, pcE, v0, x0, x1, x2, x3, x4, x5, x6, x7, x8, x9, x10]) rfl ⟨rfl, ?_⟩
    exact R11.set_below B1 (Nat.le_refl _) _ _ _ _ _ _ _ _ _ _ _
  rw [if_neg h0]
  have hb : (((qsz l : Nat) : Int) == 0) = false := by rw [beq_eq_false_iff_ne]; omega
  have h2 := qsz_two h0
  have hex1 : (ByteArray.mk l.toArray).extract 1 (qsz l - 1) = ByteArray.mk (inner l).toArray := by rw [extract_mk]; rfl
  have hex2 : (ByteArray.mk l.toArray).extract 0 (qsz l) = ByteArray.mk (l.take (qsz l)).toArray := by rw [extract_mk, List.drop_zero]
  have hJl : (inner l).length ≤ 100000 := by unfold inner; rw [List.length_drop, List.length_take]; omega
  generalize inner l = J at *
  generalize qsz l = n at *
  have i1 : (1 : Int) ≤ (n : Int) - 1 := by omega
  have i2 : (n : Int) - 1 ≤ (l.length : Int) := by omega
  have i3 : ((n : Int) - 1).toNat = n - 1 := by omega
  have i4 : (n : Int) ≤ (l.length : Int) := by omega
  have i5 : (n : Int) ≤ 100000 := by omega
  have RA : Hid (∀ w, Mx w → Calls Tryz.prog 42 #[.string ⟨J.toArray⟩, .string ⟨#[34, 34]⟩, .string ⟨#[34]⟩] w fun e w' => e = .returned (.string ⟨(Lib.replaceAll J [34, 34] [34]).toArray⟩) ∧ Below w.heap.size w w') := fun w hM => ReplaceAll_any ⟨J.toArray⟩ ⟨#[34, 34]⟩ ⟨#[34]⟩ w hM (by rw [size_mk]; exact hJl) (by decide) (by decide)
  generalize Lib.replaceAll J [34, 34] [34] = N at *
  have hzN : (ByteArray.mk N.toArray).size = N.length := size_mk N
  clear h0 h2 hM hs h1 hJl hle
  by_cases hN0 : N = []
  · rw [if_pos (Or.inl hN0)]
    have hNb : (N == ([] : List UInt8)) = true := by rw [hN0]; rfl
    clear hN0
    go_enter Tryz.func83, Tryz.ntmps83
    go_wp2_with fail
    refine (QS.out _).mono ?_
    rintro e w1 ⟨rfl, hb1⟩
    have P1 := P0.out.below hb1
    have B1 := B0.out.trans (hb1.mono B0.out.size)
    clear QS hb1
    go_wp2_with fail
    refine (RA.out _ (HM.out.below B1)).mono ?_
    rintro e w2 ⟨rfl, hb2⟩
    have P2 := P1.below hb2
    have B2 := B1.trans (hb2.mono B1.size)
    clear RA hb2
    obtain ⟨_, c0, c1, c2, c3, c4, c5, c6, c7, c8, c9, c10, f0, f1, f2, f3, f4, f5, f6, f7, f8, f9, f10⟩ := id P2
    go_wp2_with fail
    obtain ⟨_, x0, x1, x2, x3, x4, x5, x6, x7, x8, x9, x10, _, _, _, _, _, _, _, _, _, _, _⟩ := P2.put (.int .i64 0) (.int .i64 0) (.string ⟨#[]⟩) (.int .i64 0) (.int .i64 0) (.string ⟨#[]⟩) (.int .i64 0) (.int .i64 0) (.int .i64 0) (.int .i64 6) (.int .i64 0)
    unfold R11.set at x0 x1 x2 x3 x4 x5 x6 x7 x8 x9 x10
    refine bodyPost_ret (v := pcv (pcE 6)) (by simp [results, Tryz.results83, go_sem, pcv, pcE, v0, x0, x1, x2, x3, x4, x5, x6, x7, x8, x9, x10]) rfl ⟨rfl, ?_⟩
    exact R11.set_below B2 (Nat.le_refl _) _ _ _ _ _ _ _ _ _ _ _
  have hNb : (N == ([] : List UInt8)) = false := by rw [beq_eq_false_iff_ne]; exact hN0
  by_cases hN1 : 32 < N.length
  · rw [if_pos (Or.inr hN1)]
    have hNi : (32 : Int) < (N.length : Int) := by omega
    clear hN0 hN1
    go_enter Tryz.func83, Tryz.ntmps83
    go_wp2_with fail
    refine (QS.out _).mono ?_
    rintro e w1 ⟨rfl, hb1⟩
    have P1 := P0.out.below hb1
    have B1 := B0.out.trans (hb1.mono B0.out.size)
    clear QS hb1
    go_wp2_with fail
    refine (RA.out _ (HM.out.below B1)).mono ?_
    rintro e w2 ⟨rfl, hb2⟩
    have P2 := P1.below hb2
    have B2 := B1.trans (hb2.mono B1.size)
    clear RA hb2
    obtain ⟨_, c0, c1, c2, c3, c4, c5, c6, c7, c8, c9, c10, f0, f1, f2, f3, f4, f5, f6, f7, f8, f9, f10⟩ := id P2
    go_wp2_with fail
    obtain ⟨_, x0, x1, x2, x3, x4, x5, x6, x7, x8, x9, x10, _, _, _, _, _, _, _, _, _, _, _⟩ := P2.put (.int .i64 0) (.int .i64 0) (.string ⟨#[]⟩) (.int .i64 0) (.int .i64 0) (.string ⟨#[]⟩) (.int .i64 0) (.int .i64 0) (.int .i64 0) (.int .i64 6) (.int .i64 0)
    unfold R11.set at x0 x1 x2 x3 x4 x5 x6 x7 x8 x9 x10
    refine bodyPost_ret (v := pcv (pcE 6)) (by simp [results, Tryz.results83, go_sem, pcv, pcE, v0, x0, x1, x2, x3, x4, x5, x6, x7, x8, x9, x10]) rfl ⟨rfl, ?_⟩
    exact R11.set_below B2 (Nat.le_refl _) _ _ _ _ _ _ _ _ _ _ _
  rw [if_neg (fun h => h.elim hN0 hN1)]
  have hNi : ¬ (32 : Int) < (N.length : Int) := by omega
  clear hN0 hN1
  generalize l.take n = L2 at *
  have CA : Hid (∀ w, Calls Tryz.prog 104 #[.string ⟨L2.toArray⟩, .agg #[.int .i64 2, .string ⟨N.toArray⟩, .int .i64 0, .int .i64 0, .string ⟨#[]⟩, .int .i64 0, .int .i64 0, .int .i64 0]] w fun e w' => e = .returned (pcv (rdA L2 2 N v0)) ∧ Below w.heap.size w w') := fun w => readAny_any L2 2 N v0 w
  generalize rdA L2 2 N v0 = p at *
  obtain ⟨sz, kd, tx, ⟨vt, vn, vs⟩, wy, ah⟩ := p
  go_enter Tryz.func83, Tryz.ntmps83
  go_wp2_with fail
  refine (QS.out _).mono ?_
  rintro e w1 ⟨rfl, hb1⟩
  have P1 := P0.out.below hb1
  have B1 := B0.out.trans (hb1.mono B0.out.size)
  clear QS hb1
  go_wp2_with fail
  refine (RA.out _ (HM.out.below B1)).mono ?_
  rintro e w2 ⟨rfl, hb2⟩
  have P2 := P1.below hb2
  have B2 := B1.trans (hb2.mono B1.size)
  clear RA hb2
  go_wp2_with fail
  refine (CA.out _).mono ?_
  rintro e w3 ⟨rfl, hb3⟩
  have P3 := P2.below hb3
  have B3 := B2.trans (hb3.mono B2.size)
  clear CA hb3
  unfold pcv
  obtain ⟨_, c0, c1, c2, c3, c4, c5, c6, c7, c8, c9, c10, f0, f1, f2, f3, f4, f5, f6, f7, f8, f9, f10⟩ := id P3
  go_wp2_with fail
  obtain ⟨_, x0, x1, x2, x3, x4, x5, x6, x7, x8, x9, x10, _, _, _, _, _, _, _, _, _, _, _⟩ := P3.put (.int .i64 sz) (.int .i64 kd) (.string ⟨tx.toArray⟩) (.int .i64 vt) (.int .i64 vn) (.string vs) (.int .i64 0) (.int .i64 0) (.int .i64 0) (.int .i64 wy) (.int .i64 ah)
  unfold R11.set at x0 x1 x2 x3 x4 x5 x6 x7 x8 x9 x10
  refine bodyPost_ret (v := pcv ⟨sz, kd, tx, ⟨vt, vn, vs⟩, wy, ah⟩) (by simp [results, Tryz.results83, go_sem, pcv, x0, x1, x2, x3, x4, x5, x6, x7, x8, x9, x10]) rfl ⟨rfl, ?_⟩
  exact R11.set_below B3 (Nat.le_refl _) _ _ _ _ _ _ _ _ _ _ _
set_option maxHeartbeats 1000000 in
set_option maxRecDepth 1000000 in
theorem readText_any (l : List UInt8) (w : World) (hs : l.length ≤ 100000) (h1 : l ≠ []) (hM : Mx w) :
    Calls Tryz.prog 84 #[.string ⟨l.toArray⟩] w fun e w' => e = .returned (pcv (rdT l)) ∧ Below w.heap.size w w' := by
  have QS : Hid (∀ w, Calls Tryz.prog 109 #[.string ⟨l.toArray⟩] w fun e w' => e = .returned (.int .i64 (qsz l : Nat)) ∧ Below w.heap.size w w') := by
    rcases l with _ | ⟨q, r⟩
    · exact absurd rfl h1
    · exact fun w => quoteSize_any q r w hs
  have HM : Hid (Mx w) := hM
  have hzl : (ByteArray.mk l.toArray).size = l.length := size_mk l
  have P0 : Hid (R11 (w.alloc (.cells #[.int .i64 0, .int .i64 0, .string ⟨#[]⟩, .int .i64 0, .int .i64 0, .string ⟨#[]⟩, .int .i64 0, .int .i64 0, .int .i64 0, .int .i64 0, .int .i64 0] 82)) w.heap.size (.int .i64 0) (.int .i64 0) (.string ⟨#[]⟩) (.int .i64 0) (.int .i64 0) (.string ⟨#[]⟩) (.int .i64 0) (.int .i64 0) (.int .i64 0) (.int .i64 0) (.int .i64 0)) := R11.new w 82 (.int .i64 0) (.int .i64 0) (.string ⟨#[]⟩) (.int .i64 0) (.int .i64 0) (.string ⟨#[]⟩) (.int .i64 0) (.int .i64 0) (.int .i64 0) (.int .i64 0) (.int .i64 0)
  have B0 : Hid (Below w.heap.size w (w.alloc (.cells #[.int .i64 0, .int .i64 0, .string ⟨#[]⟩, .int .i64 0, .int .i64 0, .string ⟨#[]⟩, .int .i64 0, .int .i64 0, .int .i64 0, .int .i64 0, .int .i64 0] 82))) := (Below.refl _ w).alloc (Nat.le_refl _) _
  have hle := qsz_le l
  unfold rdT
  by_cases h0 : qsz l = 0
  · rw [if_pos h0]
    have hb : (((qsz l : Nat) : Int) == 0) = true := by rw [h0]; rfl
    generalize qsz l = n at *
    clear h0 hle hs hM h1
    go_enter Tryz.func84, Tryz.ntmps84
    go_wp2_with fail
    refine (QS.out _).mono ?_
    rintro e w1 ⟨rfl, hb1⟩
    have P1 := P0.out.below hb1
    have B1 := B0.out.trans (hb1.mono B0.out.size)
    clear QS hb1
    obtain ⟨_, c0, c1, c2, c3, c4, c5, c6, c7, c8, c9, c10, f0, f1, f2, f3, f4, f5, f6, f7, f8, f9, f10⟩ := id P1
    go_wp2_with fail
    obtain ⟨_, x0, x1, x2, x3, x4, x5, x6, x7, x8, x9, x10, _, _, _, _, _, _, _, _, _, _, _⟩ := P1.put (.int .i64 0) (.int .i64 0) (.string ⟨#[]⟩) (.int .i64 0) (.int .i64 0) (.string ⟨#[]⟩) (.int .i64 0) (.int .i64 0) (.int .i64 0) (.int .i64 31) (.int .i64 0)
    unfold R11.set at x0 x1 x2 x3 x4 x5 x6 x7 x8 x9 x10
    refine bodyPost_ret (v := pcv (pcE 31)) (by simp [results, Tryz.results84, go_sem, pcv, pcE, v0, x0, x1, x2, x3, x4, x5, x6, x7, x8, x9, x10]) rfl ⟨rfl, ?_⟩
    exact R11.set_below B1 (Nat.le_refl _) _ _ _ _ _ _ _ _ _ _ _
  rw [if_neg h0]
  have hb : (((qsz l : Nat) : Int) == 0) = false := by rw [beq_eq_false_iff_ne]; omega
  have h2 := qsz_two h0
  have hex1 : (ByteArray.mk l.toArray).extract 1 (qsz l - 1) = ByteArray.mk (inner l).toArray := by rw [extract_mk]; rfl
  have hex2 : (ByteArray.mk l.toArray).extract 0 (qsz l) = ByteArray.mk (l.take (qsz l)).toArray := by rw [extract_mk, List.drop_zero]
  have hJl : (inner l).length ≤ 100000 := by unfold inner; rw [List.length_drop, List.length_take]; omega
  generalize inner l = J at *
  generalize qsz l = n at *
  have i1 : (1 : Int) ≤ (n : Int) - 1 := by omega
  have i2 : (n : Int) - 1 ≤ (l.length : Int) := by omega
  have i3 : ((n : Int) - 1).toNat = n - 1 := by omega
  have i4 : (n : Int) ≤ (l.length : Int) := by omega
  have i5 : (n : Int) ≤ 100000 := by omega
  have RA : Hid (∀ w, Mx w → Calls Tryz.prog 42 #[.string ⟨J.toArray⟩, .string ⟨#[39, 39]⟩, .string ⟨#[39]⟩] w fun e w' => e = .returned (.string ⟨(Lib.replaceAll J [39, 39] [39]).toArray⟩) ∧ Below w.heap.size w w') := fun w hM => ReplaceAll_any ⟨J.toArray⟩ ⟨#[39, 39]⟩ ⟨#[39]⟩ w hM (by rw [size_mk]; exact hJl) (by decide) (by decide)
  generalize Lib.replaceAll J [39, 39] [39] = N at *
  have hzN : (ByteArray.mk N.toArray).size = N.length := size_mk N
  clear h0 h2 hM hs h1 hJl hle
  by_cases hN1 : 4096 < N.length
  · rw [if_pos hN1]
    have hNi : (4096 : Int) < (N.length : Int) := by omega
    clear hN1
    go_enter Tryz.func84, Tryz.ntmps84
    go_wp2_with fail
    refine (QS.out _).mono ?_
    rintro e w1 ⟨rfl, hb1⟩
    have P1 := P0.out.below hb1
    have B1 := B0.out.trans (hb1.mono B0.out.size)
    clear QS hb1
    go_wp2_with fail
    refine (RA.out _ (HM.out.below B1)).mono ?_
    rintro e w2 ⟨rfl, hb2⟩
    have P2 := P1.below hb2
    have B2 := B1.trans (hb2.mono B1.size)
    clear RA hb2
    obtain ⟨_, c0, c1, c2, c3, c4, c5, c6, c7, c8, c9, c10, f0, f1, f2, f3, f4, f5, f6, f7, f8, f9, f10⟩ := id P2
    go_wp2_with fail
    obtain ⟨_, x0, x1, x2, x3, x4, x5, x6, x7, x8, x9, x10, _, _, _, _, _, _, _, _, _, _, _⟩ := P2.put (.int .i64 0) (.int .i64 0) (.string ⟨#[]⟩) (.int .i64 0) (.int .i64 0) (.string ⟨#[]⟩) (.int .i64 0) (.int .i64 0) (.int .i64 0) (.int .i64 2) (.int .i64 0)
    unfold R11.set at x0 x1 x2 x3 x4 x5 x6 x7 x8 x9 x10
    refine bodyPost_ret (v := pcv (pcE 2)) (by simp [results, Tryz.results84, go_sem, pcv, pcE, v0, x0, x1, x2, x3, x4, x5, x6, x7, x8, x9, x10]) rfl ⟨rfl, ?_⟩
    exact R11.set_below B2 (Nat.le_refl _) _ _ _ _ _ _ _ _ _ _ _
  rw [if_neg hN1]
  have hNi : ¬ (4096 : Int) < (N.length : Int) := by omega
  clear hN1
  generalize l.take n = L2 at *
  have CA : Hid (∀ w, Calls Tryz.prog 104 #[.string ⟨L2.toArray⟩, .agg #[.int .i64 3, .string ⟨#[]⟩, .int .i64 3, .int .i64 0, .string ⟨N.toArray⟩, .int .i64 0, .int .i64 0, .int .i64 0]] w fun e w' => e = .returned (pcv (rdA L2 3 [] ⟨3, 0, ⟨N.toArray⟩⟩)) ∧ Below w.heap.size w w') := fun w => readAny_any L2 3 [] ⟨3, 0, ⟨N.toArray⟩⟩ w
  generalize rdA L2 3 [] ⟨3, 0, ⟨N.toArray⟩⟩ = p at *
  obtain ⟨sz, kd, tx, ⟨vt, vn, vs⟩, wy, ah⟩ := p
  go_enter Tryz.func84, Tryz.ntmps84
  go_wp2_with fail
  refine (QS.out _).mono ?_
  rintro e w1 ⟨rfl, hb1⟩
  have P1 := P0.out.below hb1
  have B1 := B0.out.trans (hb1.mono B0.out.size)
  clear QS hb1
  go_wp2_with fail
  refine (RA.out _ (HM.out.below B1)).mono ?_
  rintro e w2 ⟨rfl, hb2⟩
  have P2 := P1.below hb2
  have B2 := B1.trans (hb2.mono B1.size)
  clear RA hb2
  go_wp2_with fail
  refine (CA.out _).mono ?_
  rintro e w3 ⟨rfl, hb3⟩
  have P3 := P2.below hb3
  have B3 := B2.trans (hb3.mono B2.size)
  clear CA hb3
  unfold pcv
  obtain ⟨_, c0, c1, c2, c3, c4, c5, c6, c7, c8, c9, c10, f0, f1, f2, f3, f4, f5, f6, f7, f8, f9, f10⟩ := id P3
  go_wp2_with fail
  obtain ⟨_, x0, x1, x2, x3, x4, x5, x6, x7, x8, x9, x10, _, _, _, _, _, _, _, _, _, _, _⟩ := P3.put (.int .i64 sz) (.int .i64 kd) (.string ⟨tx.toArray⟩) (.int .i64 vt) (.int .i64 vn) (.string vs) (.int .i64 0) (.int .i64 0) (.int .i64 0) (.int .i64 wy) (.int .i64 ah)
  unfold R11.set at x0 x1 x2 x3 x4 x5 x6 x7 x8 x9 x10
  refine bodyPost_ret (v := pcv ⟨sz, kd, tx, ⟨vt, vn, vs⟩, wy, ah⟩) (by simp [results, Tryz.results84, go_sem, pcv, x0, x1, x2, x3, x4, x5, x6, x7, x8, x9, x10]) rfl ⟨rfl, ?_⟩
  exact R11.set_below B3 (Nat.le_refl _) _ _ _ _ _ _ _ _ _ _ _
end Go.Proofs.YtfcolecglobcdaaGreatDoor
