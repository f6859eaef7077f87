/-
  The walks of the two Not.
-/
import Derived.Test.YtmgmpkdnepomgaaDoorLogicC
namespace Go.Proofs.YtmgmpkdnepomgaaDoor
open Go.RowKit Go.Shelf

def nT (a : Va) : Int := if truthsE [a] = 0 then tyK (not3 (k3 a)) else 0
def nN (a : Va) : Int := if truthsE [a] = 0 then nK (not3 (k3 a)) else 0
theorem n_err {a : Va} (h : ¬ truthsE [a] = 0) : nT a = 0 ∧ nN a = 0 := ⟨if_neg h, if_neg h⟩
theorem n_null {a : Va} (h : truthsE [a] = 0) (ha : a.ty = 0) : nT a = 0 ∧ nN a = 0 := by
  unfold nT nN; rw [if_pos h, if_pos h]
  have : k3 a = none := by unfold k3; rw [if_neg (by omega)]
  rw [this]; exact ⟨rfl, rfl⟩
theorem n_zero {a : Va} (h : truthsE [a] = 0) (ha : a.ty = 4) (hn : a.n = 0) : nT a = 4 ∧ nN a = 1 := by
  unfold nT nN; rw [if_pos h, if_pos h]
  have : k3 a = some false := by unfold k3; rw [if_pos ha, hn]; rfl
  rw [this]; exact ⟨rfl, rfl⟩
theorem n_one {a : Va} (h : truthsE [a] = 0) (ha : a.ty = 4) (hn : a.n = 1) : nT a = 4 ∧ nN a = 0 := by
  unfold nT nN; rw [if_pos h, if_pos h]
  have : k3 a = some true := by unfold k3; rw [if_pos ha, hn]; rfl
  rw [this]; exact ⟨rfl, rfl⟩

/-- the boxes of a value and of a result -/
structure Fs (w : World) (B : Nat) (a r : Va) : Prop where
  lt : B + 1 < w.heap.size
  a0 : w.cell? ⟨B, 0, none⟩ = some (.int .i64 a.ty)
  a1 : w.cell? ⟨B, 1, none⟩ = some (.int .i64 a.n)
  a2 : w.cell? ⟨B, 2, none⟩ = some (.string a.s)
  r0 : w.cell? ⟨B + 1, 0, none⟩ = some (.int .i64 r.ty)
  r1 : w.cell? ⟨B + 1, 1, none⟩ = some (.int .i64 r.n)
  r2 : w.cell? ⟨B + 1, 2, none⟩ = some (.string r.s)
  f : ∀ j, w.frozen? ⟨B + 1, j, none⟩ = false
theorem Fs.below {w w' : World} {B : Nat} {a r : Va} (h : Fs w B a r) (hb : Below w.heap.size w w') : Fs w' B a r := by
  have l := h.lt
  exact ⟨Nat.lt_of_lt_of_le l hb.size, (hb.cell (p := ⟨B, 0, none⟩) (show B < _ by omega)).trans h.a0, (hb.cell (p := ⟨B, 1, none⟩) (show B < _ by omega)).trans h.a1, (hb.cell (p := ⟨B, 2, none⟩) (show B < _ by omega)).trans h.a2,
    (hb.cell (p := ⟨B + 1, 0, none⟩) l).trans h.r0, (hb.cell (p := ⟨B + 1, 1, none⟩) l).trans h.r1, (hb.cell (p := ⟨B + 1, 2, none⟩) l).trans h.r2, fun j => (hb.frozen (p := ⟨B + 1, j, none⟩) l).trans (h.f j)⟩
theorem Fs.new (w : World) (a r : Va) : Fs ((w.alloc (.cells #[.int .i64 a.ty, .int .i64 a.n, .string a.s] 23)).alloc (.cells #[.int .i64 r.ty, .int .i64 r.n, .string r.s] 23)) w.heap.size a r := by
  constructor
  all_goals go_simp
theorem valsAt_one2 (w : World) (o1 o2 : Obj) (t1 n1 : Int) (s1 : ByteArray) : valsAt (((w.alloc o1).alloc o2).alloc (.cells #[.int .i64 t1, .int .i64 n1, .string s1] 23)) (w.heap.size + 1 + 1) [⟨t1, n1, s1⟩] := by
  have h := valsAt_one ((w.alloc o1).alloc o2) t1 n1 s1
  have e : ((w.alloc o1).alloc o2).heap.size = w.heap.size + 1 + 1 := by simp
  rw [e] at h
  exact h

set_option maxHeartbeats 4000000 in
set_option maxRecDepth 1000000 in
theorem Not_any (a : Va) (w : World) (ha : a.s.size ≤ 9223372036854775807) (hT : Tabs w) :
    Calls Tryd.prog 8 #[.agg #[.int .i64 a.ty, .int .i64 a.n, .string a.s]] w fun e w' => e = .returned (.tuple #[.agg #[.int .i64 (nT a), .int .i64 (nN a), .string ⟨#[]⟩], .int .i64 (truthsE [a])]) ∧ Below w.heap.size w w' := by
  have CN : Hid (∀ g w, valsAt w g [a] → Tabs w → Calls Tryd.prog 11 #[.slice (some ⟨g, 0, none⟩) 1 1] w fun e w' => e = .returned (.int .i64 (truthsE [a])) ∧ Below w.heap.size w w') := fun g w hv ht => checkTruths_any g 1 [a] w (by simp) hv (by intro v hv; simp at hv; subst hv; assumption) ht
  have TF : Hid (∀ w, Calls Tryd.prog 13 #[.bool false] w fun e w' => e = .returned (.agg #[.int .i64 4, .int .i64 0, .string ⟨#[]⟩]) ∧ Below w.heap.size w w') := fun w => truth_any false w
  have TT : Hid (∀ w, Calls Tryd.prog 13 #[.bool true] w fun e w' => e = .returned (.agg #[.int .i64 4, .int .i64 1, .string ⟨#[]⟩]) ∧ Below w.heap.size w w') := fun w => truth_any true w
  have F0 : Hid _ := Fs.new w a ⟨0, 0, ⟨#[]⟩⟩
  have B0 : Hid _ := ((Below.refl _ w).alloc (Nat.le_refl _) (.cells #[.int .i64 a.ty, .int .i64 a.n, .string a.s] 23)).alloc (by simp) (.cells #[.int .i64 0, .int .i64 0, .string ⟨#[]⟩] 23)
  have V0 : Hid _ := valsAt_one2 w (.cells #[.int .i64 a.ty, .int .i64 a.n, .string a.s] 23) (.cells #[.int .i64 0, .int .i64 0, .string ⟨#[]⟩] 23) a.ty a.n a.s
  by_cases he : truthsE [a] = 0
  · have ga := (truths_one a).1 he
    have ka : a.ty = 0 ∨ (a.ty = 4 ∧ a.n = 0) ∨ (a.ty = 4 ∧ a.n = 1) := by unfold good at ga; omega
    clear ga
    rcases ka with xa | xa | xa
    · obtain ⟨e1, e2⟩ := n_null he xa
      rw [e1, e2, he]
      rw [he] at CN
      have h0 : (a.ty == 0) = true := by rw [beq_iff_eq]; exact xa
      clear he e1 e2 xa
      go_enter Tryd.func8, Tryd.ntmps8
      go_wp2_with fail
      refine (CN.out _ _ ?_ ?_).mono ?_
      · exact V0.out
      · exact hT.below (B0.out.alloc (by simp; omega) _)
      rintro e w1 ⟨rfl, hb1⟩
      have F1 := F0.out.below (((Below.refl _ _).alloc (Nat.le_refl _) _).trans (hb1.mono (by simp)))
      have B1 := (B0.out.alloc (by simp; omega) _).trans (hb1.mono (by simp; omega))
      clear hb1 F0 B0 V0
      obtain ⟨l1, a0, a1, a2, r0, r1, r2, hf⟩ := id F1
      go_wp2_with fail
      refine bodyPost_ret (v := .tuple #[.agg #[.int .i64 0, .int .i64 0, .string ⟨#[]⟩], .int .i64 0]) (by simp [results, Tryd.results8, go_sem, r0, r1, r2]) rfl ⟨rfl, ?_⟩
      first | exact ((B1.setCell (by simp) _).setCell (by simp) _).setCell (by simp) _ | exact B1
    · obtain ⟨e1, e2⟩ := n_zero he xa.1 xa.2
      rw [e1, e2, he]
      rw [he] at CN
      have h0 : (a.ty == 0) = false := by rw [beq_eq_false_iff_ne]; omega
      have hn : (a.n == 0) = true := by rw [beq_iff_eq]; omega
      clear he e1 e2 xa
      go_enter Tryd.func8, Tryd.ntmps8
      go_wp2_with fail
      refine (CN.out _ _ ?_ ?_).mono ?_
      · exact V0.out
      · exact hT.below (B0.out.alloc (by simp; omega) _)
      rintro e w1 ⟨rfl, hb1⟩
      have F1 := F0.out.below (((Below.refl _ _).alloc (Nat.le_refl _) _).trans (hb1.mono (by simp)))
      have B1 := (B0.out.alloc (by simp; omega) _).trans (hb1.mono (by simp; omega))
      clear hb1 F0 B0 V0
      obtain ⟨l1, a0, a1, a2, r0, r1, r2, hf⟩ := id F1
      go_wp2_with fail
      refine (TT.out _).mono ?_
      rintro e w2 ⟨rfl, hb2⟩
      have F2 := F1.below hb2
      have B2 := B1.trans (hb2.mono B1.size)
      clear l1 a0 a1 a2 r0 r1 r2 hf F1 B1 hb2
      obtain ⟨l1, a0, a1, a2, r0, r1, r2, hf⟩ := id F2
      go_wp2_with fail
      refine bodyPost_ret (v := .tuple #[.agg #[.int .i64 4, .int .i64 1, .string ⟨#[]⟩], .int .i64 0]) (by simp [results, Tryd.results8, go_sem, r0, r1, r2]) rfl ⟨rfl, ?_⟩
      first | exact ((B2.setCell (by simp) _).setCell (by simp) _).setCell (by simp) _ | exact B2
    · obtain ⟨e1, e2⟩ := n_one he xa.1 xa.2
      rw [e1, e2, he]
      rw [he] at CN
      have h0 : (a.ty == 0) = false := by rw [beq_eq_false_iff_ne]; omega
      have hn : (a.n == 0) = false := by rw [beq_eq_false_iff_ne]; omega
      clear he e1 e2 xa
      go_enter Tryd.func8, Tryd.ntmps8
      go_wp2_with fail
      refine (CN.out _ _ ?_ ?_).mono ?_
      · exact V0.out
      · exact hT.below (B0.out.alloc (by simp; omega) _)
      rintro e w1 ⟨rfl, hb1⟩
      have F1 := F0.out.below (((Below.refl _ _).alloc (Nat.le_refl _) _).trans (hb1.mono (by simp)))
      have B1 := (B0.out.alloc (by simp; omega) _).trans (hb1.mono (by simp; omega))
      clear hb1 F0 B0 V0
      obtain ⟨l1, a0, a1, a2, r0, r1, r2, hf⟩ := id F1
      go_wp2_with fail
      refine (TF.out _).mono ?_
      rintro e w2 ⟨rfl, hb2⟩
      have F2 := F1.below hb2
      have B2 := B1.trans (hb2.mono B1.size)
      clear l1 a0 a1 a2 r0 r1 r2 hf F1 B1 hb2
      obtain ⟨l1, a0, a1, a2, r0, r1, r2, hf⟩ := id F2
      go_wp2_with fail
      refine bodyPost_ret (v := .tuple #[.agg #[.int .i64 4, .int .i64 0, .string ⟨#[]⟩], .int .i64 0]) (by simp [results, Tryd.results8, go_sem, r0, r1, r2]) rfl ⟨rfl, ?_⟩
      first | exact ((B2.setCell (by simp) _).setCell (by simp) _).setCell (by simp) _ | exact B2
  · obtain ⟨e1, e2⟩ := n_err he
    rw [e1, e2]
    have hne : (truthsE [a] != 0) = true := by rw [bne_iff_ne]; exact he
    clear e1 e2
    go_enter Tryd.func8, Tryd.ntmps8
    go_wp2_with fail
    refine (CN.out _ _ ?_ ?_).mono ?_
    · exact V0.out
    · exact hT.below (B0.out.alloc (by simp; omega) _)
    rintro e w1 ⟨rfl, hb1⟩
    have F1 := F0.out.below (((Below.refl _ _).alloc (Nat.le_refl _) _).trans (hb1.mono (by simp)))
    have B1 := (B0.out.alloc (by simp; omega) _).trans (hb1.mono (by simp; omega))
    clear hb1 F0 B0 V0
    obtain ⟨l1, a0, a1, a2, r0, r1, r2, hf⟩ := id F1
    go_wp2_with fail
    refine bodyPost_ret (v := .tuple #[.agg #[.int .i64 0, .int .i64 0, .string ⟨#[]⟩], .int .i64 (truthsE [a])]) (by simp [results, Tryd.results8, go_sem, r0, r1, r2]) rfl ⟨rfl, ?_⟩
    first | exact ((B1.setCell (by simp) _).setCell (by simp) _).setCell (by simp) _ | exact B1

set_option maxHeartbeats 4000000 in
set_option maxRecDepth 1000000 in
theorem refNot_any (a : Va) (w : World) :
    Calls Tryd.prog 9 #[.agg #[.int .i64 a.ty, .int .i64 a.n, .string a.s]] w fun e w' => e = .returned (.tuple #[.agg #[.int .i64 (nT a), .int .i64 (nN a), .string ⟨#[]⟩], .int .i64 (truthsE [a])]) ∧ Below w.heap.size w w' := by
  have CN : Hid (∀ g w, valsAt w g [a] → Calls Tryd.prog 16 #[.slice (some ⟨g, 0, none⟩) 1 1] w fun e w' => e = .returned (.int .i64 (truthsE [a])) ∧ Below w.heap.size w w') := fun g w hv => three_any g 1 [a] w (by simp) hv
  have TF : Hid (∀ w, Calls Tryd.prog 17 #[.bool false] w fun e w' => e = .returned (.agg #[.int .i64 4, .int .i64 0, .string ⟨#[]⟩]) ∧ Below w.heap.size w w') := fun w => Truth_any false w
  have TT : Hid (∀ w, Calls Tryd.prog 17 #[.bool true] w fun e w' => e = .returned (.agg #[.int .i64 4, .int .i64 1, .string ⟨#[]⟩]) ∧ Below w.heap.size w w') := fun w => Truth_any true w
  have F0 : Hid _ := Fs.new w a ⟨0, 0, ⟨#[]⟩⟩
  have B0 : Hid _ := ((Below.refl _ w).alloc (Nat.le_refl _) (.cells #[.int .i64 a.ty, .int .i64 a.n, .string a.s] 23)).alloc (by simp) (.cells #[.int .i64 0, .int .i64 0, .string ⟨#[]⟩] 23)
  have V0 : Hid _ := valsAt_one2 w (.cells #[.int .i64 a.ty, .int .i64 a.n, .string a.s] 23) (.cells #[.int .i64 0, .int .i64 0, .string ⟨#[]⟩] 23) a.ty a.n a.s
  by_cases he : truthsE [a] = 0
  · have ga := (truths_one a).1 he
    have ka : a.ty = 0 ∨ (a.ty = 4 ∧ a.n = 0) ∨ (a.ty = 4 ∧ a.n = 1) := by unfold good at ga; omega
    clear ga
    rcases ka with xa | xa | xa
    · obtain ⟨e1, e2⟩ := n_null he xa
      rw [e1, e2, he]
      rw [he] at CN
      have h0 : (a.ty == 0) = true := by rw [beq_iff_eq]; exact xa
      clear he e1 e2 xa
      go_enter Tryd.func9, Tryd.ntmps9
      go_wp2_with fail
      refine (CN.out _ _ ?_).mono ?_
      · exact V0.out
      rintro e w1 ⟨rfl, hb1⟩
      have F1 := F0.out.below (((Below.refl _ _).alloc (Nat.le_refl _) _).trans (hb1.mono (by simp)))
      have B1 := (B0.out.alloc (by simp; omega) _).trans (hb1.mono (by simp; omega))
      clear hb1 F0 B0 V0
      obtain ⟨l1, a0, a1, a2, r0, r1, r2, hf⟩ := id F1
      go_wp2_with fail
      refine bodyPost_ret (v := .tuple #[.agg #[.int .i64 0, .int .i64 0, .string ⟨#[]⟩], .int .i64 0]) (by simp [results, Tryd.results9, go_sem, r0, r1, r2]) rfl ⟨rfl, ?_⟩
      first | exact ((B1.setCell (by simp) _).setCell (by simp) _).setCell (by simp) _ | exact B1
    · obtain ⟨e1, e2⟩ := n_zero he xa.1 xa.2
      rw [e1, e2, he]
      rw [he] at CN
      have h0 : (a.ty == 0) = false := by rw [beq_eq_false_iff_ne]; omega
      have hn : (a.n == 0) = true := by rw [beq_iff_eq]; omega
      clear he e1 e2 xa
      go_enter Tryd.func9, Tryd.ntmps9
      go_wp2_with fail
      refine (CN.out _ _ ?_).mono ?_
      · exact V0.out
      rintro e w1 ⟨rfl, hb1⟩
      have F1 := F0.out.below (((Below.refl _ _).alloc (Nat.le_refl _) _).trans (hb1.mono (by simp)))
      have B1 := (B0.out.alloc (by simp; omega) _).trans (hb1.mono (by simp; omega))
      clear hb1 F0 B0 V0
      obtain ⟨l1, a0, a1, a2, r0, r1, r2, hf⟩ := id F1
      go_wp2_with fail
      refine (TT.out _).mono ?_
      rintro e w2 ⟨rfl, hb2⟩
      have F2 := F1.below hb2
      have B2 := B1.trans (hb2.mono B1.size)
      clear l1 a0 a1 a2 r0 r1 r2 hf F1 B1 hb2
      obtain ⟨l1, a0, a1, a2, r0, r1, r2, hf⟩ := id F2
      go_wp2_with fail
      refine bodyPost_ret (v := .tuple #[.agg #[.int .i64 4, .int .i64 1, .string ⟨#[]⟩], .int .i64 0]) (by simp [results, Tryd.results9, go_sem, r0, r1, r2]) rfl ⟨rfl, ?_⟩
      first | exact ((B2.setCell (by simp) _).setCell (by simp) _).setCell (by simp) _ | exact B2
    · obtain ⟨e1, e2⟩ := n_one he xa.1 xa.2
      rw [e1, e2, he]
      rw [he] at CN
      have h0 : (a.ty == 0) = false := by rw [beq_eq_false_iff_ne]; omega
      have hn : (a.n == 0) = false := by rw [beq_eq_false_iff_ne]; omega
      clear he e1 e2 xa
      go_enter Tryd.func9, Tryd.ntmps9
      go_wp2_with fail
      refine (CN.out _ _ ?_).mono ?_
      · exact V0.out
      rintro e w1 ⟨rfl, hb1⟩
      have F1 := F0.out.below (((Below.refl _ _).alloc (Nat.le_refl _) _).trans (hb1.mono (by simp)))
      have B1 := (B0.out.alloc (by simp; omega) _).trans (hb1.mono (by simp; omega))
      clear hb1 F0 B0 V0
      obtain ⟨l1, a0, a1, a2, r0, r1, r2, hf⟩ := id F1
      go_wp2_with fail
      refine (TF.out _).mono ?_
      rintro e w2 ⟨rfl, hb2⟩
      have F2 := F1.below hb2
      have B2 := B1.trans (hb2.mono B1.size)
      clear l1 a0 a1 a2 r0 r1 r2 hf F1 B1 hb2
      obtain ⟨l1, a0, a1, a2, r0, r1, r2, hf⟩ := id F2
      go_wp2_with fail
      refine bodyPost_ret (v := .tuple #[.agg #[.int .i64 4, .int .i64 0, .string ⟨#[]⟩], .int .i64 0]) (by simp [results, Tryd.results9, go_sem, r0, r1, r2]) rfl ⟨rfl, ?_⟩
      first | exact ((B2.setCell (by simp) _).setCell (by simp) _).setCell (by simp) _ | exact B2
  · obtain ⟨e1, e2⟩ := n_err he
    rw [e1, e2]
    have hne : (truthsE [a] != 0) = true := by rw [bne_iff_ne]; exact he
    clear e1 e2
    go_enter Tryd.func9, Tryd.ntmps9
    go_wp2_with fail
    refine (CN.out _ _ ?_).mono ?_
    · exact V0.out
    rintro e w1 ⟨rfl, hb1⟩
    have F1 := F0.out.below (((Below.refl _ _).alloc (Nat.le_refl _) _).trans (hb1.mono (by simp)))
    have B1 := (B0.out.alloc (by simp; omega) _).trans (hb1.mono (by simp; omega))
    clear hb1 F0 B0 V0
    obtain ⟨l1, a0, a1, a2, r0, r1, r2, hf⟩ := id F1
    go_wp2_with fail
    refine bodyPost_ret (v := .tuple #[.agg #[.int .i64 0, .int .i64 0, .string ⟨#[]⟩], .int .i64 (truthsE [a])]) (by simp [results, Tryd.results9, go_sem, r0, r1, r2]) rfl ⟨rfl, ?_⟩
    first | exact ((B1.setCell (by simp) _).setCell (by simp) _).setCell (by simp) _ | exact B1

end Go.Proofs.YtmgmpkdnepomgaaDoor
