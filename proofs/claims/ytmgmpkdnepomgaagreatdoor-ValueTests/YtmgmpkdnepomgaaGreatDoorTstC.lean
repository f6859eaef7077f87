/-
  The walk of lockstepref01.Test: it tells what value.Test does.
-/
import Derived.Test.YtmgmpkdnepomgaaGreatDoorTstB
namespace Go.Proofs.YtmgmpkdnepomgaaGreatDoor
open Go.RowKit Go.Shelf

set_option maxHeartbeats 8000000 in
set_option maxRecDepth 1000000 in
theorem rT_sign (op : ByteArray) (a b : Va) (w : World)
    (SG : Hid (∀ w, Calls Tryz.prog 37 #[] w fun e w' => e = .returned (.slice (some ⟨w.heap.size, 0, none⟩) 6 6) ∧ Below w.heap.size w w' ∧ strsAt w' w.heap.size signsL))
    (IN : Hid (∀ g w, strsAt w g signsL → Calls Tryz.prog 36 #[.slice (some ⟨g, 0, none⟩) 6 6, .string op] w fun e w' => e = .returned (.bool false) ∧ w' = w))
 : Calls Tryz.prog 15 #[.string op, .agg #[.int .i64 a.ty, .int .i64 a.n, .string a.s], .agg #[.int .i64 b.ty, .int .i64 b.n, .string b.s]] w fun e w' => e = .returned (.tuple #[.agg #[.int .i64 0, .int .i64 0, .string ⟨#[]⟩], .int .i64 1]) ∧ Below w.heap.size w w' := by
  have FF : Hid _ := Fr.new w a b ⟨0, 0, ⟨#[]⟩⟩
  have BZ : Hid _ := (((Below.refl _ w).alloc (Nat.le_refl _) (.cells #[.int .i64 a.ty, .int .i64 a.n, .string a.s] 23)).alloc (by simp) (.cells #[.int .i64 b.ty, .int .i64 b.n, .string b.s] 23)).alloc (by simp; omega) (.cells #[.int .i64 0, .int .i64 0, .string ⟨#[]⟩] 23)
  go_enter Tryz.func15, Tryz.ntmps15
  go_wp2_with fail
  have F0 := FF.out
  have B0 := BZ.out
  clear FF BZ
  generalize ((w.alloc (.cells #[.int .i64 a.ty, .int .i64 a.n, .string a.s] 23)).alloc (.cells #[.int .i64 b.ty, .int .i64 b.n, .string b.s] 23)).alloc (.cells #[.int .i64 0, .int .i64 0, .string ⟨#[]⟩] 23) = w0 at *
  refine (SG.out _).mono ?_
  rintro e w1 ⟨rfl, hb1, hs1⟩
  try clear l1 a0 a1 a2 b0 b1 b2 r0 r1 r2 hf
  have F1 := F0.below hb1
  have B1 := B0.trans (hb1.mono B0.size)
  clear F0 B0 hb1
  obtain ⟨l1, a0, a1, a2, b0, b1, b2, r0, r1, r2, hf⟩ := id F1
  go_wp2_with fail
  refine (IN.out _ _ hs1).mono ?_
  rintro e wx ⟨rfl, hwx⟩; have hwx2 := hwx.symm; subst hwx2; clear hwx
  go_wp2_with fail
  refine bodyPost_ret (v := .tuple #[.agg #[.int .i64 0, .int .i64 0, .string ⟨#[]⟩], .int .i64 1]) (by simp [results, Tryz.results15, go_sem, r0, r1, r2]) rfl ⟨rfl, ?_⟩
  first | exact ((B1.setCell (by simp; omega) _).setCell (by simp; omega) _).setCell (by simp; omega) _ | exact B1 | exact (((below_drewN B1 _).setCell (by simp; omega) _).setCell (by simp; omega) _).setCell (by simp; omega) _ | exact below_drewN ((((B1.setCell (by simp; omega) _).setCell (by simp; omega) _).setCell (by simp; omega) _)) _
set_option maxHeartbeats 8000000 in
set_option maxRecDepth 1000000 in
theorem rT_errs (op : ByteArray) (a b : Va) (w : World) (E : Int) (hE : (E != 0) = true)
    (SG : Hid (∀ w, Calls Tryz.prog 37 #[] w fun e w' => e = .returned (.slice (some ⟨w.heap.size, 0, none⟩) 6 6) ∧ Below w.heap.size w w' ∧ strsAt w' w.heap.size signsL))
    (IN : Hid (∀ g w, strsAt w g signsL → Calls Tryz.prog 36 #[.slice (some ⟨g, 0, none⟩) 6 6, .string op] w fun e w' => e = .returned (.bool true) ∧ w' = w))
    (BO : Hid (∀ w, Calls Tryz.prog 38 #[.agg #[.int .i64 a.ty, .int .i64 a.n, .string a.s], .agg #[.int .i64 b.ty, .int .i64 b.n, .string b.s]] w fun e w' => e = .returned (.int .i64 E) ∧ Below w.heap.size w w'))
 : Calls Tryz.prog 15 #[.string op, .agg #[.int .i64 a.ty, .int .i64 a.n, .string a.s], .agg #[.int .i64 b.ty, .int .i64 b.n, .string b.s]] w fun e w' => e = .returned (.tuple #[.agg #[.int .i64 0, .int .i64 0, .string ⟨#[]⟩], .int .i64 E]) ∧ Below w.heap.size w w' := by
  have FF : Hid _ := Fr.new w a b ⟨0, 0, ⟨#[]⟩⟩
  have BZ : Hid _ := (((Below.refl _ w).alloc (Nat.le_refl _) (.cells #[.int .i64 a.ty, .int .i64 a.n, .string a.s] 23)).alloc (by simp) (.cells #[.int .i64 b.ty, .int .i64 b.n, .string b.s] 23)).alloc (by simp; omega) (.cells #[.int .i64 0, .int .i64 0, .string ⟨#[]⟩] 23)
  go_enter Tryz.func15, Tryz.ntmps15
  go_wp2_with fail
  have F0 := FF.out
  have B0 := BZ.out
  clear FF BZ
  generalize ((w.alloc (.cells #[.int .i64 a.ty, .int .i64 a.n, .string a.s] 23)).alloc (.cells #[.int .i64 b.ty, .int .i64 b.n, .string b.s] 23)).alloc (.cells #[.int .i64 0, .int .i64 0, .string ⟨#[]⟩] 23) = w0 at *
  refine (SG.out _).mono ?_
  rintro e w1 ⟨rfl, hb1, hs1⟩
  try clear l1 a0 a1 a2 b0 b1 b2 r0 r1 r2 hf
  have F1 := F0.below hb1
  have B1 := B0.trans (hb1.mono B0.size)
  clear F0 B0 hb1
  obtain ⟨l1, a0, a1, a2, b0, b1, b2, r0, r1, r2, hf⟩ := id F1
  go_wp2_with fail
  refine (IN.out _ _ hs1).mono ?_
  rintro e wx ⟨rfl, hwx⟩; have hwx2 := hwx.symm; subst hwx2; clear hwx
  go_wp2_with fail
  refine (BO.out _).mono ?_
  rintro e w2 ⟨rfl, hb2⟩
  try clear l1 a0 a1 a2 b0 b1 b2 r0 r1 r2 hf
  have F2 := F1.below hb2
  have B2 := B1.trans (hb2.mono B1.size)
  clear F1 B1 hb2
  obtain ⟨l1, a0, a1, a2, b0, b1, b2, r0, r1, r2, hf⟩ := id F2
  go_wp2_with fail
  refine bodyPost_ret (v := .tuple #[.agg #[.int .i64 0, .int .i64 0, .string ⟨#[]⟩], .int .i64 E]) (by simp [results, Tryz.results15, go_sem, r0, r1, r2]) rfl ⟨rfl, ?_⟩
  first | exact ((B2.setCell (by simp; omega) _).setCell (by simp; omega) _).setCell (by simp; omega) _ | exact B2 | exact (((below_drewN B2 _).setCell (by simp; omega) _).setCell (by simp; omega) _).setCell (by simp; omega) _ | exact below_drewN ((((B2.setCell (by simp; omega) _).setCell (by simp; omega) _).setCell (by simp; omega) _)) _
set_option maxHeartbeats 8000000 in
set_option maxRecDepth 1000000 in
theorem rT_fits (op : ByteArray) (a b : Va) (w : World)
    (SG : Hid (∀ w, Calls Tryz.prog 37 #[] w fun e w' => e = .returned (.slice (some ⟨w.heap.size, 0, none⟩) 6 6) ∧ Below w.heap.size w w' ∧ strsAt w' w.heap.size signsL))
    (IN : Hid (∀ g w, strsAt w g signsL → Calls Tryz.prog 36 #[.slice (some ⟨g, 0, none⟩) 6 6, .string op] w fun e w' => e = .returned (.bool true) ∧ w' = w))
    (BO : Hid (∀ w, Calls Tryz.prog 38 #[.agg #[.int .i64 a.ty, .int .i64 a.n, .string a.s], .agg #[.int .i64 b.ty, .int .i64 b.n, .string b.s]] w fun e w' => e = .returned (.int .i64 0) ∧ Below w.heap.size w w'))
    (FI : Hid (∀ w, Calls Tryz.prog 39 #[.int .i64 a.ty, .int .i64 b.ty] w fun e w' => e = .returned (.bool false) ∧ w' = w))
 : Calls Tryz.prog 15 #[.string op, .agg #[.int .i64 a.ty, .int .i64 a.n, .string a.s], .agg #[.int .i64 b.ty, .int .i64 b.n, .string b.s]] w fun e w' => e = .returned (.tuple #[.agg #[.int .i64 0, .int .i64 0, .string ⟨#[]⟩], .int .i64 7]) ∧ Below w.heap.size w w' := by
  have FF : Hid _ := Fr.new w a b ⟨0, 0, ⟨#[]⟩⟩
  have BZ : Hid _ := (((Below.refl _ w).alloc (Nat.le_refl _) (.cells #[.int .i64 a.ty, .int .i64 a.n, .string a.s] 23)).alloc (by simp) (.cells #[.int .i64 b.ty, .int .i64 b.n, .string b.s] 23)).alloc (by simp; omega) (.cells #[.int .i64 0, .int .i64 0, .string ⟨#[]⟩] 23)
  go_enter Tryz.func15, Tryz.ntmps15
  go_wp2_with fail
  have F0 := FF.out
  have B0 := BZ.out
  clear FF BZ
  generalize ((w.alloc (.cells #[.int .i64 a.ty, .int .i64 a.n, .string a.s] 23)).alloc (.cells #[.int .i64 b.ty, .int .i64 b.n, .string b.s] 23)).alloc (.cells #[.int .i64 0, .int .i64 0, .string ⟨#[]⟩] 23) = w0 at *
  refine (SG.out _).mono ?_
  rintro e w1 ⟨rfl, hb1, hs1⟩
  try clear l1 a0 a1 a2 b0 b1 b2 r0 r1 r2 hf
  have F1 := F0.below hb1
  have B1 := B0.trans (hb1.mono B0.size)
  clear F0 B0 hb1
  obtain ⟨l1, a0, a1, a2, b0, b1, b2, r0, r1, r2, hf⟩ := id F1
  go_wp2_with fail
  refine (IN.out _ _ hs1).mono ?_
  rintro e wx ⟨rfl, hwx⟩; have hwx2 := hwx.symm; subst hwx2; clear hwx
  go_wp2_with fail
  refine (BO.out _).mono ?_
  rintro e w2 ⟨rfl, hb2⟩
  try clear l1 a0 a1 a2 b0 b1 b2 r0 r1 r2 hf
  have F2 := F1.below hb2
  have B2 := B1.trans (hb2.mono B1.size)
  clear F1 B1 hb2
  obtain ⟨l1, a0, a1, a2, b0, b1, b2, r0, r1, r2, hf⟩ := id F2
  go_wp2_with fail
  refine (FI.out _).mono ?_
  rintro e wx ⟨rfl, hwx⟩; have hwx2 := hwx.symm; subst hwx2; clear hwx
  go_wp2_with fail
  refine bodyPost_ret (v := .tuple #[.agg #[.int .i64 0, .int .i64 0, .string ⟨#[]⟩], .int .i64 7]) (by simp [results, Tryz.results15, go_sem, r0, r1, r2]) rfl ⟨rfl, ?_⟩
  first | exact ((B2.setCell (by simp; omega) _).setCell (by simp; omega) _).setCell (by simp; omega) _ | exact B2 | exact (((below_drewN B2 _).setCell (by simp; omega) _).setCell (by simp; omega) _).setCell (by simp; omega) _ | exact below_drewN ((((B2.setCell (by simp; omega) _).setCell (by simp; omega) _).setCell (by simp; omega) _)) _
set_option maxHeartbeats 8000000 in
set_option maxRecDepth 1000000 in
theorem rT_null1 (op : ByteArray) (a b : Va) (w : World) (h0 : (a.ty == 0) = true)
    (SG : Hid (∀ w, Calls Tryz.prog 37 #[] w fun e w' => e = .returned (.slice (some ⟨w.heap.size, 0, none⟩) 6 6) ∧ Below w.heap.size w w' ∧ strsAt w' w.heap.size signsL))
    (IN : Hid (∀ g w, strsAt w g signsL → Calls Tryz.prog 36 #[.slice (some ⟨g, 0, none⟩) 6 6, .string op] w fun e w' => e = .returned (.bool true) ∧ w' = w))
    (BO : Hid (∀ w, Calls Tryz.prog 38 #[.agg #[.int .i64 a.ty, .int .i64 a.n, .string a.s], .agg #[.int .i64 b.ty, .int .i64 b.n, .string b.s]] w fun e w' => e = .returned (.int .i64 0) ∧ Below w.heap.size w w'))
    (FI : Hid (∀ w, Calls Tryz.prog 39 #[.int .i64 a.ty, .int .i64 b.ty] w fun e w' => e = .returned (.bool true) ∧ w' = w))
 : Calls Tryz.prog 15 #[.string op, .agg #[.int .i64 a.ty, .int .i64 a.n, .string a.s], .agg #[.int .i64 b.ty, .int .i64 b.n, .string b.s]] w fun e w' => e = .returned (.tuple #[.agg #[.int .i64 0, .int .i64 0, .string ⟨#[]⟩], .int .i64 0]) ∧ Below w.heap.size w w' := by
  have FF : Hid _ := Fr.new w a b ⟨0, 0, ⟨#[]⟩⟩
  have BZ : Hid _ := (((Below.refl _ w).alloc (Nat.le_refl _) (.cells #[.int .i64 a.ty, .int .i64 a.n, .string a.s] 23)).alloc (by simp) (.cells #[.int .i64 b.ty, .int .i64 b.n, .string b.s] 23)).alloc (by simp; omega) (.cells #[.int .i64 0, .int .i64 0, .string ⟨#[]⟩] 23)
  go_enter Tryz.func15, Tryz.ntmps15
  go_wp2_with fail
  have F0 := FF.out
  have B0 := BZ.out
  clear FF BZ
  generalize ((w.alloc (.cells #[.int .i64 a.ty, .int .i64 a.n, .string a.s] 23)).alloc (.cells #[.int .i64 b.ty, .int .i64 b.n, .string b.s] 23)).alloc (.cells #[.int .i64 0, .int .i64 0, .string ⟨#[]⟩] 23) = w0 at *
  refine (SG.out _).mono ?_
  rintro e w1 ⟨rfl, hb1, hs1⟩
  try clear l1 a0 a1 a2 b0 b1 b2 r0 r1 r2 hf
  have F1 := F0.below hb1
  have B1 := B0.trans (hb1.mono B0.size)
  clear F0 B0 hb1
  obtain ⟨l1, a0, a1, a2, b0, b1, b2, r0, r1, r2, hf⟩ := id F1
  go_wp2_with fail
  refine (IN.out _ _ hs1).mono ?_
  rintro e wx ⟨rfl, hwx⟩; have hwx2 := hwx.symm; subst hwx2; clear hwx
  go_wp2_with fail
  refine (BO.out _).mono ?_
  rintro e w2 ⟨rfl, hb2⟩
  try clear l1 a0 a1 a2 b0 b1 b2 r0 r1 r2 hf
  have F2 := F1.below hb2
  have B2 := B1.trans (hb2.mono B1.size)
  clear F1 B1 hb2
  obtain ⟨l1, a0, a1, a2, b0, b1, b2, r0, r1, r2, hf⟩ := id F2
  go_wp2_with fail
  refine (FI.out _).mono ?_
  rintro e wx ⟨rfl, hwx⟩; have hwx2 := hwx.symm; subst hwx2; clear hwx
  go_wp2_with fail
  refine bodyPost_ret (v := .tuple #[.agg #[.int .i64 0, .int .i64 0, .string ⟨#[]⟩], .int .i64 0]) (by simp [results, Tryz.results15, go_sem, r0, r1, r2]) rfl ⟨rfl, ?_⟩
  first | exact ((B2.setCell (by simp; omega) _).setCell (by simp; omega) _).setCell (by simp; omega) _ | exact B2 | exact (((below_drewN B2 _).setCell (by simp; omega) _).setCell (by simp; omega) _).setCell (by simp; omega) _ | exact below_drewN ((((B2.setCell (by simp; omega) _).setCell (by simp; omega) _).setCell (by simp; omega) _)) _
set_option maxHeartbeats 8000000 in
set_option maxRecDepth 1000000 in
theorem rT_null2 (op : ByteArray) (a b : Va) (w : World) (h0 : (a.ty == 0) = false) (h1 : (b.ty == 0) = true)
    (SG : Hid (∀ w, Calls Tryz.prog 37 #[] w fun e w' => e = .returned (.slice (some ⟨w.heap.size, 0, none⟩) 6 6) ∧ Below w.heap.size w w' ∧ strsAt w' w.heap.size signsL))
    (IN : Hid (∀ g w, strsAt w g signsL → Calls Tryz.prog 36 #[.slice (some ⟨g, 0, none⟩) 6 6, .string op] w fun e w' => e = .returned (.bool true) ∧ w' = w))
    (BO : Hid (∀ w, Calls Tryz.prog 38 #[.agg #[.int .i64 a.ty, .int .i64 a.n, .string a.s], .agg #[.int .i64 b.ty, .int .i64 b.n, .string b.s]] w fun e w' => e = .returned (.int .i64 0) ∧ Below w.heap.size w w'))
    (FI : Hid (∀ w, Calls Tryz.prog 39 #[.int .i64 a.ty, .int .i64 b.ty] w fun e w' => e = .returned (.bool true) ∧ w' = w))
 : Calls Tryz.prog 15 #[.string op, .agg #[.int .i64 a.ty, .int .i64 a.n, .string a.s], .agg #[.int .i64 b.ty, .int .i64 b.n, .string b.s]] w fun e w' => e = .returned (.tuple #[.agg #[.int .i64 0, .int .i64 0, .string ⟨#[]⟩], .int .i64 0]) ∧ Below w.heap.size w w' := by
  have FF : Hid _ := Fr.new w a b ⟨0, 0, ⟨#[]⟩⟩
  have BZ : Hid _ := (((Below.refl _ w).alloc (Nat.le_refl _) (.cells #[.int .i64 a.ty, .int .i64 a.n, .string a.s] 23)).alloc (by simp) (.cells #[.int .i64 b.ty, .int .i64 b.n, .string b.s] 23)).alloc (by simp; omega) (.cells #[.int .i64 0, .int .i64 0, .string ⟨#[]⟩] 23)
  go_enter Tryz.func15, Tryz.ntmps15
  go_wp2_with fail
  have F0 := FF.out
  have B0 := BZ.out
  clear FF BZ
  generalize ((w.alloc (.cells #[.int .i64 a.ty, .int .i64 a.n, .string a.s] 23)).alloc (.cells #[.int .i64 b.ty, .int .i64 b.n, .string b.s] 23)).alloc (.cells #[.int .i64 0, .int .i64 0, .string ⟨#[]⟩] 23) = w0 at *
  refine (SG.out _).mono ?_
  rintro e w1 ⟨rfl, hb1, hs1⟩
  try clear l1 a0 a1 a2 b0 b1 b2 r0 r1 r2 hf
  have F1 := F0.below hb1
  have B1 := B0.trans (hb1.mono B0.size)
  clear F0 B0 hb1
  obtain ⟨l1, a0, a1, a2, b0, b1, b2, r0, r1, r2, hf⟩ := id F1
  go_wp2_with fail
  refine (IN.out _ _ hs1).mono ?_
  rintro e wx ⟨rfl, hwx⟩; have hwx2 := hwx.symm; subst hwx2; clear hwx
  go_wp2_with fail
  refine (BO.out _).mono ?_
  rintro e w2 ⟨rfl, hb2⟩
  try clear l1 a0 a1 a2 b0 b1 b2 r0 r1 r2 hf
  have F2 := F1.below hb2
  have B2 := B1.trans (hb2.mono B1.size)
  clear F1 B1 hb2
  obtain ⟨l1, a0, a1, a2, b0, b1, b2, r0, r1, r2, hf⟩ := id F2
  go_wp2_with fail
  refine (FI.out _).mono ?_
  rintro e wx ⟨rfl, hwx⟩; have hwx2 := hwx.symm; subst hwx2; clear hwx
  go_wp2_with fail
  refine bodyPost_ret (v := .tuple #[.agg #[.int .i64 0, .int .i64 0, .string ⟨#[]⟩], .int .i64 0]) (by simp [results, Tryz.results15, go_sem, r0, r1, r2]) rfl ⟨rfl, ?_⟩
  first | exact ((B2.setCell (by simp; omega) _).setCell (by simp; omega) _).setCell (by simp; omega) _ | exact B2 | exact (((below_drewN B2 _).setCell (by simp; omega) _).setCell (by simp; omega) _).setCell (by simp; omega) _ | exact below_drewN ((((B2.setCell (by simp; omega) _).setCell (by simp; omega) _).setCell (by simp; omega) _)) _
set_option maxHeartbeats 8000000 in
set_option maxRecDepth 1000000 in
theorem rT_00 (a b : Va) (w : World) (c : Int) (v : Bool) (hv : (c == 0) = v) (h0 : (a.ty == 0) = false) (h1 : (b.ty == 0) = false)
    (SG : Hid (∀ w, Calls Tryz.prog 37 #[] w fun e w' => e = .returned (.slice (some ⟨w.heap.size, 0, none⟩) 6 6) ∧ Below w.heap.size w w' ∧ strsAt w' w.heap.size signsL))
    (IN : Hid (∀ g w, strsAt w g signsL → Calls Tryz.prog 36 #[.slice (some ⟨g, 0, none⟩) 6 6, .string ⟨#[61]⟩] w fun e w' => e = .returned (.bool true) ∧ w' = w))
    (BO : Hid (∀ w, Calls Tryz.prog 38 #[.agg #[.int .i64 a.ty, .int .i64 a.n, .string a.s], .agg #[.int .i64 b.ty, .int .i64 b.n, .string b.s]] w fun e w' => e = .returned (.int .i64 0) ∧ Below w.heap.size w w'))
    (FI : Hid (∀ w, Calls Tryz.prog 39 #[.int .i64 a.ty, .int .i64 b.ty] w fun e w' => e = .returned (.bool true) ∧ w' = w))
    (TR : Hid (∀ x w, Calls Tryz.prog 41 #[.bool x] w fun e w' => e = .returned (.agg #[.int .i64 4, .int .i64 (bI x), .string ⟨#[]⟩]) ∧ Below w.heap.size w w'))
    (NU : Hid (∀ w, Calls Tryz.prog 40 #[.agg #[.int .i64 a.ty, .int .i64 a.n, .string a.s]] w fun e w' => e = .returned (.bool false) ∧ Below w.heap.size w w'))
    (CO : Hid (∀ w, Calls Tryz.prog 8 #[.agg #[.int .i64 a.ty, .int .i64 a.n, .string a.s], .agg #[.int .i64 b.ty, .int .i64 b.n, .string b.s]] w fun e w' => e = .returned (.int .i64 c) ∧ Below w.heap.size w w'))
 : Calls Tryz.prog 15 #[.string ⟨#[61]⟩, .agg #[.int .i64 a.ty, .int .i64 a.n, .string a.s], .agg #[.int .i64 b.ty, .int .i64 b.n, .string b.s]] w fun e w' => e = .returned (.tuple #[.agg #[.int .i64 4, .int .i64 (bI v), .string ⟨#[]⟩], .int .i64 0]) ∧ Below w.heap.size w w' := by
  have FF : Hid _ := Fr.new w a b ⟨0, 0, ⟨#[]⟩⟩
  have BZ : Hid _ := (((Below.refl _ w).alloc (Nat.le_refl _) (.cells #[.int .i64 a.ty, .int .i64 a.n, .string a.s] 23)).alloc (by simp) (.cells #[.int .i64 b.ty, .int .i64 b.n, .string b.s] 23)).alloc (by simp; omega) (.cells #[.int .i64 0, .int .i64 0, .string ⟨#[]⟩] 23)
  cases v
  · go_enter Tryz.func15, Tryz.ntmps15
    go_wp2_with fail
    have F0 := FF.out
    have B0 := BZ.out
    clear FF BZ
    generalize ((w.alloc (.cells #[.int .i64 a.ty, .int .i64 a.n, .string a.s] 23)).alloc (.cells #[.int .i64 b.ty, .int .i64 b.n, .string b.s] 23)).alloc (.cells #[.int .i64 0, .int .i64 0, .string ⟨#[]⟩] 23) = w0 at *
    refine (SG.out _).mono ?_
    rintro e w1 ⟨rfl, hb1, hs1⟩
    try clear l1 a0 a1 a2 b0 b1 b2 r0 r1 r2 hf
    have F1 := F0.below hb1
    have B1 := B0.trans (hb1.mono B0.size)
    clear F0 B0 hb1
    obtain ⟨l1, a0, a1, a2, b0, b1, b2, r0, r1, r2, hf⟩ := id F1
    go_wp2_with fail
    refine (IN.out _ _ hs1).mono ?_
    rintro e wx ⟨rfl, hwx⟩; have hwx2 := hwx.symm; subst hwx2; clear hwx
    go_wp2_with fail
    refine (BO.out _).mono ?_
    rintro e w2 ⟨rfl, hb2⟩
    try clear l1 a0 a1 a2 b0 b1 b2 r0 r1 r2 hf
    have F2 := F1.below hb2
    have B2 := B1.trans (hb2.mono B1.size)
    clear F1 B1 hb2
    obtain ⟨l1, a0, a1, a2, b0, b1, b2, r0, r1, r2, hf⟩ := id F2
    go_wp2_with fail
    refine (FI.out _).mono ?_
    rintro e wx ⟨rfl, hwx⟩; have hwx2 := hwx.symm; subst hwx2; clear hwx
    go_wp2_with fail
    refine (NU.out _).mono ?_
    rintro e w3 ⟨rfl, hb3⟩
    try clear l1 a0 a1 a2 b0 b1 b2 r0 r1 r2 hf
    have F3 := F2.below hb3
    have B3 := B2.trans (hb3.mono B2.size)
    clear F2 B2 hb3
    obtain ⟨l1, a0, a1, a2, b0, b1, b2, r0, r1, r2, hf⟩ := id F3
    go_wp2_with fail
    refine (CO.out _).mono ?_
    rintro e w4 ⟨rfl, hb4⟩
    try clear l1 a0 a1 a2 b0 b1 b2 r0 r1 r2 hf
    have F4 := F3.below hb4
    have B4 := B3.trans (hb4.mono B3.size)
    clear F3 B3 hb4
    obtain ⟨l1, a0, a1, a2, b0, b1, b2, r0, r1, r2, hf⟩ := id F4
    go_wp2_with fail
    refine (TR.out _ _).mono ?_
    rintro e w5 ⟨rfl, hb5⟩
    try clear l1 a0 a1 a2 b0 b1 b2 r0 r1 r2 hf
    have F5 := F4.below hb5
    have B5 := B4.trans (hb5.mono B4.size)
    clear F4 B4 hb5
    obtain ⟨l1, a0, a1, a2, b0, b1, b2, r0, r1, r2, hf⟩ := id F5
    go_wp2_with fail
    refine bodyPost_ret (v := .tuple #[.agg #[.int .i64 4, .int .i64 (bI false), .string ⟨#[]⟩], .int .i64 0]) (by simp [results, Tryz.results15, go_sem, r0, r1, r2]) rfl ⟨rfl, ?_⟩
    first | exact ((B5.setCell (by simp; omega) _).setCell (by simp; omega) _).setCell (by simp; omega) _ | exact B5 | exact (((below_drewN B5 _).setCell (by simp; omega) _).setCell (by simp; omega) _).setCell (by simp; omega) _ | exact below_drewN ((((B5.setCell (by simp; omega) _).setCell (by simp; omega) _).setCell (by simp; omega) _)) _
  · go_enter Tryz.func15, Tryz.ntmps15
    go_wp2_with fail
    have F0 := FF.out
    have B0 := BZ.out
    clear FF BZ
    generalize ((w.alloc (.cells #[.int .i64 a.ty, .int .i64 a.n, .string a.s] 23)).alloc (.cells #[.int .i64 b.ty, .int .i64 b.n, .string b.s] 23)).alloc (.cells #[.int .i64 0, .int .i64 0, .string ⟨#[]⟩] 23) = w0 at *
    refine (SG.out _).mono ?_
    rintro e w1 ⟨rfl, hb1, hs1⟩
    try clear l1 a0 a1 a2 b0 b1 b2 r0 r1 r2 hf
    have F1 := F0.below hb1
    have B1 := B0.trans (hb1.mono B0.size)
    clear F0 B0 hb1
    obtain ⟨l1, a0, a1, a2, b0, b1, b2, r0, r1, r2, hf⟩ := id F1
    go_wp2_with fail
    refine (IN.out _ _ hs1).mono ?_
    rintro e wx ⟨rfl, hwx⟩; have hwx2 := hwx.symm; subst hwx2; clear hwx
    go_wp2_with fail
    refine (BO.out _).mono ?_
    rintro e w2 ⟨rfl, hb2⟩
    try clear l1 a0 a1 a2 b0 b1 b2 r0 r1 r2 hf
    have F2 := F1.below hb2
    have B2 := B1.trans (hb2.mono B1.size)
    clear F1 B1 hb2
    obtain ⟨l1, a0, a1, a2, b0, b1, b2, r0, r1, r2, hf⟩ := id F2
    go_wp2_with fail
    refine (FI.out _).mono ?_
    rintro e wx ⟨rfl, hwx⟩; have hwx2 := hwx.symm; subst hwx2; clear hwx
    go_wp2_with fail
    refine (NU.out _).mono ?_
    rintro e w3 ⟨rfl, hb3⟩
    try clear l1 a0 a1 a2 b0 b1 b2 r0 r1 r2 hf
    have F3 := F2.below hb3
    have B3 := B2.trans (hb3.mono B2.size)
    clear F2 B2 hb3
    obtain ⟨l1, a0, a1, a2, b0, b1, b2, r0, r1, r2, hf⟩ := id F3
    go_wp2_with fail
    refine (CO.out _).mono ?_
    rintro e w4 ⟨rfl, hb4⟩
    try clear l1 a0 a1 a2 b0 b1 b2 r0 r1 r2 hf
    have F4 := F3.below hb4
    have B4 := B3.trans (hb4.mono B3.size)
    clear F3 B3 hb4
    obtain ⟨l1, a0, a1, a2, b0, b1, b2, r0, r1, r2, hf⟩ := id F4
    go_wp2_with fail
    refine (TR.out _ _).mono ?_
    rintro e w5 ⟨rfl, hb5⟩
    try clear l1 a0 a1 a2 b0 b1 b2 r0 r1 r2 hf
    have F5 := F4.below hb5
    have B5 := B4.trans (hb5.mono B4.size)
    clear F4 B4 hb5
    obtain ⟨l1, a0, a1, a2, b0, b1, b2, r0, r1, r2, hf⟩ := id F5
    go_wp2_with fail
    refine bodyPost_ret (v := .tuple #[.agg #[.int .i64 4, .int .i64 (bI true), .string ⟨#[]⟩], .int .i64 0]) (by simp [results, Tryz.results15, go_sem, r0, r1, r2]) rfl ⟨rfl, ?_⟩
    first | exact ((B5.setCell (by simp; omega) _).setCell (by simp; omega) _).setCell (by simp; omega) _ | exact B5 | exact (((below_drewN B5 _).setCell (by simp; omega) _).setCell (by simp; omega) _).setCell (by simp; omega) _ | exact below_drewN ((((B5.setCell (by simp; omega) _).setCell (by simp; omega) _).setCell (by simp; omega) _)) _
set_option maxHeartbeats 8000000 in
set_option maxRecDepth 1000000 in
theorem rT_01 (a b : Va) (w : World) (c : Int) (v : Bool) (hv : (c == 0) = v) (h0 : (a.ty == 0) = false) (h1 : (b.ty == 0) = false)
    (SG : Hid (∀ w, Calls Tryz.prog 37 #[] w fun e w' => e = .returned (.slice (some ⟨w.heap.size, 0, none⟩) 6 6) ∧ Below w.heap.size w w' ∧ strsAt w' w.heap.size signsL))
    (IN : Hid (∀ g w, strsAt w g signsL → Calls Tryz.prog 36 #[.slice (some ⟨g, 0, none⟩) 6 6, .string ⟨#[61]⟩] w fun e w' => e = .returned (.bool true) ∧ w' = w))
    (BO : Hid (∀ w, Calls Tryz.prog 38 #[.agg #[.int .i64 a.ty, .int .i64 a.n, .string a.s], .agg #[.int .i64 b.ty, .int .i64 b.n, .string b.s]] w fun e w' => e = .returned (.int .i64 0) ∧ Below w.heap.size w w'))
    (FI : Hid (∀ w, Calls Tryz.prog 39 #[.int .i64 a.ty, .int .i64 b.ty] w fun e w' => e = .returned (.bool true) ∧ w' = w))
    (TR : Hid (∀ x w, Calls Tryz.prog 41 #[.bool x] w fun e w' => e = .returned (.agg #[.int .i64 4, .int .i64 (bI x), .string ⟨#[]⟩]) ∧ Below w.heap.size w w'))
    (NU : Hid (∀ w, Calls Tryz.prog 40 #[.agg #[.int .i64 a.ty, .int .i64 a.n, .string a.s]] w fun e w' => e = .returned (.bool true) ∧ Below w.heap.size w w'))
    (CO : Hid (∀ w, Calls Tryz.prog 26 #[.agg #[.int .i64 a.ty, .int .i64 a.n, .string a.s], .agg #[.int .i64 b.ty, .int .i64 b.n, .string b.s]] w fun e w' => e = .returned (.int .i64 c) ∧ Below w.heap.size w w'))
 : Calls Tryz.prog 15 #[.string ⟨#[61]⟩, .agg #[.int .i64 a.ty, .int .i64 a.n, .string a.s], .agg #[.int .i64 b.ty, .int .i64 b.n, .string b.s]] w fun e w' => e = .returned (.tuple #[.agg #[.int .i64 4, .int .i64 (bI v), .string ⟨#[]⟩], .int .i64 0]) ∧ Below w.heap.size w w' := by
  have FF : Hid _ := Fr.new w a b ⟨0, 0, ⟨#[]⟩⟩
  have BZ : Hid _ := (((Below.refl _ w).alloc (Nat.le_refl _) (.cells #[.int .i64 a.ty, .int .i64 a.n, .string a.s] 23)).alloc (by simp) (.cells #[.int .i64 b.ty, .int .i64 b.n, .string b.s] 23)).alloc (by simp; omega) (.cells #[.int .i64 0, .int .i64 0, .string ⟨#[]⟩] 23)
  cases v
  · go_enter Tryz.func15, Tryz.ntmps15
    go_wp2_with fail
    have F0 := FF.out
    have B0 := BZ.out
    clear FF BZ
    generalize ((w.alloc (.cells #[.int .i64 a.ty, .int .i64 a.n, .string a.s] 23)).alloc (.cells #[.int .i64 b.ty, .int .i64 b.n, .string b.s] 23)).alloc (.cells #[.int .i64 0, .int .i64 0, .string ⟨#[]⟩] 23) = w0 at *
    refine (SG.out _).mono ?_
    rintro e w1 ⟨rfl, hb1, hs1⟩
    try clear l1 a0 a1 a2 b0 b1 b2 r0 r1 r2 hf
    have F1 := F0.below hb1
    have B1 := B0.trans (hb1.mono B0.size)
    clear F0 B0 hb1
    obtain ⟨l1, a0, a1, a2, b0, b1, b2, r0, r1, r2, hf⟩ := id F1
    go_wp2_with fail
    refine (IN.out _ _ hs1).mono ?_
    rintro e wx ⟨rfl, hwx⟩; have hwx2 := hwx.symm; subst hwx2; clear hwx
    go_wp2_with fail
    refine (BO.out _).mono ?_
    rintro e w2 ⟨rfl, hb2⟩
    try clear l1 a0 a1 a2 b0 b1 b2 r0 r1 r2 hf
    have F2 := F1.below hb2
    have B2 := B1.trans (hb2.mono B1.size)
    clear F1 B1 hb2
    obtain ⟨l1, a0, a1, a2, b0, b1, b2, r0, r1, r2, hf⟩ := id F2
    go_wp2_with fail
    refine (FI.out _).mono ?_
    rintro e wx ⟨rfl, hwx⟩; have hwx2 := hwx.symm; subst hwx2; clear hwx
    go_wp2_with fail
    refine (NU.out _).mono ?_
    rintro e w3 ⟨rfl, hb3⟩
    try clear l1 a0 a1 a2 b0 b1 b2 r0 r1 r2 hf
    have F3 := F2.below hb3
    have B3 := B2.trans (hb3.mono B2.size)
    clear F2 B2 hb3
    obtain ⟨l1, a0, a1, a2, b0, b1, b2, r0, r1, r2, hf⟩ := id F3
    go_wp2_with fail
    refine (CO.out _).mono ?_
    rintro e w4 ⟨rfl, hb4⟩
    try clear l1 a0 a1 a2 b0 b1 b2 r0 r1 r2 hf
    have F4 := F3.below hb4
    have B4 := B3.trans (hb4.mono B3.size)
    clear F3 B3 hb4
    obtain ⟨l1, a0, a1, a2, b0, b1, b2, r0, r1, r2, hf⟩ := id F4
    go_wp2_with fail
    refine (TR.out _ _).mono ?_
    rintro e w5 ⟨rfl, hb5⟩
    try clear l1 a0 a1 a2 b0 b1 b2 r0 r1 r2 hf
    have F5 := F4.below hb5
    have B5 := B4.trans (hb5.mono B4.size)
    clear F4 B4 hb5
    obtain ⟨l1, a0, a1, a2, b0, b1, b2, r0, r1, r2, hf⟩ := id F5
    go_wp2_with fail
    refine bodyPost_ret (v := .tuple #[.agg #[.int .i64 4, .int .i64 (bI false), .string ⟨#[]⟩], .int .i64 0]) (by simp [results, Tryz.results15, go_sem, r0, r1, r2]) rfl ⟨rfl, ?_⟩
    first | exact ((B5.setCell (by simp; omega) _).setCell (by simp; omega) _).setCell (by simp; omega) _ | exact B5 | exact (((below_drewN B5 _).setCell (by simp; omega) _).setCell (by simp; omega) _).setCell (by simp; omega) _ | exact below_drewN ((((B5.setCell (by simp; omega) _).setCell (by simp; omega) _).setCell (by simp; omega) _)) _
  · go_enter Tryz.func15, Tryz.ntmps15
    go_wp2_with fail
    have F0 := FF.out
    have B0 := BZ.out
    clear FF BZ
    generalize ((w.alloc (.cells #[.int .i64 a.ty, .int .i64 a.n, .string a.s] 23)).alloc (.cells #[.int .i64 b.ty, .int .i64 b.n, .string b.s] 23)).alloc (.cells #[.int .i64 0, .int .i64 0, .string ⟨#[]⟩] 23) = w0 at *
    refine (SG.out _).mono ?_
    rintro e w1 ⟨rfl, hb1, hs1⟩
    try clear l1 a0 a1 a2 b0 b1 b2 r0 r1 r2 hf
    have F1 := F0.below hb1
    have B1 := B0.trans (hb1.mono B0.size)
    clear F0 B0 hb1
    obtain ⟨l1, a0, a1, a2, b0, b1, b2, r0, r1, r2, hf⟩ := id F1
    go_wp2_with fail
    refine (IN.out _ _ hs1).mono ?_
    rintro e wx ⟨rfl, hwx⟩; have hwx2 := hwx.symm; subst hwx2; clear hwx
    go_wp2_with fail
    refine (BO.out _).mono ?_
    rintro e w2 ⟨rfl, hb2⟩
    try clear l1 a0 a1 a2 b0 b1 b2 r0 r1 r2 hf
    have F2 := F1.below hb2
    have B2 := B1.trans (hb2.mono B1.size)
    clear F1 B1 hb2
    obtain ⟨l1, a0, a1, a2, b0, b1, b2, r0, r1, r2, hf⟩ := id F2
    go_wp2_with fail
    refine (FI.out _).mono ?_
    rintro e wx ⟨rfl, hwx⟩; have hwx2 := hwx.symm; subst hwx2; clear hwx
    go_wp2_with fail
    refine (NU.out _).mono ?_
    rintro e w3 ⟨rfl, hb3⟩
    try clear l1 a0 a1 a2 b0 b1 b2 r0 r1 r2 hf
    have F3 := F2.below hb3
    have B3 := B2.trans (hb3.mono B2.size)
    clear F2 B2 hb3
    obtain ⟨l1, a0, a1, a2, b0, b1, b2, r0, r1, r2, hf⟩ := id F3
    go_wp2_with fail
    refine (CO.out _).mono ?_
    rintro e w4 ⟨rfl, hb4⟩
    try clear l1 a0 a1 a2 b0 b1 b2 r0 r1 r2 hf
    have F4 := F3.below hb4
    have B4 := B3.trans (hb4.mono B3.size)
    clear F3 B3 hb4
    obtain ⟨l1, a0, a1, a2, b0, b1, b2, r0, r1, r2, hf⟩ := id F4
    go_wp2_with fail
    refine (TR.out _ _).mono ?_
    rintro e w5 ⟨rfl, hb5⟩
    try clear l1 a0 a1 a2 b0 b1 b2 r0 r1 r2 hf
    have F5 := F4.below hb5
    have B5 := B4.trans (hb5.mono B4.size)
    clear F4 B4 hb5
    obtain ⟨l1, a0, a1, a2, b0, b1, b2, r0, r1, r2, hf⟩ := id F5
    go_wp2_with fail
    refine bodyPost_ret (v := .tuple #[.agg #[.int .i64 4, .int .i64 (bI true), .string ⟨#[]⟩], .int .i64 0]) (by simp [results, Tryz.results15, go_sem, r0, r1, r2]) rfl ⟨rfl, ?_⟩
    first | exact ((B5.setCell (by simp; omega) _).setCell (by simp; omega) _).setCell (by simp; omega) _ | exact B5 | exact (((below_drewN B5 _).setCell (by simp; omega) _).setCell (by simp; omega) _).setCell (by simp; omega) _ | exact below_drewN ((((B5.setCell (by simp; omega) _).setCell (by simp; omega) _).setCell (by simp; omega) _)) _
set_option maxHeartbeats 8000000 in
set_option maxRecDepth 1000000 in
theorem rT_10 (a b : Va) (w : World) (c : Int) (v : Bool) (hv : (c != 0) = v) (h0 : (a.ty == 0) = false) (h1 : (b.ty == 0) = false)
    (SG : Hid (∀ w, Calls Tryz.prog 37 #[] w fun e w' => e = .returned (.slice (some ⟨w.heap.size, 0, none⟩) 6 6) ∧ Below w.heap.size w w' ∧ strsAt w' w.heap.size signsL))
    (IN : Hid (∀ g w, strsAt w g signsL → Calls Tryz.prog 36 #[.slice (some ⟨g, 0, none⟩) 6 6, .string ⟨#[60, 62]⟩] w fun e w' => e = .returned (.bool true) ∧ w' = w))
    (BO : Hid (∀ w, Calls Tryz.prog 38 #[.agg #[.int .i64 a.ty, .int .i64 a.n, .string a.s], .agg #[.int .i64 b.ty, .int .i64 b.n, .string b.s]] w fun e w' => e = .returned (.int .i64 0) ∧ Below w.heap.size w w'))
    (FI : Hid (∀ w, Calls Tryz.prog 39 #[.int .i64 a.ty, .int .i64 b.ty] w fun e w' => e = .returned (.bool true) ∧ w' = w))
    (TR : Hid (∀ x w, Calls Tryz.prog 41 #[.bool x] w fun e w' => e = .returned (.agg #[.int .i64 4, .int .i64 (bI x), .string ⟨#[]⟩]) ∧ Below w.heap.size w w'))
    (NU : Hid (∀ w, Calls Tryz.prog 40 #[.agg #[.int .i64 a.ty, .int .i64 a.n, .string a.s]] w fun e w' => e = .returned (.bool false) ∧ Below w.heap.size w w'))
    (CO : Hid (∀ w, Calls Tryz.prog 8 #[.agg #[.int .i64 a.ty, .int .i64 a.n, .string a.s], .agg #[.int .i64 b.ty, .int .i64 b.n, .string b.s]] w fun e w' => e = .returned (.int .i64 c) ∧ Below w.heap.size w w'))
 : Calls Tryz.prog 15 #[.string ⟨#[60, 62]⟩, .agg #[.int .i64 a.ty, .int .i64 a.n, .string a.s], .agg #[.int .i64 b.ty, .int .i64 b.n, .string b.s]] w fun e w' => e = .returned (.tuple #[.agg #[.int .i64 4, .int .i64 (bI v), .string ⟨#[]⟩], .int .i64 0]) ∧ Below w.heap.size w w' := by
  have FF : Hid _ := Fr.new w a b ⟨0, 0, ⟨#[]⟩⟩
  have BZ : Hid _ := (((Below.refl _ w).alloc (Nat.le_refl _) (.cells #[.int .i64 a.ty, .int .i64 a.n, .string a.s] 23)).alloc (by simp) (.cells #[.int .i64 b.ty, .int .i64 b.n, .string b.s] 23)).alloc (by simp; omega) (.cells #[.int .i64 0, .int .i64 0, .string ⟨#[]⟩] 23)
  cases v
  · go_enter Tryz.func15, Tryz.ntmps15
    go_wp2_with fail
    have F0 := FF.out
    have B0 := BZ.out
    clear FF BZ
    generalize ((w.alloc (.cells #[.int .i64 a.ty, .int .i64 a.n, .string a.s] 23)).alloc (.cells #[.int .i64 b.ty, .int .i64 b.n, .string b.s] 23)).alloc (.cells #[.int .i64 0, .int .i64 0, .string ⟨#[]⟩] 23) = w0 at *
    refine (SG.out _).mono ?_
    rintro e w1 ⟨rfl, hb1, hs1⟩
    try clear l1 a0 a1 a2 b0 b1 b2 r0 r1 r2 hf
    have F1 := F0.below hb1
    have B1 := B0.trans (hb1.mono B0.size)
    clear F0 B0 hb1
    obtain ⟨l1, a0, a1, a2, b0, b1, b2, r0, r1, r2, hf⟩ := id F1
    go_wp2_with fail
    refine (IN.out _ _ hs1).mono ?_
    rintro e wx ⟨rfl, hwx⟩; have hwx2 := hwx.symm; subst hwx2; clear hwx
    go_wp2_with fail
    refine (BO.out _).mono ?_
    rintro e w2 ⟨rfl, hb2⟩
    try clear l1 a0 a1 a2 b0 b1 b2 r0 r1 r2 hf
    have F2 := F1.below hb2
    have B2 := B1.trans (hb2.mono B1.size)
    clear F1 B1 hb2
    obtain ⟨l1, a0, a1, a2, b0, b1, b2, r0, r1, r2, hf⟩ := id F2
    go_wp2_with fail
    refine (FI.out _).mono ?_
    rintro e wx ⟨rfl, hwx⟩; have hwx2 := hwx.symm; subst hwx2; clear hwx
    go_wp2_with fail
    refine (NU.out _).mono ?_
    rintro e w3 ⟨rfl, hb3⟩
    try clear l1 a0 a1 a2 b0 b1 b2 r0 r1 r2 hf
    have F3 := F2.below hb3
    have B3 := B2.trans (hb3.mono B2.size)
    clear F2 B2 hb3
    obtain ⟨l1, a0, a1, a2, b0, b1, b2, r0, r1, r2, hf⟩ := id F3
    go_wp2_with fail
    refine (CO.out _).mono ?_
    rintro e w4 ⟨rfl, hb4⟩
    try clear l1 a0 a1 a2 b0 b1 b2 r0 r1 r2 hf
    have F4 := F3.below hb4
    have B4 := B3.trans (hb4.mono B3.size)
    clear F3 B3 hb4
    obtain ⟨l1, a0, a1, a2, b0, b1, b2, r0, r1, r2, hf⟩ := id F4
    go_wp2_with fail
    refine (TR.out _ _).mono ?_
    rintro e w5 ⟨rfl, hb5⟩
    try clear l1 a0 a1 a2 b0 b1 b2 r0 r1 r2 hf
    have F5 := F4.below hb5
    have B5 := B4.trans (hb5.mono B4.size)
    clear F4 B4 hb5
    obtain ⟨l1, a0, a1, a2, b0, b1, b2, r0, r1, r2, hf⟩ := id F5
    go_wp2_with fail
    refine bodyPost_ret (v := .tuple #[.agg #[.int .i64 4, .int .i64 (bI false), .string ⟨#[]⟩], .int .i64 0]) (by simp [results, Tryz.results15, go_sem, r0, r1, r2]) rfl ⟨rfl, ?_⟩
    first | exact ((B5.setCell (by simp; omega) _).setCell (by simp; omega) _).setCell (by simp; omega) _ | exact B5 | exact (((below_drewN B5 _).setCell (by simp; omega) _).setCell (by simp; omega) _).setCell (by simp; omega) _ | exact below_drewN ((((B5.setCell (by simp; omega) _).setCell (by simp; omega) _).setCell (by simp; omega) _)) _
  · go_enter Tryz.func15, Tryz.ntmps15
    go_wp2_with fail
    have F0 := FF.out
    have B0 := BZ.out
    clear FF BZ
    generalize ((w.alloc (.cells #[.int .i64 a.ty, .int .i64 a.n, .string a.s] 23)).alloc (.cells #[.int .i64 b.ty, .int .i64 b.n, .string b.s] 23)).alloc (.cells #[.int .i64 0, .int .i64 0, .string ⟨#[]⟩] 23) = w0 at *
    refine (SG.out _).mono ?_
    rintro e w1 ⟨rfl, hb1, hs1⟩
    try clear l1 a0 a1 a2 b0 b1 b2 r0 r1 r2 hf
    have F1 := F0.below hb1
    have B1 := B0.trans (hb1.mono B0.size)
    clear F0 B0 hb1
    obtain ⟨l1, a0, a1, a2, b0, b1, b2, r0, r1, r2, hf⟩ := id F1
    go_wp2_with fail
    refine (IN.out _ _ hs1).mono ?_
    rintro e wx ⟨rfl, hwx⟩; have hwx2 := hwx.symm; subst hwx2; clear hwx
    go_wp2_with fail
    refine (BO.out _).mono ?_
    rintro e w2 ⟨rfl, hb2⟩
    try clear l1 a0 a1 a2 b0 b1 b2 r0 r1 r2 hf
    have F2 := F1.below hb2
    have B2 := B1.trans (hb2.mono B1.size)
    clear F1 B1 hb2
    obtain ⟨l1, a0, a1, a2, b0, b1, b2, r0, r1, r2, hf⟩ := id F2
    go_wp2_with fail
    refine (FI.out _).mono ?_
    rintro e wx ⟨rfl, hwx⟩; have hwx2 := hwx.symm; subst hwx2; clear hwx
    go_wp2_with fail
    refine (NU.out _).mono ?_
    rintro e w3 ⟨rfl, hb3⟩
    try clear l1 a0 a1 a2 b0 b1 b2 r0 r1 r2 hf
    have F3 := F2.below hb3
    have B3 := B2.trans (hb3.mono B2.size)
    clear F2 B2 hb3
    obtain ⟨l1, a0, a1, a2, b0, b1, b2, r0, r1, r2, hf⟩ := id F3
    go_wp2_with fail
    refine (CO.out _).mono ?_
    rintro e w4 ⟨rfl, hb4⟩
    try clear l1 a0 a1 a2 b0 b1 b2 r0 r1 r2 hf
    have F4 := F3.below hb4
    have B4 := B3.trans (hb4.mono B3.size)
    clear F3 B3 hb4
    obtain ⟨l1, a0, a1, a2, b0, b1, b2, r0, r1, r2, hf⟩ := id F4
    go_wp2_with fail
    refine (TR.out _ _).mono ?_
    rintro e w5 ⟨rfl, hb5⟩
    try clear l1 a0 a1 a2 b0 b1 b2 r0 r1 r2 hf
    have F5 := F4.below hb5
    have B5 := B4.trans (hb5.mono B4.size)
    clear F4 B4 hb5
    obtain ⟨l1, a0, a1, a2, b0, b1, b2, r0, r1, r2, hf⟩ := id F5
    go_wp2_with fail
    refine bodyPost_ret (v := .tuple #[.agg #[.int .i64 4, .int .i64 (bI true), .string ⟨#[]⟩], .int .i64 0]) (by simp [results, Tryz.results15, go_sem, r0, r1, r2]) rfl ⟨rfl, ?_⟩
    first | exact ((B5.setCell (by simp; omega) _).setCell (by simp; omega) _).setCell (by simp; omega) _ | exact B5 | exact (((below_drewN B5 _).setCell (by simp; omega) _).setCell (by simp; omega) _).setCell (by simp; omega) _ | exact below_drewN ((((B5.setCell (by simp; omega) _).setCell (by simp; omega) _).setCell (by simp; omega) _)) _
set_option maxHeartbeats 8000000 in
set_option maxRecDepth 1000000 in
theorem rT_11 (a b : Va) (w : World) (c : Int) (v : Bool) (hv : (c != 0) = v) (h0 : (a.ty == 0) = false) (h1 : (b.ty == 0) = false)
    (SG : Hid (∀ w, Calls Tryz.prog 37 #[] w fun e w' => e = .returned (.slice (some ⟨w.heap.size, 0, none⟩) 6 6) ∧ Below w.heap.size w w' ∧ strsAt w' w.heap.size signsL))
    (IN : Hid (∀ g w, strsAt w g signsL → Calls Tryz.prog 36 #[.slice (some ⟨g, 0, none⟩) 6 6, .string ⟨#[60, 62]⟩] w fun e w' => e = .returned (.bool true) ∧ w' = w))
    (BO : Hid (∀ w, Calls Tryz.prog 38 #[.agg #[.int .i64 a.ty, .int .i64 a.n, .string a.s], .agg #[.int .i64 b.ty, .int .i64 b.n, .string b.s]] w fun e w' => e = .returned (.int .i64 0) ∧ Below w.heap.size w w'))
    (FI : Hid (∀ w, Calls Tryz.prog 39 #[.int .i64 a.ty, .int .i64 b.ty] w fun e w' => e = .returned (.bool true) ∧ w' = w))
    (TR : Hid (∀ x w, Calls Tryz.prog 41 #[.bool x] w fun e w' => e = .returned (.agg #[.int .i64 4, .int .i64 (bI x), .string ⟨#[]⟩]) ∧ Below w.heap.size w w'))
    (NU : Hid (∀ w, Calls Tryz.prog 40 #[.agg #[.int .i64 a.ty, .int .i64 a.n, .string a.s]] w fun e w' => e = .returned (.bool true) ∧ Below w.heap.size w w'))
    (CO : Hid (∀ w, Calls Tryz.prog 26 #[.agg #[.int .i64 a.ty, .int .i64 a.n, .string a.s], .agg #[.int .i64 b.ty, .int .i64 b.n, .string b.s]] w fun e w' => e = .returned (.int .i64 c) ∧ Below w.heap.size w w'))
 : Calls Tryz.prog 15 #[.string ⟨#[60, 62]⟩, .agg #[.int .i64 a.ty, .int .i64 a.n, .string a.s], .agg #[.int .i64 b.ty, .int .i64 b.n, .string b.s]] w fun e w' => e = .returned (.tuple #[.agg #[.int .i64 4, .int .i64 (bI v), .string ⟨#[]⟩], .int .i64 0]) ∧ Below w.heap.size w w' := by
  have FF : Hid _ := Fr.new w a b ⟨0, 0, ⟨#[]⟩⟩
  have BZ : Hid _ := (((Below.refl _ w).alloc (Nat.le_refl _) (.cells #[.int .i64 a.ty, .int .i64 a.n, .string a.s] 23)).alloc (by simp) (.cells #[.int .i64 b.ty, .int .i64 b.n, .string b.s] 23)).alloc (by simp; omega) (.cells #[.int .i64 0, .int .i64 0, .string ⟨#[]⟩] 23)
  cases v
  · go_enter Tryz.func15, Tryz.ntmps15
    go_wp2_with fail
    have F0 := FF.out
    have B0 := BZ.out
    clear FF BZ
    generalize ((w.alloc (.cells #[.int .i64 a.ty, .int .i64 a.n, .string a.s] 23)).alloc (.cells #[.int .i64 b.ty, .int .i64 b.n, .string b.s] 23)).alloc (.cells #[.int .i64 0, .int .i64 0, .string ⟨#[]⟩] 23) = w0 at *
    refine (SG.out _).mono ?_
    rintro e w1 ⟨rfl, hb1, hs1⟩
    try clear l1 a0 a1 a2 b0 b1 b2 r0 r1 r2 hf
    have F1 := F0.below hb1
    have B1 := B0.trans (hb1.mono B0.size)
    clear F0 B0 hb1
    obtain ⟨l1, a0, a1, a2, b0, b1, b2, r0, r1, r2, hf⟩ := id F1
    go_wp2_with fail
    refine (IN.out _ _ hs1).mono ?_
    rintro e wx ⟨rfl, hwx⟩; have hwx2 := hwx.symm; subst hwx2; clear hwx
    go_wp2_with fail
    refine (BO.out _).mono ?_
    rintro e w2 ⟨rfl, hb2⟩
    try clear l1 a0 a1 a2 b0 b1 b2 r0 r1 r2 hf
    have F2 := F1.below hb2
    have B2 := B1.trans (hb2.mono B1.size)
    clear F1 B1 hb2
    obtain ⟨l1, a0, a1, a2, b0, b1, b2, r0, r1, r2, hf⟩ := id F2
    go_wp2_with fail
    refine (FI.out _).mono ?_
    rintro e wx ⟨rfl, hwx⟩; have hwx2 := hwx.symm; subst hwx2; clear hwx
    go_wp2_with fail
    refine (NU.out _).mono ?_
    rintro e w3 ⟨rfl, hb3⟩
    try clear l1 a0 a1 a2 b0 b1 b2 r0 r1 r2 hf
    have F3 := F2.below hb3
    have B3 := B2.trans (hb3.mono B2.size)
    clear F2 B2 hb3
    obtain ⟨l1, a0, a1, a2, b0, b1, b2, r0, r1, r2, hf⟩ := id F3
    go_wp2_with fail
    refine (CO.out _).mono ?_
    rintro e w4 ⟨rfl, hb4⟩
    try clear l1 a0 a1 a2 b0 b1 b2 r0 r1 r2 hf
    have F4 := F3.below hb4
    have B4 := B3.trans (hb4.mono B3.size)
    clear F3 B3 hb4
    obtain ⟨l1, a0, a1, a2, b0, b1, b2, r0, r1, r2, hf⟩ := id F4
    go_wp2_with fail
    refine (TR.out _ _).mono ?_
    rintro e w5 ⟨rfl, hb5⟩
    try clear l1 a0 a1 a2 b0 b1 b2 r0 r1 r2 hf
    have F5 := F4.below hb5
    have B5 := B4.trans (hb5.mono B4.size)
    clear F4 B4 hb5
    obtain ⟨l1, a0, a1, a2, b0, b1, b2, r0, r1, r2, hf⟩ := id F5
    go_wp2_with fail
    refine bodyPost_ret (v := .tuple #[.agg #[.int .i64 4, .int .i64 (bI false), .string ⟨#[]⟩], .int .i64 0]) (by simp [results, Tryz.results15, go_sem, r0, r1, r2]) rfl ⟨rfl, ?_⟩
    first | exact ((B5.setCell (by simp; omega) _).setCell (by simp; omega) _).setCell (by simp; omega) _ | exact B5 | exact (((below_drewN B5 _).setCell (by simp; omega) _).setCell (by simp; omega) _).setCell (by simp; omega) _ | exact below_drewN ((((B5.setCell (by simp; omega) _).setCell (by simp; omega) _).setCell (by simp; omega) _)) _
  · go_enter Tryz.func15, Tryz.ntmps15
    go_wp2_with fail
    have F0 := FF.out
    have B0 := BZ.out
    clear FF BZ
    generalize ((w.alloc (.cells #[.int .i64 a.ty, .int .i64 a.n, .string a.s] 23)).alloc (.cells #[.int .i64 b.ty, .int .i64 b.n, .string b.s] 23)).alloc (.cells #[.int .i64 0, .int .i64 0, .string ⟨#[]⟩] 23) = w0 at *
    refine (SG.out _).mono ?_
    rintro e w1 ⟨rfl, hb1, hs1⟩
    try clear l1 a0 a1 a2 b0 b1 b2 r0 r1 r2 hf
    have F1 := F0.below hb1
    have B1 := B0.trans (hb1.mono B0.size)
    clear F0 B0 hb1
    obtain ⟨l1, a0, a1, a2, b0, b1, b2, r0, r1, r2, hf⟩ := id F1
    go_wp2_with fail
    refine (IN.out _ _ hs1).mono ?_
    rintro e wx ⟨rfl, hwx⟩; have hwx2 := hwx.symm; subst hwx2; clear hwx
    go_wp2_with fail
    refine (BO.out _).mono ?_
    rintro e w2 ⟨rfl, hb2⟩
    try clear l1 a0 a1 a2 b0 b1 b2 r0 r1 r2 hf
    have F2 := F1.below hb2
    have B2 := B1.trans (hb2.mono B1.size)
    clear F1 B1 hb2
    obtain ⟨l1, a0, a1, a2, b0, b1, b2, r0, r1, r2, hf⟩ := id F2
    go_wp2_with fail
    refine (FI.out _).mono ?_
    rintro e wx ⟨rfl, hwx⟩; have hwx2 := hwx.symm; subst hwx2; clear hwx
    go_wp2_with fail
    refine (NU.out _).mono ?_
    rintro e w3 ⟨rfl, hb3⟩
    try clear l1 a0 a1 a2 b0 b1 b2 r0 r1 r2 hf
    have F3 := F2.below hb3
    have B3 := B2.trans (hb3.mono B2.size)
    clear F2 B2 hb3
    obtain ⟨l1, a0, a1, a2, b0, b1, b2, r0, r1, r2, hf⟩ := id F3
    go_wp2_with fail
    refine (CO.out _).mono ?_
    rintro e w4 ⟨rfl, hb4⟩
    try clear l1 a0 a1 a2 b0 b1 b2 r0 r1 r2 hf
    have F4 := F3.below hb4
    have B4 := B3.trans (hb4.mono B3.size)
    clear F3 B3 hb4
    obtain ⟨l1, a0, a1, a2, b0, b1, b2, r0, r1, r2, hf⟩ := id F4
    go_wp2_with fail
    refine (TR.out _ _).mono ?_
    rintro e w5 ⟨rfl, hb5⟩
    try clear l1 a0 a1 a2 b0 b1 b2 r0 r1 r2 hf
    have F5 := F4.below hb5
    have B5 := B4.trans (hb5.mono B4.size)
    clear F4 B4 hb5
    obtain ⟨l1, a0, a1, a2, b0, b1, b2, r0, r1, r2, hf⟩ := id F5
    go_wp2_with fail
    refine bodyPost_ret (v := .tuple #[.agg #[.int .i64 4, .int .i64 (bI true), .string ⟨#[]⟩], .int .i64 0]) (by simp [results, Tryz.results15, go_sem, r0, r1, r2]) rfl ⟨rfl, ?_⟩
    first | exact ((B5.setCell (by simp; omega) _).setCell (by simp; omega) _).setCell (by simp; omega) _ | exact B5 | exact (((below_drewN B5 _).setCell (by simp; omega) _).setCell (by simp; omega) _).setCell (by simp; omega) _ | exact below_drewN ((((B5.setCell (by simp; omega) _).setCell (by simp; omega) _).setCell (by simp; omega) _)) _
set_option maxHeartbeats 8000000 in
set_option maxRecDepth 1000000 in
theorem rT_20 (a b : Va) (w : World) (c : Int) (v : Bool) (hv : (decide (c < 0)) = v) (h0 : (a.ty == 0) = false) (h1 : (b.ty == 0) = false)
    (SG : Hid (∀ w, Calls Tryz.prog 37 #[] w fun e w' => e = .returned (.slice (some ⟨w.heap.size, 0, none⟩) 6 6) ∧ Below w.heap.size w w' ∧ strsAt w' w.heap.size signsL))
    (IN : Hid (∀ g w, strsAt w g signsL → Calls Tryz.prog 36 #[.slice (some ⟨g, 0, none⟩) 6 6, .string ⟨#[60]⟩] w fun e w' => e = .returned (.bool true) ∧ w' = w))
    (BO : Hid (∀ w, Calls Tryz.prog 38 #[.agg #[.int .i64 a.ty, .int .i64 a.n, .string a.s], .agg #[.int .i64 b.ty, .int .i64 b.n, .string b.s]] w fun e w' => e = .returned (.int .i64 0) ∧ Below w.heap.size w w'))
    (FI : Hid (∀ w, Calls Tryz.prog 39 #[.int .i64 a.ty, .int .i64 b.ty] w fun e w' => e = .returned (.bool true) ∧ w' = w))
    (TR : Hid (∀ x w, Calls Tryz.prog 41 #[.bool x] w fun e w' => e = .returned (.agg #[.int .i64 4, .int .i64 (bI x), .string ⟨#[]⟩]) ∧ Below w.heap.size w w'))
    (NU : Hid (∀ w, Calls Tryz.prog 40 #[.agg #[.int .i64 a.ty, .int .i64 a.n, .string a.s]] w fun e w' => e = .returned (.bool false) ∧ Below w.heap.size w w'))
    (CO : Hid (∀ w, Calls Tryz.prog 8 #[.agg #[.int .i64 a.ty, .int .i64 a.n, .string a.s], .agg #[.int .i64 b.ty, .int .i64 b.n, .string b.s]] w fun e w' => e = .returned (.int .i64 c) ∧ Below w.heap.size w w'))
 : Calls Tryz.prog 15 #[.string ⟨#[60]⟩, .agg #[.int .i64 a.ty, .int .i64 a.n, .string a.s], .agg #[.int .i64 b.ty, .int .i64 b.n, .string b.s]] w fun e w' => e = .returned (.tuple #[.agg #[.int .i64 4, .int .i64 (bI v), .string ⟨#[]⟩], .int .i64 0]) ∧ Below w.heap.size w w' := by
  have FF : Hid _ := Fr.new w a b ⟨0, 0, ⟨#[]⟩⟩
  have BZ : Hid _ := (((Below.refl _ w).alloc (Nat.le_refl _) (.cells #[.int .i64 a.ty, .int .i64 a.n, .string a.s] 23)).alloc (by simp) (.cells #[.int .i64 b.ty, .int .i64 b.n, .string b.s] 23)).alloc (by simp; omega) (.cells #[.int .i64 0, .int .i64 0, .string ⟨#[]⟩] 23)
  cases v
  · go_enter Tryz.func15, Tryz.ntmps15
    go_wp2_with fail
    have F0 := FF.out
    have B0 := BZ.out
    clear FF BZ
    generalize ((w.alloc (.cells #[.int .i64 a.ty, .int .i64 a.n, .string a.s] 23)).alloc (.cells #[.int .i64 b.ty, .int .i64 b.n, .string b.s] 23)).alloc (.cells #[.int .i64 0, .int .i64 0, .string ⟨#[]⟩] 23) = w0 at *
    refine (SG.out _).mono ?_
    rintro e w1 ⟨rfl, hb1, hs1⟩
    try clear l1 a0 a1 a2 b0 b1 b2 r0 r1 r2 hf
    have F1 := F0.below hb1
    have B1 := B0.trans (hb1.mono B0.size)
    clear F0 B0 hb1
    obtain ⟨l1, a0, a1, a2, b0, b1, b2, r0, r1, r2, hf⟩ := id F1
    go_wp2_with fail
    refine (IN.out _ _ hs1).mono ?_
    rintro e wx ⟨rfl, hwx⟩; have hwx2 := hwx.symm; subst hwx2; clear hwx
    go_wp2_with fail
    refine (BO.out _).mono ?_
    rintro e w2 ⟨rfl, hb2⟩
    try clear l1 a0 a1 a2 b0 b1 b2 r0 r1 r2 hf
    have F2 := F1.below hb2
    have B2 := B1.trans (hb2.mono B1.size)
    clear F1 B1 hb2
    obtain ⟨l1, a0, a1, a2, b0, b1, b2, r0, r1, r2, hf⟩ := id F2
    go_wp2_with fail
    refine (FI.out _).mono ?_
    rintro e wx ⟨rfl, hwx⟩; have hwx2 := hwx.symm; subst hwx2; clear hwx
    go_wp2_with fail
    refine (NU.out _).mono ?_
    rintro e w3 ⟨rfl, hb3⟩
    try clear l1 a0 a1 a2 b0 b1 b2 r0 r1 r2 hf
    have F3 := F2.below hb3
    have B3 := B2.trans (hb3.mono B2.size)
    clear F2 B2 hb3
    obtain ⟨l1, a0, a1, a2, b0, b1, b2, r0, r1, r2, hf⟩ := id F3
    go_wp2_with fail
    refine (CO.out _).mono ?_
    rintro e w4 ⟨rfl, hb4⟩
    try clear l1 a0 a1 a2 b0 b1 b2 r0 r1 r2 hf
    have F4 := F3.below hb4
    have B4 := B3.trans (hb4.mono B3.size)
    clear F3 B3 hb4
    obtain ⟨l1, a0, a1, a2, b0, b1, b2, r0, r1, r2, hf⟩ := id F4
    go_wp2_with fail
    refine (TR.out _ _).mono ?_
    rintro e w5 ⟨rfl, hb5⟩
    try clear l1 a0 a1 a2 b0 b1 b2 r0 r1 r2 hf
    have F5 := F4.below hb5
    have B5 := B4.trans (hb5.mono B4.size)
    clear F4 B4 hb5
    obtain ⟨l1, a0, a1, a2, b0, b1, b2, r0, r1, r2, hf⟩ := id F5
    go_wp2_with fail
    refine bodyPost_ret (v := .tuple #[.agg #[.int .i64 4, .int .i64 (bI false), .string ⟨#[]⟩], .int .i64 0]) (by simp [results, Tryz.results15, go_sem, r0, r1, r2]) rfl ⟨rfl, ?_⟩
    first | exact ((B5.setCell (by simp; omega) _).setCell (by simp; omega) _).setCell (by simp; omega) _ | exact B5 | exact (((below_drewN B5 _).setCell (by simp; omega) _).setCell (by simp; omega) _).setCell (by simp; omega) _ | exact below_drewN ((((B5.setCell (by simp; omega) _).setCell (by simp; omega) _).setCell (by simp; omega) _)) _
  · go_enter Tryz.func15, Tryz.ntmps15
    go_wp2_with fail
    have F0 := FF.out
    have B0 := BZ.out
    clear FF BZ
    generalize ((w.alloc (.cells #[.int .i64 a.ty, .int .i64 a.n, .string a.s] 23)).alloc (.cells #[.int .i64 b.ty, .int .i64 b.n, .string b.s] 23)).alloc (.cells #[.int .i64 0, .int .i64 0, .string ⟨#[]⟩] 23) = w0 at *
    refine (SG.out _).mono ?_
    rintro e w1 ⟨rfl, hb1, hs1⟩
    try clear l1 a0 a1 a2 b0 b1 b2 r0 r1 r2 hf
    have F1 := F0.below hb1
    have B1 := B0.trans (hb1.mono B0.size)
    clear F0 B0 hb1
    obtain ⟨l1, a0, a1, a2, b0, b1, b2, r0, r1, r2, hf⟩ := id F1
    go_wp2_with fail
    refine (IN.out _ _ hs1).mono ?_
    rintro e wx ⟨rfl, hwx⟩; have hwx2 := hwx.symm; subst hwx2; clear hwx
    go_wp2_with fail
    refine (BO.out _).mono ?_
    rintro e w2 ⟨rfl, hb2⟩
    try clear l1 a0 a1 a2 b0 b1 b2 r0 r1 r2 hf
    have F2 := F1.below hb2
    have B2 := B1.trans (hb2.mono B1.size)
    clear F1 B1 hb2
    obtain ⟨l1, a0, a1, a2, b0, b1, b2, r0, r1, r2, hf⟩ := id F2
    go_wp2_with fail
    refine (FI.out _).mono ?_
    rintro e wx ⟨rfl, hwx⟩; have hwx2 := hwx.symm; subst hwx2; clear hwx
    go_wp2_with fail
    refine (NU.out _).mono ?_
    rintro e w3 ⟨rfl, hb3⟩
    try clear l1 a0 a1 a2 b0 b1 b2 r0 r1 r2 hf
    have F3 := F2.below hb3
    have B3 := B2.trans (hb3.mono B2.size)
    clear F2 B2 hb3
    obtain ⟨l1, a0, a1, a2, b0, b1, b2, r0, r1, r2, hf⟩ := id F3
    go_wp2_with fail
    refine (CO.out _).mono ?_
    rintro e w4 ⟨rfl, hb4⟩
    try clear l1 a0 a1 a2 b0 b1 b2 r0 r1 r2 hf
    have F4 := F3.below hb4
    have B4 := B3.trans (hb4.mono B3.size)
    clear F3 B3 hb4
    obtain ⟨l1, a0, a1, a2, b0, b1, b2, r0, r1, r2, hf⟩ := id F4
    go_wp2_with fail
    refine (TR.out _ _).mono ?_
    rintro e w5 ⟨rfl, hb5⟩
    try clear l1 a0 a1 a2 b0 b1 b2 r0 r1 r2 hf
    have F5 := F4.below hb5
    have B5 := B4.trans (hb5.mono B4.size)
    clear F4 B4 hb5
    obtain ⟨l1, a0, a1, a2, b0, b1, b2, r0, r1, r2, hf⟩ := id F5
    go_wp2_with fail
    refine bodyPost_ret (v := .tuple #[.agg #[.int .i64 4, .int .i64 (bI true), .string ⟨#[]⟩], .int .i64 0]) (by simp [results, Tryz.results15, go_sem, r0, r1, r2]) rfl ⟨rfl, ?_⟩
    first | exact ((B5.setCell (by simp; omega) _).setCell (by simp; omega) _).setCell (by simp; omega) _ | exact B5 | exact (((below_drewN B5 _).setCell (by simp; omega) _).setCell (by simp; omega) _).setCell (by simp; omega) _ | exact below_drewN ((((B5.setCell (by simp; omega) _).setCell (by simp; omega) _).setCell (by simp; omega) _)) _
set_option maxHeartbeats 8000000 in
set_option maxRecDepth 1000000 in
theorem rT_21 (a b : Va) (w : World) (c : Int) (v : Bool) (hv : (decide (c < 0)) = v) (h0 : (a.ty == 0) = false) (h1 : (b.ty == 0) = false)
    (SG : Hid (∀ w, Calls Tryz.prog 37 #[] w fun e w' => e = .returned (.slice (some ⟨w.heap.size, 0, none⟩) 6 6) ∧ Below w.heap.size w w' ∧ strsAt w' w.heap.size signsL))
    (IN : Hid (∀ g w, strsAt w g signsL → Calls Tryz.prog 36 #[.slice (some ⟨g, 0, none⟩) 6 6, .string ⟨#[60]⟩] w fun e w' => e = .returned (.bool true) ∧ w' = w))
    (BO : Hid (∀ w, Calls Tryz.prog 38 #[.agg #[.int .i64 a.ty, .int .i64 a.n, .string a.s], .agg #[.int .i64 b.ty, .int .i64 b.n, .string b.s]] w fun e w' => e = .returned (.int .i64 0) ∧ Below w.heap.size w w'))
    (FI : Hid (∀ w, Calls Tryz.prog 39 #[.int .i64 a.ty, .int .i64 b.ty] w fun e w' => e = .returned (.bool true) ∧ w' = w))
    (TR : Hid (∀ x w, Calls Tryz.prog 41 #[.bool x] w fun e w' => e = .returned (.agg #[.int .i64 4, .int .i64 (bI x), .string ⟨#[]⟩]) ∧ Below w.heap.size w w'))
    (NU : Hid (∀ w, Calls Tryz.prog 40 #[.agg #[.int .i64 a.ty, .int .i64 a.n, .string a.s]] w fun e w' => e = .returned (.bool true) ∧ Below w.heap.size w w'))
    (CO : Hid (∀ w, Calls Tryz.prog 26 #[.agg #[.int .i64 a.ty, .int .i64 a.n, .string a.s], .agg #[.int .i64 b.ty, .int .i64 b.n, .string b.s]] w fun e w' => e = .returned (.int .i64 c) ∧ Below w.heap.size w w'))
 : Calls Tryz.prog 15 #[.string ⟨#[60]⟩, .agg #[.int .i64 a.ty, .int .i64 a.n, .string a.s], .agg #[.int .i64 b.ty, .int .i64 b.n, .string b.s]] w fun e w' => e = .returned (.tuple #[.agg #[.int .i64 4, .int .i64 (bI v), .string ⟨#[]⟩], .int .i64 0]) ∧ Below w.heap.size w w' := by
  have FF : Hid _ := Fr.new w a b ⟨0, 0, ⟨#[]⟩⟩
  have BZ : Hid _ := (((Below.refl _ w).alloc (Nat.le_refl _) (.cells #[.int .i64 a.ty, .int .i64 a.n, .string a.s] 23)).alloc (by simp) (.cells #[.int .i64 b.ty, .int .i64 b.n, .string b.s] 23)).alloc (by simp; omega) (.cells #[.int .i64 0, .int .i64 0, .string ⟨#[]⟩] 23)
  cases v
  · go_enter Tryz.func15, Tryz.ntmps15
    go_wp2_with fail
    have F0 := FF.out
    have B0 := BZ.out
    clear FF BZ
    generalize ((w.alloc (.cells #[.int .i64 a.ty, .int .i64 a.n, .string a.s] 23)).alloc (.cells #[.int .i64 b.ty, .int .i64 b.n, .string b.s] 23)).alloc (.cells #[.int .i64 0, .int .i64 0, .string ⟨#[]⟩] 23) = w0 at *
    refine (SG.out _).mono ?_
    rintro e w1 ⟨rfl, hb1, hs1⟩
    try clear l1 a0 a1 a2 b0 b1 b2 r0 r1 r2 hf
    have F1 := F0.below hb1
    have B1 := B0.trans (hb1.mono B0.size)
    clear F0 B0 hb1
    obtain ⟨l1, a0, a1, a2, b0, b1, b2, r0, r1, r2, hf⟩ := id F1
    go_wp2_with fail
    refine (IN.out _ _ hs1).mono ?_
    rintro e wx ⟨rfl, hwx⟩; have hwx2 := hwx.symm; subst hwx2; clear hwx
    go_wp2_with fail
    refine (BO.out _).mono ?_
    rintro e w2 ⟨rfl, hb2⟩
    try clear l1 a0 a1 a2 b0 b1 b2 r0 r1 r2 hf
    have F2 := F1.below hb2
    have B2 := B1.trans (hb2.mono B1.size)
    clear F1 B1 hb2
    obtain ⟨l1, a0, a1, a2, b0, b1, b2, r0, r1, r2, hf⟩ := id F2
    go_wp2_with fail
    refine (FI.out _).mono ?_
    rintro e wx ⟨rfl, hwx⟩; have hwx2 := hwx.symm; subst hwx2; clear hwx
    go_wp2_with fail
    refine (NU.out _).mono ?_
    rintro e w3 ⟨rfl, hb3⟩
    try clear l1 a0 a1 a2 b0 b1 b2 r0 r1 r2 hf
    have F3 := F2.below hb3
    have B3 := B2.trans (hb3.mono B2.size)
    clear F2 B2 hb3
    obtain ⟨l1, a0, a1, a2, b0, b1, b2, r0, r1, r2, hf⟩ := id F3
    go_wp2_with fail
    refine (CO.out _).mono ?_
    rintro e w4 ⟨rfl, hb4⟩
    try clear l1 a0 a1 a2 b0 b1 b2 r0 r1 r2 hf
    have F4 := F3.below hb4
    have B4 := B3.trans (hb4.mono B3.size)
    clear F3 B3 hb4
    obtain ⟨l1, a0, a1, a2, b0, b1, b2, r0, r1, r2, hf⟩ := id F4
    go_wp2_with fail
    refine (TR.out _ _).mono ?_
    rintro e w5 ⟨rfl, hb5⟩
    try clear l1 a0 a1 a2 b0 b1 b2 r0 r1 r2 hf
    have F5 := F4.below hb5
    have B5 := B4.trans (hb5.mono B4.size)
    clear F4 B4 hb5
    obtain ⟨l1, a0, a1, a2, b0, b1, b2, r0, r1, r2, hf⟩ := id F5
    go_wp2_with fail
    refine bodyPost_ret (v := .tuple #[.agg #[.int .i64 4, .int .i64 (bI false), .string ⟨#[]⟩], .int .i64 0]) (by simp [results, Tryz.results15, go_sem, r0, r1, r2]) rfl ⟨rfl, ?_⟩
    first | exact ((B5.setCell (by simp; omega) _).setCell (by simp; omega) _).setCell (by simp; omega) _ | exact B5 | exact (((below_drewN B5 _).setCell (by simp; omega) _).setCell (by simp; omega) _).setCell (by simp; omega) _ | exact below_drewN ((((B5.setCell (by simp; omega) _).setCell (by simp; omega) _).setCell (by simp; omega) _)) _
  · go_enter Tryz.func15, Tryz.ntmps15
    go_wp2_with fail
    have F0 := FF.out
    have B0 := BZ.out
    clear FF BZ
    generalize ((w.alloc (.cells #[.int .i64 a.ty, .int .i64 a.n, .string a.s] 23)).alloc (.cells #[.int .i64 b.ty, .int .i64 b.n, .string b.s] 23)).alloc (.cells #[.int .i64 0, .int .i64 0, .string ⟨#[]⟩] 23) = w0 at *
    refine (SG.out _).mono ?_
    rintro e w1 ⟨rfl, hb1, hs1⟩
    try clear l1 a0 a1 a2 b0 b1 b2 r0 r1 r2 hf
    have F1 := F0.below hb1
    have B1 := B0.trans (hb1.mono B0.size)
    clear F0 B0 hb1
    obtain ⟨l1, a0, a1, a2, b0, b1, b2, r0, r1, r2, hf⟩ := id F1
    go_wp2_with fail
    refine (IN.out _ _ hs1).mono ?_
    rintro e wx ⟨rfl, hwx⟩; have hwx2 := hwx.symm; subst hwx2; clear hwx
    go_wp2_with fail
    refine (BO.out _).mono ?_
    rintro e w2 ⟨rfl, hb2⟩
    try clear l1 a0 a1 a2 b0 b1 b2 r0 r1 r2 hf
    have F2 := F1.below hb2
    have B2 := B1.trans (hb2.mono B1.size)
    clear F1 B1 hb2
    obtain ⟨l1, a0, a1, a2, b0, b1, b2, r0, r1, r2, hf⟩ := id F2
    go_wp2_with fail
    refine (FI.out _).mono ?_
    rintro e wx ⟨rfl, hwx⟩; have hwx2 := hwx.symm; subst hwx2; clear hwx
    go_wp2_with fail
    refine (NU.out _).mono ?_
    rintro e w3 ⟨rfl, hb3⟩
    try clear l1 a0 a1 a2 b0 b1 b2 r0 r1 r2 hf
    have F3 := F2.below hb3
    have B3 := B2.trans (hb3.mono B2.size)
    clear F2 B2 hb3
    obtain ⟨l1, a0, a1, a2, b0, b1, b2, r0, r1, r2, hf⟩ := id F3
    go_wp2_with fail
    refine (CO.out _).mono ?_
    rintro e w4 ⟨rfl, hb4⟩
    try clear l1 a0 a1 a2 b0 b1 b2 r0 r1 r2 hf
    have F4 := F3.below hb4
    have B4 := B3.trans (hb4.mono B3.size)
    clear F3 B3 hb4
    obtain ⟨l1, a0, a1, a2, b0, b1, b2, r0, r1, r2, hf⟩ := id F4
    go_wp2_with fail
    refine (TR.out _ _).mono ?_
    rintro e w5 ⟨rfl, hb5⟩
    try clear l1 a0 a1 a2 b0 b1 b2 r0 r1 r2 hf
    have F5 := F4.below hb5
    have B5 := B4.trans (hb5.mono B4.size)
    clear F4 B4 hb5
    obtain ⟨l1, a0, a1, a2, b0, b1, b2, r0, r1, r2, hf⟩ := id F5
    go_wp2_with fail
    refine bodyPost_ret (v := .tuple #[.agg #[.int .i64 4, .int .i64 (bI true), .string ⟨#[]⟩], .int .i64 0]) (by simp [results, Tryz.results15, go_sem, r0, r1, r2]) rfl ⟨rfl, ?_⟩
    first | exact ((B5.setCell (by simp; omega) _).setCell (by simp; omega) _).setCell (by simp; omega) _ | exact B5 | exact (((below_drewN B5 _).setCell (by simp; omega) _).setCell (by simp; omega) _).setCell (by simp; omega) _ | exact below_drewN ((((B5.setCell (by simp; omega) _).setCell (by simp; omega) _).setCell (by simp; omega) _)) _
set_option maxHeartbeats 8000000 in
set_option maxRecDepth 1000000 in
theorem rT_30 (a b : Va) (w : World) (c : Int) (v : Bool) (hv : (decide (c ≤ 0)) = v) (h0 : (a.ty == 0) = false) (h1 : (b.ty == 0) = false)
    (SG : Hid (∀ w, Calls Tryz.prog 37 #[] w fun e w' => e = .returned (.slice (some ⟨w.heap.size, 0, none⟩) 6 6) ∧ Below w.heap.size w w' ∧ strsAt w' w.heap.size signsL))
    (IN : Hid (∀ g w, strsAt w g signsL → Calls Tryz.prog 36 #[.slice (some ⟨g, 0, none⟩) 6 6, .string ⟨#[60, 61]⟩] w fun e w' => e = .returned (.bool true) ∧ w' = w))
    (BO : Hid (∀ w, Calls Tryz.prog 38 #[.agg #[.int .i64 a.ty, .int .i64 a.n, .string a.s], .agg #[.int .i64 b.ty, .int .i64 b.n, .string b.s]] w fun e w' => e = .returned (.int .i64 0) ∧ Below w.heap.size w w'))
    (FI : Hid (∀ w, Calls Tryz.prog 39 #[.int .i64 a.ty, .int .i64 b.ty] w fun e w' => e = .returned (.bool true) ∧ w' = w))
    (TR : Hid (∀ x w, Calls Tryz.prog 41 #[.bool x] w fun e w' => e = .returned (.agg #[.int .i64 4, .int .i64 (bI x), .string ⟨#[]⟩]) ∧ Below w.heap.size w w'))
    (NU : Hid (∀ w, Calls Tryz.prog 40 #[.agg #[.int .i64 a.ty, .int .i64 a.n, .string a.s]] w fun e w' => e = .returned (.bool false) ∧ Below w.heap.size w w'))
    (CO : Hid (∀ w, Calls Tryz.prog 8 #[.agg #[.int .i64 a.ty, .int .i64 a.n, .string a.s], .agg #[.int .i64 b.ty, .int .i64 b.n, .string b.s]] w fun e w' => e = .returned (.int .i64 c) ∧ Below w.heap.size w w'))
 : Calls Tryz.prog 15 #[.string ⟨#[60, 61]⟩, .agg #[.int .i64 a.ty, .int .i64 a.n, .string a.s], .agg #[.int .i64 b.ty, .int .i64 b.n, .string b.s]] w fun e w' => e = .returned (.tuple #[.agg #[.int .i64 4, .int .i64 (bI v), .string ⟨#[]⟩], .int .i64 0]) ∧ Below w.heap.size w w' := by
  have FF : Hid _ := Fr.new w a b ⟨0, 0, ⟨#[]⟩⟩
  have BZ : Hid _ := (((Below.refl _ w).alloc (Nat.le_refl _) (.cells #[.int .i64 a.ty, .int .i64 a.n, .string a.s] 23)).alloc (by simp) (.cells #[.int .i64 b.ty, .int .i64 b.n, .string b.s] 23)).alloc (by simp; omega) (.cells #[.int .i64 0, .int .i64 0, .string ⟨#[]⟩] 23)
  cases v
  · go_enter Tryz.func15, Tryz.ntmps15
    go_wp2_with fail
    have F0 := FF.out
    have B0 := BZ.out
    clear FF BZ
    generalize ((w.alloc (.cells #[.int .i64 a.ty, .int .i64 a.n, .string a.s] 23)).alloc (.cells #[.int .i64 b.ty, .int .i64 b.n, .string b.s] 23)).alloc (.cells #[.int .i64 0, .int .i64 0, .string ⟨#[]⟩] 23) = w0 at *
    refine (SG.out _).mono ?_
    rintro e w1 ⟨rfl, hb1, hs1⟩
    try clear l1 a0 a1 a2 b0 b1 b2 r0 r1 r2 hf
    have F1 := F0.below hb1
    have B1 := B0.trans (hb1.mono B0.size)
    clear F0 B0 hb1
    obtain ⟨l1, a0, a1, a2, b0, b1, b2, r0, r1, r2, hf⟩ := id F1
    go_wp2_with fail
    refine (IN.out _ _ hs1).mono ?_
    rintro e wx ⟨rfl, hwx⟩; have hwx2 := hwx.symm; subst hwx2; clear hwx
    go_wp2_with fail
    refine (BO.out _).mono ?_
    rintro e w2 ⟨rfl, hb2⟩
    try clear l1 a0 a1 a2 b0 b1 b2 r0 r1 r2 hf
    have F2 := F1.below hb2
    have B2 := B1.trans (hb2.mono B1.size)
    clear F1 B1 hb2
    obtain ⟨l1, a0, a1, a2, b0, b1, b2, r0, r1, r2, hf⟩ := id F2
    go_wp2_with fail
    refine (FI.out _).mono ?_
    rintro e wx ⟨rfl, hwx⟩; have hwx2 := hwx.symm; subst hwx2; clear hwx
    go_wp2_with fail
    refine (NU.out _).mono ?_
    rintro e w3 ⟨rfl, hb3⟩
    try clear l1 a0 a1 a2 b0 b1 b2 r0 r1 r2 hf
    have F3 := F2.below hb3
    have B3 := B2.trans (hb3.mono B2.size)
    clear F2 B2 hb3
    obtain ⟨l1, a0, a1, a2, b0, b1, b2, r0, r1, r2, hf⟩ := id F3
    go_wp2_with fail
    refine (CO.out _).mono ?_
    rintro e w4 ⟨rfl, hb4⟩
    try clear l1 a0 a1 a2 b0 b1 b2 r0 r1 r2 hf
    have F4 := F3.below hb4
    have B4 := B3.trans (hb4.mono B3.size)
    clear F3 B3 hb4
    obtain ⟨l1, a0, a1, a2, b0, b1, b2, r0, r1, r2, hf⟩ := id F4
    go_wp2_with fail
    refine (TR.out _ _).mono ?_
    rintro e w5 ⟨rfl, hb5⟩
    try clear l1 a0 a1 a2 b0 b1 b2 r0 r1 r2 hf
    have F5 := F4.below hb5
    have B5 := B4.trans (hb5.mono B4.size)
    clear F4 B4 hb5
    obtain ⟨l1, a0, a1, a2, b0, b1, b2, r0, r1, r2, hf⟩ := id F5
    go_wp2_with fail
    refine bodyPost_ret (v := .tuple #[.agg #[.int .i64 4, .int .i64 (bI false), .string ⟨#[]⟩], .int .i64 0]) (by simp [results, Tryz.results15, go_sem, r0, r1, r2]) rfl ⟨rfl, ?_⟩
    first | exact ((B5.setCell (by simp; omega) _).setCell (by simp; omega) _).setCell (by simp; omega) _ | exact B5 | exact (((below_drewN B5 _).setCell (by simp; omega) _).setCell (by simp; omega) _).setCell (by simp; omega) _ | exact below_drewN ((((B5.setCell (by simp; omega) _).setCell (by simp; omega) _).setCell (by simp; omega) _)) _
  · go_enter Tryz.func15, Tryz.ntmps15
    go_wp2_with fail
    have F0 := FF.out
    have B0 := BZ.out
    clear FF BZ
    generalize ((w.alloc (.cells #[.int .i64 a.ty, .int .i64 a.n, .string a.s] 23)).alloc (.cells #[.int .i64 b.ty, .int .i64 b.n, .string b.s] 23)).alloc (.cells #[.int .i64 0, .int .i64 0, .string ⟨#[]⟩] 23) = w0 at *
    refine (SG.out _).mono ?_
    rintro e w1 ⟨rfl, hb1, hs1⟩
    try clear l1 a0 a1 a2 b0 b1 b2 r0 r1 r2 hf
    have F1 := F0.below hb1
    have B1 := B0.trans (hb1.mono B0.size)
    clear F0 B0 hb1
    obtain ⟨l1, a0, a1, a2, b0, b1, b2, r0, r1, r2, hf⟩ := id F1
    go_wp2_with fail
    refine (IN.out _ _ hs1).mono ?_
    rintro e wx ⟨rfl, hwx⟩; have hwx2 := hwx.symm; subst hwx2; clear hwx
    go_wp2_with fail
    refine (BO.out _).mono ?_
    rintro e w2 ⟨rfl, hb2⟩
    try clear l1 a0 a1 a2 b0 b1 b2 r0 r1 r2 hf
    have F2 := F1.below hb2
    have B2 := B1.trans (hb2.mono B1.size)
    clear F1 B1 hb2
    obtain ⟨l1, a0, a1, a2, b0, b1, b2, r0, r1, r2, hf⟩ := id F2
    go_wp2_with fail
    refine (FI.out _).mono ?_
    rintro e wx ⟨rfl, hwx⟩; have hwx2 := hwx.symm; subst hwx2; clear hwx
    go_wp2_with fail
    refine (NU.out _).mono ?_
    rintro e w3 ⟨rfl, hb3⟩
    try clear l1 a0 a1 a2 b0 b1 b2 r0 r1 r2 hf
    have F3 := F2.below hb3
    have B3 := B2.trans (hb3.mono B2.size)
    clear F2 B2 hb3
    obtain ⟨l1, a0, a1, a2, b0, b1, b2, r0, r1, r2, hf⟩ := id F3
    go_wp2_with fail
    refine (CO.out _).mono ?_
    rintro e w4 ⟨rfl, hb4⟩
    try clear l1 a0 a1 a2 b0 b1 b2 r0 r1 r2 hf
    have F4 := F3.below hb4
    have B4 := B3.trans (hb4.mono B3.size)
    clear F3 B3 hb4
    obtain ⟨l1, a0, a1, a2, b0, b1, b2, r0, r1, r2, hf⟩ := id F4
    go_wp2_with fail
    refine (TR.out _ _).mono ?_
    rintro e w5 ⟨rfl, hb5⟩
    try clear l1 a0 a1 a2 b0 b1 b2 r0 r1 r2 hf
    have F5 := F4.below hb5
    have B5 := B4.trans (hb5.mono B4.size)
    clear F4 B4 hb5
    obtain ⟨l1, a0, a1, a2, b0, b1, b2, r0, r1, r2, hf⟩ := id F5
    go_wp2_with fail
    refine bodyPost_ret (v := .tuple #[.agg #[.int .i64 4, .int .i64 (bI true), .string ⟨#[]⟩], .int .i64 0]) (by simp [results, Tryz.results15, go_sem, r0, r1, r2]) rfl ⟨rfl, ?_⟩
    first | exact ((B5.setCell (by simp; omega) _).setCell (by simp; omega) _).setCell (by simp; omega) _ | exact B5 | exact (((below_drewN B5 _).setCell (by simp; omega) _).setCell (by simp; omega) _).setCell (by simp; omega) _ | exact below_drewN ((((B5.setCell (by simp; omega) _).setCell (by simp; omega) _).setCell (by simp; omega) _)) _
set_option maxHeartbeats 8000000 in
set_option maxRecDepth 1000000 in
theorem rT_31 (a b : Va) (w : World) (c : Int) (v : Bool) (hv : (decide (c ≤ 0)) = v) (h0 : (a.ty == 0) = false) (h1 : (b.ty == 0) = false)
    (SG : Hid (∀ w, Calls Tryz.prog 37 #[] w fun e w' => e = .returned (.slice (some ⟨w.heap.size, 0, none⟩) 6 6) ∧ Below w.heap.size w w' ∧ strsAt w' w.heap.size signsL))
    (IN : Hid (∀ g w, strsAt w g signsL → Calls Tryz.prog 36 #[.slice (some ⟨g, 0, none⟩) 6 6, .string ⟨#[60, 61]⟩] w fun e w' => e = .returned (.bool true) ∧ w' = w))
    (BO : Hid (∀ w, Calls Tryz.prog 38 #[.agg #[.int .i64 a.ty, .int .i64 a.n, .string a.s], .agg #[.int .i64 b.ty, .int .i64 b.n, .string b.s]] w fun e w' => e = .returned (.int .i64 0) ∧ Below w.heap.size w w'))
    (FI : Hid (∀ w, Calls Tryz.prog 39 #[.int .i64 a.ty, .int .i64 b.ty] w fun e w' => e = .returned (.bool true) ∧ w' = w))
    (TR : Hid (∀ x w, Calls Tryz.prog 41 #[.bool x] w fun e w' => e = .returned (.agg #[.int .i64 4, .int .i64 (bI x), .string ⟨#[]⟩]) ∧ Below w.heap.size w w'))
    (NU : Hid (∀ w, Calls Tryz.prog 40 #[.agg #[.int .i64 a.ty, .int .i64 a.n, .string a.s]] w fun e w' => e = .returned (.bool true) ∧ Below w.heap.size w w'))
    (CO : Hid (∀ w, Calls Tryz.prog 26 #[.agg #[.int .i64 a.ty, .int .i64 a.n, .string a.s], .agg #[.int .i64 b.ty, .int .i64 b.n, .string b.s]] w fun e w' => e = .returned (.int .i64 c) ∧ Below w.heap.size w w'))
 : Calls Tryz.prog 15 #[.string ⟨#[60, 61]⟩, .agg #[.int .i64 a.ty, .int .i64 a.n, .string a.s], .agg #[.int .i64 b.ty, .int .i64 b.n, .string b.s]] w fun e w' => e = .returned (.tuple #[.agg #[.int .i64 4, .int .i64 (bI v), .string ⟨#[]⟩], .int .i64 0]) ∧ Below w.heap.size w w' := by
  have FF : Hid _ := Fr.new w a b ⟨0, 0, ⟨#[]⟩⟩
  have BZ : Hid _ := (((Below.refl _ w).alloc (Nat.le_refl _) (.cells #[.int .i64 a.ty, .int .i64 a.n, .string a.s] 23)).alloc (by simp) (.cells #[.int .i64 b.ty, .int .i64 b.n, .string b.s] 23)).alloc (by simp; omega) (.cells #[.int .i64 0, .int .i64 0, .string ⟨#[]⟩] 23)
  cases v
  · go_enter Tryz.func15, Tryz.ntmps15
    go_wp2_with fail
    have F0 := FF.out
    have B0 := BZ.out
    clear FF BZ
    generalize ((w.alloc (.cells #[.int .i64 a.ty, .int .i64 a.n, .string a.s] 23)).alloc (.cells #[.int .i64 b.ty, .int .i64 b.n, .string b.s] 23)).alloc (.cells #[.int .i64 0, .int .i64 0, .string ⟨#[]⟩] 23) = w0 at *
    refine (SG.out _).mono ?_
    rintro e w1 ⟨rfl, hb1, hs1⟩
    try clear l1 a0 a1 a2 b0 b1 b2 r0 r1 r2 hf
    have F1 := F0.below hb1
    have B1 := B0.trans (hb1.mono B0.size)
    clear F0 B0 hb1
    obtain ⟨l1, a0, a1, a2, b0, b1, b2, r0, r1, r2, hf⟩ := id F1
    go_wp2_with fail
    refine (IN.out _ _ hs1).mono ?_
    rintro e wx ⟨rfl, hwx⟩; have hwx2 := hwx.symm; subst hwx2; clear hwx
    go_wp2_with fail
    refine (BO.out _).mono ?_
    rintro e w2 ⟨rfl, hb2⟩
    try clear l1 a0 a1 a2 b0 b1 b2 r0 r1 r2 hf
    have F2 := F1.below hb2
    have B2 := B1.trans (hb2.mono B1.size)
    clear F1 B1 hb2
    obtain ⟨l1, a0, a1, a2, b0, b1, b2, r0, r1, r2, hf⟩ := id F2
    go_wp2_with fail
    refine (FI.out _).mono ?_
    rintro e wx ⟨rfl, hwx⟩; have hwx2 := hwx.symm; subst hwx2; clear hwx
    go_wp2_with fail
    refine (NU.out _).mono ?_
    rintro e w3 ⟨rfl, hb3⟩
    try clear l1 a0 a1 a2 b0 b1 b2 r0 r1 r2 hf
    have F3 := F2.below hb3
    have B3 := B2.trans (hb3.mono B2.size)
    clear F2 B2 hb3
    obtain ⟨l1, a0, a1, a2, b0, b1, b2, r0, r1, r2, hf⟩ := id F3
    go_wp2_with fail
    refine (CO.out _).mono ?_
    rintro e w4 ⟨rfl, hb4⟩
    try clear l1 a0 a1 a2 b0 b1 b2 r0 r1 r2 hf
    have F4 := F3.below hb4
    have B4 := B3.trans (hb4.mono B3.size)
    clear F3 B3 hb4
    obtain ⟨l1, a0, a1, a2, b0, b1, b2, r0, r1, r2, hf⟩ := id F4
    go_wp2_with fail
    refine (TR.out _ _).mono ?_
    rintro e w5 ⟨rfl, hb5⟩
    try clear l1 a0 a1 a2 b0 b1 b2 r0 r1 r2 hf
    have F5 := F4.below hb5
    have B5 := B4.trans (hb5.mono B4.size)
    clear F4 B4 hb5
    obtain ⟨l1, a0, a1, a2, b0, b1, b2, r0, r1, r2, hf⟩ := id F5
    go_wp2_with fail
    refine bodyPost_ret (v := .tuple #[.agg #[.int .i64 4, .int .i64 (bI false), .string ⟨#[]⟩], .int .i64 0]) (by simp [results, Tryz.results15, go_sem, r0, r1, r2]) rfl ⟨rfl, ?_⟩
    first | exact ((B5.setCell (by simp; omega) _).setCell (by simp; omega) _).setCell (by simp; omega) _ | exact B5 | exact (((below_drewN B5 _).setCell (by simp; omega) _).setCell (by simp; omega) _).setCell (by simp; omega) _ | exact below_drewN ((((B5.setCell (by simp; omega) _).setCell (by simp; omega) _).setCell (by simp; omega) _)) _
  · go_enter Tryz.func15, Tryz.ntmps15
    go_wp2_with fail
    have F0 := FF.out
    have B0 := BZ.out
    clear FF BZ
    generalize ((w.alloc (.cells #[.int .i64 a.ty, .int .i64 a.n, .string a.s] 23)).alloc (.cells #[.int .i64 b.ty, .int .i64 b.n, .string b.s] 23)).alloc (.cells #[.int .i64 0, .int .i64 0, .string ⟨#[]⟩] 23) = w0 at *
    refine (SG.out _).mono ?_
    rintro e w1 ⟨rfl, hb1, hs1⟩
    try clear l1 a0 a1 a2 b0 b1 b2 r0 r1 r2 hf
    have F1 := F0.below hb1
    have B1 := B0.trans (hb1.mono B0.size)
    clear F0 B0 hb1
    obtain ⟨l1, a0, a1, a2, b0, b1, b2, r0, r1, r2, hf⟩ := id F1
    go_wp2_with fail
    refine (IN.out _ _ hs1).mono ?_
    rintro e wx ⟨rfl, hwx⟩; have hwx2 := hwx.symm; subst hwx2; clear hwx
    go_wp2_with fail
    refine (BO.out _).mono ?_
    rintro e w2 ⟨rfl, hb2⟩
    try clear l1 a0 a1 a2 b0 b1 b2 r0 r1 r2 hf
    have F2 := F1.below hb2
    have B2 := B1.trans (hb2.mono B1.size)
    clear F1 B1 hb2
    obtain ⟨l1, a0, a1, a2, b0, b1, b2, r0, r1, r2, hf⟩ := id F2
    go_wp2_with fail
    refine (FI.out _).mono ?_
    rintro e wx ⟨rfl, hwx⟩; have hwx2 := hwx.symm; subst hwx2; clear hwx
    go_wp2_with fail
    refine (NU.out _).mono ?_
    rintro e w3 ⟨rfl, hb3⟩
    try clear l1 a0 a1 a2 b0 b1 b2 r0 r1 r2 hf
    have F3 := F2.below hb3
    have B3 := B2.trans (hb3.mono B2.size)
    clear F2 B2 hb3
    obtain ⟨l1, a0, a1, a2, b0, b1, b2, r0, r1, r2, hf⟩ := id F3
    go_wp2_with fail
    refine (CO.out _).mono ?_
    rintro e w4 ⟨rfl, hb4⟩
    try clear l1 a0 a1 a2 b0 b1 b2 r0 r1 r2 hf
    have F4 := F3.below hb4
    have B4 := B3.trans (hb4.mono B3.size)
    clear F3 B3 hb4
    obtain ⟨l1, a0, a1, a2, b0, b1, b2, r0, r1, r2, hf⟩ := id F4
    go_wp2_with fail
    refine (TR.out _ _).mono ?_
    rintro e w5 ⟨rfl, hb5⟩
    try clear l1 a0 a1 a2 b0 b1 b2 r0 r1 r2 hf
    have F5 := F4.below hb5
    have B5 := B4.trans (hb5.mono B4.size)
    clear F4 B4 hb5
    obtain ⟨l1, a0, a1, a2, b0, b1, b2, r0, r1, r2, hf⟩ := id F5
    go_wp2_with fail
    refine bodyPost_ret (v := .tuple #[.agg #[.int .i64 4, .int .i64 (bI true), .string ⟨#[]⟩], .int .i64 0]) (by simp [results, Tryz.results15, go_sem, r0, r1, r2]) rfl ⟨rfl, ?_⟩
    first | exact ((B5.setCell (by simp; omega) _).setCell (by simp; omega) _).setCell (by simp; omega) _ | exact B5 | exact (((below_drewN B5 _).setCell (by simp; omega) _).setCell (by simp; omega) _).setCell (by simp; omega) _ | exact below_drewN ((((B5.setCell (by simp; omega) _).setCell (by simp; omega) _).setCell (by simp; omega) _)) _
set_option maxHeartbeats 8000000 in
set_option maxRecDepth 1000000 in
theorem rT_40 (a b : Va) (w : World) (c : Int) (v : Bool) (hv : (decide (0 < c)) = v) (h0 : (a.ty == 0) = false) (h1 : (b.ty == 0) = false)
    (SG : Hid (∀ w, Calls Tryz.prog 37 #[] w fun e w' => e = .returned (.slice (some ⟨w.heap.size, 0, none⟩) 6 6) ∧ Below w.heap.size w w' ∧ strsAt w' w.heap.size signsL))
    (IN : Hid (∀ g w, strsAt w g signsL → Calls Tryz.prog 36 #[.slice (some ⟨g, 0, none⟩) 6 6, .string ⟨#[62]⟩] w fun e w' => e = .returned (.bool true) ∧ w' = w))
    (BO : Hid (∀ w, Calls Tryz.prog 38 #[.agg #[.int .i64 a.ty, .int .i64 a.n, .string a.s], .agg #[.int .i64 b.ty, .int .i64 b.n, .string b.s]] w fun e w' => e = .returned (.int .i64 0) ∧ Below w.heap.size w w'))
    (FI : Hid (∀ w, Calls Tryz.prog 39 #[.int .i64 a.ty, .int .i64 b.ty] w fun e w' => e = .returned (.bool true) ∧ w' = w))
    (TR : Hid (∀ x w, Calls Tryz.prog 41 #[.bool x] w fun e w' => e = .returned (.agg #[.int .i64 4, .int .i64 (bI x), .string ⟨#[]⟩]) ∧ Below w.heap.size w w'))
    (NU : Hid (∀ w, Calls Tryz.prog 40 #[.agg #[.int .i64 a.ty, .int .i64 a.n, .string a.s]] w fun e w' => e = .returned (.bool false) ∧ Below w.heap.size w w'))
    (CO : Hid (∀ w, Calls Tryz.prog 8 #[.agg #[.int .i64 a.ty, .int .i64 a.n, .string a.s], .agg #[.int .i64 b.ty, .int .i64 b.n, .string b.s]] w fun e w' => e = .returned (.int .i64 c) ∧ Below w.heap.size w w'))
 : Calls Tryz.prog 15 #[.string ⟨#[62]⟩, .agg #[.int .i64 a.ty, .int .i64 a.n, .string a.s], .agg #[.int .i64 b.ty, .int .i64 b.n, .string b.s]] w fun e w' => e = .returned (.tuple #[.agg #[.int .i64 4, .int .i64 (bI v), .string ⟨#[]⟩], .int .i64 0]) ∧ Below w.heap.size w w' := by
  have FF : Hid _ := Fr.new w a b ⟨0, 0, ⟨#[]⟩⟩
  have BZ : Hid _ := (((Below.refl _ w).alloc (Nat.le_refl _) (.cells #[.int .i64 a.ty, .int .i64 a.n, .string a.s] 23)).alloc (by simp) (.cells #[.int .i64 b.ty, .int .i64 b.n, .string b.s] 23)).alloc (by simp; omega) (.cells #[.int .i64 0, .int .i64 0, .string ⟨#[]⟩] 23)
  cases v
  · go_enter Tryz.func15, Tryz.ntmps15
    go_wp2_with fail
    have F0 := FF.out
    have B0 := BZ.out
    clear FF BZ
    generalize ((w.alloc (.cells #[.int .i64 a.ty, .int .i64 a.n, .string a.s] 23)).alloc (.cells #[.int .i64 b.ty, .int .i64 b.n, .string b.s] 23)).alloc (.cells #[.int .i64 0, .int .i64 0, .string ⟨#[]⟩] 23) = w0 at *
    refine (SG.out _).mono ?_
    rintro e w1 ⟨rfl, hb1, hs1⟩
    try clear l1 a0 a1 a2 b0 b1 b2 r0 r1 r2 hf
    have F1 := F0.below hb1
    have B1 := B0.trans (hb1.mono B0.size)
    clear F0 B0 hb1
    obtain ⟨l1, a0, a1, a2, b0, b1, b2, r0, r1, r2, hf⟩ := id F1
    go_wp2_with fail
    refine (IN.out _ _ hs1).mono ?_
    rintro e wx ⟨rfl, hwx⟩; have hwx2 := hwx.symm; subst hwx2; clear hwx
    go_wp2_with fail
    refine (BO.out _).mono ?_
    rintro e w2 ⟨rfl, hb2⟩
    try clear l1 a0 a1 a2 b0 b1 b2 r0 r1 r2 hf
    have F2 := F1.below hb2
    have B2 := B1.trans (hb2.mono B1.size)
    clear F1 B1 hb2
    obtain ⟨l1, a0, a1, a2, b0, b1, b2, r0, r1, r2, hf⟩ := id F2
    go_wp2_with fail
    refine (FI.out _).mono ?_
    rintro e wx ⟨rfl, hwx⟩; have hwx2 := hwx.symm; subst hwx2; clear hwx
    go_wp2_with fail
    refine (NU.out _).mono ?_
    rintro e w3 ⟨rfl, hb3⟩
    try clear l1 a0 a1 a2 b0 b1 b2 r0 r1 r2 hf
    have F3 := F2.below hb3
    have B3 := B2.trans (hb3.mono B2.size)
    clear F2 B2 hb3
    obtain ⟨l1, a0, a1, a2, b0, b1, b2, r0, r1, r2, hf⟩ := id F3
    go_wp2_with fail
    refine (CO.out _).mono ?_
    rintro e w4 ⟨rfl, hb4⟩
    try clear l1 a0 a1 a2 b0 b1 b2 r0 r1 r2 hf
    have F4 := F3.below hb4
    have B4 := B3.trans (hb4.mono B3.size)
    clear F3 B3 hb4
    obtain ⟨l1, a0, a1, a2, b0, b1, b2, r0, r1, r2, hf⟩ := id F4
    go_wp2_with fail
    refine (TR.out _ _).mono ?_
    rintro e w5 ⟨rfl, hb5⟩
    try clear l1 a0 a1 a2 b0 b1 b2 r0 r1 r2 hf
    have F5 := F4.below hb5
    have B5 := B4.trans (hb5.mono B4.size)
    clear F4 B4 hb5
    obtain ⟨l1, a0, a1, a2, b0, b1, b2, r0, r1, r2, hf⟩ := id F5
    go_wp2_with fail
    refine bodyPost_ret (v := .tuple #[.agg #[.int .i64 4, .int .i64 (bI false), .string ⟨#[]⟩], .int .i64 0]) (by simp [results, Tryz.results15, go_sem, r0, r1, r2]) rfl ⟨rfl, ?_⟩
    first | exact ((B5.setCell (by simp; omega) _).setCell (by simp; omega) _).setCell (by simp; omega) _ | exact B5 | exact (((below_drewN B5 _).setCell (by simp; omega) _).setCell (by simp; omega) _).setCell (by simp; omega) _ | exact below_drewN ((((B5.setCell (by simp; omega) _).setCell (by simp; omega) _).setCell (by simp; omega) _)) _
  · go_enter Tryz.func15, Tryz.ntmps15
    go_wp2_with fail
    have F0 := FF.out
    have B0 := BZ.out
    clear FF BZ
    generalize ((w.alloc (.cells #[.int .i64 a.ty, .int .i64 a.n, .string a.s] 23)).alloc (.cells #[.int .i64 b.ty, .int .i64 b.n, .string b.s] 23)).alloc (.cells #[.int .i64 0, .int .i64 0, .string ⟨#[]⟩] 23) = w0 at *
    refine (SG.out _).mono ?_
    rintro e w1 ⟨rfl, hb1, hs1⟩
    try clear l1 a0 a1 a2 b0 b1 b2 r0 r1 r2 hf
    have F1 := F0.below hb1
    have B1 := B0.trans (hb1.mono B0.size)
    clear F0 B0 hb1
    obtain ⟨l1, a0, a1, a2, b0, b1, b2, r0, r1, r2, hf⟩ := id F1
    go_wp2_with fail
    refine (IN.out _ _ hs1).mono ?_
    rintro e wx ⟨rfl, hwx⟩; have hwx2 := hwx.symm; subst hwx2; clear hwx
    go_wp2_with fail
    refine (BO.out _).mono ?_
    rintro e w2 ⟨rfl, hb2⟩
    try clear l1 a0 a1 a2 b0 b1 b2 r0 r1 r2 hf
    have F2 := F1.below hb2
    have B2 := B1.trans (hb2.mono B1.size)
    clear F1 B1 hb2
    obtain ⟨l1, a0, a1, a2, b0, b1, b2, r0, r1, r2, hf⟩ := id F2
    go_wp2_with fail
    refine (FI.out _).mono ?_
    rintro e wx ⟨rfl, hwx⟩; have hwx2 := hwx.symm; subst hwx2; clear hwx
    go_wp2_with fail
    refine (NU.out _).mono ?_
    rintro e w3 ⟨rfl, hb3⟩
    try clear l1 a0 a1 a2 b0 b1 b2 r0 r1 r2 hf
    have F3 := F2.below hb3
    have B3 := B2.trans (hb3.mono B2.size)
    clear F2 B2 hb3
    obtain ⟨l1, a0, a1, a2, b0, b1, b2, r0, r1, r2, hf⟩ := id F3
    go_wp2_with fail
    refine (CO.out _).mono ?_
    rintro e w4 ⟨rfl, hb4⟩
    try clear l1 a0 a1 a2 b0 b1 b2 r0 r1 r2 hf
    have F4 := F3.below hb4
    have B4 := B3.trans (hb4.mono B3.size)
    clear F3 B3 hb4
    obtain ⟨l1, a0, a1, a2, b0, b1, b2, r0, r1, r2, hf⟩ := id F4
    go_wp2_with fail
    refine (TR.out _ _).mono ?_
    rintro e w5 ⟨rfl, hb5⟩
    try clear l1 a0 a1 a2 b0 b1 b2 r0 r1 r2 hf
    have F5 := F4.below hb5
    have B5 := B4.trans (hb5.mono B4.size)
    clear F4 B4 hb5
    obtain ⟨l1, a0, a1, a2, b0, b1, b2, r0, r1, r2, hf⟩ := id F5
    go_wp2_with fail
    refine bodyPost_ret (v := .tuple #[.agg #[.int .i64 4, .int .i64 (bI true), .string ⟨#[]⟩], .int .i64 0]) (by simp [results, Tryz.results15, go_sem, r0, r1, r2]) rfl ⟨rfl, ?_⟩
    first | exact ((B5.setCell (by simp; omega) _).setCell (by simp; omega) _).setCell (by simp; omega) _ | exact B5 | exact (((below_drewN B5 _).setCell (by simp; omega) _).setCell (by simp; omega) _).setCell (by simp; omega) _ | exact below_drewN ((((B5.setCell (by simp; omega) _).setCell (by simp; omega) _).setCell (by simp; omega) _)) _
set_option maxHeartbeats 8000000 in
set_option maxRecDepth 1000000 in
theorem rT_41 (a b : Va) (w : World) (c : Int) (v : Bool) (hv : (decide (0 < c)) = v) (h0 : (a.ty == 0) = false) (h1 : (b.ty == 0) = false)
    (SG : Hid (∀ w, Calls Tryz.prog 37 #[] w fun e w' => e = .returned (.slice (some ⟨w.heap.size, 0, none⟩) 6 6) ∧ Below w.heap.size w w' ∧ strsAt w' w.heap.size signsL))
    (IN : Hid (∀ g w, strsAt w g signsL → Calls Tryz.prog 36 #[.slice (some ⟨g, 0, none⟩) 6 6, .string ⟨#[62]⟩] w fun e w' => e = .returned (.bool true) ∧ w' = w))
    (BO : Hid (∀ w, Calls Tryz.prog 38 #[.agg #[.int .i64 a.ty, .int .i64 a.n, .string a.s], .agg #[.int .i64 b.ty, .int .i64 b.n, .string b.s]] w fun e w' => e = .returned (.int .i64 0) ∧ Below w.heap.size w w'))
    (FI : Hid (∀ w, Calls Tryz.prog 39 #[.int .i64 a.ty, .int .i64 b.ty] w fun e w' => e = .returned (.bool true) ∧ w' = w))
    (TR : Hid (∀ x w, Calls Tryz.prog 41 #[.bool x] w fun e w' => e = .returned (.agg #[.int .i64 4, .int .i64 (bI x), .string ⟨#[]⟩]) ∧ Below w.heap.size w w'))
    (NU : Hid (∀ w, Calls Tryz.prog 40 #[.agg #[.int .i64 a.ty, .int .i64 a.n, .string a.s]] w fun e w' => e = .returned (.bool true) ∧ Below w.heap.size w w'))
    (CO : Hid (∀ w, Calls Tryz.prog 26 #[.agg #[.int .i64 a.ty, .int .i64 a.n, .string a.s], .agg #[.int .i64 b.ty, .int .i64 b.n, .string b.s]] w fun e w' => e = .returned (.int .i64 c) ∧ Below w.heap.size w w'))
 : Calls Tryz.prog 15 #[.string ⟨#[62]⟩, .agg #[.int .i64 a.ty, .int .i64 a.n, .string a.s], .agg #[.int .i64 b.ty, .int .i64 b.n, .string b.s]] w fun e w' => e = .returned (.tuple #[.agg #[.int .i64 4, .int .i64 (bI v), .string ⟨#[]⟩], .int .i64 0]) ∧ Below w.heap.size w w' := by
  have FF : Hid _ := Fr.new w a b ⟨0, 0, ⟨#[]⟩⟩
  have BZ : Hid _ := (((Below.refl _ w).alloc (Nat.le_refl _) (.cells #[.int .i64 a.ty, .int .i64 a.n, .string a.s] 23)).alloc (by simp) (.cells #[.int .i64 b.ty, .int .i64 b.n, .string b.s] 23)).alloc (by simp; omega) (.cells #[.int .i64 0, .int .i64 0, .string ⟨#[]⟩] 23)
  cases v
  · go_enter Tryz.func15, Tryz.ntmps15
    go_wp2_with fail
    have F0 := FF.out
    have B0 := BZ.out
    clear FF BZ
    generalize ((w.alloc (.cells #[.int .i64 a.ty, .int .i64 a.n, .string a.s] 23)).alloc (.cells #[.int .i64 b.ty, .int .i64 b.n, .string b.s] 23)).alloc (.cells #[.int .i64 0, .int .i64 0, .string ⟨#[]⟩] 23) = w0 at *
    refine (SG.out _).mono ?_
    rintro e w1 ⟨rfl, hb1, hs1⟩
    try clear l1 a0 a1 a2 b0 b1 b2 r0 r1 r2 hf
    have F1 := F0.below hb1
    have B1 := B0.trans (hb1.mono B0.size)
    clear F0 B0 hb1
    obtain ⟨l1, a0, a1, a2, b0, b1, b2, r0, r1, r2, hf⟩ := id F1
    go_wp2_with fail
    refine (IN.out _ _ hs1).mono ?_
    rintro e wx ⟨rfl, hwx⟩; have hwx2 := hwx.symm; subst hwx2; clear hwx
    go_wp2_with fail
    refine (BO.out _).mono ?_
    rintro e w2 ⟨rfl, hb2⟩
    try clear l1 a0 a1 a2 b0 b1 b2 r0 r1 r2 hf
    have F2 := F1.below hb2
    have B2 := B1.trans (hb2.mono B1.size)
    clear F1 B1 hb2
    obtain ⟨l1, a0, a1, a2, b0, b1, b2, r0, r1, r2, hf⟩ := id F2
    go_wp2_with fail
    refine (FI.out _).mono ?_
    rintro e wx ⟨rfl, hwx⟩; have hwx2 := hwx.symm; subst hwx2; clear hwx
    go_wp2_with fail
    refine (NU.out _).mono ?_
    rintro e w3 ⟨rfl, hb3⟩
    try clear l1 a0 a1 a2 b0 b1 b2 r0 r1 r2 hf
    have F3 := F2.below hb3
    have B3 := B2.trans (hb3.mono B2.size)
    clear F2 B2 hb3
    obtain ⟨l1, a0, a1, a2, b0, b1, b2, r0, r1, r2, hf⟩ := id F3
    go_wp2_with fail
    refine (CO.out _).mono ?_
    rintro e w4 ⟨rfl, hb4⟩
    try clear l1 a0 a1 a2 b0 b1 b2 r0 r1 r2 hf
    have F4 := F3.below hb4
    have B4 := B3.trans (hb4.mono B3.size)
    clear F3 B3 hb4
    obtain ⟨l1, a0, a1, a2, b0, b1, b2, r0, r1, r2, hf⟩ := id F4
    go_wp2_with fail
    refine (TR.out _ _).mono ?_
    rintro e w5 ⟨rfl, hb5⟩
    try clear l1 a0 a1 a2 b0 b1 b2 r0 r1 r2 hf
    have F5 := F4.below hb5
    have B5 := B4.trans (hb5.mono B4.size)
    clear F4 B4 hb5
    obtain ⟨l1, a0, a1, a2, b0, b1, b2, r0, r1, r2, hf⟩ := id F5
    go_wp2_with fail
    refine bodyPost_ret (v := .tuple #[.agg #[.int .i64 4, .int .i64 (bI false), .string ⟨#[]⟩], .int .i64 0]) (by simp [results, Tryz.results15, go_sem, r0, r1, r2]) rfl ⟨rfl, ?_⟩
    first | exact ((B5.setCell (by simp; omega) _).setCell (by simp; omega) _).setCell (by simp; omega) _ | exact B5 | exact (((below_drewN B5 _).setCell (by simp; omega) _).setCell (by simp; omega) _).setCell (by simp; omega) _ | exact below_drewN ((((B5.setCell (by simp; omega) _).setCell (by simp; omega) _).setCell (by simp; omega) _)) _
  · go_enter Tryz.func15, Tryz.ntmps15
    go_wp2_with fail
    have F0 := FF.out
    have B0 := BZ.out
    clear FF BZ
    generalize ((w.alloc (.cells #[.int .i64 a.ty, .int .i64 a.n, .string a.s] 23)).alloc (.cells #[.int .i64 b.ty, .int .i64 b.n, .string b.s] 23)).alloc (.cells #[.int .i64 0, .int .i64 0, .string ⟨#[]⟩] 23) = w0 at *
    refine (SG.out _).mono ?_
    rintro e w1 ⟨rfl, hb1, hs1⟩
    try clear l1 a0 a1 a2 b0 b1 b2 r0 r1 r2 hf
    have F1 := F0.below hb1
    have B1 := B0.trans (hb1.mono B0.size)
    clear F0 B0 hb1
    obtain ⟨l1, a0, a1, a2, b0, b1, b2, r0, r1, r2, hf⟩ := id F1
    go_wp2_with fail
    refine (IN.out _ _ hs1).mono ?_
    rintro e wx ⟨rfl, hwx⟩; have hwx2 := hwx.symm; subst hwx2; clear hwx
    go_wp2_with fail
    refine (BO.out _).mono ?_
    rintro e w2 ⟨rfl, hb2⟩
    try clear l1 a0 a1 a2 b0 b1 b2 r0 r1 r2 hf
    have F2 := F1.below hb2
    have B2 := B1.trans (hb2.mono B1.size)
    clear F1 B1 hb2
    obtain ⟨l1, a0, a1, a2, b0, b1, b2, r0, r1, r2, hf⟩ := id F2
    go_wp2_with fail
    refine (FI.out _).mono ?_
    rintro e wx ⟨rfl, hwx⟩; have hwx2 := hwx.symm; subst hwx2; clear hwx
    go_wp2_with fail
    refine (NU.out _).mono ?_
    rintro e w3 ⟨rfl, hb3⟩
    try clear l1 a0 a1 a2 b0 b1 b2 r0 r1 r2 hf
    have F3 := F2.below hb3
    have B3 := B2.trans (hb3.mono B2.size)
    clear F2 B2 hb3
    obtain ⟨l1, a0, a1, a2, b0, b1, b2, r0, r1, r2, hf⟩ := id F3
    go_wp2_with fail
    refine (CO.out _).mono ?_
    rintro e w4 ⟨rfl, hb4⟩
    try clear l1 a0 a1 a2 b0 b1 b2 r0 r1 r2 hf
    have F4 := F3.below hb4
    have B4 := B3.trans (hb4.mono B3.size)
    clear F3 B3 hb4
    obtain ⟨l1, a0, a1, a2, b0, b1, b2, r0, r1, r2, hf⟩ := id F4
    go_wp2_with fail
    refine (TR.out _ _).mono ?_
    rintro e w5 ⟨rfl, hb5⟩
    try clear l1 a0 a1 a2 b0 b1 b2 r0 r1 r2 hf
    have F5 := F4.below hb5
    have B5 := B4.trans (hb5.mono B4.size)
    clear F4 B4 hb5
    obtain ⟨l1, a0, a1, a2, b0, b1, b2, r0, r1, r2, hf⟩ := id F5
    go_wp2_with fail
    refine bodyPost_ret (v := .tuple #[.agg #[.int .i64 4, .int .i64 (bI true), .string ⟨#[]⟩], .int .i64 0]) (by simp [results, Tryz.results15, go_sem, r0, r1, r2]) rfl ⟨rfl, ?_⟩
    first | exact ((B5.setCell (by simp; omega) _).setCell (by simp; omega) _).setCell (by simp; omega) _ | exact B5 | exact (((below_drewN B5 _).setCell (by simp; omega) _).setCell (by simp; omega) _).setCell (by simp; omega) _ | exact below_drewN ((((B5.setCell (by simp; omega) _).setCell (by simp; omega) _).setCell (by simp; omega) _)) _
set_option maxHeartbeats 8000000 in
set_option maxRecDepth 1000000 in
theorem rT_50 (a b : Va) (w : World) (c : Int) (v : Bool) (hv : (decide (0 ≤ c)) = v) (h0 : (a.ty == 0) = false) (h1 : (b.ty == 0) = false)
    (SG : Hid (∀ w, Calls Tryz.prog 37 #[] w fun e w' => e = .returned (.slice (some ⟨w.heap.size, 0, none⟩) 6 6) ∧ Below w.heap.size w w' ∧ strsAt w' w.heap.size signsL))
    (IN : Hid (∀ g w, strsAt w g signsL → Calls Tryz.prog 36 #[.slice (some ⟨g, 0, none⟩) 6 6, .string ⟨#[62, 61]⟩] w fun e w' => e = .returned (.bool true) ∧ w' = w))
    (BO : Hid (∀ w, Calls Tryz.prog 38 #[.agg #[.int .i64 a.ty, .int .i64 a.n, .string a.s], .agg #[.int .i64 b.ty, .int .i64 b.n, .string b.s]] w fun e w' => e = .returned (.int .i64 0) ∧ Below w.heap.size w w'))
    (FI : Hid (∀ w, Calls Tryz.prog 39 #[.int .i64 a.ty, .int .i64 b.ty] w fun e w' => e = .returned (.bool true) ∧ w' = w))
    (TR : Hid (∀ x w, Calls Tryz.prog 41 #[.bool x] w fun e w' => e = .returned (.agg #[.int .i64 4, .int .i64 (bI x), .string ⟨#[]⟩]) ∧ Below w.heap.size w w'))
    (NU : Hid (∀ w, Calls Tryz.prog 40 #[.agg #[.int .i64 a.ty, .int .i64 a.n, .string a.s]] w fun e w' => e = .returned (.bool false) ∧ Below w.heap.size w w'))
    (CO : Hid (∀ w, Calls Tryz.prog 8 #[.agg #[.int .i64 a.ty, .int .i64 a.n, .string a.s], .agg #[.int .i64 b.ty, .int .i64 b.n, .string b.s]] w fun e w' => e = .returned (.int .i64 c) ∧ Below w.heap.size w w'))
 : Calls Tryz.prog 15 #[.string ⟨#[62, 61]⟩, .agg #[.int .i64 a.ty, .int .i64 a.n, .string a.s], .agg #[.int .i64 b.ty, .int .i64 b.n, .string b.s]] w fun e w' => e = .returned (.tuple #[.agg #[.int .i64 4, .int .i64 (bI v), .string ⟨#[]⟩], .int .i64 0]) ∧ Below w.heap.size w w' := by
  have FF : Hid _ := Fr.new w a b ⟨0, 0, ⟨#[]⟩⟩
  have BZ : Hid _ := (((Below.refl _ w).alloc (Nat.le_refl _) (.cells #[.int .i64 a.ty, .int .i64 a.n, .string a.s] 23)).alloc (by simp) (.cells #[.int .i64 b.ty, .int .i64 b.n, .string b.s] 23)).alloc (by simp; omega) (.cells #[.int .i64 0, .int .i64 0, .string ⟨#[]⟩] 23)
  cases v
  · go_enter Tryz.func15, Tryz.ntmps15
    go_wp2_with fail
    have F0 := FF.out
    have B0 := BZ.out
    clear FF BZ
    generalize ((w.alloc (.cells #[.int .i64 a.ty, .int .i64 a.n, .string a.s] 23)).alloc (.cells #[.int .i64 b.ty, .int .i64 b.n, .string b.s] 23)).alloc (.cells #[.int .i64 0, .int .i64 0, .string ⟨#[]⟩] 23) = w0 at *
    refine (SG.out _).mono ?_
    rintro e w1 ⟨rfl, hb1, hs1⟩
    try clear l1 a0 a1 a2 b0 b1 b2 r0 r1 r2 hf
    have F1 := F0.below hb1
    have B1 := B0.trans (hb1.mono B0.size)
    clear F0 B0 hb1
    obtain ⟨l1, a0, a1, a2, b0, b1, b2, r0, r1, r2, hf⟩ := id F1
    go_wp2_with fail
    refine (IN.out _ _ hs1).mono ?_
    rintro e wx ⟨rfl, hwx⟩; have hwx2 := hwx.symm; subst hwx2; clear hwx
    go_wp2_with fail
    refine (BO.out _).mono ?_
    rintro e w2 ⟨rfl, hb2⟩
    try clear l1 a0 a1 a2 b0 b1 b2 r0 r1 r2 hf
    have F2 := F1.below hb2
    have B2 := B1.trans (hb2.mono B1.size)
    clear F1 B1 hb2
    obtain ⟨l1, a0, a1, a2, b0, b1, b2, r0, r1, r2, hf⟩ := id F2
    go_wp2_with fail
    refine (FI.out _).mono ?_
    rintro e wx ⟨rfl, hwx⟩; have hwx2 := hwx.symm; subst hwx2; clear hwx
    go_wp2_with fail
    refine (NU.out _).mono ?_
    rintro e w3 ⟨rfl, hb3⟩
    try clear l1 a0 a1 a2 b0 b1 b2 r0 r1 r2 hf
    have F3 := F2.below hb3
    have B3 := B2.trans (hb3.mono B2.size)
    clear F2 B2 hb3
    obtain ⟨l1, a0, a1, a2, b0, b1, b2, r0, r1, r2, hf⟩ := id F3
    go_wp2_with fail
    refine (CO.out _).mono ?_
    rintro e w4 ⟨rfl, hb4⟩
    try clear l1 a0 a1 a2 b0 b1 b2 r0 r1 r2 hf
    have F4 := F3.below hb4
    have B4 := B3.trans (hb4.mono B3.size)
    clear F3 B3 hb4
    obtain ⟨l1, a0, a1, a2, b0, b1, b2, r0, r1, r2, hf⟩ := id F4
    go_wp2_with fail
    refine (TR.out _ _).mono ?_
    rintro e w5 ⟨rfl, hb5⟩
    try clear l1 a0 a1 a2 b0 b1 b2 r0 r1 r2 hf
    have F5 := F4.below hb5
    have B5 := B4.trans (hb5.mono B4.size)
    clear F4 B4 hb5
    obtain ⟨l1, a0, a1, a2, b0, b1, b2, r0, r1, r2, hf⟩ := id F5
    go_wp2_with fail
    refine bodyPost_ret (v := .tuple #[.agg #[.int .i64 4, .int .i64 (bI false), .string ⟨#[]⟩], .int .i64 0]) (by simp [results, Tryz.results15, go_sem, r0, r1, r2]) rfl ⟨rfl, ?_⟩
    first | exact ((B5.setCell (by simp; omega) _).setCell (by simp; omega) _).setCell (by simp; omega) _ | exact B5 | exact (((below_drewN B5 _).setCell (by simp; omega) _).setCell (by simp; omega) _).setCell (by simp; omega) _ | exact below_drewN ((((B5.setCell (by simp; omega) _).setCell (by simp; omega) _).setCell (by simp; omega) _)) _
  · go_enter Tryz.func15, Tryz.ntmps15
    go_wp2_with fail
    have F0 := FF.out
    have B0 := BZ.out
    clear FF BZ
    generalize ((w.alloc (.cells #[.int .i64 a.ty, .int .i64 a.n, .string a.s] 23)).alloc (.cells #[.int .i64 b.ty, .int .i64 b.n, .string b.s] 23)).alloc (.cells #[.int .i64 0, .int .i64 0, .string ⟨#[]⟩] 23) = w0 at *
    refine (SG.out _).mono ?_
    rintro e w1 ⟨rfl, hb1, hs1⟩
    try clear l1 a0 a1 a2 b0 b1 b2 r0 r1 r2 hf
    have F1 := F0.below hb1
    have B1 := B0.trans (hb1.mono B0.size)
    clear F0 B0 hb1
    obtain ⟨l1, a0, a1, a2, b0, b1, b2, r0, r1, r2, hf⟩ := id F1
    go_wp2_with fail
    refine (IN.out _ _ hs1).mono ?_
    rintro e wx ⟨rfl, hwx⟩; have hwx2 := hwx.symm; subst hwx2; clear hwx
    go_wp2_with fail
    refine (BO.out _).mono ?_
    rintro e w2 ⟨rfl, hb2⟩
    try clear l1 a0 a1 a2 b0 b1 b2 r0 r1 r2 hf
    have F2 := F1.below hb2
    have B2 := B1.trans (hb2.mono B1.size)
    clear F1 B1 hb2
    obtain ⟨l1, a0, a1, a2, b0, b1, b2, r0, r1, r2, hf⟩ := id F2
    go_wp2_with fail
    refine (FI.out _).mono ?_
    rintro e wx ⟨rfl, hwx⟩; have hwx2 := hwx.symm; subst hwx2; clear hwx
    go_wp2_with fail
    refine (NU.out _).mono ?_
    rintro e w3 ⟨rfl, hb3⟩
    try clear l1 a0 a1 a2 b0 b1 b2 r0 r1 r2 hf
    have F3 := F2.below hb3
    have B3 := B2.trans (hb3.mono B2.size)
    clear F2 B2 hb3
    obtain ⟨l1, a0, a1, a2, b0, b1, b2, r0, r1, r2, hf⟩ := id F3
    go_wp2_with fail
    refine (CO.out _).mono ?_
    rintro e w4 ⟨rfl, hb4⟩
    try clear l1 a0 a1 a2 b0 b1 b2 r0 r1 r2 hf
    have F4 := F3.below hb4
    have B4 := B3.trans (hb4.mono B3.size)
    clear F3 B3 hb4
    obtain ⟨l1, a0, a1, a2, b0, b1, b2, r0, r1, r2, hf⟩ := id F4
    go_wp2_with fail
    refine (TR.out _ _).mono ?_
    rintro e w5 ⟨rfl, hb5⟩
    try clear l1 a0 a1 a2 b0 b1 b2 r0 r1 r2 hf
    have F5 := F4.below hb5
    have B5 := B4.trans (hb5.mono B4.size)
    clear F4 B4 hb5
    obtain ⟨l1, a0, a1, a2, b0, b1, b2, r0, r1, r2, hf⟩ := id F5
    go_wp2_with fail
    refine bodyPost_ret (v := .tuple #[.agg #[.int .i64 4, .int .i64 (bI true), .string ⟨#[]⟩], .int .i64 0]) (by simp [results, Tryz.results15, go_sem, r0, r1, r2]) rfl ⟨rfl, ?_⟩
    first | exact ((B5.setCell (by simp; omega) _).setCell (by simp; omega) _).setCell (by simp; omega) _ | exact B5 | exact (((below_drewN B5 _).setCell (by simp; omega) _).setCell (by simp; omega) _).setCell (by simp; omega) _ | exact below_drewN ((((B5.setCell (by simp; omega) _).setCell (by simp; omega) _).setCell (by simp; omega) _)) _
set_option maxHeartbeats 8000000 in
set_option maxRecDepth 1000000 in
theorem rT_51 (a b : Va) (w : World) (c : Int) (v : Bool) (hv : (decide (0 ≤ c)) = v) (h0 : (a.ty == 0) = false) (h1 : (b.ty == 0) = false)
    (SG : Hid (∀ w, Calls Tryz.prog 37 #[] w fun e w' => e = .returned (.slice (some ⟨w.heap.size, 0, none⟩) 6 6) ∧ Below w.heap.size w w' ∧ strsAt w' w.heap.size signsL))
    (IN : Hid (∀ g w, strsAt w g signsL → Calls Tryz.prog 36 #[.slice (some ⟨g, 0, none⟩) 6 6, .string ⟨#[62, 61]⟩] w fun e w' => e = .returned (.bool true) ∧ w' = w))
    (BO : Hid (∀ w, Calls Tryz.prog 38 #[.agg #[.int .i64 a.ty, .int .i64 a.n, .string a.s], .agg #[.int .i64 b.ty, .int .i64 b.n, .string b.s]] w fun e w' => e = .returned (.int .i64 0) ∧ Below w.heap.size w w'))
    (FI : Hid (∀ w, Calls Tryz.prog 39 #[.int .i64 a.ty, .int .i64 b.ty] w fun e w' => e = .returned (.bool true) ∧ w' = w))
    (TR : Hid (∀ x w, Calls Tryz.prog 41 #[.bool x] w fun e w' => e = .returned (.agg #[.int .i64 4, .int .i64 (bI x), .string ⟨#[]⟩]) ∧ Below w.heap.size w w'))
    (NU : Hid (∀ w, Calls Tryz.prog 40 #[.agg #[.int .i64 a.ty, .int .i64 a.n, .string a.s]] w fun e w' => e = .returned (.bool true) ∧ Below w.heap.size w w'))
    (CO : Hid (∀ w, Calls Tryz.prog 26 #[.agg #[.int .i64 a.ty, .int .i64 a.n, .string a.s], .agg #[.int .i64 b.ty, .int .i64 b.n, .string b.s]] w fun e w' => e = .returned (.int .i64 c) ∧ Below w.heap.size w w'))
 : Calls Tryz.prog 15 #[.string ⟨#[62, 61]⟩, .agg #[.int .i64 a.ty, .int .i64 a.n, .string a.s], .agg #[.int .i64 b.ty, .int .i64 b.n, .string b.s]] w fun e w' => e = .returned (.tuple #[.agg #[.int .i64 4, .int .i64 (bI v), .string ⟨#[]⟩], .int .i64 0]) ∧ Below w.heap.size w w' := by
  have FF : Hid _ := Fr.new w a b ⟨0, 0, ⟨#[]⟩⟩
  have BZ : Hid _ := (((Below.refl _ w).alloc (Nat.le_refl _) (.cells #[.int .i64 a.ty, .int .i64 a.n, .string a.s] 23)).alloc (by simp) (.cells #[.int .i64 b.ty, .int .i64 b.n, .string b.s] 23)).alloc (by simp; omega) (.cells #[.int .i64 0, .int .i64 0, .string ⟨#[]⟩] 23)
  cases v
  · go_enter Tryz.func15, Tryz.ntmps15
    go_wp2_with fail
    have F0 := FF.out
    have B0 := BZ.out
    clear FF BZ
    generalize ((w.alloc (.cells #[.int .i64 a.ty, .int .i64 a.n, .string a.s] 23)).alloc (.cells #[.int .i64 b.ty, .int .i64 b.n, .string b.s] 23)).alloc (.cells #[.int .i64 0, .int .i64 0, .string ⟨#[]⟩] 23) = w0 at *
    refine (SG.out _).mono ?_
    rintro e w1 ⟨rfl, hb1, hs1⟩
    try clear l1 a0 a1 a2 b0 b1 b2 r0 r1 r2 hf
    have F1 := F0.below hb1
    have B1 := B0.trans (hb1.mono B0.size)
    clear F0 B0 hb1
    obtain ⟨l1, a0, a1, a2, b0, b1, b2, r0, r1, r2, hf⟩ := id F1
    go_wp2_with fail
    refine (IN.out _ _ hs1).mono ?_
    rintro e wx ⟨rfl, hwx⟩; have hwx2 := hwx.symm; subst hwx2; clear hwx
    go_wp2_with fail
    refine (BO.out _).mono ?_
    rintro e w2 ⟨rfl, hb2⟩
    try clear l1 a0 a1 a2 b0 b1 b2 r0 r1 r2 hf
    have F2 := F1.below hb2
    have B2 := B1.trans (hb2.mono B1.size)
    clear F1 B1 hb2
    obtain ⟨l1, a0, a1, a2, b0, b1, b2, r0, r1, r2, hf⟩ := id F2
    go_wp2_with fail
    refine (FI.out _).mono ?_
    rintro e wx ⟨rfl, hwx⟩; have hwx2 := hwx.symm; subst hwx2; clear hwx
    go_wp2_with fail
    refine (NU.out _).mono ?_
    rintro e w3 ⟨rfl, hb3⟩
    try clear l1 a0 a1 a2 b0 b1 b2 r0 r1 r2 hf
    have F3 := F2.below hb3
    have B3 := B2.trans (hb3.mono B2.size)
    clear F2 B2 hb3
    obtain ⟨l1, a0, a1, a2, b0, b1, b2, r0, r1, r2, hf⟩ := id F3
    go_wp2_with fail
    refine (CO.out _).mono ?_
    rintro e w4 ⟨rfl, hb4⟩
    try clear l1 a0 a1 a2 b0 b1 b2 r0 r1 r2 hf
    have F4 := F3.below hb4
    have B4 := B3.trans (hb4.mono B3.size)
    clear F3 B3 hb4
    obtain ⟨l1, a0, a1, a2, b0, b1, b2, r0, r1, r2, hf⟩ := id F4
    go_wp2_with fail
    refine (TR.out _ _).mono ?_
    rintro e w5 ⟨rfl, hb5⟩
    try clear l1 a0 a1 a2 b0 b1 b2 r0 r1 r2 hf
    have F5 := F4.below hb5
    have B5 := B4.trans (hb5.mono B4.size)
    clear F4 B4 hb5
    obtain ⟨l1, a0, a1, a2, b0, b1, b2, r0, r1, r2, hf⟩ := id F5
    go_wp2_with fail
    refine bodyPost_ret (v := .tuple #[.agg #[.int .i64 4, .int .i64 (bI false), .string ⟨#[]⟩], .int .i64 0]) (by simp [results, Tryz.results15, go_sem, r0, r1, r2]) rfl ⟨rfl, ?_⟩
    first | exact ((B5.setCell (by simp; omega) _).setCell (by simp; omega) _).setCell (by simp; omega) _ | exact B5 | exact (((below_drewN B5 _).setCell (by simp; omega) _).setCell (by simp; omega) _).setCell (by simp; omega) _ | exact below_drewN ((((B5.setCell (by simp; omega) _).setCell (by simp; omega) _).setCell (by simp; omega) _)) _
  · go_enter Tryz.func15, Tryz.ntmps15
    go_wp2_with fail
    have F0 := FF.out
    have B0 := BZ.out
    clear FF BZ
    generalize ((w.alloc (.cells #[.int .i64 a.ty, .int .i64 a.n, .string a.s] 23)).alloc (.cells #[.int .i64 b.ty, .int .i64 b.n, .string b.s] 23)).alloc (.cells #[.int .i64 0, .int .i64 0, .string ⟨#[]⟩] 23) = w0 at *
    refine (SG.out _).mono ?_
    rintro e w1 ⟨rfl, hb1, hs1⟩
    try clear l1 a0 a1 a2 b0 b1 b2 r0 r1 r2 hf
    have F1 := F0.below hb1
    have B1 := B0.trans (hb1.mono B0.size)
    clear F0 B0 hb1
    obtain ⟨l1, a0, a1, a2, b0, b1, b2, r0, r1, r2, hf⟩ := id F1
    go_wp2_with fail
    refine (IN.out _ _ hs1).mono ?_
    rintro e wx ⟨rfl, hwx⟩; have hwx2 := hwx.symm; subst hwx2; clear hwx
    go_wp2_with fail
    refine (BO.out _).mono ?_
    rintro e w2 ⟨rfl, hb2⟩
    try clear l1 a0 a1 a2 b0 b1 b2 r0 r1 r2 hf
    have F2 := F1.below hb2
    have B2 := B1.trans (hb2.mono B1.size)
    clear F1 B1 hb2
    obtain ⟨l1, a0, a1, a2, b0, b1, b2, r0, r1, r2, hf⟩ := id F2
    go_wp2_with fail
    refine (FI.out _).mono ?_
    rintro e wx ⟨rfl, hwx⟩; have hwx2 := hwx.symm; subst hwx2; clear hwx
    go_wp2_with fail
    refine (NU.out _).mono ?_
    rintro e w3 ⟨rfl, hb3⟩
    try clear l1 a0 a1 a2 b0 b1 b2 r0 r1 r2 hf
    have F3 := F2.below hb3
    have B3 := B2.trans (hb3.mono B2.size)
    clear F2 B2 hb3
    obtain ⟨l1, a0, a1, a2, b0, b1, b2, r0, r1, r2, hf⟩ := id F3
    go_wp2_with fail
    refine (CO.out _).mono ?_
    rintro e w4 ⟨rfl, hb4⟩
    try clear l1 a0 a1 a2 b0 b1 b2 r0 r1 r2 hf
    have F4 := F3.below hb4
    have B4 := B3.trans (hb4.mono B3.size)
    clear F3 B3 hb4
    obtain ⟨l1, a0, a1, a2, b0, b1, b2, r0, r1, r2, hf⟩ := id F4
    go_wp2_with fail
    refine (TR.out _ _).mono ?_
    rintro e w5 ⟨rfl, hb5⟩
    try clear l1 a0 a1 a2 b0 b1 b2 r0 r1 r2 hf
    have F5 := F4.below hb5
    have B5 := B4.trans (hb5.mono B4.size)
    clear F4 B4 hb5
    obtain ⟨l1, a0, a1, a2, b0, b1, b2, r0, r1, r2, hf⟩ := id F5
    go_wp2_with fail
    refine bodyPost_ret (v := .tuple #[.agg #[.int .i64 4, .int .i64 (bI true), .string ⟨#[]⟩], .int .i64 0]) (by simp [results, Tryz.results15, go_sem, r0, r1, r2]) rfl ⟨rfl, ?_⟩
    first | exact ((B5.setCell (by simp; omega) _).setCell (by simp; omega) _).setCell (by simp; omega) _ | exact B5 | exact (((below_drewN B5 _).setCell (by simp; omega) _).setCell (by simp; omega) _).setCell (by simp; omega) _ | exact below_drewN ((((B5.setCell (by simp; omega) _).setCell (by simp; omega) _).setCell (by simp; omega) _)) _
end Go.Proofs.YtmgmpkdnepomgaaGreatDoor
