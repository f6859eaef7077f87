/-
  The walks of value.Neg and lockstepref01.Plain; a value in a box.
-/
import Derived.Test.YtppcoimfgafbfaaGreatDoorLwB
namespace Go.Proofs.YtppcoimfgafbfaaGreatDoor
open Go.RowKit Go.Shelf

/-- a value's box -/
structure Bx (w : World) (g : Nat) (v : Va) : Prop where
  lt : g < w.heap.size
  c0 : w.cell? ⟨g, 0, none⟩ = some (.int .i64 v.ty)
  c1 : w.cell? ⟨g, 1, none⟩ = some (.int .i64 v.n)
  c2 : w.cell? ⟨g, 2, none⟩ = some (.string v.s)
theorem Bx.below {w w' : World} {g : Nat} {v : Va} (h : Bx w g v) (hb : Below w.heap.size w w') : Bx w' g v :=
  ⟨Nat.lt_of_lt_of_le h.lt hb.size, (hb.cell (p := ⟨g, 0, none⟩) h.lt).trans h.c0, (hb.cell (p := ⟨g, 1, none⟩) h.lt).trans h.c1, (hb.cell (p := ⟨g, 2, none⟩) h.lt).trans h.c2⟩
theorem Bx.new (w : World) (v : Va) : Bx (w.alloc (.cells #[.int .i64 v.ty, .int .i64 v.n, .string v.s] 23)) w.heap.size v := by
  constructor
  all_goals go_simp
theorem Bx.alloc {w : World} {g : Nat} {v : Va} (h : Bx w g v) (o : Obj) : Bx (w.alloc o) g v := h.below ((Below.refl _ w).alloc (Nat.le_refl _) o)
/-- a result's block -/
structure Res (w : World) (g : Nat) (t n : Int) (s : ByteArray) : Prop where
  lt : g < w.heap.size
  c0 : w.cell? ⟨g, 0, none⟩ = some (.int .i64 t)
  c1 : w.cell? ⟨g, 1, none⟩ = some (.int .i64 n)
  c2 : w.cell? ⟨g, 2, none⟩ = some (.string s)
  f0 : w.frozen? ⟨g, 0, none⟩ = false
  f1 : w.frozen? ⟨g, 1, none⟩ = false
  f2 : w.frozen? ⟨g, 2, none⟩ = false
theorem Res.new (w : World) (t n : Int) (s : ByteArray) : Res (w.alloc (.cells #[.int .i64 t, .int .i64 n, .string s] 23)) w.heap.size t n s := by
  constructor
  all_goals go_simp
theorem Res.below {w w' : World} {g : Nat} {t n : Int} {s : ByteArray} (h : Res w g t n s) (hb : Below w.heap.size w w') : Res w' g t n s := by
  obtain ⟨l, c0, c1, c2, f0, f1, f2⟩ := h
  exact ⟨Nat.lt_of_lt_of_le l hb.size, (hb.cell (p := ⟨g, 0, none⟩) l).trans c0, (hb.cell (p := ⟨g, 1, none⟩) l).trans c1, (hb.cell (p := ⟨g, 2, none⟩) l).trans c2, (hb.frozen (p := ⟨g, 0, none⟩) l).trans f0, (hb.frozen (p := ⟨g, 1, none⟩) l).trans f1, (hb.frozen (p := ⟨g, 2, none⟩) l).trans f2⟩
/-- what Neg comes to -/
def ng (a : Va) : Va × Int := if ¬ nums [a] = 0 then (⟨0, 0, ⟨#[]⟩⟩, nums [a]) else if a.ty = 0 then (⟨0, 0, ⟨#[]⟩⟩, 0) else num a.ty (ovV (0 - a.n)) (ovE (0 - a.n))

set_option maxHeartbeats 4000000 in
set_option maxRecDepth 1000000 in
theorem Neg_any (a : Va) (w : World) (fa : fit a.n) (sa : a.s.size ≤ 9223372036854775807) (hT : Tabs w) :
    Calls Tryz.prog 6 #[.agg #[.int .i64 a.ty, .int .i64 a.n, .string a.s]] w fun e w' => e = .returned (ans (ng a)) ∧ Below w.heap.size w w' := by
  have CN : Hid (∀ g w, valsAt w g [a] → Tabs w → Calls Tryz.prog 9 #[.slice (some ⟨g, 0, none⟩) 1 1] w fun e w' => e = .returned (.int .i64 (nums [a])) ∧ Below w.heap.size w w') := fun g w hv ht => checkNumbers_any g 1 [a] w (by simp) hv (by intro v hv; simp at hv; subst hv; assumption) ht
  obtain ⟨C, hC⟩ : ∃ C, C = ng a := ⟨_, rfl⟩
  rw [← hC]
  by_cases hn : nums [a] = 0
  · rw [hn] at CN
    by_cases h0 : a.ty = 0
    · have e : C = (⟨0, 0, ⟨#[]⟩⟩, 0) := by rw [hC]; unfold ng; rw [if_neg (by simp [hn]), if_pos h0]
      have t0 : (a.ty == 0) = true := by rw [h0]; rfl
      subst e
      clear hC hn fa h0
      go_enter Tryz.func6, Tryz.ntmps6
      go_wp2_with fail
      have F0 : Bx ((w.alloc (.cells #[.int .i64 a.ty, .int .i64 a.n, .string a.s] 23)).alloc (.cells #[.int .i64 0, .int .i64 0, .string ⟨#[]⟩] 23)) w.heap.size a := (Bx.new w a).alloc _
      have R0 : Res ((w.alloc (.cells #[.int .i64 a.ty, .int .i64 a.n, .string a.s] 23)).alloc (.cells #[.int .i64 0, .int .i64 0, .string ⟨#[]⟩] 23)) (w.heap.size + 1) 0 0 ⟨#[]⟩ := by
        have := Res.new (w.alloc (.cells #[.int .i64 a.ty, .int .i64 a.n, .string a.s] 23)) 0 0 ⟨#[]⟩
        rw [show (w.alloc (.cells #[.int .i64 a.ty, .int .i64 a.n, .string a.s] 23)).heap.size = w.heap.size + 1 by simp] at this
        exact this
      have B0 : Below w.heap.size w ((w.alloc (.cells #[.int .i64 a.ty, .int .i64 a.n, .string a.s] 23)).alloc (.cells #[.int .i64 0, .int .i64 0, .string ⟨#[]⟩] 23)) := ((Below.refl _ w).alloc (Nat.le_refl _) _).alloc (by simp) _
      have Z0 : ((w.alloc (.cells #[.int .i64 a.ty, .int .i64 a.n, .string a.s] 23)).alloc (.cells #[.int .i64 0, .int .i64 0, .string ⟨#[]⟩] 23)).heap.size = w.heap.size + 1 + 1 := by simp
      generalize (w.alloc (.cells #[.int .i64 a.ty, .int .i64 a.n, .string a.s] 23)).alloc (.cells #[.int .i64 0, .int .i64 0, .string ⟨#[]⟩] 23) = w0 at *
      have V0 := valsAt_one w0 a.ty a.n a.s
      rw [Z0] at V0
      have BA := B0.alloc B0.size (.cells #[.int .i64 a.ty, .int .i64 a.n, .string a.s] 23)
      refine (CN.out _ _ V0 (hT.below BA)).mono ?_
      rintro e w1 ⟨rfl, hb1⟩
      have hb1' : Below w0.heap.size w0 w1 := ((Below.refl _ w0).alloc (Nat.le_refl _) _).trans (hb1.mono (by simp))
      have F1 := F0.below hb1'
      have R1 := R0.below hb1'
      have B1 := B0.trans (hb1'.mono B0.size)
      clear hb1 hb1' V0 BA F0 R0 B0 Z0
      obtain ⟨_, a0, a1, a2⟩ := id F1
      obtain ⟨_, r0, r1, r2, f0, f1, f2⟩ := id R1
      go_wp2_with fail
      refine bodyPost_ret (v := .tuple #[.agg #[.int .i64 0, .int .i64 0, .string ⟨#[]⟩], .int .i64 0]) (by simp [results, Tryz.results6, go_sem, r0, r1, r2]) rfl ⟨rfl, ?_⟩
      exact ((B1.setCell (by simp) _).setCell (by simp) _).setCell (by simp) _
    · have e : C = num a.ty (ovV (0 - a.n)) (ovE (0 - a.n)) := by rw [hC]; unfold ng; rw [if_neg (by simp [hn]), if_neg h0]
      have t0 : (a.ty == 0) = false := by rw [beq_eq_false_iff_ne]; exact h0
      have DF : Hid (∀ w, Calls Tryz.prog 20 #[.int .i64 0, .int .i64 a.n] w fun e w' => e = .returned (.tuple #[.int .i64 (ovV (0 - a.n)), .int .i64 (ovE (0 - a.n))]) ∧ Below w.heap.size w w') := fun w => (difference_any 0 a.n w ⟨by omega, by omega⟩ fa).mono (by rintro e w' ⟨rfl, rfl⟩; exact ⟨rfl, Below.refl _ _⟩)
      generalize ovV (0 - a.n) = x at *
      generalize ovE (0 - a.n) = y at *
      have NU : Hid (∀ w, Calls Tryz.prog 12 #[.int .i64 a.ty, .int .i64 x, .int .i64 y] w fun r w' => r = .returned (ans C) ∧ Below w.heap.size w w') := fun w => e ▸ number_any a.ty x y w
      obtain ⟨⟨ct, cn, cs⟩, ce⟩ := C
      unfold ans at NU
      clear hC hn fa h0 e
      go_enter Tryz.func6, Tryz.ntmps6
      go_wp2_with fail
      have F0 : Bx ((w.alloc (.cells #[.int .i64 a.ty, .int .i64 a.n, .string a.s] 23)).alloc (.cells #[.int .i64 0, .int .i64 0, .string ⟨#[]⟩] 23)) w.heap.size a := (Bx.new w a).alloc _
      have R0 : Res ((w.alloc (.cells #[.int .i64 a.ty, .int .i64 a.n, .string a.s] 23)).alloc (.cells #[.int .i64 0, .int .i64 0, .string ⟨#[]⟩] 23)) (w.heap.size + 1) 0 0 ⟨#[]⟩ := by
        have := Res.new (w.alloc (.cells #[.int .i64 a.ty, .int .i64 a.n, .string a.s] 23)) 0 0 ⟨#[]⟩
        rw [show (w.alloc (.cells #[.int .i64 a.ty, .int .i64 a.n, .string a.s] 23)).heap.size = w.heap.size + 1 by simp] at this
        exact this
      have B0 : Below w.heap.size w ((w.alloc (.cells #[.int .i64 a.ty, .int .i64 a.n, .string a.s] 23)).alloc (.cells #[.int .i64 0, .int .i64 0, .string ⟨#[]⟩] 23)) := ((Below.refl _ w).alloc (Nat.le_refl _) _).alloc (by simp) _
      have Z0 : ((w.alloc (.cells #[.int .i64 a.ty, .int .i64 a.n, .string a.s] 23)).alloc (.cells #[.int .i64 0, .int .i64 0, .string ⟨#[]⟩] 23)).heap.size = w.heap.size + 1 + 1 := by simp
      generalize (w.alloc (.cells #[.int .i64 a.ty, .int .i64 a.n, .string a.s] 23)).alloc (.cells #[.int .i64 0, .int .i64 0, .string ⟨#[]⟩] 23) = w0 at *
      have V0 := valsAt_one w0 a.ty a.n a.s
      rw [Z0] at V0
      have BA := B0.alloc B0.size (.cells #[.int .i64 a.ty, .int .i64 a.n, .string a.s] 23)
      refine (CN.out _ _ V0 (hT.below BA)).mono ?_
      rintro e w1 ⟨rfl, hb1⟩
      have hb1' : Below w0.heap.size w0 w1 := ((Below.refl _ w0).alloc (Nat.le_refl _) _).trans (hb1.mono (by simp))
      have F1 := F0.below hb1'
      have R1 := R0.below hb1'
      have B1 := B0.trans (hb1'.mono B0.size)
      clear hb1 hb1' V0 BA F0 R0 B0 Z0
      obtain ⟨_, a0, a1, a2⟩ := id F1
      obtain ⟨_, r0, r1, r2, f0, f1, f2⟩ := id R1
      go_wp2_with fail
      refine (DF.out _).mono ?_
      rintro e w2 ⟨rfl, hb2⟩
      have F2 := F1.below hb2
      have R2 := R1.below hb2
      have B2 := B1.trans (hb2.mono B1.size)
      clear a0 a1 a2 r0 r1 r2 f0 f1 f2 F1 R1 B1 hb2
      obtain ⟨_, a0, a1, a2⟩ := id F2
      obtain ⟨_, r0, r1, r2, f0, f1, f2⟩ := id R2
      go_wp2_with fail
      refine (NU.out _).mono ?_
      rintro e w3 ⟨rfl, hb3⟩
      have F3 := F2.below hb3
      have R3 := R2.below hb3
      have B3 := B2.trans (hb3.mono B2.size)
      clear a0 a1 a2 r0 r1 r2 f0 f1 f2 F2 R2 B2 hb3
      obtain ⟨_, a0, a1, a2⟩ := id F3
      obtain ⟨_, r0, r1, r2, f0, f1, f2⟩ := id R3
      go_wp2_with fail
      refine bodyPost_ret (v := .tuple #[.agg #[.int .i64 ct, .int .i64 cn, .string cs], .int .i64 ce]) (by simp [results, Tryz.results6, go_sem, r0, r1, r2]) rfl ⟨rfl, ?_⟩
      exact ((B3.setCell (by simp) _).setCell (by simp) _).setCell (by simp) _
  · have e : C = (⟨0, 0, ⟨#[]⟩⟩, nums [a]) := by rw [hC]; unfold ng; rw [if_pos hn]
    have t1 : (nums [a] != 0) = true := by rw [bne_iff_ne]; exact hn
    subst e
    generalize nums [a] = E at *
    clear hn fa hC
    go_enter Tryz.func6, Tryz.ntmps6
    go_wp2_with fail
    have F0 : Bx ((w.alloc (.cells #[.int .i64 a.ty, .int .i64 a.n, .string a.s] 23)).alloc (.cells #[.int .i64 0, .int .i64 0, .string ⟨#[]⟩] 23)) w.heap.size a := (Bx.new w a).alloc _
    have R0 : Res ((w.alloc (.cells #[.int .i64 a.ty, .int .i64 a.n, .string a.s] 23)).alloc (.cells #[.int .i64 0, .int .i64 0, .string ⟨#[]⟩] 23)) (w.heap.size + 1) 0 0 ⟨#[]⟩ := by
      have := Res.new (w.alloc (.cells #[.int .i64 a.ty, .int .i64 a.n, .string a.s] 23)) 0 0 ⟨#[]⟩
      rw [show (w.alloc (.cells #[.int .i64 a.ty, .int .i64 a.n, .string a.s] 23)).heap.size = w.heap.size + 1 by simp] at this
      exact this
    have B0 : Below w.heap.size w ((w.alloc (.cells #[.int .i64 a.ty, .int .i64 a.n, .string a.s] 23)).alloc (.cells #[.int .i64 0, .int .i64 0, .string ⟨#[]⟩] 23)) := ((Below.refl _ w).alloc (Nat.le_refl _) _).alloc (by simp) _
    have Z0 : ((w.alloc (.cells #[.int .i64 a.ty, .int .i64 a.n, .string a.s] 23)).alloc (.cells #[.int .i64 0, .int .i64 0, .string ⟨#[]⟩] 23)).heap.size = w.heap.size + 1 + 1 := by simp
    generalize (w.alloc (.cells #[.int .i64 a.ty, .int .i64 a.n, .string a.s] 23)).alloc (.cells #[.int .i64 0, .int .i64 0, .string ⟨#[]⟩] 23) = w0 at *
    have V0 := valsAt_one w0 a.ty a.n a.s
    rw [Z0] at V0
    have BA := B0.alloc B0.size (.cells #[.int .i64 a.ty, .int .i64 a.n, .string a.s] 23)
    refine (CN.out _ _ V0 (hT.below BA)).mono ?_
    rintro e w1 ⟨rfl, hb1⟩
    have hb1' : Below w0.heap.size w0 w1 := ((Below.refl _ w0).alloc (Nat.le_refl _) _).trans (hb1.mono (by simp))
    have F1 := F0.below hb1'
    have R1 := R0.below hb1'
    have B1 := B0.trans (hb1'.mono B0.size)
    clear hb1 hb1' V0 BA F0 R0 B0 Z0
    obtain ⟨_, a0, a1, a2⟩ := id F1
    obtain ⟨_, r0, r1, r2, f0, f1, f2⟩ := id R1
    go_wp2_with fail
    refine bodyPost_ret (v := .tuple #[.agg #[.int .i64 0, .int .i64 0, .string ⟨#[]⟩], .int .i64 E]) (by simp [results, Tryz.results6, go_sem, r0, r1, r2]) rfl ⟨rfl, ?_⟩
    exact ((B1.setCell (by simp) _).setCell (by simp) _).setCell (by simp) _

end Go.Proofs.YtppcoimfgafbfaaGreatDoor
