/-
  The walk of locksteplaw01.lives: seven by two, as decimals, is three and a half, and is printed so.
-/
import Derived.Test.YtoboebibmelgkaaGreatDoorChkNum
import Derived.Test.YtoboebibmelgkaaGreatDoorArMul
import Derived.Test.YtoboebibmelgkaaGreatDoorFmt
import Derived.BigQuiet
import Derived.Shelf.Strings.Trim
namespace Go.Proofs.YtoboebibmelgkaaGreatDoor
open Go.RowKit Go.Shelf

theorem ret_upair {a b c d : Int} (h : a = b) (k : c = d) : Ending.returned (.tuple #[.int .u64 a, .int .u64 c]) = .returned (.tuple #[.int .u64 b, .int .u64 d]) := by rw [h, k]

set_option maxHeartbeats 1000000 in
theorem Div64_zero (lo y : Nat) (w : World) (hy : 1 ≤ y) (hlo : lo < 18446744073709551616) (hy2 : y < 18446744073709551616) :
    Calls Tryz.prog 96 #[.int .u64 0, .int .u64 lo, .int .u64 y] w fun e w' => e = .returned (.tuple #[.int .u64 ((lo / y : Nat) : Int), .int .u64 ((lo % y : Nat) : Int)]) ∧ Below w.heap.size w w' := by
  have h1 : (1 : Int) ≤ (y : Int) := by omega
  have hq : ((lo : Int) / (y : Int)) ≤ 18446744073709551615 := by rw [← Int.natCast_ediv]; have := Nat.div_le_self lo y; omega
  have hq0 : 0 ≤ ((lo : Int) / (y : Int)) := by rw [← Int.natCast_ediv]; exact Int.natCast_nonneg _
  have hr : ((lo : Int) % (y : Int)) ≤ 18446744073709551615 := by rw [← Int.natCast_emod]; have := Nat.mod_le lo y; omega
  have hr0 : 0 ≤ ((lo : Int) % (y : Int)) := by rw [← Int.natCast_emod]; exact Int.natCast_nonneg _
  have hy0 : ((y : Int) == 0) = false := by rw [beq_eq_false_iff_ne]; omega
  rw [Int.natCast_ediv, Int.natCast_emod]
  go_enter Tryz.func96, Tryz.ntmps96
  go_wp2_with fail
  go_quiet (fail)
  go_wp2_with fail
  go_ret2
  exact ⟨rfl, below_drewN (Below.refl _ _) _⟩
theorem Div64_lives (w : World) :
    Calls Tryz.prog 96 #[.int .u64 0, .int .u64 700000000, .int .u64 20000] w fun e w' => e = .returned (.tuple #[.int .u64 35000, .int .u64 0]) ∧ Below w.heap.size w w' :=
  Div64_zero 700000000 20000 w (by omega) (by omega) (by omega)

set_option maxHeartbeats 1000000 in
theorem partsQuotient_lives (w : World) :
    Calls Tryz.prog 70 #[.int .i64 70000, .int .i64 20000] w fun e w' => e = .returned (.tuple #[.int .i64 35000, .int .i64 0]) ∧ Below w.heap.size w w' := by
  have S1 : Hid (∀ w, Calls Tryz.prog 46 #[.int .i64 20000] w fun e w' => e = .returned (.int .u64 20000) ∧ w' = w) := fun w => size_any 20000 w ⟨by omega, by omega⟩
  have S2 : Hid (∀ w, Calls Tryz.prog 46 #[.int .i64 70000] w fun e w' => e = .returned (.int .u64 70000) ∧ w' = w) := fun w => size_any 70000 w ⟨by omega, by omega⟩
  have MM : Hid (∀ w, Calls Tryz.prog 94 #[.int .u64 70000, .int .u64 10000] w fun e w' => e = .returned (.tuple #[.int .u64 0, .int .u64 700000000]) ∧ w' = w) := fun w => Mul64_any 70000 10000 (by omega) (by omega) w
  have SG : Hid (∀ w, Calls Tryz.prog 89 #[.int .u64 35000, .bool false] w fun e w' => e = .returned (.tuple #[.int .i64 35000, .int .i64 0]) ∧ w' = w) := fun w => signed_pos 35000 w (by omega)
  go_enter Tryz.func70, Tryz.ntmps70
  go_wp2_with fail
  refine (S1.out _).mono ?_
  rintro e w1 ⟨rfl, rfl⟩
  go_wp2_with fail
  refine (S2.out _).mono ?_
  rintro e w1 ⟨rfl, rfl⟩
  go_wp2_with fail
  refine (MM.out _).mono ?_
  rintro e w1 ⟨rfl, rfl⟩
  go_wp2_with fail
  refine (Div64_lives _).mono ?_
  rintro e w2 ⟨rfl, hb⟩
  go_wp2_with fail
  refine (SG.out _).mono ?_
  rintro e w3 ⟨rfl, rfl⟩
  go_wp2_with fail
  go_ret2
  exact ⟨rfl, hb⟩

set_option maxHeartbeats 1000000 in
theorem reckonParts_lives (w : World) :
    Calls Tryz.prog 44 #[.string ⟨#[47]⟩, .int .i64 70000, .int .i64 20000] w fun e w' => e = .returned (.tuple #[.int .i64 35000, .int .i64 0]) ∧ Below w.heap.size w w' := by
  have QQ : Hid (∀ w, Calls Tryz.prog 70 #[.int .i64 70000, .int .i64 20000] w fun e w' => e = .returned (.tuple #[.int .i64 35000, .int .i64 0]) ∧ Below w.heap.size w w') := partsQuotient_lives
  go_enter Tryz.func44, Tryz.ntmps44
  go_wp2_with fail
  refine (QQ.out _).mono ?_
  rintro e w1 ⟨rfl, hb⟩
  go_wp2_with fail
  go_ret2
  exact ⟨rfl, hb⟩

set_option maxHeartbeats 1000000 in
theorem partsOf_dec (n : Int) (s : ByteArray) (w : World) :
    Calls Tryz.prog 37 #[.agg #[.int .i64 2, .int .i64 n, .string s]] w fun e w' => e = .returned (.tuple #[.int .i64 n, .int .i64 0]) ∧ Below w.heap.size w w' := by
  go_enter Tryz.func37, Tryz.ntmps37
  go_wp2_with fail
  go_ret2
  exact ⟨rfl, (Below.refl _ w).alloc (Nat.le_refl _) _⟩
set_option maxHeartbeats 1000000 in
theorem partsOf_whole (ty n : Int) (s : ByteArray) (w : World) (ht : ty ≠ 2) (hn : fit n) :
    Calls Tryz.prog 37 #[.agg #[.int .i64 ty, .int .i64 n, .string s]] w fun e w' => e = .returned (.tuple #[.int .i64 (ovV (n * 10000)), .int .i64 (ovE (n * 10000))]) ∧ Below w.heap.size w w' := by
  have WP : Hid (∀ w, Calls Tryz.prog 64 #[.int .i64 n, .int .i64 10000] w fun e w' => e = .returned (.tuple #[.int .i64 (ovV (n * 10000)), .int .i64 (ovE (n * 10000))]) ∧ w' = w) := fun w => wholeProduct_any n 10000 w hn ⟨by omega, by omega⟩
  have h2 : (ty == 2) = false := by rw [beq_eq_false_iff_ne]; exact ht
  generalize ovV (n * 10000) = x at *
  generalize ovE (n * 10000) = y at *
  go_enter Tryz.func37, Tryz.ntmps37
  go_wp2_with fail
  refine (WP.out _).mono ?_
  rintro e w1 ⟨rfl, rfl⟩
  go_wp2_with fail
  go_ret2
  exact ⟨rfl, (Below.refl _ w).alloc (Nat.le_refl _) _⟩

set_option maxHeartbeats 1000000 in
theorem number_ok (ty n : Int) (w : World) :
    Calls Tryz.prog 38 #[.int .i64 ty, .int .i64 n, .int .i64 0] w fun e w' => e = .returned (.tuple #[.agg #[.int .i64 ty, .int .i64 n, .string ⟨#[]⟩], .int .i64 0]) ∧ Below w.heap.size w w' := by
  go_enter Tryz.func38, Tryz.ntmps38
  go_wp2_with fail
  exact bodyPost_ret (v := .tuple #[.agg #[.int .i64 ty, .int .i64 n, .string ⟨#[]⟩], .int .i64 0]) (by simp [results, Tryz.results38, go_sem]) rfl ⟨rfl, (Below.refl _ w).alloc (Nat.le_refl _) _⟩
set_option maxHeartbeats 1000000 in
theorem number_err (ty n e : Int) (w : World) (he : e ≠ 0) :
    Calls Tryz.prog 38 #[.int .i64 ty, .int .i64 n, .int .i64 e] w fun r w' => r = .returned (.tuple #[.agg #[.int .i64 0, .int .i64 0, .string ⟨#[]⟩], .int .i64 e]) ∧ Below w.heap.size w w' := by
  have h : (e != 0) = true := by rw [bne_iff_ne]; exact he
  go_enter Tryz.func38, Tryz.ntmps38
  go_wp2_with fail
  exact bodyPost_ret (v := .tuple #[.agg #[.int .i64 0, .int .i64 0, .string ⟨#[]⟩], .int .i64 e]) (by simp [results, Tryz.results38, go_sem]) rfl ⟨rfl, (Below.refl _ w).alloc (Nat.le_refl _) _⟩

theorem valsAt_two (w : World) (t1 n1 : Int) (s1 : ByteArray) (t2 n2 : Int) (s2 : ByteArray) : valsAt (w.alloc (.cells #[.int .i64 t1, .int .i64 n1, .string s1, .int .i64 t2, .int .i64 n2, .string s2] 23)) w.heap.size [⟨t1, n1, s1⟩, ⟨t2, n2, s2⟩] := by
  refine ⟨by simp, ?_⟩
  intro i v hv
  have hi := (List.getElem?_eq_some_iff.1 hv).1
  simp only [List.length_cons, List.length_nil] at hi
  have : i = 0 ∨ i = 1 := by omega
  rcases this with rfl | rfl
  · simp at hv; subst hv; simp only [World.cell?, heap_alloc_new]; simp
  · simp at hv; subst hv; simp only [World.cell?, heap_alloc_new]; simp
theorem valsAt_two3 (w : World) (o1 o2 o3 : Obj) (t1 n1 : Int) (s1 : ByteArray) (t2 n2 : Int) (s2 : ByteArray) : valsAt ((((w.alloc o1).alloc o2).alloc o3).alloc (.cells #[.int .i64 t1, .int .i64 n1, .string s1, .int .i64 t2, .int .i64 n2, .string s2] 23)) (w.heap.size + 1 + 1 + 1) [⟨t1, n1, s1⟩, ⟨t2, n2, s2⟩] := by
  have h := valsAt_two (((w.alloc o1).alloc o2).alloc o3) t1 n1 s1 t2 n2 s2
  have e : (((w.alloc o1).alloc o2).alloc o3).heap.size = w.heap.size + 1 + 1 + 1 := by simp
  rw [e] at h
  exact h
theorem valsAt_one (w : World) (t1 n1 : Int) (s1 : ByteArray) : valsAt (w.alloc (.cells #[.int .i64 t1, .int .i64 n1, .string s1] 23)) w.heap.size [⟨t1, n1, s1⟩] := by
  refine ⟨by simp, ?_⟩
  intro i v hv
  have hi := (List.getElem?_eq_some_iff.1 hv).1
  simp only [List.length_cons, List.length_nil] at hi
  obtain rfl : i = 0 := by omega
  simp at hv; subst hv; simp only [World.cell?, heap_alloc_new]; simp

theorem nums_lives : nums [⟨1, 7, ⟨#[]⟩⟩, ⟨2, 20000, ⟨#[]⟩⟩] = 0 := by decide

/-- the boxes of two values, and of a result, in three blocks one behind the other -/
structure Fr (w : World) (B : Nat) (a b r : Va) : Prop where
  lt : B + 1 + 1 < w.heap.size
  a0 : w.cell? ⟨B, 0, none⟩ = some (.int .i64 a.ty)
  a1 : w.cell? ⟨B, 1, none⟩ = some (.int .i64 a.n)
  a2 : w.cell? ⟨B, 2, none⟩ = some (.string a.s)
  b0 : w.cell? ⟨B + 1, 0, none⟩ = some (.int .i64 b.ty)
  b1 : w.cell? ⟨B + 1, 1, none⟩ = some (.int .i64 b.n)
  b2 : w.cell? ⟨B + 1, 2, none⟩ = some (.string b.s)
  r0 : w.cell? ⟨B + 1 + 1, 0, none⟩ = some (.int .i64 r.ty)
  r1 : w.cell? ⟨B + 1 + 1, 1, none⟩ = some (.int .i64 r.n)
  r2 : w.cell? ⟨B + 1 + 1, 2, none⟩ = some (.string r.s)
  f : ∀ j, w.frozen? ⟨B + 1 + 1, j, none⟩ = false
theorem Fr.below {w w' : World} {B : Nat} {a b r : Va} (h : Fr w B a b r) (hb : Below w.heap.size w w') : Fr w' B a b r := by
  have l := h.lt
  exact ⟨Nat.lt_of_lt_of_le l hb.size, (hb.cell (p := ⟨B, 0, none⟩) (show B < _ by omega)).trans h.a0, (hb.cell (p := ⟨B, 1, none⟩) (show B < _ by omega)).trans h.a1, (hb.cell (p := ⟨B, 2, none⟩) (show B < _ by omega)).trans h.a2,
    (hb.cell (p := ⟨B + 1, 0, none⟩) (show B + 1 < _ by omega)).trans h.b0, (hb.cell (p := ⟨B + 1, 1, none⟩) (show B + 1 < _ by omega)).trans h.b1, (hb.cell (p := ⟨B + 1, 2, none⟩) (show B + 1 < _ by omega)).trans h.b2,
    (hb.cell (p := ⟨B + 1 + 1, 0, none⟩) l).trans h.r0, (hb.cell (p := ⟨B + 1 + 1, 1, none⟩) l).trans h.r1, (hb.cell (p := ⟨B + 1 + 1, 2, none⟩) l).trans h.r2, fun j => (hb.frozen (p := ⟨B + 1 + 1, j, none⟩) l).trans (h.f j)⟩
theorem Fr.new (w : World) (a b r : Va) : Fr (((w.alloc (.cells #[.int .i64 a.ty, .int .i64 a.n, .string a.s] 23)).alloc (.cells #[.int .i64 b.ty, .int .i64 b.n, .string b.s] 23)).alloc (.cells #[.int .i64 r.ty, .int .i64 r.n, .string r.s] 23)) w.heap.size a b r := by
  constructor
  all_goals go_simp

set_option maxHeartbeats 2000000 in
set_option maxRecDepth 1000000 in
theorem Reckon_lives (w : World) (hT : Tabs w) :
    Calls Tryz.prog 20 #[.string ⟨#[47]⟩, .agg #[.int .i64 1, .int .i64 7, .string ⟨#[]⟩], .agg #[.int .i64 2, .int .i64 20000, .string ⟨#[]⟩]] w fun e w' => e = .returned (.tuple #[.agg #[.int .i64 2, .int .i64 35000, .string ⟨#[]⟩], .int .i64 0]) ∧ Below w.heap.size w w' := by
  have CN : Hid (∀ g w, valsAt w g [⟨1, 7, ⟨#[]⟩⟩, ⟨2, 20000, ⟨#[]⟩⟩] → Tabs w → Calls Tryz.prog 41 #[.slice (some ⟨g, 0, none⟩) 2 2] w fun e w' => e = .returned (.int .i64 0) ∧ Below w.heap.size w w') := fun g w hv ht => checkNumbers_any g 2 [⟨1, 7, ⟨#[]⟩⟩, ⟨2, 20000, ⟨#[]⟩⟩] w (by decide) hv (by decide) ht
  have ON : Hid (∀ w, Calls Tryz.prog 42 #[.agg #[.int .i64 1, .int .i64 7, .string ⟨#[]⟩], .agg #[.int .i64 2, .int .i64 20000, .string ⟨#[]⟩]] w fun e w' => e = .returned (.bool false) ∧ Below w.heap.size w w') := fun w => oneNull_any 1 7 _ 2 20000 _ w
  have P1 : Hid (∀ w, Calls Tryz.prog 37 #[.agg #[.int .i64 1, .int .i64 7, .string ⟨#[]⟩]] w fun e w' => e = .returned (.tuple #[.int .i64 70000, .int .i64 0]) ∧ Below w.heap.size w w') := fun w => partsOf_whole 1 7 _ w (by decide) ⟨by omega, by omega⟩
  have P2 : Hid (∀ w, Calls Tryz.prog 37 #[.agg #[.int .i64 2, .int .i64 20000, .string ⟨#[]⟩]] w fun e w' => e = .returned (.tuple #[.int .i64 20000, .int .i64 0]) ∧ Below w.heap.size w w') := fun w => partsOf_dec 20000 _ w
  have NO : Hid (∀ w, Calls Tryz.prog 38 #[.int .i64 2, .int .i64 35000, .int .i64 0] w fun e w' => e = .returned (.tuple #[.agg #[.int .i64 2, .int .i64 35000, .string ⟨#[]⟩], .int .i64 0]) ∧ Below w.heap.size w w') := fun w => number_ok 2 35000 w
  have RP : Hid (∀ w, Calls Tryz.prog 44 #[.string ⟨#[47]⟩, .int .i64 70000, .int .i64 20000] w fun e w' => e = .returned (.tuple #[.int .i64 35000, .int .i64 0]) ∧ Below w.heap.size w w') := reckonParts_lives
  have F0 : Hid _ := Fr.new w ⟨1, 7, ⟨#[]⟩⟩ ⟨2, 20000, ⟨#[]⟩⟩ ⟨0, 0, ⟨#[]⟩⟩
  have B0 : Hid _ := (((Below.refl _ w).alloc (Nat.le_refl _) (.cells #[.int .i64 1, .int .i64 7, .string ⟨#[]⟩] 23)).alloc (by simp) (.cells #[.int .i64 2, .int .i64 20000, .string ⟨#[]⟩] 23)).alloc (by simp; omega) (.cells #[.int .i64 0, .int .i64 0, .string ⟨#[]⟩] 23)
  have V0 : Hid _ := valsAt_two3 w (.cells #[.int .i64 1, .int .i64 7, .string ⟨#[]⟩] 23) (.cells #[.int .i64 2, .int .i64 20000, .string ⟨#[]⟩] 23) (.cells #[.int .i64 0, .int .i64 0, .string ⟨#[]⟩] 23) 1 7 ⟨#[]⟩ 2 20000 ⟨#[]⟩
  go_enter Tryz.func20, Tryz.ntmps20
  go_wp2_with fail
  refine (CN.out _ _ ?_ ?_).mono ?_
  · exact V0.out
  · exact hT.below (B0.out.alloc (by simp; omega) _)
  rintro e w1 ⟨rfl, hb1⟩
  have F1 := F0.out.below (((Below.refl _ _).alloc (Nat.le_refl _) _).trans (hb1.mono (by simp)))
  have B1 := (B0.out.alloc (by simp; omega) _).trans (hb1.mono (by simp; omega))
  clear hb1 F0 B0 V0
  obtain ⟨l1, a0, a1, a2, b0, b1, b2, r0, r1, r2, hf⟩ := id F1
  go_wp2_with fail
  refine (ON.out _).mono ?_
  rintro e w2 ⟨rfl, hb2⟩
  have F2 := F1.below hb2
  have B2 := B1.trans (hb2.mono B1.size)
  clear l1 a0 a1 a2 b0 b1 b2 r0 r1 r2 hf F1 B1 hb2
  obtain ⟨l1, a0, a1, a2, b0, b1, b2, r0, r1, r2, hf⟩ := id F2
  go_wp2_with fail
  refine (P1.out _).mono ?_
  rintro e w3 ⟨rfl, hb3⟩
  have F3 := F2.below hb3
  have B3 := B2.trans (hb3.mono B2.size)
  clear l1 a0 a1 a2 b0 b1 b2 r0 r1 r2 hf F2 B2 hb3
  obtain ⟨l1, a0, a1, a2, b0, b1, b2, r0, r1, r2, hf⟩ := id F3
  go_wp2_with fail
  refine (P2.out _).mono ?_
  rintro e w4 ⟨rfl, hb4⟩
  have F4 := F3.below hb4
  have B4 := B3.trans (hb4.mono B3.size)
  clear l1 a0 a1 a2 b0 b1 b2 r0 r1 r2 hf F3 B3 hb4
  obtain ⟨l1, a0, a1, a2, b0, b1, b2, r0, r1, r2, hf⟩ := id F4
  go_wp2_with fail
  refine (RP.out _).mono ?_
  rintro e w5 ⟨rfl, hb5⟩
  have F5 := F4.below hb5
  have B5 := B4.trans (hb5.mono B4.size)
  clear l1 a0 a1 a2 b0 b1 b2 r0 r1 r2 hf F4 B4 hb5
  obtain ⟨l1, a0, a1, a2, b0, b1, b2, r0, r1, r2, hf⟩ := id F5
  go_wp2_with fail
  refine (NO.out _).mono ?_
  rintro e w6 ⟨rfl, hb6⟩
  have F6 := F5.below hb6
  have B6 := B5.trans (hb6.mono B5.size)
  clear l1 a0 a1 a2 b0 b1 b2 r0 r1 r2 hf F5 B5 hb6
  obtain ⟨l1, a0, a1, a2, b0, b1, b2, r0, r1, r2, hf⟩ := id F6
  go_wp2_with fail
  refine bodyPost_ret (v := .tuple #[.agg #[.int .i64 2, .int .i64 35000, .string ⟨#[]⟩], .int .i64 0]) (by simp [results, Tryz.results20, go_sem, r0, r1, r2]) rfl ⟨rfl, ?_⟩
  exact ((B6.setCell (by simp; omega) _).setCell (by simp; omega) _).setCell (by simp; omega) _
end Go.Proofs.YtoboebibmelgkaaGreatDoor
