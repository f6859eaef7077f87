/-
  Cast of numbers, and the small parts of Cast.
-/
import Derived.Test.YtoboebibmelgkaaGreatDoorPaJ
namespace Go.Proofs.YtoboebibmelgkaaGreatDoor
open Go.RowKit Go.Shelf

/-- a number as one of the other type -/
def cN (ty n tu : Int) : Va × Int :=
  if ty = 2 ∧ tu = 1 then (⟨1, n.tdiv 10000, ⟨#[]⟩⟩, 0)
  else if ty = 1 ∧ tu = 2 then (if ovE (n * 10000) = 0 then (⟨2, ovV (n * 10000), ⟨#[]⟩⟩, 0) else (⟨0, 0, ⟨#[]⟩⟩, ovE (n * 10000)))
  else bad 7
theorem Res.new2 (w : World) (o : Obj) : Res ((w.alloc o).alloc (.cells #[.int .i64 0, .int .i64 0, .string ⟨#[]⟩] 23)) (w.heap.size + 1) 0 0 ⟨#[]⟩ := by
  constructor
  all_goals go_simp

set_option maxHeartbeats 4000000 in
set_option maxRecDepth 1000000 in
theorem castNumber_any (ty n tu : Int) (s : ByteArray) (w : World) (hn : fit n) (h1 : ty = 1 ∨ ty = 2 ∨ ty = 4) (h2 : tu = 1 ∨ tu = 2 ∨ tu = 4) (hne : ty ≠ tu) :
    Calls Tryz.prog 17 #[.agg #[.int .i64 ty, .int .i64 n, .string s], .int .i64 tu] w fun e w' => e = .returned (av (cN ty n tu)) ∧ Below w.heap.size w w' := by
  have G1 : Hid (∀ w, Calls Tryz.prog 36 #[.int .i64 1] w fun e w' => e = .returned (.int .i64 1) ∧ w' = w) := groupOf_any 1
  have G2 : Hid (∀ w, Calls Tryz.prog 36 #[.int .i64 2] w fun e w' => e = .returned (.int .i64 1) ∧ w' = w) := groupOf_any 2
  have G4 : Hid (∀ w, Calls Tryz.prog 36 #[.int .i64 4] w fun e w' => e = .returned (.int .i64 3) ∧ w' = w) := groupOf_any 4
  have PO : Hid (∀ w, Calls Tryz.prog 37 #[.agg #[.int .i64 1, .int .i64 n, .string s]] w fun e w' => e = .returned (.tuple #[.int .i64 (ovV (n * 10000)), .int .i64 (ovE (n * 10000))]) ∧ Below w.heap.size w w') := fun w => partsOf_whole 1 n s w (by decide) hn
  have NU : Hid (∀ x e w, Calls Tryz.prog 38 #[.int .i64 2, .int .i64 x, .int .i64 e] w fun r w' => r = .returned (av (if e = 0 then (⟨2, x, ⟨#[]⟩⟩, 0) else (⟨0, 0, ⟨#[]⟩⟩, e))) ∧ Below w.heap.size w w') := fun x e w => number_all 2 x e w
  have hq1 : -9223372036854775808 ≤ n.tdiv 10000 := by have := hn.1; have := hn.2; rw [Int.tdiv_eq_ediv, show Int.sign 10000 = 1 from rfl]; split <;> omega
  have hq2 : n.tdiv 10000 ≤ 9223372036854775807 := by have := hn.1; have := hn.2; rw [Int.tdiv_eq_ediv, show Int.sign 10000 = 1 from rfl]; split <;> omega
  rcases h1 with rfl | rfl | rfl
  · rcases h2 with rfl | rfl | rfl
    · exact absurd rfl hne
    · obtain ⟨X, hX⟩ : ∃ X, X = ovV (n * 10000) := ⟨_, rfl⟩
      obtain ⟨E, hE⟩ : ∃ E, E = ovE (n * 10000) := ⟨_, rfl⟩
      have e : cN 1 n 2 = if E = 0 then (⟨2, X, ⟨#[]⟩⟩, 0) else (⟨0, 0, ⟨#[]⟩⟩, E) := by rw [hE, hX]; unfold cN; rw [if_neg (by decide), if_pos (by decide)]
      rw [e]
      rw [← hX, ← hE] at PO
      clear e hX hE hq1 hq2
      have NU2 : Hid (∀ w, _) := NU.out X E
      clear NU
      generalize (if E = 0 then ((⟨2, X, ⟨#[]⟩⟩, 0) : Va × Int) else (⟨0, 0, ⟨#[]⟩⟩, E)) = A at *
      obtain ⟨⟨aty, an, asx⟩, ae⟩ := A
      have R0 : Hid (Res ((w.alloc (.cells #[.int .i64 1, .int .i64 n, .string s] 23)).alloc (.cells #[.int .i64 0, .int .i64 0, .string ⟨#[]⟩] 23)) (w.heap.size + 1) 0 0 ⟨#[]⟩) := Res.new2 w _
      have B0 : Hid (Below w.heap.size w ((w.alloc (.cells #[.int .i64 1, .int .i64 n, .string s] 23)).alloc (.cells #[.int .i64 0, .int .i64 0, .string ⟨#[]⟩] 23))) := two_allocs w _ _
      go_enter Tryz.func17, Tryz.ntmps17
      go_wp2_with fail
      refine (G1.out _).mono ?_
      rintro e w1 ⟨rfl, hw⟩; have hw2 := hw.symm; subst hw2; clear hw
      go_wp2_with fail
      refine (G2.out _).mono ?_
      rintro e w1 ⟨rfl, hw⟩; have hw2 := hw.symm; subst hw2; clear hw
      go_wp2_with fail
      refine (PO.out _).mono ?_
      rintro e w2 ⟨rfl, hb2⟩
      have R2 := R0.out.below hb2
      have B2 := B0.out.trans (hb2.mono B0.out.size)
      clear PO hb2 R0 B0
      go_wp2_with fail
      refine (NU2.out _).mono ?_
      rintro e w3 ⟨rfl, hb3⟩
      have R3 := R2.below hb3
      have B3 := B2.trans (hb3.mono B2.size)
      clear NU2 hb3 R2 B2
      unfold av
      obtain ⟨_, c0, c1, c2, f0, f1, f2⟩ := id R3
      go_wp2_with fail
      obtain ⟨_, x0, x1, x2, _, _, _⟩ := R3.put aty an asx
      refine bodyPost_ret (v := av (⟨aty, an, asx⟩, ae)) (by simp [results, Tryz.results17, go_sem, av, x0, x1, x2]) rfl ⟨rfl, ?_⟩
      exact ((B3.setCell (p := ⟨(w.heap.size + 1), 0, none⟩) (Nat.le_succ _) _).setCell (p := ⟨(w.heap.size + 1), 1, none⟩) (Nat.le_succ _) _).setCell (p := ⟨(w.heap.size + 1), 2, none⟩) (Nat.le_succ _) _
    · show Calls _ _ _ _ fun e w' => e = .returned (av (⟨0, 0, ⟨#[]⟩⟩, 7)) ∧ _
      go_enter Tryz.func17, Tryz.ntmps17
      go_wp2_with fail
      refine (G1.out _).mono ?_
      rintro e w1 ⟨rfl, hw⟩; have hw2 := hw.symm; subst hw2; clear hw
      go_wp2_with fail
      refine (G4.out _).mono ?_
      rintro e w1 ⟨rfl, hw⟩; have hw2 := hw.symm; subst hw2; clear hw
      go_wp2_with fail
      refine bodyPost_ret (v := av (⟨0, 0, ⟨#[]⟩⟩, 7)) (by simp [results, Tryz.results17, go_sem, av]) rfl ⟨rfl, two_allocs w _ _⟩
  · rcases h2 with rfl | rfl | rfl
    · have e : cN 2 n 1 = (⟨1, n.tdiv 10000, ⟨#[]⟩⟩, 0) := if_pos (by decide)
      rw [e]
      clear e
      go_enter Tryz.func17, Tryz.ntmps17
      go_wp2_with fail
      refine (G2.out _).mono ?_
      rintro e w1 ⟨rfl, hw⟩; have hw2 := hw.symm; subst hw2; clear hw
      go_wp2_with fail
      refine (G1.out _).mono ?_
      rintro e w1 ⟨rfl, hw⟩; have hw2 := hw.symm; subst hw2; clear hw
      go_wp2_with fail
      refine bodyPost_ret (v := av (⟨1, n.tdiv 10000, ⟨#[]⟩⟩, 0)) (by simp [results, Tryz.results17, go_sem, av]) rfl ⟨rfl, ?_⟩
      exact two_allocs w _ _
    · exact absurd rfl hne
    · show Calls _ _ _ _ fun e w' => e = .returned (av (⟨0, 0, ⟨#[]⟩⟩, 7)) ∧ _
      go_enter Tryz.func17, Tryz.ntmps17
      go_wp2_with fail
      refine (G2.out _).mono ?_
      rintro e w1 ⟨rfl, hw⟩; have hw2 := hw.symm; subst hw2; clear hw
      go_wp2_with fail
      refine (G4.out _).mono ?_
      rintro e w1 ⟨rfl, hw⟩; have hw2 := hw.symm; subst hw2; clear hw
      go_wp2_with fail
      refine bodyPost_ret (v := av (⟨0, 0, ⟨#[]⟩⟩, 7)) (by simp [results, Tryz.results17, go_sem, av]) rfl ⟨rfl, two_allocs w _ _⟩
  · rcases h2 with rfl | rfl | rfl
    · show Calls _ _ _ _ fun e w' => e = .returned (av (⟨0, 0, ⟨#[]⟩⟩, 7)) ∧ _
      go_enter Tryz.func17, Tryz.ntmps17
      go_wp2_with fail
      refine (G4.out _).mono ?_
      rintro e w1 ⟨rfl, hw⟩; have hw2 := hw.symm; subst hw2; clear hw
      go_wp2_with fail
      refine bodyPost_ret (v := av (⟨0, 0, ⟨#[]⟩⟩, 7)) (by simp [results, Tryz.results17, go_sem, av]) rfl ⟨rfl, two_allocs w _ _⟩
    · show Calls _ _ _ _ fun e w' => e = .returned (av (⟨0, 0, ⟨#[]⟩⟩, 7)) ∧ _
      go_enter Tryz.func17, Tryz.ntmps17
      go_wp2_with fail
      refine (G4.out _).mono ?_
      rintro e w1 ⟨rfl, hw⟩; have hw2 := hw.symm; subst hw2; clear hw
      go_wp2_with fail
      refine bodyPost_ret (v := av (⟨0, 0, ⟨#[]⟩⟩, 7)) (by simp [results, Tryz.results17, go_sem, av]) rfl ⟨rfl, two_allocs w _ _⟩
    · exact absurd rfl hne
/-- what its type names -/
def plV (ty n : Int) (s : ByteArray) : Va := if ty = 3 then ⟨3, 0, s⟩ else if ty = 1 ∨ ty = 2 ∨ ty = 4 then ⟨ty, n, ⟨#[]⟩⟩ else ⟨0, 0, ⟨#[]⟩⟩
def ag (v : Va) : Value := .agg #[.int .i64 v.ty, .int .i64 v.n, .string v.s]
set_option maxHeartbeats 2000000 in
set_option maxRecDepth 1000000 in
theorem onlyNamed_any (ty n : Int) (s : ByteArray) (w : World) (h : ty = 1 ∨ ty = 2 ∨ ty = 3 ∨ ty = 4) :
    Calls Tryz.prog 15 #[.agg #[.int .i64 ty, .int .i64 n, .string s]] w fun e w' => e = .returned (ag (plV ty n s)) ∧ Below w.heap.size w w' := by
  rcases h with rfl | rfl | rfl | rfl
  · show Calls _ _ _ _ fun e w' => e = .returned (.agg #[.int .i64 1, .int .i64 n, .string ⟨#[]⟩]) ∧ _
    go_enter Tryz.func15, Tryz.ntmps15
    go_wp2_with fail
    refine bodyPost_ret (v := .agg #[.int .i64 1, .int .i64 n, .string ⟨#[]⟩]) (by simp [results, Tryz.results15, go_sem]) rfl ⟨rfl, ?_⟩
    exact two_allocs w _ _
  · show Calls _ _ _ _ fun e w' => e = .returned (.agg #[.int .i64 2, .int .i64 n, .string ⟨#[]⟩]) ∧ _
    go_enter Tryz.func15, Tryz.ntmps15
    go_wp2_with fail
    refine bodyPost_ret (v := .agg #[.int .i64 2, .int .i64 n, .string ⟨#[]⟩]) (by simp [results, Tryz.results15, go_sem]) rfl ⟨rfl, ?_⟩
    exact two_allocs w _ _
  · show Calls _ _ _ _ fun e w' => e = .returned (.agg #[.int .i64 3, .int .i64 0, .string s]) ∧ _
    go_enter Tryz.func15, Tryz.ntmps15
    go_wp2_with fail
    refine bodyPost_ret (v := .agg #[.int .i64 3, .int .i64 0, .string s]) (by simp [results, Tryz.results15, go_sem]) rfl ⟨rfl, ?_⟩
    exact two_allocs w _ _
  · show Calls _ _ _ _ fun e w' => e = .returned (.agg #[.int .i64 4, .int .i64 n, .string ⟨#[]⟩]) ∧ _
    go_enter Tryz.func15, Tryz.ntmps15
    go_wp2_with fail
    refine bodyPost_ret (v := .agg #[.int .i64 4, .int .i64 n, .string ⟨#[]⟩]) (by simp [results, Tryz.results15, go_sem]) rfl ⟨rfl, ?_⟩
    exact two_allocs w _ _

set_option maxHeartbeats 2000000 in
set_option maxRecDepth 1000000 in
theorem Plain_any (ty n : Int) (s : ByteArray) (w : World) (h : ty = 0 ∨ ty = 1 ∨ ty = 2 ∨ ty = 3 ∨ ty = 4) :
    Calls Tryz.prog 13 #[.agg #[.int .i64 ty, .int .i64 n, .string s]] w fun e w' => e = .returned (ag (plV ty n s)) ∧ Below w.heap.size w w' := by
  rcases h with rfl | rfl | rfl | rfl | rfl
  · show Calls _ _ _ _ fun e w' => e = .returned (.agg #[.int .i64 0, .int .i64 0, .string ⟨#[]⟩]) ∧ _
    go_enter Tryz.func13, Tryz.ntmps13
    go_wp2_with fail
    refine bodyPost_ret (v := .agg #[.int .i64 0, .int .i64 0, .string ⟨#[]⟩]) (by simp [results, Tryz.results13, go_sem]) rfl ⟨rfl, ?_⟩
    exact two_allocs w _ _
  · show Calls _ _ _ _ fun e w' => e = .returned (.agg #[.int .i64 1, .int .i64 n, .string ⟨#[]⟩]) ∧ _
    go_enter Tryz.func13, Tryz.ntmps13
    go_wp2_with fail
    refine bodyPost_ret (v := .agg #[.int .i64 1, .int .i64 n, .string ⟨#[]⟩]) (by simp [results, Tryz.results13, go_sem]) rfl ⟨rfl, ?_⟩
    exact two_allocs w _ _
  · show Calls _ _ _ _ fun e w' => e = .returned (.agg #[.int .i64 2, .int .i64 n, .string ⟨#[]⟩]) ∧ _
    go_enter Tryz.func13, Tryz.ntmps13
    go_wp2_with fail
    refine bodyPost_ret (v := .agg #[.int .i64 2, .int .i64 n, .string ⟨#[]⟩]) (by simp [results, Tryz.results13, go_sem]) rfl ⟨rfl, ?_⟩
    exact two_allocs w _ _
  · show Calls _ _ _ _ fun e w' => e = .returned (.agg #[.int .i64 3, .int .i64 0, .string s]) ∧ _
    go_enter Tryz.func13, Tryz.ntmps13
    go_wp2_with fail
    refine bodyPost_ret (v := .agg #[.int .i64 3, .int .i64 0, .string s]) (by simp [results, Tryz.results13, go_sem]) rfl ⟨rfl, ?_⟩
    exact two_allocs w _ _
  · show Calls _ _ _ _ fun e w' => e = .returned (.agg #[.int .i64 4, .int .i64 n, .string ⟨#[]⟩]) ∧ _
    go_enter Tryz.func13, Tryz.ntmps13
    go_wp2_with fail
    refine bodyPost_ret (v := .agg #[.int .i64 4, .int .i64 n, .string ⟨#[]⟩]) (by simp [results, Tryz.results13, go_sem]) rfl ⟨rfl, ?_⟩
    exact two_allocs w _ _

set_option maxHeartbeats 1000000 in
set_option maxRecDepth 100000 in
theorem scaled_one (n : Int) (s : ByteArray) (w : World) (hf : fit n) :
    Calls Tryz.prog 19 #[.agg #[.int .i64 1, .int .i64 n, .string s]] w fun e w' => e = .returned (.tuple #[.int .i64 (ovV (n * 10000)), .bool (fitB (n * 10000))]) ∧ Below w.heap.size w w' := by
  have PR : Hid (∀ w, Calls Tryz.prog 40 #[.int .i64 n, .int .i64 10000, .bool false] w fun e w' => e = .returned (.tuple #[.int .i64 (ovV (n * 10000)), .bool (fitB (n * 10000))]) ∧ Below w.heap.size w w') := fun w => product_whole n 10000 w hf ⟨by omega, by omega⟩
  generalize ovV (n * 10000) = x at *
  generalize fitB (n * 10000) = y at *
  go_enter Tryz.func19, Tryz.ntmps19
  go_wp2_with fail
  refine (PR.out _).mono ?_
  rintro e w1 ⟨rfl, hb1⟩
  go_wp2_with fail
  go_ret2
  exact ⟨rfl, ((Below.refl _ w).alloc (Nat.le_refl _) _).trans (hb1.mono (by simp))⟩
/-- what a read literal is as one of another type -/
def cT (p : Va × Int) (tu : Int) : Va × Int :=
  if p.2 = 0 then (if p.1.ty = tu then (p.1, 0) else if p.1.ty = 1 ∧ tu = 2 then cN 1 p.1.n 2 else bad 3) else bad p.2
theorem fin_fit (ty : Int) (n : Nat) (neg : Bool) : fit (fin ty n neg).1.n := by
  unfold fin
  cases neg
  · by_cases h : n < 9223372036854775808
    · simp only [Bool.false_eq_true, if_false, if_pos h]; exact ⟨by omega, by omega⟩
    · simp only [Bool.false_eq_true, if_false, if_neg h]; exact ⟨by omega, by omega⟩
  · by_cases h : n ≤ 9223372036854775808
    · simp only [if_true, if_pos h]; exact ⟨by omega, by omega⟩
    · simp only [if_true, if_neg h]; exact ⟨by omega, by omega⟩
theorem fit_zero : fit 0 := ⟨by omega, by omega⟩
theorem bad_fit (e : Int) : fit (bad e).1.n := fit_zero
theorem prN_fit (u : List UInt8) (neg : Bool) : fit (prN u neg).1.n := by
  unfold prN
  split
  · exact bad_fit _
  · split
    · split
      · exact bad_fit _
      · exact fin_fit _ _ _
    · split
      · exact bad_fit _
      · exact fin_fit _ _ _
theorem prT_fit (u : List UInt8) : fit (prT u).1.n := by
  unfold prT
  split
  · exact bad_fit _
  · split
    · exact bad_fit _
    · split
      · exact fit_zero
      · exact bad_fit _
theorem prs_fit (l : List UInt8) : fit (prs l).1.n := by
  unfold prs
  repeat' split
  all_goals first | exact bad_fit _ | exact prT_fit _ | exact prN_fit _ _ | exact ⟨by decide, by decide⟩
end Go.Proofs.YtoboebibmelgkaaGreatDoor
