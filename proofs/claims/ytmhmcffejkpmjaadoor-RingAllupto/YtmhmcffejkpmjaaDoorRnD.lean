/-
  canBe, Of, Weight: one value and its partition.
-/
import Derived.Test.YtmhmcffejkpmjaaDoorRnC
namespace Go.Proofs.YtmhmcffejkpmjaaDoor
open Go.RowKit Go.Shelf Go.Joins
set_option maxRecDepth 1000000

theorem canBe_yes (n : Nat) (h : 0 < n ∧ n ≤ 64) (w : World) : Calls Tryd.prog 16 #[.int .i64 (n : Int)] w fun e w' => e = .returned (.bool true) ∧ w' = w := by
  obtain ⟨h0, h1⟩ := h
  have a : (1 : Int) ≤ (n : Int) := by omega
  have b : (n : Int) ≤ 64 := by omega
  clear h0 h1
  generalize (n : Int) = N at *
  go_enter Tryd.func16, Tryd.ntmps16
  go_wp2_with fail
  go_ret
  exact ⟨by congr 2, rfl⟩
theorem canBe_no (n : Int) (_ : IntKind.i64.wrap n = n) (h : n < 1 ∨ 64 < n) (w : World) : Calls Tryd.prog 16 #[.int .i64 n] w fun e w' => e = .returned (.bool false) ∧ w' = w := by
  rcases h with h | h
  · go_enter Tryd.func16, Tryd.ntmps16
    go_wp2_with fail
    go_ret
    exact ⟨by congr 2, rfl⟩
  · go_enter Tryd.func16, Tryd.ntmps16
    go_wp2_with fail
    go_ret
    exact ⟨by congr 2; simp; omega, rfl⟩
def amV (n : Nat) (x : Va) : Nat := amN (nulV x) (sdV x) n
theorem amV_lt (x : Va) {n : Nat} (h : 0 < n) : amV n x < n := amN_lt _ _ h
def vaV (x : Va) : Value := .agg #[.int .i64 x.ty, .int .i64 x.n, .string x.s]

set_option maxHeartbeats 2000000 in
theorem Of_any (x : Va) (n : Nat) (hn : 0 < n ∧ n ≤ 64) (w : World) (hf : fit x.n) (hs : x.s.size ≤ 9223372036854775807) (hT : Tabs w) :
    Calls Tryd.prog 6 #[.agg #[.int .i64 x.ty, .int .i64 x.n, .string x.s], .int .i64 (n : Int)] w fun e w' => e = .returned (.tuple #[.int .i64 (if x.chk = 0 then (amV n x : Int) else 0), .int .i64 x.chk]) ∧ Below w.heap.size w w' := by
  have CB : Hid (∀ w1, Calls Tryd.prog 16 #[.int .i64 (n : Int)] w1 fun e w' => e = .returned (.bool true) ∧ w' = w1) := fun w1 => canBe_yes n hn w1
  by_cases h0 : x.chk = 0
  · have WO : Hid (∀ w1, Tabs w1 → Calls Tryd.prog 17 #[.agg #[.int .i64 x.ty, .int .i64 x.n, .string x.s]] w1 fun e w' => e = .returned (.tuple #[wnV x, .int .i64 0]) ∧ Below w1.heap.size w1 w') := fun w1 h1 => wantedOf_ok x w1 hf hs h1 h0
    rw [show wnV x = .agg #[.bool (nulV x), .int .u64 (sdV x : Int)] from rfl] at WO
    have AM : Hid (∀ w1, Calls Tryd.prog 18 #[.agg #[.bool (nulV x), .int .u64 (sdV x : Int)], .int .i64 (n : Int)] w1 fun e w' => e = .returned (.int .i64 (amV n x : Int)) ∧ Below w1.heap.size w1 w') := fun w1 => among_any _ _ (sdV_lt x) n hn w1
    rw [if_pos h0, h0]
    have hA1 : Hid (∀ o, Tabs (w.alloc o) ∧ Below w.heap.size w (w.alloc o)) := fun o => ⟨hT.below ((Below.refl _ _).alloc (Nat.le_refl _) o), (Below.refl _ _).alloc (Nat.le_refl _) o⟩
    generalize amV n x = AMV at *
    generalize nulV x = NU at *
    generalize sdV x = SD at *
    clear hf hs h0
    go_enter Tryd.func6, Tryd.ntmps6
    go_wp2_with fail
    refine (CB.out _).mono ?_
    rintro e w' ⟨rfl, rfl⟩
    go_wp2_with fail
    refine (WO.out _ (hA1.out _).1).mono ?_
    rintro e w1 ⟨rfl, hb1⟩
    replace hb1 := mkH ((hA1.out _).2.trans (hb1.mono (hA1.out _).2.size))
    have hA2 : Hid (∀ o, Below w.heap.size w (w1.alloc o)) := fun o => hb1.out.alloc hb1.out.size o
    clear WO hA1 hT
    go_wp2_with fail
    refine (AM.out _).mono ?_
    rintro e w2 ⟨rfl, hb2⟩
    have hb3 := mkH ((hA2.out _).trans (hb2.mono (hA2.out _).size))
    clear hb2 AM hA2 hb1
    go_wp2_with fail
    refine bodyPost_ret (v := .tuple #[.int .i64 (AMV : Int), .int .i64 0]) (by simp [results, Tryd.results6, go_sem]) rfl ⟨rfl, hb3.out⟩
  · have WO : Hid (∀ w1, Tabs w1 → Calls Tryd.prog 17 #[.agg #[.int .i64 x.ty, .int .i64 x.n, .string x.s]] w1 fun e w' => e = .returned (.tuple #[.agg #[.bool false, .int .u64 0], .int .i64 x.chk]) ∧ Below w1.heap.size w1 w') := fun w1 h1 => wantedOf_bad x w1 hs h1 h0
    have h1 : (x.chk != 0) = true := by rw [bne_iff_ne]; exact h0
    rw [if_neg h0]
    have hA1 : Hid (∀ o, Tabs (w.alloc o) ∧ Below w.heap.size w (w.alloc o)) := fun o => ⟨hT.below ((Below.refl _ _).alloc (Nat.le_refl _) o), (Below.refl _ _).alloc (Nat.le_refl _) o⟩
    generalize x.chk = C at *
    clear hf hs h0
    go_enter Tryd.func6, Tryd.ntmps6
    go_wp2_with fail
    refine (CB.out _).mono ?_
    rintro e w' ⟨rfl, rfl⟩
    go_wp2_with fail
    refine (WO.out _ (hA1.out _).1).mono ?_
    rintro e w1 ⟨rfl, hb1⟩
    replace hb1 := mkH ((hA1.out _).2.trans (hb1.mono (hA1.out _).2.size))
    have hA2 : Hid (∀ o, Below w.heap.size w (w1.alloc o)) := fun o => hb1.out.alloc hb1.out.size o
    clear WO hA1 hT
    go_wp2_with fail
    refine bodyPost_ret (v := .tuple #[.int .i64 0, .int .i64 C]) (by simp [results, Tryd.results6, go_sem]) rfl ⟨rfl, hA2.out _⟩

set_option maxHeartbeats 2000000 in
/-- where it can't be so many -/
theorem Of_bad (x : Va) (n : Int) (hw : IntKind.i64.wrap n = n) (hn : n < 1 ∨ 64 < n) (w : World) :
    Calls Tryd.prog 6 #[.agg #[.int .i64 x.ty, .int .i64 x.n, .string x.s], .int .i64 n] w fun e w' => e = .returned (.tuple #[.int .i64 0, .int .i64 1]) ∧ Below w.heap.size w w' := by
  have CB : Hid (∀ w1, Calls Tryd.prog 16 #[.int .i64 n] w1 fun e w' => e = .returned (.bool false) ∧ w' = w1) := fun w1 => canBe_no n hw hn w1
  have hB : Hid (∀ o, Below w.heap.size w (w.alloc o)) := fun o => (Below.refl _ _).alloc (Nat.le_refl _) o
  clear hw hn
  go_enter Tryd.func6, Tryd.ntmps6
  go_wp2_with fail
  refine (CB.out _).mono ?_
  rintro e w' ⟨rfl, rfl⟩
  go_wp2_with fail
  refine bodyPost_ret (v := .tuple #[.int .i64 0, .int .i64 1]) (by simp [results, Tryd.results6, go_sem]) rfl ⟨rfl, hB.out _⟩

set_option maxHeartbeats 2000000 in
theorem Weight_any (x : Va) (p : Nat) (hp : p < 64) (w : World) (hf : fit x.n) (hs : x.s.size ≤ 9223372036854775807) (hT : Tabs w) :
    Calls Tryd.prog 8 #[.agg #[.int .i64 x.ty, .int .i64 x.n, .string x.s], .int .i64 (p : Int)] w fun e w' => e = .returned (.tuple #[.int .u64 (if x.chk = 0 then (byN (sdV x) p : Int) else 0), .int .i64 x.chk]) ∧ Below w.heap.size w w' := by
  have hp0 : ¬ (p : Int) < 0 := by omega
  have hp1 : ¬ (64 : Int) ≤ (p : Int) := by omega
  have hA1 : Hid (∀ o, Tabs (w.alloc o) ∧ Below w.heap.size w (w.alloc o)) := fun o => ⟨hT.below ((Below.refl _ _).alloc (Nat.le_refl _) o), (Below.refl _ _).alloc (Nat.le_refl _) o⟩
  by_cases h0 : x.chk = 0
  · have WO : Hid (∀ w1, Tabs w1 → Calls Tryd.prog 17 #[.agg #[.int .i64 x.ty, .int .i64 x.n, .string x.s]] w1 fun e w' => e = .returned (.tuple #[wnV x, .int .i64 0]) ∧ Below w1.heap.size w1 w') := fun w1 h1 => wantedOf_ok x w1 hf hs h1 h0
    rw [show wnV x = .agg #[.bool (nulV x), .int .u64 (sdV x : Int)] from rfl] at WO
    have AM : Hid (∀ w1, Calls Tryd.prog 21 #[.agg #[.bool (nulV x), .int .u64 (sdV x : Int)], .int .i64 (p : Int)] w1 fun e w' => e = .returned (.int .u64 (byN (sdV x) p : Int)) ∧ Below w1.heap.size w1 w') := fun w1 => by_any _ _ (sdV_lt x) p (by omega) w1
    rw [if_pos h0, h0]
    generalize byN (sdV x) p = AMV at *
    generalize nulV x = NU at *
    generalize sdV x = SD at *
    clear hf hs h0 hp
    go_enter Tryd.func8, Tryd.ntmps8
    go_wp2_with fail
    refine (WO.out _ (hA1.out _).1).mono ?_
    rintro e w1 ⟨rfl, hb1⟩
    replace hb1 := mkH ((hA1.out _).2.trans (hb1.mono (hA1.out _).2.size))
    have hA2 : Hid (∀ o, Below w.heap.size w (w1.alloc o)) := fun o => hb1.out.alloc hb1.out.size o
    clear WO hA1 hT
    go_wp2_with fail
    refine (AM.out _).mono ?_
    rintro e w2 ⟨rfl, hb2⟩
    have hb3 := mkH ((hA2.out _).trans (hb2.mono (hA2.out _).size))
    clear hb2 AM hA2 hb1
    go_wp2_with fail
    refine bodyPost_ret (v := .tuple #[.int .u64 (AMV : Int), .int .i64 0]) (by simp [results, Tryd.results8, go_sem]) rfl ⟨rfl, hb3.out⟩
  · have WO : Hid (∀ w1, Tabs w1 → Calls Tryd.prog 17 #[.agg #[.int .i64 x.ty, .int .i64 x.n, .string x.s]] w1 fun e w' => e = .returned (.tuple #[.agg #[.bool false, .int .u64 0], .int .i64 x.chk]) ∧ Below w1.heap.size w1 w') := fun w1 h1 => wantedOf_bad x w1 hs h1 h0
    have h1 : (x.chk != 0) = true := by rw [bne_iff_ne]; exact h0
    rw [if_neg h0]
    generalize x.chk = C at *
    clear hf hs h0 hp
    go_enter Tryd.func8, Tryd.ntmps8
    go_wp2_with fail
    refine (WO.out _ (hA1.out _).1).mono ?_
    rintro e w1 ⟨rfl, hb1⟩
    replace hb1 := mkH ((hA1.out _).2.trans (hb1.mono (hA1.out _).2.size))
    have hA2 : Hid (∀ o, Below w.heap.size w (w1.alloc o)) := fun o => hb1.out.alloc hb1.out.size o
    clear WO hA1 hT
    go_wp2_with fail
    refine bodyPost_ret (v := .tuple #[.int .u64 0, .int .i64 C]) (by simp [results, Tryd.results8, go_sem]) rfl ⟨rfl, hA2.out _⟩

set_option maxHeartbeats 2000000 in
theorem Weight_bad (x : Va) (p : Int) (hp : p < 0 ∨ 64 ≤ p) (w : World) :
    Calls Tryd.prog 8 #[.agg #[.int .i64 x.ty, .int .i64 x.n, .string x.s], .int .i64 p] w fun e w' => e = .returned (.tuple #[.int .u64 0, .int .i64 1]) ∧ Below w.heap.size w w' := by
  have hB : Hid (∀ o, Below w.heap.size w (w.alloc o)) := fun o => (Below.refl _ _).alloc (Nat.le_refl _) o
  by_cases h : p < 0
  · clear hp
    go_enter Tryd.func8, Tryd.ntmps8
    go_wp2_with fail
    refine bodyPost_ret (v := .tuple #[.int .u64 0, .int .i64 1]) (by simp [results, Tryd.results8, go_sem]) rfl ⟨rfl, hB.out _⟩
  · have h2 : 64 ≤ p := by rcases hp with hp | hp; exact absurd hp h; exact hp
    clear hp
    go_enter Tryd.func8, Tryd.ntmps8
    go_wp2_with fail
    refine bodyPost_ret (v := .tuple #[.int .u64 0, .int .i64 1]) (by simp [results, Tryd.results8, go_sem]) rfl ⟨rfl, hB.out _⟩
end Go.Proofs.YtmhmcffejkpmjaaDoor
