/-
  How much a partition wants a value (mixed, by), and which one has it (among).
-/
import Derived.Test.YtmhmcffejkpmjaaDoorHsA
namespace Go.Proofs.YtmhmcffejkpmjaaDoor
open Go.RowKit
set_option maxRecDepth 100000

def mixA (h : Nat) : Nat := (h ^^^ (h / 8589934592)) * 11400714819323198485 % 18446744073709551616
def mixB (h : Nat) : Nat := (h ^^^ (h / 536870912)) * 11400714819323198485 % 18446744073709551616
def mixC (h : Nat) : Nat := h ^^^ (h / 4294967296)
def mixN (h : Nat) : Nat := mixC (mixB (mixA h))
theorem mixA_lt (h : Nat) : mixA h < 18446744073709551616 := Nat.mod_lt _ (by decide)
theorem mixB_lt (h : Nat) : mixB h < 18446744073709551616 := Nat.mod_lt _ (by decide)
theorem mixC_lt {h : Nat} (hh : h < 18446744073709551616) : mixC h < 18446744073709551616 := Nat.xor_lt_two_pow (n := 64) hh (by omega)
theorem mixN_lt (h : Nat) : mixN h < 18446744073709551616 := mixC_lt (mixB_lt _)
theorem xorN (a b : Nat) (ha : a < 18446744073709551616) (hb : b < 18446744073709551616) : bits .xor .u64 (a : Int) (b : Int) = ((a ^^^ b : Nat) : Int) := bits_xor_u64_nat a b ha hb
/-- how much a partition wants it: s is the hash of its bytes -/
def byN (s p : Nat) : Nat := mixN (hashS s (UInt8.ofNat p))
theorem byN_eq (s p : Nat) : byN s p = mixN (hashS s (UInt8.ofNat p)) := by unfold byN; rfl
theorem hashF_one (s : Nat) (x : UInt8) : hashF s [x] = hashS s x := by unfold hashF; rw [List.foldl_cons, List.foldl_nil]
theorem byN_lt (s p : Nat) : byN s p < 18446744073709551616 := mixN_lt _

set_option maxHeartbeats 1000000 in
theorem mixed_any (h : Nat) (hh : h < 18446744073709551616) (w : World) : Calls Tryd.prog 30 #[.int .u64 (h : Int)] w fun e w' => e = .returned (.int .u64 (mixN h : Int)) ∧ w' = w := by
  rw [show mixN h = mixB (mixA h) ^^^ (mixB (mixA h) / 4294967296) from rfl]
  have e1 : bits .xor .u64 (h : Int) ((h : Int) / 8589934592) = ((h ^^^ (h / 8589934592) : Nat) : Int) := by
    have := xorN h (h / 8589934592) hh (by omega)
    simpa using this
  have e2 : IntKind.u64.wrap (((h ^^^ (h / 8589934592) : Nat) : Int) * 11400714819323198485) = ((mixA h : Nat) : Int) := by
    rw [IntKind.wrap_u64]; unfold mixA; omega
  have a1 := mixA_lt h
  generalize mixA h = a at *
  have e3 : bits .xor .u64 (a : Int) ((a : Int) / 536870912) = ((a ^^^ (a / 536870912) : Nat) : Int) := by
    have := xorN a (a / 536870912) a1 (by omega)
    simpa using this
  have e4 : IntKind.u64.wrap (((a ^^^ (a / 536870912) : Nat) : Int) * 11400714819323198485) = ((mixB a : Nat) : Int) := by
    rw [IntKind.wrap_u64]; unfold mixB; omega
  have a2 := mixB_lt a
  generalize mixB a = b at *
  have e5 : bits .xor .u64 (b : Int) ((b : Int) / 4294967296) = ((b ^^^ (b / 4294967296) : Nat) : Int) := by
    have := xorN b (b / 4294967296) a2 (by omega)
    simpa using this
  generalize h ^^^ (h / 8589934592) = X at *
  generalize a ^^^ (a / 536870912) = Y at *
  generalize b ^^^ (b / 4294967296) = Z at *
  go_enter Tryd.func30, Tryd.ntmps30
  go_wp2_with fail
  go_ret
  exact ⟨rfl, rfl⟩

set_option maxHeartbeats 1000000 in
theorem by_any (n : Bool) (s : Nat) (hs : s < 18446744073709551616) (p : Nat) (hp : p < 256) (w : World) : Calls Tryd.prog 21 #[.agg #[.bool n, .int .u64 (s : Int)], .int .i64 (p : Int)] w fun e w' => e = .returned (.int .u64 (byN s p : Int)) ∧ Below w.heap.size w w' := by
  have hone : ∀ (i : Nat) (x : UInt8), [UInt8.ofNat p][i]? = some x → ∀ w1 : World, w1.cell? ⟨w.heap.size + 1, 0, none⟩ = some (.int .u8 (p : Int)) → w1.cell? ⟨w.heap.size + 1, 0 + i, none⟩ = some (.int .u8 (x.toNat : Int)) := by
    intro i x hx w1 h1
    rcases i with _ | i
    · have hx : UInt8.ofNat p = x := by simpa using hx
      subst hx
      rw [h1, UInt8.toNat_ofNat', Nat.mod_eq_of_lt hp]
    · simp at hx
  have ON : Hid (∀ w1 : World, w1.cell? ⟨w.heap.size + 1, 0, none⟩ = some (.int .u8 (p : Int)) → Calls Tryd.prog 31 #[.int .u64 (s : Int), .slice (some ⟨w.heap.size + 1, 0, none⟩) 1 1] w1 fun e w' => e = .returned (.int .u64 ((hashS s (UInt8.ofNat p) : Nat) : Int)) ∧ w' = w1) := by
    intro w1 h1
    have := On_any s hs (some ⟨w.heap.size + 1, 0, none⟩) 1 [UInt8.ofNat p] w1 (Or.inr ⟨_, _, rfl, fun i x hx => hone i x hx w1 h1⟩) (fun h => by cases h) (by simp)
    rw [hashF_one] at this
    exact this
  have MX : Hid (∀ w1 : World, Calls Tryd.prog 30 #[.int .u64 ((hashS s (UInt8.ofNat p) : Nat) : Int)] w1 fun e w' => e = .returned (.int .u64 (byN s p : Int)) ∧ w' = w1) := fun w1 => by rw [byN_eq]; exact mixed_any _ (hashS_lt _ _) w1
  have hB : Hid (∀ o1 o2, Below w.heap.size w ((w.alloc o1).alloc o2)) := fun o1 o2 => ((Below.refl _ w).alloc (Nat.le_refl _) o1).alloc (by simp) o2
  generalize hashS s (UInt8.ofNat p) = H at *
  generalize byN s p = N at *
  go_enter Tryd.func21, Tryd.ntmps21
  go_wp2_with fail
  refine (ON.out _ (by go_simp)).mono ?_
  rintro e w1 ⟨rfl, rfl⟩
  go_wp2_with fail
  refine (MX.out _).mono ?_
  rintro e w1 ⟨rfl, rfl⟩
  go_wp2_with fail
  go_ret
  exact ⟨rfl, hB.out _ _⟩

theorem mkH {P : Prop} (h : P) : Hid P := h
/-- the greatest of what the partitions up to k want, and whose it is -/
def bst (s : Nat) : Nat → Nat × Nat
  | 0 => (0, byN s 0)
  | k + 1 => if (bst s k).2 < byN s (k + 1) then (k + 1, byN s (k + 1)) else bst s k
theorem bst_le (s : Nat) : ∀ k, (bst s k).1 ≤ k
  | 0 => Nat.le_refl _
  | k + 1 => by unfold bst; split; exact Nat.le_refl _; exact Nat.le_succ_of_le (bst_le s k)
theorem bst_lt (s : Nat) : ∀ k, (bst s k).2 < 18446744073709551616
  | 0 => byN_lt s 0
  | k + 1 => by unfold bst; split; exact byN_lt s _; exact bst_lt s k
theorem bst_yes {s k : Nat} (h : (bst s k).2 < byN s (k + 1)) : bst s (k + 1) = (k + 1, byN s (k + 1)) := by rw [bst, if_pos h]
theorem bst_no {s k : Nat} (h : ¬ (bst s k).2 < byN s (k + 1)) : bst s (k + 1) = bst s k := by rw [bst, if_neg h]
/-- the partition of n that has it -/
def amN (nul : Bool) (s n : Nat) : Nat := if nul then 0 else (bst s (n - 1)).1
theorem amN_lt (nul : Bool) (s : Nat) {n : Nat} (h : 0 < n) : amN nul s n < n := by
  unfold amN; split; exact h; have := bst_le s (n - 1); omega

set_option maxHeartbeats 1000000 in
theorem among_any (nul : Bool) (s : Nat) (hs : s < 18446744073709551616) (n : Nat) (hn : 0 < n ∧ n ≤ 64) (w : World) : Calls Tryd.prog 18 #[.agg #[.bool nul, .int .u64 (s : Int)], .int .i64 (n : Int)] w fun e w' => e = .returned (.int .i64 (amN nul s n : Int)) ∧ Below w.heap.size w w' := by
  have BY : Hid (∀ p : Nat, p < 64 → ∀ w1 : World, Calls Tryd.prog 21 #[.agg #[.bool nul, .int .u64 (s : Int)], .int .i64 (p : Int)] w1 fun e w' => e = .returned (.int .u64 (byN s p : Int)) ∧ Below w1.heap.size w1 w') := fun p hp w1 => by_any nul s hs p (by omega) w1
  obtain ⟨h0, h1⟩ := hn
  cases nul with
  | true =>
    have hB : Hid (∀ o1, Below w.heap.size w (w.alloc o1)) := fun o1 => (Below.refl _ w).alloc (Nat.le_refl _) o1
    clear BY
    rw [show amN true s n = 0 from rfl]
    go_enter Tryd.func18, Tryd.ntmps18
    go_wp2_with fail
    go_ret
    exact ⟨rfl, hB.out _⟩
  | false =>
    rw [show amN false s n = (bst s (n - 1)).1 from rfl]
    have hB : Hid (Below w.heap.size w (w.alloc (.cells #[.bool false, .int .u64 (s : Int)] 46))) := (Below.refl _ w).alloc (Nat.le_refl _) _
    have hX : Hid ((w.alloc (.cells #[.bool false, .int .u64 (s : Int)] 46)).cell? ⟨w.heap.size, 0, none⟩ = some (.bool false) ∧ (w.alloc (.cells #[.bool false, .int .u64 (s : Int)] 46)).cell? ⟨w.heap.size, 1, none⟩ = some (.int .u64 (s : Int)) ∧ w.heap.size < (w.alloc (.cells #[.bool false, .int .u64 (s : Int)] 46)).heap.size) := by
      show _ ∧ _ ∧ _
      refine ⟨by go_simp, by go_simp, by simp⟩
    go_enter Tryd.func18, Tryd.ntmps18
    go_wp2_with fail
    refine (BY.out 0 (by decide) _).mono ?_
    rintro e w1 ⟨rfl, hb1⟩
    generalize w.alloc (.cells #[.bool false, .int .u64 (s : Int)] 46) = w0 at *
    have HB1 : Hid (Below w0.heap.size w0 w1) := hb1
    clear hb1
    go_wp2_with fail
    go_loopw [5, 6, 7] (fun sb sm sp wr => ∃ k : Nat, sp = .int .i64 ((k : Int) + 1) ∧ k + 1 ≤ n ∧ sb = .int .i64 ((bst s k).1 : Int) ∧ sm = .int .u64 ((bst s k).2 : Int) ∧ Hid (Below w0.heap.size w0 wr)) (fun _ _ sp _ => n - (intOf sp).toNat)
    case atStart => exact ⟨0, rfl, h0, rfl, rfl, HB1⟩
    case round =>
      obtain ⟨k, rfl, hk, rfl, rfl, hbr⟩ := hrel
      by_cases hlt : k + 1 < n
      · have c0 := (hbr.out.cell (p := ⟨w.heap.size, 0, none⟩) hX.out.2.2).trans hX.out.1
        have c1 := (hbr.out.cell (p := ⟨w.heap.size, 1, none⟩) hX.out.2.2).trans hX.out.2.1
        have hcall := mkH (BY.out (k + 1) (by omega))
        rw [show (((k + 1 : Nat) : Nat) : Int) = (k : Int) + 1 by omega] at hcall
        have hy := mkH (@bst_yes s k)
        have hn := mkH (@bst_no s k)
        clear BY hX HB1
        generalize byN s (k + 1) = B at *
        generalize bst s k = X at *
        have hX0 : Hid (Below w0.heap.size w0 wr) := hbr
        clear hbr
        go_wp2_with fail
        refine (hcall.out _).mono ?_
        rintro e w2 ⟨rfl, hb2⟩
        have hb3 : Hid (Below w0.heap.size w0 w2) := hX0.out.trans (hb2.mono hX0.out.size)
        clear hb2 hX0 c0 c1 hcall
        by_cases hgt : X.2 < B
        · have hY := mkH (hy.out hgt)
          clear hy hn
          go_wp2_with fail
          go_round
          case rel => exact ⟨k + 1, by go_num, by omega, by rw [hY.out]; simp, by rw [hY.out], hb3⟩
          case measure => simp [intOf]; omega
        · have hY := mkH (hn.out hgt)
          clear hy hn
          go_wp2_with fail
          go_round
          case rel => exact ⟨k + 1, by go_num, by omega, by rw [hY.out], by rw [hY.out], hb3⟩
          case measure => simp [intOf]; omega
      · have hN : Hid (bst s (n - 1) = bst s k) := by rw [show n - 1 = k by omega]; exact rfl
        have hE : Hid (Below w.heap.size w wr) := hB.out.trans (hbr.out.mono hB.out.size)
        clear BY hX HB1 hB hbr
        go_wp2_with fail
        go_ret
        exact ⟨congrArg Ending.returned (congrArg (fun z : Nat × Nat => Value.int .i64 (z.1 : Int)) hN.out.symm), hE⟩
end Go.Proofs.YtmhmcffejkpmjaaDoor
