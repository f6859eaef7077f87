/-
  The small ones: simfs.canBe, refuses, named, New, kept, Stop, SyncNames, Sync.
-/
import Derived.Test.YtlfcmhofpieacaaDkA
import Derived.BigQuiet
import Derived.Deep.QuietTactic
namespace Go.Proofs.Ytlfcmhofpieacaa
open Go.RowKit Go.Maps Go.Joins

/-- a text that can be a name -/
def okN (s : ByteArray) : Prop := 1 ≤ s.size ∧ s.size ≤ 64 ∧ ∀ k (h : k < s.size), 33 ≤ (s[k]'h).toNat ∧ (s[k]'h).toNat ≤ 126
set_option maxHeartbeats 1000000 in
set_option maxRecDepth 100000 in
theorem canBe_ok (s : ByteArray) (w : World) (h : okN s) : Calls Try.prog 13 #[.string s] w fun e w' => e = .returned (.bool true) ∧ w' = w := by
  obtain ⟨h1, h2, hb⟩ := h
  have hne : (s.toList == []) = false := by
    rw [beq_eq_false_iff_ne]; intro e
    have := congrArg List.length e
    rw [Lib.toList_data, Array.length_toList, List.length_nil] at this
    have e2 : s.data.size = s.size := rfl
    omega
  have h3 : (s.size : Int) ≤ 64 := by omega
  go_enter Try.func13, Try.ntmps13
  go_wp2_with fail
  go_loop [6] (fun si => ∃ k : Nat, si = .int .i64 k ∧ k ≤ s.size) (fun si => s.size - (intOf si).toNat)
  case atStart => exact ⟨0, rfl, Nat.zero_le _⟩
  case round =>
    obtain ⟨k, rfl, hk⟩ := hrel
    by_cases hlt : k < s.size
    · obtain ⟨g1, g2⟩ := hb k hlt
      have c1 : ¬ ((s[k]'hlt).toNat : Int) ≤ 32 := by omega
      have c2 : ¬ (126 : Int) < ((s[k]'hlt).toNat : Int) := by omega
      go_wp2_with fail
      go_round
      case rel => exact ⟨k + 1, by go_num, hlt⟩
      case measure => simp [intOf]; omega
    · go_wp2_with fail
      go_ret
      exact ⟨rfl, rfl⟩

theorem FsAt.c {w : World} {f : Nat} {q st : Int} {mo : Option Nat} {ov : Value} (h : FsAt w f q mo ov st) : w.cell? ⟨f, 0, none⟩ = some (.int .i64 q) ∧ w.cell? ⟨f, 1, none⟩ = some (.map mo) ∧ w.cell? ⟨f, 2, none⟩ = some ov ∧ w.cell? ⟨f, 3, none⟩ = some (.int .i64 st) ∧ (∀ i, w.frozen? ⟨f, i, none⟩ = false) :=
  ⟨(cell_of_block h 0).trans rfl, (cell_of_block h 1).trans rfl, (cell_of_block h 2).trans rfl, (cell_of_block h 3).trans rfl, fun i => unfrozen_of_block h i⟩
theorem FsAt.kept {w w' : World} {f : Nat} {q st : Int} {mo : Option Nat} {ov : Value} {row : Option Nat} (h : FsAt w f q mo ov st) (hg : w.grownBy w' row) (h1 : some f ≠ row) : FsAt w' f q mo ov st :=
  (hg.block f (lt_of_heap h) h1).trans h
theorem FlOk.c {w : World} {base : Nat} {x : Fl} (h : FlOk w base x) : w.cell? ⟨x.b, 0, none⟩ = some x.v ∧ w.cell? ⟨x.b, 1, none⟩ = some (.int .i64 (x.k : Int)) ∧ (∀ i, w.frozen? ⟨x.b, i, none⟩ = false) :=
  ⟨(cell_of_block h.at_ 0).trans rfl, (cell_of_block h.at_ 1).trans rfl, fun i => unfrozen_of_block h.at_ i⟩

set_option maxHeartbeats 1000000 in
set_option maxRecDepth 100000 in
theorem refuses_no (f : Nat) (q : Int) (mo : Option Nat) (ov : Value) (w : World) (h : FsAt w f q mo ov 0) : Calls Try.prog 14 #[.pointer (some ⟨f, 0, none⟩)] w fun e w' => e = .returned (.bool false) ∧ w' = w := by
  obtain ⟨c0, c1, c2, c3, cf⟩ := h.c
  clear h c0 c1 c2
  go_enter Try.func14, Try.ntmps14
  go_wp2_with fail
  go_ret
  exact ⟨rfl, rfl⟩

set_option maxHeartbeats 1000000 in
set_option maxRecDepth 100000 in
theorem named_ok (f m : Nat) (q st : Int) (ov : Value) (s : ByteArray) (b : Nat) (xs : List (List UInt8 × Fl)) (w : World) (h : FsAt w f q (some m) ov st) (hm : Mp w m xs) (hn : okN s) (hat : (DataW.map (xs.map ent)).atKey (.string s.data.toList) .nil = .lit (.int .i64 (b : Int))) :
    Calls Try.prog 16 #[.pointer (some ⟨f, 0, none⟩), .string s] w fun e w' => e = .returned (.tuple #[.pointer (some ⟨b, 0, none⟩), .int .i64 0]) ∧ w' = w := by
  obtain ⟨c0, c1, c2, c3, cf⟩ := h.c
  have CB : Hid (∀ w, Calls Try.prog 13 #[.string s] w fun e w' => e = .returned (.bool true) ∧ w' = w) := fun w => canBe_ok s w hn
  have hs : s.size ≤ maxLen := by have := hn.2.1; unfold maxLen; omega
  obtain ⟨v, ps, hrun, hR⟩ := World.ownsMap.lookup hm keyS mapT (zeroP w) (zd := .nil) (zp := []) rfl (WideMaps.keyOf_string_mk strT hs)
  rw [hat] at hR
  obtain rfl : v = .pointer (some ⟨b, 0, none⟩) := by
    rcases ptrR_inv hR with ⟨_, e⟩ | ⟨b', rfl, e⟩
    · cases e
    · cases e; rfl
  clear hR h c0 c2 c3 hm hat
  go_enter Try.func16, Try.ntmps16
  go_wp2_with fail
  refine (CB.out _).mono ?_
  rintro e w1 ⟨rfl, rfl⟩
  go_wp2_with fail
  go_ret2
  exact ⟨rfl, rfl⟩

set_option maxHeartbeats 1000000 in
set_option maxRecDepth 100000 in
theorem New_ok (q : Int) (w : World) (h0 : 0 ≤ q) (h1 : q ≤ 16777216) : Calls Try.prog 5 #[.int .i64 q] w fun e w' => e = .returned (.tuple #[.pointer (some ⟨w.heap.size, 0, none⟩), .int .i64 0]) ∧ FsAt w' w.heap.size q none (.slice none 0 0) 0 ∧ Below w.heap.size w w' ∧ w'.heap.size = w.heap.size + 1 := by
  go_enter Try.func5, Try.ntmps5
  go_wp2_with fail
  go_ret2
  exact ⟨rfl, heap_alloc_new _ _, (Below.refl _ _).alloc (Nat.le_refl _) _, by simp⟩

/-- how many of so many stay -/
def kp (says : Int) (many : Nat) : Nat := (max 0 says).toNat % (many + 1)
set_option maxHeartbeats 1000000 in
set_option maxRecDepth 100000 in
theorem kept_any (says : Int) (many : Nat) (w : World) (hs : -9223372036854775808 ≤ says ∧ says ≤ 9223372036854775807) (hm : many ≤ 1000000000) : Calls Try.prog 25 #[.int .i64 says, .int .i64 (many : Int)] w fun e w' => e = .returned (.int .i64 (kp says many : Int)) ∧ w' = w := by
  by_cases h : says ≤ 0
  · have e2 : kp says many = 0 := by unfold kp; rw [show (max 0 says).toNat = 0 by omega]; exact Nat.zero_mod _
    rw [e2]
    have e6 : max 0 says = 0 := by omega
    have e5 : ((many : Int) + 1 == 0) = false := by rw [beq_eq_false_iff_ne]; omega
    clear e2
    go_enter Try.func25, Try.ntmps25
    go_wp2_with fail
    go_ret
    exact ⟨by first | rfl | simp, rfl⟩
  · obtain ⟨n, rfl⟩ : ∃ n : Nat, says = (n : Int) := ⟨says.toNat, by omega⟩
    have e2 : kp (n : Int) many = n % (many + 1) := by unfold kp; rw [show (max 0 (n : Int)).toNat = n by omega]
    rw [e2]
    obtain ⟨K, hK⟩ : ∃ K, K = n % (many + 1) := ⟨_, rfl⟩
    have hKl : K < many + 1 := by rw [hK]; exact Nat.mod_lt _ (by omega)
    have e3 : (n : Int).tmod ((many : Int) + 1) = (K : Int) := by rw [hK, Int.tmod_eq_emod_of_nonneg (by omega), Int.natCast_emod]; congr 1
    have e4 : (n : Int) % ((many : Int) + 1) = (K : Int) := by rw [hK, Int.natCast_emod]; congr 1
    have e5 : ((many : Int) + 1 == 0) = false := by rw [beq_eq_false_iff_ne]; omega
    have e6 : 0 < (n : Int) := by omega
    rw [← hK]
    clear hK e2 h
    go_enter Try.func25, Try.ntmps25
    go_wp2_with fail
    go_ret
    exact ⟨by first | rfl | simp, rfl⟩

set_option maxHeartbeats 1000000 in
set_option maxRecDepth 100000 in
theorem Stop_0 (f : Nat) (q st : Int) (mo : Option Nat) (ov : Value) (w : World) (h : FsAt w f q mo ov st) : Calls Try.prog 22 #[.pointer (some ⟨f, 0, none⟩), .int .i64 0] w fun e w' => e = .returned (.tuple #[]) ∧ FsAt w' f q mo ov 0 ∧ w.grownBy w' (some f) := by
  obtain ⟨c0, c1, c2, c3, cf⟩ := h.c
  have F : Hid (FsAt (w.setCell ⟨f, 3, none⟩ (.int .i64 0)) f q mo ov 0) := (block_setCell h _).trans rfl
  clear h
  go_enter Try.func22, Try.ntmps22
  go_wp2_with fail
  go_end0
  exact ⟨rfl, F.out, grown_setCell _ _ _⟩

set_option maxHeartbeats 1000000 in
set_option maxRecDepth 100000 in
theorem SyncNames_ok (f : Nat) (q : Int) (mo : Option Nat) (ov : Value) (w : World) (h : FsAt w f q mo ov 0) : Calls Try.prog 9 #[.pointer (some ⟨f, 0, none⟩)] w fun e w' => e = .returned (.int .i64 0) ∧ FsAt w' f q mo (.slice none 0 0) 0 ∧ w.grownBy w' (some f) := by
  have RF : Hid (Calls Try.prog 14 #[.pointer (some ⟨f, 0, none⟩)] w fun e w' => e = .returned (.bool false) ∧ w' = w) := refuses_no f q mo ov w h
  obtain ⟨c0, c1, c2, c3, cf⟩ := h.c
  have F : Hid (FsAt (w.setCell ⟨f, 2, none⟩ (.slice none 0 0)) f q mo (.slice none 0 0) 0) := (block_setCell h _).trans rfl
  clear h
  go_enter Try.func9, Try.ntmps9
  go_wp2_with fail
  refine RF.out.mono ?_
  rintro e w1 ⟨rfl, hwx⟩; have hwx2 := hwx.symm; subst hwx2; clear hwx
  go_wp2_with fail
  go_ret
  exact ⟨rfl, F.out, grown_setCell _ _ _⟩
end Go.Proofs.Ytlfcmhofpieacaa
