/-
  The walks of rowcode.wholeOf and numberOf.
-/
import Derived.Test.YtjdnbgnjgicbbaaDoorBkA
namespace Go.Proofs.YtjdnbgnjgicbbaaDoor
open Go.RowKit Go.Shelf

theorem Div64_any10k (hi lo : Nat) (w : World) (h1 : hi < 10000) (h2 : lo < 18446744073709551616) :
    Calls Tryd.prog 48 #[.int .u64 (hi : Int), .int .u64 (lo : Int), .int .u64 10000] w fun e w' => e = .returned (.tuple #[.int .u64 (((hi * 18446744073709551616 + lo) / 10000 : Nat) : Int), .int .u64 (((hi * 18446744073709551616 + lo) % 10000 : Nat) : Int)]) ∧ Below w.heap.size w w' := by
  rcases Nat.eq_zero_or_pos hi with rfl | h0
  · have := Div64_zero lo 10000 w (by omega) h2 (by omega)
    rw [Nat.zero_mul, Nat.zero_add]; exact this
  · refine (Div64_10k hi lo w h0 h1 h2).mono ?_
    rintro e w' ⟨rfl, rfl⟩
    exact ⟨rfl, Below.refl _ _⟩
/-- a value, or none -/
def vopt : Option Va → Value
  | some v => .tuple #[.agg #[.int .i64 v.ty, .int .i64 v.n, .string v.s], .bool true]
  | none => .tuple #[.agg #[.int .i64 0, .int .i64 0, .string ⟨#[]⟩], .bool false]
/-- the whole number that two words tell -/
def whV (hi lo : Nat) : Option Va :=
  if 27768 ≤ hi ∧ hi < 37768 ∧ ((hi - 27768) * 18446744073709551616 + lo) % 10000 = 0 then some ⟨1, ((((hi - 27768) * 18446744073709551616 + lo) / 10000 : Nat) : Int) - 9223372036854775808, ⟨#[]⟩⟩ else none
theorem xor_back (q : Nat) (h : q < 18446744073709551616) : IntKind.i64.wrap (bits .xor .u64 (q : Int) 9223372036854775808) = (q : Int) - 9223372036854775808 := by
  have e2 : (9223372036854775808 : Int) = ((9223372036854775808 : Nat) : Int) := rfl
  have t63 : (2 : Nat) ^ 63 = 9223372036854775808 := by decide
  rw [e2, bits_xor_u64_nat _ _ h (by omega)]
  by_cases hq : q < 9223372036854775808
  · have := xor_top q (by omega)
    rw [t63, Nat.xor_comm] at this
    rw [this, IntKind.wrap_i64]; omega
  · have := xor_top (q - 9223372036854775808) (by omega)
    rw [t63] at this
    have e : q ^^^ 9223372036854775808 = q - 9223372036854775808 := by
      have hs : q = 9223372036854775808 ^^^ (q - 9223372036854775808) := by rw [this]; omega
      conv => lhs; rw [hs]
      rw [Nat.xor_comm, ← Nat.xor_assoc, Nat.xor_self, Nat.zero_xor]
    rw [e, IntKind.wrap_i64]; omega
/-- a result's block -/
structure Res (w : World) (g : Nat) (t n : Int) (s : ByteArray) : Prop where
  lt : g < w.heap.size
  c0 : w.cell? ⟨g, 0, none⟩ = some (.int .i64 t)
  c1 : w.cell? ⟨g, 1, none⟩ = some (.int .i64 n)
  c2 : w.cell? ⟨g, 2, none⟩ = some (.string s)
  f0 : w.frozen? ⟨g, 0, none⟩ = false
  f1 : w.frozen? ⟨g, 1, none⟩ = false
  f2 : w.frozen? ⟨g, 2, none⟩ = false
theorem Res.new (w : World) (t n : Int) (s : ByteArray) : Res (w.alloc (.cells #[.int .i64 t, .int .i64 n, .string s] 23)) w.heap.size t n s := by
  constructor
  all_goals go_simp
theorem Res.below {w w' : World} {g : Nat} {t n : Int} {s : ByteArray} (h : Res w g t n s) (hb : Below w.heap.size w w') : Res w' g t n s := by
  obtain ⟨l, c0, c1, c2, f0, f1, f2⟩ := h
  exact ⟨Nat.lt_of_lt_of_le l hb.size, (hb.cell (p := ⟨g, 0, none⟩) l).trans c0, (hb.cell (p := ⟨g, 1, none⟩) l).trans c1, (hb.cell (p := ⟨g, 2, none⟩) l).trans c2, (hb.frozen (p := ⟨g, 0, none⟩) l).trans f0, (hb.frozen (p := ⟨g, 1, none⟩) l).trans f1, (hb.frozen (p := ⟨g, 2, none⟩) l).trans f2⟩

theorem Res.put {w : World} {g : Nat} {t n : Int} {s : ByteArray} (h : Res w g t n s) (t' n' : Int) (s' : ByteArray) : Res (((w.setCell ⟨g, 0, none⟩ (.int .i64 t')).setCell ⟨g, 1, none⟩ (.int .i64 n')).setCell ⟨g, 2, none⟩ (.string s')) g t' n' s' := by
  obtain ⟨l, c0, c1, c2, f0, f1, f2⟩ := h
  constructor
  all_goals first | (simp; exact l) | go_simp
theorem Res.alloc {w : World} {g : Nat} {t n : Int} {s : ByteArray} (h : Res w g t n s) (o : Obj) : Res (w.alloc o) g t n s := h.below ((Below.refl _ w).alloc (Nat.le_refl _) o)

set_option maxHeartbeats 2000000 in
set_option maxRecDepth 1000000 in
theorem wholeOf_any (hi lo : Nat) (w : World) (h1 : hi < 65536) (h2 : lo < 18446744073709551616) :
    Calls Tryd.prog 45 #[.int .u64 (hi : Int), .int .u64 (lo : Int)] w fun e w' => e = .returned (vopt (whV hi lo)) ∧ Below w.heap.size w w' := by
  by_cases hA : 27768 ≤ hi
  · by_cases hB : hi < 37768
    · obtain ⟨h, hhi⟩ : ∃ h, hi = 27768 + h := ⟨hi - 27768, by omega⟩
      have DV : Hid (∀ w, Calls Tryd.prog 48 #[.int .u64 (h : Int), .int .u64 (lo : Int), .int .u64 10000] w fun e w' => e = .returned (.tuple #[.int .u64 (((h * 18446744073709551616 + lo) / 10000 : Nat) : Int), .int .u64 (((h * 18446744073709551616 + lo) % 10000 : Nat) : Int)]) ∧ Below w.heap.size w w') := fun w => Div64_any10k h lo w (by omega) h2
      have hq : (h * 18446744073709551616 + lo) / 10000 < 18446744073709551616 := by omega
      have hwv : whV hi lo = if (h * 18446744073709551616 + lo) % 10000 = 0 then some ⟨1, (((h * 18446744073709551616 + lo) / 10000 : Nat) : Int) - 9223372036854775808, ⟨#[]⟩⟩ else none := by
        unfold whV
        rw [show hi - 27768 = h by omega]
        by_cases e : (h * 18446744073709551616 + lo) % 10000 = 0
        · rw [if_pos ⟨hA, hB, e⟩, if_pos e]
        · rw [if_neg (fun x => e x.2.2), if_neg e]
      rw [hwv]
      generalize (h * 18446744073709551616 + lo) / 10000 = q at *
      generalize (h * 18446744073709551616 + lo) % 10000 = r at *
      have s0 : (hi : Int) - 27768 = (h : Int) := by omega
      have s1 : ¬ (10000 : Int) ≤ (h : Int) := by omega
      have s2 : h < 10000 := by omega
      have xb := xor_back q hq
      have R0 : Hid _ := Res.new w 0 0 ⟨#[]⟩
      have B0 : Hid (∀ o, Below w.heap.size w (w.alloc o)) := fun o => (Below.refl _ w).alloc (Nat.le_refl _) o
      clear hwv h2 hB hq hhi
      by_cases hr : r = 0
      · subst hr
        rw [if_pos rfl]
        go_enter Tryd.func45, Tryd.ntmps45
        go_wp2_with fail
        refine (DV.out _).mono ?_
        rintro e w1 ⟨rfl, hb1⟩
        have R1 := R0.out.below hb1
        have B1 := (B0.out _).trans (hb1.mono (B0.out _).size)
        obtain ⟨_, c0, c1, c2, f0, f1, f2⟩ := R1
        go_wp2_with fail
        refine bodyPost_ret (v := vopt (some ⟨1, (q : Int) - 9223372036854775808, ⟨#[]⟩⟩)) (by simp [results, Tryd.results45, go_sem, vopt, c0, c1, c2]) rfl ⟨rfl, ?_⟩
        exact ((B1.setCell (p := ⟨w.heap.size, 0, none⟩) (Nat.le_refl _) _).setCell (p := ⟨w.heap.size, 1, none⟩) (Nat.le_refl _) _).setCell (p := ⟨w.heap.size, 2, none⟩) (Nat.le_refl _) _
      · rw [if_neg hr]
        have hne : ((r : Int) != 0) = true := by rw [bne_iff_ne]; omega
        go_enter Tryd.func45, Tryd.ntmps45
        go_wp2_with fail
        refine (DV.out _).mono ?_
        rintro e w1 ⟨rfl, hb1⟩
        have R1 := R0.out.below hb1
        have B1 := (B0.out _).trans (hb1.mono (B0.out _).size)
        obtain ⟨_, c0, c1, c2, f0, f1, f2⟩ := R1
        go_wp2_with fail
        refine bodyPost_ret (v := vopt (none)) (by simp [results, Tryd.results45, go_sem, vopt, c0, c1, c2]) rfl ⟨rfl, ?_⟩
        exact ((B1.setCell (p := ⟨w.heap.size, 0, none⟩) (Nat.le_refl _) _).setCell (p := ⟨w.heap.size, 1, none⟩) (Nat.le_refl _) _).setCell (p := ⟨w.heap.size, 2, none⟩) (Nat.le_refl _) _
    · have e : whV hi lo = none := by unfold whV; rw [if_neg (by omega)]
      rw [e]
      have s1 : (10000 : Int) ≤ (hi : Int) - 27768 := by omega
      go_enter Tryd.func45, Tryd.ntmps45
      go_wp2_with fail
      refine bodyPost_ret (v := vopt none) (by simp [results, Tryd.results45, go_sem, vopt]) rfl ⟨rfl, (Below.refl _ w).alloc (Nat.le_refl _) _⟩
  · have e : whV hi lo = none := by unfold whV; rw [if_neg (by omega)]
    rw [e]
    have s0 : IntKind.u64.wrap ((hi : Int) - 27768) = (hi : Int) + 18446744073709523848 := by rw [IntKind.wrap_u64]; omega
    have s1 : (10000 : Int) ≤ (hi : Int) + 18446744073709523848 := by omega
    go_enter Tryd.func45, Tryd.ntmps45
    go_wp2_with fail
    refine bodyPost_ret (v := vopt none) (by simp [results, Tryd.results45, go_sem, vopt]) rfl ⟨rfl, (Below.refl _ w).alloc (Nat.le_refl _) _⟩
end Go.Proofs.YtjdnbgnjgicbbaaDoor
