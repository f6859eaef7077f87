/-
  A value as partitions look at it (wantedOf); Of and Weight.
-/
import Derived.Test.YtmhmcffejkpmjaaDoorRnA
import Derived.Test.YtmhmcffejkpmjaaDoorRcH
import Derived.Test.YtmhmcffejkpmjaaDoorRnM
namespace Go.Proofs.YtmhmcffejkpmjaaDoor
open Go.RowKit Go.Shelf Go.Joins
set_option maxRecDepth 1000000

theorem below_set {base : Nat} {w w' : World} (h : Below base w w') (a : Addr) (v : Value) (ha : base ≤ a.block) : Below base w (w'.setCell a v) :=
  ⟨h.os, h.tape, h.output, by simpa using h.size, fun k hk => (heap_setCell_other w' a k v (by omega)).trans (h.block k hk)⟩

set_option maxHeartbeats 2000000 in
theorem Value_bad (x : Va) (w : World) (hs : x.s.size ≤ 9223372036854775807) (hT : Tabs w) (h0 : ¬ x.chk = 0) :
    Calls Tryd.prog 27 #[.agg #[.int .i64 x.ty, .int .i64 x.n, .string x.s]] w fun e w' => e = .returned (.tuple #[.slice none 0 0, .int .i64 x.chk]) ∧ Below w.heap.size w w' := by
  have CK : Hid (∀ w, Tabs w → Calls Tryd.prog 39 #[.agg #[.int .i64 x.ty, .int .i64 x.n, .string x.s]] w fun e w' => e = .returned (.int .i64 x.chk) ∧ Below w.heap.size w w') := fun w h => Check_any x.ty x.n x.s w hs h
  have hT1 : Hid (∀ o, Tabs (w.alloc o)) := fun o => hT.below ((Below.refl _ _).alloc (Nat.le_refl _) o)
  have hB1 : Hid (∀ o, Below w.heap.size w (w.alloc o)) := fun o => (Below.refl _ w).alloc (Nat.le_refl _) o
  have h1 : (x.chk != 0) = true := by rw [bne_iff_ne]; exact h0
  clear hs hT
  go_enter Tryd.func27, Tryd.ntmps27
  go_wp2_with fail
  refine (CK.out _ (hT1.out _)).mono ?_
  rintro e w1 ⟨rfl, hb1⟩
  have b1 := (hB1.out _).trans (hb1.mono (hB1.out _).size)
  clear hb1 hB1 hT1 CK
  go_wp2_with fail
  refine bodyPost_ret (v := .tuple #[.slice none 0 0, .int .i64 x.chk]) (by simp [results, Tryd.results27, go_sem]) rfl ⟨rfl, b1⟩


/-- is it NULL; the hash of its bytes -/
def nulV (x : Va) : Bool := decide (x.ty = 0)
def sdV (x : Va) : Nat := hashN (valB x)
theorem sdV_lt (x : Va) : sdV x < 18446744073709551616 := hashN_lt _
/-- a value as cells, as partitions look at it -/
def wnV (x : Va) : Value := .agg #[.bool (nulV x), .int .u64 (sdV x : Int)]

set_option maxHeartbeats 2000000 in
theorem wantedOf_ok (x : Va) (w : World) (hf : fit x.n) (hs : x.s.size ≤ 9223372036854775807) (hT : Tabs w) (h0 : x.chk = 0) :
    Calls Tryd.prog 17 #[.agg #[.int .i64 x.ty, .int .i64 x.n, .string x.s]] w fun e w' => e = .returned (.tuple #[wnV x, .int .i64 0]) ∧ Below w.heap.size w w' := by
  have VA : Hid (∀ w1, Tabs w1 → Calls Tryd.prog 27 #[.agg #[.int .i64 x.ty, .int .i64 x.n, .string x.s]] w1 fun e w' => ∃ v', e = .returned (.tuple #[v', .int .i64 0]) ∧ Below w1.heap.size w1 w' ∧ ownsB w' w1.heap.size v' (valB x)) := fun w1 h1 => Value_any x w1 hf hs h1 h0
  have HA : Hid (∀ base v w1, ownsB w1 base v (valB x) → Calls Tryd.prog 28 #[v] w1 fun e w' => e = .returned (.int .u64 (sdV x : Int)) ∧ w' = w1) := fun base v w1 h => Hash_any base v (valB x) w1 h (by have := valB_len h0; omega)
  have hF : Hid (Tabs ((w.alloc (.cells #[.int .i64 x.ty, .int .i64 x.n, .string x.s] 23)).alloc (.cells #[.bool false, .int .u64 0] 46)) ∧ Below w.heap.size w ((w.alloc (.cells #[.int .i64 x.ty, .int .i64 x.n, .string x.s] 23)).alloc (.cells #[.bool false, .int .u64 0] 46)) ∧ ((w.alloc (.cells #[.int .i64 x.ty, .int .i64 x.n, .string x.s] 23)).alloc (.cells #[.bool false, .int .u64 0] 46)).heap.size = w.heap.size + 2 ∧ ((w.alloc (.cells #[.int .i64 x.ty, .int .i64 x.n, .string x.s] 23)).alloc (.cells #[.bool false, .int .u64 0] 46)).cell? ⟨w.heap.size, 0, none⟩ = some (.int .i64 x.ty) ∧ ((w.alloc (.cells #[.int .i64 x.ty, .int .i64 x.n, .string x.s] 23)).alloc (.cells #[.bool false, .int .u64 0] 46)).heap[w.heap.size + 1]? = some (.cells #[.bool false, .int .u64 0] 46 (0, 0))) := by
    have b0 : Below w.heap.size w ((w.alloc (.cells #[.int .i64 x.ty, .int .i64 x.n, .string x.s] 23)).alloc (.cells #[.bool false, .int .u64 0] 46)) := ((Below.refl _ w).alloc (Nat.le_refl _) _).alloc (by simp) _
    refine ⟨hT.below b0, b0, by simp, by go_simp, ?_⟩
    have := heap_alloc_new (w.alloc (.cells #[.int .i64 x.ty, .int .i64 x.n, .string x.s] 23)) (.cells #[.bool false, .int .u64 0] 46)
    simpa using this
  have hN : Hid (nulV x = decide (x.ty = 0)) := rfl
  rw [show wnV x = .agg #[.bool (nulV x), .int .u64 (sdV x : Int)] from rfl]
  generalize nulV x = NU at *
  generalize sdV x = SD at *
  clear hf hs hT h0
  go_enter Tryd.func17, Tryd.ntmps17
  go_wp2_with fail
  obtain ⟨w0, hw0⟩ : ∃ w0, w0 = ((w.alloc (.cells #[.int .i64 x.ty, .int .i64 x.n, .string x.s] 23)).alloc (.cells #[.bool false, .int .u64 0] 46)) := ⟨_, rfl⟩
  rw [← hw0] at hF ⊢
  clear hw0
  refine (VA.out _ hF.out.1).mono ?_
  rintro e w1 ⟨v1, rfl, hb1, ho⟩
  have y0 := (hb1.cell (p := ⟨w.heap.size, 0, none⟩) (by rw [hF.out.2.2.1]; simp)).trans hF.out.2.2.2.1
  have y1 : w1.heap[w.heap.size + 1]? = some (.cells #[.bool false, .int .u64 0] 46 (0, 0)) := (hb1.block _ (by rw [hF.out.2.2.1]; omega)).trans hF.out.2.2.2.2
  have b1 : Hid (Below w.heap.size w w1) := hF.out.2.1.trans (hb1.mono hF.out.2.1.size)
  have c0 : w1.cell? ⟨w.heap.size + 1, 0, none⟩ = some (.bool false) := (cell_of_block y1 0).trans rfl
  have c1 : w1.cell? ⟨w.heap.size + 1, 1, none⟩ = some (.int .u64 0) := (cell_of_block y1 1).trans rfl
  have f0 := unfrozen_of_block y1 0
  have f1 := unfrozen_of_block y1 1
  have hZ : Hid (w.heap.size ≤ w.heap.size + 1) := Nat.le_succ _
  have HO := mkH ho
  have HN := hN
  clear hb1 hF VA y1 ho hN
  go_wp2_with fail
  go_region_with ((go_at_call 28; refine (HA.out _ v1 _ (HO.out.below (below_drewN (Below.refl _ _) 1))).mono ?_; rintro e w2 ⟨rfl, rfl⟩))
  all_goals
    have hq : Hid ((x.ty == 0) = NU) := by
      show _ = _
      rw [HN.out]; rfl
    clear HN HA HO
    generalize (x.ty == 0) = NB at *
    go_wp2_with fail
    go_simp
    refine bodyPost_ret (v := .tuple #[.agg #[.bool NB, .int .u64 (SD : Int)], .int .i64 0]) (by simp [results, Tryd.results17, go_sem, c0, c1]) rfl ⟨by rw [hq.out], below_set (below_set (below_drewN b1.out 1) ⟨w.heap.size + 1, 0, none⟩ _ hZ.out) ⟨w.heap.size + 1, 1, none⟩ _ hZ.out⟩
end Go.Proofs.YtmhmcffejkpmjaaDoor
