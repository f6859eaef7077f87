/-
  rowcode.Value at any value; bytes of one's own that later worlds keep.
-/
import Derived.Test.YtbepbgfppekhbaaDoorRoE
namespace Go.Proofs.YtbepbgfppekhbaaDoor
open Go.RowKit Go.Shelf

set_option maxHeartbeats 2000000 in
set_option maxRecDepth 1000000 in
theorem Value_bad (x : Va) (w : World) (hs : x.s.size ≤ 9223372036854775807) (hT : Tabs w) (h0 : ¬ x.chk = 0) :
    Calls Tryd.prog 5 #[.agg #[.int .i64 x.ty, .int .i64 x.n, .string x.s]] w fun e w' => e = .returned (.tuple #[.slice none 0 0, .int .i64 x.chk]) ∧ Below w.heap.size w w' := by
  have CK : Hid (∀ w, Tabs w → Calls Tryd.prog 13 #[.agg #[.int .i64 x.ty, .int .i64 x.n, .string x.s]] w fun e w' => e = .returned (.int .i64 x.chk) ∧ Below w.heap.size w w') := fun w h => Check_any x.ty x.n x.s w hs h
  have hT1 : Hid (∀ o, Tabs (w.alloc o)) := fun o => hT.below ((Below.refl _ _).alloc (Nat.le_refl _) o)
  have hB1 : Hid (∀ o, Below w.heap.size w (w.alloc o)) := fun o => (Below.refl _ w).alloc (Nat.le_refl _) o
  have h1 : (x.chk != 0) = true := by rw [bne_iff_ne]; exact h0
  clear hs hT h0
  generalize x.chk = E at *
  go_enter Tryd.func5, Tryd.ntmps5
  go_wp2_with fail
  refine (CK.out _ (hT1.out _)).mono ?_
  rintro e w1 ⟨rfl, hb1⟩
  have b1 := (hB1.out _).trans (hb1.mono (hB1.out _).size)
  clear hb1 hB1 hT1 CK
  go_wp2_with fail
  refine bodyPost_ret (v := .tuple #[.slice none 0 0, .int .i64 E]) (by simp [results, Tryd.results5, go_sem]) rfl ⟨rfl, b1⟩
theorem Value_all (x : Va) (w : World) (hf : fit x.n) (hs : x.s.size ≤ 9223372036854775807) (hT : Tabs w) :
    Calls Tryd.prog 5 #[.agg #[.int .i64 x.ty, .int .i64 x.n, .string x.s]] w fun e w' => ∃ v', e = .returned (.tuple #[v', .int .i64 x.chk]) ∧ Below w.heap.size w w' ∧ (x.chk = 0 → ownsB w' w.heap.size v' (valB x)) := by
  by_cases h0 : x.chk = 0
  · refine (Value_any x w hf hs hT h0).mono ?_
    rintro e w' ⟨v', rfl, hb, ho⟩
    exact ⟨v', by rw [h0], hb, fun _ => ho⟩
  · refine (Value_bad x w hs hT h0).mono ?_
    rintro e w' ⟨rfl, hb⟩
    exact ⟨_, rfl, hb, fun h => absurd h h0⟩

/-- a slice of bytes that lie in a block of their own -/
structure Byt (w : World) (v : Value) (l : List UInt8) : Prop where
  ex : ∃ g cap, v = .slice (some ⟨g, 0, none⟩) l.length cap ∧ g < w.heap.size ∧ l.length ≤ cap ∧ at8 w g l
theorem Byt.of {w : World} {base : Nat} {v : Value} {l : List UInt8} (h : ownsB w base v l) (hl : l ≠ []) : Byt w v l := by
  have hf := h.form hl
  rcases h.2 with ⟨_, h0⟩ | ⟨g, cap, cur, rfl, hb, hcur, hx⟩
  · exact absurd (List.eq_nil_of_length_eq_zero h0) hl
  · obtain ⟨g', cap', e, hg, hc⟩ := hf
    simp only [Value.slice.injEq, Option.some.injEq, Addr.mk.injEq] at e
    obtain ⟨⟨rfl, _⟩, _, rfl⟩ := e
    refine ⟨g, cap, rfl, hg, ?_, hc⟩
    omega
theorem Byt.below {w w' : World} {v : Value} {l : List UInt8} (h : Byt w v l) (hb : Below w.heap.size w w') : Byt w' v l := by
  obtain ⟨g, cap, e, hg, hc, ha⟩ := h.ex
  exact ⟨g, cap, e, Nat.lt_of_lt_of_le hg hb.size, hc, fun k x hx => (hb.cell (p := ⟨g, k, none⟩) hg).trans (ha k x hx)⟩
theorem order_byt {va vb : Value} {la lb : List UInt8} {w : World} (ha : Byt w va la) (hb : Byt w vb lb) :
    Calls Tryd.prog 6 #[va, vb] w fun e w' => e = .returned (.int .i64 (Lib.compareBytes la lb)) ∧ w' = w := by
  obtain ⟨g, c, rfl, _, _, h1⟩ := ha.ex
  obtain ⟨h, d, rfl, _, _, h2⟩ := hb.ex
  exact order_at g h c d la lb w h1 h2
theorem begins_byt {va vb : Value} {la lb : List UInt8} {w : World} (ha : Byt w va la) (hb : Byt w vb lb) :
    Calls Tryd.prog 8 #[va, vb] w fun e w' => e = .returned (.bool (beg la lb)) ∧ Below w.heap.size w w' := by
  obtain ⟨g, c, rfl, _, _, h1⟩ := ha.ex
  obtain ⟨h, d, rfl, _, hd, h2⟩ := hb.ex
  exact begins_at g h c d la lb w h1 h2 hd
theorem valB_ne {a : Va} (h : a.chk = 0) : valB a ≠ [] := by
  obtain ⟨l, x, e, _⟩ := valB_head h
  rw [e]; simp
theorem rowB_ne (l : List Va) : rowB l ≠ [] := by simp [rowB]
theorem beg_same {a b : Va} (ha : a.chk = 0) (hb : b.chk = 0) (fa : fit a.n) (fb : fit b.n) : beg (valB a) (valB b) = (ordV a b == 0) := by
  unfold beg
  by_cases h : ordV a b = 0
  · have e := val_same ha hb fa fb h
    rw [e, h]; simp
  · have e : ¬ ((valB a).length ≤ (valB b).length ∧ (valB b).take (valB a).length = valB a) := by
      rintro ⟨_, h2⟩
      refine h (val_begins ha hb fa fb (t := (valB b).drop (valB a).length) ?_)
      conv => lhs; rw [← h2]
      rw [← h2] 
      simp
    simp [e, h]
end Go.Proofs.YtbepbgfppekhbaaDoor
