/-
  The walk of rowcode.Hash, and of rowcode.Value.
-/
import Derived.Test.YtjdnbgnjgicbbaaDoorRcG
import Derived.Test.YtjdnbgnjgicbbaaDoorHsA
namespace Go.Proofs.YtjdnbgnjgicbbaaDoor
open Go.RowKit Go.Shelf

theorem by8_get {l : List UInt8} {k : Nat} {x : UInt8} (h : l[k]? = some x) : (by8 l)[k]? = some (.int .u8 (x.toNat : Int)) := by simp [by8, h]
theorem ownsB.bI {w : World} {base : Nat} {v : Value} {l : List UInt8} (h : ownsB w base v l) : ∃ P C, v = .slice P l.length C ∧ bI w P l ∧ (P = none → C = 0) := by
  rcases h.2 with ⟨rfl, h0⟩ | ⟨g, cap, cur, rfl, hbg, _⟩
  · obtain rfl : l = [] := List.eq_nil_of_length_eq_zero h0
    exact ⟨none, 0, rfl, Or.inl ⟨rfl, rfl⟩, fun _ => rfl⟩
  · refine ⟨some ⟨g, 0, none⟩, cap, rfl, Or.inr ⟨g, 0, rfl, fun i x hx => ?_⟩, fun e => by cases e⟩
    have := World.ownsRow.cellAt h i (by have := (List.getElem?_eq_some_iff.1 hx).1; omega)
    rw [Nat.zero_add, this]; exact by8_get hx
theorem Hash_any (base : Nat) (v : Value) (l : List UInt8) (w : World) (h : ownsB w base v l) (hl : l.length ≤ 10000000) :
    Calls Tryd.prog 12 #[v] w fun e w' => e = .returned (.int .u64 (hashN l : Int)) ∧ w' = w := by
  obtain ⟨P, C, rfl, hb, hc⟩ := h.bI
  exact Hash_in P C l w hb hc (by omega)

set_option maxHeartbeats 2000000 in
set_option maxRecDepth 1000000 in
theorem Value_any (x : Va) (w : World) (hf : fit x.n) (hs : x.s.size ≤ 9223372036854775807) (hT : Tabs w) (h0 : x.chk = 0) :
    Calls Tryd.prog 6 #[.agg #[.int .i64 x.ty, .int .i64 x.n, .string x.s]] w fun e w' => ∃ v', e = .returned (.tuple #[v', .int .i64 0]) ∧ Below w.heap.size w w' ∧ ownsB w' w.heap.size v' (valB x) := by
  have CK : Hid (∀ w, Tabs w → Calls Tryd.prog 21 #[.agg #[.int .i64 x.ty, .int .i64 x.n, .string x.s]] w fun e w' => e = .returned (.int .i64 0) ∧ Below w.heap.size w w') := fun w h => h0 ▸ Check_any x.ty x.n x.s w hs h
  have AV : Hid (∀ w1, w.heap.size ≤ w1.heap.size → Calls Tryd.prog 22 #[.slice none 0 0, .agg #[.int .i64 x.ty, .int .i64 x.n, .string x.s]] w1 fun e w' => ∃ v', e = .returned v' ∧ ownsB w' w.heap.size v' (valB x) ∧ Below w.heap.size w1 w') := fun w1 h2 => appendValue_any w.heap.size (.slice none 0 0) [] x w1 (ownsB_nil _ _) h2 (by simp) hf h0
  have hT1 : Hid (∀ o, Tabs (w.alloc o)) := fun o => hT.below ((Below.refl _ _).alloc (Nat.le_refl _) o)
  have hB1 : Hid (∀ o, Below w.heap.size w (w.alloc o)) := fun o => (Below.refl _ w).alloc (Nat.le_refl _) o
  have hZ1 : Hid (∀ o, w.heap.size < (w.alloc o).heap.size) := fun o => by simp
  have hX1 : Hid ((w.alloc (.cells #[.int .i64 x.ty, .int .i64 x.n, .string x.s] 23)).cell? ⟨w.heap.size, 0, none⟩ = some (.int .i64 x.ty) ∧ (w.alloc (.cells #[.int .i64 x.ty, .int .i64 x.n, .string x.s] 23)).cell? ⟨w.heap.size, 1, none⟩ = some (.int .i64 x.n) ∧ (w.alloc (.cells #[.int .i64 x.ty, .int .i64 x.n, .string x.s] 23)).cell? ⟨w.heap.size, 2, none⟩ = some (.string x.s)) := by
    show _ ∧ _ ∧ _
    go_simp
  clear hf hs hT h0
  go_enter Tryd.func6, Tryd.ntmps6
  go_wp2_with fail
  refine (CK.out _ (hT1.out _)).mono ?_
  rintro e w1 ⟨rfl, hb1⟩
  obtain ⟨x0, x1, x2⟩ := hX1.out
  have y0 := (hb1.cell (p := ⟨w.heap.size, 0, none⟩) (hZ1.out _)).trans x0
  have y1 := (hb1.cell (p := ⟨w.heap.size, 1, none⟩) (hZ1.out _)).trans x1
  have y2 := (hb1.cell (p := ⟨w.heap.size, 2, none⟩) (hZ1.out _)).trans x2
  have b1 := (hB1.out _).trans (hb1.mono (hB1.out _).size)
  clear x0 x1 x2 hb1 hX1 hB1 hT1 CK
  go_wp2_with fail
  refine (AV.out _ b1.size).mono ?_
  rintro e w2 ⟨v2, rfl, ho2, hb2⟩
  clear y0 y1 y2
  go_wp2_with fail
  refine bodyPost_ret (v := .tuple #[v2, .int .i64 0]) (by simp [results, Tryd.results6, go_sem]) rfl ⟨_, rfl, b1.trans hb2, ho2⟩
end Go.Proofs.YtjdnbgnjgicbbaaDoor
