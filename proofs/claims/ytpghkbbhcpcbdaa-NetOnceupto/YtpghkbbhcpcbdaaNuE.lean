/-
  Walks: a place among so many; bytes of one's own; a call of the program alone.
-/
import Derived.Test.YtpghkbbhcpcbdaaNtV
import Derived.Test.YtpghkbbhcpcbdaaNuD
namespace Go.Proofs.Ytpghkbbhcpcbdaa
open Go.RowKit Go.Maps Go.Joins
variable {P : Nat → Prop} {w w' : World} {n c : Nat} {S : St} {L : Ly}

set_option maxHeartbeats 1000000 in
set_option maxRecDepth 100000 in
theorem place_any (i : Int) (k : Nat) (hk : k ≤ 100000) : Calls Try.prog 12 #[.int .i64 i, .int .i64 k] w fun e w' => (∃ r : Int, e = .returned (.int .i64 r)) ∧ w' = w := by
  by_cases h0 : k = 0
  · subst h0
    go_enter Try.func12, Try.ntmps12
    go_wp2_with fail
    go_ret
    exact ⟨⟨_, rfl⟩, rfl⟩
  · have e5 : ((k : Int) == 0) = false := by rw [beq_eq_false_iff_ne]; omega
    have e6 : ¬ (k : Int) = 0 := by omega
    by_cases h1 : i.tmod (k : Int) < 0
    · go_enter Try.func12, Try.ntmps12
      go_wp2_with fail
      go_ret
      exact ⟨⟨_, rfl⟩, rfl⟩
    · go_enter Try.func12, Try.ntmps12
      go_wp2_with fail
      go_ret
      exact ⟨⟨_, rfl⟩, rfl⟩
def by8 (l : List UInt8) : List Value := l.map fun x => Value.int .u8 (x.toNat : Int)
theorem by8_len (l : List UInt8) : (by8 l).length = l.length := by simp [by8]
theorem by8_one (l : List UInt8) : ∀ u ∈ by8 l, u.oneCell' = true := by
  intro u hu; simp only [by8, List.mem_map] at hu; obtain ⟨x, _, rfl⟩ := hu; rfl
theorem by8_get {l : List UInt8} {i : Nat} {u : Value} (h : (by8 l)[i]? = some u) : ∃ x, l[i]? = some x ∧ u = .int .u8 (x.toNat : Int) := by
  simp only [by8, List.getElem?_map, Option.map_eq_some_iff] at h
  obtain ⟨x, h1, h2⟩ := h
  exact ⟨x, h1, h2.symm⟩
theorem u8Info : (Try.prog.info? 5).map (fun i => (i.zero, i.size, i.bytes)) = some (some (.int .u8 0), 1, 1) := by kernel_rfl
/-- bytes that came in: an empty slice may point anywhere -/
def byA (w : World) (p : Option Addr) (l : List UInt8) : Prop := l = [] ∨ ∃ g o, p = some ⟨g, o, none⟩ ∧ ∀ i x, l[i]? = some x → w.cell? ⟨g, o + i, none⟩ = some (.int .u8 (x.toNat : Int))
theorem byA.kept {p : Option Addr} {l : List UInt8} (h : byA w p l) (hg : w.grownBy w' none) : byA w' p l := by
  rcases h with h | ⟨g, o, e, h⟩
  · exact Or.inl h
  · refine Or.inr ⟨g, o, e, fun i x hx => ?_⟩
    have h1 := h i x hx
    have hlt := World.block_lt_of_cell? w _ h1
    have := hg.block g hlt (by simp)
    unfold World.cell? at h1 ⊢
    simp only at h1 this ⊢
    rw [this]; exact h1
theorem byA.cells {p : Option Addr} {l : List UInt8} (h : byA w p l) : ∀ ad, p = some ad → ∀ j u, (by8 l)[j]? = some u → w.cell? (ad.add j) = some u := by
  intro ad hd j u hj
  obtain ⟨x, hx, rfl⟩ := by8_get hj
  rcases h with h0 | ⟨g, o, e, h⟩
  · rw [h0] at hx; simp at hx
  · rw [e] at hd; cases hd
    rw [add_plain]; exact h j x hx
/-- what own answers -/
def OwQ (w : World) (l : List UInt8) (r : Ending) (w' : World) : Prop := ∃ g cap, r = .returned (.slice (some ⟨g, 0, none⟩) l.length cap) ∧ bys w' (some ⟨g, 0, none⟩) l ∧ w.heap.size ≤ g ∧ w.grownBy w' none
set_option maxHeartbeats 2000000 in
set_option maxRecDepth 1000000 in
theorem own_any (p : Option Addr) (c : Nat) (l : List UInt8) (w : World) (hp : byA w p l) (hn : p = none → l.length = 0 ∧ c = 0) (hl : l.length ≤ 10000000) :
    Calls Try.prog 15 #[.slice p l.length c] w (OwQ w l) := by
  obtain ⟨i0, hi, hz0, hz1, hz2⟩ := info_parts u8Info
  have HP := mkHid hp
  have HN := mkHid hn
  clear hp hn
  go_enter Try.func15, Try.ntmps15
  go_wp2_with (first | (at_make; refine wpList_make_own _ rfl (.const (.int .i64 0)) (.tmp 5) 27 rfl w.heap.size 5 i0 (.int .u8 0) 1 u8Slice hi hz0 hz1 .i64 .i64 ((l.length : Int) + 2) (l.length + 2) rfl rfl (by omega) (by rw [hz2]; omega) (by unfold maxLen; omega) (Nat.le_refl _) ?_; intro w1 ho1 hg1) | (at_builtin; refine wpList_append_fits_any _ rfl (.tmp 6) (.tmp 7) 27 rfl w.heap.size 5 i0 1 u8Slice hi hz1 w.heap.size 0 (l.length + 2) [] rfl ho1 p l.length c (by8 l) rfl (by rw [by8_len]; omega) (fun h => HN.out h) (HP.out.kept hg1).cells (by8_one _) (by omega) ?_; intro w2 ho2 hg2))
  go_ret
  rw [Nat.zero_add, List.nil_append] at ho2
  refine ⟨_, _, rfl, Or.inr ⟨_, 0, rfl, fun i x hx => ?_⟩, Nat.le_refl _, grown_new hg1 hg2 (fun g h => by cases h; exact Nat.le_refl _)⟩
  have hi := (List.getElem?_eq_some_iff.1 hx).1
  rw [Nat.zero_add]
  have := World.ownsRow.cellAt ho2 i (by omega)
  rw [this]
  simp [by8, hx]
end Go.Proofs.Ytpghkbbhcpcbdaa
