/-
  The walks of locksteplaw02.own and lockstepref02.Same, where the seat has no more.
-/
import Derived.Test.YtjdnbgnjgicbbaaDoorBkG
import Derived.OwnWalk
import Derived.BigQuiet
import Derived.Deep.QuietTactic
namespace Go.Proofs.YtjdnbgnjgicbbaaDoor
open Go.RowKit Go.Shelf

/-- the cells of bytes that lie behind a place -/
theorem byIn.cells {w : World} {p : Option Addr} {l : List UInt8} (h : byIn w p l) : ∀ ad, p = some ad → ∀ j u, (by8 l)[j]? = some u → w.cell? (ad.add j) = some u := by
  intro ad had j u hj
  have hl := (List.getElem?_eq_some_iff.1 hj).1
  rw [by8_len] at hl
  rcases h with rfl | ⟨g, off, rfl, hg, hcs⟩
  · simp at hl
  · obtain rfl := Option.some.inj had
    have ea : (⟨g, off, none⟩ : Addr).add j = ⟨g, off + j, none⟩ := by simp only [Addr.add]; split <;> simp_all
    rw [ea, hcs j l[j] (List.getElem?_eq_getElem hl), ← hj, by8_get (List.getElem?_eq_getElem hl)]
theorem byIn.none_nil {w : World} {l : List UInt8} (h : byIn w none l) : l = [] := by
  rcases h with h | ⟨g, off, h, _⟩
  · exact h
  · cases h
theorem grown_below {a b : World} {base : Nat} {row : Option Nat} (h : a.grownBy b row) (hs : base ≤ a.heap.size) (hr : ∀ g, row = some g → base ≤ g) : Below base a b := below_own h hs hr

set_option maxHeartbeats 2000000 in
set_option maxRecDepth 1000000 in
theorem own_any (p : Option Addr) (c : Nat) (l : List UInt8) (w : World) (hp : byIn w p l) (hn : p = none → c = 0) (hl : l.length ≤ 10000000) :
    Calls Tryd.prog 5 #[.slice p l.length c] w fun e w' => ∃ v', e = .returned v' ∧ ownsB w' w.heap.size v' l ∧ Below w.heap.size w w' ∧ ∃ g cap, v' = .slice (some ⟨g, 0, none⟩) l.length cap := by
  obtain ⟨i0, hi, hz0, hz1, hz2⟩ := info_parts u8Info
  have HP : Hid (byIn w p l) := hp
  have HN : Hid (p = none → c = 0) := hn
  clear hp hn
  go_enter Tryd.func5, Tryd.ntmps5
  go_wp2_with (first | (at_make; refine wpList_make_own _ rfl (.const (.int .i64 0)) (.tmp 5) 24 rfl w.heap.size 5 i0 (.int .u8 0) 1 u8Slice hi hz0 hz1 .i64 .i64 ((l.length : Int) + 2) (l.length + 2) rfl rfl (by omega) (by rw [hz2]; omega) (by unfold maxLen; omega) (Nat.le_refl _) ?_; intro w1 ho1 hg1) | (at_builtin; refine wpList_append_fits_any _ rfl (.tmp 6) (.tmp 7) 24 rfl w.heap.size 5 i0 1 u8Slice hi hz1 w.heap.size 0 (l.length + 2) [] rfl ho1 p l.length c (by8 l) rfl (by rw [by8_len]; omega) (fun h => ⟨by have := HP.out; rw [h] at this; rw [this.none_nil]; rfl, HN.out h⟩) (HP.out.below (grown_below hg1 (Nat.le_refl _) (by intro g h; cases h))).cells (by8_one _) (by omega) ?_; intro w2 ho2 hg2))
  go_ret
  have b1 : Below w.heap.size w w1 := grown_below hg1 (Nat.le_refl _) (by intro g h; cases h)
  refine ⟨_, rfl, ?_, b1.trans (grown_below hg2 b1.size (by intro g h; cases h; exact Nat.le_refl _)), ⟨w.heap.size, l.length + 2, rfl⟩⟩
  rw [Nat.zero_add, List.nil_append] at ho2
  exact ho2

set_option maxHeartbeats 2000000 in
set_option maxRecDepth 1000000 in
theorem Same2_eq (a : Va) (w : World) :
    Calls Tryd.prog 11 #[.agg #[.int .i64 a.ty, .int .i64 a.n, .string a.s], .agg #[.int .i64 a.ty, .int .i64 a.n, .string a.s]] w fun e w' => e = .returned (.bool true) ∧ Below w.heap.size w w' := by
  go_enter Tryd.func11, Tryd.ntmps11
  go_wp2
  go_ret
  exact ⟨rfl, ((Below.refl _ w).alloc (Nat.le_refl _) _).alloc (by simp) _⟩
end Go.Proofs.YtjdnbgnjgicbbaaDoor
