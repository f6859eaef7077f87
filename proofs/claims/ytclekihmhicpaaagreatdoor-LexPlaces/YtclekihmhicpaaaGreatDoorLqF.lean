/-
  The walk of the statement LexPlaces.
-/
import Derived.Test.YtclekihmhicpaaaGreatDoorLqE
import Derived.Test.YtclekihmhicpaaaGreatDoorLxU
import Derived.BigQuiet
namespace Go.Proofs.YtclekihmhicpaaaGreatDoor
open Go.RowKit Go.Shelf

/-- bytes that came in -/
def byI (w : World) (p : Option Addr) (l : List UInt8) : Prop := l = [] ∨ ∃ g off, p = some ⟨g, off, none⟩ ∧ g < w.heap.size ∧ ∀ i x, l[i]? = some x → w.cell? ⟨g, off + i, none⟩ = some (.int .u8 (x.toNat : Int))
theorem byI.below {w w' : World} {p : Option Addr} {l : List UInt8} (h : byI w p l) (hb : Below w.heap.size w w') : byI w' p l := by
  rcases h with h | ⟨g, off, h1, h2, h3⟩
  · exact Or.inl h
  · exact Or.inr ⟨g, off, h1, Nat.lt_of_lt_of_le h2 hb.size, fun i x hx => (hb.cell (p := ⟨g, off + i, none⟩) h2).trans (h3 i x hx)⟩
/-- the answer of Tokens, opened -/
theorem TkA.open2 {t : Ts} {base : Nat} {e : Ending} {w : World} (h : TkA t base e w) : ∃ (p : Option Addr) (c : Nat) (L : List Tk), e = .returned (.tuple #[.slice p L.length c, .int .i64 t.pos, .int .i64 t.why]) ∧ tokIn w p L ∧ L.length ≤ c ∧ c ≤ 9223372036854775807 ∧ ((p = none ∧ L = [] ∧ c = 0) ∨ ∃ g, p = some ⟨g, 0, none⟩) ∧ (t.why = 0 → L = t.l) ∧ (t.why ≠ 0 → L = []) := by
  obtain ⟨v, rfl, ho⟩ := h
  obtain ⟨p, c, rfl, h1, h2, h3, h4⟩ := ho.read
  exact ⟨p, c, _, rfl, h1, h2, h3, h4, fun h => if_pos h, fun h => if_neg h⟩
set_option maxHeartbeats 4000000 in
set_option maxRecDepth 1000000 in
theorem LexPlaces_bad (s : List UInt8) (P : Option Addr) (C n : Nat) (w : World) (hW : LxW w) (he : (tks s).why ≠ 0) :
    Calls Tryz.prog 5 #[.string ⟨s.toArray⟩, .slice P n C] w fun e w' => e = .returned (.bool true) ∧ Below w.heap.size w w' := by
  have TA : Hid (∀ w, LxW w → Calls Tryz.prog 17 #[.string ⟨s.toArray⟩] w fun e w' => TkA (tks s) w.heap.size e w' ∧ Below w.heap.size w w') := fun w h => Tokens_any s w h
  have LV : Hid (∀ w, LxW w → Calls Tryz.prog 14 #[] w fun e w' => e = .returned (.bool true) ∧ Below w.heap.size w w') := lives_any
  have HW : Hid (LxW w) := hW
  have hzs : (ByteArray.mk s.toArray).size = s.length := size_mk s
  generalize tks s = ta at *
  obtain ⟨la, pa, ea⟩ := ta
  simp only at he
  have hb : (ea != 0) = true := by rw [bne_iff_ne]; exact he
  go_enter Tryz.func5, Tryz.ntmps5
  go_wp2_with fail
  refine (TA.out _ HW.out).mono ?_
  rintro e w1 ⟨ha, hb1⟩
  obtain ⟨p1, c1, X1, rfl, i1, j1, k1, q1, l1, m1⟩ := ha.open2
  have e1 := m1 he
  subst e1
  clear l1 m1 he ha
  go_wp2_with fail
  refine (LV.out _ (HW.out.below hb1)).mono ?_
  rintro e wz ⟨rfl, hbz⟩
  have BZ := hb1.trans (hbz.mono hb1.size)
  go_wp2_with fail
  go_ret
  exact ⟨rfl, BZ⟩
/-- tokens in a row, as they are read in a later world -/
theorem tokIn.row {w : World} {g : Nat} {L : List Tk} (h : tokIn w (some ⟨g, 0, none⟩) L) {w' : World} (hb : Below w.heap.size w w') : ∀ k t, L[k]? = some t → T8 w' g (k * 8) t := by
  intro k t ht
  rcases h.below hb with h | ⟨g', o', hp, h⟩
  · rw [h] at ht; simp at ht
  · cases hp
    have := h k t ht
    rwa [Nat.zero_add] at this
end Go.Proofs.YtclekihmhicpaaaGreatDoor
