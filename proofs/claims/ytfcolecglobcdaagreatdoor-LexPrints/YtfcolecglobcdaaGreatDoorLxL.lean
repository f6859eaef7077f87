/-
  The walk of scan.
-/
import Derived.Test.YtfcolecglobcdaaGreatDoorLxK
import Derived.Test.YtfcolecglobcdaaGreatDoorLxQ
namespace Go.Proofs.YtfcolecglobcdaaGreatDoor
open Go.RowKit Go.Shelf

theorem scn_end (f p a b : Nat) (r : List UInt8) (h : (rdP r).why = 0) (h6 : (rdP r).kind = 6) : scn (f + 1) p a b r = ⟨[⟨(rdP r).kind, (rdP r).text, (rdP r).v, p, a, b⟩], 0, 0⟩ := by
  rw [scn, if_neg (fun k => k h), if_pos h6, h6]
theorem behF_le : ∀ (f a b : Nat) (l : List UInt8), 1 ≤ b → (behF f a b l).1 ≤ a + f ∧ 1 ≤ (behF f a b l).2 ∧ (behF f a b l).2 ≤ b + f
  | 0, a, b, l, h => ⟨by simp [behF], by simpa [behF] using h, by simp [behF]⟩
  | f + 1, a, b, l, h => by
    by_cases h0 : l = []
    · rw [h0, behF_end]; exact ⟨by simp, h, by simp⟩
    · by_cases h1 : (Lib.decodeL l).1 = 10
      · rw [behF_nl h0 h1]
        have := behF_le f (a + 1) 1 (l.drop (Lib.decodeL l).2) (Nat.le_refl _)
        omega
      · rw [behF_other h0 h1]
        have := behF_le f a (b + 1) (l.drop (Lib.decodeL l).2) (by omega)
        omega
theorem beh_le (a b : Nat) (l : List UInt8) (h : 1 ≤ b) : (beh a b l).1 ≤ a + l.length ∧ 1 ≤ (beh a b l).2 ∧ (beh a b l).2 ≤ b + l.length := behF_le l.length a b l h
/-- a place's block -/
def HB (w : World) (g k a b : Nat) : Prop := w.heap[g]? = some (.cells #[.int .i64 (k : Nat), .int .i64 (a : Nat), .int .i64 (b : Nat)] 44 (0, 0))
theorem HB.r3 {w : World} {g k a b : Nat} (h : HB w g k a b) : R3 w g (.int .i64 (k : Nat)) (.int .i64 (a : Nat)) (.int .i64 (b : Nat)) :=
  ⟨lt_of_heap h, (Joins.cell_of_block h 0).trans rfl, (Joins.cell_of_block h 1).trans rfl, (Joins.cell_of_block h 2).trans rfl, Joins.unfrozen_of_block h 0, Joins.unfrozen_of_block h 1, Joins.unfrozen_of_block h 2⟩
theorem HB.below {w w' : World} {g k a b : Nat} (h : HB w g k a b) (hb : Below w.heap.size w w') : HB w' g k a b := (hb.block g (lt_of_heap h)).trans h
theorem HB.oth {w w' : World} {base g k a b : Nat} (h : HB w g k a b) (hb : Oth base w w') : HB w' g k a b := (hb.k g _ _ _ h (by decide) (by decide)).trans h
theorem HB.put {w : World} {g k a b : Nat} (h : HB w g k a b) (k' a' b' : Nat) : HB (R3.set w g (.int .i64 (k' : Nat)) (.int .i64 (a' : Nat)) (.int .i64 (b' : Nat))) g k' a' b' := by
  unfold R3.set HB
  have h1 := heap_setCell_same w g 0 _ 44 (.int .i64 (k' : Nat)) h
  have h2 := heap_setCell_same _ g 1 _ 44 (.int .i64 (a' : Nat)) h1
  have h3 := heap_setCell_same _ g 2 _ 44 (.int .i64 (b' : Nat)) h2
  simpa using h3
theorem set_other (w : World) (g k : Nat) (x y z : Value) (h : k ≠ g) : (R3.set w g x y z).heap[k]? = w.heap[k]? := by
  unfold R3.set
  rw [heap_setCell_other _ _ _ _ h, heap_setCell_other _ _ _ _ h, heap_setCell_other _ _ _ _ h]
theorem LB.set {w : World} {bL base : Nat} {l : List Tk} {g k a b : Nat} (h : LB w bL base l) (hH : HB w g k a b) (x y z : Value) : LB (R3.set w g x y z) bL base l := by
  obtain ⟨h1, h2, v, h3, h4⟩ := h
  have hne : bL ≠ g := by rintro rfl; rw [hH] at h3; cases h3
  have hs : (R3.set w g x y z).heap.size = w.heap.size := by unfold R3.set; simp
  refine ⟨h1, by rw [hs]; exact h2, v, by rw [set_other _ _ _ _ _ _ hne]; exact h3, ?_⟩
  refine World.ownsRow.kept h4 (row := some g) ⟨rfl, rfl, rfl, by rw [hs]; exact Nat.le_refl _, fun k hk hn => set_other _ _ _ _ _ _ (fun e => hn (by rw [e]))⟩ (Or.inr ?_)
  intro e
  obtain ⟨cs, hcs⟩ := ownT_kind h4 g e
  rw [hH] at hcs; cases hcs
/-- what stands in a round -/
structure Sc (w0 : World) (bL g gp k ln cl sz : Nat) (acc : List Tk) (w : World) : Prop where
  h : HB w g k ln cl
  p : w.cell? ⟨gp, 0, none⟩ = some (.int .i64 (sz : Nat))
  l : LB w bL w0.heap.size acc
  b : Below w0.heap.size w0 w
theorem Sc.next {w0 : World} {bL g gp k ln cl sz : Nat} {acc : List Tk} {w w' : World} (h : Sc w0 bL g gp k ln cl sz acc w) (hb : Below w.heap.size w w') : Sc w0 bL g gp k ln cl sz acc w' :=
  ⟨h.h.below hb, (hb.cell (p := ⟨gp, 0, none⟩) (World.block_lt_of_cell? w _ h.p)).trans h.p, h.l.below hb, h.b.trans (hb.mono h.b.size)⟩
theorem Sc.drew {w0 : World} {bL g gp k ln cl sz : Nat} {acc : List Tk} {w : World} (h : Sc w0 bL g gp k ln cl sz acc w) : Sc w0 bL g gp k ln cl sz acc w.drew := h.next (below_drewN (Below.refl _ w) 1)
def Left (l : List UInt8) (fuel k ln cl : Nat) (acc : List Tk) : Prop := acc ++ (scn fuel k ln cl (l.drop k)).l = (tks l).l ∧ (scn fuel k ln cl (l.drop k)).pos = (tks l).pos ∧ (scn fuel k ln cl (l.drop k)).why = (tks l).why
theorem Left.bad {l : List UInt8} {f k ln cl : Nat} {acc : List Tk} (h : Left l (f + 1) k ln cl acc) (h1 : (rdP (l.drop k)).why ≠ 0) : (tks l).l = acc ∧ (tks l).pos = k + (rdP (l.drop k)).ahead ∧ (tks l).why = (rdP (l.drop k)).why := by
  unfold Left at h
  rw [scn_bad f k ln cl _ h1] at h
  exact ⟨by rw [← h.1]; simp, h.2.1.symm, h.2.2.symm⟩
theorem Left.fin {l : List UInt8} {f k ln cl : Nat} {acc : List Tk} (h : Left l (f + 1) k ln cl acc) (h1 : (rdP (l.drop k)).why = 0) (h6 : (rdP (l.drop k)).kind = 6) : (tks l).l = acc ++ [⟨(rdP (l.drop k)).kind, (rdP (l.drop k)).text, (rdP (l.drop k)).v, k, ln, cl⟩] ∧ (tks l).pos = 0 ∧ (tks l).why = 0 := by
  unfold Left at h
  rw [scn_end f k ln cl _ h1 h6] at h
  exact ⟨h.1.symm, h.2.1.symm, h.2.2.symm⟩
theorem Left.skip {l : List UInt8} {f k ln cl : Nat} {acc : List Tk} (h : Left l (f + 1) k ln cl acc) (h1 : (rdP (l.drop k)).why = 0) (h0 : (rdP (l.drop k)).kind = 0) : Left l f (k + (rdP (l.drop k)).size) (beh ln cl ((l.drop k).take (rdP (l.drop k)).size)).1 (beh ln cl ((l.drop k).take (rdP (l.drop k)).size)).2 acc := by
  unfold Left at h ⊢
  rw [scn_skip f k ln cl _ h1 h0, List.drop_drop] at h
  exact h
theorem Left.tell {l : List UInt8} {f k ln cl : Nat} {acc : List Tk} (h : Left l (f + 1) k ln cl acc) (h1 : (rdP (l.drop k)).why = 0) (h0 : (rdP (l.drop k)).kind ≠ 0) (h6 : (rdP (l.drop k)).kind ≠ 6) : Left l f (k + (rdP (l.drop k)).size) (beh ln cl ((l.drop k).take (rdP (l.drop k)).size)).1 (beh ln cl ((l.drop k).take (rdP (l.drop k)).size)).2 (acc ++ [⟨(rdP (l.drop k)).kind, (rdP (l.drop k)).text, (rdP (l.drop k)).v, k, ln, cl⟩]) := by
  unfold Left at h ⊢
  rw [scn_tell f k ln cl _ h1 h0 h6, List.drop_drop] at h
  refine ⟨?_, h.2⟩
  rw [← h.1]
  simp [Ts.cons]
theorem badF_le : ∀ (f k : Nat) (l : List UInt8), badF f k l ≤ k + l.length ∧ -1 ≤ badF f k l
  | 0, k, l => by simp only [badF]; omega
  | f + 1, k, l => by
    rw [badF]
    split
    · omega
    · rename_i h
      split
      · omega
      · have h1 := badF_le f (k + (Lib.decodeL l).2) (l.drop (Lib.decodeL l).2)
        have h2 := Lib.decodeL_le l h
        rw [List.length_drop] at h1
        omega
theorem rdA_ahead (l : List UInt8) (k : Int) (t : List UInt8) (v : Va) (n : Nat) (h : l.length ≤ n) : (rdA l k t v).ahead ≤ n ∧ 0 ≤ (rdA l k t v).ahead := by
  unfold rdA
  split
  · rename_i hb
    have := badF_le l.length 0 l
    unfold badA at hb ⊢
    exact ⟨show badF l.length 0 l ≤ (n : Int) by omega, hb⟩
  · exact ⟨show (0 : Int) ≤ (n : Int) by omega, show (0 : Int) ≤ 0 by omega⟩
theorem rdP_ahead (l : List UInt8) (h : l.length ≤ 65536) : (rdP l).ahead ≤ 65536 ∧ -65536 ≤ (rdP l).ahead := by
  have kE : ∀ e : Int, (pcE e).ahead ≤ 65536 ∧ -65536 ≤ (pcE e).ahead := fun e => ⟨show (0 : Int) ≤ 65536 by decide, show (-65536 : Int) ≤ 0 by decide⟩
  have kT : ∀ (n : Nat) (k : Int) (t : List UInt8), (pcT n k t).ahead ≤ 65536 ∧ -65536 ≤ (pcT n k t).ahead := fun n k t => ⟨show (0 : Int) ≤ 65536 by decide, show (-65536 : Int) ≤ 0 by decide⟩
  have kA : ∀ (m : List UInt8) (k : Int) (t : List UInt8) (v : Va), m.length ≤ l.length → (rdA m k t v).ahead ≤ 65536 ∧ -65536 ≤ (rdA m k t v).ahead := fun m k t v hm => by
    have := rdA_ahead m k t v 65536 (by omega)
    omega
  rcases l with _ | ⟨x, r⟩
  · exact kT _ _ _
  rw [rdP_cons]
  split
  · exact kT _ _ _
  split
  · exact kA _ _ _ _ (cut_le _)
  split
  · unfold rdR; split
    · exact kE _
    · exact kA _ _ _ _ (by rw [List.length_take]; omega)
  split
  · unfold rdW; split
    · exact kE _
    · exact kT _ _ _
  split
  · unfold rdN; split
    · exact kE _
    · split
      · exact ⟨show (0 : Int) ≤ 65536 by decide, show (-65536 : Int) ≤ 0 by decide⟩
      · exact kE _
  split
  · unfold rdQ; split
    · exact kE _
    · split
      · exact kE _
      · exact kA _ _ _ _ (by rw [List.length_take]; omega)
  split
  · unfold rdT; split
    · exact kE _
    · split
      · exact kE _
      · exact kA _ _ _ _ (by rw [List.length_take]; omega)
  split
  · unfold rdM; split
    · exact kE _
    · exact kT _ _ _
  · unfold rdS; split
    · exact kE _
    · exact kT _ _ _
end Go.Proofs.YtfcolecglobcdaaGreatDoor
