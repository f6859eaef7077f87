/-
  The walk of table.keptForm.
-/
import Derived.Test.YtecebjfcokmmkaaGreatDoorTfT
namespace Go.Proofs.YtecebjfcokmmkaaGreatDoor
open Go.RowKit Go.Shelf Go.Joins Go.Maps
set_option maxRecDepth 100000

theorem choose_list {α β : Type} : ∀ (l : List α) (p : Nat → α → β → Prop), (∀ i x, l[i]? = some x → ∃ y, p i x y) → ∃ m : List β, m.length = l.length ∧ ∀ i x, l[i]? = some x → ∃ y, m[i]? = some y ∧ p i x y
  | [], _, _ => ⟨[], rfl, fun i x h => by simp at h⟩
  | a :: l, p, h => by
    obtain ⟨y, hy⟩ := h 0 a rfl
    obtain ⟨m, hm, hp⟩ := choose_list l (fun i x y => p (i + 1) x y) (fun i x hx => h (i + 1) x (by simpa using hx))
    refine ⟨y :: m, by simp [hm], fun i x hx => ?_⟩
    cases i with
    | zero => simp at hx; subst hx; exact ⟨y, rfl, hy⟩
    | succ i => simp at hx; simpa using hp i x hx
/-- a form as it is told: one number for all that are no Part -/
def plT (t : Tb) : Tb := { t with pa := max t.pa (-1) }
/-- the keys as they lie there -/
theorem ky_rows {w : World} {Q : Option Addr} {l : List Ky} (h : kyIn w Q l) (h0 : l ≠ []) : ∃ (g o : Nat) (R : List Kr), Q = some ⟨g, o, none⟩ ∧ g < w.heap.size ∧ R.map (·.k) = l ∧ (∀ j u, (fl krE R)[j]? = some u → w.cell? ⟨g, o + j, none⟩ = some u) ∧ ∀ r ∈ R, inIn w r.p r.k.cs := by
  rcases h with h | ⟨g, o, rfl, hg, hcs⟩
  · exact absurd h h0
  obtain ⟨R, hR, hp⟩ := choose_list l (fun i k (r : Kr) => r.k = k ∧ w.cell? ⟨g, o + i * 3, none⟩ = some (.string k.nm) ∧ w.cell? ⟨g, o + i * 3 + 1, none⟩ = some (.slice r.p k.cs.length r.c) ∧ w.cell? ⟨g, o + i * 3 + 2, none⟩ = some (.bool k.uq) ∧ inIn w r.p k.cs) (fun i k hk => by
    obtain ⟨P, C, a, b, c, d, _⟩ := hcs i k hk
    exact ⟨⟨k, P, C⟩, rfl, a, b, c, d⟩)
  refine ⟨g, o, R, rfl, hg, ?_, ?_, ?_⟩
  · apply List.ext_getElem?
    intro i
    rw [List.getElem?_map]
    cases hi : l[i]? with
    | none =>
      rw [List.getElem?_eq_none (by rw [hR]; exact List.getElem?_eq_none_iff.1 hi)]; rfl
    | some k =>
      obtain ⟨r, hr, e, _⟩ := hp i k hi
      rw [hr, Option.map_some, e]
  · intro j u hj
    obtain ⟨r, hr, hu⟩ := fl_at krE_len (by decide) hj
    have hil : j / 3 < l.length := by rw [← hR]; exact (List.getElem?_eq_some_iff.1 hr).1
    obtain ⟨r', hr', e, a, b, c, _⟩ := hp (j / 3) _ (List.getElem?_eq_getElem hil)
    rw [hr] at hr'
    cases hr'
    rw [← e] at a b c
    have hm : j % 3 < 3 := Nat.mod_lt _ (by decide)
    have e3 : j / 3 * 3 + j % 3 = j := by omega
    rcases (show j % 3 = 0 ∨ j % 3 = 1 ∨ j % 3 = 2 by omega) with z | z | z <;> rw [z] at hu e3 <;> cases hu <;> rw [← e3, ← Nat.add_assoc] <;> assumption
  · intro r hr
    obtain ⟨i, hi, e⟩ := List.mem_iff_getElem.1 hr
    have hil : i < l.length := by rw [← hR]; exact hi
    obtain ⟨r', hr', e2, _, _, _, d⟩ := hp i _ (List.getElem?_eq_getElem hil)
    rw [List.getElem?_eq_getElem hi, e] at hr'
    cases hr'
    rw [← e2] at d; exact d
theorem shr.put {w : World} {e sz n cap g : Nat} {xs : List Value} (h : shr w e sz (.slice (some ⟨g, 0, none⟩) n cap) n xs) (j : Nat) (u : Value) : shr (w.setCell ⟨g, j, none⟩ u) e sz (.slice (some ⟨g, 0, none⟩) n cap) n (xs.set j u) := by
  refine ⟨by rw [List.length_set]; exact h.1, ?_⟩
  rcases h.2 with ⟨e1, _⟩ | ⟨g', off, cap', cur, e1, hg, hnc, hcm, hsz, hcs⟩
  · cases e1
  · cases e1
    refine Or.inr ⟨g, 0, cap, _, rfl, block_setCell hg u, hnc, hcm, ?_, fun i v hi => ?_⟩
    · rcases hsz with h | h
      · exact Or.inl h
      · exact Or.inr (by rw [Array.size_setIfInBounds]; exact h)
    · have hil := (List.getElem?_eq_some_iff.1 hi).1
      rw [List.length_set] at hil
      rw [List.getElem?_set] at hi
      rw [Nat.zero_add, Array.getElem?_setIfInBounds]
      by_cases e : j = i
      · subst e
        rw [if_pos rfl] at hi ⊢
        rw [if_pos hil] at hi
        have := hcs j _ (List.getElem?_eq_getElem hil)
        rw [Nat.zero_add] at this
        rw [if_pos (Array.getElem?_eq_some_iff.1 this).1]; exact hi
      · rw [if_neg e] at hi ⊢
        have := hcs i v hi
        rw [Nat.zero_add] at this; exact this
theorem fl_mid (L : List Kq) (r : Kr) (R : List Kr) (g c : Nat) : (fl kqE L ++ fl krE (r :: R)).set (L.length * 3 + 1) (.slice (some ⟨g, 0, none⟩) r.k.cs.length c) = fl kqE (L ++ [⟨r.k, g, c⟩]) ++ fl krE R := by
  have hl : (fl kqE L).length = L.length * 3 := fl_len kqE_len L
  rw [List.set_append_right _ _ (by omega), hl, Nat.add_sub_cancel_left, fl_app, List.append_assoc]
  rfl
/-- keys whose columns are copied one by one, k many -/
structure KJ (w4 wr : World) (gk ck k m : Nat) (L : List Kq) (R : List Kr) : Prop where
  row : shr wr 46 3 (.slice (some ⟨gk, 0, none⟩) m ck) m (fl kqE L ++ fl krE (R.drop k))
  hk : L.length = k
  hL : L.map (·.k) = (R.map (·.k)).take k
  ints : ∀ q ∈ L, shr wr 3 1 (.slice (some ⟨q.g, 0, none⟩) q.k.cs.length q.c) q.k.cs.length (fl inE q.k.cs)
  lo : ∀ q ∈ L, w4.heap.size ≤ q.g
  chg : Chg (fun i => i = gk) w4 wr
theorem KJ.start {w4 : World} {gk ck m : Nat} {R : List Kr} (h : shr w4 46 3 (.slice (some ⟨gk, 0, none⟩) m ck) m (fl krE R)) : KJ w4 w4 gk ck 0 m [] R := ⟨by simpa [fl] using h, rfl, by simp, (by intro q hq; cases hq), (by intro q hq; cases hq), Chg.refl _ _⟩
theorem KJ.next {w4 wr w5 : World} {gk ck k m : Nat} {L : List Kq} {R : List Kr} {r : Kr} {g c : Nat} (h : KJ w4 wr gk ck k m L R) (hr : R[k]? = some r) (hc : Chg (fun i => wr.heap.size ≤ i) wr w5) (hi : shr w5 3 1 (.slice (some ⟨g, 0, none⟩) r.k.cs.length c) r.k.cs.length (fl inE r.k.cs)) (hg : wr.heap.size ≤ g) :
    KJ w4 (w5.setCell ⟨gk, k * 3 + 1, none⟩ (.slice (some ⟨g, 0, none⟩) r.k.cs.length c)) gk ck (k + 1) m (L ++ [⟨r.k, g, c⟩]) R := by
  have hgk : gk < wr.heap.size := shr_lt h.row
  have c7 : Chg (fun i => i = gk) w5 (w5.setCell ⟨gk, k * 3 + 1, none⟩ (.slice (some ⟨g, 0, none⟩) r.k.cs.length c)) := Chg.of_cell w5 ⟨gk, k * 3 + 1, none⟩ _
  have hdrop : R.drop k = r :: R.drop (k + 1) := drop_at hr
  refine ⟨?_, by simp [h.hk], ?_, fun x hx => ?_, fun x hx => ?_, ?_⟩
  · have := (h.row.kept hc (fun g e => by cases e; show ¬ wr.heap.size ≤ gk; omega)).put (k * 3 + 1) (.slice (some ⟨g, 0, none⟩) r.k.cs.length c)
    rw [hdrop] at this
    have e := fl_mid L r (R.drop (k + 1)) g c
    rw [h.hk] at e
    rw [e] at this
    exact this
  · rw [List.map_append, h.hL, List.take_add_one, List.getElem?_map, hr]; rfl
  · rcases List.mem_append.1 hx with hx | hx
    · have hx1 := h.ints x hx
      have hlt := shr_lt hx1
      have hne := shr_ne hx1 h.row tyIK
      exact (hx1.kept hc (fun g e => by cases e; show ¬ wr.heap.size ≤ x.g; omega)).kept c7 (fun g e => by cases e; exact hne)
    · simp at hx; subst hx
      exact hi.kept c7 (fun g' e => by cases e; show ¬ g = gk; omega)
  · rcases List.mem_append.1 hx with hx | hx
    · exact h.lo x hx
    · simp at hx; subst hx
      exact Nat.le_trans h.chg.size hg
  · refine ⟨c7.os.trans (hc.os.trans h.chg.os), c7.tape.trans (hc.tape.trans h.chg.tape), c7.output.trans (hc.output.trans h.chg.output), Nat.le_trans h.chg.size (Nat.le_trans hc.size c7.size), fun i hi hn => ?_⟩
    have hir := Nat.lt_of_lt_of_le hi h.chg.size
    rw [c7.block i (Nat.lt_of_lt_of_le hir hc.size) hn, hc.block i hir (by omega), h.chg.block i hi hn]
end Go.Proofs.YtecebjfcokmmkaaGreatDoor
