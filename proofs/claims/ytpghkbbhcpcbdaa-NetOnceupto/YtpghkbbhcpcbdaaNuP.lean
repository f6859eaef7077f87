/-
  Tables of numbers in memory: rows of rows.
-/
import Derived.Test.YtpghkbbhcpcbdaaNuO
namespace Go.Proofs.Ytpghkbbhcpcbdaa
open Go.RowKit Go.Maps Go.Joins
variable {P : Nat → Prop} {w w' : World} {n c : Nat} {S : St} {L : Ly}

theorem rwI : Rw 42 3 (.int .i64 0) 1 8 := ⟨by kernel_rfl, by kernel_rfl, rfl, by decide, by decide⟩
theorem rwII : Rw 40 42 (.slice none 0 0) 1 24 := ⟨by kernel_rfl, by kernel_rfl, rfl, by decide, by decide⟩
/-- a table of N rows of N numbers, of which the first k are there -/
structure MtI (Q : Nat → Prop) (w : World) (g N k : Nat) (hb : Nat → Nat) (f : Nat → Nat → Int) : Prop where
  qg : Q g
  at0 : ∃ cur : Array Value, w.heap[g]? = some (.cells cur 42 (0, 0)) ∧ cur.size = N ∧ ∀ i, i < k → cur[i]? = some (.slice (some ⟨hb i, 0, none⟩) N N)
  row : ∀ i, i < k → Q (hb i) ∧ ∃ r : Array Value, w.heap[hb i]? = some (.cells r 3 (0, 0)) ∧ r.size = N ∧ ∀ j, j < N → r[j]? = some (.int .i64 (f i j))
  dis : ∀ i j, i < k → j < k → i ≠ j → hb i ≠ hb j
theorem MtI.away {Q C : Nat → Prop} {g N k : Nat} {hb : Nat → Nat} {f : Nat → Nat → Int} (h : MtI Q w g N k hb f) (hc : Chg C w w') (hn : ∀ b, Q b → ¬ C b) : MtI Q w' g N k hb f := by
  obtain ⟨cur, h1, h2⟩ := h.at0
  refine ⟨h.qg, ⟨cur, hc.at_ h1 (hn _ h.qg), h2⟩, fun i hi => ?_, h.dis⟩
  obtain ⟨q, r, r1, r2⟩ := h.row i hi
  exact ⟨q, r, hc.at_ r1 (hn _ q), r2⟩
theorem MtI.kept {Q : Nat → Prop} {g N k : Nat} {hb : Nat → Nat} {f : Nat → Nat → Int} (h : MtI Q w g N k hb f) (hg : w.grownBy w' none) : MtI Q w' g N k hb f := h.away (Chg.of_none hg (fun _ => False)) (fun _ _ e => e)
theorem MtI.wide {Q Q' : Nat → Prop} {g N k : Nat} {hb : Nat → Nat} {f : Nat → Nat → Int} (h : MtI Q w g N k hb f) (hq : ∀ b, Q b → Q' b) : MtI Q' w g N k hb f :=
  ⟨hq _ h.qg, h.at0, fun i hi => ⟨hq _ (h.row i hi).1, (h.row i hi).2⟩, h.dis⟩
/-- what is read of it -/
theorem MtI.cell {Q : Nat → Prop} {g N k : Nat} {hb : Nat → Nat} {f : Nat → Nat → Int} (h : MtI Q w g N k hb f) {i j : Nat} (hi : i < k) (hj : j < N) : w.cell? ⟨g, i, none⟩ = some (.slice (some ⟨hb i, 0, none⟩) N N) ∧ w.cell? ⟨hb i, j, none⟩ = some (.int .i64 (f i j)) ∧ w.frozen? ⟨hb i, j, none⟩ = false ∧ g < w.heap.size ∧ hb i < w.heap.size := by
  obtain ⟨cur, h1, _, h3⟩ := h.at0
  obtain ⟨_, r, r1, _, r3⟩ := h.row i hi
  exact ⟨(cell_of_block h1 i).trans (h3 i hi), (cell_of_block r1 j).trans (r3 j hj), unfrozen_of_block r1 j, lt_of_heap h1, lt_of_heap r1⟩
/-- a number is written -/
theorem MtI.set {Q : Nat → Prop} {g N k : Nat} {hb : Nat → Nat} {f : Nat → Nat → Int} (h : MtI Q w g N k hb f) {i j : Nat} (hi : i < k) (v : Int) : MtI Q (w.setCell ⟨hb i, j, none⟩ (.int .i64 v)) g N k hb (upd2 f i j v) ∧ Chg (fun b => b = hb i) w (w.setCell ⟨hb i, j, none⟩ (.int .i64 v)) := by
  obtain ⟨cur, h1, h2, h3⟩ := h.at0
  obtain ⟨qi, r, r1, r2, r3⟩ := h.row i hi
  have CC := Chg.of_cell w ⟨hb i, j, none⟩ (.int .i64 v)
  have hne : g ≠ hb i := fun e => by rw [e, r1] at h1; simp at h1
  refine ⟨⟨h.qg, ⟨cur, CC.at_ h1 hne, h2, h3⟩, fun a ha => ?_, h.dis⟩, CC⟩
  by_cases e : a = i
  · subst e
    refine ⟨qi, r.setIfInBounds j (.int .i64 v), block_setCell r1 _, by simp [r2], fun b hb' => ?_⟩
    by_cases eb : b = j
    · rw [eb, upd2_same, Array.getElem?_setIfInBounds, if_pos rfl, if_pos (by omega)]
    · rw [upd2_other _ _ (fun e => eb e.2), Array.getElem?_setIfInBounds, if_neg (fun e => eb e.symm)]
      exact r3 b hb'
  · obtain ⟨qa, s, s1, s2, s3⟩ := h.row a ha
    refine ⟨qa, s, CC.at_ s1 (h.dis a i ha hi e), s2, fun b hb' => ?_⟩
    rw [upd2_other _ _ (fun e' => e e'.1)]
    exact s3 b hb'
/-- a row of zeros more -/
theorem MtI.more {Q : Nat → Prop} {g N k : Nat} {hb : Nat → Nat} (h : MtI Q w g N k hb (fun _ _ => 0)) (hk : k < N) (hN : N ≤ 1000) {w1 : World} {r : Array Value} (hr : w1.heap[w.heap.size]? = some (.cells r 3 (0, 0))) (hs : r.size = N * 1) (hz : ∀ j, j < N * 1 → r[j]? = (Value.int .i64 0).cells[j % 1]?) (g1 : w.grownBy w1 none) (hq : Q w.heap.size) :
    MtI Q (w1.setCell ⟨g, k, none⟩ (.slice (some ⟨w.heap.size, 0, none⟩) N N)) g N (k + 1) (upd hb k w.heap.size) (fun _ _ => 0) ∧ w1.cell? ⟨g, k, none⟩ ≠ none ∧ w1.frozen? ⟨g, k, none⟩ = false ∧ Chg (fun b => b = g) w (w1.setCell ⟨g, k, none⟩ (.slice (some ⟨w.heap.size, 0, none⟩) N N)) := by
  have h1 := h.kept g1
  obtain ⟨cur, c1, c2, c3⟩ := h1.at0
  obtain ⟨cu0, x0, _⟩ := h.at0
  have lg := lt_of_heap x0
  have CC := Chg.of_cell w1 ⟨g, k, none⟩ (.slice (some ⟨w.heap.size, 0, none⟩) N N)
  have := hN
  refine ⟨⟨h.qg, ⟨cur.setIfInBounds k (.slice (some ⟨w.heap.size, 0, none⟩) N N), block_setCell c1 _, by simp [c2], fun i hi => ?_⟩, fun i hi => ?_, fun i j hi hj hne => ?_⟩, ?_, unfrozen_of_block c1 k, (Chg.of_none g1 _).trans CC⟩
  · by_cases e : i = k
    · rw [e, upd_same, Array.getElem?_setIfInBounds, if_pos rfl, if_pos (by omega)]
    · rw [upd_other _ _ e, Array.getElem?_setIfInBounds, if_neg (fun e2 => e e2.symm)]
      exact c3 i (by omega)
  · by_cases e : i = k
    · rw [e, upd_same]
      refine ⟨hq, r, CC.at_ hr (fun e2 => ?_), by omega, fun j hj => ?_⟩
      · have e2 : w.heap.size = g := e2
        omega
      · rw [hz j (by omega), Nat.mod_one]; rfl
    · rw [upd_other _ _ e]
      obtain ⟨qa, s, s1, s2⟩ := h1.row i (by omega)
      refine ⟨qa, s, CC.at_ s1 (fun e2 => ?_), s2⟩
      have e2 : hb i = g := e2
      rw [e2, c1] at s1; simp at s1
  · have old : ∀ a, a < k → hb a < w.heap.size := fun a ha => by
      obtain ⟨_, s, s1, _⟩ := h.row a ha
      exact lt_of_heap s1
    by_cases e1 : i = k
    · have e2 : j ≠ k := fun e => hne (by omega)
      rw [e1, upd_same, upd_other _ _ e2]
      have := old j (by omega); omega
    · rw [upd_other _ _ e1]
      by_cases e2 : j = k
      · rw [e2, upd_same]
        have := old i (by omega); omega
      · rw [upd_other _ _ e2]; exact h.dis i j (by omega) (by omega) hne
  · rw [cell_of_block c1]
    show cur[k]? ≠ none
    rw [Array.getElem?_eq_getElem (by omega)]; simp
end Go.Proofs.Ytpghkbbhcpcbdaa
