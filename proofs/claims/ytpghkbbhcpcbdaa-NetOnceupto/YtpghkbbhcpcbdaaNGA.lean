/-
  Tables of lists of strings in memory.
-/
import Derived.Test.YtpghkbbhcpcbdaaNuU
namespace Go.Proofs.Ytpghkbbhcpcbdaa
open Go.RowKit Go.Maps Go.Joins
variable {P : Nat → Prop} {w w' : World} {n c : Nat} {S : St} {L : Ly}

theorem rwT : Rw 39 41 (.slice none 0 0) 1 24 := ⟨by kernel_rfl, by kernel_rfl, rfl, by decide, by decide⟩
theorem rwSS : Rw 41 49 (.slice none 0 0) 1 24 := ⟨by kernel_rfl, by kernel_rfl, rfl, by decide, by decide⟩
/-- a table of N rows of N lists of strings, of which the first k are there -/
structure MtS (Q : Nat → Prop) (w : World) (g N k : Nat) (hb : Nat → Nat) (rv : Nat → Nat → Value) (f : Nat → Nat → List ByteArray) : Prop where
  qg : Q g
  at0 : ∃ cur : Array Value, w.heap[g]? = some (.cells cur 41 (0, 0)) ∧ cur.size = N ∧ ∀ i, i < k → cur[i]? = some (.slice (some ⟨hb i, 0, none⟩) N N)
  row : ∀ i, i < k → Q (hb i) ∧ ∃ r : Array Value, w.heap[hb i]? = some (.cells r 49 (0, 0)) ∧ r.size = N ∧ ∀ j, j < N → r[j]? = some (rv i j)
  dis : ∀ i j, i < k → j < k → i ≠ j → hb i ≠ hb j
  str : ∀ i j, i < k → j < N → shr w 9 1 (rv i j) (f i j).length (usC (f i j)) ∧ ∀ b, (rv i j).ownBlock = some b → Q b
  sep : ∀ i j i' j' b, i < k → j < N → i' < k → j' < N → (rv i j).ownBlock = some b → (rv i' j').ownBlock = some b → i = i' ∧ j = j'
variable {Q Q' C : Nat → Prop} {g N k : Nat} {hb : Nat → Nat} {rv : Nat → Nat → Value} {f : Nat → Nat → List ByteArray}
theorem MtS.away (h : MtS Q w g N k hb rv f) (hc : Chg C w w') (hn : ∀ b, Q b → ¬ C b) : MtS Q w' g N k hb rv f := by
  obtain ⟨cur, h1, h2⟩ := h.at0
  refine ⟨h.qg, ⟨cur, hc.at_ h1 (hn _ h.qg), h2⟩, fun i hi => ?_, h.dis, fun i j hi hj => ?_, h.sep⟩
  · obtain ⟨q, r, r1, r2⟩ := h.row i hi
    exact ⟨q, r, hc.at_ r1 (hn _ q), r2⟩
  · obtain ⟨s1, s2⟩ := h.str i j hi hj
    exact ⟨s1.kept hc (fun b hb => hn b (s2 b hb)), s2⟩
theorem MtS.kept (h : MtS Q w g N k hb rv f) (hg : w.grownBy w' none) : MtS Q w' g N k hb rv f := h.away (Chg.of_none hg (fun _ => False)) (fun _ _ e => e)
theorem MtS.wide (h : MtS Q w g N k hb rv f) (hq : ∀ b, Q b → Q' b) : MtS Q' w g N k hb rv f :=
  ⟨hq _ h.qg, h.at0, fun i hi => ⟨hq _ (h.row i hi).1, (h.row i hi).2⟩, h.dis, fun i j hi hj => ⟨(h.str i j hi hj).1, fun b hb => hq b ((h.str i j hi hj).2 b hb)⟩, h.sep⟩
theorem MtS.cell (h : MtS Q w g N k hb rv f) {i j : Nat} (hi : i < k) (hj : j < N) : w.cell? ⟨g, i, none⟩ = some (.slice (some ⟨hb i, 0, none⟩) N N) ∧ w.cell? ⟨hb i, j, none⟩ = some (rv i j) ∧ w.frozen? ⟨hb i, j, none⟩ = false ∧ g < w.heap.size ∧ hb i < w.heap.size := by
  obtain ⟨cur, h1, _, h3⟩ := h.at0
  obtain ⟨_, r, r1, _, r3⟩ := h.row i hi
  exact ⟨(cell_of_block h1 i).trans (h3 i hi), (cell_of_block r1 j).trans (r3 j hj), unfrozen_of_block r1 j, lt_of_heap h1, lt_of_heap r1⟩
theorem MtS.kg (h : MtS Q w g N k hb rv f) : kd w g = 41 + 2 := by obtain ⟨cur, h1, _⟩ := h.at0; exact kd_cells h1
theorem MtS.kr (h : MtS Q w g N k hb rv f) {i : Nat} (hi : i < k) : kd w (hb i) = 49 + 2 := by obtain ⟨_, r, r1, _⟩ := h.row i hi; exact kd_cells r1
/-- a list is written anew -/
theorem MtS.put (h : MtS Q w g N k hb rv f) {i j : Nat} (hi : i < k) (hj : j < N) {w1 : World} (C1 : Chg (fun b => (rv i j).ownBlock = some b) w w1) {v : Value} {l : List ByteArray} (hv : shr w1 9 1 v l.length (usC l)) (hq : ∀ b, v.ownBlock = some b → Q' b ∧ ((rv i j).ownBlock = some b ∨ w.heap.size ≤ b)) (hQ : ∀ b, Q b → Q' b) :
    MtS Q' (w1.setCell ⟨hb i, j, none⟩ v) g N k hb (upd2 rv i j v) (upd2 f i j l) ∧ Chg (fun b => b = hb i ∨ (rv i j).ownBlock = some b) w (w1.setCell ⟨hb i, j, none⟩ v) := by
  have hkb : ∀ b, (rv i j).ownBlock = some b → kd w b = 9 + 2 := fun b e => ((h.str i j hi hj).1.kd b e).1
  obtain ⟨cur, h1, h2, h3⟩ := h.at0
  obtain ⟨qi, r, r1, r2, r3⟩ := h.row i hi
  have kr := h.kr hi
  have n1 : ∀ a, a < k → ¬ (rv i j).ownBlock = some (hb a) := fun a ha e => by
    have := hkb _ e
    rw [h.kr ha] at this; simp at this
  have n2 : ¬ (rv i j).ownBlock = some g := fun e => by
    have := hkb _ e
    rw [h.kg] at this; simp at this
  have ng : g ≠ hb i := fun e => by
    have := h.kg
    rw [e, kr] at this; simp at this
  have r1' := C1.at_ r1 (n1 i hi)
  have CS := Chg.of_cell w1 ⟨hb i, j, none⟩ v
  have kv : ∀ b, v.ownBlock = some b → b ≠ hb i := fun b e e2 => by
    have := (hv.kd b e).1
    rw [e2, kd_cells r1'] at this; simp at this
  refine ⟨⟨hQ _ h.qg, ⟨cur, CS.at_ (C1.at_ h1 n2) ng, h2, h3⟩, fun a ha => ?_, h.dis, fun a b ha hb' => ?_, fun a b a' b' x ha hb1 ha' hb1' e e' => ?_⟩, (C1.mono (fun b _ e => Or.inr e)).trans (CS.mono (fun b _ e => Or.inl e))⟩
  · by_cases e : a = i
    · subst e
      refine ⟨hQ _ qi, r.setIfInBounds j v, block_setCell r1' _, by simp [r2], fun b hb' => ?_⟩
      by_cases eb : b = j
      · rw [eb, upd2_same, Array.getElem?_setIfInBounds, if_pos rfl, if_pos (by omega)]
      · rw [upd2_other _ _ (fun e => eb e.2), Array.getElem?_setIfInBounds, if_neg (fun e => eb e.symm)]
        exact r3 b hb'
    · obtain ⟨qa, s, s1, s2, s3⟩ := h.row a ha
      refine ⟨hQ _ qa, s, CS.at_ (C1.at_ s1 (n1 a ha)) (h.dis a i ha hi e), s2, fun b hb' => ?_⟩
      rw [upd2_other _ _ (fun e' => e e'.1)]
      exact s3 b hb'
  · by_cases e : a = i ∧ b = j
    · obtain ⟨rfl, rfl⟩ := e
      rw [upd2_same, upd2_same]
      exact ⟨hv.kept CS kv, fun x hx => (hq x hx).1⟩
    · rw [upd2_other _ _ e, upd2_other _ _ e]
      obtain ⟨s1, s2⟩ := h.str a b ha hb'
      refine ⟨(s1.kept C1 (fun x hx hx2 => e (h.sep a b i j x ha hb' hi hj hx hx2))).kept CS (fun x hx hx2 => ?_), fun x hx => hQ x (s2 x hx)⟩
      have hx2 : x = hb i := hx2
      have := (s1.kd x hx).1
      rw [hx2, kr] at this; simp at this
  · have key : ∀ p q, p < k → q < N → ¬ (p = i ∧ q = j) → (rv p q).ownBlock = some x → v.ownBlock = some x → False := fun p q hp hq' hne o1 o2 => by
      rcases (hq x o2).2 with o3 | o3
      · exact hne (h.sep p q i j x hp hq' hi hj o1 o3)
      · have := ((h.str p q hp hq').1.kd x o1).2
        omega
    by_cases e1 : a = i ∧ b = j
    · by_cases e2 : a' = i ∧ b' = j
      · exact ⟨e1.1.trans e2.1.symm, e1.2.trans e2.2.symm⟩
      · obtain ⟨rfl, rfl⟩ := e1
        rw [upd2_same] at e
        rw [upd2_other _ _ e2] at e'
        exact (key _ _ ha' hb1' e2 e' e).elim
    · by_cases e2 : a' = i ∧ b' = j
      · obtain ⟨rfl, rfl⟩ := e2
        rw [upd2_same] at e'
        rw [upd2_other _ _ e1] at e
        exact (key _ _ ha hb1 e1 e e').elim
      · rw [upd2_other _ _ e1] at e
        rw [upd2_other _ _ e2] at e'
        exact h.sep a b a' b' x ha hb1 ha' hb1' e e'
/-- a list is taken away -/
theorem MtS.nil (h : MtS Q w g N k hb rv f) {i j : Nat} (hi : i < k) (hj : j < N) : MtS Q (w.setCell ⟨hb i, j, none⟩ (.slice none 0 0)) g N k hb (upd2 rv i j (.slice none 0 0)) (upd2 f i j []) ∧ Chg (fun b => b = hb i) w (w.setCell ⟨hb i, j, none⟩ (.slice none 0 0)) :=
  ⟨(h.put hi hj (Chg.refl _ w) (v := .slice none 0 0) (l := []) (shr_nil _ _ _) (fun b e => by simp [Value.ownBlock] at e) (fun _ e => e)).1, Chg.of_cell w ⟨hb i, j, none⟩ _⟩
/-- a string at a list's end, laid ahead -/
theorem MtS.app (h : MtS Q w g N k hb rv f) {i j : Nat} (hi : i < k) (hj : j < N) (x : ByteArray) (hl : (f i j).length ≤ 10000000) {W : World} (g0 : w.grownBy W none) {b : Nat} (hbx : W.heap[b]? = some (.cells #[.string x] 9 (0, 0))) :
    ∃ v' w', (∀ ty, (Builtin.append_ #[49, 49] ty #[rv i j, .slice (some ⟨b, 0, none⟩) 1 1]).run Try.prog W = .ok v' w') ∧ w'.cell? ⟨g, i, none⟩ = some (.slice (some ⟨hb i, 0, none⟩) N N) ∧ w'.cell? ⟨hb i, j, none⟩ = some (rv i j) ∧ w'.frozen? ⟨hb i, j, none⟩ = false ∧ (∃ p' c', v' = .slice p' ((f i j).length + 1) c') ∧ W.grownBy w' (rv i j).ownBlock ∧
      MtS (ext Q w (w'.setCell ⟨hb i, j, none⟩ v')) (w'.setCell ⟨hb i, j, none⟩ v') g N k hb (upd2 rv i j v') (upd2 f i j (f i j ++ [x])) ∧ Chg (fun y => y = hb i ∨ (rv i j).ownBlock = some y) w (w'.setCell ⟨hb i, j, none⟩ v') := by
  have h' := h.kept g0
  obtain ⟨v', w', hr, hs, hgr, hbl⟩ := rwS.app (c := 1) (h'.str i j hi hj).1 (m := 1) (news := [.string x]) (by simp) (one_of hbx) (by simp [Value.oneCell']) (by omega) (by omega)
  have hkb : ∀ b, (rv i j).ownBlock = some b → kd W b = 9 + 2 := fun b e => ((h'.str i j hi hj).1.kd b e).1
  obtain ⟨cur, h1, h2, h3⟩ := h'.at0
  obtain ⟨qi, r, r1, r2, r3⟩ := h'.row i hi
  have n1 : ¬ (rv i j).ownBlock = some (hb i) := fun e => by
    have := hkb _ e
    rw [h'.kr hi] at this; simp at this
  have n2 : ¬ (rv i j).ownBlock = some g := fun e => by
    have := hkb _ e
    rw [h'.kg] at this; simp at this
  have r1' := (hgr.block _ (lt_of_heap r1) (fun e => n1 e.symm)).trans r1
  have h1' := (hgr.block _ (lt_of_heap h1) (fun e => n2 e.symm)).trans h1
  obtain ⟨p', c', hf, _⟩ := hs.form
  have sz : w'.heap.size ≤ (w'.setCell ⟨hb i, j, none⟩ v').heap.size := by simp
  obtain ⟨m1, m2⟩ := h'.put hi hj (Q' := ext Q w (w'.setCell ⟨hb i, j, none⟩ v')) ((Chg.of_grown hgr)) (v := v') (l := f i j ++ [x]) (by
    rw [usC_app, List.length_append]; exact hs) (fun y hy => by
    rcases hbl with e | ⟨g', e, e1, e2⟩
    · have hy2 : (rv i j).ownBlock = some y := by rw [← e]; exact hy
      exact ⟨Or.inl ((h.str i j hi hj).2 y hy2), Or.inl hy2⟩
    · rw [hy] at e; cases e
      exact ⟨Or.inr ⟨Nat.le_trans g0.size e1, Nat.lt_of_lt_of_le e2 sz⟩, Or.inr e1⟩) (fun _ e => Or.inl e)
  exact ⟨v', w', hr, (cell_of_block h1' i).trans (h3 i hi), (cell_of_block r1' j).trans (r3 j hj), unfrozen_of_block r1' j, ⟨p', c', hf⟩, hgr, m1, (Chg.of_none g0 _).trans m2⟩
end Go.Proofs.Ytpghkbbhcpcbdaa
namespace Go.Proofs.Ytpghkbbhcpcbdaa
open Go.RowKit Go.Maps Go.Joins
variable {P : Nat → Prop} {w w' : World} {n c : Nat} {S : St} {L : Ly}

theorem step_make (t : TypeId) {ops : Array Oper} {o : Oper} {a : Act} {w : World} {K : Act → World → Prop} {Q : Exit → Act → World → Prop} {E : Prop} (hgd : o.guard = none) (l c : Operand) (ho : o.op = .makeSlice t l c)
    {v y v' : Value} {w' : World} (hs : a.eval l = v) (hx : a.eval c = y) (hr : (Instr.makeSlice t v y).run Try.prog w = .ok v' w') (h : K (a.put o.dst v') w') : if Region.wanted o (yielded ops a.tmps) = true then Oper.wp Try.prog o a w K Q else E := by
  have hwd : Region.wanted o (yielded ops a.tmps) = true := by simp [Region.wanted, hgd]
  rw [if_pos hwd]
  unfold Oper.wp
  simp [execOp, ho, hs, hx, hr, Result.andThen]
  exact h
variable {Q Q' C : Nat → Prop} {g N k : Nat} {hb : Nat → Nat} {rv : Nat → Nat → Value} {f : Nat → Nat → List ByteArray}
theorem MtI.later (h : MtI Q w g N k hb (fun _ _ => 0)) (hk : k < N) {w1 : World} {a : Nat} {r : Array Value} (hC : Chg C w w1) (hn : ∀ b, Q b → ¬ C b) (ha : w.heap.size ≤ a) (hr : w1.heap[a]? = some (.cells r 3 (0, 0))) (hs : r.size = N * 1) (hz : ∀ j, j < N * 1 → r[j]? = (Value.int .i64 0).cells[j % 1]?) (hQ : ∀ b, Q b → Q' b) (hq : Q' a) :
    MtI Q' (w1.setCell ⟨g, k, none⟩ (.slice (some ⟨a, 0, none⟩) N N)) g N (k + 1) (upd hb k a) (fun _ _ => 0) ∧ (∃ u, w1.cell? ⟨g, k, none⟩ = some u) ∧ w1.frozen? ⟨g, k, none⟩ = false := by
  have h1 := h.away hC hn
  obtain ⟨cur, c1, c2, c3⟩ := h1.at0
  obtain ⟨cu0, x0, _⟩ := h.at0
  have lg := lt_of_heap x0
  have CC := Chg.of_cell w1 ⟨g, k, none⟩ (.slice (some ⟨a, 0, none⟩) N N)
  refine ⟨⟨hQ _ h.qg, ⟨cur.setIfInBounds k (.slice (some ⟨a, 0, none⟩) N N), block_setCell c1 _, by simp [c2], fun i hi => ?_⟩, fun i hi => ?_, fun i j hi hj hne => ?_⟩, ?_, unfrozen_of_block c1 k⟩
  · by_cases e : i = k
    · rw [e, upd_same, Array.getElem?_setIfInBounds, if_pos rfl, if_pos (by omega)]
    · rw [upd_other _ _ e, Array.getElem?_setIfInBounds, if_neg (fun e2 => e e2.symm)]
      exact c3 i (by omega)
  · by_cases e : i = k
    · rw [e, upd_same]
      refine ⟨hq, r, CC.at_ hr (fun e2 => ?_), by omega, fun j hj => ?_⟩
      · have e2 : a = g := e2
        omega
      · rw [hz j (by omega), Nat.mod_one]; rfl
    · rw [upd_other _ _ e]
      obtain ⟨qa, s, s1, s2⟩ := h1.row i (by omega)
      refine ⟨hQ _ qa, s, CC.at_ s1 (fun e2 => ?_), s2⟩
      have e2 : hb i = g := e2
      rw [e2, c1] at s1; simp at s1
  · have old : ∀ a, a < k → hb a < w.heap.size := fun a ha => by
      obtain ⟨_, s, s1, _⟩ := h.row a ha
      exact lt_of_heap s1
    by_cases e1 : i = k
    · have e2 : j ≠ k := fun e => hne (by omega)
      rw [e1, upd_same, upd_other _ _ e2]
      have := old j (by omega); omega
    · rw [upd_other _ _ e1]
      by_cases e2 : j = k
      · rw [e2, upd_same]
        have := old i (by omega); omega
      · rw [upd_other _ _ e2]; exact h.dis i j (by omega) (by omega) hne
  · rw [cell_of_block c1]
    exact ⟨_, Array.getElem?_eq_getElem (show k < cur.size by omega)⟩
def nlV : Value := .slice none 0 0
theorem MtS.later (h : MtS Q w g N k hb (fun _ _ => nlV) (fun _ _ => [])) (hk : k < N) {w1 : World} {a : Nat} {r : Array Value} (hC : Chg C w w1) (hn : ∀ b, Q b → ¬ C b) (ha : w.heap.size ≤ a) (hr : w1.heap[a]? = some (.cells r 49 (0, 0))) (hs : r.size = N * 1) (hz : ∀ j, j < N * 1 → r[j]? = (Value.slice none 0 0).cells[j % 1]?) (hQ : ∀ b, Q b → Q' b) (hq : Q' a) :
    MtS Q' (w1.setCell ⟨g, k, none⟩ (.slice (some ⟨a, 0, none⟩) N N)) g N (k + 1) (upd hb k a) (fun _ _ => nlV) (fun _ _ => []) ∧ (∃ u, w1.cell? ⟨g, k, none⟩ = some u) ∧ w1.frozen? ⟨g, k, none⟩ = false := by
  have h1 := h.away hC hn
  obtain ⟨cur, c1, c2, c3⟩ := h1.at0
  obtain ⟨cu0, x0, _⟩ := h.at0
  have lg := lt_of_heap x0
  have CC := Chg.of_cell w1 ⟨g, k, none⟩ (.slice (some ⟨a, 0, none⟩) N N)
  refine ⟨⟨hQ _ h.qg, ⟨cur.setIfInBounds k (.slice (some ⟨a, 0, none⟩) N N), block_setCell c1 _, by simp [c2], fun i hi => ?_⟩, fun i hi => ?_, fun i j hi hj hne => ?_, fun i j hi hj => ⟨shr_nil _ _ _, fun b e => by simp [nlV, Value.ownBlock] at e⟩, fun i j i' j' b _ _ _ _ e => by simp [nlV, Value.ownBlock] at e⟩, ?_, unfrozen_of_block c1 k⟩
  · by_cases e : i = k
    · rw [e, upd_same, Array.getElem?_setIfInBounds, if_pos rfl, if_pos (by omega)]
    · rw [upd_other _ _ e, Array.getElem?_setIfInBounds, if_neg (fun e2 => e e2.symm)]
      exact c3 i (by omega)
  · by_cases e : i = k
    · rw [e, upd_same]
      refine ⟨hq, r, CC.at_ hr (fun e2 => ?_), by omega, fun j hj => ?_⟩
      · have e2 : a = g := e2
        omega
      · rw [hz j (by omega), Nat.mod_one]; rfl
    · rw [upd_other _ _ e]
      obtain ⟨qa, s, s1, s2⟩ := h1.row i (by omega)
      refine ⟨hQ _ qa, s, CC.at_ s1 (fun e2 => ?_), s2⟩
      have e2 : hb i = g := e2
      rw [e2, c1] at s1; simp at s1
  · have old : ∀ a, a < k → hb a < w.heap.size := fun a ha => by
      obtain ⟨_, s, s1, _⟩ := h.row a ha
      exact lt_of_heap s1
    by_cases e1 : i = k
    · have e2 : j ≠ k := fun e => hne (by omega)
      rw [e1, upd_same, upd_other _ _ e2]
      have := old j (by omega); omega
    · rw [upd_other _ _ e1]
      by_cases e2 : j = k
      · rw [e2, upd_same]
        have := old i (by omega); omega
      · rw [upd_other _ _ e2]; exact h.dis i j (by omega) (by omega) hne
  · rw [cell_of_block c1]
    exact ⟨_, Array.getElem?_eq_getElem (show k < cur.size by omega)⟩
/-- the net, the pair, and the tables of what was sent and received, of which the first k rows are there; own tells whose a block is -/
structure LwA (w0 : World) (N n d pr gs gg k : Nat) (own : Nat → Nat) (L : Ly) (hs hg : Nat → Nat) (wr : World) : Prop where
  gr : w0.grownBy wr none
  lo : ∀ b, own b ≠ 0 → w0.heap.size ≤ b ∧ b < wr.heap.size
  net : NetL (fun b => own b = 1) wr n 0 (st0 N) L
  pr : wr.heap[pr]? = some (.cells #[.pointer (some ⟨n, 0, none⟩), .pointer (some ⟨d, 0, none⟩)] 33 (0, 0)) ∧ own pr = 5
  ts : MtS (fun b => own b = 2) wr gs N k hs (fun _ _ => nlV) (fun _ _ => [])
  tg : MtI (fun b => own b = 3) wr gg N k hg (fun _ _ => 0)
def LwX (w0 : World) (N n d pr gs gg k : Nat) (wr : World) : Prop := ∃ own L hs hg, LwA w0 N n d pr gs gg k own L hs hg wr
theorem LwX.start {w0 w1 w2 : World} {N n d pr gs gg : Nat} {L : Ly} {c1 c2 : Array Value} (hp : w1.heap[pr]? = some (.cells #[.pointer (some ⟨n, 0, none⟩), .pointer (some ⟨d, 0, none⟩)] 33 (0, 0))) (hlo : w0.heap.size ≤ pr) (hN : NetL (fun i => w0.heap.size ≤ i ∧ i < pr) w1 n 0 (st0 N) L) (g1 : w0.grownBy w1 none) (g2 : w1.grownBy w2 none)
    (s1 : w2.heap[gs]? = some (.cells c1 41 (0, 0))) (z1 : c1.size = N * 1) (l1 : w1.heap.size ≤ gs) (s2 : w2.heap[gg]? = some (.cells c2 42 (0, 0))) (z2 : c2.size = N * 1) (l2 : w1.heap.size ≤ gg) : LwX w0 N n d pr gs gg 0 w2 := by
  have lp := lt_of_heap hp
  have hne : gs ≠ gg := fun e => by rw [e, s2] at s1; simp at s1
  have hl1 := lt_of_heap s1
  have hl2 := lt_of_heap s2
  have sz := g1.size
  have sz2 := g2.size
  refine ⟨fun b => if b = gs then 2 else if b = gg then 3 else if b = pr then 5 else if w0.heap.size ≤ b ∧ b < pr then 1 else 0, L, fun _ => 0, fun _ => 0, grown_none_trans g1 g2, fun b hb => ?_, (hN.kept g2).more (fun i hi => ?_) (fun i hi => ?_), ⟨(g2.block _ lp (by simp)).trans hp, ?_⟩, ⟨by simp, ⟨c1, s1, by omega, fun i hi => by omega⟩, fun i hi => by omega, fun i j hi => by omega, fun i j hi => by omega, fun i j _ _ _ hi => by omega⟩, ⟨by simp [hne.symm], ⟨c2, s2, by omega, fun i hi => by omega⟩, fun i hi => by omega, fun i j hi => by omega⟩⟩
  · revert hb
    split
    · intro _; omega
    · split
      · intro _; omega
      · split
        · intro _; omega
        · split
          · intro _; omega
          · intro h; exact absurd rfl h
  · rw [if_neg (by omega), if_neg (by omega), if_neg (by omega), if_pos hi]
  · revert hi
    split
    · intro _; omega
    · split
      · intro _; omega
      · split
        · intro _; omega
        · split
          · intro _; omega
          · intro h; omega
  · rw [if_neg (by omega), if_neg (by omega)]; exact if_pos rfl
def own2 (own : Nat → Nat) (a b : Nat) : Nat → Nat := fun x => if x = a then 2 else if x = b then 3 else own x
theorem LwA.next2 {w0 w5 wr : World} {N n d pr gs gg k a b : Nat} {own : Nat → Nat} {hs hg : Nat → Nat} {rb : Array Value} (H : LwA w0 N n d pr gs gg k own L hs hg wr) (hk : k < N) (ha : wr.heap.size ≤ a) (hb : wr.heap.size ≤ b) (hne : a ≠ b) (C1 : Chg (fun x => x = gs) wr w5) (la : a < w5.heap.size) (m1 : MtS (fun x => own2 own a b x = 2) w5 gs N (k + 1) (upd hs k a) (fun _ _ => nlV) (fun _ _ => []))
    (sb : w5.heap[b]? = some (.cells rb 3 (0, 0))) (zb : rb.size = N * 1) (yb : ∀ j, j < N * 1 → rb[j]? = (Value.int .i64 0).cells[j % 1]?) :
    (∃ u, w5.cell? ⟨gg, k, none⟩ = some u) ∧ w5.frozen? ⟨gg, k, none⟩ = false ∧ LwX w0 N n d pr gs gg (k + 1) (w5.setCell ⟨gg, k, none⟩ (.slice (some ⟨b, 0, none⟩) N N)) := by
  have lb := lt_of_heap sb
  have lo := H.lo
  have sz := C1.size
  have szw := H.gr.size
  have oe : ∀ x v, v ≠ 0 → own x = v → own2 own a b x = v := fun x v hv hx => by
    have := (lo x (by omega)).2
    unfold own2
    rw [if_neg (by omega), if_neg (by omega)]; exact hx
  have qs := H.ts.qg
  have qg := H.tg.qg
  obtain ⟨p1, p2, p3⟩ := H.tg.later (Q' := fun x => own2 own a b x = 3) (C := fun x => x = gs) hk C1 (fun x hx e => by
      have hx : own x = 3 := hx
      have e : x = gs := e
      rw [e, qs] at hx; cases hx) hb sb zb yb (fun x hx => oe x 3 (by decide) hx) (show (if b = a then 2 else if b = b then 3 else own b) = 3 by rw [if_neg (fun e => hne e.symm), if_pos rfl])
  have C2 := Chg.of_cell w5 ⟨gg, k, none⟩ (.slice (some ⟨b, 0, none⟩) N N)
  have CC : Chg (fun x => x = gs ∨ x = gg) wr (w5.setCell ⟨gg, k, none⟩ (.slice (some ⟨b, 0, none⟩) N N)) := (C1.mono (fun _ _ e => Or.inl e)).trans (C2.mono (fun _ _ e => Or.inr e))
  have lgg := lo gg (by rw [qg]; decide)
  have lgs := lo gs (by rw [qs]; decide)
  refine ⟨p2, p3, own2 own a b, L, _, _, ⟨CC.os.trans H.gr.os, CC.tape.trans H.gr.tape, CC.output.trans H.gr.output, Nat.le_trans H.gr.size CC.size, fun x hx hn => (CC.block x (Nat.lt_of_lt_of_le hx H.gr.size) (fun e => by rcases e with e | e <;> omega)).trans (H.gr.block x hx hn)⟩, fun x hx => ?_, (H.net.away CC (fun x hx e => ?_)).more (fun x hx => oe x 1 (by decide) hx) (fun x hx => ?_), ⟨CC.at_ H.pr.1 (fun e => ?_), oe _ 5 (by decide) H.pr.2⟩, m1.away C2 (fun x hx e => ?_), p1⟩
  · rw [World.size_setCell]
    have hx : (if x = a then 2 else if x = b then 3 else own x) ≠ 0 := hx
    by_cases e1 : x = a
    · omega
    · by_cases e2 : x = b
      · omega
      · rw [if_neg e1, if_neg e2] at hx
        have := lo x hx
        omega
  · have hx : own x = 1 := hx
    rcases e with e | e
    · rw [e, qs] at hx; cases hx
    · rw [e, qg] at hx; cases hx
  · rw [World.size_setCell]
    have hx : (if x = a then 2 else if x = b then 3 else own x) = 1 := hx
    by_cases e1 : x = a
    · omega
    · by_cases e2 : x = b
      · omega
      · rw [if_neg e1, if_neg e2] at hx
        have := lo x (by omega)
        omega
  · have h5 := H.pr.2
    rcases e with e | e
    · rw [e, qs] at h5; cases h5
    · rw [e, qg] at h5; cases h5
  · have hx : own2 own a b x = 2 := hx
    have e : x = gg := e
    rw [e, oe gg 3 (by decide) qg] at hx; cases hx
theorem LwX.next {w0 w3 w5 wr : World} {N n d pr gs gg k a b : Nat} {ra rb : Array Value} (h : LwX w0 N n d pr gs gg k wr) (hk : k < N) (g3 : wr.grownBy w3 none) (ha : wr.heap.size ≤ a) (hb : wr.heap.size ≤ b) (hne : a ≠ b)
    (sa : w3.heap[a]? = some (.cells ra 49 (0, 0))) (za : ra.size = N * 1) (ya : ∀ j, j < N * 1 → ra[j]? = (Value.slice none 0 0).cells[j % 1]?) (g5 : (w3.setCell ⟨gs, k, none⟩ (.slice (some ⟨a, 0, none⟩) N N)).grownBy w5 none) (sb : w5.heap[b]? = some (.cells rb 3 (0, 0))) (zb : rb.size = N * 1) (yb : ∀ j, j < N * 1 → rb[j]? = (Value.int .i64 0).cells[j % 1]?) :
    (∃ u, w3.cell? ⟨gs, k, none⟩ = some u) ∧ w3.frozen? ⟨gs, k, none⟩ = false ∧ (∃ u, w5.cell? ⟨gg, k, none⟩ = some u) ∧ w5.frozen? ⟨gg, k, none⟩ = false ∧
    LwX w0 N n d pr gs gg (k + 1) (w5.setCell ⟨gg, k, none⟩ (.slice (some ⟨b, 0, none⟩) N N)) ∧ gs < wr.heap.size := by
  obtain ⟨own, L, hs, hg, H⟩ := h
  have la := lt_of_heap sa
  have lo := H.lo
  have oe : ∀ x, own x = 2 → own2 own a b x = 2 := fun x hx => by
    have := (lo x (by omega)).2
    unfold own2
    rw [if_neg (by omega), if_neg (by omega)]; exact hx
  obtain ⟨m1, m2, m3⟩ := H.ts.later (Q' := fun x => own2 own a b x = 2) (C := fun _ => False) hk (Chg.of_none g3 _) (fun _ _ e => e) ha sa za ya (fun x hx => oe x hx) (show (if a = a then 2 else if a = b then 3 else own a) = 2 from if_pos rfl)
  have C1 : Chg (fun x => x = gs) wr w5 := ((Chg.of_none g3 _).trans (Chg.of_cell w3 ⟨gs, k, none⟩ _)).trans (Chg.of_none g5 _)
  have sz5 := g5.size
  rw [World.size_setCell] at sz5
  obtain ⟨p2, p3, X⟩ := H.next2 hk ha hb hne C1 (by omega) (m1.kept g5) sb zb yb
  have q2 : own gs = 2 := H.ts.qg
  exact ⟨m2, m3, p2, p3, X, (lo gs (by omega)).2⟩
end Go.Proofs.Ytpghkbbhcpcbdaa
namespace Go.Proofs.Ytpghkbbhcpcbdaa
open Go.RowKit Go.Maps Go.Joins
variable {P : Nat → Prop} {w w' : World} {n c : Nat} {S : St} {L : Ly}

/-- with the first ko rows of the third table -/
def LwB (w0 : World) (N n d pr gs gg go ko : Nat) (wr : World) : Prop := ∃ own L hs hg ho, LwA w0 N n d pr gs gg N own L hs hg wr ∧ MtI (fun b => own b = 4) wr go N ko ho (fun _ _ => 0)
theorem LwA.wide {w0 w3 wr : World} {N n d pr gs gg k a v : Nat} {own : Nat → Nat} {hs hg : Nat → Nat} (H : LwA w0 N n d pr gs gg k own L hs hg wr) (g3 : wr.grownBy w3 none) (ha : wr.heap.size ≤ a) (la : a < w3.heap.size) : LwA w0 N n d pr gs gg k (fun x => if x = a then v + 4 else own x) L hs hg w3 := by
  have lo := H.lo
  have szw := H.gr.size
  have sz := g3.size
  have oe : ∀ x v', v' ≠ 0 → own x = v' → (if x = a then v + 4 else own x) = v' := fun x v' hv hx => by
    have := (lo x (by omega)).2
    rw [if_neg (by omega)]; exact hx
  refine ⟨grown_none_trans H.gr g3, fun x hx => ?_, (H.net.kept g3).more (fun x hx => oe x 1 (by decide) hx) (fun x hx => ?_), ⟨(g3.block _ (lt_of_heap H.pr.1) (by simp)).trans H.pr.1, oe _ 5 (by decide) H.pr.2⟩, (H.ts.kept g3).wide (fun x hx => oe x 2 (by decide) hx), (H.tg.kept g3).wide (fun x hx => oe x 3 (by decide) hx)⟩
  · by_cases e1 : x = a
    · omega
    · rw [if_neg e1] at hx
      have := lo x hx
      omega
  · by_cases e1 : x = a
    · omega
    · rw [if_neg e1] at hx
      have := lo x (by omega)
      omega
theorem LwA.away {w0 wr w1 : World} {N n d pr gs gg k : Nat} {own : Nat → Nat} {hs hg : Nat → Nat} (H : LwA w0 N n d pr gs gg k own L hs hg wr) {C : Nat → Prop} (hC : Chg C wr w1) (h4 : ∀ x, C x → own x = 4) : LwA w0 N n d pr gs gg k own L hs hg w1 := by
  have lo := H.lo
  have sz := hC.size
  refine ⟨⟨hC.os.trans H.gr.os, hC.tape.trans H.gr.tape, hC.output.trans H.gr.output, Nat.le_trans H.gr.size hC.size, fun x hx hn => (hC.block x (Nat.lt_of_lt_of_le hx H.gr.size) (fun e => by have := (lo x (by rw [h4 x e]; decide)).1; omega)).trans (H.gr.block x hx hn)⟩, fun x hx => ?_, H.net.away hC (fun x hx e => ?_), ⟨hC.at_ H.pr.1 (fun e => ?_), H.pr.2⟩, H.ts.away hC (fun x hx e => ?_), H.tg.away hC (fun x hx e => ?_)⟩
  · have := lo x hx
    omega
  · have hx : own x = 1 := hx
    rw [h4 x e] at hx; cases hx
  · have hx := H.pr.2
    rw [h4 _ e] at hx; cases hx
  · have hx : own x = 2 := hx
    rw [h4 x e] at hx; cases hx
  · have hx : own x = 3 := hx
    rw [h4 x e] at hx; cases hx
theorem LwB.start {w0 w3 wr : World} {N n d pr gs gg go : Nat} {cu : Array Value} (h : LwX w0 N n d pr gs gg N wr) (g3 : wr.grownBy w3 none) (ha : wr.heap.size ≤ go) (s : w3.heap[go]? = some (.cells cu 42 (0, 0))) (z : cu.size = N * 1) : LwB w0 N n d pr gs gg go 0 w3 := by
  obtain ⟨own, L, hs, hg, H⟩ := h
  exact ⟨_, L, hs, hg, fun _ => 0, H.wide (v := 0) g3 ha (lt_of_heap s), ⟨if_pos rfl, ⟨cu, s, by omega, fun i hi => by omega⟩, fun i hi => by omega, fun i j hi => by omega⟩⟩
theorem LwB.next {w0 w3 wr : World} {N n d pr gs gg go k a : Nat} {ra : Array Value} (h : LwB w0 N n d pr gs gg go k wr) (hk : k < N) (g3 : wr.grownBy w3 none) (ha : wr.heap.size ≤ a)
    (sa : w3.heap[a]? = some (.cells ra 3 (0, 0))) (za : ra.size = N * 1) (ya : ∀ j, j < N * 1 → ra[j]? = (Value.int .i64 0).cells[j % 1]?) :
    (∃ u, w3.cell? ⟨go, k, none⟩ = some u) ∧ w3.frozen? ⟨go, k, none⟩ = false ∧ LwB w0 N n d pr gs gg go (k + 1) (w3.setCell ⟨go, k, none⟩ (.slice (some ⟨a, 0, none⟩) N N)) := by
  obtain ⟨own, L, hs, hg, ho, H, M⟩ := h
  have la := lt_of_heap sa
  have lo := H.lo
  obtain ⟨m1, m2, m3⟩ := M.later (Q' := fun x => (if x = a then 0 + 4 else own x) = 4) (C := fun _ => False) hk (Chg.of_none g3 _) (fun _ _ e => e) ha sa za ya (fun x hx => by
    have hx : own x = 4 := hx
    have := (lo x (by omega)).2
    rw [if_neg (by omega)]; exact hx) (if_pos rfl)
  have q4 : own go = 4 := M.qg
  refine ⟨m2, m3, _, L, hs, hg, _, (H.wide (v := 0) g3 ha la).away (Chg.of_cell w3 ⟨go, k, none⟩ _) (fun x e => ?_), m1⟩
  have e : x = go := e
  have := (lo go (by omega)).2
  rw [e, if_neg (by omega)]; exact q4
/-- the law's state behind i acts -/
structure LwF (w0 : World) (N n d pr gs gg go i : Nat) (own : Nat → Nat) (S : St) (T : Nat → Nat → List ByteArray) (G O : Nat → Nat → Nat) (c : Nat) (L : Ly) (hs : Nat → Nat) (rv : Nat → Nat → Value) (hg ho : Nat → Nat) (wr : World) : Prop where
  gr : w0.grownBy wr none
  lo : ∀ b, own b ≠ 0 → w0.heap.size ≤ b ∧ b < wr.heap.size
  net : NetL (fun b => own b = 1) wr n c S L
  pr : wr.heap[pr]? = some (.cells #[.pointer (some ⟨n, 0, none⟩), .pointer (some ⟨d, 0, none⟩)] 33 (0, 0)) ∧ own pr = 5
  ts : MtS (fun b => own b = 2) wr gs N N hs rv T
  tg : MtI (fun b => own b = 3) wr gg N N hg (fun a b => (G a b : Int))
  tO : MtI (fun b => own b = 4) wr go N N ho (fun a b => (O a b : Int))
  hN : S.N = N
  inv : Inv S T G O
  ok : OkS S i
  hc : c ≤ 130 * i
  tl : ∀ a b, (T a b).length ≤ i ∧ G a b ≤ i ∧ O a b ≤ i
  fb : S.fl.length ≤ 4096
def LwY (w0 : World) (N n d pr gs gg go i : Nat) (wr : World) : Prop := ∃ own S T G O c L hs rv hg ho, LwF w0 N n d pr gs gg go i own S T G O c L hs rv hg ho wr
theorem LwB.done {w0 wr : World} {N n d pr gs gg go : Nat} (h : LwB w0 N n d pr gs gg go N wr) : LwY w0 N n d pr gs gg go 0 wr := by
  obtain ⟨own, L, hs, hg, ho, H, M⟩ := h
  exact ⟨own, st0 N, _, fun _ _ => 0, fun _ _ => 0, 0, L, hs, _, hg, ho, H.gr, H.lo, H.net, H.pr, H.ts, H.tg, M, rfl, Inv.begin N, OkS.begin N, Nat.le_refl _, fun _ _ => ⟨Nat.le_refl _, Nat.le_refl _, Nat.le_refl _⟩, Nat.zero_le _⟩
theorem LwF.kept {w0 wr w1 : World} {N n d pr gs gg go i c : Nat} {own : Nat → Nat} {T : Nat → Nat → List ByteArray} {G O : Nat → Nat → Nat} {hs hg ho : Nat → Nat} {rv : Nat → Nat → Value} (H : LwF w0 N n d pr gs gg go i own S T G O c L hs rv hg ho wr) (g : wr.grownBy w1 none) : LwF w0 N n d pr gs gg go i own S T G O c L hs rv hg ho w1 :=
  ⟨grown_none_trans H.gr g, fun b hb => ⟨(H.lo b hb).1, Nat.lt_of_lt_of_le (H.lo b hb).2 g.size⟩, H.net.kept g, ⟨(g.block _ (lt_of_heap H.pr.1) (by simp)).trans H.pr.1, H.pr.2⟩, H.ts.kept g, H.tg.kept g, H.tO.kept g, H.hN, H.inv, H.ok, H.hc, H.tl, H.fb⟩
/-- the net's own blocks and the new ones -/
def ownN (own : Nat → Nat) (w w' : World) : Nat → Nat := fun b => if w.heap.size ≤ b ∧ b < w'.heap.size then 1 else own b
theorem LwF.call {w0 wr w1 : World} {N n d pr gs gg go i c c2 : Nat} {own : Nat → Nat} {S2 : St} {T : Nat → Nat → List ByteArray} {G O : Nat → Nat → Nat} {hs hg ho : Nat → Nat} {rv : Nat → Nat → Value} (H : LwF w0 N n d pr gs gg go i own S T G O c L hs rv hg ho wr) (U : UpN (fun b => own b = 1) wr n c2 S2 w1) :
    w0.grownBy w1 none ∧ (∀ b, ownN own wr w1 b ≠ 0 → w0.heap.size ≤ b ∧ b < w1.heap.size) ∧ (∃ L2, NetL (fun b => ownN own wr w1 b = 1) w1 n c2 S2 L2) ∧ (w1.heap[pr]? = some (.cells #[.pointer (some ⟨n, 0, none⟩), .pointer (some ⟨d, 0, none⟩)] 33 (0, 0)) ∧ ownN own wr w1 pr = 5) ∧ MtS (fun b => ownN own wr w1 b = 2) w1 gs N N hs rv T ∧ MtI (fun b => ownN own wr w1 b = 3) w1 gg N N hg (fun a b => (G a b : Int)) ∧ MtI (fun b => ownN own wr w1 b = 4) w1 go N N ho (fun a b => (O a b : Int)) := by
  obtain ⟨L2, h2, C⟩ := U
  have lo := H.lo
  have sz := C.size
  have szw := H.gr.size
  have oe : ∀ x v', v' ≠ 0 → own x = v' → ownN own wr w1 x = v' := fun x v' hv hx => by
    have := (lo x (by omega)).2
    unfold ownN
    rw [if_neg (by omega)]; exact hx
  refine ⟨⟨C.os.trans H.gr.os, C.tape.trans H.gr.tape, C.output.trans H.gr.output, Nat.le_trans H.gr.size C.size, fun x hx hn => (C.block x (Nat.lt_of_lt_of_le hx H.gr.size) (fun e => by have := (lo x (by rw [show own x = 1 from e]; decide)).1; omega)).trans (H.gr.block x hx hn)⟩, fun x hx => ?_, ⟨L2, h2.more (fun x hx => ?_) (fun x hx => ?_)⟩, ⟨C.at_ H.pr.1 (fun e => ?_), oe _ 5 (by decide) H.pr.2⟩, (H.ts.away C (fun x hx e => ?_)).wide (fun x hx => oe x 2 (by decide) hx), (H.tg.away C (fun x hx e => ?_)).wide (fun x hx => oe x 3 (by decide) hx), (H.tO.away C (fun x hx e => ?_)).wide (fun x hx => oe x 4 (by decide) hx)⟩
  · unfold ownN at hx
    by_cases e1 : wr.heap.size ≤ x ∧ x < w1.heap.size
    · omega
    · rw [if_neg e1] at hx
      have := lo x hx
      omega
  · rcases hx with e | e
    · exact oe x 1 (by decide) e
    · unfold ownN; exact if_pos e
  · have hx : ownN own wr w1 x = 1 := hx
    unfold ownN at hx
    by_cases e1 : wr.heap.size ≤ x ∧ x < w1.heap.size
    · omega
    · rw [if_neg e1] at hx
      have := lo x (by omega)
      omega
  · have h5 := H.pr.2
    have e : own pr = 1 := e
    omega
  · have hx : own x = 2 := hx
    have e : own x = 1 := e
    omega
  · have hx : own x = 3 := hx
    have e : own x = 1 := e
    omega
  · have hx : own x = 4 := hx
    have e : own x = 1 := e
    omega
/-- a call that leaves the tables right -/
theorem LwF.same {w0 wr w1 : World} {N n d pr gs gg go i c c2 : Nat} {own : Nat → Nat} {S2 : St} {T : Nat → Nat → List ByteArray} {G O : Nat → Nat → Nat} {hs hg ho : Nat → Nat} {rv : Nat → Nat → Value} (H : LwF w0 N n d pr gs gg go i own S T G O c L hs rv hg ho wr) (U : UpN (fun b => own b = 1) wr n c2 S2 w1) (hN : S2.N = N) (ok : OkS S2 (i + 1)) (hc : c2 ≤ 130 * (i + 1)) (inv : Inv S2 T G O) (fb : S2.fl.length ≤ 4096) : LwY w0 N n d pr gs gg go (i + 1) w1 := by
  obtain ⟨h1, h2, ⟨L2, h3⟩, h4, h5, h6, h7⟩ := H.call U
  exact ⟨_, S2, T, G, O, c2, L2, hs, rv, hg, ho, h1, h2, h3, h4, h5, h6, h7, hN, inv, ok, hc, fun a b => ⟨Nat.le_succ_of_le (H.tl a b).1, Nat.le_succ_of_le (H.tl a b).2.1, Nat.le_succ_of_le (H.tl a b).2.2⟩, fb⟩
end Go.Proofs.Ytpghkbbhcpcbdaa
namespace Go.Proofs.Ytpghkbbhcpcbdaa
open Go.RowKit Go.Maps Go.Joins
variable {P : Nat → Prop} {w w' : World} {n c : Nat} {S : St} {L : Ly}

/-- acts in memory -/
def nacs (w : World) (p : Option Addr) (l : List Ac) : Prop := l = [] ∨ ∃ g o, p = some ⟨g, o, none⟩ ∧ ∀ i x, l[i]? = some x → (∀ j u, x.cells[j]? = some u → w.cell? ⟨g, o + i * 6 + j, none⟩ = some u) ∧ byA w x.p x.b ∧ (x.p = none → x.b.length = 0 ∧ x.q = 0) ∧ x.b.length ≤ 10000000
set_option maxHeartbeats 4000000 in
set_option maxRecDepth 100000 in
theorem NetOnce_bad (N : Int) (va : Value) (w : World) (h : N < 1 ∨ 64 < N) : Calls Try.prog 4 #[.int .i64 N, va] w fun e w' => e = .returned (.bool true) ∧ w.grownBy w' none := by
  have LV := mkHid (lives_any w)
  have BG := mkHid (fun w => begins_bad (w := w) N h)
  go_enter Try.func4, Try.ntmps4
  go_wp2_with fail
  refine LV.out.mono ?_
  rintro e w1 ⟨rfl, g1⟩
  have G1 := mkHid g1
  clear LV g1
  go_wp2_with fail
  refine (BG.out w1).mono ?_
  rintro e w2 ⟨rfl, hwx⟩; have hwx2 := hwx.symm; subst hwx2; clear hwx
  clear BG
  go_wp2_with fail
  go_ret
  exact ⟨rfl, G1.out⟩
end Go.Proofs.Ytpghkbbhcpcbdaa
namespace Go.Proofs.Ytpghkbbhcpcbdaa
open Go.RowKit Go.Maps Go.Joins
variable {w0 wr w1 : World} {N n d pr gs gg go i c c2 : Nat} {own : Nat → Nat} {S S2 : St} {L : Ly} {T : Nat → Nat → List ByteArray} {G O : Nat → Nat → Nat} {hs hg ho : Nat → Nat} {rv : Nat → Nat → Value}

theorem upd2_le {f : Nat → Nat → Nat} {a b v m : Nat} (h : ∀ x y, f x y ≤ m) (hv : v ≤ m) : ∀ x y, upd2 f a b v x y ≤ m := fun x y => by
  by_cases e : x = a ∧ y = b
  · obtain ⟨rfl, rfl⟩ := e
    rw [upd2_same]; exact hv
  · rw [upd2_other _ _ e]; exact h x y
theorem upd2_cast (f : Nat → Nat → Nat) (a b v : Nat) : (fun x y => ((upd2 f a b v x y : Nat) : Int)) = upd2 (fun x y => (f x y : Int)) a b (v : Int) := by
  funext x y
  by_cases e : x = a ∧ y = b
  · obtain ⟨rfl, rfl⟩ := e
    rw [upd2_same, upd2_same]
  · rw [upd2_other _ _ e, upd2_other _ _ e]
/-- a message received that an older epoch sent: one less of these -/
theorem LwF.recvO (H : LwF w0 N n d pr gs gg go i own S T G O c L hs rv hg ho wr) {j : Nat} {m : Nat × ByteArray} {rest : List (Nat × ByteArray)} (hj : j < N) (hd : S.dn j = false) (hm : S.ms j = m :: rest) (U : UpN (fun b => own b = 1) wr n c { S with ms := upd S.ms j rest } w1) (hi : i + 1 ≤ 3000000) (hO : 0 < O m.1 j) :
    LwY w0 N n d pr gs gg go (i + 1) (w1.setCell ⟨ho m.1, j, none⟩ (.int .i64 ((O m.1 j : Int) - 1))) := by
  have hN := H.hN
  obtain ⟨r1, r2, _⟩ := H.inv.recv (by omega) hd hm
  obtain ⟨h1, h2, ⟨L2, h3⟩, h4, h5, h6, h7⟩ := H.call U
  obtain ⟨M, C⟩ := h7.set (i := m.1) (j := j) (by omega) ((O m.1 j : Int) - 1)
  have q4 := (h7.row m.1 (by omega)).1
  have lq := h2 (ho m.1) (by rw [q4]; decide)
  have hc := H.hc
  rw [show ((O m.1 j : Int) - 1) = ((O m.1 j - 1 : Nat) : Int) by omega, ← upd2_cast] at M
  rw [show ((O m.1 j : Int) - 1) = ((O m.1 j - 1 : Nat) : Int) by omega] at C ⊢
  refine ⟨_, _, T, G, _, c, L2, hs, rv, hg, ho, grown_set h1 _ _ lq.1, fun b hb => ?_, h3.away C (fun b hb e => ?_), ⟨C.at_ h4.1 (fun e => ?_), h4.2⟩, h5.away C (fun b hb e => ?_), h6.away C (fun b hb e => ?_), M, hN, r2 hO, H.ok.recv hi hm, by omega, fun a b => ⟨Nat.le_succ_of_le (H.tl a b).1, Nat.le_succ_of_le (H.tl a b).2.1, upd2_le (fun x y => Nat.le_succ_of_le (H.tl x y).2.2) (by have := (H.tl m.1 j).2.2; omega) a b⟩, H.fb⟩
  · rw [World.size_setCell]; exact h2 b hb
  · have e : b = ho m.1 := e
    rw [e, q4] at hb; cases hb
  · have e : pr = ho m.1 := e
    have := h4.2
    rw [e, q4] at this; cases this
  · have e : b = ho m.1 := e
    rw [e, q4] at hb; cases hb
  · have e : b = ho m.1 := e
    rw [e, q4] at hb; cases hb
/-- a message received of this epoch: it is the next one sent -/
theorem LwF.recvG (H : LwF w0 N n d pr gs gg go i own S T G O c L hs rv hg ho wr) {j : Nat} {m : Nat × ByteArray} {rest : List (Nat × ByteArray)} (hj : j < N) (hd : S.dn j = false) (hm : S.ms j = m :: rest) (U : UpN (fun b => own b = 1) wr n c { S with ms := upd S.ms j rest } w1) (hi : i + 1 ≤ 3000000) (hO : O m.1 j = 0) :
    (T m.1 j)[G m.1 j]? = some m.2 ∧ LwY w0 N n d pr gs gg go (i + 1) (w1.setCell ⟨hg m.1, j, none⟩ (.int .i64 ((G m.1 j : Int) + 1))) := by
  have hN := H.hN
  obtain ⟨r1, _, r2⟩ := H.inv.recv (by omega) hd hm
  obtain ⟨r3, r4⟩ := r2 hO
  obtain ⟨h1, h2, ⟨L2, h3⟩, h4, h5, h6, h7⟩ := H.call U
  obtain ⟨M, C⟩ := h6.set (i := m.1) (j := j) (by omega) ((G m.1 j : Int) + 1)
  have q4 := (h6.row m.1 (by omega)).1
  have lq := h2 (hg m.1) (by rw [q4]; decide)
  have hc := H.hc
  rw [show ((G m.1 j : Int) + 1) = ((G m.1 j + 1 : Nat) : Int) by omega, ← upd2_cast] at M
  rw [show ((G m.1 j : Int) + 1) = ((G m.1 j + 1 : Nat) : Int) by omega] at C ⊢
  refine ⟨r3, _, _, T, _, O, c, L2, hs, rv, hg, ho, grown_set h1 _ _ lq.1, fun b hb => ?_, h3.away C (fun b hb e => ?_), ⟨C.at_ h4.1 (fun e => ?_), h4.2⟩, h5.away C (fun b hb e => ?_), M, h7.away C (fun b hb e => ?_), hN, r4, H.ok.recv hi hm, by omega, fun a b => ⟨Nat.le_succ_of_le (H.tl a b).1, upd2_le (fun x y => Nat.le_succ_of_le (H.tl x y).2.1) (by have := (H.tl m.1 j).2.1; omega) a b, Nat.le_succ_of_le (H.tl a b).2.2⟩, H.fb⟩
  · rw [World.size_setCell]; exact h2 b hb
  · have e : b = hg m.1 := e
    rw [e, q4] at hb; cases hb
  · have e : pr = hg m.1 := e
    have := h4.2
    rw [e, q4] at this; cases this
  · have e : b = hg m.1 := e
    rw [e, q4] at hb; cases hb
  · have e : b = hg m.1 := e
    rw [e, q4] at hb; cases hb
end Go.Proofs.Ytpghkbbhcpcbdaa
namespace Go.Proofs.Ytpghkbbhcpcbdaa
open Go.RowKit Go.Maps Go.Joins
variable {w0 wr w1 : World} {N n d pr gs gg go i c c2 : Nat} {own : Nat → Nat} {S S2 : St} {L : Ly} {T : Nat → Nat → List ByteArray} {G O : Nat → Nat → Nat} {hs hg ho : Nat → Nat} {rv : Nat → Nat → Value}

theorem flyS_fb {S : St} (p : Pk) (h : S.fl.length ≤ 4096) : (flyS S p).fl.length ≤ 4096 := by
  unfold flyS
  split
  · simp; omega
  · exact h
theorem sendS_N (S : St) (a t : Nat) (x : ByteArray) : (sendS S a t x).N = S.N := by unfold sendS; rw [flyS_N]
/-- the blocks of the table of what was sent, and the new ones -/
def ownS (own : Nat → Nat) (w w' : World) : Nat → Nat := fun b => if w.heap.size ≤ b ∧ b < w'.heap.size then 2 else own b
theorem LwF.send (H : LwF w0 N n d pr gs gg go i own S T G O c L hs rv hg ho wr) {a t : Nat} (ha : a < N) (ht : t < N) (x : ByteArray) (hu : (S.wy a t).us.length < 4096) (U : UpN (fun b => own b = 1) wr n c2 (sendS S a t x) w1) (hc2 : c2 ≤ 130 * (i + 1)) (hi : i + 1 ≤ 3000000) {W : World} (g0 : w1.grownBy W none) {b : Nat} (hbx : W.heap[b]? = some (.cells #[.string x] 9 (0, 0))) :
    ∃ v' w', (∀ ty, (Builtin.append_ #[49, 49] ty #[rv a t, .slice (some ⟨b, 0, none⟩) 1 1]).run Try.prog W = .ok v' w') ∧ w'.cell? ⟨gs, a, none⟩ = some (.slice (some ⟨hs a, 0, none⟩) N N) ∧ w'.cell? ⟨hs a, t, none⟩ = some (rv a t) ∧ w'.frozen? ⟨hs a, t, none⟩ = false ∧ (∃ p' c', v' = .slice p' ((T a t).length + 1) c') ∧ W.grownBy w' (rv a t).ownBlock ∧ LwY w0 N n d pr gs gg go (i + 1) (w'.setCell ⟨hs a, t, none⟩ v') := by
  have hN := H.hN
  have tl := H.tl
  obtain ⟨h1, h2, ⟨L2, h3⟩, h4, h5, h6, h7⟩ := H.call U
  obtain ⟨v', w', k1, k2, k3, k4, k5, k6, M, C⟩ := h5.app ha ht x (by have := (tl a t).1; omega) g0 hbx
  refine ⟨v', w', k1, k2, k3, k4, k5, k6, ?_⟩
  generalize hF : w'.setCell ⟨hs a, t, none⟩ v' = Wf at M C ⊢
  have q2 : ownN own wr w1 (hs a) = 2 := (h5.row a ha).1
  have hC : ∀ y, (y = hs a ∨ (rv a t).ownBlock = some y) → ownN own wr w1 y = 2 := fun y hy => by
    rcases hy with e | e
    · rw [e]; exact q2
    · exact (h5.str a t ha ht).2 y e
  have oe : ∀ y v, v ≠ 0 → ownN own wr w1 y = v → ownS (ownN own wr w1) w1 Wf y = v := fun y v hv hy => by
    have := (h2 y (by omega)).2
    unfold ownS
    rw [if_neg (by omega)]; exact hy
  have sz := C.size
  have sz1 := h1.size
  refine ⟨ownS (ownN own wr w1) w1 Wf, _, _, G, O, c2, L2, hs, _, hg, ho, ⟨C.os.trans h1.os, C.tape.trans h1.tape, C.output.trans h1.output, Nat.le_trans h1.size C.size, fun y hy hn => (C.block y (Nat.lt_of_lt_of_le hy h1.size) (fun e => by have := (h2 y (by rw [hC y e]; decide)).1; omega)).trans (h1.block y hy hn)⟩, fun y hy => ?_, (h3.away C (fun y hy e => ?_)).more (fun y hy => oe y 1 (by decide) hy) (fun y hy => ?_), ⟨C.at_ h4.1 (fun e => ?_), oe _ 5 (by decide) h4.2⟩, M.wide (fun y hy => ?_), (h6.away C (fun y hy e => ?_)).wide (fun y hy => oe y 3 (by decide) hy), (h7.away C (fun y hy e => ?_)).wide (fun y hy => oe y 4 (by decide) hy), by rw [sendS_N]; exact hN, H.inv.send x (by omega) (by omega), H.ok.send hi x (by omega) (by omega) hu, hc2, fun p q => ⟨?_, Nat.le_succ_of_le (tl p q).2.1, Nat.le_succ_of_le (tl p q).2.2⟩, ?_⟩
  · unfold ownS at hy
    by_cases e1 : w1.heap.size ≤ y ∧ y < Wf.heap.size
    · omega
    · rw [if_neg e1] at hy
      have := h2 y hy
      omega
  · have := hC y e
    have hy : ownN own wr w1 y = 1 := hy
    omega
  · have hy : ownS (ownN own wr w1) w1 Wf y = 1 := hy
    unfold ownS at hy
    by_cases e1 : w1.heap.size ≤ y ∧ y < Wf.heap.size
    · omega
    · rw [if_neg e1] at hy
      have := h2 y (by omega)
      omega
  · have := hC _ e
    have := h4.2
    omega
  · rcases hy with e | e
    · exact oe y 2 (by decide) e
    · unfold ownS; exact if_pos e
  · have := hC y e
    have hy : ownN own wr w1 y = 3 := hy
    omega
  · have := hC y e
    have hy : ownN own wr w1 y = 4 := hy
    omega
  · by_cases e : p = a ∧ q = t
    · obtain ⟨rfl, rfl⟩ := e
      rw [upd2_same, List.length_append]
      have := (tl p q).1
      simp; omega
    · rw [upd2_other _ _ e]; exact Nat.le_succ_of_le (tl p q).1
  · unfold sendS; exact flyS_fb _ H.fb
end Go.Proofs.Ytpghkbbhcpcbdaa
namespace Go.Proofs.Ytpghkbbhcpcbdaa
open Go.RowKit Go.Maps Go.Joins
variable {w0 wr w1 : World} {N n d pr gs gg go i c c2 : Nat} {own : Nat → Nat} {S S2 : St} {L : Ly} {T T2 : Nat → Nat → List ByteArray} {G O : Nat → Nat → Nat} {hs hg ho : Nat → Nat} {rv : Nat → Nat → Value}

/-- net and tables, whatever the tables say -/
structure LwH (w0 : World) (N n d pr gs gg go : Nat) (own : Nat → Nat) (S : St) (T : Nat → Nat → List ByteArray) (G O : Nat → Nat → Nat) (c : Nat) (L : Ly) (hs : Nat → Nat) (rv : Nat → Nat → Value) (hg ho : Nat → Nat) (wr : World) : Prop where
  gr : w0.grownBy wr none
  lo : ∀ b, own b ≠ 0 → w0.heap.size ≤ b ∧ b < wr.heap.size
  net : NetL (fun b => own b = 1) wr n c S L
  pr : wr.heap[pr]? = some (.cells #[.pointer (some ⟨n, 0, none⟩), .pointer (some ⟨d, 0, none⟩)] 33 (0, 0)) ∧ own pr = 5
  ts : MtS (fun b => own b = 2) wr gs N N hs rv T
  tg : MtI (fun b => own b = 3) wr gg N N hg (fun a b => (G a b : Int))
  tO : MtI (fun b => own b = 4) wr go N N ho (fun a b => (O a b : Int))
theorem LwF.half (H : LwF w0 N n d pr gs gg go i own S T G O c L hs rv hg ho wr) (U : UpN (fun b => own b = 1) wr n c2 S2 w1) : ∃ L2, LwH w0 N n d pr gs gg go (ownN own wr w1) S2 T G O c2 L2 hs rv hg ho w1 := by
  obtain ⟨h1, h2, ⟨L2, h3⟩, h4, h5, h6, h7⟩ := H.call U
  exact ⟨L2, h1, h2, h3, h4, h5, h6, h7⟩
theorem LwH.setO (H : LwH w0 N n d pr gs gg go own S T G O c L hs rv hg ho wr) {a b : Nat} (ha : a < N) (v : Nat) : LwH w0 N n d pr gs gg go own S T G (upd2 O a b v) c L hs rv hg ho (wr.setCell ⟨ho a, b, none⟩ (.int .i64 (v : Int))) := by
  obtain ⟨M, C⟩ := H.tO.set (i := a) (j := b) ha (v : Int)
  have q4 := (H.tO.row a ha).1
  have lq := H.lo (ho a) (by rw [q4]; decide)
  rw [← upd2_cast] at M
  refine ⟨grown_set H.gr _ _ lq.1, fun x hx => by rw [World.size_setCell]; exact H.lo x hx, H.net.away C (fun x hx e => ?_), ⟨C.at_ H.pr.1 (fun e => ?_), H.pr.2⟩, H.ts.away C (fun x hx e => ?_), H.tg.away C (fun x hx e => ?_), M⟩
  · have e : x = ho a := e
    rw [e, q4] at hx; cases hx
  · have e : pr = ho a := e
    have := H.pr.2
    rw [e, q4] at this; cases this
  · have e : x = ho a := e
    rw [e, q4] at hx; cases hx
  · have e : x = ho a := e
    rw [e, q4] at hx; cases hx
theorem LwH.setG (H : LwH w0 N n d pr gs gg go own S T G O c L hs rv hg ho wr) {a b : Nat} (ha : a < N) (v : Nat) : LwH w0 N n d pr gs gg go own S T (upd2 G a b v) O c L hs rv hg ho (wr.setCell ⟨hg a, b, none⟩ (.int .i64 (v : Int))) := by
  obtain ⟨M, C⟩ := H.tg.set (i := a) (j := b) ha (v : Int)
  have q4 := (H.tg.row a ha).1
  have lq := H.lo (hg a) (by rw [q4]; decide)
  rw [← upd2_cast] at M
  refine ⟨grown_set H.gr _ _ lq.1, fun x hx => by rw [World.size_setCell]; exact H.lo x hx, H.net.away C (fun x hx e => ?_), ⟨C.at_ H.pr.1 (fun e => ?_), H.pr.2⟩, H.ts.away C (fun x hx e => ?_), M, H.tO.away C (fun x hx e => ?_)⟩
  · have e : x = hg a := e
    rw [e, q4] at hx; cases hx
  · have e : pr = hg a := e
    have := H.pr.2
    rw [e, q4] at this; cases this
  · have e : x = hg a := e
    rw [e, q4] at hx; cases hx
  · have e : x = hg a := e
    rw [e, q4] at hx; cases hx
theorem LwH.setT (H : LwH w0 N n d pr gs gg go own S T G O c L hs rv hg ho wr) {a b : Nat} (ha : a < N) (hb : b < N) : LwH w0 N n d pr gs gg go own S (upd2 T a b []) G O c L hs (upd2 rv a b (.slice none 0 0)) hg ho (wr.setCell ⟨hs a, b, none⟩ (.slice none 0 0)) := by
  obtain ⟨M, C⟩ := H.ts.nil (i := a) (j := b) ha hb
  have q4 := (H.ts.row a ha).1
  have lq := H.lo (hs a) (by rw [q4]; decide)
  refine ⟨grown_set H.gr _ _ lq.1, fun x hx => by rw [World.size_setCell]; exact H.lo x hx, H.net.away C (fun x hx e => ?_), ⟨C.at_ H.pr.1 (fun e => ?_), H.pr.2⟩, M, H.tg.away C (fun x hx e => ?_), H.tO.away C (fun x hx e => ?_)⟩
  · have e : x = hs a := e
    rw [e, q4] at hx; cases hx
  · have e : pr = hs a := e
    have := H.pr.2
    rw [e, q4] at this; cases this
  · have e : x = hs a := e
    rw [e, q4] at hx; cases hx
  · have e : x = hs a := e
    rw [e, q4] at hx; cases hx
theorem MtI.congr {Q : Nat → Prop} {w : World} {g N : Nat} {hb : Nat → Nat} {f f2 : Nat → Nat → Int} (h : MtI Q w g N N hb f) (e : ∀ a b, a < N → b < N → f a b = f2 a b) : MtI Q w g N N hb f2 :=
  ⟨h.qg, h.at0, fun i hi => by
    obtain ⟨q, r, r1, r2, r3⟩ := h.row i hi
    exact ⟨q, r, r1, r2, fun j hj => by rw [r3 j hj, e i j hi hj]⟩, h.dis⟩
theorem MtS.congr {Q : Nat → Prop} {w : World} {g N : Nat} {hb : Nat → Nat} (h : MtS Q w g N N hb rv T) (e : ∀ a b, a < N → b < N → T a b = T2 a b) : MtS Q w g N N hb rv T2 :=
  ⟨h.qg, h.at0, h.row, h.dis, fun i j hi hj => by rw [← e i j hi hj]; exact h.str i j hi hj, h.sep⟩
/-- the tables are right again -/
theorem LwH.whole (H : LwH w0 N n d pr gs gg go own S T G O c L hs rv hg ho wr) {T2 : Nat → Nat → List ByteArray} {G2 O2 : Nat → Nat → Nat} (eT : ∀ a b, a < N → b < N → T a b = T2 a b) (eG : ∀ a b, a < N → b < N → G a b = G2 a b) (eO : ∀ a b, a < N → b < N → O a b = O2 a b) (hN : S.N = N) (inv : Inv S T2 G2 O2) (ok : OkS S i) (hc : c ≤ 130 * i) (tl : ∀ a b, (T2 a b).length ≤ i ∧ G2 a b ≤ i ∧ O2 a b ≤ i) (fb : S.fl.length ≤ 4096) : LwY w0 N n d pr gs gg go i wr :=
  ⟨own, S, T2, G2, O2, c, L, hs, rv, hg, ho, H.gr, H.lo, H.net, H.pr, H.ts.congr eT, H.tg.congr (fun a b ha hb => by rw [eG a b ha hb]), H.tO.congr (fun a b ha hb => by rw [eO a b ha hb]), hN, inv, ok, hc, tl, fb⟩
end Go.Proofs.Ytpghkbbhcpcbdaa
namespace Go.Proofs.Ytpghkbbhcpcbdaa
open Go.RowKit Go.Maps Go.Joins
variable {w wr : World} {Pa : Option Addr} {l : List Ac} {i : Nat} {x : Ac} {S : St}

/-- an act where it lies -/
theorem nacs.at (h : nacs w Pa l) (hx : l[i]? = some x) (hg : w.grownBy wr none) :
    ∃ g o, Pa = some ⟨g, o, none⟩ ∧ wr.cell? ⟨g, o + i * 6, none⟩ = some (.int .i64 x.k) ∧ wr.cell? ⟨g, o + i * 6 + 1, none⟩ = some (.int .i64 x.a) ∧ wr.cell? ⟨g, o + i * 6 + 2, none⟩ = some (.int .i64 x.t) ∧ wr.cell? ⟨g, o + i * 6 + 3, none⟩ = some (.int .i64 x.i) ∧ wr.cell? ⟨g, o + i * 6 + 4, none⟩ = some (.slice x.p x.b.length x.q) ∧ wr.cell? ⟨g, o + i * 6 + 5, none⟩ = some (.bool x.h) ∧
      byA wr x.p x.b ∧ (x.p = none → x.b.length = 0 ∧ x.q = 0) ∧ x.b.length ≤ 10000000 := by
  rcases h with h | ⟨g, o, rfl, h⟩
  · rw [h] at hx; simp at hx
  · obtain ⟨h1, h2, h3, h4⟩ := h i x hx
    have k : ∀ j u, x.cells[j]? = some u → wr.cell? ⟨g, o + i * 6 + j, none⟩ = some u := fun j u hj => by
      have h5 := h1 j u hj
      have hlt := World.block_lt_of_cell? w _ h5
      have := hg.block g hlt (by simp)
      unfold World.cell? at h5 ⊢
      simp only at h5 this ⊢
      rw [this]; exact h5
    exact ⟨g, o, rfl, k 0 _ rfl, k 1 _ rfl, k 2 _ rfl, k 3 _ rfl, k 4 _ rfl, k 5 _ rfl, h2.kept hg, h3, h4⟩
theorem bx_set {b : Nat} {t : TypeId} {a0 a1 a2 a3 a4 a5 : Value} (h : w.heap[b]? = some (.cells #[a0, a1, a2, a3, a4, a5] t (0, 0))) (v u : Value) : ((w.setCell ⟨b, 3, none⟩ v).setCell ⟨b, 5, none⟩ u).heap[b]? = some (.cells #[a0, a1, a2, v, a4, u] t (0, 0)) := (block_setCell (block_setCell h v) u).trans rfl
theorem bx_set' {b : Nat} {t : TypeId} {a0 a1 a2 a3 a4 a5 : Value} (h : w.heap[b]? = some (.cells #[a0, a1, a2, a3, a4, a5] t (0, 0))) (v u : Value) : ((w.setCell ⟨b, 5, none⟩ u).setCell ⟨b, 3, none⟩ v).heap[b]? = some (.cells #[a0, a1, a2, v, a4, u] t (0, 0)) := (block_setCell (block_setCell h u) v).trans rfl
/-- the act's box, with whatever place and flag -/
def bxA (w : World) (b : Nat) (x : Ac) : Prop := ∃ (I : Int) (hw : Bool), w.heap[b]? = some (.cells #[.int .i64 x.k, .int .i64 x.a, .int .i64 x.t, .int .i64 I, .slice x.p x.b.length x.q, .bool hw] 29 (0, 0))
theorem send_no {f t : Int} {l : List UInt8} (h : sendE S f t l.length ≠ 0) : sendT S f t ⟨l.toArray⟩ = S := by
  unfold sendE at h
  unfold sendT
  by_cases h1 : isS S f = true ∧ 0 ≤ t ∧ t < S.N
  · rw [if_pos h1] at h ⊢
    by_cases h2 : 65536 < l.length ∨ (S.wy f.toNat t.toNat).us.length = 4096
    · rw [if_pos h2]
    · rw [if_neg h2] at h; exact absurd rfl h
  · rw [if_neg h1]
theorem send_ok {B : Nat} (ok : OkS S B) {f t : Int} {l : List UInt8} (h : sendE S f t l.length = 0) : ∃ a b : Nat, f = (a : Int) ∧ t = (b : Int) ∧ a < S.N ∧ b < S.N ∧ (S.wy a b).us.length < 4096 ∧ sendT S f t ⟨l.toArray⟩ = sendS S a b ⟨l.toArray⟩ := by
  unfold sendE at h
  by_cases h1 : isS S f = true ∧ 0 ≤ t ∧ t < S.N
  · rw [if_pos h1] at h
    by_cases h2 : 65536 < l.length ∨ (S.wy f.toNat t.toNat).us.length = 4096
    · rw [if_pos h2] at h; cases h
    · obtain ⟨a, rfl, ha, _⟩ := isS_in h1.1
      refine ⟨a, t.toNat, rfl, by omega, ha, by omega, ?_, ?_⟩
      · have := ok.wu a t.toNat
        rw [Int.toNat_natCast] at h2
        omega
      · unfold sendT
        rw [if_pos h1, if_neg h2, Int.toNat_natCast]
  · rw [if_neg h1] at h; cases h
theorem tickM_fb {i j : Nat} : ∀ m, S.fl.length ≤ 4096 → (tickM S i j m).fl.length ≤ 4096
  | 0, h => h
  | m + 1, h => flyS_fb _ (tickM_fb m h)
theorem tickK_fb {i : Nat} (h : S.fl.length ≤ 4096) : ∀ k, (tickK S i k).fl.length ≤ 4096
  | 0 => h
  | k + 1 => tickM_fb _ (tickK_fb h k)
theorem comeS_fb (p : Pk) (h : S.fl.length ≤ 4096) : (comeS S p).fl.length ≤ 4096 := by
  unfold comeS
  split
  · split
    · exact h
    · split
      · exact flyS_fb _ h
      · exact flyS_fb _ h
  · exact h
theorem aloneS_fb (x : Ac) (h : S.fl.length ≤ 4096) : (aloneS S x).fl.length ≤ 4096 := by
  have he : ∀ k, (S.fl.eraseIdx k).length ≤ 4096 := fun k => Nat.le_trans (List.length_eraseIdx_le _ _) h
  unfold aloneS
  split
  · unfold delivS
    split
    · exact comeS_fb _ (he _)
    · exact h
  · split
    · unfold loseS
      split
      · exact he _
      · exact h
    · split
      · unfold twiceS
        split
        · exact flyS_fb _ h
        · exact h
      · split
        · unfold tickS
          split
          · exact tickK_fb h _
          · exact h
        · split
          · unfold downT
            split
            · exact h
            · exact h
          · exact h
theorem tickM_N2 {i j : Nat} : ∀ m, (tickM S i j m).N = S.N
  | 0 => rfl
  | m + 1 => by rw [tickM, flyS_N]; exact tickM_N2 m
theorem tickK_N2 {i : Nat} : ∀ k, (tickK S i k).N = S.N
  | 0 => rfl
  | k + 1 => by rw [tickK, tickM_N2]; exact tickK_N2 k
theorem comeS_N2 (p : Pk) : (comeS S p).N = S.N := by
  unfold comeS
  split
  · split
    · rfl
    · split
      · rw [flyS_N]; rfl
      · rw [flyS_N]
  · rfl
theorem aloneS_N (x : Ac) : (aloneS S x).N = S.N := by
  unfold aloneS
  split
  · unfold delivS
    split
    · rw [comeS_N2]
    · rfl
  · split
    · unfold loseS
      split <;> rfl
    · split
      · unfold twiceS
        split
        · rw [flyS_N]
        · rfl
      · split
        · unfold tickS
          split
          · exact tickK_N2 _
          · rfl
        · split
          · unfold downT
            split <;> rfl
          · rfl
end Go.Proofs.Ytpghkbbhcpcbdaa
