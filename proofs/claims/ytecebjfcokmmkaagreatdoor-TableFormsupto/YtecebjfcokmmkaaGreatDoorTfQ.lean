/-
  The walk of locksteplaw08.Form.
-/
import Derived.Test.YtecebjfcokmmkaaGreatDoorTfP
namespace Go.Proofs.YtecebjfcokmmkaaGreatDoor
open Go.RowKit Go.Shelf Go.Joins Go.Maps
set_option maxRecDepth 100000

theorem step_make (t : TypeId) {ops : Array Oper} {o : Oper} {a : Act} {w : World} {K : Act → World → Prop} {Q : Exit → Act → World → Prop} {E : Prop} (hgd : o.guard = none) (l c : Operand) (ho : o.op = .makeSlice t l c)
    {v y v' : Value} {w' : World} (hs : a.eval l = v) (hx : a.eval c = y) (hr : (Instr.makeSlice t v y).run Tryz.prog w = .ok v' w') (h : K (a.put o.dst v') w') : if Region.wanted o (yielded ops a.tmps) = true then Oper.wp Tryz.prog o a w K Q else E := by
  have hwd : Region.wanted o (yielded ops a.tmps) = true := by simp [Region.wanted, hgd]
  rw [if_pos hwd]
  unfold Oper.wp
  simp [execOp, ho, hs, hx, hr, Result.andThen]
  exact h
theorem wp_make (t : TypeId) {ops : Array Oper} {rest : List Oper} {o : Oper} {a : Act} {w : World} {Q : Exit → Act → World → Prop} (hgd : o.guard = none) (l c : Operand) (ho : o.op = .makeSlice t l c)
    {v y v' : Value} {w' : World} (hs : a.eval l = v) (hx : a.eval c = y) (hr : (Instr.makeSlice t v y).run Tryz.prog w = .ok v' w') (h : wpList Tryz.prog ops Q rest (a.put o.dst v') w') : wpList Tryz.prog ops Q (o :: rest) a w := by
  refine wpList_plain hgd fun K hK => ?_
  unfold Oper.wp
  simp [execOp, ho, hs, hx, hr, Result.andThen]
  exact hK _ _ h
theorem step_app (t : TypeId) {ops : Array Oper} {o : Oper} {a : Act} {w : World} {K : Act → World → Prop} {Q : Exit → Act → World → Prop} {E : Prop} (hgd : o.guard = none) (s x : Operand) (ho : o.op = .call { callee := .builtin .append, args := #[s, x], argTypes := #[t, t] })
    {v y v' : Value} {w' : World} (hs : a.eval s = v) (hx : a.eval x = y) (hr : ∀ ty, (Builtin.append_ #[t, t] ty #[v, y]).run Tryz.prog w = .ok v' w') (h : K (a.put o.dst v') w') : if Region.wanted o (yielded ops a.tmps) = true then Oper.wp Tryz.prog o a w K Q else E := by
  have hwd : Region.wanted o (yielded ops a.tmps) = true := by simp [Region.wanted, hgd]
  rw [if_pos hwd]
  unfold Oper.wp execOp
  simp only [ho, resolve, invoke, builtin, Sem.run_bind, Sem.run_pure, Result.andThen_ok, List.map_toArray, List.map_cons, List.map_nil, hs, hx, hr]
  exact h
theorem wp_app (t : TypeId) {ops : Array Oper} {rest : List Oper} {o : Oper} {a : Act} {w : World} {Q : Exit → Act → World → Prop} (hgd : o.guard = none) (s x : Operand) (ho : o.op = .call { callee := .builtin .append, args := #[s, x], argTypes := #[t, t] })
    {v y v' : Value} {w' : World} (hs : a.eval s = v) (hx : a.eval x = y) (hr : ∀ ty, (Builtin.append_ #[t, t] ty #[v, y]).run Tryz.prog w = .ok v' w') (h : wpList Tryz.prog ops Q rest (a.put o.dst v') w') : wpList Tryz.prog ops Q (o :: rest) a w := by
  refine wpList_plain hgd fun K hK => ?_
  unfold Oper.wp execOp
  simp only [ho, resolve, invoke, builtin, Sem.run_bind, Sem.run_pure, Result.andThen_ok, List.map_toArray, List.map_cons, List.map_nil, hs, hx, hr]
  exact hK _ _ h
/-- a copy with room for one more -/
theorem Rw.copy {t e : TypeId} {z : Value} {sz by' : Nat} (R : Rw t e z sz by') (w : World) (P : Option Addr) (m c : Nat) (news : List Value) (hm : news.length = m * sz) (hP : P = none → m = 0 ∧ c = 0)
    (hnews : ∀ ad, P = some ad → ∀ j u, news[j]? = some u → w.cell? (ad.add j) = some u) (h1 : ∀ u ∈ news, u.oneCell' = true) (hl : m + 1 ≤ 1000000000) :
    ∃ w1 w2, (Instr.makeSlice t (.int .i64 0) (.int .i64 ((m : Int) + 1))).run Tryz.prog w = .ok (.slice (some ⟨w.heap.size, 0, none⟩) 0 (m + 1)) w1 ∧ (∀ ty, (Builtin.append_ #[t, t] ty #[.slice (some ⟨w.heap.size, 0, none⟩) 0 (m + 1), .slice P m c]).run Tryz.prog w1 = .ok (.slice (some ⟨w.heap.size, 0, none⟩) m (m + 1)) w2) ∧
      shr w2 e sz (.slice (some ⟨w.heap.size, 0, none⟩) m (m + 1)) m news ∧ w.grownBy w1 none ∧ w.grownBy w2 none ∧ w1.heap.size = w.heap.size + 1 ∧ w2.heap.size = w.heap.size + 1 := by
  obtain ⟨w1, r1, s1, g1, z1⟩ := R.make0 w (m + 1) hl
  obtain ⟨w2, r2, s2, g2, z2⟩ := R.fits s1 hm hP (fun ad had j u hj => by
    have := hnews ad had j u hj
    exact g1.cell this (by simp)) h1 (by omega)
  rw [Nat.zero_add] at r2 s2
  rw [List.nil_append] at s2
  refine ⟨w1, w2, by simpa using r1, r2, s2, g1, ⟨g2.os.trans g1.os, g2.tape.trans g1.tape, g2.output.trans g1.output, by omega, fun k hk hn => (g2.block k (by omega) (fun e => by cases e; omega)).trans (g1.block k hk hn)⟩, z1, by omega⟩
/-- keys that were copied, k many -/
structure KI (w4 wr : World) (t : Tb) (gk m k : Nat) (L : List Kq) : Prop where
  row : shr wr 46 3 (.slice (some ⟨gk, 0, none⟩) k (m + 1)) k (fl kqE L)
  hL : L.map (·.k) = t.ks.take k
  ints : ∀ q ∈ L, shr wr 3 1 (.slice (some ⟨q.g, 0, none⟩) q.k.cs.length q.c) q.k.cs.length (fl inE q.k.cs)
  lo : ∀ q ∈ L, w4.heap.size ≤ q.g
  chg : Chg (fun i => i = gk) w4 wr
theorem tyIK : (3 : Nat) ≠ 46 := by decide
theorem tyCK : (52 : Nat) ≠ 46 := by decide
theorem shr_ne {w : World} {e1 e2 s1 s2 n1 n2 c1 c2 g1 g2 : Nat} {x1 x2 : List Value} (h1 : shr w e1 s1 (.slice (some ⟨g1, 0, none⟩) n1 c1) n1 x1) (h2 : shr w e2 s2 (.slice (some ⟨g2, 0, none⟩) n2 c2) n2 x2) (hne : e1 ≠ e2) : g1 ≠ g2 := fun e => by
  have k1 := (h1.kd g1 rfl).1
  have k2 := (h2.kd g2 rfl).1
  rw [e, k2] at k1
  omega
theorem KI.start {w4 : World} {t : Tb} {gk m : Nat} (h : shr w4 46 3 (.slice (some ⟨gk, 0, none⟩) 0 (m + 1)) 0 []) : KI w4 w4 t gk m 0 [] := ⟨h, by simp, (by intro q hq; cases hq), (by intro q hq; cases hq), Chg.refl _ _⟩
theorem KI.next {w4 wr w5 w7 : World} {t : Tb} {gk m k : Nat} {L : List Kq} {q : Kq} (h : KI w4 wr t gk m k L) (hk : t.ks[k]? = some q.k) (hc : Chg (fun i => wr.heap.size ≤ i) wr w5) (hi : shr w5 3 1 (.slice (some ⟨q.g, 0, none⟩) q.k.cs.length q.c) q.k.cs.length (fl inE q.k.cs)) (hg : wr.heap.size ≤ q.g)
    (h7 : shr w7 46 3 (.slice (some ⟨gk, 0, none⟩) (k + 1) (m + 1)) (k + 1) (fl kqE L ++ kqE q)) (g7 : w5.grownBy w7 (some gk)) : KI w4 w7 t gk m (k + 1) (L ++ [q]) := by
  have hgk : gk < wr.heap.size := shr_lt h.row
  have c7 : Chg (fun i => i = gk) w5 w7 := (Chg.of_grown g7).mono (fun i _ e => (Option.some.inj e).symm)
  have hq : gk ≠ q.g := by omega
  refine ⟨by rw [fl_app]; simpa [fl] using h7, ?_, fun x hx => ?_, fun x hx => ?_, ?_⟩
  · rw [List.map_append, h.hL, List.take_add_one, hk]; rfl
  · rcases List.mem_append.1 hx with hx | hx
    · have hx1 := h.ints x hx
      have hlt := shr_lt hx1
      have hne := shr_ne hx1 h.row tyIK
      exact (hx1.kept hc (fun g e => by cases e; show ¬ wr.heap.size ≤ x.g; omega)).kept c7 (fun g e => by cases e; exact hne)
    · simp at hx; subst hx
      exact hi.kept c7 (fun g e => by cases e; exact fun e => hq e.symm)
  · rcases List.mem_append.1 hx with hx | hx
    · exact h.lo x hx
    · simp at hx; subst hx
      exact Nat.le_trans h.chg.size hg
  · refine ⟨c7.os.trans (hc.os.trans h.chg.os), c7.tape.trans (hc.tape.trans h.chg.tape), c7.output.trans (hc.output.trans h.chg.output), Nat.le_trans h.chg.size (Nat.le_trans hc.size c7.size), fun i hi hn => ?_⟩
    have hir := Nat.lt_of_lt_of_le hi h.chg.size
    rw [c7.block i (Nat.lt_of_lt_of_le hir hc.size) hn, hc.block i hir (by omega), h.chg.block i hi hn]
end Go.Proofs.YtecebjfcokmmkaaGreatDoor
