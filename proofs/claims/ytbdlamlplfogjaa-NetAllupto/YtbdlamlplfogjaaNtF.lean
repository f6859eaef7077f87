/-
  Walks: what is cut off a list's beginning; a way that is told; a packet that is taken off.
-/
import Derived.Test.YtbdlamlplfogjaaNtE
namespace Go.Proofs.Ytbdlamlplfogjaa
open Go.RowKit Go.Maps Go.Joins
variable {P : Nat → Prop} {w w' : World} {n c : Nat} {S : St} {L : Ly}

theorem zeroCells_one {z : Array Value} {k : Nat} (hz : ∀ u ∈ z.toList, u.oneCell' = true) (h0 : 0 < z.size) : ∀ u ∈ (Builtin.zeroCells z k).toList, u.oneCell' = true := by
  intro u hu
  simp only [Builtin.zeroCells, Array.toList_map, List.mem_map] at hu
  obtain ⟨i, _, rfl⟩ := hu
  have hi : i % z.size < z.size := Nat.mod_lt _ h0
  rw [getElem!_pos z _ hi]
  exact hz _ (by simp)
theorem zeroOf {t : TypeId} {z : Value} {s b : Nat} (h : (Try.prog.info? t).map (fun i => (i.zero, i.size, i.bytes)) = some (some z, s, b)) (w : World) : (zeroValue t).run Try.prog w = .ok z w := by
  obtain ⟨i, hi, hz, _⟩ := info_parts h
  simp [zeroValue, typeInfo, hi, hz]
/-- 'clear' of some elements of a row -/
theorem Rw.clear {t e : TypeId} {z : Value} {sz by' : Nat} (R : Rw t e z sz by') (hz1 : ∀ u ∈ z.cells.toList, u.oneCell' = true) {g off k cap : Nat} {cur : Array Value} (hg : w.heap[g]? = some (.cells cur e (0, 0))) (hk : 0 < k) (hb : off + k * sz ≤ cur.size) :
    ∃ w', (∀ ty, (Builtin.clear_ #[t] ty #[.slice (some ⟨g, off, none⟩) k cap]).run Try.prog w = .ok (.tuple #[]) w') ∧ w.grownBy w' (some g) ∧ ∃ cur', w'.heap[g]? = some (.cells cur' e (0, 0)) ∧ cur'.size = cur.size ∧ ∀ j, j < off ∨ off + k * sz ≤ j → cur'[j]? = cur[j]? := by
  have hv := zeroOf R.inf
  have hlen : (Builtin.zeroCells z.cells k).toList.length = k * sz := by rw [Array.length_toList, size_zeroCells, R.zs]
  have hst := run_storeCells_cells (P := Try.prog) g off (Builtin.zeroCells z.cells k).toList 0 w (fun j hj => by
    rw [cell_of_block hg]
    show (cur[off + 0 + j]?).isSome = true
    rw [Array.getElem?_eq_getElem (show off + 0 + j < cur.size by omega)]; rfl) (fun j _ => unfrozen_of_block hg _) (zeroCells_one hz1 (by rw [R.zs]; exact R.pos))
  simp only [Nat.add_zero] at hst
  obtain ⟨cs', k1, k2, k3, _⟩ := setCells_get g (Builtin.zeroCells z.cells k).toList off w cur e (0, 0) hg
  obtain ⟨k', rfl⟩ : ∃ m, k = m + 1 := ⟨k - 1, by omega⟩
  refine ⟨_, fun ty => ?_, setCells_grown g (Builtin.zeroCells z.cells (k' + 1)).toList off w, cs', k1, k2, fun j hj => k3 j (by rw [hlen]; exact hj)⟩
  simp [Builtin.clear_, run_underlying R.sl, hv, hst]
theorem wp_clear (t : TypeId) {ops : Array Oper} {rest : List Oper} {o : Oper} {a : Act} {w : World} {Q : Exit → Act → World → Prop} (hgd : o.guard = none) (s : Operand) (ho : o.op = .call { callee := .builtin .clear, args := #[s], argTypes := #[t] })
    {v v' : Value} {w' : World} (hs : a.eval s = v) (hr : ∀ ty, (Builtin.clear_ #[t] ty #[v]).run Try.prog w = .ok v' w') (h : wpList Try.prog ops Q rest (a.put o.dst v') w') : wpList Try.prog ops Q (o :: rest) a w := by
  refine wpList_plain hgd fun K hK => ?_
  unfold Oper.wp execOp
  simp only [ho, resolve, invoke, builtin, Sem.run_bind, Sem.run_pure, Result.andThen_ok, List.map_toArray, List.map_cons, List.map_nil, hs, hr]
  exact hK _ _ h
/-- the first elements of a row cut off -/
theorem shr_cut {e : TypeId} {sz m k cap g off : Nat} {cur cur' : Array Value} {xs : List Value} (hg : w'.heap[g]? = some (.cells cur' e (0, 0))) (hn : m + k ≤ cap) (hm : cap ≤ maxLen) (hc : cur.size = off + cap * sz) (hz : cur'.size = cur.size) (hcs : ∀ j u, xs[j]? = some u → cur[off + j]? = some u) (hx : xs.length = (m + k) * sz) (ho : ∀ j, j < off ∨ off + k * sz ≤ j → cur'[j]? = cur[j]?) :
    shr w' e sz (.slice (some ⟨g, off + k * sz, none⟩) m (cap - k)) m (xs.drop (k * sz)) := by
  refine ⟨by rw [List.length_drop, hx, Nat.add_mul]; omega, Or.inr ⟨g, off + k * sz, cap - k, cur', rfl, hg, by omega, by omega, Or.inr ?_, fun j u hj => ?_⟩⟩
  · rw [hz, hc, Nat.sub_mul]
    have : k * sz ≤ cap * sz := Nat.mul_le_mul_right _ (by omega)
    omega
  · rw [List.getElem?_drop] at hj
    rw [ho _ (Or.inr (by omega)), Nat.add_assoc]
    exact hcs _ u hj
/-- what 'behind' leaves -/
def BhQ (w : World) (e : TypeId) (sz m : Nat) (v : Value) (ys : List Value) (r : Ending) (w' : World) : Prop := ∃ v', r = .returned v' ∧ shr w' e sz v' m ys ∧ w.grownBy w' v.ownBlock ∧ v'.ownBlock = v.ownBlock
set_option maxHeartbeats 1000000 in
set_option maxRecDepth 100000 in
theorem behindS (v : Value) (l : List ByteArray) (k m : Nat) (h : shr w 9 1 v (m + k) (usC l)) (hk : 0 < k) : Calls Try.prog 62 #[v, .int .i64 k] w (BhQ w 9 1 m v ((usC l).drop (k * 1))) := by
  rcases h.2 with ⟨rfl, h0⟩ | ⟨g, off, cap, cur, rfl, hg, hn, hm, hc, hcs⟩
  · omega
  have hcur : cur.size = off + cap * 1 := by rcases hc with h | h; omega; exact h
  obtain ⟨w1, hr, hg1, cur', b1, b2, b3⟩ := rwS.clear (cap := cap) (off := off) (k := k) (by decide) hg hk (by omega)
  have c1 : (k : Int) ≤ (cap : Int) := by omega
  have c2 : (0 : Int) ≤ (k : Int) := by omega
  have c3 : (k : Int) ≤ ((m + k : Nat) : Int) := by omega
  have fin := mkHid (shr_cut (w' := w1) (m := m) (k := k) b1 hn hm hcur b2 hcs h.1 b3)
  have HG := mkHid hg1
  have hx := h.1
  by_cases hcap : cap = k
  · obtain rfl : m = 0 := by omega
    have e0 : (usC l).drop (k * 1) = [] := List.drop_eq_nil_of_le (by omega)
    rw [e0] at fin ⊢
    rw [Nat.zero_add] at h ⊢
    have HB := mkHid b1
    subst hcap
    clear h hg hn hm hc hcs hcur b1 b2 b3 hx e0 hg1
    go_enter Try.func62, Try.ntmps62
    go_wp2_with fail
    go_ret
    refine ⟨_, rfl, ⟨rfl, Or.inr ⟨_, _, _, _, rfl, HB.out, Nat.le_refl _, by simp, Or.inl (by simp), fun j u hj => by simp at hj⟩⟩, HG.out, rfl⟩
  · have hcap2 : ¬ (cap : Int) = (k : Int) := by omega
    have hcap3 : ¬ k = cap := by omega
    clear h hg hn hm hc hcs hcur b1 b2 b3 hx hg1
    go_enter Try.func62, Try.ntmps62
    go_wp2_with fail
    go_ret
    refine ⟨_, rfl, ?_, HG.out, rfl⟩
    have := fin.out
    simpa using this
set_option maxHeartbeats 1000000 in
set_option maxRecDepth 100000 in
theorem behindM (v : Value) (l : List (Nat × ByteArray)) (k m : Nat) (h : shr w 82 2 v (m + k) (msC l)) (hk : 0 < k) : Calls Try.prog 51 #[v, .int .i64 k] w (BhQ w 82 2 m v ((msC l).drop (k * 2))) := by
  rcases h.2 with ⟨rfl, h0⟩ | ⟨g, off, cap, cur, rfl, hg, hn, hm, hc, hcs⟩
  · omega
  have hcur : cur.size = off + cap * 2 := by rcases hc with h | h; omega; exact h
  obtain ⟨w1, hr, hg1, cur', b1, b2, b3⟩ := rwM.clear (cap := cap) (off := off) (k := k) (by decide) hg hk (by omega)
  have c1 : (k : Int) ≤ (cap : Int) := by omega
  have c2 : (0 : Int) ≤ (k : Int) := by omega
  have c3 : (k : Int) ≤ ((m + k : Nat) : Int) := by omega
  have fin := mkHid (shr_cut (w' := w1) (m := m) (k := k) b1 hn hm hcur b2 hcs h.1 b3)
  have HG := mkHid hg1
  have hx := h.1
  by_cases hcap : cap = k
  · obtain rfl : m = 0 := by omega
    have e0 : (msC l).drop (k * 2) = [] := List.drop_eq_nil_of_le (by omega)
    rw [e0] at fin ⊢
    rw [Nat.zero_add] at h ⊢
    have HB := mkHid b1
    subst hcap
    clear h hg hn hm hc hcs hcur b1 b2 b3 hx e0 hg1
    go_enter Try.func51, Try.ntmps51
    go_wp2_with fail
    go_ret
    refine ⟨_, rfl, ⟨rfl, Or.inr ⟨_, _, _, _, rfl, HB.out, Nat.le_refl _, by simp, Or.inl (by simp), fun j u hj => by simp at hj⟩⟩, HG.out, rfl⟩
  · have hcap2 : ¬ (cap : Int) = (k : Int) := by omega
    have hcap3 : ¬ k = cap := by omega
    clear h hg hn hm hc hcs hcur b1 b2 b3 hx hg1
    go_enter Try.func51, Try.ntmps51
    go_wp2_with fail
    go_ret
    refine ⟨_, rfl, ?_, HG.out, rfl⟩
    have := fin.out
    simpa using this
end Go.Proofs.Ytbdlamlplfogjaa
