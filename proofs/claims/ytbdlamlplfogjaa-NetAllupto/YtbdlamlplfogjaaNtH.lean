/-
  Walks: a packet that is taken off the way.
-/
import Derived.Test.YtbdlamlplfogjaaNtG
namespace Go.Proofs.Ytbdlamlplfogjaa
open Go.RowKit Go.Maps Go.Joins
variable {P : Nat → Prop} {w w' : World} {n c : Nat} {S : St} {L : Ly}

theorem pkC_take : ∀ (l : List Pk) (i : Nat), pkC (l.take i) = (pkC l).take (i * 6)
  | [], i => by simp [pkC]
  | p :: l, 0 => by simp [pkC]
  | p :: l, i + 1 => by
    have ih := pkC_take l i
    show pkL p ++ pkC (l.take i) = (pkL p ++ pkC l).take ((i + 1) * 6)
    have h6 : (pkL p).length = 6 := rfl
    have e0 : (pkL p).take ((i + 1) * 6) = pkL p := List.take_of_length_le (by omega)
    rw [ih, List.take_append, e0, h6, show (i + 1) * 6 - 6 = i * 6 by omega]
theorem pkC_drop : ∀ (l : List Pk) (i : Nat), pkC (l.drop i) = (pkC l).drop (i * 6)
  | [], i => by simp [pkC]
  | p :: l, 0 => by simp
  | p :: l, i + 1 => by
    have ih := pkC_drop l i
    show pkC (l.drop i) = (pkL p ++ pkC l).drop ((i + 1) * 6)
    have h6 : (pkL p).length = 6 := rfl
    have e0 : (pkL p).drop ((i + 1) * 6) = [] := List.drop_eq_nil_of_le (by omega)
    rw [ih, List.drop_append, e0, List.nil_append, h6, show (i + 1) * 6 - 6 = i * 6 by omega]
theorem pkC_erase (l : List Pk) (i : Nat) : pkC (l.eraseIdx i) = (pkC l).take (i * 6) ++ (pkC l).drop ((i + 1) * 6) := by
  rw [List.eraseIdx_eq_take_drop_succ, pkC_app, pkC_take, pkC_drop]
theorem slice_own {a : Addr} {k m : Nat} : (Value.slice (some a) k m).ownBlock = some a.block := rfl
/-- 'append(s[:i], s[i+1:]...)', laid ahead -/
theorem del_run {g off N cap i : Nat} {cur : Array Value} {xs : List Value} (hg : w.heap[g]? = some (.cells cur 79 (0, 0))) (hn : N ≤ cap) (hc : cur.size = off + cap * 6) (hcs : ∀ j u, xs[j]? = some u → cur[off + j]? = some u) (hx : xs.length = N * 6) (h1 : ∀ u ∈ xs, u.oneCell' = true) (hi : i < N) {ad : Addr} {c2 : Nat} (had : ∀ j u, (xs.drop ((i + 1) * 6))[j]? = some u → w.cell? (ad.add j) = some u) :
    ∃ w1, (∀ ty, (Builtin.append_ #[71, 71] ty #[.slice (some ⟨g, off, none⟩) i cap, .slice (some ad) (N - (i + 1)) c2]).run Try.prog w = .ok (.slice (some ⟨g, off, none⟩) (N - 1) cap) w1) ∧ w.grownBy w1 (some g) ∧
      ∃ cur', w1.heap[g]? = some (.cells cur' 79 (0, 0)) ∧ cur'.size = cur.size ∧ ∀ j u, (xs.take (i * 6) ++ xs.drop ((i + 1) * 6))[j]? = some u → cur'[off + j]? = some u := by
  obtain ⟨inf, hinf, hz, hs, hb⟩ := info_parts rwP.inf
  have hlen : (xs.drop ((i + 1) * 6)).length = (N - (i + 1)) * inf.size := by rw [List.length_drop, hx, hs, Nat.sub_mul]
  have hr := fun ty => run_append_room_cells (P := Try.prog) w 71 ty 79 inf rwP.sl hinf g off i cap ad (N - (i + 1)) c2 (xs.drop ((i + 1) * 6)) hlen had (fun u hu => h1 u (List.mem_of_mem_drop hu)) (by omega) (fun j hj => by
    rw [cell_of_block hg]
    rw [hlen, hs] at hj
    rw [hs]
    show (cur[off + i * 6 + j]?).isSome = true
    rw [Array.getElem?_eq_getElem (show off + i * 6 + j < cur.size by omega)]; rfl) (fun j _ => unfrozen_of_block hg _)
  rw [hs] at hr hlen
  obtain ⟨cs', k1, k2, k3, k4⟩ := setCells_get g (xs.drop ((i + 1) * 6)) (off + i * 6) w cur 79 (0, 0) hg
  refine ⟨_, fun ty => ?_, setCells_grown g (xs.drop ((i + 1) * 6)) (off + i * 6) w, cs', k1, k2, fun j u hj => ?_⟩
  · rw [hr ty, show i + (N - (i + 1)) = N - 1 by omega]
  · have htl : (xs.take (i * 6)).length = i * 6 := by rw [List.length_take, hx]; omega
    rcases Nat.lt_or_ge j (i * 6) with hlt | hge
    · rw [List.getElem?_append_left (by omega), List.getElem?_take] at hj
      rw [if_pos hlt] at hj
      rw [k3 _ (Or.inl (by omega))]; exact hcs j u hj
    · rw [List.getElem?_append_right (by omega), htl] at hj
      have hl := (List.getElem?_eq_some_iff.1 hj).1
      have := k4 _ u hj (by omega)
      rw [show off + j = off + i * 6 + (j - i * 6) by omega]; exact this
theorem pkC_one (l : List Pk) : ∀ u ∈ pkC l, u.oneCell' = true := by
  intro u hu
  simp only [pkC, List.mem_flatMap] at hu
  obtain ⟨p, _, h⟩ := hu
  exact pkL_one p u h
theorem del_fin {g off N cap i : Nat} {cur cur1 cur2 : Array Value} {xs : List Value} (hn : N + 1 ≤ cap) (hm : cap ≤ maxLen) (hc : cur.size = off + cap * 6) (hx : xs.length = (N + 1) * 6) (hi : i < N + 1) (b2 : cur1.size = cur.size) (d2 : cur2.size = cur1.size) (b3 : ∀ j u, (xs.take (i * 6) ++ xs.drop ((i + 1) * 6))[j]? = some u → cur1[off + j]? = some u) (d1 : w'.heap[g]? = some (.cells cur2 79 (0, 0))) (d3 : ∀ j, j < off + N * 6 ∨ off + N * 6 + 1 * 6 ≤ j → cur2[j]? = cur1[j]?) :
    shr w' 79 6 (.slice (some ⟨g, off, none⟩) N cap) N (xs.take (i * 6) ++ xs.drop ((i + 1) * 6)) := by
  have hl : (xs.take (i * 6) ++ xs.drop ((i + 1) * 6)).length = N * 6 := by rw [List.length_append, List.length_take, List.length_drop, hx]; omega
  refine ⟨hl, Or.inr ⟨g, off, cap, cur2, rfl, d1, by omega, hm, Or.inr (by omega), fun j u hj => ?_⟩⟩
  have := (List.getElem?_eq_some_iff.1 hj).1
  rw [d3 _ (Or.inl (by omega))]
  exact b3 j u hj
set_option maxHeartbeats 6000000 in
set_option maxRecDepth 100000 in
theorem Delete_any (v : Value) (l : List Pk) (i : Nat) (h : shr w 79 6 v l.length (pkC l)) (hi : i < l.length) : Calls Try.prog 60 #[v, .int .i64 i, .int .i64 ((i + 1 : Nat) : Int)] w (BhQ w 79 6 (l.length - 1) v (pkC (l.eraseIdx i))) := by
  rcases h.2 with ⟨rfl, h0⟩ | ⟨g, off, cap, cur, rfl, hg, hn, hm, hc, hcs⟩
  · omega
  have hcur : cur.size = off + cap * 6 := by rcases hc with h | h; omega; exact h
  have hx := h.1
  rw [pkC_erase]
  have hone := pkC_one l
  generalize pkC l = xs at hcs hx hone
  obtain ⟨N, hN⟩ : ∃ N, l.length = N + 1 := ⟨l.length - 1, by omega⟩
  rw [hN] at hi hn hx ⊢
  clear h hc hN
  have r1 : (i : Int) ≤ (N : Int) := by omega
  have r2 : (0 : Int) ≤ (i : Int) := by omega
  have r3 : ((i + 1 : Nat) : Int) ≤ ((N + 1 : Nat) : Int) := by omega
  have r4 : ((N + 1 : Nat) : Int) ≤ (cap : Int) := by omega
  have r5 : ¬ ((i : Int) = ((i + 1 : Nat) : Int)) := by omega
  have hic : i ≤ cap := by omega
  have r6 : (0 : Int) ≤ (i : Int) + 1 := by omega
  have hiN : i ≤ N := by omega
  by_cases hcap : cap = i + 1
  · obtain rfl : i = N := by omega
    obtain ⟨w1, hr, hg1, cur1, b1, b2, b3⟩ := del_run (w := w.drew) (N := i + 1) (cap := cap) hg hn hcur hcs hx hone hi (ad := ⟨g, off, none⟩) (c2 := 0) (fun j u hj => by
      rw [List.drop_eq_nil_of_le (by omega)] at hj; simp at hj)
    rw [Nat.sub_self, Nat.add_sub_cancel] at hr
    obtain ⟨w2, hr2, hg2, cur2, d1, d2, d3⟩ := rwP.clear (cap := cap - i) (off := off + i * 6) (k := 1) (by decide) b1 (by omega) (by omega)
    have fin := mkHid (del_fin (w' := w2) hn hm hcur hx hi b2 d2 b3 d1 d3)
    have HG := mkHid (grown_trans hg1 hg2)
    subst hcap
    rw [show i + 1 - i = 1 by omega] at hr2
    have r7 : (i : Int) ≤ (i : Int) + 1 := by omega
    clear hg hg1 hg2 b1 b2 b3 d1 d2 d3 hcur hx hone hcs r3 r4 hiN hic hi hn hm cur cur1 cur2
    go_enter Try.func60, Try.ntmps60
    go_wp2_with fail
    go_region_law (refine step_app 71 rfl (.tmp 22) (.tmp 25) rfl (v := .slice (some ⟨g, off, none⟩) i (i + 1)) (y := .slice (some ⟨g, off, none⟩) 0 0) rfl rfl hr ?_)
    all_goals
      go_wp2_with fail
      go_ret
      exact ⟨_, rfl, fin.out, ⟨HG.out.os, HG.out.tape, HG.out.output, HG.out.size, HG.out.block⟩, rfl⟩
  · obtain ⟨w1, hr, hg1, cur1, b1, b2, b3⟩ := del_run (w := w.drew) (N := N + 1) (cap := cap) hg hn hcur hcs hx hone hi (ad := ⟨g, off + (i + 1) * 6, none⟩) (c2 := cap - (i + 1)) (fun j u hj => by
      rw [add_plain]
      rw [List.getElem?_drop] at hj
      have := (cell_of_block hg (off + ((i + 1) * 6 + j))).trans (hcs _ u hj)
      rw [← Nat.add_assoc] at this
      exact this)
    rw [show N + 1 - (i + 1) = N - i by omega, Nat.add_sub_cancel] at hr
    obtain ⟨w2, hr2, hg2, cur2, d1, d2, d3⟩ := rwP.clear (cap := cap - N) (off := off + N * 6) (k := 1) (by decide) b1 (by omega) (by omega)
    have fin := mkHid (del_fin (w' := w2) hn hm hcur hx hi b2 d2 b3 d1 d3)
    have HG := mkHid (grown_trans hg1 hg2)
    clear hg hg1 hg2 b1 b2 b3 d1 d2 d3 hcur hx hone hcs r3 r4 cur cur1 cur2
    go_enter Try.func60, Try.ntmps60
    go_wp2_with fail
    go_region_law (refine step_app 71 rfl (.tmp 22) (.tmp 25) rfl (v := .slice (some ⟨g, off, none⟩) i cap) (y := .slice (some ⟨g, off + (i + 1) * 6, none⟩) (N - i) (cap - (i + 1))) rfl rfl hr ?_)
    all_goals
      go_wp2_with fail
      go_ret
      exact ⟨_, rfl, fin.out, ⟨HG.out.os, HG.out.tape, HG.out.output, HG.out.size, HG.out.block⟩, rfl⟩
end Go.Proofs.Ytbdlamlplfogjaa
