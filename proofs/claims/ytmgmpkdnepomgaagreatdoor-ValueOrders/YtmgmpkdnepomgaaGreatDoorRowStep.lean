/-
  append(api.Row{}, r...) as one step: a row in memory of its own.
-/
import Derived.Test.YtmgmpkdnepomgaaGreatDoorOrdR
import Derived.Deep.RegionLawGrows
import Derived.OwnWalk
namespace Go.Proofs.YtmgmpkdnepomgaaGreatDoor
open Go.RowKit Go.Shelf

/-- a value's three cells -/
def cellsOf (v : Va) : List Value := [.int .i64 v.ty, .int .i64 v.n, .string v.s]
/-- the cells of a row -/
def flat (l : List Va) : List Value := l.flatMap cellsOf
theorem flat_cons (v : Va) (l : List Va) : flat (v :: l) = cellsOf v ++ flat l := rfl
theorem flat_len : ∀ l : List Va, (flat l).length = l.length * 3
  | [] => rfl
  | v :: l => by rw [flat_cons, List.length_append, flat_len l]; simp [cellsOf]; omega
theorem flat_get : ∀ (l : List Va) (i : Nat) (v : Va) (r : Nat), l[i]? = some v → r < 3 → (flat l)[i * 3 + r]? = (cellsOf v)[r]?
  | [], i, v, r, h, _ => by simp at h
  | x :: l, 0, v, r, h, hr => by
    simp at h; subst h
    rw [flat_cons, Nat.zero_mul, Nat.zero_add, List.getElem?_append_left (by simp [cellsOf]; exact hr)]
  | x :: l, i + 1, v, r, h, hr => by
    simp at h
    rw [flat_cons, List.getElem?_append_right (by simp [cellsOf]; omega), ← flat_get l i v r h hr]
    congr 1
    simp [cellsOf]; omega
theorem valsAt.flat {w : World} {g : Nat} {l : List Va} (h : valsAt w g l) : ∀ j u, (flat l)[j]? = some u → w.cell? ((⟨g, 0, none⟩ : Addr).add j) = some u := by
  intro j u hj
  have hl := (List.getElem?_eq_some_iff.1 hj).1
  rw [flat_len] at hl
  have hi : j / 3 < l.length := by omega
  have hv : l[j / 3]? = some l[j / 3] := List.getElem?_eq_getElem hi
  have hr : j % 3 < 3 := by omega
  have e : j / 3 * 3 + j % 3 = j := by omega
  have k := flat_get l (j / 3) _ (j % 3) hv hr
  rw [e, hj] at k
  obtain ⟨c0, c1, c2⟩ := h.2 _ _ hv
  have ea : (⟨g, 0, none⟩ : Addr).add j = ⟨g, j, none⟩ := by simp [Addr.add]; intro h; exact h.symm
  rw [ea]
  rcases (show j % 3 = 0 ∨ j % 3 = 1 ∨ j % 3 = 2 by omega) with z | z | z
  · rw [z] at k e; rw [show j = j / 3 * 3 by omega, c0]; simp [cellsOf] at k; rw [k]
  · rw [z] at k e; rw [show (⟨g, j, none⟩ : Addr) = ⟨g, j / 3 * 3 + 1, none⟩ by rw [e], c1]; simp [cellsOf] at k; rw [k]
  · rw [z] at k e; rw [show (⟨g, j, none⟩ : Addr) = ⟨g, j / 3 * 3 + 2, none⟩ by rw [e], c2]; simp [cellsOf] at k; rw [k]
theorem flat_one (l : List Va) : ∀ u ∈ flat l, u.oneCell' = true := by
  intro u hu
  simp only [flat, List.mem_flatMap, cellsOf, List.mem_cons, List.not_mem_nil, or_false] at hu
  obtain ⟨v, _, rfl | rfl | rfl⟩ := hu <;> rfl
theorem valsAt_own {w : World} {base g n cap : Nat} {l : List Va} (h : w.ownsRow base 23 3 (.slice (some ⟨g, 0, none⟩) n cap) n (flat l)) (hn : n = l.length) (hg : g < w.heap.size) : valsAt w g l := by
  subst hn
  refine ⟨hg, fun i v hv => ?_⟩
  have hi := (List.getElem?_eq_some_iff.1 hv).1
  have k0 := flat_get l i v 0 hv (by omega)
  have k1 := flat_get l i v 1 hv (by omega)
  have k2 := flat_get l i v 2 hv (by omega)
  refine ⟨?_, ?_, ?_⟩
  · rw [h.cellAt _ (by omega)]; exact k0
  · rw [h.cellAt _ (by omega)]; exact k1
  · rw [h.cellAt _ (by omega)]; exact k2
theorem below_grown {a b : World} (h : a.grownBy b none) : Below a.heap.size a b := ⟨h.os, h.tape, h.output, h.size, fun k hk => h.block k hk (by simp)⟩
theorem rowInfo : (Tryz.prog.info? 23).map (fun i => (i.zero, i.size, i.bytes)) = some (some (.agg #[.int .i64 0, .int .i64 0, .string ⟨#[]⟩]), 3, 32) := by kernel_rfl
theorem rowType : Tryz.prog.underlying 29 = some (.slice 23) := by kernel_rfl

theorem step_append_row {ops : Array Oper} {o : Oper} {a : Act} {w : World} {K : Act → World → Prop} {Q : Exit → Act → World → Prop} {E : Prop}
    (hg : o.guard = none) (s x : Operand) (hop : o.op = Op.call { callee := Callee.builtin Builtin.append, args := #[s, x], argTypes := #[29, 29] })
    (g gx c : Nat) (l : List Va) (hs : a.eval s = .slice (some ⟨g, 0, none⟩) 0 0) (hgw : g < w.heap.size) (hx : a.eval x = .slice (some ⟨gx, 0, none⟩) l.length c) (hl : l.length ≤ 1000) (hr : valsAt w gx l)
    (hK : ∀ g' c' w', valsAt w' g' l → Below w.heap.size w w' → K (a.put o.dst (.slice (some ⟨g', 0, none⟩) l.length c')) w') :
    if Region.wanted o (yielded ops a.tmps) = true then Oper.wp Tryz.prog o a w K Q else E := by
  obtain ⟨i0, hi, hz0, hz1, hz2⟩ := info_parts rowInfo
  rcases Nat.eq_zero_or_pos l.length with h0 | h0
  · obtain rfl : l = [] := List.eq_nil_of_length_eq_zero h0
    exact step_append_room hg s x 29 hop 23 i0 3 rowType hi hz1 g 0 0 0 hs ⟨gx, 0, none⟩ 0 c [] hx rfl (by intro j u hj; simp at hj) (by intro u hu; simp at hu) (Nat.le_refl _) (by intro j hj; simp at hj) (hK g 0 w ⟨hgw, by intro i v hv; simp at hv⟩ (Below.refl _ _))
  · refine step_append_grows hg s x 29 hop 23 i0 _ 3 32 rowType hi hz0 hz1 hz2 rfl (by decide) (some ⟨g, 0, none⟩) 0 0 [] hs (by intro h; cases h) rfl (by intro b hb j u hj; simp at hj) ⟨gx, 0, none⟩ l.length c (flat l) hx (flat_len l) hr.flat (flat_one l) (by omega) (by unfold maxLen; omega) (by omega) ?_
    intro v' w' hown hgrow
    rw [List.nil_append] at hown
    obtain ⟨hlen, hh⟩ := id hown
    rcases hh with ⟨_, hz⟩ | ⟨g', cap, cur, rfl, hbase, hcur, _⟩
    · omega
    · have hlt : g' < w'.heap.size := by
        rcases Nat.lt_or_ge g' w'.heap.size with h | h
        · exact h
        · rw [Array.getElem?_eq_none h] at hcur; cases hcur
      have e : 0 + l.length = l.length := Nat.zero_add _
      have hv := valsAt_own hown e hlt
      have := hK g' cap w' hv (below_grown hgrow)
      rw [e]; exact this
end Go.Proofs.YtmgmpkdnepomgaaGreatDoor
