/-
  The walks of locksteplaw02.Own and Spoil: a row in memory of its own, and one that is written over.
-/
import Derived.Test.YtjdnbgnjgicbbaaDoorDgA
import Derived.Test.YtjdnbgnjgicbbaaDoorVaO
namespace Go.Proofs.YtjdnbgnjgicbbaaDoor
open Go.RowKit Go.Shelf

/-- a value's three cells -/
def cellsOf (v : Va) : List Value := [.int .i64 v.ty, .int .i64 v.n, .string v.s]
/-- the cells of a row -/
def flat (l : List Va) : List Value := l.flatMap cellsOf
theorem flat_cons (v : Va) (l : List Va) : flat (v :: l) = cellsOf v ++ flat l := rfl
theorem flat_len : ∀ l : List Va, (flat l).length = l.length * 3
  | [] => rfl
  | v :: l => by rw [flat_cons, List.length_append, flat_len l]; simp [cellsOf]; omega
theorem flat_get : ∀ (l : List Va) (i : Nat) (v : Va) (r : Nat), l[i]? = some v → r < 3 → (flat l)[i * 3 + r]? = (cellsOf v)[r]?
  | [], i, v, r, h, _ => by simp at h
  | x :: l, 0, v, r, h, hr => by
    simp at h; subst h
    rw [flat_cons, Nat.zero_mul, Nat.zero_add, List.getElem?_append_left (by simp [cellsOf]; exact hr)]
  | x :: l, i + 1, v, r, h, hr => by
    simp at h
    rw [flat_cons, List.getElem?_append_right (by simp [cellsOf]; omega), ← flat_get l i v r h hr]
    congr 1
    simp [cellsOf]; omega
theorem flat_one (l : List Va) : ∀ u ∈ flat l, u.oneCell' = true := by
  intro u hu
  simp only [flat, List.mem_flatMap, cellsOf, List.mem_cons, List.not_mem_nil, or_false] at hu
  obtain ⟨v, _, rfl | rfl | rfl⟩ := hu <;> rfl
theorem rowIn.flat {w : World} {p : Option Addr} {l : List Va} (h : rowIn w p l) : ∀ ad, p = some ad → ∀ j u, (flat l)[j]? = some u → w.cell? (ad.add j) = some u := by
  intro ad had j u hj
  have hl := (List.getElem?_eq_some_iff.1 hj).1
  rw [flat_len] at hl
  rcases h with rfl | ⟨g, off, rfl, hg, hcs⟩
  · simp at hl
  obtain rfl := Option.some.inj had
  have hi : j / 3 < l.length := by omega
  have hv : l[j / 3]? = some l[j / 3] := List.getElem?_eq_getElem hi
  have hr : j % 3 < 3 := by omega
  have e : j / 3 * 3 + j % 3 = j := by omega
  have k := flat_get l (j / 3) _ (j % 3) hv hr
  rw [e, hj] at k
  obtain ⟨c0, c1, c2⟩ := hcs _ _ hv
  have ea : (⟨g, off, none⟩ : Addr).add j = ⟨g, off + j, none⟩ := by simp only [Addr.add]; split <;> simp_all
  rw [ea]
  rcases (show j % 3 = 0 ∨ j % 3 = 1 ∨ j % 3 = 2 by omega) with z | z | z
  · rw [z] at k e; rw [show (⟨g, off + j, none⟩ : Addr) = ⟨g, off + j / 3 * 3, none⟩ by rw [← e]; simp, c0]; simp [cellsOf] at k; rw [k]
  · rw [z] at k e; rw [show (⟨g, off + j, none⟩ : Addr) = ⟨g, off + j / 3 * 3 + 1, none⟩ by rw [Nat.add_assoc, e], c1]; simp [cellsOf] at k; rw [k]
  · rw [z] at k e; rw [show (⟨g, off + j, none⟩ : Addr) = ⟨g, off + j / 3 * 3 + 2, none⟩ by rw [Nat.add_assoc, e], c2]; simp [cellsOf] at k; rw [k]
theorem rowInfo : (Tryd.prog.info? 23).map (fun i => (i.zero, i.size, i.bytes)) = some (some (.agg #[.int .i64 0, .int .i64 0, .string ⟨#[]⟩]), 3, 32) := by kernel_rfl
theorem rowType : Tryd.prog.underlying 46 = some (.slice 23) := by kernel_rfl
theorem rowIn_own {w : World} {base g n cap : Nat} {l : List Va} (h : w.ownsRow base 23 3 (.slice (some ⟨g, 0, none⟩) n cap) n (flat l)) (hn : n = l.length) : rowIn w (some ⟨g, 0, none⟩) l := by
  subst hn
  refine Or.inr ⟨g, 0, rfl, (World.ownsRow.lt h g rfl).2, fun i v hv => ?_⟩
  have hi := (List.getElem?_eq_some_iff.1 hv).1
  have k0 := flat_get l i v 0 hv (by omega)
  have k1 := flat_get l i v 1 hv (by omega)
  have k2 := flat_get l i v 2 hv (by omega)
  rw [Nat.zero_add]
  refine ⟨?_, ?_, ?_⟩
  · rw [h.cellAt _ (by omega)]; exact k0
  · rw [h.cellAt _ (by omega)]; exact k1
  · rw [h.cellAt _ (by omega)]; exact k2
theorem rowIn.none_nil {w : World} {l : List Va} (h : rowIn w none l) : l = [] := by
  rcases h with h | ⟨g, off, h, _⟩
  · exact h
  · cases h

set_option maxHeartbeats 2000000 in
set_option maxRecDepth 1000000 in
theorem Own_any (p : Option Addr) (c : Nat) (la : List Va) (w : World) (hp : rowIn w p la) (hn : p = none → c = 0) (hl : la.length ≤ 1048576) :
    Calls Tryd.prog 16 #[.slice p la.length c] w fun e w' => e = .returned (.slice (some ⟨w.heap.size, 0, none⟩) la.length (la.length + 1)) ∧ w'.ownsRow w.heap.size 23 3 (.slice (some ⟨w.heap.size, 0, none⟩) la.length (la.length + 1)) la.length (flat la) ∧ Below w.heap.size w w' := by
  obtain ⟨i0, hi, hz0, hz1, hz2⟩ := info_parts rowInfo
  have HP : Hid (rowIn w p la) := hp
  have HN : Hid (p = none → c = 0) := hn
  clear hp hn
  go_enter Tryd.func16, Tryd.ntmps16
  go_wp2_with (first | (at_make; refine wpList_make_own _ rfl (.const (.int .i64 0)) (.tmp 5) 46 rfl w.heap.size 23 i0 (.agg #[.int .i64 0, .int .i64 0, .string ⟨#[]⟩]) 3 rowType hi hz0 hz1 .i64 .i64 ((la.length : Int) + 1) (la.length + 1) rfl rfl (by omega) (by rw [hz2]; omega) (by unfold maxLen; omega) (Nat.le_refl _) ?_; intro w1 ho1 hg1) | (at_builtin; refine wpList_append_fits_any _ rfl (.tmp 6) (.tmp 7) 46 rfl w.heap.size 23 i0 3 rowType hi hz1 w.heap.size 0 (la.length + 1) [] rfl ho1 p la.length c (flat la) rfl (flat_len la) (fun h => ⟨by have := HP.out; rw [h] at this; rw [this.none_nil]; rfl, HN.out h⟩) (HP.out.below (grown_below hg1 (Nat.le_refl _) (by intro g h; cases h))).flat (flat_one _) (by omega) ?_; intro w2 ho2 hg2))
  go_ret
  have b1 : Below w.heap.size w w1 := grown_below hg1 (Nat.le_refl _) (by intro g h; cases h)
  rw [Nat.zero_add, List.nil_append] at ho2
  exact ⟨rfl, ho2, b1.trans (grown_below hg2 b1.size (by intro g h; cases h; exact Nat.le_refl _))⟩

/-- an append of one value onto a row of one's own, and what it leaves alone -/
theorem app_val {ops : Array Oper} {rest : List Oper} {o : Oper} {a : Act} {w : World} {Q : Exit → Act → World → Prop} (hgd : o.guard = none) (s x : Operand)
    (ho : o.op = .call { callee := .builtin .append, args := #[s, x], argTypes := #[46, 46] })
    (base : Nat) (v : Value) (n : Nat) (xs : List Value) (cs : Array Value) (hs : a.eval s = v) (hown : w.ownsRow base 23 3 v n xs) (hcs : cs.size = 3) (h1c : ∀ u ∈ cs.toList, u.oneCell' = true)
    (hx : a.eval x = .slice (some ⟨w.heap.size, 0, none⟩) 1 1) (hl : n ≤ 10000000) (hb : base ≤ w.heap.size)
    (h : ∀ v' w', w.grownBy w' v.ownBlock → wpList Tryd.prog ops Q rest (a.put o.dst v') w') :
    wpList Tryd.prog ops Q (o :: rest) a (w.alloc (.cells cs 23)) := by
  obtain ⟨i0, hi, hz0, hz1, hz2⟩ := info_parts rowInfo
  refine wpList_append_own _ hgd s x 46 ho base 23 i0 (.agg #[.int .i64 0, .int .i64 0, .string ⟨#[]⟩]) 3 32 rowType hi hz0 hz1 hz2 rfl (by decide) v n xs hs (World.ownsRow.alloc hown _) ⟨w.heap.size, 0, none⟩ 1 1 cs.toList hx (by simpa using hcs) ?_ h1c (by unfold maxLen; omega) (by omega) (by simp; omega) ?_
  · intro j u hj
    have ea : (⟨w.heap.size, 0, none⟩ : Addr).add j = ⟨w.heap.size, j, none⟩ := by simp [Addr.add]; intro h; exact h.symm
    rw [ea, ← hj]
    simp only [World.cell?, heap_alloc_new]
    simp
  · intro v' w' _ h2 _
    exact h v' w' ((World.grownBy_alloc w _ _).andThen h2 (fun j hj => Or.inr hj))

set_option maxHeartbeats 4000000 in
set_option maxRecDepth 1000000 in
theorem Spoil_any (base g n cap : Nat) (xs : List Value) (w : World) (hown : w.ownsRow base 23 3 (.slice (some ⟨g, 0, none⟩) n cap) n xs) (hl : n ≤ 1048576) (hb : base ≤ w.heap.size) :
    Calls Tryd.prog 19 #[.slice (some ⟨g, 0, none⟩) n cap] w fun e w' => (∃ v, e = .returned v) ∧ w.grownBy w' (some g) := by
  have HO : Hid (w.ownsRow base 23 3 (.slice (some ⟨g, 0, none⟩) n cap) n xs) := hown
  clear hown
  go_enter Tryd.func19, Tryd.ntmps19
  go_wp2_with fail
  go_loopw [2] (fun sk wr => ∃ (k : Nat) (ys : List Value), sk = .int .i64 k ∧ k ≤ n ∧ Hid (wr.ownsRow base 23 3 (.slice (some ⟨g, 0, none⟩) n cap) n ys) ∧ Hid (w.grownBy wr (some g))) (fun sk _ => n - (intOf sk).toNat)
  case atStart => exact ⟨0, xs, rfl, Nat.zero_le _, HO, World.grownBy.refl _ _⟩
  case round =>
    obtain ⟨k, ys, rfl, hk, ho, hgr⟩ := hrel
    by_cases hlt : k < n
    · have z : ys.length = n * 3 := ho.out.1
      have f0 := World.ownsRow.frozenAt ho.out (k * 3)
      have f1 := World.ownsRow.frozenAt ho.out (k * 3 + 1)
      have f2 := World.ownsRow.frozenAt ho.out (k * 3 + 2)
      obtain ⟨y0, hy0⟩ : ∃ y, ys[k * 3]? = some y := ⟨ys[k * 3]'(by omega), List.getElem?_eq_getElem (by omega)⟩
      obtain ⟨y1, hy1⟩ : ∃ y, ys[k * 3 + 1]? = some y := ⟨ys[k * 3 + 1]'(by omega), List.getElem?_eq_getElem (by omega)⟩
      obtain ⟨y2, hy2⟩ : ∃ y, ys[k * 3 + 2]? = some y := ⟨ys[k * 3 + 2]'(by omega), List.getElem?_eq_getElem (by omega)⟩
      have c0 : wr.cell? ⟨g, k * 3, none⟩ = some y0 := (World.ownsRow.cellAt ho.out (k * 3) (by omega)).trans hy0
      have c1 : wr.cell? ⟨g, k * 3 + 1, none⟩ = some y1 := (World.ownsRow.cellAt ho.out (k * 3 + 1) (by omega)).trans hy1
      have c2 : wr.cell? ⟨g, k * 3 + 2, none⟩ = some y2 := (World.ownsRow.cellAt ho.out (k * 3 + 2) (by omega)).trans hy2
      obtain ⟨s1, t1⟩ := World.ownsRow.stored ho.out (k * 3) (.int .i64 77)
      obtain ⟨s2, t2⟩ := World.ownsRow.stored s1 (k * 3 + 1) (.int .i64 0)
      obtain ⟨s3, t3⟩ := World.ownsRow.stored s2 (k * 3 + 2) (.string ⟨#[115, 112, 111, 105, 108, 116]⟩)
      have S1 : Hid _ := s3
      have S2 : Hid (w.grownBy _ (some g)) := ((hgr.out.andThen t1 (fun j hj => Or.inr hj)).andThen t2 (fun j hj => Or.inr hj)).andThen t3 (fun j hj => Or.inr hj)
      clear s1 s2 s3 t1 t2 t3 ho hgr hy0 hy1 hy2 z
      go_wp2_with fail
      go_roundw
      case rel => exact ⟨k + 1, _, by go_num, hlt, S1, S2⟩
      case measure => simp [intOf]; omega
    · have hbr : base ≤ wr.heap.size := Nat.le_trans hb hgr.out.size
      have ho3 := ho.out
      go_wp2_with (at_builtin; refine app_val rfl (.tmp 13) (.tmp 15) rfl base _ n ys _ rfl ho3 rfl (by intro u hu; simp at hu; rcases hu with rfl | rfl | rfl <;> rfl) rfl (by omega) hbr ?_; intro v3 w3 hg3)
      go_end0
      exact ⟨⟨_, rfl⟩, hgr.out.andThen hg3 (fun j hj => Or.inr hj)⟩
end Go.Proofs.YtjdnbgnjgicbbaaDoor
