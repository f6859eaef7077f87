/-
  Rows, and slices of bytes, in lists of one's own; the walks of locksteplaw02.Own, Owned and lockstepref02.Lists.
  The walks of lockstepref02.Rows and Lists at lists that hold the same.
-/
import Derived.Test.YtedacccedbchaaaDoorBgA
import Derived.Test.YtedacccedbchaaaDoorBkH
import Derived.Deep.RegionHeld3
import Derived.BigQuiet
import Derived.Deep.QuietTactic
namespace Go.Proofs.YtedacccedbchaaaDoor
open Go.RowKit Go.Shelf

theorem rowIn.flat {w : World} {p : Option Addr} {l : List Va} (h : rowIn w p l) : ∀ ad, p = some ad → ∀ j u, (flat l)[j]? = some u → w.cell? (ad.add j) = some u := by
  intro ad had j u hj
  have hl := (List.getElem?_eq_some_iff.1 hj).1
  rw [flat_len] at hl
  rcases h with rfl | ⟨g, off, rfl, hg, hcs⟩
  · simp at hl
  obtain rfl := Option.some.inj had
  have hi : j / 3 < l.length := by omega
  have hv : l[j / 3]? = some l[j / 3] := List.getElem?_eq_getElem hi
  have hr : j % 3 < 3 := by omega
  have e : j / 3 * 3 + j % 3 = j := by omega
  have k := flat_get l (j / 3) _ (j % 3) hv hr
  rw [e, hj] at k
  obtain ⟨c0, c1, c2⟩ := hcs _ _ hv
  have ea : (⟨g, off, none⟩ : Addr).add j = ⟨g, off + j, none⟩ := by simp only [Addr.add]; split <;> simp_all
  rw [ea]
  rcases (show j % 3 = 0 ∨ j % 3 = 1 ∨ j % 3 = 2 by omega) with z | z | z
  · rw [z] at k e; rw [show (⟨g, off + j, none⟩ : Addr) = ⟨g, off + j / 3 * 3, none⟩ by rw [← e]; simp, c0]; simp [cellsOf] at k; rw [k]
  · rw [z] at k e; rw [show (⟨g, off + j, none⟩ : Addr) = ⟨g, off + j / 3 * 3 + 1, none⟩ by rw [Nat.add_assoc, e], c1]; simp [cellsOf] at k; rw [k]
  · rw [z] at k e; rw [show (⟨g, off + j, none⟩ : Addr) = ⟨g, off + j / 3 * 3 + 2, none⟩ by rw [Nat.add_assoc, e], c2]; simp [cellsOf] at k; rw [k]
theorem rowIn_own {w : World} {base g n cap : Nat} {l : List Va} (h : w.ownsRow base 46 3 (.slice (some ⟨g, 0, none⟩) n cap) n (flat l)) (hn : n = l.length) : rowIn w (some ⟨g, 0, none⟩) l := by
  subst hn
  refine Or.inr ⟨g, 0, rfl, (World.ownsRow.lt h g rfl).2, fun i v hv => ?_⟩
  have hi := (List.getElem?_eq_some_iff.1 hv).1
  have k0 := flat_get l i v 0 hv (by omega)
  have k1 := flat_get l i v 1 hv (by omega)
  have k2 := flat_get l i v 2 hv (by omega)
  rw [Nat.zero_add]
  refine ⟨?_, ?_, ?_⟩
  · rw [h.cellAt _ (by omega)]; exact k0
  · rw [h.cellAt _ (by omega)]; exact k1
  · rw [h.cellAt _ (by omega)]; exact k2
theorem rowIn.none_nil {w : World} {l : List Va} (h : rowIn w none l) : l = [] := by
  rcases h with h | ⟨g, off, h, _⟩
  · exact h
  · cases h

set_option maxHeartbeats 2000000 in
set_option maxRecDepth 1000000 in
theorem Own_any (p : Option Addr) (c : Nat) (la : List Va) (w : World) (hp : rowIn w p la) (hn : p = none → c = 0) (hl : la.length ≤ 1048576) :
    Calls Tryd.prog 20 #[.slice p la.length c] w fun e w' => e = .returned (.slice (some ⟨w.heap.size, 0, none⟩) la.length (la.length + 1)) ∧ w'.ownsRow w.heap.size 46 3 (.slice (some ⟨w.heap.size, 0, none⟩) la.length (la.length + 1)) la.length (flat la) ∧ Below w.heap.size w w' := by
  obtain ⟨i0, hi, hz0, hz1, hz2⟩ := info_parts rowInfo
  have HP : Hid (rowIn w p la) := hp
  have HN : Hid (p = none → c = 0) := hn
  clear hp hn
  go_enter Tryd.func20, Tryd.ntmps20
  go_wp2_with (first | (at_make; refine wpList_make_own _ rfl (.const (.int .i64 0)) (.tmp 5) 30 rfl w.heap.size 46 i0 (.agg #[.int .i64 0, .int .i64 0, .string ⟨#[]⟩]) 3 rowType hi hz0 hz1 .i64 .i64 ((la.length : Int) + 1) (la.length + 1) rfl rfl (by omega) (by rw [hz2]; omega) (by unfold maxLen; omega) (Nat.le_refl _) ?_; intro w1 ho1 hg1) | (at_builtin; refine wpList_append_fits_any _ rfl (.tmp 6) (.tmp 7) 30 rfl w.heap.size 46 i0 3 rowType hi hz1 w.heap.size 0 (la.length + 1) [] rfl ho1 p la.length c (flat la) rfl (flat_len la) (fun h => ⟨by have := HP.out; rw [h] at this; rw [this.none_nil]; rfl, HN.out h⟩) (HP.out.below (grown_below hg1 (Nat.le_refl _) (by intro g h; cases h))).flat (flat_one _) (by omega) ?_; intro w2 ho2 hg2))
  go_ret
  have b1 : Below w.heap.size w w1 := grown_below hg1 (Nat.le_refl _) (by intro g h; cases h)
  rw [Nat.zero_add, List.nil_append] at ho2
  exact ⟨rfl, ho2, b1.trans (grown_below hg2 b1.size (by intro g h; cases h; exact Nat.le_refl _))⟩


/-- two rows of one's own whose elements are of two types lie in two blocks -/
theorem kinds {w : World} {b1 b2 e1 e2 s1 s2 n1 n2 : Nat} {v1 v2 : Value} {x1 x2 : List Value} (h1 : w.ownsRow b1 e1 s1 v1 n1 x1) (h2 : w.ownsRow b2 e2 s2 v2 n2 x2) (hne : e1 ≠ e2) : v1.ownBlock = none ∨ v1.ownBlock ≠ v2.ownBlock := by
  rcases h1.2 with ⟨rfl, _⟩ | ⟨g1, c1, u1, rfl, _, hg1, _⟩
  · exact Or.inl rfl
  · rcases h2.2 with ⟨rfl, _⟩ | ⟨g2, c2, u2, rfl, _, hg2, _⟩
    · exact Or.inr (by simp [Value.ownBlock])
    · refine Or.inr fun h => hne ?_
      simp only [Value.ownBlock, Option.some.injEq] at h
      subst h
      rw [hg1] at hg2
      simp only [Option.some.injEq, Obj.cells.injEq] at hg2
      exact hg2.2.1
theorem row_form {w : World} {base n : Nat} {e : TypeId} {sz : Nat} {v : Value} {xs : List Value} (h : w.ownsRow base e sz v n xs) : ∃ P C, v = .slice P n C ∧ (P = none → C = 0) ∧ n ≤ C ∧ C ≤ 9223372036854775807 := by
  rcases h.2 with ⟨e, h0⟩ | ⟨g, cap, cur, e, _, _, h1, h2, _⟩
  · exact ⟨none, 0, by rw [e, h0], fun _ => rfl, by omega, by omega⟩
  · exact ⟨_, cap, e, (by intro h; cases h), h1, by unfold maxLen at h2; exact h2⟩
theorem own_low {w : World} {a b e sz n : Nat} {v : Value} {xs : List Value} (h : w.ownsRow b e sz v n xs) (hab : a ≤ b) : w.ownsRow a e sz v n xs := by
  refine ⟨h.1, ?_⟩
  rcases h.2 with g | ⟨g, cap, cur, h1, h2, h3⟩
  · exact Or.inl g
  · exact Or.inr ⟨g, cap, cur, h1, Nat.le_trans hab h2, h3⟩
theorem own_below {w w' : World} {base e sz n : Nat} {v : Value} {xs : List Value} (h : w.ownsRow base e sz v n xs) (hb : Below w.heap.size w w') : w'.ownsRow base e sz v n xs :=
  World.ownsRow.kept h (row := none) ⟨hb.os, hb.tape, hb.output, hb.size, fun k hk _ => hb.block k hk⟩ (by cases hv : v.ownBlock <;> simp)

def Rw.val (r : Rw) : Value := .slice r.p r.la.length r.c
theorem ownsV.rowIn {w : World} {base : Nat} {r : Rw} (h : ownsV w base r.val r.la) : rowIn w r.p r.la := by
  obtain ⟨r', e, hla, hr, _⟩ := ownsV.row h
  simp only [Rw.val, Value.slice.injEq] at e
  rw [e.1]; exact hr
/-- a list of rows of one's own -/
def ownsW (w : World) (base : Nat) (v : Value) (l : List Rw) : Prop := w.ownsRow base 30 1 v l.length (l.map Rw.val)
/-- a list of slices of bytes of one's own -/
def ownsS (w : World) (base : Nat) (v : Value) (l : List Bv) : Prop := w.ownsRow base 23 1 v l.length (l.map Bv.val)
theorem rInfo : (Tryd.prog.info? 30).map (fun i => (i.zero, i.size, i.bytes)) = some (some (.slice none 0 0), 1, 24) := by kernel_rfl
theorem rSlice : Tryd.prog.underlying 22 = some (.slice 30) := by kernel_rfl
theorem sInfo : (Tryd.prog.info? 23).map (fun i => (i.zero, i.size, i.bytes)) = some (some (.slice none 0 0), 1, 24) := by kernel_rfl
theorem sSlice : Tryd.prog.underlying 50 = some (.slice 23) := by kernel_rfl
theorem ownsW.rows {w : World} {base : Nat} {P : Option Addr} {n C : Nat} {l : List Rw} (h : ownsW w base (.slice P n C) l) : n = l.length ∧ rowsIn w P l := by
  rcases h.2 with ⟨e, h0⟩ | ⟨g, cap, cur, e, _, hg, _⟩
  · simp only [Value.slice.injEq] at e
    exact ⟨by omega, Or.inl (List.eq_nil_of_length_eq_zero h0)⟩
  · simp only [Value.slice.injEq] at e
    obtain ⟨rfl, rfl, rfl⟩ := e
    refine ⟨rfl, Or.inr ⟨g, 0, rfl, (Array.getElem?_eq_some_iff.1 hg).1, fun i r hi => ?_⟩⟩
    have hl := (List.getElem?_eq_some_iff.1 hi).1
    rw [Nat.zero_add, World.ownsRow.cellAt h i (by omega), List.getElem?_map, hi]; rfl
theorem ownsS.bvs {w : World} {base : Nat} {P : Option Addr} {n C : Nat} {l : List Bv} (h : ownsS w base (.slice P n C) l) : n = l.length ∧ bvsIn w P l := by
  rcases h.2 with ⟨e, h0⟩ | ⟨g, cap, cur, e, _, hg, _⟩
  · simp only [Value.slice.injEq] at e
    exact ⟨by omega, Or.inl (List.eq_nil_of_length_eq_zero h0)⟩
  · simp only [Value.slice.injEq] at e
    obtain ⟨rfl, rfl, rfl⟩ := e
    refine ⟨rfl, Or.inr ⟨g, 0, rfl, (Array.getElem?_eq_some_iff.1 hg).1, fun i r hi => ?_⟩⟩
    have hl := (List.getElem?_eq_some_iff.1 hi).1
    rw [Nat.zero_add, World.ownsRow.cellAt h i (by omega), List.getElem?_map, hi]; rfl
theorem ownsB.byIn {w : World} {base : Nat} {b : Bv} (h : ownsB w base b.val b.l) : byIn w b.p b.l := by
  rcases h.2 with ⟨e, h0⟩ | ⟨g, cap, cur, e, _, hg, _⟩
  · exact Or.inl (List.eq_nil_of_length_eq_zero h0)
  · have h' := h
    simp only [Bv.val, Value.slice.injEq] at e
    obtain ⟨e1, _, rfl⟩ := e
    refine Or.inr ⟨g, 0, e1, (Array.getElem?_eq_some_iff.1 hg).1, fun i x hi => ?_⟩
    have hl := (List.getElem?_eq_some_iff.1 hi).1
    have h2 : w.ownsRow base 5 1 (.slice (some ⟨g, 0, none⟩) b.l.length b.c) b.l.length (by8 b.l) := by
      have := h'; unfold ownsB Bv.val at this; rw [e1] at this; exact this
    rw [Nat.zero_add, World.ownsRow.cellAt h2 i (by omega)]; exact by8_get hi
theorem ownsB.bv {w : World} {base : Nat} {v : Value} {l : List UInt8} (h : ownsB w base v l) : ∃ b : Bv, v = b.val ∧ b.l = l ∧ (b.p = none → b.c = 0) ∧ l.length ≤ b.c ∧ b.c ≤ 9223372036854775807 := by
  obtain ⟨P, C, rfl, h1, h2, h3⟩ := row_form h
  exact ⟨⟨P, C, l⟩, rfl, rfl, h1, h2, h3⟩

/-- an append of one row onto a list of one's own -/
theorem app_r {ops : Array Oper} {rest : List Oper} {o : Oper} {a : Act} {w : World} {Q : Exit → Act → World → Prop} (hgd : o.guard = none) (s x : Operand)
    (ho : o.op = .call { callee := .builtin .append, args := #[s, x], argTypes := #[22, 22] })
    (base : Nat) (v : Value) (l : List Rw) (r : Rw) (hs : a.eval s = v) (hown : ownsW w base v l)
    (hx : a.eval x = .slice (some ⟨w.heap.size, 0, none⟩) 1 1) (hl : l.length ≤ 10000000) (hb : base ≤ w.heap.size)
    (h : ∀ v' w', ownsW w' base v' (l ++ [r]) → w.grownBy w' v.ownBlock → wpList Tryd.prog ops Q rest (a.put o.dst v') w') :
    wpList Tryd.prog ops Q (o :: rest) a (w.alloc (.cells #[r.val] 30)) := by
  obtain ⟨i0, hi, hz0, hz1, hz2⟩ := info_parts rInfo
  refine wpList_append_own _ hgd s x 22 ho base 30 i0 (.slice none 0 0) 1 24 rSlice hi hz0 hz1 hz2 rfl (by decide) v l.length (l.map Rw.val) hs (World.ownsRow.alloc hown _) ⟨w.heap.size, 0, none⟩ 1 1 [r.val] hx rfl ?_ (by intro u hu; simp at hu; subst hu; rfl) (by unfold maxLen; omega) (by omega) (by simp; omega) ?_
  · intro j u hj
    have hj0 : j = 0 := by have := (List.getElem?_eq_some_iff.1 hj).1; simp at this; exact this
    subst hj0
    simp at hj
    subst hj
    have ea : (⟨w.heap.size, 0, none⟩ : Addr).add 0 = ⟨w.heap.size, 0, none⟩ := by simp [Addr.add]
    rw [ea]
    simp only [World.cell?, heap_alloc_new]
    simp
  · intro v' w' h1 h2 _
    refine h v' w' ?_ ((World.grownBy_alloc w _ _).andThen h2 (fun j hj => Or.inr hj))
    show w'.ownsRow _ _ _ _ _ _
    rw [List.map_append, List.length_append]; exact h1
/-- an append of one slice of bytes onto a list of one's own -/
theorem app_s {ops : Array Oper} {rest : List Oper} {o : Oper} {a : Act} {w : World} {Q : Exit → Act → World → Prop} (hgd : o.guard = none) (s x : Operand)
    (ho : o.op = .call { callee := .builtin .append, args := #[s, x], argTypes := #[50, 50] })
    (base : Nat) (v : Value) (l : List Bv) (r : Bv) (hs : a.eval s = v) (hown : ownsS w base v l)
    (hx : a.eval x = .slice (some ⟨w.heap.size, 0, none⟩) 1 1) (hl : l.length ≤ 10000000) (hb : base ≤ w.heap.size)
    (h : ∀ v' w', ownsS w' base v' (l ++ [r]) → w.grownBy w' v.ownBlock → wpList Tryd.prog ops Q rest (a.put o.dst v') w') :
    wpList Tryd.prog ops Q (o :: rest) a (w.alloc (.cells #[r.val] 23)) := by
  obtain ⟨i0, hi, hz0, hz1, hz2⟩ := info_parts sInfo
  refine wpList_append_own _ hgd s x 50 ho base 23 i0 (.slice none 0 0) 1 24 sSlice hi hz0 hz1 hz2 rfl (by decide) v l.length (l.map Bv.val) hs (World.ownsRow.alloc hown _) ⟨w.heap.size, 0, none⟩ 1 1 [r.val] hx rfl ?_ (by intro u hu; simp at hu; subst hu; rfl) (by unfold maxLen; omega) (by omega) (by simp; omega) ?_
  · intro j u hj
    have hj0 : j = 0 := by have := (List.getElem?_eq_some_iff.1 hj).1; simp at this; exact this
    subst hj0
    simp at hj
    subst hj
    have ea : (⟨w.heap.size, 0, none⟩ : Addr).add 0 = ⟨w.heap.size, 0, none⟩ := by simp [Addr.add]
    rw [ea]
    simp only [World.cell?, heap_alloc_new]
    simp
  · intro v' w' h1 h2 _
    refine h v' w' ?_ ((World.grownBy_alloc w _ _).andThen h2 (fun j hj => Or.inr hj))
    show w'.ownsRow _ _ _ _ _ _
    rw [List.map_append, List.length_append]; exact h1

/-- a row in memory of one's own, and what is known of its values -/
def rwOwn (w : World) (base : Nat) (r : Rw) : Prop := ownsV w base r.val r.la ∧ (∀ v ∈ r.la, fit v.n) ∧ (∀ v ∈ r.la, v.s.size ≤ 9223372036854775807) ∧ (r.p = none → r.c = 0)
theorem rwOwn.ok {w : World} {base : Nat} {r : Rw} (h : rwOwn w base r) : rwOk w r := ⟨h.1.rowIn, h.2.1, h.2.2.1⟩
theorem rwOwn.below {w w' : World} {base : Nat} {r : Rw} (h : rwOwn w base r) (hb : Below w.heap.size w w') : rwOwn w' base r := ⟨own_below h.1 hb, h.2⟩
theorem rwOwn.grown {w w' : World} {base b2 : Nat} {v : Value} {l : List Rw} {r : Rw} (h : rwOwn w base r) (ho : ownsW w b2 v l) (hg : w.grownBy w' v.ownBlock) : rwOwn w' base r :=
  ⟨World.ownsRow.kept h.1 hg (kinds h.1 ho (by decide)), h.2⟩

set_option maxHeartbeats 4000000 in
set_option maxRecDepth 1000000 in
theorem Owned_any (P : Option Addr) (C : Nat) (l : List Rw) (w : World) (hP : rowsIn w P l) (hr : ∀ r ∈ l, rwOk w r) (hn : ∀ r ∈ l, r.p = none → r.c = 0) (hl : l.length ≤ 1048576) (hk : ∀ r ∈ l, r.la.length ≤ 1048576) :
    Calls Tryd.prog 5 #[.slice P l.length C] w fun e w' => ∃ v' L, e = .returned v' ∧ ownsW w' w.heap.size v' L ∧ L.map (·.la) = l.map (·.la) ∧ (∀ r ∈ L, rwOwn w' w.heap.size r) ∧ Below w.heap.size w w' := by
  obtain ⟨i0, hi, hz0, hz1, hz2⟩ := info_parts rInfo
  have HP : Hid (rowsIn w P l) := hP
  have HR : Hid (∀ r ∈ l, rwOk w r ∧ (r.p = none → r.c = 0) ∧ r.la.length ≤ 1048576) := fun r h => ⟨hr r h, hn r h, hk r h⟩
  clear hP hr hn hk
  go_enter Tryd.func5, Tryd.ntmps5
  go_wp2_with (at_make; refine wpList_make_own _ rfl (.const (.int .i64 0)) (.tmp 7) 22 rfl w.heap.size 30 i0 (.slice none 0 0) 1 rSlice hi hz0 hz1 .i64 .i64 ((l.length : Int) + 1) (l.length + 1) rfl rfl (by omega) (by rw [hz2]; omega) (by unfold maxLen; omega) (Nat.le_refl _) ?_; intro w1 ho1 hg1)
  have b1 : Below w.heap.size w w1 := grown_below hg1 (Nat.le_refl _) (by intro g h; cases h)
  go_loopw [3, 4] (fun sv si wr => ∃ (k : Nat) (L : List Rw), si = .int .i64 k ∧ k ≤ l.length ∧ Hid (L.map (·.la) = (l.take k).map (·.la)) ∧ Hid (ownsW wr w.heap.size sv L) ∧ Hid (∀ r ∈ L, rwOwn wr w.heap.size r) ∧ Hid (Below w.heap.size w wr)) (fun _ si _ => l.length - (intOf si).toNat)
  case atStart => exact ⟨0, [], rfl, Nat.zero_le _, rfl, ho1, (fun r h => by simp at h), b1⟩
  case round =>
    obtain ⟨k, L, rfl, hk, hL, ho, hR, hbr⟩ := hrel
    clear ho1 hg1 b1
    by_cases hlt : k < l.length
    · obtain ⟨x, hx⟩ : ∃ x, l[k]? = some x := ⟨l[k], List.getElem?_eq_getElem hlt⟩
      obtain ⟨hok, hpc, hxl⟩ := HR.out x (List.mem_of_getElem? hx)
      have hp := HP.out
      rcases hp with rfl | ⟨g, off, rfl, hgw, hcs⟩
      · simp at hx
      have d1 := (hbr.out.cell (p := ⟨g, off + k, none⟩) hgw).trans (hcs k x hx)
      have OW : Hid (Calls Tryd.prog 20 #[.slice x.p x.la.length x.c] wr fun e w' => e = .returned (.slice (some ⟨wr.heap.size, 0, none⟩) x.la.length (x.la.length + 1)) ∧ w'.ownsRow wr.heap.size 46 3 (.slice (some ⟨wr.heap.size, 0, none⟩) x.la.length (x.la.length + 1)) x.la.length (flat x.la) ∧ Below wr.heap.size wr w') := Own_any x.p x.c x.la wr (hok.1.below hbr.out) hpc hxl
      have hLl : L.length = k := by have := congrArg List.length hL.out; simpa [Nat.min_eq_left hk] using this
      have HX : Hid ((∀ v ∈ x.la, fit v.n) ∧ (∀ v ∈ x.la, v.s.size ≤ 9223372036854775807)) := hok.2
      have hL2 : Hid (∀ r : Rw, r.la = x.la → (L ++ [r]).map (·.la) = (l.take (k + 1)).map (·.la)) := fun r hr => by
        rw [List.take_add_one, hx, List.map_append, List.map_append, hL.out]; simp [hr]
      clear hcs hx hok hL
      go_wp2_with fail
      refine OW.out.mono ?_
      rintro e w2 ⟨rfl, ho2, hb2⟩
      have bs := hbr.out.size
      have ho3 : ownsW w2 w.heap.size _ L := own_below ho.out hb2
      have b2 : Below w.heap.size w w2 := hbr.out.trans (hb2.mono bs)
      have hR3 : Hid (∀ r ∈ L, rwOwn w2 w.heap.size r) := fun r h => (hR.out r h).below hb2
      have hN : Hid (rwOwn w2 w.heap.size ⟨some ⟨wr.heap.size, 0, none⟩, x.la.length + 1, x.la⟩) := ⟨own_low ho2 bs, HX.out.1, HX.out.2, by intro h; cases h⟩
      clear hR hbr ho OW ho2 hb2
      go_wp2_with (at_builtin; refine app_r rfl (.tmp 15) (.tmp 21) rfl w.heap.size _ L ⟨some ⟨wr.heap.size, 0, none⟩, x.la.length + 1, x.la⟩ rfl ho3 rfl (by omega) b2.size ?_; intro v4 w4 ho4 hg4)
      go_roundw
      case rel =>
        refine ⟨k + 1, L ++ [(⟨some ⟨wr.heap.size, 0, none⟩, x.la.length + 1, x.la⟩ : Rw)], by go_num, hlt, hL2.out _ rfl, ho4, ?_, b2.trans (grown_below hg4 b2.size (fun g h => (World.ownsRow.lt ho3 g h).1))⟩
        intro r h
        rcases List.mem_append.1 h with h | h
        · exact (hR3.out r h).grown ho3 hg4
        · simp at h; subst h; exact hN.out.grown ho3 hg4
      case measure => simp [intOf]; omega
    · have hkl : k = l.length := by omega
      subst hkl
      have hL2 := hL.out
      rw [List.take_length] at hL2
      go_wp2_with fail
      go_ret
      exact ⟨_, rfl, L, ho.out, hL2, hR.out, hbr.out⟩

set_option maxHeartbeats 4000000 in
set_option maxRecDepth 1000000 in
theorem Rows2_eq (p q : Option Addr) (cp cq : Nat) (la : List Va) (w : World) (hp : rowIn w p la) (hq : rowIn w q la) (hl : la.length ≤ 9223372036854775807) :
    Calls Tryd.prog 17 #[.slice p la.length cp, .slice q la.length cq] w fun e w' => e = .returned (.bool true) ∧ Below w.heap.size w w' := by
  go_enter Tryd.func17, Tryd.ntmps17
  go_wp2_with fail
  go_loopw [5] (fun sk wr => ∃ k : Nat, sk = .int .i64 k ∧ k ≤ la.length ∧ Below w.heap.size w wr) (fun sk _ => la.length - (intOf sk).toNat)
  case atStart => exact ⟨0, rfl, Nat.zero_le _, Below.refl _ _⟩
  case round =>
    obtain ⟨k, rfl, hk, hb⟩ := hrel
    by_cases hlt : k < la.length
    · obtain ⟨a, hak⟩ : ∃ v, la[k]? = some v := ⟨la[k], List.getElem?_eq_getElem hlt⟩
      rcases hp with rfl | ⟨g, o1, rfl, hvg, hcg⟩
      · simp at hak
      rcases hq with rfl | ⟨h, o2, rfl, hvh, hch⟩
      · simp at hak
      obtain ⟨c1, c2, c3⟩ := hcg k a hak
      obtain ⟨m1, m2, m3⟩ := hch k a hak
      have d1 := (hb.cell (p := ⟨g, o1 + k * 3, none⟩) hvg).trans c1
      have d2 := (hb.cell (p := ⟨g, o1 + k * 3 + 1, none⟩) hvg).trans c2
      have d3 := (hb.cell (p := ⟨g, o1 + k * 3 + 2, none⟩) hvg).trans c3
      have e1 := (hb.cell (p := ⟨h, o2 + k * 3, none⟩) hvh).trans m1
      have e2 := (hb.cell (p := ⟨h, o2 + k * 3 + 1, none⟩) hvh).trans m2
      have e3 := (hb.cell (p := ⟨h, o2 + k * 3 + 2, none⟩) hvh).trans m3
      have hgw : g < wr.heap.size := Nat.lt_of_lt_of_le hvg hb.size
      have hhw : h < wr.heap.size := Nat.lt_of_lt_of_le hvh hb.size
      have OO : Hid (∀ w, Calls Tryd.prog 30 #[.agg #[.int .i64 a.ty, .int .i64 a.n, .string a.s], .agg #[.int .i64 a.ty, .int .i64 a.n, .string a.s]] w fun e w' => e = .returned (.bool true) ∧ Below w.heap.size w w') := fun w => Same2_eq a w
      clear c1 c2 c3 m1 m2 m3 hak hvg hvh hcg hch
      go_wp2_with fail
      go_region_held3 (fun w' => w'.cell? ⟨g, o1 + k * 3, none⟩ = some (.int .i64 a.ty) ∧ w'.cell? ⟨g, o1 + k * 3 + 1, none⟩ = some (.int .i64 a.n) ∧ w'.cell? ⟨g, o1 + k * 3 + 2, none⟩ = some (.string a.s) ∧ w'.cell? ⟨h, o2 + k * 3, none⟩ = some (.int .i64 a.ty) ∧ w'.cell? ⟨h, o2 + k * 3 + 1, none⟩ = some (.int .i64 a.n) ∧ w'.cell? ⟨h, o2 + k * 3 + 2, none⟩ = some (.string a.s)) (first | go_keep | exact ⟨(hb2.cell (p := ⟨g, o1 + k * 3, none⟩) hgw).trans d1, (hb2.cell (p := ⟨g, o1 + k * 3 + 1, none⟩) hgw).trans d2, (hb2.cell (p := ⟨g, o1 + k * 3 + 2, none⟩) hgw).trans d3, (hb2.cell (p := ⟨h, o2 + k * 3, none⟩) hhw).trans e1, (hb2.cell (p := ⟨h, o2 + k * 3 + 1, none⟩) hhw).trans e2, (hb2.cell (p := ⟨h, o2 + k * 3 + 2, none⟩) hhw).trans e3⟩) ((go_at_call 30; refine (OO.out _).mono ?_; rintro e w1 ⟨rfl, hb2⟩))
      go_wp2_with fail
      go_roundw
      case rel => exact ⟨k + 1, by go_num, hlt, hb.drew.trans (hb2.mono (by simpa using hb.size))⟩
      case measure => simp [intOf]; omega
    · go_wp2_with fail
      go_ret
      exact ⟨rfl, hb⟩

/-- two cells, and what lies below -/
@[reducible] def ls2 (w0 : World) (A B : Addr) (x y : Value) (w' : World) : Prop := Below w0.heap.size w0 w' ∧ w'.cell? A = some x ∧ w'.cell? B = some y
theorem ls2.up {w0 w1 w2 : World} {A B : Addr} {x y : Value} (h : ls2 w0 A B x y w1) (hA : A.block < w0.heap.size) (hB : B.block < w0.heap.size) (hb : Below w1.heap.size w1 w2) : ls2 w0 A B x y w2 :=
  ⟨h.1.trans (hb.mono h.1.size), (hb.cell (p := A) (Nat.lt_of_lt_of_le hA h.1.size)).trans h.2.1, (hb.cell (p := B) (Nat.lt_of_lt_of_le hB h.1.size)).trans h.2.2⟩

set_option maxHeartbeats 4000000 in
set_option maxRecDepth 1000000 in
theorem Lists_eq (P Q : Option Addr) (cP cQ : Nat) (l m : List Rw) (w : World) (hla : l.map (·.la) = m.map (·.la)) (hP : rowsIn w P l) (hQ : rowsIn w Q m) (hr : ∀ r ∈ l, rowIn w r.p r.la) (hs : ∀ r ∈ m, rowIn w r.p r.la) (hl : l.length ≤ 9223372036854775807) (hk : ∀ r ∈ l, r.la.length ≤ 9223372036854775807) :
    Calls Tryd.prog 12 #[.slice P l.length cP, .slice Q m.length cQ] w fun e w' => e = .returned (.bool true) ∧ Below w.heap.size w w' := by
  have hlen : m.length = l.length := by have := congrArg List.length hla; simpa using this.symm
  rw [hlen]
  have HP : Hid (rowsIn w P l) := hP
  have HQ : Hid (rowsIn w Q m) := hQ
  have HR : Hid (∀ r ∈ l, rowIn w r.p r.la) := hr
  have HS : Hid (∀ r ∈ m, rowIn w r.p r.la) := hs
  have HK : Hid (∀ r ∈ l, r.la.length ≤ 9223372036854775807) := hk
  have HL : Hid (∀ (i : Nat) (a b : Rw), l[i]? = some a → m[i]? = some b → b.la = a.la) := fun i a b ha hb => by
    have := congrArg (fun z => z[i]?) hla
    simp only [List.getElem?_map, ha, hb, Option.map_some, Option.some.injEq] at this
    exact this.symm
  clear hP hQ hr hs hk hla
  go_enter Tryd.func12, Tryd.ntmps12
  go_wp2_with fail
  go_loopw [5] (fun sk wr => ∃ k : Nat, sk = .int .i64 k ∧ k ≤ l.length ∧ Hid (Below w.heap.size w wr)) (fun sk _ => l.length - (intOf sk).toNat)
  case atStart => exact ⟨0, rfl, Nat.zero_le _, Below.refl _ _⟩
  case round =>
    obtain ⟨k, rfl, hk, hb⟩ := hrel
    by_cases hlt : k < l.length
    · obtain ⟨a, ha⟩ : ∃ v, l[k]? = some v := ⟨l[k], List.getElem?_eq_getElem hlt⟩
      obtain ⟨b, hbk⟩ : ∃ v, m[k]? = some v := ⟨m[k]'(by omega), List.getElem?_eq_getElem (by omega)⟩
      have hab := HL.out k a b ha hbk
      have hra := HR.out a (List.mem_of_getElem? ha)
      have hrb := HS.out b (List.mem_of_getElem? hbk)
      have hka := HK.out a (List.mem_of_getElem? ha)
      have hp := HP.out
      have hq := HQ.out
      rcases hp with rfl | ⟨g, o1, rfl, hvg, hcg⟩
      · simp at ha
      rcases hq with rfl | ⟨h, o2, rfl, hvh, hch⟩
      · simp at hbk
      rw [hab] at hrb
      have c1 := hcg k a ha
      have c2 := hch k b hbk
      rw [hab] at c2
      have d1 := (hb.out.cell (p := ⟨g, o1 + k, none⟩) hvg).trans c1
      have d2 := (hb.out.cell (p := ⟨h, o2 + k, none⟩) hvh).trans c2
      have hgw : g < wr.heap.size := Nat.lt_of_lt_of_le hvg hb.out.size
      have hhw : h < wr.heap.size := Nat.lt_of_lt_of_le hvh hb.out.size
      have OO : Hid (∀ W, Below wr.heap.size wr W → Calls Tryd.prog 17 #[.slice a.p a.la.length a.c, .slice b.p a.la.length b.c] W fun e w' => e = .returned (.bool true) ∧ Below W.heap.size W w') := fun W hW => Rows2_eq a.p b.p a.c b.c a.la W ((hra.below hb.out).below hW) ((hrb.below hb.out).below hW) hka
      have T0 : ls2 wr ⟨g, o1 + k, none⟩ ⟨h, o2 + k, none⟩ (.slice a.p a.la.length a.c) (.slice b.p a.la.length b.c) wr := ⟨Below.refl _ _, d1, d2⟩
      have T1 : ls2 wr ⟨g, o1 + k, none⟩ ⟨h, o2 + k, none⟩ (.slice a.p a.la.length a.c) (.slice b.p a.la.length b.c) wr.drew := T0.up hgw hhw (below_drewN (Below.refl _ wr) 1)
      have hB := hb.out
      clear c1 c2 ha hbk hvg hvh hcg hch hra hrb hka hab T0 hb
      go_wp2_with fail
      go_region_held3 (fun w' => Below wr.heap.size wr w' ∧ w'.cell? ⟨g, o1 + k, none⟩ = some (.slice a.p a.la.length a.c) ∧ w'.cell? ⟨h, o2 + k, none⟩ = some (.slice b.p a.la.length b.c)) (first | exact T1 | exact ls2.up (A := ⟨g, o1 + k, none⟩) (B := ⟨h, o2 + k, none⟩) (by assumption) hgw hhw hb2 | fail) ((go_at_call 17; refine (OO.out _ (show ls2 wr ⟨g, o1 + k, none⟩ ⟨h, o2 + k, none⟩ (.slice a.p a.la.length a.c) (.slice b.p a.la.length b.c) _ by assumption).1).mono ?_; rintro e w1 ⟨rfl, hb2⟩))
      have TE : ls2 wr ⟨g, o1 + k, none⟩ ⟨h, o2 + k, none⟩ (.slice a.p a.la.length a.c) (.slice b.p a.la.length b.c) w1 := by assumption
      go_wp2_with fail
      go_roundw
      case rel => exact ⟨k + 1, by go_num, hlt, hB.trans (TE.1.mono hB.size)⟩
      case measure => simp [intOf]; omega
    · go_wp2_with fail
      go_ret
      exact ⟨rfl, hb.out⟩
end Go.Proofs.YtedacccedbchaaaDoor
