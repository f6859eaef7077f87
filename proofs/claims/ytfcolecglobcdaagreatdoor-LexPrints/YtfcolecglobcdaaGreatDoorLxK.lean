/-
  Tokens in a list of one's own; the closure that puts one behind.
-/
import Derived.Test.YtfcolecglobcdaaGreatDoorLxJ
import Derived.OwnWalk
import Derived.Lib.SmallJoins
namespace Go.Proofs.YtfcolecglobcdaaGreatDoor
open Go.RowKit Go.Shelf

/-- a token's eight cells -/
def cellsT (t : Tk) : List Value := [.int .i64 t.kind, .string ⟨t.text.toArray⟩, .int .i64 t.v.ty, .int .i64 t.v.n, .string t.v.s, .int .i64 (t.pos : Nat), .int .i64 (t.line : Nat), .int .i64 (t.col : Nat)]
def flatT (l : List Tk) : List Value := l.flatMap cellsT
theorem flatT_cons (v : Tk) (l : List Tk) : flatT (v :: l) = cellsT v ++ flatT l := rfl
theorem flatT_len : ∀ l : List Tk, (flatT l).length = l.length * 8
  | [] => rfl
  | v :: l => by rw [flatT_cons, List.length_append, flatT_len l]; simp [cellsT]; omega
theorem flatT_get : ∀ (l : List Tk) (i : Nat) (v : Tk) (r : Nat), l[i]? = some v → r < 8 → (flatT l)[i * 8 + r]? = (cellsT v)[r]?
  | [], i, v, r, h, _ => by simp at h
  | x :: l, 0, v, r, h, hr => by
    simp at h; subst h
    rw [flatT_cons, Nat.zero_mul, Nat.zero_add, List.getElem?_append_left (by simp [cellsT]; exact hr)]
  | x :: l, i + 1, v, r, h, hr => by
    simp at h
    rw [flatT_cons, List.getElem?_append_right (by simp [cellsT]; omega), ← flatT_get l i v r h hr]
    congr 1
    simp [cellsT]; omega
theorem flatT_one (l : List Tk) : ∀ u ∈ flatT l, u.oneCell' = true := by
  intro u hu
  simp only [flatT, List.mem_flatMap, cellsT, List.mem_cons, List.not_mem_nil, or_false] at hu
  obtain ⟨v, _, rfl | rfl | rfl | rfl | rfl | rfl | rfl | rfl⟩ := hu <;> rfl
theorem flatT_app (a b : List Tk) : flatT (a ++ b) = flatT a ++ flatT b := by simp [flatT]
theorem tokInfo : (Tryz.prog.info? 37).map (fun i => (i.zero, i.size, i.bytes)) = some (some (.agg #[.int .i64 0, .string ⟨#[]⟩, .int .i64 0, .int .i64 0, .string ⟨#[]⟩, .int .i64 0, .int .i64 0, .int .i64 0]), 8, 80) := by kernel_rfl
theorem tokType : Tryz.prog.underlying 30 = some (.slice 37) := by kernel_rfl
def ownsT (w : World) (base : Nat) (v : Value) (l : List Tk) : Prop := w.ownsRow base 37 8 v l.length (flatT l)
theorem ownsT_nil (w : World) (base : Nat) : ownsT w base (.slice none 0 0) [] := World.ownsRow_nil _ _ _ _
theorem ownsT.alloc {w : World} {base : Nat} {v : Value} {l : List Tk} (h : ownsT w base v l) (o : Obj) : ownsT (w.alloc o) base v l := World.ownsRow.alloc h o
theorem ownsT.below {w w' : World} {base : Nat} {v : Value} {l : List Tk} (h : ownsT w base v l) (hb : Below w.heap.size w w') : ownsT w' base v l :=
  World.ownsRow.kept h (row := none) ⟨hb.os, hb.tape, hb.output, hb.size, fun k hk _ => hb.block k hk⟩ (by cases hv : v.ownBlock <;> simp)
theorem ownT_ge {w : World} {base : Nat} {v : Value} {l : List Tk} (h : ownsT w base v l) : ∀ g, v.ownBlock = some g → base ≤ g := by
  intro g hg
  rcases h.2 with ⟨rfl, _⟩ | ⟨g', cap, cur, rfl, hb, _⟩
  · simp [Value.ownBlock] at hg
  · simp [Value.ownBlock] at hg; omega
theorem ownT_kind {w : World} {base : Nat} {v : Value} {l : List Tk} (h : ownsT w base v l) : ∀ g, v.ownBlock = some g → ∃ cs, w.heap[g]? = some (.cells cs 37 (0, 0)) := by
  intro g hg
  rcases h.2 with ⟨rfl, _⟩ | ⟨g', cap, cur, rfl, hb, hc, _⟩
  · simp [Value.ownBlock] at hg
  · simp [Value.ownBlock] at hg; subst hg; exact ⟨cur, hc⟩
/-- what is neither a list of tokens nor a variable that holds one stays -/
structure Oth (base : Nat) (w w' : World) : Prop where
  b : Below base w w'
  k : ∀ (g : Nat) (cs : Array Value) (ty : TypeId) (fr : Nat × Nat), w.heap[g]? = some (.cells cs ty fr) → ty ≠ 30 → ty ≠ 37 → w'.heap[g]? = w.heap[g]?
theorem Oth.trans {base : Nat} {a b c : World} (h : Oth base a b) (k : Oth base b c) : Oth base a c :=
  ⟨h.b.trans k.b, fun g cs ty fr h1 h2 h3 => by
    have e := h.k g cs ty fr h1 h2 h3
    rw [← e]
    exact k.k g cs ty fr (e.trans h1) h2 h3⟩
theorem lt_of_heap {w : World} {b : Nat} {o : Obj} (h : w.heap[b]? = some o) : b < w.heap.size := (Array.getElem?_eq_some_iff.1 h).1
theorem Oth.of_below {base : Nat} {w w' : World} (h : Below w.heap.size w w') (hb : base ≤ w.heap.size) : Oth base w w' :=
  ⟨h.mono hb, fun g _ _ _ h1 _ _ => h.block g (lt_of_heap h1)⟩
/-- the variable that holds the tokens so far -/
structure LB (w : World) (bL base : Nat) (l : List Tk) : Prop where
  ge : base ≤ bL
  lt : base ≤ w.heap.size
  v : ∃ v, w.heap[bL]? = some (.cells #[v] 30 (0, 0)) ∧ ownsT w base v l
theorem LB.below {w w' : World} {bL base : Nat} {l : List Tk} (h : LB w bL base l) (hb : Below w.heap.size w w') : LB w' bL base l := by
  obtain ⟨h1, h2, v, h3, h4⟩ := h
  exact ⟨h1, Nat.le_trans h2 hb.size, v, (hb.block bL (lt_of_heap h3)).trans h3, h4.below hb⟩
set_option maxHeartbeats 1000000 in
set_option maxRecDepth 1000000 in
theorem tell_any (t : Tk) (bL base : Nat) (l : List Tk) (w : World) (hl : l.length ≤ 100000) (h : LB w bL base l) :
    Calls Tryz.prog 37 #[tkv t.kind ⟨t.text.toArray⟩ t.v.ty t.v.n t.v.s t.pos t.line t.col, .pointer (some ⟨bL, 0, none⟩)] w fun e w' => e = .returned (.bool true) ∧ LB w' bL base (l ++ [t]) ∧ Oth base w w' := by
  obtain ⟨h1, h2, v, h3, h4⟩ := h
  obtain ⟨k, tx, ⟨ty, n, s⟩, p, a, b⟩ := t
  unfold tkv
  have hlt := lt_of_heap h3
  have hz1 : (w.alloc (.cells #[.int .i64 k, .string ⟨tx.toArray⟩, .int .i64 ty, .int .i64 n, .string s, .int .i64 (p : Nat), .int .i64 (a : Nat), .int .i64 (b : Nat)] 37)).heap.size = w.heap.size + 1 := by simp
  have b1 : Below w.heap.size w (w.alloc (.cells #[.int .i64 k, .string ⟨tx.toArray⟩, .int .i64 ty, .int .i64 n, .string s, .int .i64 (p : Nat), .int .i64 (a : Nat), .int .i64 (b : Nat)] 37)) := (Below.refl _ w).alloc (Nat.le_refl _) _
  have g3 : (w.alloc (.cells #[.int .i64 k, .string ⟨tx.toArray⟩, .int .i64 ty, .int .i64 n, .string s, .int .i64 (p : Nat), .int .i64 (a : Nat), .int .i64 (b : Nat)] 37)).heap[bL]? = some (.cells #[v] 30 (0, 0)) := (b1.block bL hlt).trans h3
  have o4 : ownsT (w.alloc (.cells #[.int .i64 k, .string ⟨tx.toArray⟩, .int .i64 ty, .int .i64 n, .string s, .int .i64 (p : Nat), .int .i64 (a : Nat), .int .i64 (b : Nat)] 37)) base v l := h4.alloc _
  have tb := R8.new w 37 (.int .i64 k) (.string ⟨tx.toArray⟩) (.int .i64 ty) (.int .i64 n) (.string s) (.int .i64 (p : Nat)) (.int .i64 (a : Nat)) (.int .i64 (b : Nat))
  have cb : w.cell? ⟨bL, 0, none⟩ = some v := (Joins.cell_of_block h3 0).trans rfl
  have cb1 : (w.alloc (.cells #[.int .i64 k, .string ⟨tx.toArray⟩, .int .i64 ty, .int .i64 n, .string s, .int .i64 (p : Nat), .int .i64 (a : Nat), .int .i64 (b : Nat)] 37)).cell? ⟨bL, 0, none⟩ = some v := (Joins.cell_of_block g3 0).trans rfl
  obtain ⟨i0, hi, hz0, hz1', hz2⟩ := info_parts tokInfo
  go_enter Tryz.func37, Tryz.ntmps37
  go_wp2_with (at_builtin; refine wpList_append_own _ rfl _ _ 30 rfl base 37 i0 (.agg #[.int .i64 0, .string ⟨#[]⟩, .int .i64 0, .int .i64 0, .string ⟨#[]⟩, .int .i64 0, .int .i64 0, .int .i64 0]) 8 80 tokType hi hz0 hz1' hz2 rfl (by decide) v l.length (flatT l) rfl (o4.alloc _) ⟨w.heap.size + 1, 0, none⟩ 1 1 (flatT [⟨k, tx, ⟨ty, n, s⟩, p, a, b⟩]) ?c0 rfl ?c1 (flatT_one _) ?c3 ?c4 ?c5 ?_)
  case c0 => rfl
  case c1 =>
    intro j y hj
    have ea : (⟨w.heap.size + 1, 0, none⟩ : Addr).add j = ⟨(w.alloc (.cells #[.int .i64 k, .string ⟨tx.toArray⟩, .int .i64 ty, .int .i64 n, .string s, .int .i64 (p : Nat), .int .i64 (a : Nat), .int .i64 (b : Nat)] 37)).heap.size, j, none⟩ := by rw [hz1]; simp [Addr.add]; intro h; exact h.symm
    rw [ea, ← hj]
    simp only [World.cell?, heap_alloc_new]
    simp [flatT, cellsT]
  case c3 => unfold maxLen; omega
  case c4 => omega
  case c5 => simp; omega
  intro v' w' hown' hgrow _
  have hW2 : Below w.heap.size w ((w.alloc (.cells #[.int .i64 k, .string ⟨tx.toArray⟩, .int .i64 ty, .int .i64 n, .string s, .int .i64 (p : Nat), .int .i64 (a : Nat), .int .i64 (b : Nat)] 37)).alloc (.cells #[.int .i64 k, .string ⟨tx.toArray⟩, .int .i64 ty, .int .i64 n, .string s, .int .i64 (p : Nat), .int .i64 (a : Nat), .int .i64 (b : Nat)] 37)) := b1.alloc (by rw [hz1]; omega) _
  have o5 : ownsT ((w.alloc (.cells #[.int .i64 k, .string ⟨tx.toArray⟩, .int .i64 ty, .int .i64 n, .string s, .int .i64 (p : Nat), .int .i64 (a : Nat), .int .i64 (b : Nat)] 37)).alloc (.cells #[.int .i64 k, .string ⟨tx.toArray⟩, .int .i64 ty, .int .i64 n, .string s, .int .i64 (p : Nat), .int .i64 (a : Nat), .int .i64 (b : Nat)] 37)) base v l := o4.alloc _
  generalize (w.alloc (.cells #[.int .i64 k, .string ⟨tx.toArray⟩, .int .i64 ty, .int .i64 n, .string s, .int .i64 (p : Nat), .int .i64 (a : Nat), .int .i64 (b : Nat)] 37)).alloc (.cells #[.int .i64 k, .string ⟨tx.toArray⟩, .int .i64 ty, .int .i64 n, .string s, .int .i64 (p : Nat), .int .i64 (a : Nat), .int .i64 (b : Nat)] 37) = w2 at *
  have hnb : ∀ g, v.ownBlock = some g → g ≠ bL := by
    intro g hg e
    obtain ⟨cs, hcs⟩ := ownT_kind h4 g hg
    rw [e, h3] at hcs
    cases hcs
  have q3 : w'.heap[bL]? = some (.cells #[v] 30 (0, 0)) := by
    rw [hgrow.block bL (Nat.lt_of_lt_of_le hlt hW2.size) (by intro e; exact hnb bL e.symm rfl), hW2.block bL hlt]; exact h3
  have own' : ownsT w' base v' (l ++ [⟨k, tx, ⟨ty, n, s⟩, p, a, b⟩]) := by
    show w'.ownsRow _ _ _ _ _ _
    rw [flatT_app, List.length_append]; exact hown'
  have cq : w'.cell? ⟨bL, 0, none⟩ = some v := (Joins.cell_of_block q3 0).trans rfl
  have fq : w'.frozen? ⟨bL, 0, none⟩ = false := Joins.unfrozen_of_block q3 0
  have hOth : Oth base w (w'.setCell ⟨bL, 0, none⟩ v') := by
    refine ⟨?_, ?_⟩
    · have e1 : Below base w2 w' := ⟨hgrow.os, hgrow.tape, hgrow.output, hgrow.size, fun k hk => hgrow.block k (by have := hW2.size; omega) (fun e => by have := ownT_ge h4 k e.symm; omega)⟩
      exact ((hW2.mono h2).trans e1).setCell (p := ⟨bL, 0, none⟩) h1 _
    · intro g cs ty' fr hg n1 n2
      have hgl := lt_of_heap hg
      have hgb : g ≠ bL := by rintro rfl; rw [h3] at hg; cases hg; exact n1 rfl
      rw [heap_setCell_other _ _ _ _ hgb, hgrow.block g (Nat.lt_of_lt_of_le hgl hW2.size) (fun e => by obtain ⟨cs', hcs⟩ := ownT_kind h4 g e.symm; rw [hg] at hcs; cases hcs; exact n2 rfl), hW2.block g hgl]
  have hLB : LB (w'.setCell ⟨bL, 0, none⟩ v') bL base (l ++ [⟨k, tx, ⟨ty, n, s⟩, p, a, b⟩]) := by
    refine ⟨h1, ?_, v', ?_, ?_⟩
    · have := hOth.b.size; omega
    · have h := heap_setCell_same w' bL 0 #[v] 30 v' q3
      simpa using h
    · refine World.ownsRow.kept own' (row := some bL) ⟨rfl, rfl, rfl, by simp, fun k hk hn => heap_setCell_other _ _ _ _ (fun e => hn (by rw [e]))⟩ (Or.inr ?_)
      intro e
      obtain ⟨cs, hcs⟩ := ownT_kind own' bL e
      rw [q3] at hcs; cases hcs
  obtain ⟨P, N, C, rfl⟩ : ∃ P N C, v' = .slice P N C := by
    rcases own'.2 with ⟨rfl, _⟩ | ⟨g, cap, cur, rfl, _⟩
    · exact ⟨_, _, _, rfl⟩
    · exact ⟨_, _, _, rfl⟩
  clear hgrow hown' own' q3 hW2 o5 o4 h4 h3 g3 b1 hz1
  go_wp2_with fail
  go_ret
  exact ⟨rfl, hLB, hOth⟩
end Go.Proofs.YtfcolecglobcdaaGreatDoor
