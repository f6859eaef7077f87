/-
  The walk of simfs's Image.
-/
import Derived.Test.YtdiehlioemmakaaVM
import Derived.Great.BuildSlice
namespace Go.Proofs.Ytdiehlioemmakaa
open Go.RowKit Go.Maps Go.Joins

theorem entInfo : (Try.prog.info? 50).map (fun i => (i.zero, i.size, i.bytes)) = some (some (.agg #[.string ⟨#[]⟩, .slice none 0 0, .int .i64 0]), 3, 48) := by kernel_rfl
theorem entSlice : Try.prog.underlying 45 = some (.slice 50) := by kernel_rfl
/-- the cells of an image -/
def entsV (zs : List (List UInt8 × Fl)) : List Value := zs.flatMap fun z => [.string ⟨z.1.toArray⟩, z.2.v, .int .i64 (z.2.k : Int)]
theorem entsV_app (a : List (List UInt8 × Fl)) (z : List UInt8 × Fl) : entsV (a ++ [z]) = entsV a ++ [.string ⟨z.1.toArray⟩, z.2.v, .int .i64 (z.2.k : Int)] := by simp [entsV]
structure imgIn (w : World) (base : Nat) (v : Value) (zs : List (List UInt8 × Fl)) : Prop where
  row : w.ownsRow base 50 3 v zs.length (entsV zs)
  by_ : ∀ z ∈ zs, ownsB w base z.2.v z.2.l
theorem row_formS {w : World} {base size n : Nat} {e : TypeId} {v : Value} {xs : List Value} (h : w.ownsRow base e size v n xs) : ∃ P C, v = .slice P n C := by
  rcases h.2 with ⟨e, h0⟩ | ⟨g, cap, cur, e, _⟩
  · exact ⟨none, 0, by rw [e, h0]⟩
  · exact ⟨_, _, e⟩
theorem rebase {w : World} {base base' size n : Nat} {e : TypeId} {v : Value} {xs : List Value} (h : w.ownsRow base e size v n xs) (hb : ∀ g, v.ownBlock = some g → base' ≤ g) : w.ownsRow base' e size v n xs := by
  refine ⟨h.1, ?_⟩
  rcases h.2 with h2 | ⟨g, cap, cur, rfl, _, r⟩
  · exact Or.inl h2
  · exact Or.inr ⟨g, cap, cur, rfl, hb g rfl, r⟩
theorem row_other {w w' : World} {b e s n b2 e2 s2 n2 : Nat} {v v2 : Value} {xs ys : List Value} (h : w.ownsRow b e s v n xs) (h2 : w.ownsRow b2 e2 s2 v2 n2 ys) (hne : e ≠ e2) (hg : w.grownBy w' v2.ownBlock) : w'.ownsRow b e s v n xs := by
  refine World.ownsRow.kept h hg ?_
  cases hv : v.ownBlock with
  | none => exact Or.inl rfl
  | some g =>
    refine Or.inr (fun e => ?_)
    obtain ⟨c1, k1⟩ := own_kind h g hv
    obtain ⟨c2, k2⟩ := own_kind h2 g e.symm
    rw [k1] at k2
    simp at k2
    exact hne k2.2
theorem imgIn.grow {w w' : World} {base : Nat} {v : Value} {zs : List (List UInt8 × Fl)} (h : imgIn w base v zs) (hg : w.grownBy w' none) : imgIn w' base v zs :=
  ⟨World.ownsRow.kept h.row hg (by cases v.ownBlock <;> simp), fun z hz => ownG (h.by_ z hz) hg⟩
theorem lit3_run (w : World) (n : List UInt8) (P : Option Addr) (N C : Nat) (k : Int) : (Instr.buildSlice 45 1 #[(0, .agg #[.string ⟨n.toArray⟩, .slice P N C, .int .i64 k])]).run Try.prog w = .ok (.slice (some ⟨w.heap.size, 0, none⟩) 1 1) (w.alloc (.cells #[.string ⟨n.toArray⟩, .slice P N C, .int .i64 k] 50)) := by
  obtain ⟨i0, hi, hz0, hz1, hz2⟩ := info_parts entInfo
  refine run_buildSlice w 45 50 1 _ _ i0 _ entSlice hi hz0 (by rw [hz1]; omega) (by rw [hz1]; omega) ?_
  rw [hz1]
  first | kernel_rfl | (simp [Instr.fill, Value.cells]; done) | (simp [Instr.fill, Value.cells]; rfl) | go_simp
theorem step_lit3 {ops : Array Oper} {o : Oper} {a : Act} {w : World} {K : Act → World → Prop} {Q : Exit → Act → World → Prop} {E : Prop} {n : List UInt8} {P : Option Addr} {N C : Nat} {k : Int} (hgd : o.guard = none) (x : Operand) (ho : o.op = .buildSlice 45 1 #[(0, x)]) (hx : a.eval x = .agg #[.string ⟨n.toArray⟩, .slice P N C, .int .i64 k])
    (h : K (a.put o.dst (.slice (some ⟨w.heap.size, 0, none⟩) 1 1)) (w.alloc (.cells #[.string ⟨n.toArray⟩, .slice P N C, .int .i64 k] 50))) :
    if Region.wanted o (yielded ops a.tmps) = true then Oper.wp Try.prog o a w K Q else E := by
  have hwd : Region.wanted o (yielded ops a.tmps) = true := by simp [Region.wanted, hgd]
  rw [if_pos hwd]
  unfold Oper.wp execOp
  simp only [ho, Sem.run_bind, Sem.run_pure, Result.andThen_ok, List.map_toArray, List.map_cons, List.map_nil, hx, lit3_run]
  exact h
/-- an entry more -/
theorem img_app {w : World} {base : Nat} {v : Value} {zs : List (List UInt8 × Fl)} (h : imgIn w base v zs) {n : List UInt8} {Pz : Option Addr} {Cz : Nat} {Z : Fl} (hv : Z.v = .slice Pz Z.l.length Cz) (hZ : ownsB w base Z.v Z.l) (hl : zs.length ≤ 1000) (hb : base ≤ w.heap.size) {W : World} (hW : W = w.alloc (.cells #[.string ⟨n.toArray⟩, .slice Pz Z.l.length Cz, .int .i64 (Z.k : Int)] 50)) :
    ∃ v' w', (∀ ty, (Builtin.append_ #[45, 45] ty #[v, .slice (some ⟨w.heap.size, 0, none⟩) 1 1]).run Try.prog W = .ok v' w') ∧ imgIn w' base v' (zs ++ [(n, Z)]) ∧ W.grownBy w' v.ownBlock := by
  obtain ⟨i0, hi, hz0, hz1, hz2⟩ := info_parts entInfo
  have g0 : w.grownBy W none := by rw [hW]; exact World.grownBy_alloc w _ none
  have h1 := h.grow g0
  have hblk : W.heap[w.heap.size]? = some (.cells #[.string ⟨n.toArray⟩, .slice Pz Z.l.length Cz, .int .i64 (Z.k : Int)] 50 (0, 0)) := by rw [hW]; exact heap_alloc_new _ _
  have key : ∀ ty, ∃ v' w', (Builtin.append_ #[45, 45] ty #[v, .slice (some ⟨w.heap.size, 0, none⟩) 1 1]).run Try.prog W = .ok v' w' ∧ w'.ownsRow base 50 3 v' (zs.length + 1) (entsV zs ++ [.string ⟨n.toArray⟩, .slice Pz Z.l.length Cz, .int .i64 (Z.k : Int)]) ∧ W.grownBy w' v.ownBlock ∧ (v' = .slice none 0 0 ↔ v = .slice none 0 0 ∧ 1 = 0) ∧ (v'.ownBlock = v.ownBlock ∨ v'.ownBlock = some W.heap.size) := fun ty =>
    run_append_own_at (P := Try.prog) W base 45 ty 50 i0 _ 3 48 entSlice hi hz0 hz1 hz2 rfl (by decide) v zs.length (entsV zs) h1.row ⟨w.heap.size, 0, none⟩ 1 1 [.string ⟨n.toArray⟩, .slice Pz Z.l.length Cz, .int .i64 (Z.k : Int)] rfl (fun j u hj => by
      rw [add_plain, Nat.zero_add]
      rcases j with _ | _ | _ | j
      · simp at hj; subst hj; exact (cell_of_block hblk 0).trans rfl
      · simp at hj; subst hj; exact (cell_of_block hblk 1).trans rfl
      · simp at hj; subst hj; exact (cell_of_block hblk 2).trans rfl
      · simp at hj) (by intro u hu; simp at hu; rcases hu with rfl | rfl | rfl <;> rfl) (by unfold maxLen; omega) (by omega) (Nat.le_trans hb g0.size)
  obtain ⟨v', w', h2, h3, h4, _, _⟩ := key 0
  refine ⟨v', w', fun ty => h2, ⟨?_, fun z hz => ?_⟩, h4⟩
  · rw [entsV_app, List.length_append, hv]; exact h3
  · rw [List.mem_append, List.mem_singleton] at hz
    rcases hz with hz | rfl
    · exact row_other (h1.by_ z hz) h1.row (by decide) h4
    · exact row_other (ownG hZ g0) h1.row (by decide) h4
theorem abs_app (a : List (List UInt8 × Fl)) (n : List UInt8) (Z : Fl) : absX (a ++ [(n, Z)]) = absX a ++ [(n, (Z.l, Z.k))] := by simp [absX]
def ImQ (w : World) (xs : List (List UInt8 × Fl)) (e : Ending) (w' : World) : Prop := ∃ v zs, e = .returned v ∧ imgIn w' w.heap.size v zs ∧ absX zs = absX xs ∧ w.grownBy w' none
end Go.Proofs.Ytdiehlioemmakaa

