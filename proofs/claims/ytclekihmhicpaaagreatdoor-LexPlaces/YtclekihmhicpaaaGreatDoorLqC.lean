/-
  A piece stays what it is if what stands behind it is changed for something that does not go on with it.
-/
import Derived.Test.YtclekihmhicpaaaGreatDoorLqB
namespace Go.Proofs.YtclekihmhicpaaaGreatDoor
open Go.RowKit Go.Shelf

/-- what stands behind a piece may be changed so -/
structure Nx (V U : List UInt8) : Prop where
  w : wtl V = 0 → wtl U = 0
  d : dsz V = 0 → dsz U = 0
  f : fsz V = 0 → fsz U = 0
  h : ∀ c : UInt8, c = 34 ∨ c = 39 ∨ c = 61 ∨ c = 62 ∨ c = 45 ∨ c = 42 ∨ c = 124 → V.head? ≠ some c → U.head? ≠ some c
  n : V.head? = some 10 → U.head? = some 10
theorem Nx.refl (V : List UInt8) : Nx V V := ⟨id, id, id, fun _ _ h => h, id⟩
theorem wtl_head (x : UInt8) (r : List UInt8) : wtl (x :: r) = 0 ↔ (isL x || isD x) = false := by
  rw [wtl]; split
  · rename_i h; rw [h]; constructor
    · intro e; omega
    · intro e; cases e
  · rename_i h; simpa using h
theorem dsz_head (x : UInt8) (r : List UInt8) : dsz (x :: r) = 0 ↔ isD x = false := by
  rw [dsz]; split
  · rename_i h; rw [h]; constructor
    · intro e; omega
    · intro e; cases e
  · rename_i h; simpa using h
theorem Nx.new {V U : List UInt8} {c : UInt8} (hc : c = 32 ∨ c = 10 ∨ c = 47) (hn : V.head? ≠ some 10) : Nx V (c :: U) := by
  refine ⟨fun _ => ?_, fun _ => ?_, fun _ => ?_, ?_, fun h => absurd h hn⟩
  · rw [wtl_head]; rcases hc with rfl | rfl | rfl <;> decide
  · rw [dsz_head]; rcases hc with rfl | rfl | rfl <;> decide
  · rw [fsz, if_neg]; rcases hc with rfl | rfl | rfl <;> decide
  · intro e he _
    simp only [List.head?_cons, ne_eq, Option.some.injEq]
    rcases hc with rfl | rfl | rfl <;> rcases he with rfl | rfl | rfl | rfl | rfl | rfl | rfl <;> decide
theorem Nx.app {V U : List UInt8} (h : Nx V U) (v : List UInt8) : Nx (v ++ V) (v ++ U) := by
  rcases v with _ | ⟨c, v⟩
  · exact h
  · refine ⟨?_, ?_, ?_, fun _ _ h => h, id⟩
    · rw [List.cons_append, List.cons_append, wtl_head, wtl_head]; exact id
    · rw [List.cons_append, List.cons_append, dsz_head, dsz_head]; exact id
    · rw [List.cons_append, List.cons_append, fsz, fsz]
      by_cases hc : c = 46
      · rw [if_pos hc, if_pos hc]
        rcases v with _ | ⟨e, v⟩
        · exact h.d
        · rw [List.cons_append, List.cons_append, dsz_head, dsz_head]; exact id
      · rw [if_neg hc, if_neg hc]; exact id

theorem wtl_loc (V : List UInt8) : ∀ p : List UInt8, wtl (p ++ V) = p.length → wtl V = 0 ∧ ∀ U, wtl U = 0 → wtl (p ++ U) = p.length
  | [], h => ⟨h, fun _ h => h⟩
  | x :: p, h => by
    rw [List.cons_append, wtl] at h
    split at h
    · rename_i hx
      obtain ⟨h1, h2⟩ := wtl_loc V p (by simpa using h)
      refine ⟨h1, fun U hU => ?_⟩
      rw [List.cons_append, wtl, if_pos hx, h2 U hU]; rfl
    · simp at h
theorem dsz_loc (V : List UInt8) : ∀ p : List UInt8, dsz (p ++ V) = p.length → dsz V = 0 ∧ ∀ U, dsz U = 0 → dsz (p ++ U) = p.length
  | [], h => ⟨h, fun _ h => h⟩
  | x :: p, h => by
    rw [List.cons_append, dsz] at h
    split at h
    · rename_i hx
      obtain ⟨h1, h2⟩ := dsz_loc V p (by simpa using h)
      refine ⟨h1, fun U hU => ?_⟩
      rw [List.cons_append, dsz, if_pos hx, h2 U hU]; rfl
    · simp at h
theorem wsz_loc (V p : List UInt8) (hp : p ≠ []) (h : wsz (p ++ V) = p.length) : wtl V = 0 ∧ ∀ U, wtl U = 0 → wsz (p ++ U) = p.length := by
  rcases p with _ | ⟨x, p⟩
  · exact absurd rfl hp
  · rw [List.cons_append, wsz] at h
    split at h
    · rename_i hx
      obtain ⟨h1, h2⟩ := wtl_loc V p (by simpa using h)
      refine ⟨h1, fun U hU => ?_⟩
      rw [List.cons_append, wsz, if_pos hx, h2 U hU]; rfl
    · simp at h
theorem qz_one (q y : UInt8) (V : List UInt8) : qz q (y :: V) = 1 ↔ y = q ∧ V.head? ≠ some q := by
  rcases V with _ | ⟨v, V⟩
  · rw [qz]; split
    · rename_i h; simp [h]
    · rename_i h; simp [h]
  · rw [qz]
    simp only [List.head?_cons, ne_eq, Option.some.injEq]
    split
    · rename_i h
      split
      · rename_i h2
        split <;> simp [h, h2]
      · rename_i h2; simp [h, h2]
    · rename_i h
      split
      · simp [h]
      · rename_i h2; constructor
        · intro e; omega
        · rintro ⟨e, _⟩; exact absurd e h
theorem qz_loc (q : UInt8) (V : List UInt8) : ∀ p : List UInt8, p ≠ [] → qz q (p ++ V) = p.length → V.head? ≠ some q ∧ ∀ U : List UInt8, U.head? ≠ some q → qz q (p ++ U) = p.length
  | [], hp, _ => absurd rfl hp
  | [y], _, h => by
    obtain ⟨h1, h2⟩ := (qz_one q y V).1 h
    exact ⟨h2, fun U hU => (qz_one q y U).2 ⟨h1, hU⟩⟩
  | y :: z :: t, _, h => by
    rw [List.cons_append, List.cons_append, qz] at h
    simp only [List.length_cons] at h
    split at h
    · rename_i hy
      split at h
      · rename_i hz
        split at h
        · omega
        · rename_i h0
          have h1 : qz q (t ++ V) = t.length := by omega
          have ht : t ≠ [] := by
            rintro rfl
            exact h0 h1
          obtain ⟨i1, i2⟩ := qz_loc q V t ht h1
          refine ⟨i1, fun U hU => ?_⟩
          have i3 := i2 U hU
          have hpos : t.length ≠ 0 := fun e => ht (List.length_eq_zero_iff.1 e)
          rw [List.cons_append, List.cons_append, qz, if_pos hy, if_pos hz, if_neg (by rw [i3]; exact hpos), i3]; rfl
      · omega
    · rename_i hy
      split at h
      · omega
      · obtain ⟨i1, i2⟩ := qz_loc q V (z :: t) (by simp) (by simp only [List.length_cons, List.cons_append]; omega)
        refine ⟨i1, fun U hU => ?_⟩
        have i3 := i2 U hU
        rw [List.cons_append] at i3
        rw [List.cons_append, List.cons_append, qz, if_neg hy, if_neg (by rw [i3]; simp), i3]; rfl
theorem index_cut (V sub : List UInt8) (hs : sub ≠ []) : ∀ q : List UInt8, 0 ≤ Lib.index (q ++ V) sub → Lib.index (q ++ V) sub + sub.length ≤ q.length → 0 ≤ Lib.index q sub
  | [], h, h2 => by
    have := List.length_pos_iff.2 hs
    simp at h h2
    omega
  | x :: q, h, h2 => by
    rw [List.cons_append] at h h2
    unfold Lib.index at h h2 ⊢
    by_cases hp : sub.isPrefixOf (x :: (q ++ V)) = true
    · rw [if_pos hp] at h2
      have : sub.isPrefixOf (x :: q) = true := by
        rw [List.isPrefixOf_iff_prefix] at hp ⊢
        exact List.prefix_of_prefix_length_le hp ⟨V, by simp⟩ (by omega)
      rw [if_pos this]; decide
    · rw [if_neg hp] at h h2
      by_cases hm : Lib.index (q ++ V) sub = -1
      · rw [if_pos (by simpa using hm)] at h; exact absurd h (by decide)
      · rw [if_neg (by simpa using hm)] at h h2
        have hg := Lib.index_ge (q ++ V) sub
        have ih := index_cut V sub hs q (by omega) (by simp only [List.length_cons] at h2; omega)
        split
        · decide
        · rw [if_neg]
          · omega
          · intro e
            have : Lib.index q sub = -1 := by simpa using e
            omega
theorem ssz_one (x : UInt8) (V U : List UInt8) (h : ssz (x :: V) = 1) (h1 : V.head? ≠ some 61 → U.head? ≠ some 61) (h2 : V.head? ≠ some 62 → U.head? ≠ some 62) (h3 : V.head? ≠ some 124 → U.head? ≠ some 124) : ssz (x :: U) = 1 := by
  have key : ∀ W : List UInt8, ssz (x :: W) = if (x = 60 ∧ W.head? = some 61) ∨ (x = 62 ∧ W.head? = some 61) ∨ (x = 60 ∧ W.head? = some 62) ∨ (x = 124 ∧ W.head? = some 124) then 2 else ssF [x] [[40], [41], [44], [59], [46], [42], [43], [45], [47], [61], [60], [62]] := by
    intro W
    rcases W with _ | ⟨y, W⟩
    · simp [ssz, ssF, sgs, List.isPrefixOf]
    · have g : ∀ a b : UInt8, (([a, b] : List UInt8).isPrefixOf (x :: y :: W) = true) ↔ (x = a ∧ y = b) := by
        intro a b
        simp only [List.isPrefixOf, Bool.and_true, Bool.and_eq_true, beq_iff_eq]
        exact ⟨fun h => ⟨h.1.symm, h.2.symm⟩, fun h => ⟨h.1.symm, h.2.symm⟩⟩
      have g1 : ∀ gs : List UInt8, ssF (x :: y :: W) (gs.map fun c => [c]) = ssF [x] (gs.map fun c => [c]) := by
        intro gs
        induction gs with
        | nil => rfl
        | cons c gs ih => rw [List.map_cons, ssF, ssF, ih]; rfl
      have g2 := g1 [40, 41, 44, 59, 46, 42, 43, 45, 47, 61, 60, 62]
      simp only [List.map_cons, List.map_nil] at g2
      simp only [List.head?_cons, Option.some.injEq]
      unfold ssz sgs
      rw [ssF, ssF, ssF, ssF, g2]
      simp only [g]
      by_cases c1 : x = 60 ∧ y = 61
      · rw [if_pos c1, if_pos (Or.inl c1)]; rfl
      by_cases c2 : x = 62 ∧ y = 61
      · rw [if_neg c1, if_pos c2, if_pos (Or.inr (Or.inl c2))]; rfl
      by_cases c3 : x = 60 ∧ y = 62
      · rw [if_neg c1, if_neg c2, if_pos c3, if_pos (Or.inr (Or.inr (Or.inl c3)))]; rfl
      by_cases c4 : x = 124 ∧ y = 124
      · rw [if_neg c1, if_neg c2, if_neg c3, if_pos c4, if_pos (Or.inr (Or.inr (Or.inr c4)))]; rfl
      rw [if_neg c1, if_neg c2, if_neg c3, if_neg c4, if_neg]
      rintro (c | c | c | c)
      · exact c1 c
      · exact c2 c
      · exact c3 c
      · exact c4 c
  rw [key] at h ⊢
  split at h
  · omega
  · rename_i hV
    rw [if_neg]
    · exact h
    · rintro (⟨c, e⟩ | ⟨c, e⟩ | ⟨c, e⟩ | ⟨c, e⟩)
      · exact h1 (fun k => hV (Or.inl ⟨c, k⟩)) e
      · exact h1 (fun k => hV (Or.inr (Or.inl ⟨c, k⟩))) e
      · exact h2 (fun k => hV (Or.inr (Or.inr (Or.inl ⟨c, k⟩)))) e
      · exact h3 (fun k => hV (Or.inr (Or.inr (Or.inr ⟨c, k⟩)))) e
theorem ssF_two (x y : UInt8) (V U : List UInt8) : ∀ gs : List (List UInt8), (∀ g ∈ gs, g.length ≤ 2) → ssF (x :: y :: V) gs = ssF (x :: y :: U) gs
  | [], _ => rfl
  | g :: gs, h => by
    have h2 := h g (by simp)
    have e : g.isPrefixOf (x :: y :: V) = g.isPrefixOf (x :: y :: U) := by
      rcases g with _ | ⟨a, _ | ⟨b, _ | ⟨c, g⟩⟩⟩
      · rfl
      · rfl
      · simp [List.isPrefixOf]
      · simp at h2
    rw [ssF, ssF, e, ssF_two x y V U gs (fun g hg => h g (List.mem_cons_of_mem _ hg))]
theorem ssF_lt (r : List UInt8) : ∀ gs : List (List UInt8), (∀ g ∈ gs, g.length ≤ 2) → ssF r gs ≤ 2
  | [], _ => by simp [ssF]
  | g :: gs, h => by
    rw [ssF]; split
    · exact h g (by simp)
    · exact ssF_lt r gs (fun g hg => h g (List.mem_cons_of_mem _ hg))
theorem ssz_loc (x : UInt8) (p V U : List UInt8) (h : ssz (x :: (p ++ V)) = p.length + 1) (hx : Nx V U) : ssz (x :: (p ++ U)) = p.length + 1 := by
  rcases p with _ | ⟨y, p⟩
  · exact ssz_one x V U h (hx.h 61 (by simp)) (hx.h 62 (by simp)) (hx.h 124 (by simp))
  · rw [← h]; exact (ssF_two x y (p ++ V) (p ++ U) sgs (by decide)).symm
theorem pre2 {a b x : UInt8} {p V U : List UInt8} (hb : V.head? ≠ some b → U.head? ≠ some b) (h : ¬ ([a, b] : List UInt8).isPrefixOf (x :: (p ++ V)) = true) : ¬ ([a, b] : List UInt8).isPrefixOf (x :: (p ++ U)) = true := by
  have g : ∀ W : List UInt8, (([a, b] : List UInt8).isPrefixOf (x :: W) = true) ↔ (x = a ∧ W.head? = some b) := by
    intro W
    rcases W with _ | ⟨y, W⟩
    · simp [List.isPrefixOf]
    · simp only [List.isPrefixOf, Bool.and_true, Bool.and_eq_true, beq_iff_eq, List.head?_cons, Option.some.injEq]
      exact ⟨fun h => ⟨h.1.symm, h.2.symm⟩, fun h => ⟨h.1.symm, h.2.symm⟩⟩
  rw [g] at h ⊢
  rcases p with _ | ⟨y, p⟩
  · rintro ⟨h1, h2⟩
    exact hb (fun e => h ⟨h1, e⟩) h2
  · exact h
end Go.Proofs.YtclekihmhicpaaaGreatDoor
