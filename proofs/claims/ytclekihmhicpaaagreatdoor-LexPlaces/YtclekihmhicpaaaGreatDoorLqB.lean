/-
  Each piece of a text is whole characters; each token stands where Where says.
-/
import Derived.Test.YtclekihmhicpaaaGreatDoorLqA
namespace Go.Proofs.YtclekihmhicpaaaGreatDoor
open Go.RowKit Go.Shelf

theorem isL_ascii {x : UInt8} (h : isL x = true) : 0 < x.toNat ∧ x.toNat < 128 := by
  unfold isL at h
  have := of_decide_eq_true h
  omega
theorem isD_ascii {x : UInt8} (h : isD x = true) : 0 < x.toNat ∧ x.toNat < 128 := by
  unfold isD at h
  have := of_decide_eq_true h
  omega
theorem wtl_all : ∀ r : List UInt8, ∀ x ∈ r.take (wtl r), 0 < x.toNat ∧ x.toNat < 128
  | [], x, h => by simp at h
  | y :: r, x, h => by
    rw [wtl] at h
    split at h
    · rename_i hy
      rw [List.take_succ_cons] at h
      rcases List.mem_cons.1 h with rfl | h
      · rcases Bool.or_eq_true _ _ ▸ hy with hy | hy
        · exact isL_ascii hy
        · exact isD_ascii hy
      · exact wtl_all r x h
    · simp at h
theorem wsz_all : ∀ r : List UInt8, ∀ x ∈ r.take (wsz r), 0 < x.toNat ∧ x.toNat < 128
  | [], x, h => by simp at h
  | y :: r, x, h => by
    rw [wsz] at h
    split at h
    · rename_i hy
      rw [List.take_succ_cons] at h
      rcases List.mem_cons.1 h with rfl | h
      · exact isL_ascii hy
      · exact wtl_all r x h
    · simp at h
theorem dsz_all : ∀ r : List UInt8, ∀ x ∈ r.take (dsz r), 0 < x.toNat ∧ x.toNat < 128
  | [], x, h => by simp at h
  | y :: r, x, h => by
    rw [dsz] at h
    split at h
    · rename_i hy
      rw [List.take_succ_cons] at h
      rcases List.mem_cons.1 h with rfl | h
      · exact isD_ascii hy
      · exact dsz_all r x h
    · simp at h
theorem fsz_all (r : List UInt8) (hf : fsz r ≠ 0) : ∀ x ∈ r.take (1 + fsz r), 0 < x.toNat ∧ x.toNat < 128 := by
  rcases r with _ | ⟨y, r⟩
  · exact absurd rfl hf
  · rw [fsz] at hf ⊢
    by_cases hy : y = 46
    · rw [if_pos hy] at hf ⊢
      intro x h
      rw [Nat.add_comm, List.take_succ_cons] at h
      rcases List.mem_cons.1 h with rfl | h
      · subst hy; decide
      · exact dsz_all r x h
    · rw [if_neg hy] at hf; exact absurd rfl hf
theorem nsz_all (r : List UInt8) : ∀ x ∈ r.take (nsz r), 0 < x.toNat ∧ x.toNat < 128 := by
  intro x h
  unfold nsz at h
  split at h
  · exact dsz_all r x h
  · rename_i hf
    rw [List.take_add] at h
    rcases List.mem_append.1 h with h | h
    · exact dsz_all r x h
    · exact fsz_all _ hf x h
theorem ssF_all (r : List UInt8) : ∀ gs : List (List UInt8), (∀ g ∈ gs, ∀ x ∈ g, 0 < x.toNat ∧ x.toNat < 128) → ∀ x ∈ r.take (ssF r gs), 0 < x.toNat ∧ x.toNat < 128
  | [], _, x, h => by simp [ssF] at h
  | g :: gs, hg, x, h => by
    rw [ssF] at h
    split at h
    · rename_i hp
      obtain ⟨t, rfl⟩ := List.isPrefixOf_iff_prefix.1 hp
      rw [List.take_left] at h
      exact hg g (by simp) x h
    · exact ssF_all r gs (fun g' h' => hg g' (List.mem_cons_of_mem _ h')) x h
theorem ssz_all (r : List UInt8) : ∀ x ∈ r.take (ssz r), 0 < x.toNat ∧ x.toNat < 128 := ssF_all r sgs (by decide)
theorem cut_take (r : List UInt8) : r.take (Lib.cut r [10]).1.length = (Lib.cut r [10]).1 := by
  unfold Lib.cut
  split
  · simp only [List.length_take]
    exact List.take_eq_take_min.symm
  · simp
theorem rdA_gd {l : List UInt8} {k : Int} {t : List UInt8} {v : Va} (h : (rdA l k t v).why = 0) : badA l < 0 ∧ (rdA l k t v).size = l.length := by
  unfold rdA at h ⊢
  split
  · rename_i hb; rw [if_pos hb] at h; exact absurd h (show ¬ (30 : Int) = 0 by decide)
  · rename_i hb; exact ⟨by omega, rfl⟩
theorem pcE_no {e : Int} (he : e ≠ 0) {P : Prop} (h : (pcE e).why = 0) : P := absurd h he
theorem blank_is (x : UInt8) (h : 0 ≤ Lib.indexByte [32, 9, 10, 13] x) : x = 32 ∨ x = 9 ∨ x = 10 ∨ x = 13 := by
  by_cases e1 : x = 32
  · exact Or.inl e1
  by_cases e2 : x = 9
  · exact Or.inr (Or.inl e2)
  by_cases e3 : x = 10
  · exact Or.inr (Or.inr (Or.inl e3))
  by_cases e4 : x = 13
  · exact Or.inr (Or.inr (Or.inr e4))
  exfalso
  have g : ∀ {a b : UInt8}, ¬ a = b → (b == a) = false ∧ (a == b) = false := fun h => ⟨by rw [beq_eq_false_iff_ne]; exact fun e => h e.symm, by rw [beq_eq_false_iff_ne]; exact h⟩
  simp [Lib.indexByte, g e1, g e2, g e3, g e4] at h
/-- a piece is whole characters -/
theorem rdP_gd (r : List UInt8) (h : (rdP r).why = 0) : badA (r.take (rdP r).size) < 0 := by
  rcases r with _ | ⟨x, r⟩
  · exact gd_nil
  rw [rdP_cons] at h ⊢
  by_cases c0 : 0 ≤ Lib.indexByte [32, 9, 10, 13] x
  · rw [if_pos c0]
    show badA [x] < 0
    refine gd_ascii _ ?_
    have hx := blank_is x c0
    intro y hy
    rw [List.mem_singleton] at hy
    subst hy
    rcases hx with rfl | rfl | rfl | rfl <;> decide
  rw [if_neg c0] at h ⊢
  split at h
  · rename_i c; rw [if_pos c]
    unfold rdL at h ⊢
    obtain ⟨h1, h2⟩ := rdA_gd h
    rw [h2, cut_take]; exact h1
  rename_i c; rw [if_neg c]
  split at h
  · rename_i c; rw [if_pos c]
    unfold rdR at h ⊢
    split at h
    · exact pcE_no (by decide) h
    · rename_i d; rw [if_neg d]
      obtain ⟨h1, h2⟩ := rdA_gd h
      rw [h2, List.length_take, List.take_eq_take_min, Nat.min_assoc, Nat.min_self, ← List.take_eq_take_min]
      exact h1
  rename_i c; rw [if_neg c]
  split at h
  · rename_i c; rw [if_pos c]
    unfold rdW at h ⊢
    split at h
    · exact pcE_no (by decide) h
    · rename_i d; rw [if_neg d]
      exact gd_ascii _ (wsz_all (x :: r))
  rename_i c; rw [if_neg c]
  split at h
  · rename_i c; rw [if_pos c]
    unfold rdN at h ⊢
    split at h
    · exact pcE_no (by decide) h
    rename_i d; rw [if_neg d]
    split at h
    · rename_i d; rw [if_pos d]
      exact gd_ascii _ (nsz_all (x :: r))
    · exact pcE_no (by decide) h
  rename_i c; rw [if_neg c]
  split at h
  · rename_i c; rw [if_pos c]
    unfold rdQ at h ⊢
    split at h
    · exact pcE_no (by decide) h
    rename_i d; rw [if_neg d]
    split at h
    · exact pcE_no (by decide) h
    · rename_i d; rw [if_neg d]
      obtain ⟨h1, h2⟩ := rdA_gd h
      rw [h2, List.length_take, List.take_eq_take_min, Nat.min_assoc, Nat.min_self, ← List.take_eq_take_min]
      exact h1
  rename_i c; rw [if_neg c]
  split at h
  · rename_i c; rw [if_pos c]
    unfold rdT at h ⊢
    split at h
    · exact pcE_no (by decide) h
    rename_i d; rw [if_neg d]
    split at h
    · exact pcE_no (by decide) h
    · rename_i d; rw [if_neg d]
      obtain ⟨h1, h2⟩ := rdA_gd h
      rw [h2, List.length_take, List.take_eq_take_min, Nat.min_assoc, Nat.min_self, ← List.take_eq_take_min]
      exact h1
  rename_i c; rw [if_neg c]
  split at h
  · rename_i c; rw [if_pos c]
    unfold rdM at h ⊢
    split at h
    · exact pcE_no (by decide) h
    · rename_i d; rw [if_neg d]
      subst c
      show badA (List.take (1 + wsz r) (58 :: r)) < 0
      rw [Nat.add_comm, List.take_succ_cons]
      refine gd_ascii _ ?_
      intro y hy
      rcases List.mem_cons.1 hy with rfl | hy
      · decide
      · exact wsz_all r y hy
  rename_i c; rw [if_neg c]
  unfold rdS at h ⊢
  split at h
  · exact pcE_no (by decide) h
  · rename_i d; rw [if_neg d]
    exact gd_ascii _ (ssz_all (x :: r))
/-- where a token stands -/
structure At (s : List UInt8) (t : Tk) : Prop where
  le : t.pos ≤ s.length
  whr : whr s t.pos = (t.line, t.col)
theorem scn_at (s : List UInt8) : ∀ (f : Nat) (pre r : List UInt8), r.length < f → s = pre ++ r → badA pre < 0 → (scn f pre.length (beh 1 1 pre).1 (beh 1 1 pre).2 r).why = 0 →
    (∀ t ∈ (scn f pre.length (beh 1 1 pre).1 (beh 1 1 pre).2 r).l, At s t ∧ pre.length ≤ t.pos) ∧ (scn f pre.length (beh 1 1 pre).1 (beh 1 1 pre).2 r).l.Pairwise (fun t u => t.pos < u.pos)
  | 0, _, r, h, _, _, _ => absurd h (by omega)
  | f + 1, pre, r, hf, hs, hg, hw => by
    have h0 : At s ⟨(rdP r).kind, (rdP r).text, (rdP r).v, pre.length, (beh 1 1 pre).1, (beh 1 1 pre).2⟩ := by
      subst hs
      exact ⟨by simp, whr_here pre r hg⟩
    by_cases h : (rdP r).why = 0
    · rcases r with _ | ⟨x, r⟩
      · rw [scn_nil]
        refine ⟨?_, by simp⟩
        intro t ht
        rw [List.mem_singleton] at ht
        subst ht
        exact ⟨h0, Nat.le_refl _⟩
      · obtain ⟨h1, h2⟩ := rdP_size h
        have hg2 := rdP_gd (x :: r) h
        have hb := beh_app pre ((x :: r).take (rdP (x :: r)).size) 1 1 hg
        have hl : ((x :: r).take (rdP (x :: r)).size).length = (rdP (x :: r)).size := by rw [List.length_take]; simp; omega
        have hdl : ((x :: r).drop (rdP (x :: r)).size).length < f := by simp at hf ⊢; omega
        have hs2 : s = (pre ++ (x :: r).take (rdP (x :: r)).size) ++ (x :: r).drop (rdP (x :: r)).size := by rw [List.append_assoc, List.take_append_drop]; exact hs
        have hg3 := gd_app _ _ hg hg2
        have ih := scn_at s f _ _ hdl hs2 hg3
        rw [List.length_append, hl, hb] at ih
        by_cases hk : (rdP (x :: r)).kind = 0
        · rw [scn_skip f _ _ _ _ h hk] at hw ⊢
          obtain ⟨i1, i2⟩ := ih hw
          exact ⟨fun t ht => ⟨(i1 t ht).1, by have := (i1 t ht).2; omega⟩, i2⟩
        · have h6 : (rdP (x :: r)).kind ≠ 6 := fun e => by have := (rdP_end h).1 e; simp at this
          rw [scn_tell f _ _ _ _ h hk h6] at hw ⊢
          obtain ⟨i1, i2⟩ := ih hw
          refine ⟨?_, ?_⟩
          · intro t ht
            rcases List.mem_cons.1 ht with rfl | ht
            · exact ⟨h0, Nat.le_refl _⟩
            · exact ⟨(i1 t ht).1, by have := (i1 t ht).2; omega⟩
          · refine List.pairwise_cons.2 ⟨?_, i2⟩
            intro t ht
            have := (i1 t ht).2
            show pre.length < t.pos
            omega
    · rw [scn_bad f _ _ _ r h] at hw; exact absurd hw h
/-- each token stands where Where says, one behind the other -/
theorem tks_at {s : List UInt8} (h : (tks s).why = 0) : (∀ t ∈ (tks s).l, At s t) ∧ (tks s).l.Pairwise (fun t u => t.pos < u.pos) := by
  have h1 := tks_short (tks_len h)
  rw [h1] at h ⊢
  obtain ⟨i1, i2⟩ := scn_at s (s.length + 1) [] s (by omega) rfl gd_nil h
  exact ⟨fun t ht => (i1 t ht).1, i2⟩
end Go.Proofs.YtclekihmhicpaaaGreatDoor
