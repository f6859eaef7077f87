/-
  Places in a text, as functions: the character that goes over a place; lines and columns both ways.
-/
import Derived.Test.YtclekihmhicpaaaGreatDoorLxJ
namespace Go.Proofs.YtclekihmhicpaaaGreatDoor
open Go.RowKit Go.Shelf

/-! ### Characters in a text -/
theorem getD_takeU (l : List UInt8) (k j : Nat) (h : j < k) : (l.take k).getD j 0 = l.getD j 0 := by simp [List.getD, h]
theorem decN_cut (n n' b0 b1 b2 b3 c1 c2 c3 : Nat) (h1 : 1 < n' → 1 < n ∧ c1 = b1) (h2 : 2 < n' → 2 < n ∧ c2 = b2) (h3 : 3 < n' → 3 < n ∧ c3 = b3) (hw : (Lib.decodeN n b0 b1 b2 b3).2 ≤ n') : Lib.decodeN n' b0 c1 c2 c3 = Lib.decodeN n b0 b1 b2 b3 := by
  unfold Lib.decodeN at hw ⊢
  by_cases e0 : b0 < 128
  · rw [if_pos e0, if_pos e0]
  rw [if_neg e0] at hw
  rw [if_neg e0, if_neg e0]
  by_cases e1 : b0 / 32 = 6 ∧ (1 < n ∧ b1 / 64 = 2)
  · rw [if_pos e1] at hw
    rw [if_pos e1]
    by_cases g : b0 % 32 * 64 + b1 % 64 ≥ 128
    · rw [if_pos g] at hw
      have hn : 1 < n' := hw
      obtain ⟨_, rfl⟩ := h1 hn
      rw [if_pos ⟨e1.1, hn, e1.2.2⟩]
    · rw [if_neg g]
      by_cases hn : 1 < n'
      · obtain ⟨_, rfl⟩ := h1 hn
        rw [if_pos ⟨e1.1, hn, e1.2.2⟩, if_neg g]
      · rw [if_neg (fun h => hn h.2.1), if_neg (fun h => hn h.2.1.1), if_neg (fun h => hn h.2.1.1)]
  · rw [if_neg e1] at hw
    rw [if_neg e1]
    have e1' : ¬ (b0 / 32 = 6 ∧ (1 < n' ∧ c1 / 64 = 2)) := by
      rintro ⟨x, hn, y⟩
      obtain ⟨hn', rfl⟩ := h1 hn
      exact e1 ⟨x, hn', y⟩
    rw [if_neg e1']
    by_cases e2 : b0 / 16 = 14 ∧ (1 < n ∧ b1 / 64 = 2) ∧ (2 < n ∧ b2 / 64 = 2)
    · rw [if_pos e2] at hw
      rw [if_pos e2]
      split at hw
      · rename_i g
        have hn : 2 < n' := hw
        obtain ⟨_, rfl⟩ := h1 (by omega)
        obtain ⟨_, rfl⟩ := h2 hn
        rw [if_pos g, if_pos ⟨e2.1, ⟨by omega, e2.2.1.2⟩, hn, e2.2.2.2⟩]
      · rename_i g
        rw [if_neg g]
        by_cases hn : 2 < n'
        · obtain ⟨_, rfl⟩ := h1 (by omega)
          obtain ⟨_, rfl⟩ := h2 hn
          rw [if_pos ⟨e2.1, ⟨by omega, e2.2.1.2⟩, hn, e2.2.2.2⟩, if_neg g]
        · rw [if_neg (fun h => hn h.2.2.1), if_neg (fun h => hn h.2.2.1.1)]
    · rw [if_neg e2] at hw
      rw [if_neg e2]
      have e2' : ¬ (b0 / 16 = 14 ∧ (1 < n' ∧ c1 / 64 = 2) ∧ (2 < n' ∧ c2 / 64 = 2)) := by
        rintro ⟨x, ⟨hn, y⟩, hm, z⟩
        obtain ⟨hn', rfl⟩ := h1 hn
        obtain ⟨hm', rfl⟩ := h2 hm
        exact e2 ⟨x, ⟨hn', y⟩, hm', z⟩
      rw [if_neg e2']
      by_cases e3 : b0 / 8 = 30 ∧ (1 < n ∧ b1 / 64 = 2) ∧ (2 < n ∧ b2 / 64 = 2) ∧ (3 < n ∧ b3 / 64 = 2)
      · rw [if_pos e3] at hw
        rw [if_pos e3]
        split at hw
        · rename_i g
          have hn : 3 < n' := hw
          obtain ⟨_, rfl⟩ := h1 (by omega)
          obtain ⟨_, rfl⟩ := h2 (by omega)
          obtain ⟨_, rfl⟩ := h3 hn
          rw [if_pos g, if_pos ⟨e3.1, ⟨by omega, e3.2.1.2⟩, ⟨by omega, e3.2.2.1.2⟩, hn, e3.2.2.2.2⟩]
        · rename_i g
          rw [if_neg g]
          by_cases hn : 3 < n'
          · obtain ⟨_, rfl⟩ := h1 (by omega)
            obtain ⟨_, rfl⟩ := h2 (by omega)
            obtain ⟨_, rfl⟩ := h3 hn
            rw [if_pos ⟨e3.1, ⟨by omega, e3.2.1.2⟩, ⟨by omega, e3.2.2.1.2⟩, hn, e3.2.2.2.2⟩, if_neg g]
          · rw [if_neg (fun h => hn h.2.2.2.1)]
      · rw [if_neg e3]
        rw [if_neg]
        rintro ⟨x, ⟨hn, y⟩, ⟨hm, z⟩, ho, u⟩
        obtain ⟨hn', rfl⟩ := h1 hn
        obtain ⟨hm', rfl⟩ := h2 hm
        obtain ⟨ho', rfl⟩ := h3 ho
        exact e3 ⟨x, ⟨hn', y⟩, ⟨hm', z⟩, ho', u⟩
/-- a character that lies within the first bytes is read of them alone -/
theorem dec_take (l : List UInt8) (k : Nat) (h : (Lib.decodeL l).2 ≤ k) (hl : k ≤ l.length) : Lib.decodeL (l.take k) = Lib.decodeL l := by
  have hp := Lib.decodeL_width l
  rw [Lib.decodeL_N] at h hp
  rw [Lib.decodeL_N, Lib.decodeL_N, List.length_take, Nat.min_eq_left hl, getD_takeU l k 0 (by omega)]
  exact decN_cut _ _ _ _ _ _ _ _ _ (fun hh => ⟨by omega, by rw [getD_takeU l k 1 hh]⟩) (fun hh => ⟨by omega, by rw [getD_takeU l k 2 hh]⟩) (fun hh => ⟨by omega, by rw [getD_takeU l k 3 hh]⟩) h
/-- what follows within a character begins none -/
theorem decN_cont (n b0 b1 b2 b3 j : Nat) (h0 : 0 < j) (hj : j < (Lib.decodeN n b0 b1 b2 b3).2) : j < n ∧ ((j = 1 ∧ b1 / 64 = 2) ∨ (j = 2 ∧ b2 / 64 = 2) ∨ (j = 3 ∧ b3 / 64 = 2)) := by
  unfold Lib.decodeN at hj
  split at hj
  · simp at hj; omega
  split at hj
  · rename_i e
    split at hj
    · have : j < 2 := hj
      exact ⟨by omega, Or.inl ⟨by omega, e.2.2⟩⟩
    · have : j < 1 := hj
      omega
  split at hj
  · rename_i e
    split at hj
    · have : j < 3 := hj
      have hc : j = 1 ∨ j = 2 := by omega
      rcases hc with rfl | rfl
      · exact ⟨by omega, Or.inl ⟨rfl, e.2.1.2⟩⟩
      · exact ⟨by omega, Or.inr (Or.inl ⟨rfl, e.2.2.2⟩)⟩
    · have : j < 1 := hj
      omega
  split at hj
  · rename_i e
    split at hj
    · have : j < 4 := hj
      have hc : j = 1 ∨ j = 2 ∨ j = 3 := by omega
      rcases hc with rfl | rfl | rfl
      · exact ⟨by omega, Or.inl ⟨rfl, e.2.1.2⟩⟩
      · exact ⟨by omega, Or.inr (Or.inl ⟨rfl, e.2.2.1.2⟩)⟩
      · exact ⟨by omega, Or.inr (Or.inr ⟨rfl, e.2.2.2.2⟩)⟩
    · have : j < 1 := hj
      omega
  · have : j < 1 := hj
    omega
theorem decN_none (n b0 b1 b2 b3 : Nat) (h : b0 / 64 = 2) : Lib.decodeN n b0 b1 b2 b3 = (65533, 1) := by
  unfold Lib.decodeN
  rw [if_neg (by omega), if_neg (by omega), if_neg (by omega), if_neg (by omega)]
theorem dec_within (l : List UInt8) (j : Nat) (h0 : 0 < j) (hj : j < (Lib.decodeL l).2) : Lib.decodeL (l.drop j) = (65533, 1) := by
  rw [Lib.decodeL_N] at hj
  obtain ⟨_, h⟩ := decN_cont _ _ _ _ _ j h0 hj
  rw [Lib.decodeL_N, Lib.getD_dropU]
  apply decN_none
  rcases h with ⟨rfl, h⟩ | ⟨rfl, h⟩ | ⟨rfl, h⟩ <;> simpa using h
def wd (l : List UInt8) (i : Nat) : Nat := (Lib.decodeL (l.drop i)).2
theorem wd_pos (l : List UInt8) (i : Nat) : 1 ≤ wd l i := Lib.decodeL_width _
theorem wd_le (l : List UInt8) (i : Nat) (h : i < l.length) : i + wd l i ≤ l.length := by
  have := Lib.decodeL_le (l.drop i) (by intro e; have := congrArg List.length e; simp at this; omega)
  rw [List.length_drop] at this
  unfold wd; omega
theorem wd_four (l : List UInt8) (i : Nat) : wd l i ≤ 4 := by
  unfold wd; rw [Lib.decodeL_N]; unfold Lib.decodeN
  split
  · simp
  split
  · split <;> simp
  split
  · split <;> simp
  split
  · split <;> simp
  · simp
theorem wd_within (l : List UInt8) (f i : Nat) (h0 : f < i) (h : i < f + wd l f) : wd l i = 1 := by
  have := dec_within (l.drop f) (i - f) (by omega) (by unfold wd at h; omega)
  rw [List.drop_drop, show f + (i - f) = i by omega] at this
  unfold wd; rw [this]
/-- no character that begins ahead of a place goes over it -/
def noSpan (l : List UInt8) (i : Nat) : Prop := ∀ f, f < i → f + wd l f ≤ i
theorem noSpan_zero (l : List UInt8) : noSpan l 0 := fun f h => by omega
theorem noSpan_next {l : List UInt8} {i : Nat} (h : noSpan l i) : noSpan l (i + wd l i) := by
  intro f hf
  have hp := wd_pos l f
  by_cases h1 : f < i
  · have := h f h1; omega
  · by_cases h2 : f = i
    · subst h2; omega
    · have := wd_within l i f (by omega) hf
      omega
/-- where the character begins that goes over a place -/
def bgnF (l : List UInt8) (at' : Nat) : Nat → Nat → Nat
  | 0, _ => at'
  | f + 1, i => if i < at' then (if at' < i + wd l i then i else bgnF l at' f (i + 1)) else at'
def bgn (l : List UInt8) (at' : Nat) : Nat := bgnF l at' 4 (at' - 3)
theorem bgnF_hit (l : List UInt8) (at' i : Nat) (hi : i < at') (hs : at' < i + wd l i) : ∀ (f j : Nat), j ≤ i → i < j + f → (∀ q, j ≤ q → q < i → q + wd l q ≤ at') → bgnF l at' f j = i
  | 0, j, h1, h2, _ => by omega
  | f + 1, j, h1, h2, h3 => by
    rw [bgnF, if_pos (by omega)]
    by_cases e : j = i
    · subst e; rw [if_pos hs]
    · rw [if_neg (by have := h3 j (Nat.le_refl _) (by omega); omega)]
      exact bgnF_hit l at' i hi hs f (j + 1) (by omega) (by omega) (fun q hq1 hq2 => h3 q (by omega) hq2)
theorem bgnF_ge (l : List UInt8) (at' : Nat) : ∀ (f j : Nat), bgnF l at' f j = at' ∨ (j ≤ bgnF l at' f j ∧ bgnF l at' f j < at' ∧ at' < bgnF l at' f j + wd l (bgnF l at' f j))
  | 0, j => Or.inl rfl
  | f + 1, j => by
    rw [bgnF]
    split
    · rename_i h
      split
      · rename_i h2; exact Or.inr ⟨Nat.le_refl _, h, h2⟩
      · rcases bgnF_ge l at' f (j + 1) with e | ⟨e1, e2, e3⟩
        · exact Or.inl e
        · exact Or.inr ⟨by omega, e2, e3⟩
    · exact Or.inl rfl
/-- line and column of a place, character by character from a place on -/
def whF (l : List UInt8) (at' : Nat) : Nat → Nat → Nat → Nat → Nat × Nat
  | 0, _, a, b => (a, b)
  | f + 1, i, a, b => if i < at' then (if at' < i + wd l i then (a, b) else if (Lib.decodeL (l.drop i)).1 = 10 then whF l at' f (i + wd l i) (a + 1) 1 else whF l at' f (i + wd l i) a (b + 1)) else (a, b)
theorem wh_eq (l : List UInt8) (at' : Nat) (hat : at' ≤ l.length) : ∀ (f g i a b : Nat), noSpan l i → i ≤ at' → at' < i + f → bgn l at' < i + g + 1 → whF l at' f i a b = behF g a b ((l.take (bgn l at')).drop i)
  | 0, g, i, a, b, hn, hi, hf, hg => by omega
  | f + 1, g, i, a, b, hn, hi, hf, hg => by
    have hge := bgnF_ge l at' 4 (at' - 3)
    have hB : bgn l at' ≤ at' := by
      unfold bgn
      rcases hge with e | ⟨_, e, _⟩ <;> omega
    rw [whF]
    by_cases h1 : i < at'
    · rw [if_pos h1]
      have hp := wd_pos l i
      have h4 := wd_four l i
      by_cases h2 : at' < i + wd l i
      · rw [if_pos h2]
        have hb : bgn l at' = i := by
          refine bgnF_hit l at' i h1 h2 4 (at' - 3) (by omega) (by omega) (fun q hq1 hq2 => ?_)
          have := hn q hq2
          omega
        rw [hb, List.drop_eq_nil_of_le (by simp; omega), behF_end]
      · rw [if_neg h2]
        have hb : i + wd l i ≤ bgn l at' := by
          unfold bgn
          rcases hge with e | ⟨e0, e1, e2⟩
          · rw [e]; omega
          · generalize bgnF l at' 4 (at' - 3) = q at *
            rcases Nat.lt_or_ge q (i + wd l i) with hlt | hge'
            · by_cases q1 : q < i
              · have := hn q q1; omega
              · by_cases q2 : q = i
                · subst q2; omega
                · have := wd_within l i q (by omega) hlt; omega
            · exact hge'
        have hlen : ((l.take (bgn l at')).drop i).length = bgn l at' - i := by simp; omega
        have hne : (l.take (bgn l at')).drop i ≠ [] := by
          intro e
          have := congrArg List.length e
          rw [hlen] at this
          simp at this; omega
        have hdt : (l.take (bgn l at')).drop i = (l.drop i).take (bgn l at' - i) := List.drop_take
        have hd : Lib.decodeL ((l.take (bgn l at')).drop i) = Lib.decodeL (l.drop i) := by
          rw [hdt]
          refine dec_take (l.drop i) _ ?_ (by rw [List.length_drop]; omega)
          unfold wd at hb; omega
        obtain ⟨g', rfl⟩ : ∃ g', g = g' + 1 := ⟨g - 1, by omega⟩
        have hdr : ((l.take (bgn l at')).drop i).drop (Lib.decodeL (l.drop i)).2 = (l.take (bgn l at')).drop (i + wd l i) := by
          rw [List.drop_drop]; rfl
        by_cases h3 : (Lib.decodeL (l.drop i)).1 = 10
        · rw [if_pos h3, behF_nl hne (by rw [hd]; exact h3), hd, hdr]
          exact wh_eq l at' hat f g' (i + wd l i) _ _ (noSpan_next hn) (by omega) (by omega) (by omega)
        · rw [if_neg h3, behF_other hne (by rw [hd]; exact h3), hd, hdr]
          exact wh_eq l at' hat f g' (i + wd l i) _ _ (noSpan_next hn) (by omega) (by omega) (by omega)
    · rw [if_neg h1]
      have : i = at' := by omega
      rw [List.drop_eq_nil_of_le (by simp; omega), behF_end]
end Go.Proofs.YtclekihmhicpaaaGreatDoor
