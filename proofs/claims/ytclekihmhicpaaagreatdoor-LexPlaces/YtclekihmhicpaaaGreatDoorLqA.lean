/-
  Texts of whole characters, one behind the other: lines and columns, places.
-/
import Derived.Test.YtclekihmhicpaaaGreatDoorLnE
import Derived.Test.YtclekihmhicpaaaGreatDoorLxQ
namespace Go.Proofs.YtclekihmhicpaaaGreatDoor
open Go.RowKit Go.Shelf

theorem decN_short (n n' b0 b1 b2 b3 c1 c2 c3 : Nat) (hw : n' < (Lib.decodeN n b0 b1 b2 b3).2) (h1 : 1 ≤ n') : Lib.decodeN n' b0 c1 c2 c3 = (65533, 1) := by
  unfold Lib.decodeN at hw ⊢
  split at hw
  · have : n' < 1 := hw
    omega
  rename_i e0
  rw [if_neg e0]
  split at hw
  · rename_i e1
    have hn : n' = 1 := by
      split at hw
      · have : n' < 2 := hw
        omega
      · have : n' < 1 := hw
        omega
    subst hn
    rw [if_neg (by omega), if_neg (by omega), if_neg (by omega)]
  rename_i e1
  split at hw
  · rename_i e2
    have hn : n' < 3 := by
      split at hw
      · exact hw
      · have : n' < 1 := hw
        omega
    rw [if_neg (by omega), if_neg (by omega), if_neg (by omega)]
  split at hw
  · rename_i e3
    have hn : n' < 4 := by
      split at hw
      · exact hw
      · have : n' < 1 := hw
        omega
    rw [if_neg (by omega), if_neg (by omega), if_neg (by omega)]
  · have : n' < 1 := hw
    omega
theorem dec_app (l z : List UInt8) (hne : l ≠ []) (h : badHere l = false) : Lib.decodeL (l ++ z) = Lib.decodeL l := by
  have hp : 1 ≤ l.length := by have := List.length_pos_iff.2 hne; omega
  by_cases hw : (Lib.decodeL (l ++ z)).2 ≤ l.length
  · have := dec_take (l ++ z) l.length hw (by simp)
    rw [List.take_left] at this
    exact this.symm
  · exfalso
    rw [Lib.decodeL_N] at hw
    have e0 : (l ++ z).getD 0 0 = l.getD 0 0 := by
      rcases l with _ | ⟨x, l⟩
      · exact absurd rfl hne
      · rfl
    rw [e0] at hw
    have hs : Lib.decodeL l = (65533, 1) := by
      rw [Lib.decodeL_N]
      exact decN_short _ _ _ _ _ _ _ _ _ (Nat.lt_of_not_le hw) hp
    unfold badHere at h
    rw [hs] at h
    have hpre : ([239, 191, 189] : List UInt8).isPrefixOf l = true := by simpa using h
    rw [pre_repl] at hpre
    have := decode_repl l hpre
    rw [hs] at this
    exact absurd this (by decide)
theorem badF_neg : ∀ (f g k k' : Nat) (l : List UInt8), l.length ≤ f → l.length ≤ g → (badF f k l < 0 ↔ badF g k' l < 0)
  | 0, g, k, k', l, hf, hg => by
    obtain rfl : l = [] := List.length_eq_zero_iff.1 (by omega)
    rw [badF_end, badF_end]
  | f + 1, 0, k, k', l, hf, hg => by
    obtain rfl : l = [] := List.length_eq_zero_iff.1 (by omega)
    rw [badF_end, badF_end]
  | f + 1, g + 1, k, k', l, hf, hg => by
    by_cases h0 : l = []
    · subst h0; rw [badF_end, badF_end]
    · rw [badF, badF, if_neg h0, if_neg h0]
      by_cases hb : badHere l = true
      · rw [if_pos hb, if_pos hb]; omega
      · rw [if_neg hb, if_neg hb]
        have h1 := Lib.decodeL_width l
        exact badF_neg f g _ _ _ (by simp; omega) (by simp; omega)
theorem gd_nil : badA [] < 0 := by decide
theorem gd_step {l : List UInt8} (hne : l ≠ []) : badA l < 0 ↔ badHere l = false ∧ badA (l.drop (Lib.decodeL l).2) < 0 := by
  have hp : 1 ≤ l.length := by have := List.length_pos_iff.2 hne; omega
  obtain ⟨n, hn⟩ : ∃ n, l.length = n + 1 := ⟨l.length - 1, by omega⟩
  have h1 := Lib.decodeL_width l
  unfold badA
  rw [hn, badF, if_neg hne]
  by_cases hb : badHere l = true
  · rw [if_pos hb]
    constructor
    · intro h; omega
    · rintro ⟨h, _⟩; rw [hb] at h; cases h
  · rw [if_neg hb]
    have e := badF_neg n (l.drop (Lib.decodeL l).2).length (0 + (Lib.decodeL l).2) 0 (l.drop (Lib.decodeL l).2) (by simp; omega) (Nat.le_refl _)
    rw [e]
    exact ⟨fun h => ⟨by simpa using hb, h⟩, fun h => h.2⟩
theorem gd_app (p q : List UInt8) (hp : badA p < 0) (hq : badA q < 0) : badA (p ++ q) < 0 := by
  by_cases h0 : p = []
  · subst h0; exact hq
  · obtain ⟨h1, h2⟩ := (gd_step h0).1 hp
    have hw := Lib.decodeL_width p
    have hl := Lib.decodeL_le p h0
    have hd := dec_app p q h0 h1
    have hne : p ++ q ≠ [] := by intro e; exact h0 (List.append_eq_nil_iff.1 e).1
    refine (gd_step hne).2 ⟨?_, ?_⟩
    · unfold badHere at h1 ⊢
      rw [hd]
      by_cases hr : (Lib.decodeL p).1 = 65533
      · rw [hr] at h1 ⊢
        have hpre : ([239, 191, 189] : List UInt8).isPrefixOf p = true := by simpa using h1
        have : ([239, 191, 189] : List UInt8).isPrefixOf (p ++ q) = true := by
          rw [List.isPrefixOf_iff_prefix] at hpre ⊢
          exact hpre.trans ⟨q, rfl⟩
        simp [this]
      · rw [decide_eq_false hr] at h1 ⊢
        simpa using h1
    · rw [hd, drop_ext _ _ _ hl]
      exact gd_app _ q h2 hq
termination_by p.length
decreasing_by simp; omega
theorem behF_fuel : ∀ (f g a b : Nat) (l : List UInt8), l.length ≤ f → l.length ≤ g → behF f a b l = behF g a b l
  | 0, g, a, b, l, hf, hg => by
    obtain rfl : l = [] := List.length_eq_zero_iff.1 (by omega)
    rw [behF_end, behF_end]
  | f + 1, 0, a, b, l, hf, hg => by
    obtain rfl : l = [] := List.length_eq_zero_iff.1 (by omega)
    rw [behF_end, behF_end]
  | f + 1, g + 1, a, b, l, hf, hg => by
    by_cases h0 : l = []
    · subst h0; rw [behF_end, behF_end]
    · have h1 := Lib.decodeL_width l
      rw [behF, behF, if_neg h0, if_neg h0]
      by_cases hb : (Lib.decodeL l).1 = 10
      · rw [if_pos hb, if_pos hb]; exact behF_fuel f g _ _ _ (by simp; omega) (by simp; omega)
      · rw [if_neg hb, if_neg hb]; exact behF_fuel f g _ _ _ (by simp; omega) (by simp; omega)
theorem beh_step {l : List UInt8} (hne : l ≠ []) (a b : Nat) : beh a b l = if (Lib.decodeL l).1 = 10 then beh (a + 1) 1 (l.drop (Lib.decodeL l).2) else beh a (b + 1) (l.drop (Lib.decodeL l).2) := by
  have hp : 1 ≤ l.length := by have := List.length_pos_iff.2 hne; omega
  obtain ⟨n, hn⟩ : ∃ n, l.length = n + 1 := ⟨l.length - 1, by omega⟩
  have h1 := Lib.decodeL_width l
  unfold beh
  rw [hn, behF, if_neg hne]
  rw [behF_fuel n (l.drop (Lib.decodeL l).2).length (a + 1) 1 _ (by simp; omega) (Nat.le_refl _), behF_fuel n (l.drop (Lib.decodeL l).2).length a (b + 1) _ (by simp; omega) (Nat.le_refl _)]
theorem beh_app (p z : List UInt8) (a b : Nat) (hp : badA p < 0) : beh a b (p ++ z) = beh (beh a b p).1 (beh a b p).2 z := by
  by_cases h0 : p = []
  · subst h0; rfl
  · obtain ⟨h1, h2⟩ := (gd_step h0).1 hp
    have hw := Lib.decodeL_width p
    have hl := Lib.decodeL_le p h0
    have hd := dec_app p z h0 h1
    have hne : p ++ z ≠ [] := by intro e; exact h0 (List.append_eq_nil_iff.1 e).1
    rw [beh_step hne, beh_step h0, hd, drop_ext _ _ _ hl]
    by_cases hb : (Lib.decodeL p).1 = 10
    · rw [if_pos hb, if_pos hb]; exact beh_app _ z _ _ h2
    · rw [if_neg hb, if_neg hb]; exact beh_app _ z _ _ h2
termination_by p.length
decreasing_by all_goals (simp; omega)
theorem span_app (p z : List UInt8) (i : Nat) (hi : i ≤ p.length) (hp : badA (p.drop i) < 0) (hn : noSpan (p ++ z) i) : noSpan (p ++ z) p.length := by
  by_cases h0 : p.drop i = []
  · have : p.length ≤ i := by simpa using h0
    obtain rfl : i = p.length := by omega
    exact hn
  · obtain ⟨h1, h2⟩ := (gd_step h0).1 hp
    have hw := Lib.decodeL_width (p.drop i)
    have hl := Lib.decodeL_le (p.drop i) h0
    rw [List.length_drop] at hl
    have hd := dec_app (p.drop i) z h0 h1
    have hwd : wd (p ++ z) i = (Lib.decodeL (p.drop i)).2 := by
      unfold wd; rw [drop_ext _ _ _ hi, hd]
    have h3 := noSpan_next hn
    rw [hwd] at h3
    have hlt : i < p.length := by
      rcases Nat.lt_or_ge i p.length with h | h
      · exact h
      · exact absurd (List.drop_eq_nil_of_le h) h0
    refine span_app p z (i + (Lib.decodeL (p.drop i)).2) (by omega) ?_ h3
    rw [← List.drop_drop]; exact h2
termination_by p.length - i
decreasing_by omega
theorem bgn_here {l : List UInt8} {A : Nat} (h : noSpan l A) : bgn l A = A := by
  unfold bgn
  rcases bgnF_ge l A 4 (A - 3) with e | ⟨_, e1, e2⟩
  · exact e
  · have := h _ e1; omega
/-- line and column behind whole characters -/
theorem whr_here (p z : List UInt8) (hp : badA p < 0) : whr (p ++ z) p.length = beh 1 1 p := by
  unfold whr
  rw [bgn_here (span_app p z 0 (Nat.zero_le _) hp (noSpan_zero _)), List.take_left]
theorem gd_ascii : ∀ l : List UInt8, (∀ x ∈ l, 0 < x.toNat ∧ x.toNat < 128) → badA l < 0
  | [], _ => gd_nil
  | x :: l, h => by
    obtain ⟨h1, h2⟩ := h x (by simp)
    have hd := Lib.decodeL_ascii x l h2
    refine (gd_step (by simp)).2 ⟨?_, ?_⟩
    · unfold badHere
      rw [hd]
      have e1 : decide (x.toNat = 0) = false := decide_eq_false (by omega)
      have e2 : decide (x.toNat = 65533) = false := decide_eq_false (by omega)
      simp only [e1, e2]; rfl
    · rw [hd]
      exact gd_ascii l (fun y hy => h y (List.mem_cons_of_mem _ hy))
end Go.Proofs.YtclekihmhicpaaaGreatDoor
