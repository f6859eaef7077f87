/-
  The tokens of two texts, a line feed between.
-/
import Derived.Test.YtfcolecglobcdaaGreatDoorLxP
namespace Go.Proofs.YtfcolecglobcdaaGreatDoor
open Go.RowKit Go.Shelf

/-! ### Tokens, one text behind the other -/
theorem rdP_end {r : List UInt8} (h : (rdP r).why = 0) : (rdP r).kind = 6 ↔ r = [] := by
  rcases r with _ | ⟨x, r⟩
  · exact ⟨fun _ => rfl, fun _ => rfl⟩
  · refine ⟨fun hk => absurd hk ?_, fun h => by simp at h⟩
    have kA : ∀ (l : List UInt8) (k : Int) (t : List UInt8) (v : Va), k ≠ 6 → (rdA l k t v).kind ≠ 6 := by
      intro l k t v hk; unfold rdA; split
      · exact (show ¬ (0 : Int) = 6 by decide)
      · exact hk
    have kE : ∀ e : Int, (pcE e).kind ≠ 6 := fun e => (show ¬ (0 : Int) = 6 by decide)
    rw [rdP_cons]
    clear h hk
    split
    · exact (show ¬ (0 : Int) = 6 by decide)
    split
    · exact kA _ _ _ _ (by decide)
    split
    · unfold rdR; split
      · exact kE _
      · exact kA _ _ _ _ (by decide)
    split
    · unfold rdW; split
      · exact kE _
      · exact (show ¬ (1 : Int) = 6 by decide)
    split
    · unfold rdN; split
      · exact kE _
      · split
        · exact (show ¬ (3 : Int) = 6 by decide)
        · exact kE _
    split
    · unfold rdQ; split
      · exact kE _
      · split
        · exact kE _
        · exact kA _ _ _ _ (by decide)
    split
    · unfold rdT; split
      · exact kE _
      · split
        · exact kE _
        · exact kA _ _ _ _ (by decide)
    split
    · unfold rdM; split
      · exact kE _
      · exact (show ¬ (4 : Int) = 6 by decide)
    · unfold rdS; split
      · exact kE _
      · exact (show ¬ (5 : Int) = 6 by decide)
theorem scn_bad (f p a b : Nat) (r : List UInt8) (h : (rdP r).why ≠ 0) : scn (f + 1) p a b r = ⟨[], p + (rdP r).ahead, (rdP r).why⟩ := by rw [scn, if_pos h]
theorem scn_nil (f p a b : Nat) : scn (f + 1) p a b [] = ⟨[⟨6, [], v0, p, a, b⟩], 0, 0⟩ := by
  rw [scn, if_neg (show ¬ (rdP []).why ≠ 0 from fun h => h rfl), if_pos (show (rdP []).kind = 6 from rfl)]; rfl
theorem scn_skip (f p a b : Nat) (r : List UInt8) (h : (rdP r).why = 0) (h1 : (rdP r).kind = 0) :
    scn (f + 1) p a b r = scn f (p + (rdP r).size) (beh a b (r.take (rdP r).size)).1 (beh a b (r.take (rdP r).size)).2 (r.drop (rdP r).size) := by
  rw [scn, if_neg (fun k => k h), if_neg (by rw [h1]; decide), if_pos h1]
theorem scn_tell (f p a b : Nat) (r : List UInt8) (h : (rdP r).why = 0) (h1 : (rdP r).kind ≠ 0) (h2 : (rdP r).kind ≠ 6) :
    scn (f + 1) p a b r = Ts.cons ⟨(rdP r).kind, (rdP r).text, (rdP r).v, p, a, b⟩ (scn f (p + (rdP r).size) (beh a b (r.take (rdP r).size)).1 (beh a b (r.take (rdP r).size)).2 (r.drop (rdP r).size)) := by
  rw [scn, if_neg (fun k => k h), if_neg h2, if_neg h1]
theorem scn_fuel : ∀ (f g p a b : Nat) (r : List UInt8), r.length < f → r.length < g → scn f p a b r = scn g p a b r
  | 0, _, _, _, _, r, h, _ => absurd h (by omega)
  | _ + 1, 0, _, _, _, r, _, h => absurd h (by omega)
  | f + 1, g + 1, p, a, b, r, hf, hg => by
    by_cases h : (rdP r).why = 0
    · rcases r with _ | ⟨x, r⟩
      · rw [scn_nil, scn_nil]
      · obtain ⟨h1, h2⟩ := rdP_size h
        have hl : ((x :: r).drop (rdP (x :: r)).size).length = r.length + 1 - (rdP (x :: r)).size := by simp
        simp only [List.length_cons] at hf hg
        by_cases hk : (rdP (x :: r)).kind = 0
        · rw [scn_skip f p a b _ h hk, scn_skip g p a b _ h hk, scn_fuel f g _ _ _ _ (by omega) (by omega)]
        · have h6 : (rdP (x :: r)).kind ≠ 6 := fun e => by have := (rdP_end h).1 e; simp at this
          rw [scn_tell f p a b _ h hk h6, scn_tell g p a b _ h hk h6, scn_fuel f g _ _ _ _ (by omega) (by omega)]
    · rw [scn_bad f p a b r h, scn_bad g p a b r h]
def bare (t : Tk) : Int × List UInt8 × Va := (t.kind, t.text, t.v)
theorem scn_bare : ∀ (f p a b p' a' b' : Nat) (r : List UInt8), (scn f p a b r).l.map bare = (scn f p' a' b' r).l.map bare ∧ (scn f p a b r).why = (scn f p' a' b' r).why
  | 0, _, _, _, _, _, _, _ => ⟨rfl, rfl⟩
  | f + 1, p, a, b, p', a', b', r => by
    by_cases h : (rdP r).why = 0
    · by_cases h6 : (rdP r).kind = 6
      · rw [(rdP_end h).1 h6, scn_nil, scn_nil]; exact ⟨rfl, rfl⟩
      · by_cases hk : (rdP r).kind = 0
        · rw [scn_skip f p a b _ h hk, scn_skip f p' a' b' _ h hk]
          exact scn_bare f _ _ _ _ _ _ _
        · rw [scn_tell f p a b _ h hk h6, scn_tell f p' a' b' _ h hk h6]
          have ih := scn_bare f (p + (rdP r).size) (beh a b (r.take (rdP r).size)).1 (beh a b (r.take (rdP r).size)).2 (p' + (rdP r).size) (beh a' b' (r.take (rdP r).size)).1 (beh a' b' (r.take (rdP r).size)).2 (r.drop (rdP r).size)
          refine ⟨?_, ih.2⟩
          show _ :: _ = _ :: _
          rw [ih.1]; rfl
    · rw [scn_bad f p a b r h, scn_bad f p' a' b' r h]; exact ⟨rfl, rfl⟩
theorem scn_parts (B : List UInt8) : ∀ (f g p a b : Nat) (r : List UInt8), r.length < f → r.length + B.length + 1 < g → (scn f p a b r).why = 0 →
    ∃ (T : List Tk) (e : Tk) (p' a' b' : Nat), (scn f p a b r).l = T ++ [e] ∧ e.kind = 6 ∧ scn g p a b (r ++ 10 :: B) = ⟨T ++ (scn (B.length + 2) p' a' b' (10 :: B)).l, (scn (B.length + 2) p' a' b' (10 :: B)).pos, (scn (B.length + 2) p' a' b' (10 :: B)).why⟩
  | 0, _, _, _, _, r, h, _, _ => absurd h (by omega)
  | _ + 1, 0, _, _, _, r, _, h, _ => absurd h (by omega)
  | f + 1, g + 1, p, a, b, r, hf, hg, hw => by
    by_cases h : (rdP r).why = 0
    · rcases r with _ | ⟨x, r⟩
      · refine ⟨[], ⟨6, [], v0, p, a, b⟩, p, a, b, by rw [scn_nil]; rfl, rfl, ?_⟩
        rw [scn_fuel (g + 1) (B.length + 2) p a b ([] ++ 10 :: B) (by simp at hg ⊢; omega) (by simp)]
        rfl
      · obtain ⟨he, h1, h2⟩ := rdP_ext x r B h
        have hl : ((x :: r).drop (rdP (x :: r)).size).length = r.length + 1 - (rdP (x :: r)).size := by simp
        simp only [List.length_cons] at hf hg
        have ht : ((x :: r) ++ 10 :: B).take (rdP (x :: r)).size = (x :: r).take (rdP (x :: r)).size := take_ext _ _ _ (by simpa using h1)
        have hd : ((x :: r) ++ 10 :: B).drop (rdP (x :: r)).size = (x :: r).drop (rdP (x :: r)).size ++ 10 :: B := drop_ext _ _ _ (by simpa using h1)
        have h' : (rdP ((x :: r) ++ 10 :: B)).why = 0 := by rw [he]; exact h
        by_cases hk : (rdP (x :: r)).kind = 0
        · rw [scn_skip f p a b _ h hk] at hw
          obtain ⟨T, e, p', a', b', e1, e2, e3⟩ := scn_parts B f g _ _ _ _ (by omega) (by rw [hl]; omega) hw
          refine ⟨T, e, p', a', b', ?_, e2, ?_⟩
          · rw [scn_skip f p a b _ h hk]; exact e1
          · rw [scn_skip g p a b _ h' (by rw [he]; exact hk), he, ht, hd]; exact e3
        · have h6 : (rdP (x :: r)).kind ≠ 6 := fun e => by have := (rdP_end h).1 e; simp at this
          rw [scn_tell f p a b _ h hk h6] at hw
          obtain ⟨T, e, p', a', b', e1, e2, e3⟩ := scn_parts B f g _ _ _ _ (by omega) (by rw [hl]; omega) hw
          refine ⟨⟨(rdP (x :: r)).kind, (rdP (x :: r)).text, (rdP (x :: r)).v, p, a, b⟩ :: T, e, p', a', b', ?_, e2, ?_⟩
          · rw [scn_tell f p a b _ h hk h6]
            show _ :: _ = _
            rw [e1]; rfl
          · rw [scn_tell g p a b _ h' (by rw [he]; exact hk) (by rw [he]; exact h6), he, ht, hd, e3]; rfl
    · rw [scn_bad f p a b r h] at hw; exact absurd hw h
theorem tks_len {l : List UInt8} (h : (tks l).why = 0) : l.length ≤ 65536 := by
  unfold tks at h
  by_cases hl : 65536 < l.length
  · rw [if_pos hl] at h; exact absurd h (show ¬ (2 : Int) = 0 by decide)
  · omega
theorem tks_long {l : List UInt8} (h : 65536 < l.length) : tks l = ⟨[], 0, 2⟩ := by unfold tks; rw [if_pos h]
theorem tks_short {l : List UInt8} (h : l.length ≤ 65536) : tks l = scn (l.length + 1) 0 1 1 l := by unfold tks; rw [if_neg (by omega)]
/-- the tokens of two texts, a line feed between -/
theorem parts {a b : List UInt8} (ha : (tks a).why = 0) (hb : (tks b).why = 0) (hl : a.length + b.length < 65536) :
    (tks (a ++ 10 :: b)).why = 0 ∧ ∃ (T : List Tk) (e : Tk) (M : List Tk), (tks a).l = T ++ [e] ∧ (tks (a ++ 10 :: b)).l = T ++ M ∧ M.map bare = (tks b).l.map bare := by
  have h1 := tks_short (tks_len ha)
  have h2 := tks_short (tks_len hb)
  have h3 : tks (a ++ 10 :: b) = scn ((a ++ 10 :: b).length + 1) 0 1 1 (a ++ 10 :: b) := tks_short (by simp; omega)
  rw [h1] at ha
  obtain ⟨T, e, p', a', b', e1, e2, e3⟩ := scn_parts b (a.length + 1) ((a ++ 10 :: b).length + 1) 0 1 1 a (by omega) (by simp) ha
  have hr : rdP (10 :: b) = pcT 1 0 [] := by rw [rdP_cons, if_pos (by decide)]
  have hs : scn (b.length + 2) p' a' b' (10 :: b) = scn (b.length + 1) (p' + 1) (beh a' b' ((10 :: b).take 1)).1 (beh a' b' ((10 :: b).take 1)).2 b := by
    rw [scn_skip _ _ _ _ _ (by rw [hr]; rfl) (by rw [hr]; rfl), hr]; rfl
  have hbare := scn_bare (b.length + 1) (p' + 1) (beh a' b' ((10 :: b).take 1)).1 (beh a' b' ((10 :: b).take 1)).2 0 1 1 b
  rw [h2] at hb
  refine ⟨?_, T, e, (scn (b.length + 2) p' a' b' (10 :: b)).l, by rw [h1]; exact e1, by rw [h3, e3], ?_⟩
  · rw [h3, e3, hs]; exact hbare.2.trans hb
  · rw [hs, h2]; exact hbare.1
theorem parts_long {a b : List UInt8} (hl : 65536 ≤ a.length + b.length) : tks (a ++ 10 :: b) = ⟨[], 0, 2⟩ := tks_long (by simp; omega)
end Go.Proofs.YtfcolecglobcdaaGreatDoor
