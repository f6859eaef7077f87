/-
  Texts of whole characters, one behind the other: lines and columns, places.
-/
import Derived.Test.YtfcolecglobcdaaGreatDoorGA
import Derived.Test.YtfcolecglobcdaaGreatDoorLxQ
import Derived.Test.YtfcolecglobcdaaGreatDoorGB
namespace Go.Proofs.YtfcolecglobcdaaGreatDoor
open Go.RowKit Go.Shelf

theorem decN_short (n n' b0 b1 b2 b3 c1 c2 c3 : Nat) (hw : n' < (Lib.decodeN n b0 b1 b2 b3).2) (h1 : 1 ≤ n') : Lib.decodeN n' b0 c1 c2 c3 = (65533, 1) := by
  unfold Lib.decodeN at hw ⊢
  split at hw
  · have : n' < 1 := hw
    omega
  rename_i e0
  rw [if_neg e0]
  split at hw
  · rename_i e1
    have hn : n' = 1 := by
      split at hw
      · have : n' < 2 := hw
        omega
      · have : n' < 1 := hw
        omega
    subst hn
    rw [if_neg (by omega), if_neg (by omega), if_neg (by omega)]
  rename_i e1
  split at hw
  · rename_i e2
    have hn : n' < 3 := by
      split at hw
      · exact hw
      · have : n' < 1 := hw
        omega
    rw [if_neg (by omega), if_neg (by omega), if_neg (by omega)]
  split at hw
  · rename_i e3
    have hn : n' < 4 := by
      split at hw
      · exact hw
      · have : n' < 1 := hw
        omega
    rw [if_neg (by omega), if_neg (by omega), if_neg (by omega)]
  · have : n' < 1 := hw
    omega
theorem dec_app (l z : List UInt8) (hne : l ≠ []) (h : badHere l = false) : Lib.decodeL (l ++ z) = Lib.decodeL l := by
  have hp : 1 ≤ l.length := by have := List.length_pos_iff.2 hne; omega
  by_cases hw : (Lib.decodeL (l ++ z)).2 ≤ l.length
  · have := dec_take (l ++ z) l.length hw (by simp)
    rw [List.take_left] at this
    exact this.symm
  · exfalso
    rw [Lib.decodeL_N] at hw
    have e0 : (l ++ z).getD 0 0 = l.getD 0 0 := by
      rcases l with _ | ⟨x, l⟩
      · exact absurd rfl hne
      · rfl
    rw [e0] at hw
    have hs : Lib.decodeL l = (65533, 1) := by
      rw [Lib.decodeL_N]
      exact decN_short _ _ _ _ _ _ _ _ _ (Nat.lt_of_not_le hw) hp
    unfold badHere at h
    rw [hs] at h
    have hpre : ([239, 191, 189] : List UInt8).isPrefixOf l = true := by simpa using h
    rw [pre_repl] at hpre
    have := decode_repl l hpre
    rw [hs] at this
    exact absurd this (by decide)
theorem badF_neg : ∀ (f g k k' : Nat) (l : List UInt8), l.length ≤ f → l.length ≤ g → (badF f k l < 0 ↔ badF g k' l < 0)
  | 0, g, k, k', l, hf, hg => by
    obtain rfl : l = [] := List.length_eq_zero_iff.1 (by omega)
    rw [badF_end, badF_end]
  | f + 1, 0, k, k', l, hf, hg => by
    obtain rfl : l = [] := List.length_eq_zero_iff.1 (by omega)
    rw [badF_end, badF_end]
  | f + 1, g + 1, k, k', l, hf, hg => by
    by_cases h0 : l = []
    · subst h0; rw [badF_end, badF_end]
    · rw [badF, badF, if_neg h0, if_neg h0]
      by_cases hb : badHere l = true
      · rw [if_pos hb, if_pos hb]; omega
      · rw [if_neg hb, if_neg hb]
        have h1 := Lib.decodeL_width l
        exact badF_neg f g _ _ _ (by simp; omega) (by simp; omega)
theorem gd_nil : badA [] < 0 := by decide
theorem gd_step {l : List UInt8} (hne : l ≠ []) : badA l < 0 ↔ badHere l = false ∧ badA (l.drop (Lib.decodeL l).2) < 0 := by
  have hp : 1 ≤ l.length := by have := List.length_pos_iff.2 hne; omega
  obtain ⟨n, hn⟩ : ∃ n, l.length = n + 1 := ⟨l.length - 1, by omega⟩
  have h1 := Lib.decodeL_width l
  unfold badA
  rw [hn, badF, if_neg hne]
  by_cases hb : badHere l = true
  · rw [if_pos hb]
    constructor
    · intro h; omega
    · rintro ⟨h, _⟩; rw [hb] at h; cases h
  · rw [if_neg hb]
    have e := badF_neg n (l.drop (Lib.decodeL l).2).length (0 + (Lib.decodeL l).2) 0 (l.drop (Lib.decodeL l).2) (by simp; omega) (Nat.le_refl _)
    rw [e]
    exact ⟨fun h => ⟨by simpa using hb, h⟩, fun h => h.2⟩
theorem gd_app (p q : List UInt8) (hp : badA p < 0) (hq : badA q < 0) : badA (p ++ q) < 0 := by
  by_cases h0 : p = []
  · subst h0; exact hq
  · obtain ⟨h1, h2⟩ := (gd_step h0).1 hp
    have hw := Lib.decodeL_width p
    have hl := Lib.decodeL_le p h0
    have hd := dec_app p q h0 h1
    have hne : p ++ q ≠ [] := by intro e; exact h0 (List.append_eq_nil_iff.1 e).1
    refine (gd_step hne).2 ⟨?_, ?_⟩
    · unfold badHere at h1 ⊢
      rw [hd]
      by_cases hr : (Lib.decodeL p).1 = 65533
      · rw [hr] at h1 ⊢
        have hpre : ([239, 191, 189] : List UInt8).isPrefixOf p = true := by simpa using h1
        have : ([239, 191, 189] : List UInt8).isPrefixOf (p ++ q) = true := by
          rw [List.isPrefixOf_iff_prefix] at hpre ⊢
          exact hpre.trans ⟨q, rfl⟩
        simp [this]
      · rw [decide_eq_false hr] at h1 ⊢
        simpa using h1
    · rw [hd, drop_ext _ _ _ hl]
      exact gd_app _ q h2 hq
termination_by p.length
decreasing_by simp; omega
theorem behF_fuel : ∀ (f g a b : Nat) (l : List UInt8), l.length ≤ f → l.length ≤ g → behF f a b l = behF g a b l
  | 0, g, a, b, l, hf, hg => by
    obtain rfl : l = [] := List.length_eq_zero_iff.1 (by omega)
    rw [behF_end, behF_end]
  | f + 1, 0, a, b, l, hf, hg => by
    obtain rfl : l = [] := List.length_eq_zero_iff.1 (by omega)
    rw [behF_end, behF_end]
  | f + 1, g + 1, a, b, l, hf, hg => by
    by_cases h0 : l = []
    · subst h0; rw [behF_end, behF_end]
    · have h1 := Lib.decodeL_width l
      rw [behF, behF, if_neg h0, if_neg h0]
      by_cases hb : (Lib.decodeL l).1 = 10
      · rw [if_pos hb, if_pos hb]; exact behF_fuel f g _ _ _ (by simp; omega) (by simp; omega)
      · rw [if_neg hb, if_neg hb]; exact behF_fuel f g _ _ _ (by simp; omega) (by simp; omega)
theorem beh_step {l : List UInt8} (hne : l ≠ []) (a b : Nat) : beh a b l = if (Lib.decodeL l).1 = 10 then beh (a + 1) 1 (l.drop (Lib.decodeL l).2) else beh a (b + 1) (l.drop (Lib.decodeL l).2) := by
  have hp : 1 ≤ l.length := by have := List.length_pos_iff.2 hne; omega
  obtain ⟨n, hn⟩ : ∃ n, l.length = n + 1 := ⟨l.length - 1, by omega⟩
  have h1 := Lib.decodeL_width l
  unfold beh
  rw [hn, behF, if_neg hne]
  rw [behF_fuel n (l.drop (Lib.decodeL l).2).length (a + 1) 1 _ (by simp; omega) (Nat.le_refl _), behF_fuel n (l.drop (Lib.decodeL l).2).length a (b + 1) _ (by simp; omega) (Nat.le_refl _)]
theorem beh_app (p z : List UInt8) (a b : Nat) (hp : badA p < 0) : beh a b (p ++ z) = beh (beh a b p).1 (beh a b p).2 z := by
  by_cases h0 : p = []
  · subst h0; rfl
  · obtain ⟨h1, h2⟩ := (gd_step h0).1 hp
    have hw := Lib.decodeL_width p
    have hl := Lib.decodeL_le p h0
    have hd := dec_app p z h0 h1
    have hne : p ++ z ≠ [] := by intro e; exact h0 (List.append_eq_nil_iff.1 e).1
    rw [beh_step hne, beh_step h0, hd, drop_ext _ _ _ hl]
    by_cases hb : (Lib.decodeL p).1 = 10
    · rw [if_pos hb, if_pos hb]; exact beh_app _ z _ _ h2
    · rw [if_neg hb, if_neg hb]; exact beh_app _ z _ _ h2
termination_by p.length
decreasing_by all_goals (simp; omega)
theorem span_app (p z : List UInt8) (i : Nat) (hi : i ≤ p.length) (hp : badA (p.drop i) < 0) (hn : noSpan (p ++ z) i) : noSpan (p ++ z) p.length := by
  by_cases h0 : p.drop i = []
  · have : p.length ≤ i := by simpa using h0
    obtain rfl : i = p.length := by omega
    exact hn
  · obtain ⟨h1, h2⟩ := (gd_step h0).1 hp
    have hw := Lib.decodeL_width (p.drop i)
    have hl := Lib.decodeL_le (p.drop i) h0
    rw [List.length_drop] at hl
    have hd := dec_app (p.drop i) z h0 h1
    have hwd : wd (p ++ z) i = (Lib.decodeL (p.drop i)).2 := by
      unfold wd; rw [drop_ext _ _ _ hi, hd]
    have h3 := noSpan_next hn
    rw [hwd] at h3
    have hlt : i < p.length := by
      rcases Nat.lt_or_ge i p.length with h | h
      · exact h
      · exact absurd (List.drop_eq_nil_of_le h) h0
    refine span_app p z (i + (Lib.decodeL (p.drop i)).2) (by omega) ?_ h3
    rw [← List.drop_drop]; exact h2
termination_by p.length - i
decreasing_by omega
theorem bgn_here {l : List UInt8} {A : Nat} (h : noSpan l A) : bgn l A = A := by
  unfold bgn
  rcases bgnF_ge l A 4 (A - 3) with e | ⟨_, e1, e2⟩
  · exact e
  · have := h _ e1; omega
/-- line and column behind whole characters -/
theorem whr_here (p z : List UInt8) (hp : badA p < 0) : whr (p ++ z) p.length = beh 1 1 p := by
  unfold whr
  rw [bgn_here (span_app p z 0 (Nat.zero_le _) hp (noSpan_zero _)), List.take_left]
theorem gd_ascii : ∀ l : List UInt8, (∀ x ∈ l, 0 < x.toNat ∧ x.toNat < 128) → badA l < 0
  | [], _ => gd_nil
  | x :: l, h => by
    obtain ⟨h1, h2⟩ := h x (by simp)
    have hd := Lib.decodeL_ascii x l h2
    refine (gd_step (by simp)).2 ⟨?_, ?_⟩
    · unfold badHere
      rw [hd]
      have e1 : decide (x.toNat = 0) = false := decide_eq_false (by omega)
      have e2 : decide (x.toNat = 65533) = false := decide_eq_false (by omega)
      simp only [e1, e2]; rfl
    · rw [hd]
      exact gd_ascii l (fun y hy => h y (List.mem_cons_of_mem _ hy))
end Go.Proofs.YtfcolecglobcdaaGreatDoor
namespace Go.Proofs.YtfcolecglobcdaaGreatDoor
open Go.RowKit Go.Shelf

theorem isL_ascii {x : UInt8} (h : isL x = true) : 0 < x.toNat ∧ x.toNat < 128 := by
  unfold isL at h
  have := of_decide_eq_true h
  omega
theorem isD_ascii {x : UInt8} (h : isD x = true) : 0 < x.toNat ∧ x.toNat < 128 := by
  unfold isD at h
  have := of_decide_eq_true h
  omega
theorem wtl_asc : ∀ r : List UInt8, ∀ x ∈ r.take (wtl r), 0 < x.toNat ∧ x.toNat < 128
  | [], x, h => by simp at h
  | y :: r, x, h => by
    rw [wtl] at h
    split at h
    · rename_i hy
      rw [List.take_succ_cons] at h
      rcases List.mem_cons.1 h with rfl | h
      · rcases Bool.or_eq_true _ _ ▸ hy with hy | hy
        · exact isL_ascii hy
        · exact isD_ascii hy
      · exact wtl_asc r x h
    · simp at h
theorem wsz_all : ∀ r : List UInt8, ∀ x ∈ r.take (wsz r), 0 < x.toNat ∧ x.toNat < 128
  | [], x, h => by simp at h
  | y :: r, x, h => by
    rw [wsz] at h
    split at h
    · rename_i hy
      rw [List.take_succ_cons] at h
      rcases List.mem_cons.1 h with rfl | h
      · exact isL_ascii hy
      · exact wtl_asc r x h
    · simp at h
theorem dsz_all : ∀ r : List UInt8, ∀ x ∈ r.take (dsz r), 0 < x.toNat ∧ x.toNat < 128
  | [], x, h => by simp at h
  | y :: r, x, h => by
    rw [dsz] at h
    split at h
    · rename_i hy
      rw [List.take_succ_cons] at h
      rcases List.mem_cons.1 h with rfl | h
      · exact isD_ascii hy
      · exact dsz_all r x h
    · simp at h
theorem fsz_all (r : List UInt8) (hf : fsz r ≠ 0) : ∀ x ∈ r.take (1 + fsz r), 0 < x.toNat ∧ x.toNat < 128 := by
  rcases r with _ | ⟨y, r⟩
  · exact absurd rfl hf
  · rw [fsz] at hf ⊢
    by_cases hy : y = 46
    · rw [if_pos hy] at hf ⊢
      intro x h
      rw [Nat.add_comm, List.take_succ_cons] at h
      rcases List.mem_cons.1 h with rfl | h
      · subst hy; decide
      · exact dsz_all r x h
    · rw [if_neg hy] at hf; exact absurd rfl hf
theorem nsz_all (r : List UInt8) : ∀ x ∈ r.take (nsz r), 0 < x.toNat ∧ x.toNat < 128 := by
  intro x h
  unfold nsz at h
  split at h
  · exact dsz_all r x h
  · rename_i hf
    rw [List.take_add] at h
    rcases List.mem_append.1 h with h | h
    · exact dsz_all r x h
    · exact fsz_all _ hf x h
theorem ssF_all (r : List UInt8) : ∀ gs : List (List UInt8), (∀ g ∈ gs, ∀ x ∈ g, 0 < x.toNat ∧ x.toNat < 128) → ∀ x ∈ r.take (ssF r gs), 0 < x.toNat ∧ x.toNat < 128
  | [], _, x, h => by simp [ssF] at h
  | g :: gs, hg, x, h => by
    rw [ssF] at h
    split at h
    · rename_i hp
      obtain ⟨t, rfl⟩ := List.isPrefixOf_iff_prefix.1 hp
      rw [List.take_left] at h
      exact hg g (by simp) x h
    · exact ssF_all r gs (fun g' h' => hg g' (List.mem_cons_of_mem _ h')) x h
theorem ssz_all (r : List UInt8) : ∀ x ∈ r.take (ssz r), 0 < x.toNat ∧ x.toNat < 128 := ssF_all r sgs (by decide)
theorem cut_take (r : List UInt8) : r.take (Lib.cut r [10]).1.length = (Lib.cut r [10]).1 := by
  unfold Lib.cut
  split
  · simp only [List.length_take]
    exact List.take_eq_take_min.symm
  · simp
theorem rdA_gd {l : List UInt8} {k : Int} {t : List UInt8} {v : Va} (h : (rdA l k t v).why = 0) : badA l < 0 ∧ (rdA l k t v).size = l.length := by
  unfold rdA at h ⊢
  split
  · rename_i hb; rw [if_pos hb] at h; exact absurd h (show ¬ (30 : Int) = 0 by decide)
  · rename_i hb; exact ⟨by omega, rfl⟩
theorem pcE_no {e : Int} (he : e ≠ 0) {P : Prop} (h : (pcE e).why = 0) : P := absurd h he
theorem blank_is (x : UInt8) (h : 0 ≤ Lib.indexByte [32, 9, 10, 13] x) : x = 32 ∨ x = 9 ∨ x = 10 ∨ x = 13 := by
  by_cases e1 : x = 32
  · exact Or.inl e1
  by_cases e2 : x = 9
  · exact Or.inr (Or.inl e2)
  by_cases e3 : x = 10
  · exact Or.inr (Or.inr (Or.inl e3))
  by_cases e4 : x = 13
  · exact Or.inr (Or.inr (Or.inr e4))
  exfalso
  have g : ∀ {a b : UInt8}, ¬ a = b → (b == a) = false ∧ (a == b) = false := fun h => ⟨by rw [beq_eq_false_iff_ne]; exact fun e => h e.symm, by rw [beq_eq_false_iff_ne]; exact h⟩
  simp [Lib.indexByte, g e1, g e2, g e3, g e4] at h
/-- a piece is whole characters -/
theorem rdP_gd (r : List UInt8) (h : (rdP r).why = 0) : badA (r.take (rdP r).size) < 0 := by
  rcases r with _ | ⟨x, r⟩
  · exact gd_nil
  rw [rdP_cons] at h ⊢
  by_cases c0 : 0 ≤ Lib.indexByte [32, 9, 10, 13] x
  · rw [if_pos c0]
    show badA [x] < 0
    refine gd_ascii _ ?_
    have hx := blank_is x c0
    intro y hy
    rw [List.mem_singleton] at hy
    subst hy
    rcases hx with rfl | rfl | rfl | rfl <;> decide
  rw [if_neg c0] at h ⊢
  split at h
  · rename_i c; rw [if_pos c]
    unfold rdL at h ⊢
    obtain ⟨h1, h2⟩ := rdA_gd h
    rw [h2, cut_take]; exact h1
  rename_i c; rw [if_neg c]
  split at h
  · rename_i c; rw [if_pos c]
    unfold rdR at h ⊢
    split at h
    · exact pcE_no (by decide) h
    · rename_i d; rw [if_neg d]
      obtain ⟨h1, h2⟩ := rdA_gd h
      rw [h2, List.length_take, List.take_eq_take_min, Nat.min_assoc, Nat.min_self, ← List.take_eq_take_min]
      exact h1
  rename_i c; rw [if_neg c]
  split at h
  · rename_i c; rw [if_pos c]
    unfold rdW at h ⊢
    split at h
    · exact pcE_no (by decide) h
    · rename_i d; rw [if_neg d]
      exact gd_ascii _ (wsz_all (x :: r))
  rename_i c; rw [if_neg c]
  split at h
  · rename_i c; rw [if_pos c]
    unfold rdN at h ⊢
    split at h
    · exact pcE_no (by decide) h
    rename_i d; rw [if_neg d]
    split at h
    · rename_i d; rw [if_pos d]
      exact gd_ascii _ (nsz_all (x :: r))
    · exact pcE_no (by decide) h
  rename_i c; rw [if_neg c]
  split at h
  · rename_i c; rw [if_pos c]
    unfold rdQ at h ⊢
    split at h
    · exact pcE_no (by decide) h
    rename_i d; rw [if_neg d]
    split at h
    · exact pcE_no (by decide) h
    · rename_i d; rw [if_neg d]
      obtain ⟨h1, h2⟩ := rdA_gd h
      rw [h2, List.length_take, List.take_eq_take_min, Nat.min_assoc, Nat.min_self, ← List.take_eq_take_min]
      exact h1
  rename_i c; rw [if_neg c]
  split at h
  · rename_i c; rw [if_pos c]
    unfold rdT at h ⊢
    split at h
    · exact pcE_no (by decide) h
    rename_i d; rw [if_neg d]
    split at h
    · exact pcE_no (by decide) h
    · rename_i d; rw [if_neg d]
      obtain ⟨h1, h2⟩ := rdA_gd h
      rw [h2, List.length_take, List.take_eq_take_min, Nat.min_assoc, Nat.min_self, ← List.take_eq_take_min]
      exact h1
  rename_i c; rw [if_neg c]
  split at h
  · rename_i c; rw [if_pos c]
    unfold rdM at h ⊢
    split at h
    · exact pcE_no (by decide) h
    · rename_i d; rw [if_neg d]
      subst c
      show badA (List.take (1 + wsz r) (58 :: r)) < 0
      rw [Nat.add_comm, List.take_succ_cons]
      refine gd_ascii _ ?_
      intro y hy
      rcases List.mem_cons.1 hy with rfl | hy
      · decide
      · exact wsz_all r y hy
  rename_i c; rw [if_neg c]
  unfold rdS at h ⊢
  split at h
  · exact pcE_no (by decide) h
  · rename_i d; rw [if_neg d]
    exact gd_ascii _ (ssz_all (x :: r))
/-- where a token stands -/
structure At (s : List UInt8) (t : Tk) : Prop where
  le : t.pos ≤ s.length
  whr : whr s t.pos = (t.line, t.col)
theorem scn_at (s : List UInt8) : ∀ (f : Nat) (pre r : List UInt8), r.length < f → s = pre ++ r → badA pre < 0 → (scn f pre.length (beh 1 1 pre).1 (beh 1 1 pre).2 r).why = 0 →
    (∀ t ∈ (scn f pre.length (beh 1 1 pre).1 (beh 1 1 pre).2 r).l, At s t ∧ pre.length ≤ t.pos) ∧ (scn f pre.length (beh 1 1 pre).1 (beh 1 1 pre).2 r).l.Pairwise (fun t u => t.pos < u.pos)
  | 0, _, r, h, _, _, _ => absurd h (by omega)
  | f + 1, pre, r, hf, hs, hg, hw => by
    have h0 : At s ⟨(rdP r).kind, (rdP r).text, (rdP r).v, pre.length, (beh 1 1 pre).1, (beh 1 1 pre).2⟩ := by
      subst hs
      exact ⟨by simp, whr_here pre r hg⟩
    by_cases h : (rdP r).why = 0
    · rcases r with _ | ⟨x, r⟩
      · rw [scn_nil]
        refine ⟨?_, by simp⟩
        intro t ht
        rw [List.mem_singleton] at ht
        subst ht
        exact ⟨h0, Nat.le_refl _⟩
      · obtain ⟨h1, h2⟩ := rdP_size h
        have hg2 := rdP_gd (x :: r) h
        have hb := beh_app pre ((x :: r).take (rdP (x :: r)).size) 1 1 hg
        have hl : ((x :: r).take (rdP (x :: r)).size).length = (rdP (x :: r)).size := by rw [List.length_take]; simp; omega
        have hdl : ((x :: r).drop (rdP (x :: r)).size).length < f := by simp at hf ⊢; omega
        have hs2 : s = (pre ++ (x :: r).take (rdP (x :: r)).size) ++ (x :: r).drop (rdP (x :: r)).size := by rw [List.append_assoc, List.take_append_drop]; exact hs
        have hg3 := gd_app _ _ hg hg2
        have ih := scn_at s f _ _ hdl hs2 hg3
        rw [List.length_append, hl, hb] at ih
        by_cases hk : (rdP (x :: r)).kind = 0
        · rw [scn_skip f _ _ _ _ h hk] at hw ⊢
          obtain ⟨i1, i2⟩ := ih hw
          exact ⟨fun t ht => ⟨(i1 t ht).1, by have := (i1 t ht).2; omega⟩, i2⟩
        · have h6 : (rdP (x :: r)).kind ≠ 6 := fun e => by have := (rdP_end h).1 e; simp at this
          rw [scn_tell f _ _ _ _ h hk h6] at hw ⊢
          obtain ⟨i1, i2⟩ := ih hw
          refine ⟨?_, ?_⟩
          · intro t ht
            rcases List.mem_cons.1 ht with rfl | ht
            · exact ⟨h0, Nat.le_refl _⟩
            · exact ⟨(i1 t ht).1, by have := (i1 t ht).2; omega⟩
          · refine List.pairwise_cons.2 ⟨?_, i2⟩
            intro t ht
            have := (i1 t ht).2
            show pre.length < t.pos
            omega
    · rw [scn_bad f _ _ _ r h] at hw; exact absurd hw h
/-- each token stands where Where says, one behind the other -/
theorem tks_at {s : List UInt8} (h : (tks s).why = 0) : (∀ t ∈ (tks s).l, At s t) ∧ (tks s).l.Pairwise (fun t u => t.pos < u.pos) := by
  have h1 := tks_short (tks_len h)
  rw [h1] at h ⊢
  obtain ⟨i1, i2⟩ := scn_at s (s.length + 1) [] s (by omega) rfl gd_nil h
  exact ⟨fun t ht => (i1 t ht).1, i2⟩
end Go.Proofs.YtfcolecglobcdaaGreatDoor
namespace Go.Proofs.YtfcolecglobcdaaGreatDoor
open Go.RowKit Go.Shelf

/-- what stands behind a piece may be changed so -/
structure Nx (V U : List UInt8) : Prop where
  w : wtl V = 0 → wtl U = 0
  d : dsz V = 0 → dsz U = 0
  f : fsz V = 0 → fsz U = 0
  h : ∀ c : UInt8, c = 34 ∨ c = 39 ∨ c = 61 ∨ c = 62 ∨ c = 45 ∨ c = 42 ∨ c = 124 → V.head? ≠ some c → U.head? ≠ some c
  n : V.head? = some 10 → U.head? = some 10
theorem Nx.refl (V : List UInt8) : Nx V V := ⟨id, id, id, fun _ _ h => h, id⟩
theorem wtl_head (x : UInt8) (r : List UInt8) : wtl (x :: r) = 0 ↔ (isL x || isD x) = false := by
  rw [wtl]; split
  · rename_i h; rw [h]; constructor
    · intro e; omega
    · intro e; cases e
  · rename_i h; simpa using h
theorem dsz_head (x : UInt8) (r : List UInt8) : dsz (x :: r) = 0 ↔ isD x = false := by
  rw [dsz]; split
  · rename_i h; rw [h]; constructor
    · intro e; omega
    · intro e; cases e
  · rename_i h; simpa using h
theorem Nx.new {V U : List UInt8} {c : UInt8} (hc : c = 32 ∨ c = 10 ∨ c = 47) (hn : V.head? ≠ some 10) : Nx V (c :: U) := by
  refine ⟨fun _ => ?_, fun _ => ?_, fun _ => ?_, ?_, fun h => absurd h hn⟩
  · rw [wtl_head]; rcases hc with rfl | rfl | rfl <;> decide
  · rw [dsz_head]; rcases hc with rfl | rfl | rfl <;> decide
  · rw [fsz, if_neg]; rcases hc with rfl | rfl | rfl <;> decide
  · intro e he _
    simp only [List.head?_cons, ne_eq, Option.some.injEq]
    rcases hc with rfl | rfl | rfl <;> rcases he with rfl | rfl | rfl | rfl | rfl | rfl | rfl <;> decide
theorem Nx.app {V U : List UInt8} (h : Nx V U) (v : List UInt8) : Nx (v ++ V) (v ++ U) := by
  rcases v with _ | ⟨c, v⟩
  · exact h
  · refine ⟨?_, ?_, ?_, fun _ _ h => h, id⟩
    · rw [List.cons_append, List.cons_append, wtl_head, wtl_head]; exact id
    · rw [List.cons_append, List.cons_append, dsz_head, dsz_head]; exact id
    · rw [List.cons_append, List.cons_append, fsz, fsz]
      by_cases hc : c = 46
      · rw [if_pos hc, if_pos hc]
        rcases v with _ | ⟨e, v⟩
        · exact h.d
        · rw [List.cons_append, List.cons_append, dsz_head, dsz_head]; exact id
      · rw [if_neg hc, if_neg hc]; exact id

theorem wtl_loc (V : List UInt8) : ∀ p : List UInt8, wtl (p ++ V) = p.length → wtl V = 0 ∧ ∀ U, wtl U = 0 → wtl (p ++ U) = p.length
  | [], h => ⟨h, fun _ h => h⟩
  | x :: p, h => by
    rw [List.cons_append, wtl] at h
    split at h
    · rename_i hx
      obtain ⟨h1, h2⟩ := wtl_loc V p (by simpa using h)
      refine ⟨h1, fun U hU => ?_⟩
      rw [List.cons_append, wtl, if_pos hx, h2 U hU]; rfl
    · simp at h
theorem dsz_loc (V : List UInt8) : ∀ p : List UInt8, dsz (p ++ V) = p.length → dsz V = 0 ∧ ∀ U, dsz U = 0 → dsz (p ++ U) = p.length
  | [], h => ⟨h, fun _ h => h⟩
  | x :: p, h => by
    rw [List.cons_append, dsz] at h
    split at h
    · rename_i hx
      obtain ⟨h1, h2⟩ := dsz_loc V p (by simpa using h)
      refine ⟨h1, fun U hU => ?_⟩
      rw [List.cons_append, dsz, if_pos hx, h2 U hU]; rfl
    · simp at h
theorem wsz_loc (V p : List UInt8) (hp : p ≠ []) (h : wsz (p ++ V) = p.length) : wtl V = 0 ∧ ∀ U, wtl U = 0 → wsz (p ++ U) = p.length := by
  rcases p with _ | ⟨x, p⟩
  · exact absurd rfl hp
  · rw [List.cons_append, wsz] at h
    split at h
    · rename_i hx
      obtain ⟨h1, h2⟩ := wtl_loc V p (by simpa using h)
      refine ⟨h1, fun U hU => ?_⟩
      rw [List.cons_append, wsz, if_pos hx, h2 U hU]; rfl
    · simp at h
theorem qz_one (q y : UInt8) (V : List UInt8) : qz q (y :: V) = 1 ↔ y = q ∧ V.head? ≠ some q := by
  rcases V with _ | ⟨v, V⟩
  · rw [qz]; split
    · rename_i h; simp [h]
    · rename_i h; simp [h]
  · rw [qz]
    simp only [List.head?_cons, ne_eq, Option.some.injEq]
    split
    · rename_i h
      split
      · rename_i h2
        split <;> simp [h, h2]
      · rename_i h2; simp [h, h2]
    · rename_i h
      split
      · simp [h]
      · rename_i h2; constructor
        · intro e; omega
        · rintro ⟨e, _⟩; exact absurd e h
theorem qz_loc (q : UInt8) (V : List UInt8) : ∀ p : List UInt8, p ≠ [] → qz q (p ++ V) = p.length → V.head? ≠ some q ∧ ∀ U : List UInt8, U.head? ≠ some q → qz q (p ++ U) = p.length
  | [], hp, _ => absurd rfl hp
  | [y], _, h => by
    obtain ⟨h1, h2⟩ := (qz_one q y V).1 h
    exact ⟨h2, fun U hU => (qz_one q y U).2 ⟨h1, hU⟩⟩
  | y :: z :: t, _, h => by
    rw [List.cons_append, List.cons_append, qz] at h
    simp only [List.length_cons] at h
    split at h
    · rename_i hy
      split at h
      · rename_i hz
        split at h
        · omega
        · rename_i h0
          have h1 : qz q (t ++ V) = t.length := by omega
          have ht : t ≠ [] := by
            rintro rfl
            exact h0 h1
          obtain ⟨i1, i2⟩ := qz_loc q V t ht h1
          refine ⟨i1, fun U hU => ?_⟩
          have i3 := i2 U hU
          have hpos : t.length ≠ 0 := fun e => ht (List.length_eq_zero_iff.1 e)
          rw [List.cons_append, List.cons_append, qz, if_pos hy, if_pos hz, if_neg (by rw [i3]; exact hpos), i3]; rfl
      · omega
    · rename_i hy
      split at h
      · omega
      · obtain ⟨i1, i2⟩ := qz_loc q V (z :: t) (by simp) (by simp only [List.length_cons, List.cons_append]; omega)
        refine ⟨i1, fun U hU => ?_⟩
        have i3 := i2 U hU
        rw [List.cons_append] at i3
        rw [List.cons_append, List.cons_append, qz, if_neg hy, if_neg (by rw [i3]; simp), i3]; rfl
theorem index_cut (V sub : List UInt8) (hs : sub ≠ []) : ∀ q : List UInt8, 0 ≤ Lib.index (q ++ V) sub → Lib.index (q ++ V) sub + sub.length ≤ q.length → 0 ≤ Lib.index q sub
  | [], h, h2 => by
    have := List.length_pos_iff.2 hs
    simp at h h2
    omega
  | x :: q, h, h2 => by
    rw [List.cons_append] at h h2
    unfold Lib.index at h h2 ⊢
    by_cases hp : sub.isPrefixOf (x :: (q ++ V)) = true
    · rw [if_pos hp] at h2
      have : sub.isPrefixOf (x :: q) = true := by
        rw [List.isPrefixOf_iff_prefix] at hp ⊢
        exact List.prefix_of_prefix_length_le hp ⟨V, by simp⟩ (by omega)
      rw [if_pos this]; decide
    · rw [if_neg hp] at h h2
      by_cases hm : Lib.index (q ++ V) sub = -1
      · rw [if_pos (by simpa using hm)] at h; exact absurd h (by decide)
      · rw [if_neg (by simpa using hm)] at h h2
        have hg := Lib.index_ge (q ++ V) sub
        have ih := index_cut V sub hs q (by omega) (by simp only [List.length_cons] at h2; omega)
        split
        · decide
        · rw [if_neg]
          · omega
          · intro e
            have : Lib.index q sub = -1 := by simpa using e
            omega
theorem ssz_one (x : UInt8) (V U : List UInt8) (h : ssz (x :: V) = 1) (h1 : V.head? ≠ some 61 → U.head? ≠ some 61) (h2 : V.head? ≠ some 62 → U.head? ≠ some 62) (h3 : V.head? ≠ some 124 → U.head? ≠ some 124) : ssz (x :: U) = 1 := by
  have key : ∀ W : List UInt8, ssz (x :: W) = if (x = 60 ∧ W.head? = some 61) ∨ (x = 62 ∧ W.head? = some 61) ∨ (x = 60 ∧ W.head? = some 62) ∨ (x = 124 ∧ W.head? = some 124) then 2 else ssF [x] [[40], [41], [44], [59], [46], [42], [43], [45], [47], [61], [60], [62]] := by
    intro W
    rcases W with _ | ⟨y, W⟩
    · simp [ssz, ssF, sgs, List.isPrefixOf]
    · have g : ∀ a b : UInt8, (([a, b] : List UInt8).isPrefixOf (x :: y :: W) = true) ↔ (x = a ∧ y = b) := by
        intro a b
        simp only [List.isPrefixOf, Bool.and_true, Bool.and_eq_true, beq_iff_eq]
        exact ⟨fun h => ⟨h.1.symm, h.2.symm⟩, fun h => ⟨h.1.symm, h.2.symm⟩⟩
      have g1 : ∀ gs : List UInt8, ssF (x :: y :: W) (gs.map fun c => [c]) = ssF [x] (gs.map fun c => [c]) := by
        intro gs
        induction gs with
        | nil => rfl
        | cons c gs ih => rw [List.map_cons, ssF, ssF, ih]; rfl
      have g2 := g1 [40, 41, 44, 59, 46, 42, 43, 45, 47, 61, 60, 62]
      simp only [List.map_cons, List.map_nil] at g2
      simp only [List.head?_cons, Option.some.injEq]
      unfold ssz sgs
      rw [ssF, ssF, ssF, ssF, g2]
      simp only [g]
      by_cases c1 : x = 60 ∧ y = 61
      · rw [if_pos c1, if_pos (Or.inl c1)]; rfl
      by_cases c2 : x = 62 ∧ y = 61
      · rw [if_neg c1, if_pos c2, if_pos (Or.inr (Or.inl c2))]; rfl
      by_cases c3 : x = 60 ∧ y = 62
      · rw [if_neg c1, if_neg c2, if_pos c3, if_pos (Or.inr (Or.inr (Or.inl c3)))]; rfl
      by_cases c4 : x = 124 ∧ y = 124
      · rw [if_neg c1, if_neg c2, if_neg c3, if_pos c4, if_pos (Or.inr (Or.inr (Or.inr c4)))]; rfl
      rw [if_neg c1, if_neg c2, if_neg c3, if_neg c4, if_neg]
      rintro (c | c | c | c)
      · exact c1 c
      · exact c2 c
      · exact c3 c
      · exact c4 c
  rw [key] at h ⊢
  split at h
  · omega
  · rename_i hV
    rw [if_neg]
    · exact h
    · rintro (⟨c, e⟩ | ⟨c, e⟩ | ⟨c, e⟩ | ⟨c, e⟩)
      · exact h1 (fun k => hV (Or.inl ⟨c, k⟩)) e
      · exact h1 (fun k => hV (Or.inr (Or.inl ⟨c, k⟩))) e
      · exact h2 (fun k => hV (Or.inr (Or.inr (Or.inl ⟨c, k⟩)))) e
      · exact h3 (fun k => hV (Or.inr (Or.inr (Or.inr ⟨c, k⟩)))) e
theorem ssF_two (x y : UInt8) (V U : List UInt8) : ∀ gs : List (List UInt8), (∀ g ∈ gs, g.length ≤ 2) → ssF (x :: y :: V) gs = ssF (x :: y :: U) gs
  | [], _ => rfl
  | g :: gs, h => by
    have h2 := h g (by simp)
    have e : g.isPrefixOf (x :: y :: V) = g.isPrefixOf (x :: y :: U) := by
      rcases g with _ | ⟨a, _ | ⟨b, _ | ⟨c, g⟩⟩⟩
      · rfl
      · rfl
      · simp [List.isPrefixOf]
      · simp at h2
    rw [ssF, ssF, e, ssF_two x y V U gs (fun g hg => h g (List.mem_cons_of_mem _ hg))]
theorem ssF_lt (r : List UInt8) : ∀ gs : List (List UInt8), (∀ g ∈ gs, g.length ≤ 2) → ssF r gs ≤ 2
  | [], _ => by simp [ssF]
  | g :: gs, h => by
    rw [ssF]; split
    · exact h g (by simp)
    · exact ssF_lt r gs (fun g hg => h g (List.mem_cons_of_mem _ hg))
theorem ssz_loc (x : UInt8) (p V U : List UInt8) (h : ssz (x :: (p ++ V)) = p.length + 1) (hx : Nx V U) : ssz (x :: (p ++ U)) = p.length + 1 := by
  rcases p with _ | ⟨y, p⟩
  · exact ssz_one x V U h (hx.h 61 (by simp)) (hx.h 62 (by simp)) (hx.h 124 (by simp))
  · rw [← h]; exact (ssF_two x y (p ++ V) (p ++ U) sgs (by decide)).symm
theorem pre2 {a b x : UInt8} {p V U : List UInt8} (hb : V.head? ≠ some b → U.head? ≠ some b) (h : ¬ ([a, b] : List UInt8).isPrefixOf (x :: (p ++ V)) = true) : ¬ ([a, b] : List UInt8).isPrefixOf (x :: (p ++ U)) = true := by
  have g : ∀ W : List UInt8, (([a, b] : List UInt8).isPrefixOf (x :: W) = true) ↔ (x = a ∧ W.head? = some b) := by
    intro W
    rcases W with _ | ⟨y, W⟩
    · simp [List.isPrefixOf]
    · simp only [List.isPrefixOf, Bool.and_true, Bool.and_eq_true, beq_iff_eq, List.head?_cons, Option.some.injEq]
      exact ⟨fun h => ⟨h.1.symm, h.2.symm⟩, fun h => ⟨h.1.symm, h.2.symm⟩⟩
  rw [g] at h ⊢
  rcases p with _ | ⟨y, p⟩
  · rintro ⟨h1, h2⟩
    exact hb (fun e => h ⟨h1, e⟩) h2
  · exact h
end Go.Proofs.YtfcolecglobcdaaGreatDoor
namespace Go.Proofs.YtfcolecglobcdaaGreatDoor
open Go.RowKit Go.Shelf

theorem cut_split : ∀ r : List UInt8, ∃ t : List UInt8, r = (Lib.cut r [10]).1 ++ t ∧ (t = [] ∨ t.head? = some 10) := by
  intro r
  induction r with
  | nil => exact ⟨[], by simp [Lib.cut, Lib.index], Or.inl rfl⟩
  | cons x r ih =>
    by_cases hx : x = 10
    · subst hx
      refine ⟨10 :: r, ?_, Or.inr rfl⟩
      simp [Lib.cut, Lib.index]
    · obtain ⟨t, h1, h2⟩ := ih
      refine ⟨t, ?_, h2⟩
      have e : Lib.index (x :: r) [10] = if Lib.index r [10] == -1 then -1 else Lib.index r [10] + 1 := by
        rw [Lib.index, if_neg]
        simp only [List.isPrefixOf, Bool.and_true, beq_iff_eq]
        exact fun e => hx e.symm
      have hg := Lib.index_ge r [10]
      unfold Lib.cut at h1 ⊢
      rw [e]
      by_cases hm : Lib.index r [10] = -1
      · rw [hm] at h1 ⊢
        rw [if_neg (by decide)] at h1
        rw [if_neg (by decide)]
        simp only at h1 ⊢
        rw [List.cons_append, ← h1]
      · have hne : (Lib.index r [10] == -1) = false := by rw [beq_eq_false_iff_ne]; exact hm
        rw [if_pos (by omega)] at h1
        rw [hne]
        simp only [Bool.false_eq_true, if_false]
        rw [if_pos (by omega)]
        simp only at h1 ⊢
        have ek : (Lib.index r [10] + 1).toNat = (Lib.index r [10]).toNat + 1 := by omega
        rw [ek, List.take_succ_cons, List.cons_append, ← h1]
theorem app_len {p q V t : List UInt8} (h : p ++ V = q ++ t) (hl : p.length = q.length) : p = q ∧ V = t := List.append_inj h hl
/-- a line remark with a line feed behind -/
theorem rdL_loc (p V U : List UInt8) (c : ([45, 45] : List UInt8).isPrefixOf (p ++ V) = true) (h : (rdL (p ++ V)).why = 0) (hs : (rdL (p ++ V)).size = p.length) (hx : Nx V U) (hV : V ≠ []) :
    ([45, 45] : List UInt8).isPrefixOf (p ++ U) = true ∧ rdL (p ++ U) = rdL (p ++ V) := by
  obtain ⟨t, e1, e2⟩ := cut_split (p ++ V)
  have hsz := (rdA_gd h).2
  have hl : p.length = (Lib.cut (p ++ V) [10]).1.length := by rw [← hs]; exact hsz
  obtain ⟨_, rfl⟩ := app_len e1 hl
  have h10 : V.head? = some 10 := by
    rcases e2 with e | e
    · exact absurd e hV
    · exact e
  obtain ⟨V', rfl⟩ : ∃ V', V = 10 :: V' := by
    rcases V with _ | ⟨v, V⟩
    · simp at h10
    · simp at h10; subst h10; exact ⟨V, rfl⟩
  have u10 := hx.n h10
  obtain ⟨U', rfl⟩ : ∃ U', U = 10 :: U' := by
    rcases U with _ | ⟨v, U⟩
    · simp at u10
    · simp at u10; subst u10; exact ⟨U, rfl⟩
  refine ⟨?_, ?_⟩
  · rw [pre_ext U' [45, 45] p (by decide)]
    rw [pre_ext V' [45, 45] p (by decide)] at c
    exact c
  · unfold rdL
    rw [cut_ext, cut_ext]
theorem rdR_loc (p V U : List UInt8) (c : ([47, 42] : List UInt8).isPrefixOf (p ++ V) = true) (h : (rdR (p ++ V)).why = 0) (hs : (rdR (p ++ V)).size = p.length) :
    ([47, 42] : List UInt8).isPrefixOf (p ++ U) = true ∧ rdR (p ++ U) = rdR (p ++ V) := by
  unfold rdR at h hs
  by_cases h0 : Lib.index ((p ++ V).drop 2) [42, 47] < 0
  · rw [if_pos h0] at h; exact pcE_no (by decide) h
  rw [if_neg h0] at h hs
  have hsz := (rdA_gd h).2
  rw [hsz] at hs
  have hr := Lib.index_room ((p ++ V).drop 2) [42, 47] (by omega)
  have h3 : ([42, 47] : List UInt8).length = 2 := rfl
  have hl : (2 + (Lib.index ((p ++ V).drop 2) [42, 47]).toNat + 2) = p.length := by
    rw [← hs, List.length_take]
    rw [List.length_drop] at hr
    omega
  obtain ⟨a, b, q, rfl⟩ : ∃ a b q, p = a :: b :: q := by
    rcases p with _ | ⟨a, _ | ⟨b, q⟩⟩
    · simp at hl
    · simp at hl
    · exact ⟨a, b, q, rfl⟩
  have e1 : ∀ W : List UInt8, ((a :: b :: q) ++ W).drop 2 = q ++ W := fun W => rfl
  rw [e1] at h0 hl
  simp only [List.length_cons] at hl
  have i1 := index_cut V [42, 47] (by decide) q (by omega) (by omega)
  have i2 := index_ext V [42, 47] (by decide) q i1
  have i3 := index_ext U [42, 47] (by decide) q i1
  refine ⟨?_, ?_⟩
  · have : ∀ W : List UInt8, ([47, 42] : List UInt8).isPrefixOf ((a :: b :: q) ++ W) = ([47, 42] : List UInt8).isPrefixOf [a, b] := by intro W; simp [List.isPrefixOf]
    rw [this] at c ⊢
    exact c
  · unfold rdR
    rw [e1, e1, i2, i3]
    rw [i2] at hl
    rw [take_ext _ U _ (by simp only [List.length_cons]; omega), take_ext _ V _ (by simp only [List.length_cons]; omega)]
theorem rdQT_loc (q : UInt8) (hq : q = 34 ∨ q = 39) (p V U : List UInt8) (h : qsz (q :: (p ++ V)) = p.length + 1) (hx : Nx V U) : qsz (q :: (p ++ U)) = p.length + 1 ∧ inner (q :: (p ++ U)) = inner (q :: (p ++ V)) ∧ (q :: (p ++ U)).take (p.length + 1) = (q :: (p ++ V)).take (p.length + 1) := by
  have h0 : qz q (p ++ V) ≠ 0 ∧ qz q (p ++ V) = p.length := by
    rw [qsz] at h
    split at h
    · omega
    · rename_i e; exact ⟨e, by omega⟩
  have hp : p ≠ [] := by rintro rfl; exact h0.1 h0.2
  obtain ⟨i1, i2⟩ := qz_loc q V p hp h0.2
  have i3 := i2 U (hx.h q (by rcases hq with rfl | rfl <;> simp) i1)
  have h1 : qsz (q :: (p ++ U)) = p.length + 1 := by
    rw [qsz, i3, if_neg (by rw [← h0.2]; exact h0.1)]
  have ht : ∀ W : List UInt8, (q :: (p ++ W)).take (p.length + 1) = q :: p := by intro W; simp
  refine ⟨h1, ?_, by rw [ht, ht]⟩
  unfold inner
  rw [h, h1]
  have ht2 : ∀ W : List UInt8, (q :: (p ++ W)).take (p.length + 1 - 1) = (q :: p).take (p.length + 1 - 1) := by
    intro W
    rw [← List.cons_append, take_ext _ _ _ (by simp)]
  rw [ht2, ht2]
theorem nsz_loc (p V U : List UInt8) (h : nsz (p ++ V) = p.length) (hx : Nx V U) : dsz (p ++ U) = dsz (p ++ V) ∧ fsz ((p ++ U).drop (dsz (p ++ U))) = fsz ((p ++ V).drop (dsz (p ++ V))) ∧ dsz (p ++ V) ≤ p.length := by
  unfold nsz at h
  split at h
  · rename_i hf
    obtain ⟨i1, i2⟩ := dsz_loc V p h
    have i3 := i2 U (hx.d i1)
    rw [i3, h] 
    rw [h, List.drop_left] at hf
    refine ⟨rfl, ?_, Nat.le_refl _⟩
    rw [List.drop_left, List.drop_left, hf, hx.f hf]
  · rename_i hf
    have hlt : dsz (p ++ V) ≤ p.length := by omega
    obtain ⟨d, hd⟩ : ∃ d, dsz (p ++ V) = d := ⟨_, rfl⟩
    rw [hd] at h hf hlt
    rw [drop_ext _ _ _ hlt] at h hf
    obtain ⟨p1, hp1⟩ : ∃ p1, p.take d = p1 := ⟨_, rfl⟩
    obtain ⟨p2, hp2⟩ : ∃ p2, p.drop d = p2 := ⟨_, rfl⟩
    have hpp : p = p1 ++ p2 := by rw [← hp1, ← hp2, List.take_append_drop]
    have hl1 : p1.length = d := by rw [← hp1, List.length_take]; omega
    rw [hp2] at h hf
    rw [hd]
    clear hp1 hp2
    subst hpp
    rcases p2 with _ | ⟨c, p3⟩
    · rw [List.append_nil] at h
      omega
    have hc : c = 46 := by
      by_cases e : c = 46
      · exact e
      · rw [List.cons_append, fsz, if_neg e] at hf; exact absurd rfl hf
    subst hc
    rw [List.cons_append, fsz, if_pos rfl] at h hf
    have h3 : dsz (p3 ++ V) = p3.length := by
      simp only [List.length_append, List.length_cons] at h
      omega
    obtain ⟨i1, i2⟩ := dsz_loc V p3 h3
    have i3 := i2 U (hx.d i1)
    have z : ∀ W : List UInt8, dsz (46 :: W) = 0 := fun W => (dsz_head 46 W).2 (by decide)
    rw [List.append_assoc] at hd
    obtain ⟨_, j2⟩ := dsz_loc ((46 :: p3) ++ V) p1 (by rw [hd, hl1])
    have j3 := j2 ((46 :: p3) ++ U) (z _)
    have hU : dsz (p1 ++ 46 :: p3 ++ U) = d := by rw [List.append_assoc, j3, hl1]
    refine ⟨hU, ?_, by simp; omega⟩
    rw [hU, List.append_assoc, List.append_assoc, ← hl1, List.drop_left, List.drop_left]
    show fsz (46 :: (p3 ++ U)) = fsz (46 :: (p3 ++ V))
    rw [fsz, fsz, if_pos rfl, if_pos rfl, i3, h3]
theorem rdN_loc (p V U : List UInt8) (h : (rdN (p ++ V)).why = 0) (hs : (rdN (p ++ V)).size = p.length) (hx : Nx V U) : rdN (p ++ U) = rdN (p ++ V) := by
  have hn : nsz (p ++ V) = p.length := by
    unfold rdN at h hs
    split at h
    · exact pcE_no (by decide) h
    · rename_i c; rw [if_neg c] at hs
      split at h
      · rename_i c; rw [if_pos c] at hs; exact hs
      · exact pcE_no (by decide) h
  obtain ⟨h1, h2, h3⟩ := nsz_loc p V U hn hx
  have h4 : nsz (p ++ U) = nsz (p ++ V) := by unfold nsz; rw [h2, h1]
  have h5 : numT (p ++ U) = numT (p ++ V) := by
    unfold numT
    rw [h4, h1, hn, take_ext p U _ h3, take_ext p V _ h3, List.take_left, List.take_left]
  unfold rdN
  rw [h2, h4, h5]
theorem rdW_loc (p V U : List UInt8) (hp : p ≠ []) (h : (rdW (p ++ V)).why = 0) (hs : (rdW (p ++ V)).size = p.length) (hx : Nx V U) : rdW (p ++ U) = rdW (p ++ V) := by
  have hn : wsz (p ++ V) = p.length := by
    unfold rdW at h hs
    split at h
    · exact pcE_no (by decide) h
    · rename_i c; rw [if_neg c] at hs; exact hs
  obtain ⟨i1, i2⟩ := wsz_loc V p hp hn
  have i3 := i2 U (hx.w i1)
  unfold rdW
  rw [hn, i3, List.take_left, List.take_left]
theorem rdM_loc (x : UInt8) (p V U : List UInt8) (h : (rdM (x :: (p ++ V))).why = 0) (hs : (rdM (x :: (p ++ V))).size = p.length + 1) (hx : Nx V U) : rdM (x :: (p ++ U)) = rdM (x :: (p ++ V)) := by
  have e1 : ∀ W : List UInt8, (x :: W).drop 1 = W := fun _ => rfl
  unfold rdM at h hs ⊢
  rw [e1] at h hs
  rw [e1, e1]
  split at h
  · exact pcE_no (by decide) h
  rename_i c
  rw [if_neg c] at hs
  have hn : wsz (p ++ V) = p.length := by
    have : 1 + wsz (p ++ V) = p.length + 1 := hs
    omega
  have hp : p ≠ [] := by
    rintro rfl
    exact c (Or.inl hn)
  obtain ⟨i1, i2⟩ := wsz_loc V p hp hn
  have i3 := i2 U (hx.w i1)
  rw [hn, i3, List.take_left, List.take_left]
theorem rdS_loc (x : UInt8) (p V U : List UInt8) (h : (rdS (x :: (p ++ V))).why = 0) (hs : (rdS (x :: (p ++ V))).size = p.length + 1) (hx : Nx V U) : rdS (x :: (p ++ U)) = rdS (x :: (p ++ V)) := by
  have hn : ssz (x :: (p ++ V)) = p.length + 1 := by
    unfold rdS at h hs
    split at h
    · exact pcE_no (by decide) h
    · rename_i c; rw [if_neg c] at hs; exact hs
  have hU := ssz_loc x p V U hn hx
  unfold rdS
  rw [hn, hU]
  have ht : ∀ W : List UInt8, (x :: (p ++ W)).take (p.length + 1) = x :: p := by intro W; simp
  rw [ht, ht]
theorem rdQ_loc (p V U : List UInt8) (h : (rdQ (34 :: (p ++ V))).why = 0) (hs : (rdQ (34 :: (p ++ V))).size = p.length + 1) (hx : Nx V U) : rdQ (34 :: (p ++ U)) = rdQ (34 :: (p ++ V)) := by
  have hn : qsz (34 :: (p ++ V)) = p.length + 1 := by
    have hq := qsz_le (34 :: (p ++ V))
    unfold rdQ at h hs
    split at h
    · exact pcE_no (by decide) h
    · rename_i c; rw [if_neg c] at hs
      split at h
      · exact pcE_no (by decide) h
      · rename_i c; rw [if_neg c] at hs
        rw [(rdA_gd h).2, List.length_take] at hs
        omega
  obtain ⟨h1, h2, h3⟩ := rdQT_loc 34 (Or.inl rfl) p V U hn hx
  unfold rdQ
  rw [hn, h1, h2, h3]
theorem rdT_loc (p V U : List UInt8) (h : (rdT (39 :: (p ++ V))).why = 0) (hs : (rdT (39 :: (p ++ V))).size = p.length + 1) (hx : Nx V U) : rdT (39 :: (p ++ U)) = rdT (39 :: (p ++ V)) := by
  have hn : qsz (39 :: (p ++ V)) = p.length + 1 := by
    have hq := qsz_le (39 :: (p ++ V))
    unfold rdT at h hs
    split at h
    · exact pcE_no (by decide) h
    · rename_i c; rw [if_neg c] at hs
      split at h
      · exact pcE_no (by decide) h
      · rename_i c; rw [if_neg c] at hs
        rw [(rdA_gd h).2, List.length_take] at hs
        omega
  obtain ⟨h1, h2, h3⟩ := rdQT_loc 39 (Or.inr rfl) p V U hn hx
  unfold rdT
  rw [hn, h1, h2, h3]
/-- a piece stays what it is -/
theorem rdP_loc (x : UInt8) (p V U : List UInt8) (h : (rdP (x :: (p ++ V))).why = 0) (hs : (rdP (x :: (p ++ V))).size = p.length + 1) (hx : Nx V U)
    (hl : ([45, 45] : List UInt8).isPrefixOf (x :: (p ++ V)) = true → V ≠ []) : rdP (x :: (p ++ U)) = rdP (x :: (p ++ V)) := by
  rw [rdP_cons] at h hs
  rw [rdP_cons, rdP_cons]
  by_cases c0 : 0 ≤ Lib.indexByte [32, 9, 10, 13] x
  · rw [if_pos c0, if_pos c0]
  rw [if_neg c0] at h hs
  rw [if_neg c0, if_neg c0]
  by_cases c1 : ([45, 45] : List UInt8).isPrefixOf (x :: (p ++ V)) = true
  · rw [if_pos c1] at h hs
    obtain ⟨i1, i2⟩ := rdL_loc (x :: p) V U c1 h hs hx (hl c1)
    rw [List.cons_append] at i1 i2
    rw [if_pos c1, if_pos i1]
    exact i2
  have d1 := pre2 (hx.h 45 (by simp)) c1
  rw [if_neg c1] at h hs
  rw [if_neg c1, if_neg d1]
  by_cases c2 : ([47, 42] : List UInt8).isPrefixOf (x :: (p ++ V)) = true
  · rw [if_pos c2] at h hs
    obtain ⟨i1, i2⟩ := rdR_loc (x :: p) V U c2 h hs
    rw [List.cons_append] at i1 i2
    rw [if_pos c2, if_pos i1]
    exact i2
  have d2 := pre2 (hx.h 42 (by simp)) c2
  rw [if_neg c2] at h hs
  rw [if_neg c2, if_neg d2]
  by_cases c3 : isL x = true
  · rw [if_pos c3] at h hs
    rw [if_pos c3, if_pos c3]
    exact rdW_loc (x :: p) V U (by simp) h hs hx
  rw [if_neg c3] at h hs
  rw [if_neg c3, if_neg c3]
  by_cases c4 : isD x = true
  · rw [if_pos c4] at h hs
    rw [if_pos c4, if_pos c4]
    exact rdN_loc (x :: p) V U h hs hx
  rw [if_neg c4] at h hs
  rw [if_neg c4, if_neg c4]
  by_cases c5 : x = 34
  · rw [if_pos c5] at h hs
    rw [if_pos c5, if_pos c5]
    subst c5
    exact rdQ_loc p V U h hs hx
  rw [if_neg c5] at h hs
  rw [if_neg c5, if_neg c5]
  by_cases c6 : x = 39
  · rw [if_pos c6] at h hs
    rw [if_pos c6, if_pos c6]
    subst c6
    exact rdT_loc p V U h hs hx
  rw [if_neg c6] at h hs
  rw [if_neg c6, if_neg c6]
  by_cases c7 : x = 58
  · rw [if_pos c7] at h hs
    rw [if_pos c7, if_pos c7]
    exact rdM_loc x p V U h hs hx
  rw [if_neg c7] at h hs
  rw [if_neg c7, if_neg c7]
  exact rdS_loc x p V U h hs hx
end Go.Proofs.YtfcolecglobcdaaGreatDoor
namespace Go.Proofs.YtfcolecglobcdaaGreatDoor
open Go.RowKit Go.Shelf

/-- tokens but for places, and what is wrong -/
def tb (r : List UInt8) : List (Int × List UInt8 × Va) × Int := ((scn (r.length + 1) 0 1 1 r).l.map bare, (scn (r.length + 1) 0 1 1 r).why)
theorem tb_any (f p a b : Nat) (r : List UInt8) (hf : r.length < f) : ((scn f p a b r).l.map bare, (scn f p a b r).why) = tb r := by
  unfold tb
  rw [scn_fuel f (r.length + 1) p a b r hf (by omega)]
  obtain ⟨h1, h2⟩ := scn_bare (r.length + 1) p a b 0 1 1 r
  rw [h1, h2]
theorem tb_nil : tb [] = ([(6, [], v0)], 0) := rfl
theorem tb_bad {r : List UInt8} (h : (rdP r).why ≠ 0) : (tb r).2 ≠ 0 := by
  unfold tb
  rw [scn_bad _ _ _ _ _ h]; exact h
theorem tb_skip {x : UInt8} {r : List UInt8} (h : (rdP (x :: r)).why = 0) (hk : (rdP (x :: r)).kind = 0) : tb (x :: r) = tb ((x :: r).drop (rdP (x :: r)).size) := by
  obtain ⟨h1, h2⟩ := rdP_size h
  show ((scn ((x :: r).length + 1) 0 1 1 (x :: r)).l.map bare, (scn ((x :: r).length + 1) 0 1 1 (x :: r)).why) = _
  rw [scn_skip _ _ _ _ _ h hk]
  exact tb_any _ _ _ _ _ (by simp; omega)
theorem tb_tell {x : UInt8} {r : List UInt8} (h : (rdP (x :: r)).why = 0) (hk : (rdP (x :: r)).kind ≠ 0) : tb (x :: r) = (((rdP (x :: r)).kind, (rdP (x :: r)).text, (rdP (x :: r)).v) :: (tb ((x :: r).drop (rdP (x :: r)).size)).1, (tb ((x :: r).drop (rdP (x :: r)).size)).2) := by
  obtain ⟨h1, h2⟩ := rdP_size h
  have h6 : (rdP (x :: r)).kind ≠ 6 := fun e => by have := (rdP_end h).1 e; simp at this
  show ((scn ((x :: r).length + 1) 0 1 1 (x :: r)).l.map bare, (scn ((x :: r).length + 1) 0 1 1 (x :: r)).why) = _
  rw [scn_tell _ _ _ _ _ h hk h6]
  have e := tb_any ((x :: r).length) (0 + (rdP (x :: r)).size) (beh 1 1 ((x :: r).take (rdP (x :: r)).size)).1 (beh 1 1 ((x :: r).take (rdP (x :: r)).size)).2 ((x :: r).drop (rdP (x :: r)).size) (by simp; omega)
  rw [← e]; rfl
def bx3 : List UInt8 := [47, 42, 32, 195, 169, 32, 42, 47]
def bx4 : List UInt8 := [32, 45, 45, 39, 10]
def okX (x : List UInt8) : Prop := x = [] ∨ x = [32] ∨ x = [10] ∨ x = bx3 ∨ x = bx4
theorem rdP_blank {x : UInt8} (r : List UInt8) (h : 0 ≤ Lib.indexByte [32, 9, 10, 13] x) : rdP (x :: r) = pcT 1 0 [] := by rw [rdP_cons, if_pos h]
theorem tb_blank {x : UInt8} (r : List UInt8) (h : 0 ≤ Lib.indexByte [32, 9, 10, 13] x) : tb (x :: r) = tb r := by
  have e := rdP_blank r h
  rw [tb_skip (by rw [e]; rfl) (by rw [e]; rfl), e]; rfl
theorem tb_pass {x : List UInt8} (hx : okX x) (R : List UInt8) : tb (x ++ R) = tb R := by
  rcases hx with rfl | rfl | rfl | rfl | rfl
  · rfl
  · exact tb_blank R (by decide)
  · exact tb_blank R (by decide)
  · have w1 : (rdR (bx3 ++ [])).why = 0 := by first | rfl | decide
    have w2 : (rdR (bx3 ++ [])).size = 8 := by first | rfl | decide
    have w3 : (rdR (bx3 ++ [])).kind = 0 := by first | rfl | decide
    obtain ⟨i1, i2⟩ := rdR_loc bx3 [] R (by decide) w1 w2
    have hb : bx3 ++ R = 47 :: ([42, 32, 195, 169, 32, 42, 47] ++ R) := rfl
    rw [hb] at i1 i2 ⊢
    generalize rdR (bx3 ++ []) = P at *
    generalize hQ : ([42, 32, 195, 169, 32, 42, 47] ++ R : List UInt8) = Q at *
    have c1 : ¬ ([45, 45] : List UInt8).isPrefixOf (47 :: Q) = true := by simp [List.isPrefixOf]
    have e : rdP (47 :: Q) = P := by
      rw [rdP_cons, if_neg (by decide), if_neg c1, if_pos i1]; exact i2
    rw [tb_skip (by rw [e]; exact w1) (by rw [e]; exact w3), e, w2, List.drop_succ_cons, ← hQ]
    rfl
  · have w1 : (rdP [45, 45, 39]).why = 0 := by first | rfl | decide
    have w2 : (rdP [45, 45, 39]).size = 3 := by first | rfl | decide
    have w3 : (rdP [45, 45, 39]).kind = 0 := by first | rfl | decide
    obtain ⟨e, _⟩ := rdP_ext 45 [45, 39] R w1
    have hb : bx4 ++ R = 32 :: (45 :: ([45, 39] ++ 10 :: R)) := rfl
    rw [hb, tb_blank _ (by decide)]
    have e' : rdP (45 :: ([45, 39] ++ 10 :: R)) = rdP [45, 45, 39] := e
    rw [tb_skip (by rw [e']; exact w1) (by rw [e']; exact w3), e', w2]
    exact tb_blank R (by decide)
theorem rdP_line {r : List UInt8} (c : ([45, 45] : List UInt8).isPrefixOf r = true) : rdP r = rdL r := by
  rcases r with _ | ⟨x, r⟩
  · simp [List.isPrefixOf] at c
  · have hx : x = 45 := by
      simp only [List.isPrefixOf, Bool.and_eq_true, beq_iff_eq] at c
      exact c.1.symm
    subst hx
    rw [rdP_cons, if_neg (by decide), if_pos c]
theorem rdL_kind (r : List UInt8) : (rdL r).kind = 0 := by
  unfold rdL rdA; split <;> rfl
theorem index_nl : ∀ l : List UInt8, (10 : UInt8) ∉ l → Lib.index l [10] = -1
  | [], _ => by decide
  | x :: l, h => by
    have hx : ¬ x = 10 := fun e => h (by simp [e])
    rw [Lib.index, if_neg (by simp only [List.isPrefixOf, Bool.and_true, beq_iff_eq]; exact fun e => hx e.symm), index_nl l (fun e => h (List.mem_cons_of_mem _ e))]; rfl
theorem index_nl_mem : ∀ l : List UInt8, Lib.index l [10] < 0 → (10 : UInt8) ∉ l
  | [], _ => by simp
  | x :: l, h => by
    have hg := Lib.index_ge l [10]
    by_cases hx : x = 10
    · subst hx
      rw [Lib.index, if_pos (by simp [List.isPrefixOf])] at h
      exact absurd h (by decide)
    · rw [Lib.index, if_neg (by simp only [List.isPrefixOf, Bool.and_true, beq_iff_eq]; exact fun e => hx e.symm)] at h
      have hm : Lib.index l [10] = -1 := by
        by_cases e : Lib.index l [10] = -1
        · exact e
        · rw [if_neg (by simpa using e)] at h; omega
      have ih := index_nl_mem l (by omega)
      simp only [List.mem_cons, not_or]
      exact ⟨fun e => hx e.symm, ih⟩
theorem cut_whole {l : List UInt8} (h : (10 : UInt8) ∉ l) : (Lib.cut l [10]).1 = l := by
  unfold Lib.cut
  rw [index_nl l h, if_neg (by decide)]
theorem cut_all {l : List UInt8} (h : (Lib.cut l [10]).1.length = l.length) : (10 : UInt8) ∉ l := by
  apply index_nl_mem
  rcases Int.lt_or_le (Lib.index l [10]) 0 with h0 | h0
  · exact h0
  · exfalso
    unfold Lib.cut at h
    rw [if_pos h0] at h
    have hr := Lib.index_room l [10] h0
    have h1 : ([10] : List UInt8).length = 1 := rfl
    simp only [List.length_take] at h
    omega
theorem pre_app {g r : List UInt8} (b : List UInt8) (h : g.isPrefixOf r = true) : g.isPrefixOf (r ++ b) = true := by
  rw [List.isPrefixOf_iff_prefix] at h ⊢
  exact h.trans ⟨b, rfl⟩
theorem tb_line {p : List UInt8} (c : ([45, 45] : List UInt8).isPrefixOf p = true) (hn : (10 : UInt8) ∉ p) (hg : badA p < 0) : tb p = tb [] ∧ tb (p ++ [10]) = tb [] := by
  have e1 : rdP p = ⟨p.length, 0, [], v0, 0, 0⟩ := by
    rw [rdP_line c]; unfold rdL rdA
    rw [cut_whole hn, if_neg (by omega)]
  obtain ⟨x, r, rfl⟩ : ∃ x r, p = x :: r := by
    rcases p with _ | ⟨x, r⟩
    · simp [List.isPrefixOf] at c
    · exact ⟨x, r, rfl⟩
  have w1 : (rdP (x :: r)).why = 0 := by rw [e1]
  have w3 : (rdP (x :: r)).kind = 0 := by rw [e1]
  refine ⟨?_, ?_⟩
  · rw [tb_skip w1 w3, e1]; simp
  · obtain ⟨e, _⟩ := rdP_ext x r [] w1
    have e' : rdP (x :: (r ++ [10])) = rdP (x :: r) := e
    show tb (x :: (r ++ [10])) = _
    rw [tb_skip (by rw [e']; exact w1) (by rw [e']; exact w3), e', e1]
    have : (x :: (r ++ [10])).drop (x :: r).length = [10] := by
      rw [← List.cons_append, List.drop_left]
    simp only [this]
    exact tb_blank [] (by decide)
theorem line_end {p x : List UInt8} (hx : okX x) (c : ([45, 45] : List UInt8).isPrefixOf p = true) (h : (rdP p).why = 0) (hs : (rdP p).size = p.length) : tb (p ++ x) = tb [] := by
  rw [rdP_line c] at h hs
  obtain ⟨h1, h2⟩ := rdA_gd h
  have hn : (10 : UInt8) ∉ p := cut_all (by rw [← hs]; exact h2.symm)
  rw [cut_whole hn] at h1
  have key : ∀ y : List UInt8, (10 : UInt8) ∉ y → badA y < 0 → tb (p ++ y) = tb [] ∧ tb ((p ++ y) ++ [10]) = tb [] := by
    intro y hy hg
    refine tb_line (pre_app y c) ?_ (gd_app p y h1 hg)
    rw [List.mem_append, not_or]; exact ⟨hn, hy⟩
  rcases hx with rfl | rfl | rfl | rfl | rfl
  · rw [List.append_nil]; exact (tb_line c hn h1).1
  · exact (key [32] (by decide) (by decide)).1
  · exact (tb_line c hn h1).2
  · exact (key bx3 (by decide) (by decide)).1
  · have := (key [32, 45, 45, 39] (by decide) (by decide)).2
    rw [List.append_assoc] at this
    exact this
/-- the text with something ahead of each token -/
def ins (x : Nat → List UInt8) : Nat → Nat → List UInt8 → List UInt8
  | 0, _, _ => []
  | f + 1, i, r => if r = [] then x i else if (rdP r).kind = 0 then r.take (rdP r).size ++ ins x f i (r.drop (rdP r).size) else x i ++ (r.take (rdP r).size ++ ins x f (i + 1) (r.drop (rdP r).size))
theorem nx_okX {x : List UInt8} (hx : okX x) (V R : List UInt8) (hV : V.head? ≠ some 10) (h0 : x = [] → Nx V R) : Nx V (x ++ R) := by
  rcases hx with rfl | rfl | rfl | rfl | rfl
  · exact h0 rfl
  · exact Nx.new (Or.inl rfl) hV
  · exact Nx.new (Or.inr (Or.inl rfl)) hV
  · exact Nx.new (Or.inr (Or.inr rfl)) hV
  · exact Nx.new (Or.inl rfl) hV
theorem ins_tb (x : Nat → List UInt8) (hx : ∀ i, okX (x i)) : ∀ (f i : Nat) (r : List UInt8), r.length < f → (tb r).2 = 0 → Nx r (ins x f i r) ∧ tb (ins x f i r) = tb r
  | 0, _, r, h, _ => absurd h (by omega)
  | f + 1, i, r, hf, hw => by
    rcases r with _ | ⟨c, r⟩
    · rw [ins, if_pos rfl]
      have h1 := nx_okX (hx i) [] [] (by simp) (fun _ => Nx.refl _)
      have h2 := tb_pass (hx i) []
      rw [List.append_nil] at h1 h2
      exact ⟨h1, h2⟩
    · have h : (rdP (c :: r)).why = 0 := by
        by_cases e : (rdP (c :: r)).why = 0
        · exact e
        · exact absurd hw (tb_bad e)
      obtain ⟨s1, s2⟩ := rdP_size h
      obtain ⟨n, hn⟩ : ∃ n, (rdP (c :: r)).size = n + 1 := ⟨(rdP (c :: r)).size - 1, by omega⟩
      have hp : (c :: r).take (rdP (c :: r)).size = c :: r.take n := by rw [hn, List.take_succ_cons]
      have hd : (c :: r).drop (rdP (c :: r)).size = r.drop n := by rw [hn, List.drop_succ_cons]
      obtain ⟨p, hpe⟩ : ∃ p, r.take n = p := ⟨_, rfl⟩
      obtain ⟨V, hVe⟩ : ∃ V, r.drop n = V := ⟨_, rfl⟩
      have hr : r = p ++ V := by rw [← hpe, ← hVe, List.take_append_drop]
      have hl : p.length = n := by rw [← hpe, List.length_take]; omega
      have hVl : V.length < f := by rw [← hVe, List.length_drop]; simp at hf; omega
      rw [ins, if_neg (by simp), hp, hd, hpe, hVe]
      have hs : (rdP (c :: (p ++ V))).size = p.length + 1 := by rw [← hr, hl]; exact hn
      have h' : (rdP (c :: (p ++ V))).why = 0 := by rw [← hr]; exact h
      by_cases hk : (rdP (c :: r)).kind = 0
      · rw [if_pos hk]
        have hsk := tb_skip h hk
        rw [hd, hVe] at hsk
        rw [hsk] at hw
        obtain ⟨i1, i2⟩ := ins_tb x hx f i V hVl hw
        refine ⟨?_, ?_⟩
        · have := i1.app (c :: p)
          rw [List.cons_append, ← hr] at this
          exact this
        · rw [hsk]
          by_cases hc : ([45, 45] : List UInt8).isPrefixOf (c :: (p ++ V)) = true ∧ V = []
          · obtain ⟨hc, hv⟩ := hc
            rw [hv] at hc h' hs ⊢
            rw [List.append_nil] at hc h' hs
            obtain ⟨f', rfl⟩ : ∃ f', f = f' + 1 := ⟨f - 1, by simp at hf; omega⟩
            rw [ins, if_pos rfl]
            exact line_end (hx i) hc h' (by rw [hs]; simp)
          · have hloc := rdP_loc c p V (ins x f i V) h' hs i1 (fun e1 e2 => hc ⟨e1, e2⟩)
            have e' : rdP (c :: (p ++ ins x f i V)) = rdP (c :: r) := by rw [hloc, ← hr]
            rw [List.cons_append, tb_skip (by rw [e']; exact h) (by rw [e']; exact hk), e', hn, List.drop_succ_cons, ← hl, List.drop_left]
            exact i2
      · rw [if_neg hk]
        have hsk := tb_tell h hk
        rw [hd, hVe] at hsk
        rw [hsk] at hw
        obtain ⟨i1, i2⟩ := ins_tb x hx f (i + 1) V hVl hw
        have hloc := rdP_loc c p V (ins x f (i + 1) V) h' hs i1 (fun e1 _ => hk (by rw [hr, rdP_line e1]; exact rdL_kind _))
        have e' : rdP (c :: (p ++ ins x f (i + 1) V)) = rdP (c :: r) := by rw [hloc, ← hr]
        refine ⟨?_, ?_⟩
        · refine nx_okX (hx i) _ _ ?_ (fun _ => ?_)
          · intro e
            simp at e
            subst e
            exact hk (by rw [rdP_blank r (by decide)]; rfl)
          · have := i1.app (c :: p)
            rw [List.cons_append, ← hr] at this
            exact this
        · rw [tb_pass (hx i), hsk, List.cons_append, tb_tell (by rw [e']; exact h) (by rw [e']; exact hk), e', hn, List.drop_succ_cons, ← hl, List.drop_left, i2]
/-- the same, as the statement's loop builds it -/
def bld (s : List UInt8) (x : Nat → List UInt8) : Nat → Nat → List Tk → List UInt8
  | from', _, [] => s.drop from'
  | from', i, t :: L => (s.drop from').take (t.pos - from') ++ (x i ++ bld s x t.pos (i + 1) L)
theorem scn_bld (s : List UInt8) (x : Nat → List UInt8) : ∀ (f from' i a b : Nat) (pre r : List UInt8), r.length < f → s = pre ++ r → from' ≤ pre.length → (scn f pre.length a b r).why = 0 →
    bld s x from' i (scn f pre.length a b r).l = (s.drop from').take (pre.length - from') ++ ins x f i r
  | 0, _, _, _, _, _, r, h, _, _, _ => absurd h (by omega)
  | f + 1, from', i, a, b, pre, r, hf, hs, hfr, hw => by
    by_cases h : (rdP r).why = 0
    · rcases r with _ | ⟨c, r⟩
      · rw [scn_nil, ins, if_pos rfl]
        have : s.drop pre.length = [] := by subst hs; simp
        simp only [bld, this, List.append_nil]
      · obtain ⟨h1, h2⟩ := rdP_size h
        have hl : ((c :: r).take (rdP (c :: r)).size).length = (rdP (c :: r)).size := by rw [List.length_take]; simp; omega
        have hdl : ((c :: r).drop (rdP (c :: r)).size).length < f := by simp at hf ⊢; omega
        have hs2 : s = (pre ++ (c :: r).take (rdP (c :: r)).size) ++ (c :: r).drop (rdP (c :: r)).size := by rw [List.append_assoc, List.take_append_drop]; exact hs
        have hdr : s.drop pre.length = c :: r := by subst hs; simp
        rw [ins, if_neg (by simp)]
        by_cases hk : (rdP (c :: r)).kind = 0
        · rw [scn_skip f _ _ _ _ h hk] at hw ⊢
          rw [if_pos hk]
          have ih := scn_bld s x f from' i (beh a b ((c :: r).take (rdP (c :: r)).size)).1 (beh a b ((c :: r).take (rdP (c :: r)).size)).2 _ _ hdl hs2 (by rw [List.length_append]; omega)
          rw [List.length_append, hl] at ih
          rw [ih hw, show pre.length + (rdP (c :: r)).size - from' = (pre.length - from') + (rdP (c :: r)).size by omega, List.take_add, List.drop_drop, show from' + (pre.length - from') = pre.length by omega, hdr, List.append_assoc]
        · have h6 : (rdP (c :: r)).kind ≠ 6 := fun e => by have := (rdP_end h).1 e; simp at this
          rw [scn_tell f _ _ _ _ h hk h6] at hw ⊢
          rw [if_neg hk]
          have ih := scn_bld s x f pre.length (i + 1) (beh a b ((c :: r).take (rdP (c :: r)).size)).1 (beh a b ((c :: r).take (rdP (c :: r)).size)).2 _ _ hdl hs2 (by rw [List.length_append]; omega)
          rw [List.length_append, hl] at ih
          have ih2 := ih hw
          rw [Nat.add_sub_cancel_left, hdr] at ih2
          show _ ++ (x i ++ bld s x pre.length (i + 1) _) = _
          rw [ih2]
    · rw [scn_bad f _ _ _ r h] at hw; exact absurd hw h
/-- blanks and remarks ahead of each token change nothing but places -/
theorem bld_tks {s : List UInt8} {x : Nat → List UInt8} (hx : ∀ i, okX (x i)) (h : (tks s).why = 0) (hl : (bld s x 0 0 (tks s).l).length ≤ 65536) :
    (tks (bld s x 0 0 (tks s).l)).why = 0 ∧ (tks (bld s x 0 0 (tks s).l)).l.map bare = (tks s).l.map bare := by
  have h1 := tks_short (tks_len h)
  rw [h1] at h hl ⊢
  have hb := scn_bld s x (s.length + 1) 0 0 1 1 [] s (by omega) rfl (Nat.zero_le _) h
  have hb' : bld s x 0 0 (scn (s.length + 1) 0 1 1 s).l = ins x (s.length + 1) 0 s := by simpa using hb
  rw [hb'] at hl ⊢
  obtain ⟨_, e⟩ := ins_tb x hx (s.length + 1) 0 s (by omega) h
  rw [tks_short hl]
  have e1 : (scn ((ins x (s.length + 1) 0 s).length + 1) 0 1 1 (ins x (s.length + 1) 0 s)).l.map bare = (scn (s.length + 1) 0 1 1 s).l.map bare := congrArg Prod.fst e
  have e2 : (scn ((ins x (s.length + 1) 0 s).length + 1) 0 1 1 (ins x (s.length + 1) 0 s)).why = (scn (s.length + 1) 0 1 1 s).why := congrArg Prod.snd e
  exact ⟨e2.trans h, e1⟩
theorem scn_count : ∀ (f p a b : Nat) (r : List UInt8), (scn f p a b r).l.length ≤ f
  | 0, _, _, _, _ => by simp [scn]
  | f + 1, p, a, b, r => by
    rw [scn]
    split
    · simp
    split
    · simp
    split
    · have := scn_count f (p + (rdP r).size) (beh a b (r.take (rdP r).size)).1 (beh a b (r.take (rdP r).size)).2 (r.drop (rdP r).size)
      omega
    · have := scn_count f (p + (rdP r).size) (beh a b (r.take (rdP r).size)).1 (beh a b (r.take (rdP r).size)).2 (r.drop (rdP r).size)
      show (_ :: _).length ≤ _
      simp only [List.length_cons]; omega
theorem tks_count {s : List UInt8} (h : (tks s).why = 0) : (tks s).l.length ≤ s.length + 1 := by
  rw [tks_short (tks_len h)]; exact scn_count _ _ _ _ _
theorem scn_some : ∀ (f p a b : Nat) (r : List UInt8), r.length < f → (scn f p a b r).why = 0 → (scn f p a b r).l ≠ []
  | 0, _, _, _, _, h, _ => absurd h (by omega)
  | f + 1, p, a, b, r, hf, hw => by
    by_cases h : (rdP r).why = 0
    · rcases r with _ | ⟨c, r⟩
      · rw [scn_nil]; simp
      · obtain ⟨h1, h2⟩ := rdP_size h
        by_cases hk : (rdP (c :: r)).kind = 0
        · rw [scn_skip f _ _ _ _ h hk] at hw ⊢
          exact scn_some f _ _ _ _ (by simp at hf ⊢; omega) hw
        · have h6 : (rdP (c :: r)).kind ≠ 6 := fun e => by have := (rdP_end h).1 e; simp at this
          rw [scn_tell f _ _ _ _ h hk h6]
          intro e; cases e
    · rw [scn_bad f _ _ _ r h] at hw; exact absurd hw h
theorem tks_some {s : List UInt8} (h : (tks s).why = 0) : (tks s).l ≠ [] := by
  have e := tks_short (tks_len h)
  rw [e] at h ⊢; exact scn_some _ _ _ _ _ (by omega) h
end Go.Proofs.YtfcolecglobcdaaGreatDoor
namespace Go.Proofs.YtfcolecglobcdaaGreatDoor
open Go.RowKit Go.Shelf

/-- each of one byte twice -/
def dq (q : UInt8) : List UInt8 → List UInt8
  | [] => []
  | x :: r => if x = q then q :: q :: dq q r else x :: dq q r
theorem dq_qdq : ∀ l : List UInt8, dq 34 l = qdq l
  | [] => rfl
  | x :: l => by rw [dq, qdq, dq_qdq l]
theorem dq_app (q : UInt8) : ∀ l m : List UInt8, dq q (l ++ m) = dq q l ++ dq q m
  | [], _ => rfl
  | x :: l, m => by
    rw [List.cons_append, dq, dq, dq_app q l m]
    split <;> rfl
theorem dq_same (q : UInt8) : ∀ l : List UInt8, q ∉ l → dq q l = l
  | [], _ => rfl
  | x :: l, h => by
    rw [dq, if_neg (fun e => h (by simp [e])), dq_same q l (fun e => h (List.mem_cons_of_mem _ e))]
theorem dq_rpl (q : UInt8) : ∀ l : List UInt8, Lib.replaceAll (dq q l) [q, q] [q] = l
  | [] => rpl_nil (by simp) (by simp)
  | x :: l => by
    by_cases h : x = q
    · subst h
      rw [dq, if_pos rfl, rpl_hit (by simp) (by simp) (by simp [List.isPrefixOf])]
      show [x] ++ Lib.replaceAll (dq x l) [x, x] [x] = _
      rw [dq_rpl x l]; rfl
    · rw [dq, if_neg h, rpl_miss (by simp) (by simp) (by
        simp only [List.isPrefixOf]
        rw [beq_eq_false_iff_ne.2 (fun e => h e.symm), Bool.false_and]), dq_rpl q l]
theorem qz_dq (q : UInt8) (V : List UInt8) (hV : V.head? ≠ some q) : ∀ l : List UInt8, qz q (dq q l ++ q :: V) = (dq q l).length + 1
  | [] => (qz_one q q V).2 ⟨rfl, hV⟩
  | x :: l => by
    have ih := qz_dq q V hV l
    by_cases h : x = q
    · subst h
      rw [dq, if_pos rfl, List.cons_append, List.cons_append, qz, if_pos rfl, if_pos rfl, if_neg (by omega), ih]; rfl
    · rw [dq, if_neg h, List.cons_append]
      obtain ⟨y, r, e⟩ : ∃ y r, dq q l ++ q :: V = y :: r := by
        rcases hd : dq q l ++ q :: V with _ | ⟨y, r⟩
        · simp at hd
        · exact ⟨y, r, rfl⟩
      rw [e] at ih
      rw [e, qz, if_neg h, if_neg (by omega), ih]; rfl
theorem qsz_dq (q : UInt8) (l : List UInt8) : qsz (q :: (dq q l ++ [q])) = (dq q l).length + 2 := by
  have h := qz_dq q [] (by simp) l
  rw [qsz, h, if_neg (by omega)]
theorem inner_dq (q : UInt8) (l : List UInt8) : inner (q :: (dq q l ++ [q])) = dq q l := by
  unfold inner
  rw [qsz_dq]
  show (List.take (List.length (dq q l) + 1) (q :: (dq q l ++ [q]))).drop 1 = _
  rw [List.take_succ_cons, List.take_left]; rfl
/-- the bytes of a character of several bytes are none of ASCII -/
theorem char_one {l : List UInt8} (hne : l ≠ []) (hb : badHere l = false) : ((Lib.decodeL l).2 = 1 ∧ ∃ x r, l = x :: r ∧ x.toNat < 128) ∨ ∀ x ∈ l.take (Lib.decodeL l).2, 128 ≤ x.toNat := by
  rcases l with _ | ⟨x, r⟩
  · exact absurd rfl hne
  · by_cases hx : x.toNat < 128
    · left
      rw [Lib.decodeL_ascii x r hx]
      exact ⟨rfl, x, r, rfl, hx⟩
    · right
      intro y hy
      obtain ⟨i, hi, e⟩ := List.mem_iff_getElem.1 hy
      rw [List.length_take] at hi
      rw [List.getElem_take] at e
      have hg : (x :: r).getD i 0 = y := by
        rw [List.getD_eq_getElem?_getD, List.getElem?_eq_getElem (by omega), e]; rfl
      rcases Nat.eq_zero_or_pos i with h0 | h0
      · subst h0
        have : x = y := hg
        rw [← this]; omega
      · have hw : i < (Lib.decodeL (x :: r)).2 := by omega
        rw [Lib.decodeL_N] at hw
        obtain ⟨_, h⟩ := decN_cont _ _ _ _ _ i h0 hw
        rcases h with ⟨rfl, h⟩ | ⟨rfl, h⟩ | ⟨rfl, h⟩ <;> rw [hg] at h <;> omega
theorem take_gd {l : List UInt8} (hne : l ≠ []) (hb : badHere l = false) : badA (l.take (Lib.decodeL l).2) < 0 := by
  have hw := Lib.decodeL_width l
  have hl := Lib.decodeL_le l hne
  have hd := dec_take l (Lib.decodeL l).2 (Nat.le_refl _) hl
  have hne2 : l.take (Lib.decodeL l).2 ≠ [] := by
    intro e
    have := congrArg List.length e
    rw [List.length_take, List.length_nil] at this
    omega
  refine (gd_step hne2).2 ⟨?_, ?_⟩
  · unfold badHere at hb ⊢
    rw [hd]
    by_cases hr : (Lib.decodeL l).1 = 65533
    · rw [hr] at hb ⊢
      have hpre : ([239, 191, 189] : List UInt8).isPrefixOf l = true := by simpa using hb
      have h3 := decode_repl l (by rw [← pre_repl]; exact hpre)
      have : ([239, 191, 189] : List UInt8).isPrefixOf (l.take (Lib.decodeL l).2) = true := by
        rw [h3]
        rw [List.isPrefixOf_iff_prefix] at hpre ⊢
        obtain ⟨t, rfl⟩ := hpre
        exact ⟨[], by simp⟩
      simp [this]
    · rw [decide_eq_false hr] at hb ⊢
      simpa using hb
  · rw [hd, List.drop_eq_nil_of_le (by rw [List.length_take]; omega)]
    exact gd_nil
theorem gd_dq (q : UInt8) (hq : 0 < q.toNat ∧ q.toNat < 128) (l : List UInt8) (h : badA l < 0) : badA (dq q l) < 0 := by
  by_cases h0 : l = []
  · subst h0; exact gd_nil
  · obtain ⟨h1, h2⟩ := (gd_step h0).1 h
    have hw := Lib.decodeL_width l
    have hl := Lib.decodeL_le l h0
    have hg := take_gd h0 h1
    have hsplit : dq q l = dq q (l.take (Lib.decodeL l).2) ++ dq q (l.drop (Lib.decodeL l).2) := by rw [← dq_app, List.take_append_drop]
    rw [hsplit]
    refine gd_app _ _ ?_ (gd_dq q hq _ h2)
    rcases char_one h0 h1 with ⟨e, x, r, rfl, hx⟩ | hall
    · rw [e] at hg ⊢
      show badA (dq q [x]) < 0
      rw [dq]
      split
      · exact gd_ascii _ (by
          intro y hy
          simp [dq] at hy
          subst hy; exact hq)
      · exact hg
    · rw [dq_same q _ (fun hm => by have := hall q hm; omega)]
      exact hg
termination_by l.length
decreasing_by simp; omega
/-- a name in quotes -/
theorem rd_quoted {l : List UInt8} (h : nmB l = true) : rdP (34 :: (dq 34 l ++ [34])) = ⟨(dq 34 l).length + 2, 2, l, v0, 0, 0⟩ := by
  unfold nmB at h
  simp only [Bool.and_eq_true, decide_eq_true_eq] at h
  obtain ⟨⟨h1, h2⟩, h3⟩ := h
  have c1 : ¬ ([45, 45] : List UInt8).isPrefixOf (34 :: (dq 34 l ++ [34])) = true := by simp [List.isPrefixOf]
  have c2 : ¬ ([47, 42] : List UInt8).isPrefixOf (34 :: (dq 34 l ++ [34])) = true := by simp [List.isPrefixOf]
  rw [rdP_cons, if_neg (by decide), if_neg c1, if_neg c2, if_neg (by decide), if_neg (by decide), if_pos rfl]
  unfold rdQ
  rw [qsz_dq, if_neg (by omega), inner_dq, dq_rpl, if_neg (fun e => e.elim (fun e => h1 e) (fun e => by omega))]
  have ht : (34 :: (dq 34 l ++ [34])).take ((dq 34 l).length + 2) = 34 :: (dq 34 l ++ [34]) := List.take_of_length_le (by simp)
  rw [ht]
  have hg : badA (34 :: (dq 34 l ++ [34])) < 0 := by
    have e : (34 :: (dq 34 l ++ [34]) : List UInt8) = [34] ++ (dq 34 l ++ [34]) := rfl
    rw [e]
    exact gd_app _ _ (gd_ascii _ (by decide)) (gd_app _ _ (gd_dq 34 (by decide) l h3) (gd_ascii _ (by decide)))
  unfold rdA
  rw [if_neg (by omega)]
  simp
/-- a text in quotes -/
theorem rd_text {l : List UInt8} (h2 : l.length ≤ 4096) (h3 : badA l < 0) : rdP (39 :: (dq 39 l ++ [39])) = ⟨(dq 39 l).length + 2, 3, [], ⟨3, 0, ⟨l.toArray⟩⟩, 0, 0⟩ := by
  have c1 : ¬ ([45, 45] : List UInt8).isPrefixOf (39 :: (dq 39 l ++ [39])) = true := by simp [List.isPrefixOf]
  have c2 : ¬ ([47, 42] : List UInt8).isPrefixOf (39 :: (dq 39 l ++ [39])) = true := by simp [List.isPrefixOf]
  rw [rdP_cons, if_neg (by decide), if_neg c1, if_neg c2, if_neg (by decide), if_neg (by decide), if_neg (by decide), if_pos rfl]
  unfold rdT
  rw [qsz_dq, if_neg (by omega), inner_dq, dq_rpl, if_neg (by omega)]
  have ht : (39 :: (dq 39 l ++ [39])).take ((dq 39 l).length + 2) = 39 :: (dq 39 l ++ [39]) := List.take_of_length_le (by simp)
  rw [ht]
  have hg : badA (39 :: (dq 39 l ++ [39])) < 0 := by
    have e : (39 :: (dq 39 l ++ [39]) : List UInt8) = [39] ++ (dq 39 l ++ [39]) := rfl
    rw [e]
    exact gd_app _ _ (gd_ascii _ (by decide)) (gd_app _ _ (gd_dq 39 (by decide) l h3) (gd_ascii _ (by decide)))
  unfold rdA
  rw [if_neg (by omega)]
  simp
theorem isL_not {x : UInt8} (h : isL x = true) : ¬ 0 ≤ Lib.indexByte [32, 9, 10, 13] x ∧ x ≠ 45 ∧ x ≠ 47 := by
  refine ⟨fun e => ?_, ?_, ?_⟩
  · rcases blank_is x e with rfl | rfl | rfl | rfl <;> exact absurd h (by decide)
  · rintro rfl; exact absurd h (by decide)
  · rintro rfl; exact absurd h (by decide)
theorem pl_open {l : List UInt8} (h : plB l = true) : ∃ x r, l = x :: r ∧ isL x = true ∧ wsz l = l.length ∧ l.length ≤ 32 ∧ Lib.toLowerA l = l := by
  unfold plB nmB at h
  simp only [Bool.and_eq_true, decide_eq_true_eq, beq_iff_eq] at h
  obtain ⟨⟨⟨⟨h1, h2⟩, _⟩, h4⟩, h5⟩ := h
  rcases l with _ | ⟨x, r⟩
  · exact absurd rfl h1
  · refine ⟨x, r, rfl, ?_, h4, h2, h5⟩
    rw [wsz] at h4
    by_cases hx : isL x = true
    · exact hx
    · rw [if_neg hx] at h4; simp at h4
/-- a word -/
theorem rd_word {l : List UInt8} (h : plB l = true) : rdP l = ⟨l.length, 1, l, v0, 0, 0⟩ := by
  obtain ⟨x, r, rfl, hx, hw, hl, ht⟩ := pl_open h
  obtain ⟨n0, n1, n2⟩ := isL_not hx
  have c1 : ¬ ([45, 45] : List UInt8).isPrefixOf (x :: r) = true := by
    simp only [List.isPrefixOf, Bool.and_eq_true, beq_iff_eq]
    exact fun e => n1 e.1.symm
  have c2 : ¬ ([47, 42] : List UInt8).isPrefixOf (x :: r) = true := by
    simp only [List.isPrefixOf, Bool.and_eq_true, beq_iff_eq]
    exact fun e => n2 e.1.symm
  rw [rdP_cons, if_neg n0, if_neg c1, if_neg c2, if_pos hx]
  unfold rdW
  rw [hw, if_neg (by omega), List.take_length, ht]; rfl
/-- a parameter -/
theorem rd_param {l : List UInt8} (h : plB l = true) : rdP (58 :: l) = ⟨l.length + 1, 4, l, v0, 0, 0⟩ := by
  obtain ⟨x, r, e, hx, hw, hl, ht⟩ := pl_open h
  have c1 : ¬ ([45, 45] : List UInt8).isPrefixOf (58 :: l) = true := by simp [List.isPrefixOf]
  have c2 : ¬ ([47, 42] : List UInt8).isPrefixOf (58 :: l) = true := by simp [List.isPrefixOf]
  rw [rdP_cons, if_neg (by decide), if_neg c1, if_neg c2, if_neg (by decide), if_neg (by decide), if_neg (by decide), if_neg (by decide), if_pos rfl]
  have hl0 : 0 < l.length := by rw [e]; simp
  have d : (58 :: l : List UInt8).drop 1 = l := rfl
  unfold rdM
  rw [d, hw, if_neg (fun k => k.elim (fun k => by omega) (fun k => by omega)), List.take_length, ht, Nat.add_comm]; rfl
theorem ssF_mem (l : List UInt8) (hl : l ≠ []) : ∀ gs : List (List UInt8), ssF l gs = l.length → l ∈ gs
  | [], h => by
    have := List.length_pos_iff.2 hl
    simp only [ssF] at h; omega
  | g :: gs, h => by
    rw [ssF] at h
    split at h
    · rename_i hp
      obtain ⟨t, e⟩ := List.isPrefixOf_iff_prefix.1 hp
      have : t = [] := by
        have := congrArg List.length e
        rw [List.length_append] at this
        exact List.length_eq_zero_iff.1 (by omega)
      rw [this, List.append_nil] at e
      rw [e]; simp
    · exact List.mem_cons_of_mem _ (ssF_mem l hl gs h)
theorem rd_sgs : ∀ g ∈ sgs, (rdP g).size = g.length ∧ (rdP g).kind = 5 ∧ (rdP g).text = g ∧ (rdP g).why = 0 ∧ (rdP g).ahead = 0 ∧ (rdP g).v.ty = 0 ∧ (rdP g).v.n = 0 ∧ (rdP g).v.s.data = #[] := by decide
/-- a sign -/
theorem rd_sign {l : List UInt8} (h0 : l ≠ []) (h : ssz l = l.length) : rdP l = ⟨l.length, 5, l, v0, 0, 0⟩ := by
  obtain ⟨h1, h2, h3, h4, h5, h6, h7, h8⟩ := rd_sgs l (ssF_mem l h0 sgs h)
  generalize rdP l = p at *
  obtain ⟨a, b, c, ⟨d, e, ⟨f⟩⟩, i, j⟩ := p
  simp only at h1 h2 h3 h4 h5 h6 h7 h8
  subst h1 h2 h3 h4 h5 h6 h7 h8
  rfl
end Go.Proofs.YtfcolecglobcdaaGreatDoor
namespace Go.Proofs.YtfcolecglobcdaaGreatDoor
open Go.RowKit Go.Shelf

theorem dsz_allD : ∀ (a V : List UInt8), allD a = true → dsz V = 0 → dsz (a ++ V) = a.length
  | [], V, _, h => h
  | x :: a, V, ha, h => by
    have h2 : isD x = true ∧ allD a = true := by
      unfold allD at ha ⊢
      rw [List.all_cons, Bool.and_eq_true] at ha
      exact ha
    rw [List.cons_append, dsz, if_pos h2.1, dsz_allD a V h2.2 h]; rfl
theorem woN_whole {a : List UInt8} (h : whole a = true) : woN a = a ∧ a ≠ [] ∧ allD a = true := by
  unfold whole at h
  simp only [Bool.and_eq_true, Bool.or_eq_true, Bool.not_eq_true', beq_iff_eq] at h
  obtain ⟨⟨h1, h2⟩, h3⟩ := h
  have hne : a ≠ [] := by rintro rfl; simp at h1
  refine ⟨?_, hne, h2⟩
  rcases h3 with rfl | h3
  · decide
  · rcases a with _ | ⟨x, r⟩
    · exact absurd rfl hne
    · have hx : x ≠ 48 := by rintro rfl; simp at h3
      unfold woN
      have e : (x :: r).dropWhile (· == 48) = x :: r := by
        rw [List.dropWhile_cons, if_neg]
        simpa using hx
      rw [e, if_neg (by simp)]
theorem isD_not {x : UInt8} (h : isD x = true) : ¬ 0 ≤ Lib.indexByte [32, 9, 10, 13] x ∧ x ≠ 45 ∧ x ≠ 47 ∧ ¬ isL x = true := by
  refine ⟨fun e => ?_, ?_, ?_, ?_⟩
  · rcases blank_is x e with rfl | rfl | rfl | rfl <;> exact absurd h (by decide)
  · rintro rfl; exact absurd h (by decide)
  · rintro rfl; exact absurd h (by decide)
  · unfold isL isD at *
    have := of_decide_eq_true h
    simp only [decide_eq_true_eq]
    omega
theorem rdP_num {x : UInt8} {r : List UInt8} (h : isD x = true) : rdP (x :: r) = rdN (x :: r) := by
  obtain ⟨n0, n1, n2, n3⟩ := isD_not h
  have c1 : ¬ ([45, 45] : List UInt8).isPrefixOf (x :: r) = true := by
    simp only [List.isPrefixOf, Bool.and_eq_true, beq_iff_eq]
    exact fun e => n1 e.1.symm
  have c2 : ¬ ([47, 42] : List UInt8).isPrefixOf (x :: r) = true := by
    simp only [List.isPrefixOf, Bool.and_eq_true, beq_iff_eq]
    exact fun e => n2 e.1.symm
  rw [rdP_cons, if_neg n0, if_neg c1, if_neg c2, if_neg n3, if_pos h]
theorem first_isD {a : List UInt8} (hne : a ≠ []) (h : allD a = true) : ∃ x r, a = x :: r ∧ isD x = true := by
  rcases a with _ | ⟨x, r⟩
  · exact absurd rfl hne
  · unfold allD at h
    rw [List.all_cons, Bool.and_eq_true] at h
    exact ⟨x, r, rfl, h.1⟩
/-- a whole number -/
theorem rd_int {a : List UInt8} {v : Va} (hw : whole a = true) (hp : prs a = (v, 0)) : rdP a = ⟨a.length, 3, [], v, 0, 0⟩ := by
  obtain ⟨e1, e2, e3⟩ := woN_whole hw
  obtain ⟨x, r, rfl, hx⟩ := first_isD e2 e3
  rw [rdP_num hx]
  have d := dsz_allD (x :: r) [] e3 rfl
  rw [List.append_nil] at d
  have f : fsz ((x :: r).drop (dsz (x :: r))) = 0 := by rw [d, List.drop_length]; rfl
  have n : nsz (x :: r) = (x :: r).length := by unfold nsz; rw [f, if_pos rfl, d]
  have t : numT (x :: r) = x :: r := by unfold numT; rw [n, d, List.take_length, e1, List.drop_length, List.append_nil]
  unfold rdN
  rw [f, if_neg (by decide), t, hp, if_pos rfl, n]
/-- a number with a point -/
theorem rd_dec {a b : List UInt8} {v : Va} (hw : whole a = true) (hb : allD b = true) (h0 : b ≠ []) (h4 : b.length ≤ 4) (hp : prs (a ++ 46 :: b) = (v, 0)) : rdP (a ++ 46 :: b) = ⟨(a ++ 46 :: b).length, 3, [], v, 0, 0⟩ := by
  obtain ⟨e1, e2, e3⟩ := woN_whole hw
  have d := dsz_allD a (46 :: b) e3 ((dsz_head 46 b).2 (by decide))
  have db := dsz_allD b [] hb rfl
  rw [List.append_nil] at db
  have hl : b.length ≠ 0 := fun e => h0 (List.length_eq_zero_iff.1 e)
  have f : fsz ((a ++ 46 :: b).drop (dsz (a ++ 46 :: b))) = b.length := by rw [d, List.drop_left, fsz, if_pos rfl, db]
  have n : nsz (a ++ 46 :: b) = (a ++ 46 :: b).length := by
    unfold nsz
    rw [f, if_neg hl, d, List.length_append, List.length_cons]; omega
  have t : numT (a ++ 46 :: b) = a ++ 46 :: b := by
    unfold numT
    rw [n, d, List.take_length, List.take_left, List.drop_left, e1]
  have hr : rdP (a ++ 46 :: b) = rdN (a ++ 46 :: b) := by
    obtain ⟨x, r, rfl, hx⟩ := first_isD e2 e3
    exact rdP_num hx
  rw [hr]
  unfold rdN
  rw [f, if_neg (by omega), t, hp, if_pos rfl, n]
/-- texts with a blank between -/
def jn : List (List UInt8) → List UInt8
  | [] => []
  | [p] => p
  | p :: q :: r => p ++ 32 :: jn (q :: r)
/-- a text that is one token -/
structure One (p : List UInt8) (c : Int × List UInt8 × Va) : Prop where
  rd : rdP p = ⟨p.length, c.1, c.2.1, c.2.2, 0, 0⟩
  ne : p ≠ []
  k : c.1 ≠ 0
theorem tb_one {p : List UInt8} {c : Int × List UInt8 × Va} (h : One p c) : tb p = ([c, (6, [], v0)], 0) := by
  obtain ⟨x, r, rfl⟩ : ∃ x r, p = x :: r := by
    rcases p with _ | ⟨x, r⟩
    · exact absurd rfl h.ne
    · exact ⟨x, r, rfl⟩
  rw [tb_tell (by rw [h.rd]) (by rw [h.rd]; exact h.k), h.rd]
  simp only [List.drop_length]
  rw [tb_nil]
theorem tb_more {p : List UInt8} {c : Int × List UInt8 × Va} (h : One p c) (R : List UInt8) : tb (p ++ 32 :: R) = (c :: (tb R).1, (tb R).2) := by
  obtain ⟨x, r, rfl⟩ : ∃ x r, p = x :: r := by
    rcases p with _ | ⟨x, r⟩
    · exact absurd rfl h.ne
    · exact ⟨x, r, rfl⟩
  have e0 := h.rd
  have hl : rdP (x :: (r ++ 32 :: R)) = rdP (x :: (r ++ [])) := by
    rw [← List.append_nil r] at e0
    refine rdP_loc x r [] (32 :: R) (by rw [e0]) (by rw [e0]; simp) (Nx.new (Or.inl rfl) (by simp)) (fun c1 _ => ?_)
    have := rdL_kind (x :: (r ++ []))
    rw [← rdP_line c1, e0] at this
    exact h.k this
  rw [List.append_nil, h.rd] at hl
  rw [List.cons_append, tb_tell (by rw [hl]) (by rw [hl]; exact h.k), hl]
  simp only
  have hd : (x :: (r ++ 32 :: R)).drop (x :: r).length = 32 :: R := by rw [← List.cons_append, List.drop_left]
  rw [hd, tb_blank R (by decide)]
/-- tokens with a blank between are read one behind the other -/
theorem tb_jn : ∀ l : List (List UInt8 × Int × List UInt8 × Va), (∀ x ∈ l, One x.1 x.2) → tb (jn (l.map Prod.fst)) = (l.map Prod.snd ++ [(6, [], v0)], 0)
  | [], _ => tb_nil
  | [x], h => tb_one (h x (by simp))
  | x :: y :: r, h => by
    have ih := tb_jn (y :: r) (fun z hz => h z (List.mem_cons_of_mem _ hz))
    have e : jn ((x :: y :: r).map Prod.fst) = x.1 ++ 32 :: jn ((y :: r).map Prod.fst) := rfl
    rw [e, tb_more (h x (by simp)), ih]; rfl
end Go.Proofs.YtfcolecglobcdaaGreatDoor
