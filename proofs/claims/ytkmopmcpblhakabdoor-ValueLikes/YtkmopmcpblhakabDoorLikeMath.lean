/-
  Plain lists and numbers: what a list of marks says of a text, by splitting; the table that goes through the pattern mark by mark; the walk that goes back to the last %.
-/
namespace Go.Proofs.YtkmopmcpblhakabDoor.LikeM
/-- a mark: kind (0 itself, 1 one, 2 many), character. -/
abbrev Mk := Int × Int
def takes (m : Mk) (r : Int) : Bool := m.1 == 1 || m.2 == r
/-- what a list of marks says of a text -/
def M : List Mk → List Int → Prop
  | [], t => t = []
  | m :: ms, t => (m.1 = 2 ∧ ∃ j, j ≤ t.length ∧ M ms (t.drop j)) ∨ (m.1 ≠ 2 ∧ ∃ c t', t = c :: t' ∧ takes m c = true ∧ M ms t')

theorem M_nil (t : List Int) : M [] t ↔ t = [] := by simp [M]
theorem M_many {m : Mk} (h : m.1 = 2) (ms : List Mk) (t : List Int) : M (m :: ms) t ↔ ∃ j, j ≤ t.length ∧ M ms (t.drop j) := by simp [M, h]
theorem M_one {m : Mk} (h : m.1 ≠ 2) (ms : List Mk) (t : List Int) : M (m :: ms) t ↔ ∃ c t', t = c :: t' ∧ takes m c = true ∧ M ms t' := by simp [M, h]

theorem M_append (p q : List Mk) : ∀ t : List Int, M (p ++ q) t ↔ ∃ j, j ≤ t.length ∧ M p (t.take j) ∧ M q (t.drop j) := by
  induction p with
  | nil =>
    intro t
    simp only [List.nil_append, M_nil]
    constructor
    · intro h; exact ⟨0, Nat.zero_le _, by simp, by simpa using h⟩
    · rintro ⟨j, hj, h1, h2⟩
      have : j = 0 ∨ t = [] := by simpa [List.take_eq_nil_iff] using h1
      rcases this with rfl | rfl
      · simpa using h2
      · simpa using h2
  | cons m p ih =>
    intro t
    by_cases hm : m.1 = 2
    · simp only [List.cons_append, M_many hm, ih]
      constructor
      · rintro ⟨j, hj, i, hi, h1, h2⟩
        simp only [List.length_drop] at hi
        refine ⟨j + i, by omega, ⟨j, by simp; omega, ?_⟩, by rw [List.drop_drop] at h2; exact h2⟩
        rw [List.take_drop] at h1
        exact h1
      · rintro ⟨j, hj, ⟨i, hi, h1⟩, h2⟩
        simp only [List.length_take] at hi
        refine ⟨i, by omega, j - i, by simp; omega, ?_, ?_⟩
        · rw [List.take_drop, show i + (j - i) = j by omega]; exact h1
        · rw [List.drop_drop, show i + (j - i) = j by omega]; exact h2
    · simp only [List.cons_append, M_one hm, ih]
      constructor
      · rintro ⟨c, t', rfl, hc, i, hi, h1, h2⟩
        exact ⟨i + 1, by simp; omega, ⟨c, t'.take i, by simp, hc, h1⟩, by simpa using h2⟩
      · rintro ⟨j, hj, ⟨c, t', ht, hc, h1⟩, h2⟩
        cases t with
        | nil => simp at ht
        | cons d t =>
          cases j with
          | zero => simp at ht
          | succ j =>
            simp only [List.take_succ_cons, List.cons.injEq] at ht
            obtain ⟨rfl, rfl⟩ := ht
            exact ⟨d, t, rfl, hc, j, by simpa using hj, h1, by simpa using h2⟩

theorem M_single (m : Mk) (hm : m.1 ≠ 2) (t : List Int) : M [m] t ↔ ∃ c, t = [c] ∧ takes m c = true := by
  rw [M_one hm]
  constructor
  · rintro ⟨c, t', rfl, hc, h⟩; rw [M_nil] at h; subst h; exact ⟨c, rfl, hc⟩
  · rintro ⟨c, rfl, hc⟩; exact ⟨c, [], rfl, hc, by rw [M_nil]⟩

theorem M_singleMany (m : Mk) (hm : m.1 = 2) (t : List Int) : M [m] t := by
  rw [M_many hm]; exact ⟨t.length, Nat.le_refl _, by simp [M_nil]⟩

/-- the rows of the table: a single mark -/
theorem row_zero_one (p : List Mk) (m : Mk) (hm : m.1 ≠ 2) : ¬ M (p ++ [m]) [] := by
  rw [M_append]; rintro ⟨j, hj, _, h⟩; rw [M_single m hm] at h; obtain ⟨c, hc, _⟩ := h; simp at hc
theorem row_succ_one (p : List Mk) (m : Mk) (hm : m.1 ≠ 2) (t : List Int) (c : Int) : M (p ++ [m]) (t ++ [c]) ↔ M p t ∧ takes m c = true := by
  rw [M_append]
  constructor
  · rintro ⟨j, hj, h1, h2⟩
    rw [M_single m hm] at h2
    obtain ⟨d, hd, hc⟩ := h2
    have hl := congrArg List.length hd
    simp at hl
    have hj' : j = t.length := by simp at hj; omega
    subst hj'
    simp at hd h1
    subst hd
    exact ⟨h1, hc⟩
  · rintro ⟨h1, h2⟩
    exact ⟨t.length, by simp, by simpa using h1, by rw [M_single m hm]; exact ⟨c, by simp, h2⟩⟩
theorem row_zero_many (p : List Mk) (m : Mk) (hm : m.1 = 2) : M (p ++ [m]) [] ↔ M p [] := by
  rw [M_append]
  constructor
  · rintro ⟨j, hj, h1, _⟩; simpa using h1
  · intro h; exact ⟨0, by simp, by simpa using h, M_singleMany m hm _⟩
theorem row_succ_many (p : List Mk) (m : Mk) (hm : m.1 = 2) (t : List Int) (c : Int) : M (p ++ [m]) (t ++ [c]) ↔ M p (t ++ [c]) ∨ M (p ++ [m]) t := by
  rw [M_append, M_append]
  constructor
  · rintro ⟨j, hj, h1, _⟩
    simp at hj
    by_cases e : j = t.length + 1
    · left; rw [List.take_of_length_le (by simp; omega)] at h1; exact h1
    · right; refine ⟨j, by omega, ?_, M_singleMany m hm _⟩
      rw [List.take_append_of_le_length (by omega)] at h1; exact h1
  · rintro (h | ⟨j, hj, h1, _⟩)
    · exact ⟨t.length + 1, by simp, by rw [List.take_of_length_le (by simp)]; exact h, M_singleMany m hm _⟩
    · exact ⟨j, by simp; omega, by rw [List.take_append_of_le_length hj]; exact h1, M_singleMany m hm _⟩

/-- the greedy walk's state: what is left decides. l: 1 + the place of the last %, 0 if none -/
def Rest (ms : List Mk) (t : List Int) (l f : Nat) : Prop := 0 < l ∧ ∃ j, f < j ∧ j ≤ t.length ∧ M (ms.drop l) (t.drop j)
structure Inv (ms : List Mk) (t : List Int) (a n l f : Nat) : Prop where
  ale : a ≤ t.length
  nle : n ≤ ms.length
  fle : f ≤ a
  lle : l ≤ n
  gap : 0 < l → a - f = n - l
  gaps : 0 < l → ∀ i, l ≤ i → i < n → ∃ m, ms[i]? = some m ∧ m.1 ≠ 2
  all : M ms t ↔ M (ms.drop n) (t.drop a) ∨ Rest ms t l f

theorem Inv.start (ms : List Mk) (t : List Int) : Inv ms t 0 0 0 0 :=
  ⟨by simp, by simp, by simp, by simp, by simp, by simp, by simp [Rest]⟩

theorem M_mid : ∀ (g : Nat) (ms : List Mk) (t : List Int), (∀ i, i < g → ∃ m, ms[i]? = some m ∧ m.1 ≠ 2) → M ms t → g ≤ t.length ∧ M (ms.drop g) (t.drop g) := by
  intro g
  induction g with
  | zero => intro ms t _ h; exact ⟨Nat.zero_le _, by simpa using h⟩
  | succ g ih =>
    intro ms t h1 h2
    cases ms with
    | nil => obtain ⟨m, hm, _⟩ := h1 0 (by omega); simp at hm
    | cons m ms =>
      obtain ⟨m', hm', hk⟩ := h1 0 (by omega)
      simp at hm'; subst hm'
      rw [M_one hk] at h2
      obtain ⟨c, t', rfl, _, h3⟩ := h2
      have := ih ms t' (fun i hi => by have := h1 (i + 1) (by omega); simpa using this) h3
      exact ⟨by simp; omega, by simpa using this.2⟩

theorem Inv.rest {ms : List Mk} {t : List Int} {a n l f : Nat} (I : Inv ms t a n l f) (h : Rest ms t l f) : ∃ j, a < j ∧ j ≤ t.length ∧ M (ms.drop n) (t.drop j) := by
  obtain ⟨hl, j, hj, hjt, hM⟩ := h
  have hg := I.gap hl
  have hle := I.lle; have hfl := I.fle
  have := M_mid (n - l) (ms.drop l) (t.drop j) (fun i hi => by
    have := I.gaps hl (l + i) (by omega) (by omega); simpa [List.getElem?_drop] using this) hM
  rw [List.drop_drop, List.drop_drop, List.length_drop] at this
  refine ⟨j + (n - l), by omega, by omega, ?_⟩
  rw [show l + (n - l) = n by omega] at this
  exact this.2

theorem drop_cons {α : Type} {l : List α} {n : Nat} {x : α} (h : l[n]? = some x) : l.drop n = x :: l.drop (n + 1) := by
  obtain ⟨hn, rfl⟩ := List.getElem?_eq_some_iff.1 h
  exact List.drop_eq_getElem_cons hn

theorem Inv.many {ms : List Mk} {t : List Int} {a n l f : Nat} (I : Inv ms t a n l f) {m : Mk} (hm : ms[n]? = some m) (hk : m.1 = 2) : Inv ms t a (n + 1) (n + 1) a := by
  have hn : n < ms.length := (List.getElem?_eq_some_iff.1 hm).1
  refine ⟨I.ale, hn, Nat.le_refl _, Nat.le_refl _, by omega, fun _ i h1 h2 => by omega, ?_⟩
  have hal := I.ale
  have key : M (ms.drop n) (t.drop a) ↔ M (ms.drop (n + 1)) (t.drop a) ∨ Rest ms t (n + 1) a := by
    rw [drop_cons hm, M_many hk]
    constructor
    · rintro ⟨j, hj, h⟩
      rw [List.drop_drop] at h; rw [List.length_drop] at hj
      by_cases e : j = 0
      · subst e; left; simpa using h
      · right; exact ⟨by omega, a + j, by omega, by omega, h⟩
    · rintro (h | ⟨_, j, h1, h2, h⟩)
      · exact ⟨0, by simp, by simpa using h⟩
      · refine ⟨j - a, by rw [List.length_drop]; omega, ?_⟩
        rw [List.drop_drop, show a + (j - a) = j by omega]; exact h
  rw [I.all, ← key]
  constructor
  · rintro (h | h)
    · exact h
    · obtain ⟨j, h1, h2, h3⟩ := I.rest h
      rw [drop_cons hm, M_many hk] at h3 ⊢
      obtain ⟨i, hi, h4⟩ := h3
      rw [List.length_drop] at hi; rw [List.drop_drop] at h4
      refine ⟨j + i - a, by rw [List.length_drop]; omega, ?_⟩
      rw [List.drop_drop, show a + (j + i - a) = j + i by omega]; exact h4
  · exact Or.inl

theorem Inv.take {ms : List Mk} {t : List Int} {a n l f : Nat} (I : Inv ms t a n l f) {m : Mk} {c : Int} (hm : ms[n]? = some m) (hc : t[a]? = some c) (hk : m.1 ≠ 2) (ht : takes m c = true) : Inv ms t (a + 1) (n + 1) l f := by
  have hn : n < ms.length := (List.getElem?_eq_some_iff.1 hm).1
  have ha : a < t.length := (List.getElem?_eq_some_iff.1 hc).1
  have hf := I.fle; have hl := I.lle
  refine ⟨ha, hn, by omega, by omega, fun h => by have := I.gap h; omega, fun h i h1 h2 => ?_, ?_⟩
  · by_cases e : i = n
    · subst e; exact ⟨m, hm, hk⟩
    · exact I.gaps h i h1 (by omega)
  · rw [I.all, drop_cons hm, drop_cons hc, M_one hk]
    constructor
    · rintro (⟨c', t', h1, h2, h3⟩ | h)
      · simp at h1; obtain ⟨rfl, rfl⟩ := h1; exact Or.inl h3
      · exact Or.inr h
    · rintro (h | h)
      · exact Or.inl ⟨c, _, rfl, ht, h⟩
      · exact Or.inr h

/-- no way on from here -/
def Stuck (ms : List Mk) (t : List Int) (a n : Nat) : Prop := a < t.length ∧ (ms.length ≤ n ∨ ∃ m c, ms[n]? = some m ∧ t[a]? = some c ∧ m.1 ≠ 2 ∧ takes m c = false)
theorem Stuck.no {ms : List Mk} {t : List Int} {a n : Nat} (h : Stuck ms t a n) : ¬ M (ms.drop n) (t.drop a) := by
  obtain ⟨h1, h2⟩ := h
  rcases h2 with h2 | ⟨m, c, hm, hc, hk, ht⟩
  · rw [List.drop_eq_nil_of_le h2, M_nil]; intro h; have := congrArg List.length h; simp at this; omega
  · rw [drop_cons hm, drop_cons hc, M_one hk]
    rintro ⟨c', t', h3, h4, _⟩
    simp at h3; obtain ⟨rfl, rfl⟩ := h3; rw [ht] at h4; cases h4

theorem Inv.back {ms : List Mk} {t : List Int} {a n l f : Nat} (I : Inv ms t a n l f) (hl : 0 < l) (hs : Stuck ms t a n) : Inv ms t (f + 1) l l (f + 1) := by
  have hf := I.fle; have hn := I.nle; have hln := I.lle; have h1 := hs.1
  refine ⟨by omega, by omega, Nat.le_refl _, Nat.le_refl _, fun _ => by omega, fun _ i h1 h2 => by omega, ?_⟩
  rw [I.all]
  constructor
  · rintro (h | ⟨_, j, h1, h2, h3⟩)
    · exact absurd h hs.no
    · by_cases e : j = f + 1
      · subst e; exact Or.inl h3
      · exact Or.inr ⟨hl, j, by omega, h2, h3⟩
  · rintro (h | ⟨_, j, h1, h2, h3⟩)
    · exact Or.inr ⟨hl, f + 1, by omega, by omega, h⟩
    · exact Or.inr ⟨hl, j, by omega, h2, h3⟩

theorem Inv.fails {ms : List Mk} {t : List Int} {a n f : Nat} (I : Inv ms t a n 0 f) (hs : Stuck ms t a n) : ¬ M ms t := by
  rw [I.all]; rintro (h | ⟨h, _⟩)
  · exact hs.no h
  · omega

theorem Inv.ends {ms : List Mk} {t : List Int} {a n l f : Nat} (I : Inv ms t a n l f) (ha : a = t.length) : M ms t ↔ M (ms.drop n) [] := by
  rw [I.all]
  subst ha
  rw [List.drop_eq_nil_of_le (Nat.le_refl _)]
  constructor
  · rintro (h | h)
    · exact h
    · obtain ⟨j, h1, h2, _⟩ := I.rest h; omega
  · exact Or.inl

theorem end_many {ms : List Mk} {n : Nat} {m : Mk} (hm : ms[n]? = some m) (hk : m.1 = 2) : M (ms.drop n) [] ↔ M (ms.drop (n + 1)) [] := by
  rw [drop_cons hm, M_many hk]
  constructor
  · rintro ⟨j, _, h⟩; simpa using h
  · intro h; exact ⟨0, by simp, by simpa using h⟩
theorem end_stop {ms : List Mk} {n : Nat} {m : Mk} (hm : ms[n]? = some m) (hk : m.1 ≠ 2) : ¬ M (ms.drop n) [] := by
  rw [drop_cons hm, M_one hk]; rintro ⟨c, t', h, _⟩; cases h
theorem end_all {ms : List Mk} {n : Nat} (h : ms.length ≤ n) : M (ms.drop n) [] := by
  rw [List.drop_eq_nil_of_le h, M_nil]

theorem meas_many (T L a n f : Nat) (hf : f ≤ a) (hn : n < L) : (T - a) * (T + L + 2) + (T - a) + (L - (n + 1)) < (T - f) * (T + L + 2) + (T - a) + (L - n) := by
  have := Nat.mul_le_mul_right (T + L + 2) (show T - a ≤ T - f by omega); omega
theorem meas_take (T L a n f : Nat) (hn : n < L) : (T - f) * (T + L + 2) + (T - (a + 1)) + (L - (n + 1)) < (T - f) * (T + L + 2) + (T - a) + (L - n) := by omega
theorem meas_back (T L a n l f : Nat) (hf : f ≤ a) (ha : a < T) : (T - (f + 1)) * (T + L + 2) + (T - (f + 1)) + (L - l) < (T - f) * (T + L + 2) + (T - a) + (L - n) := by
  have h : T - f = (T - (f + 1)) + 1 := by omega
  rw [h, Nat.add_mul, Nat.one_mul]; omega

/-- the reading of a pattern's characters -/
def step (s : List Mk × Bool) (c : Int) : List Mk × Bool :=
  if s.2 = true then (s.1 ++ [(0, c)], false) else if c = 92 then (s.1, true) else if c = 37 then (s.1 ++ [(2, 0)], false) else if c = 95 then (s.1 ++ [(1, 0)], false) else (s.1 ++ [(0, c)], false)
def scan (l : List Int) : List Mk × Bool := l.foldl step ([], false)
theorem scan_snoc (l : List Int) (c : Int) : scan (l ++ [c]) = step (scan l) c := by simp [scan]
end Go.Proofs.YtkmopmcpblhakabDoor.LikeM
