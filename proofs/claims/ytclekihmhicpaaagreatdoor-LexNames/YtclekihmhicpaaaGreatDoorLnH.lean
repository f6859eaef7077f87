/-
  Plain, of the reference; SQL's own words, of both.
-/
import Derived.Test.YtclekihmhicpaaaGreatDoorLnG
namespace Go.Proofs.YtclekihmhicpaaaGreatDoor
open Go.RowKit Go.Shelf

/-! ### Words that need no quotes -/
def okc (x : UInt8) : Bool := (isL x || isD x) && !decide (65 ≤ x.toNat ∧ x.toNat ≤ 90)
def rpB (l : List UInt8) : Bool := decide (1 ≤ l.length) && decide (l.length ≤ 32) && !(match l with | [] => false | x :: _ => isD x) && l.all okc
theorem wtl_all : ∀ r : List UInt8, wtl r = r.length ↔ r.all (fun x => isL x || isD x) = true
  | [] => by simp [wtl]
  | x :: r => by
    have ih := wtl_all r
    have hl := wtl_le r
    rw [wtl]
    by_cases h : (isL x || isD x) = true
    · rw [if_pos h]
      simp only [List.length_cons, List.all_cons, h, Bool.true_and, ← ih]
      omega
    · rw [if_neg h]
      simp only [List.length_cons, List.all_cons]
      constructor
      · intro e; omega
      · intro e
        rw [Bool.and_eq_true] at e
        exact absurd e.1 h
theorem low_same (x : UInt8) : Lib.lowerB x = x ↔ ¬ (65 ≤ x.toNat ∧ x.toNat ≤ 90) := by
  unfold Lib.lowerB
  have hu : Lib.isUpperB x = true ↔ (65 ≤ x.toNat ∧ x.toNat ≤ 90) := by
    simp [Lib.isUpperB, UInt8.le_iff_toNat_le]
  by_cases h : Lib.isUpperB x = true
  · rw [if_pos h]
    constructor
    · intro e
      have h1 := congrArg UInt8.toNat e
      have h2 := hu.1 h
      rw [UInt8.toNat_add] at h1
      simp at h1
      omega
    · intro e; exact absurd (hu.1 h) e
  · rw [if_neg h]
    exact ⟨fun _ e => h (hu.2 e), fun _ => rfl⟩
theorem low_all : ∀ l : List UInt8, (Lib.toLowerA l == l) = l.all (fun x => !decide (65 ≤ x.toNat ∧ x.toNat ≤ 90))
  | [] => rfl
  | x :: l => by
    have ih := low_all l
    unfold Lib.toLowerA at ih ⊢
    rw [List.map_cons, List.all_cons, ← ih]
    by_cases h : Lib.lowerB x = x
    · rw [h, decide_eq_false (low_same x |>.1 h)]
      simp
    · have h2 : 65 ≤ x.toNat ∧ x.toNat ≤ 90 := by
        rcases Decidable.em (65 ≤ x.toNat ∧ x.toNat ≤ 90) with e | e
        · exact e
        · exact absurd ((low_same x).2 e) h
      rw [decide_eq_true h2]
      simp only [Bool.not_true, Bool.false_and]
      rw [beq_eq_false_iff_ne]
      intro e
      exact h (List.cons.inj e).1
theorem bad_ascii : ∀ (f k : Nat) (l : List UInt8), (∀ b ∈ l, 0 < b.toNat ∧ b.toNat < 128) → badF f k l = -1
  | 0, _, _, _ => rfl
  | f + 1, k, [], _ => by simp [badF]
  | f + 1, k, x :: l, h => by
    have hx := h x (by simp)
    rw [badF, if_neg (by simp), Lib.decodeL_ascii x l hx.2]
    have hb : badHere (x :: l) = false := by
      unfold badHere
      rw [Lib.decodeL_ascii x l hx.2, decide_eq_false (by show ¬ x.toNat = 0; omega), decide_eq_false (by show ¬ x.toNat = 65533; omega)]
      rfl
    rw [hb, if_neg (by decide)]
    exact bad_ascii f (k + 1) l (fun b hb => h b (List.mem_cons_of_mem _ hb))
theorem okc_ascii {x : UInt8} (h : okc x = true) : 0 < x.toNat ∧ x.toNat < 128 := by
  unfold okc at h
  rw [Bool.and_eq_true] at h
  have h1 := h.1
  simp only [isL, isD, Bool.or_eq_true, decide_eq_true_eq] at h1
  omega
theorem pl_eq (l : List UInt8) : plB l = rpB l := by
  rcases l with _ | ⟨x, r⟩
  · rfl
  rw [Bool.eq_iff_iff]
  have hall : (x :: r).all okc = true ↔ ((x :: r).all (fun x => isL x || isD x) = true ∧ (x :: r).all (fun x => !decide (65 ≤ x.toNat ∧ x.toNat ≤ 90)) = true) := by
    simp only [List.all_eq_true, okc, Bool.and_eq_true]
    exact ⟨fun h => ⟨fun y hy => (h y hy).1, fun y hy => (h y hy).2⟩, fun h y hy => ⟨h.1 y hy, h.2 y hy⟩⟩
  unfold plB rpB nmB
  simp only [Bool.and_eq_true, decide_eq_true_eq, low_all, hall, Bool.not_eq_true']
  constructor
  · rintro ⟨⟨⟨⟨_, h32⟩, _⟩, hw⟩, hlow⟩
    have hx : isL x = true := by
      by_cases hx : isL x = true
      · exact hx
      · rw [wsz, if_neg hx] at hw; simp at hw
    rw [wsz, if_pos hx] at hw
    have hr : wtl r = r.length := by simp at hw; exact hw
    refine ⟨⟨⟨by simp, h32⟩, ?_⟩, ?_, hlow⟩
    · simp only [isL, decide_eq_true_eq] at hx
      simp only [isD, decide_eq_false_iff_not]
      omega
    · rw [List.all_cons, hx, (wtl_all r).1 hr]; rfl
  · rintro ⟨⟨⟨_, h32⟩, hd⟩, hch, hlow⟩
    have hx : isL x = true := by
      have := List.all_eq_true.1 hch x (by simp)
      rw [hd] at this
      simpa using this
    have hr : wtl r = r.length := (wtl_all r).2 (by rw [List.all_cons, Bool.and_eq_true] at hch; exact hch.2)
    have hbad : badA (x :: r) = -1 := bad_ascii _ _ _ (fun b hb => okc_ascii (by
      unfold okc
      rw [List.all_eq_true.1 hch b hb, List.all_eq_true.1 hlow b hb]; rfl))
    exact ⟨⟨⟨⟨by simp, h32⟩, by rw [hbad]; decide⟩, by rw [wsz, if_pos hx, hr]; rfl⟩, hlow⟩
/-! ### SQL's own words -/
def wordsL : List (List UInt8) := [[97, 98, 111, 114, 116], [97, 110, 100], [97, 115], [97, 115, 99], [97, 118, 103], [98, 101, 103, 105, 110], [98, 105, 103, 105, 110, 116], [98, 111, 111, 108, 101, 97, 110], [98, 121], [99, 97, 115, 101], [99, 97, 115, 116], [99, 111, 97, 108, 101, 115, 99, 101], [99, 111, 117, 110, 116], [99, 114, 101, 97, 116, 101], [100, 101, 99, 105, 109, 97, 108], [100, 101, 108, 101, 116, 101], [100, 101, 115, 99], [100, 105, 115, 116, 105, 110, 99, 116], [101, 108, 115, 101], [101, 110, 100], [102, 97, 108, 115, 101], [102, 114, 111, 109], [103, 114, 111, 117, 112], [104, 97, 118, 105, 110, 103], [105, 102], [105, 110], [105, 110, 100, 101, 120], [105, 110, 115, 101, 114, 116], [105, 110, 116, 111], [105, 115], [106, 111, 105, 110], [107, 101, 121], [108, 101, 110, 103, 116, 104], [108, 101, 116], [108, 105, 107, 101], [108, 105, 109, 105, 116], [109, 97, 120], [109, 105, 110], [110, 111, 116], [110, 117, 108, 108], [111, 110], [111, 114], [111, 114, 100, 101, 114], [112, 97, 114, 116, 105, 116, 105, 111, 110], [112, 114, 105, 109, 97, 114, 121], [112, 114, 111, 99, 101, 100, 117, 114, 101], [115, 101, 108, 101, 99, 116], [115, 101, 116], [115, 117, 98, 115, 116, 114], [115, 117, 109], [116, 97, 98, 108, 101], [116, 104, 101, 110], [116, 114, 117, 101], [117, 110, 105, 113, 117, 101], [117, 112, 100, 97, 116, 101], [118, 97, 108, 117, 101, 115], [118, 97, 114, 99, 104, 97, 114], [119, 104, 101, 110], [119, 104, 101, 114, 101]]
def ownW : List UInt8 := [32, 97, 98, 111, 114, 116, 32, 97, 110, 100, 32, 97, 115, 32, 97, 115, 99, 32, 97, 118, 103, 32, 98, 101, 103, 105, 110, 32, 98, 105, 103, 105, 110, 116, 32, 98, 111, 111, 108, 101, 97, 110, 32, 98, 121, 32, 99, 97, 115, 101, 32, 99, 97, 115, 116, 32, 99, 111, 97, 108, 101, 115, 99, 101, 32, 99, 111, 117, 110, 116, 32, 99, 114, 101, 97, 116, 101, 32, 100, 101, 99, 105, 109, 97, 108, 32, 100, 101, 108, 101, 116, 101, 32, 100, 101, 115, 99, 32, 100, 105, 115, 116, 105, 110, 99, 116, 32, 101, 108, 115, 101, 32, 101, 110, 100, 32, 102, 97, 108, 115, 101, 32, 102, 114, 111, 109, 32, 103, 114, 111, 117, 112, 32, 104, 97, 118, 105, 110, 103, 32, 105, 102, 32, 105, 110, 32, 105, 110, 100, 101, 120, 32, 105, 110, 115, 101, 114, 116, 32, 105, 110, 116, 111, 32, 105, 115, 32, 106, 111, 105, 110, 32, 107, 101, 121, 32, 108, 101, 110, 103, 116, 104, 32, 108, 101, 116, 32, 108, 105, 107, 101, 32, 108, 105, 109, 105, 116, 32, 109, 97, 120, 32, 109, 105, 110, 32, 110, 111, 116, 32, 110, 117, 108, 108, 32, 111, 110, 32, 111, 114, 32, 111, 114, 100, 101, 114, 32, 112, 97, 114, 116, 105, 116, 105, 111, 110, 32, 112, 114, 105, 109, 97, 114, 121, 32, 112, 114, 111, 99, 101, 100, 117, 114, 101, 32, 115, 101, 108, 101, 99, 116, 32, 115, 101, 116, 32, 115, 117, 98, 115, 116, 114, 32, 115, 117, 109, 32, 116, 97, 98, 108, 101, 32, 116, 104, 101, 110, 32, 116, 114, 117, 101, 32, 117, 110, 105, 113, 117, 101, 32, 117, 112, 100, 97, 116, 101, 32, 118, 97, 108, 117, 101, 115, 32, 118, 97, 114, 99, 104, 97, 114, 32, 119, 104, 101, 110, 32, 119, 104, 101, 114, 101, 32]
def cat : List (List UInt8) → List UInt8
  | [] => []
  | v :: ws => v ++ 32 :: cat ws
theorem ownW_cat : ownW = 32 :: cat wordsL := by kernel_rfl
theorem index_cons (b : UInt8) (l sub : List UInt8) : 0 ≤ Lib.index (b :: l) sub ↔ (sub.isPrefixOf (b :: l) = true ∨ 0 ≤ Lib.index l sub) := by
  rw [Lib.index]
  by_cases h : sub.isPrefixOf (b :: l) = true
  · rw [if_pos h]; simp [h]
  · rw [if_neg h]
    have hg := Lib.index_ge l sub
    by_cases hm : Lib.index l sub = -1
    · rw [if_pos (by simpa using hm), hm]
      constructor
      · intro e; exact absurd e (by decide)
      · rintro (e | e)
        · exact absurd e h
        · exact absurd e (by decide)
    · rw [if_neg (by simpa using hm)]
      constructor
      · intro e; right; omega
      · rintro (e | e)
        · exact absurd e h
        · omega
theorem index_skip (sub : List UInt8) : ∀ (v s : List UInt8), (32 : UInt8) ∉ v → (0 ≤ Lib.index (v ++ s) (32 :: sub) ↔ 0 ≤ Lib.index s (32 :: sub))
  | [], s, _ => Iff.rfl
  | x :: v, s, h => by
    have hx : ((32 : UInt8) == x) = false := by rw [beq_eq_false_iff_ne]; intro e; subst e; simp at h
    have hv : (32 : UInt8) ∉ v := fun e => h (List.mem_cons_of_mem _ e)
    rw [List.cons_append, index_cons, index_skip sub v s hv]
    simp [List.isPrefixOf, hx]
theorem pre_word : ∀ (a b c : List UInt8), (32 : UInt8) ∉ a → (32 : UInt8) ∉ b → ((a ++ [32]).isPrefixOf (b ++ 32 :: c) = true ↔ a = b)
  | [], [], c, _, _ => by simp [List.isPrefixOf]
  | [], y :: b, c, _, h => by
    have hy : ((32 : UInt8) == y) = false := by rw [beq_eq_false_iff_ne]; intro e; subst e; simp at h
    simp [List.isPrefixOf, hy]
  | x :: a, [], c, h, _ => by
    have hx : (x == (32 : UInt8)) = false := by rw [beq_eq_false_iff_ne]; intro e; subst e; simp at h
    simp [List.isPrefixOf, hx]
  | x :: a, y :: b, c, h, k => by
    have ih := pre_word a b c (fun e => h (List.mem_cons_of_mem _ e)) (fun e => k (List.mem_cons_of_mem _ e))
    simp only [List.cons_append, List.isPrefixOf, Bool.and_eq_true, beq_iff_eq, ih, List.cons.injEq]
theorem cat_has (a : List UInt8) (ha : (32 : UInt8) ∉ a) : ∀ ws : List (List UInt8), (∀ v ∈ ws, (32 : UInt8) ∉ v) → (0 ≤ Lib.index (32 :: cat ws) (32 :: (a ++ [32])) ↔ a ∈ ws)
  | [], _ => by
    have h : ([32] : List UInt8).length < (32 :: (a ++ [32]) : List UInt8).length := by simp
    have hn : ¬ 0 ≤ Lib.index ([32] : List UInt8) (32 :: (a ++ [32])) := by
      intro e
      have := Lib.index_room [32] (32 :: (a ++ [32])) e
      simp at this
      omega
    simpa [cat] using hn
  | v :: ws, hv => by
    have h1 : (32 : UInt8) ∉ v := hv v (by simp)
    have ih := cat_has a ha ws (fun u hu => hv u (List.mem_cons_of_mem _ hu))
    rw [cat, index_cons, index_skip (a ++ [32]) v (32 :: cat ws) h1, ih]
    have hp : (32 :: (a ++ [32]) : List UInt8).isPrefixOf (32 :: (v ++ 32 :: cat ws)) = true ↔ a = v := by
      rw [← pre_word a v (cat ws) ha h1]
      simp [List.isPrefixOf]
    rw [hp, List.mem_cons]
set_option maxRecDepth 100000 in
theorem words_none : ∀ v ∈ wordsL, (32 : UInt8) ∉ v := by decide
theorem own_eq (a : List UInt8) (ha : (32 : UInt8) ∉ a) : Lib.contains ownW (32 :: (a ++ [32])) = wordsL.contains a := by
  unfold Lib.contains
  rw [ownW_cat, Bool.eq_iff_iff, decide_eq_true_eq, cat_has a ha wordsL words_none, List.contains_iff_mem]
end Go.Proofs.YtclekihmhicpaaaGreatDoor
