/-
  Tokens ahead of a line feed: pieces stay as they were.
-/
import Derived.Test.YtfcolecglobcdaaGreatDoorLxM
namespace Go.Proofs.YtfcolecglobcdaaGreatDoor
open Go.RowKit Go.Shelf

/-! ### A line feed behind a text -/
theorem isL_nl : isL 10 = false := by decide
theorem isD_nl : isD 10 = false := by decide
theorem wtl_ext (b : List UInt8) : ∀ r : List UInt8, wtl (r ++ 10 :: b) = wtl r
  | [] => by simp [wtl, isL_nl, isD_nl]
  | x :: r => by simp only [List.cons_append, wtl, wtl_ext b r]
theorem wsz_ext (b : List UInt8) : ∀ r : List UInt8, wsz (r ++ 10 :: b) = wsz r
  | [] => by simp [wsz, isL_nl]
  | x :: r => by simp only [List.cons_append, wsz, wtl_ext b r]
theorem dsz_ext (b : List UInt8) : ∀ r : List UInt8, dsz (r ++ 10 :: b) = dsz r
  | [] => by simp [dsz, isD_nl]
  | x :: r => by simp only [List.cons_append, dsz, dsz_ext b r]
theorem fsz_ext (b : List UInt8) : ∀ r : List UInt8, fsz (r ++ 10 :: b) = fsz r
  | [] => by simp [fsz]
  | x :: r => by simp only [List.cons_append, fsz, dsz_ext b r]
theorem wtl_le : ∀ r : List UInt8, wtl r ≤ r.length
  | [] => Nat.le_refl _
  | x :: r => by have := wtl_le r; unfold wtl; split <;> simp <;> omega
theorem wsz_le : ∀ r : List UInt8, wsz r ≤ r.length
  | [] => Nat.le_refl _
  | x :: r => by have := wtl_le r; rw [wsz]; split <;> simp <;> omega
theorem dsz_le : ∀ r : List UInt8, dsz r ≤ r.length
  | [] => Nat.le_refl _
  | x :: r => by have := dsz_le r; unfold dsz; split <;> simp <;> omega
theorem fsz_le : ∀ r : List UInt8, fsz r = 0 ∨ 1 + fsz r ≤ r.length
  | [] => Or.inl rfl
  | x :: r => by
    have := dsz_le r; rw [fsz]
    split
    · right; simp; omega
    · left; rfl
theorem nsz_le (r : List UInt8) : nsz r ≤ r.length := by
  have h1 := dsz_le r
  have h2 := fsz_le (r.drop (dsz r))
  have h3 : (r.drop (dsz r)).length = r.length - dsz r := List.length_drop
  unfold nsz
  split
  · exact h1
  · omega
theorem qz_le (q : UInt8) : ∀ r : List UInt8, qz q r ≤ r.length
  | [] => Nat.le_refl _
  | [x] => by unfold qz; split <;> simp
  | x :: y :: r => by
    have h1 := qz_le q r
    have h2 := qz_le q (y :: r)
    unfold qz
    simp only [List.length_cons] at h2 ⊢
    split
    · split
      · split <;> omega
      · omega
    · split <;> omega
theorem qsz_le : ∀ r : List UInt8, qsz r ≤ r.length
  | [] => Nat.le_refl _
  | q :: r => by have := qz_le q r; rw [qsz]; split <;> simp <;> omega
theorem qz_ext (q : UInt8) (hq : (10 : UInt8) ≠ q) (b : List UInt8) : ∀ r : List UInt8, qz q r ≠ 0 → qz q (r ++ 10 :: b) = qz q r
  | [], h => absurd rfl h
  | [x], h => by
    have hx : x = q := by
      by_cases hx : x = q
      · exact hx
      · rw [qz, if_neg hx] at h; exact absurd rfl h
    show qz q (x :: 10 :: b) = _
    rw [qz, qz, if_pos hx, if_pos hx, if_neg hq]
  | x :: y :: r, h => by
    show qz q (x :: y :: (r ++ 10 :: b)) = _
    rw [qz] at h
    rw [qz, qz]
    by_cases hx : x = q
    · rw [if_pos hx] at h
      rw [if_pos hx, if_pos hx]
      by_cases hy : y = q
      · rw [if_pos hy] at h
        rw [if_pos hy, if_pos hy]
        by_cases h0 : qz q r = 0
        · rw [if_pos h0] at h; exact absurd rfl h
        · rw [qz_ext q hq b r h0]
      · rw [if_neg hy, if_neg hy]
    · rw [if_neg hx] at h
      rw [if_neg hx, if_neg hx]
      by_cases h0 : qz q (y :: r) = 0
      · rw [if_pos h0] at h; exact absurd rfl h
      · rw [← List.cons_append, qz_ext q hq b (y :: r) h0]
theorem pre_ext (b : List UInt8) : ∀ (g r : List UInt8), (10 : UInt8) ∉ g → g.isPrefixOf (r ++ 10 :: b) = g.isPrefixOf r
  | [], _, _ => by simp
  | x :: g, [], h => by
    have : (x == (10 : UInt8)) = false := by rw [beq_eq_false_iff_ne]; intro e; subst e; simp at h
    simp [List.isPrefixOf, this]
  | x :: g, y :: r, h => by
    have hg : (10 : UInt8) ∉ g := fun e => h (List.mem_cons_of_mem _ e)
    simp only [List.cons_append, List.isPrefixOf, pre_ext b g r hg]
theorem ssF_ext (b r : List UInt8) : ∀ gs : List (List UInt8), (∀ g ∈ gs, (10 : UInt8) ∉ g) → ssF (r ++ 10 :: b) gs = ssF r gs
  | [], _ => rfl
  | g :: gs, h => by
    simp only [ssF, pre_ext b g r (h g (by simp)), ssF_ext b r gs (fun g hg => h g (List.mem_cons_of_mem _ hg))]
theorem ssz_ext (b r : List UInt8) : ssz (r ++ 10 :: b) = ssz r := ssF_ext b r sgs (by decide)
theorem ssF_le (r : List UInt8) : ∀ gs : List (List UInt8), ssF r gs ≤ r.length
  | [] => Nat.zero_le _
  | g :: gs => by
    unfold ssF
    split
    · rename_i h
      exact (List.isPrefixOf_iff_prefix.1 h).length_le
    · exact ssF_le r gs
theorem ssz_le (r : List UInt8) : ssz r ≤ r.length := ssF_le r sgs
theorem index_ext (b sub : List UInt8) (hs : sub ≠ []) : ∀ r : List UInt8, 0 ≤ Lib.index r sub → Lib.index (r ++ b) sub = Lib.index r sub
  | [], h => by
    unfold Lib.index at h
    rw [if_neg (by simpa using hs)] at h
    exact absurd h (by decide)
  | x :: r, h => by
    by_cases hp : sub.isPrefixOf (x :: r) = true
    · have hp2 : sub.isPrefixOf (x :: (r ++ b)) = true := by
        rw [List.isPrefixOf_iff_prefix] at hp ⊢
        exact hp.trans ⟨b, by simp⟩
      rw [List.cons_append]
      unfold Lib.index
      rw [if_pos hp, if_pos hp2]
    · unfold Lib.index at h
      rw [if_neg hp] at h
      by_cases hm : Lib.index r sub = -1
      · rw [if_pos (by simpa using hm)] at h; exact absurd h (by decide)
      have hr : 0 ≤ Lib.index r sub := by have := Lib.index_ge r sub; omega
      have ih := index_ext b sub hs r hr
      have hp2 : ¬ sub.isPrefixOf (x :: (r ++ b)) = true := by
        intro hp2
        rw [List.isPrefixOf_iff_prefix] at hp2
        have h1 : sub.length ≤ (x :: r).length := by
          have := Lib.index_room r sub hr
          simp; omega
        apply hp
        rw [List.isPrefixOf_iff_prefix]
        exact List.prefix_of_prefix_length_le hp2 ⟨b, by simp⟩ h1
      rw [List.cons_append]
      unfold Lib.index
      rw [if_neg hp, if_neg hp2, ih]
theorem cut_ext (b r : List UInt8) : (Lib.cut (r ++ 10 :: b) [10]).1 = (Lib.cut r [10]).1 := by
  have key : ∀ r : List UInt8, Lib.index (r ++ 10 :: b) [10] = if 0 ≤ Lib.index r [10] then Lib.index r [10] else (r.length : Int) := by
    intro r
    induction r with
    | nil => rfl
    | cons x r ih =>
      rw [List.cons_append]
      by_cases hx : x = 10
      · subst hx
        have h1 : ∀ t : List UInt8, Lib.index (10 :: t) [10] = 0 := by intro t; simp [Lib.index]
        rw [h1, h1]; rfl
      · have h1 : ∀ t : List UInt8, Lib.index (x :: t) [10] = if Lib.index t [10] == -1 then -1 else Lib.index t [10] + 1 := by
          intro t
          rw [Lib.index, if_neg]
          simp only [List.isPrefixOf, Bool.and_true, beq_iff_eq]
          exact fun e => hx e.symm
        rw [h1, h1, ih]
        have hg := Lib.index_ge r [10]
        by_cases hm : Lib.index r [10] = -1
        · rw [hm]
          have : ¬ ((r.length : Int) = -1) := by omega
          simp [this]
        · have h0 : 0 ≤ Lib.index r [10] := by omega
          have h2 : 0 ≤ Lib.index r [10] + 1 := by omega
          simp [hm, h0, h2]
  have hk := key r
  unfold Lib.cut
  by_cases h0 : 0 ≤ Lib.index r [10]
  · rw [if_pos h0] at hk
    rw [hk, if_pos h0, if_pos h0]
    have := Lib.index_le r [10]
    exact List.take_append_of_le_length (by omega)
  · rw [if_neg h0] at hk
    rw [hk, if_neg h0, if_pos (by omega)]
    simp
theorem cut_le (r : List UInt8) : (Lib.cut r [10]).1.length ≤ r.length := by
  unfold Lib.cut; split
  · simp only [List.length_take]; omega
  · exact Nat.le_refl _
theorem cut_pos {r : List UInt8} {x : UInt8} (h : x ≠ 10) : 1 ≤ (Lib.cut (x :: r) [10]).1.length := by
  have h1 : Lib.index (x :: r) [10] = if Lib.index r [10] == -1 then -1 else Lib.index r [10] + 1 := by
    rw [Lib.index, if_neg]
    simp only [List.isPrefixOf, Bool.and_true, beq_iff_eq]
    exact fun e => h e.symm
  unfold Lib.cut
  split
  · rename_i h0
    have h2 := Lib.index_ge r [10]
    have h3 : 1 ≤ Lib.index (x :: r) [10] := by
      rw [h1] at h0 ⊢
      by_cases hm : Lib.index r [10] = -1
      · rw [if_pos (by simpa using hm)] at h0; exact absurd h0 (by decide)
      · rw [if_neg (by simpa using hm)]; omega
    simp only [List.length_take, List.length_cons]
    omega
  · simp

/-! ### Pieces ahead of a line feed -/
def good (p q : Pc) (n : Nat) : Prop := p.why = 0 → q = p ∧ p.size ≤ n ∧ 1 ≤ p.size
theorem good_pcE (q : Pc) (n : Nat) (e : Int) (h : e ≠ 0) : good (pcE e) q n := fun h' => absurd h' h
theorem good_rdA (l : List UInt8) (k : Int) (t : List UInt8) (v : Va) (n : Nat) (h : l.length ≤ n) (h1 : 1 ≤ l.length) : good (rdA l k t v) (rdA l k t v) n := by
  intro hw
  refine ⟨rfl, ?_⟩
  unfold rdA at hw ⊢
  split
  · rename_i hb; rw [if_pos hb] at hw; exact absurd hw (show ¬ (30 : Int) = 0 by decide)
  · exact ⟨h, h1⟩
theorem take_ext (r b : List UInt8) (n : Nat) (h : n ≤ r.length) : (r ++ b).take n = r.take n := List.take_append_of_le_length h
theorem drop_ext (r b : List UInt8) (n : Nat) (h : n ≤ r.length) : (r ++ b).drop n = r.drop n ++ b := List.drop_append_of_le_length h
theorem rdL_ext (x : UInt8) (r b : List UInt8) (hx : x ≠ 10) : good (rdL (x :: r)) (rdL ((x :: r) ++ 10 :: b)) (r.length + 1) := by
  unfold rdL
  rw [cut_ext]
  exact good_rdA _ _ _ _ _ (by have := cut_le (x :: r); simpa using this) (cut_pos hx)
theorem rdR_ext (x y : UInt8) (r b : List UInt8) : good (rdR (x :: y :: r)) (rdR ((x :: y :: r) ++ 10 :: b)) (r.length + 2) := by
  unfold rdR
  have e1 : ((x :: y :: r) ++ 10 :: b).drop 2 = r ++ 10 :: b := rfl
  have e2 : (x :: y :: r).drop 2 = r := rfl
  rw [e1, e2]
  by_cases h0 : Lib.index r [42, 47] < 0
  · rw [if_pos h0]; exact good_pcE _ _ _ (by decide)
  · have h1 := index_ext (10 :: b) [42, 47] (by decide) r (by omega)
    have h2 := Lib.index_room r [42, 47] (by omega)
    have h3 : ([42, 47] : List UInt8).length = 2 := rfl
    rw [h1, if_neg h0, if_neg h0, take_ext _ _ _ (by simp; omega)]
    exact good_rdA _ _ _ _ _ (by simp only [List.length_take, List.length_cons]; omega) (by simp only [List.length_take, List.length_cons]; omega)
theorem rdW_ext (x : UInt8) (r b : List UInt8) (hx : isL x = true) : good (rdW (x :: r)) (rdW ((x :: r) ++ 10 :: b)) (r.length + 1) := by
  have h1 := wsz_ext b (x :: r)
  have h2 := wsz_le (x :: r)
  have h3 : 1 ≤ wsz (x :: r) := by rw [wsz, if_pos hx]; omega
  unfold rdW
  rw [h1, take_ext _ _ _ h2]
  split
  · exact good_pcE _ _ _ (by decide)
  · exact fun _ => ⟨rfl, by simpa [pcT] using h2, by simpa [pcT] using h3⟩
theorem rdM_ext (x : UInt8) (r b : List UInt8) : good (rdM (x :: r)) (rdM ((x :: r) ++ 10 :: b)) (r.length + 1) := by
  have h1 := wsz_ext b r
  have h2 := wsz_le r
  have e1 : ((x :: r) ++ 10 :: b).drop 1 = r ++ 10 :: b := rfl
  have e2 : (x :: r).drop 1 = r := rfl
  unfold rdM
  rw [e1, e2, h1, take_ext _ _ _ h2]
  split
  · exact good_pcE _ _ _ (by decide)
  · exact fun _ => ⟨rfl, by simp [pcT]; omega, by simp [pcT]⟩
theorem inner_ext (x : UInt8) (r b : List UInt8) (hx : (10 : UInt8) ≠ x) (h : qsz (x :: r) ≠ 0) : qsz ((x :: r) ++ 10 :: b) = qsz (x :: r) ∧ inner ((x :: r) ++ 10 :: b) = inner (x :: r) := by
  have h0 : qz x r ≠ 0 := by
    intro e; rw [qsz, if_pos e] at h; exact h rfl
  have h1 : qsz ((x :: r) ++ 10 :: b) = qsz (x :: r) := by
    show qsz (x :: (r ++ 10 :: b)) = _
    rw [qsz, qsz, qz_ext x hx b r h0]
  refine ⟨h1, ?_⟩
  have h2 := qsz_le (x :: r)
  unfold inner
  rw [h1, take_ext _ _ _ (by omega)]
theorem rdQ_ext (x : UInt8) (r b : List UInt8) (hx : (10 : UInt8) ≠ x) : good (rdQ (x :: r)) (rdQ ((x :: r) ++ 10 :: b)) (r.length + 1) := by
  unfold rdQ
  by_cases h0 : qsz (x :: r) = 0
  · rw [if_pos h0]; exact good_pcE _ _ _ (by decide)
  · obtain ⟨h1, h2⟩ := inner_ext x r b hx h0
    have h3 := qsz_le (x :: r)
    rw [h1, h2, if_neg h0, if_neg h0, take_ext _ _ _ h3]
    split
    · exact good_pcE _ _ _ (by decide)
    · exact good_rdA _ _ _ _ _ (by simp only [List.length_take, List.length_cons]; omega) (by simp only [List.length_take, List.length_cons] at h3 ⊢; omega)
theorem rdT_ext (x : UInt8) (r b : List UInt8) (hx : (10 : UInt8) ≠ x) : good (rdT (x :: r)) (rdT ((x :: r) ++ 10 :: b)) (r.length + 1) := by
  unfold rdT
  by_cases h0 : qsz (x :: r) = 0
  · rw [if_pos h0]; exact good_pcE _ _ _ (by decide)
  · obtain ⟨h1, h2⟩ := inner_ext x r b hx h0
    have h3 := qsz_le (x :: r)
    rw [h1, h2, if_neg h0, if_neg h0, take_ext _ _ _ h3]
    split
    · exact good_pcE _ _ _ (by decide)
    · exact good_rdA _ _ _ _ _ (by simp only [List.length_take, List.length_cons]; omega) (by simp only [List.length_take, List.length_cons] at h3 ⊢; omega)
theorem rdN_ext (x : UInt8) (r b : List UInt8) (hx : isD x = true) : good (rdN (x :: r)) (rdN ((x :: r) ++ 10 :: b)) (r.length + 1) := by
  have h1 := dsz_ext b (x :: r)
  have h2 := dsz_le (x :: r)
  have h3 : 1 ≤ dsz (x :: r) := by rw [dsz, if_pos hx]; omega
  have h4 : fsz (((x :: r) ++ 10 :: b).drop (dsz ((x :: r) ++ 10 :: b))) = fsz ((x :: r).drop (dsz (x :: r))) := by
    rw [h1, drop_ext _ _ _ h2, fsz_ext]
  have h5 : nsz ((x :: r) ++ 10 :: b) = nsz (x :: r) := by unfold nsz; rw [h4, h1]
  have h6 := nsz_le (x :: r)
  have h7 : numT ((x :: r) ++ 10 :: b) = numT (x :: r) := by
    unfold numT
    rw [h5, h1, take_ext _ _ _ h2, take_ext _ _ _ h6]
  have h8 : 1 ≤ nsz (x :: r) := by unfold nsz; split <;> omega
  unfold rdN
  rw [h4, h5, h7]
  split
  · exact good_pcE _ _ _ (by decide)
  · split
    · exact fun _ => ⟨rfl, by simpa using h6, h8⟩
    · exact good_pcE _ _ _ (by decide)
theorem rdS_ext (r b : List UInt8) : good (rdS r) (rdS (r ++ 10 :: b)) r.length := by
  have h1 := ssz_ext b r
  have h2 := ssz_le r
  unfold rdS
  rw [h1, take_ext _ _ _ h2]
  split
  · exact good_pcE _ _ _ (by decide)
  · exact fun _ => ⟨rfl, h2, by simp [pcT]; omega⟩
theorem rdP_cons (x : UInt8) (r : List UInt8) : rdP (x :: r) = if 0 ≤ Lib.indexByte [32, 9, 10, 13] x then pcT 1 0 []
    else if ([45, 45] : List UInt8).isPrefixOf (x :: r) = true then rdL (x :: r)
    else if ([47, 42] : List UInt8).isPrefixOf (x :: r) = true then rdR (x :: r)
    else if isL x = true then rdW (x :: r)
    else if isD x = true then rdN (x :: r)
    else if x = 34 then rdQ (x :: r)
    else if x = 39 then rdT (x :: r)
    else if x = 58 then rdM (x :: r)
    else rdS (x :: r) := rfl
theorem rdP_ext (x : UInt8) (r b : List UInt8) : good (rdP (x :: r)) (rdP ((x :: r) ++ 10 :: b)) (r.length + 1) := by
  have e0 : (x :: r) ++ 10 :: b = x :: (r ++ 10 :: b) := rfl
  have p1 : ([45, 45] : List UInt8).isPrefixOf (x :: (r ++ 10 :: b)) = ([45, 45] : List UInt8).isPrefixOf (x :: r) := pre_ext b [45, 45] (x :: r) (by decide)
  have p2 : ([47, 42] : List UInt8).isPrefixOf (x :: (r ++ 10 :: b)) = ([47, 42] : List UInt8).isPrefixOf (x :: r) := pre_ext b [47, 42] (x :: r) (by decide)
  by_cases c0 : 0 ≤ Lib.indexByte [32, 9, 10, 13] x
  · rw [e0]; rw [rdP_cons, rdP_cons]; rw [if_pos c0, if_pos c0]
    exact fun _ => ⟨rfl, by simp [pcT], by simp [pcT]⟩
  have hx : x ≠ 10 := by rintro rfl; exact c0 (by decide)
  have hx' : (10 : UInt8) ≠ x := fun e => hx e.symm
  by_cases c1 : ([45, 45] : List UInt8).isPrefixOf (x :: r) = true
  · have := rdL_ext x r b hx
    rw [e0] at this ⊢; rw [rdP_cons, rdP_cons]; rw [if_neg c0, if_neg c0, if_pos c1, if_pos (p1.trans c1)]; exact this
  by_cases c2 : ([47, 42] : List UInt8).isPrefixOf (x :: r) = true
  · obtain ⟨y, r', rfl⟩ : ∃ y r', r = y :: r' := by
      rcases r with _ | ⟨y, r'⟩
      · simp [List.isPrefixOf] at c2
      · exact ⟨y, r', rfl⟩
    have := rdR_ext x y r' b
    rw [e0]; rw [rdP_cons, rdP_cons]; rw [if_neg c0, if_neg c0, if_neg c1, if_neg (show ¬ ([45, 45] : List UInt8).isPrefixOf (x :: (y :: r' ++ 10 :: b)) = true by rw [p1]; exact c1), if_pos c2, if_pos (p2.trans c2)]; exact this
  have c1' : ¬ ([45, 45] : List UInt8).isPrefixOf (x :: (r ++ 10 :: b)) = true := by rw [p1]; exact c1
  have c2' : ¬ ([47, 42] : List UInt8).isPrefixOf (x :: (r ++ 10 :: b)) = true := by rw [p2]; exact c2
  rw [e0]
  rw [rdP_cons, rdP_cons]
  rw [if_neg c0, if_neg c0, if_neg c1, if_neg c1', if_neg c2, if_neg c2']
  by_cases c3 : isL x = true
  · rw [if_pos c3, if_pos c3]; exact rdW_ext x r b c3
  by_cases c4 : isD x = true
  · rw [if_neg c3, if_neg c3, if_pos c4, if_pos c4]; exact rdN_ext x r b c4
  rw [if_neg c3, if_neg c3, if_neg c4, if_neg c4]
  by_cases c5 : x = 34
  · rw [if_pos c5, if_pos c5]; exact rdQ_ext x r b hx'
  by_cases c6 : x = 39
  · rw [if_neg c5, if_neg c5, if_pos c6, if_pos c6]; exact rdT_ext x r b hx'
  by_cases c7 : x = 58
  · rw [if_neg c5, if_neg c5, if_neg c6, if_neg c6, if_pos c7, if_pos c7]; exact rdM_ext x r b
  rw [if_neg c5, if_neg c5, if_neg c6, if_neg c6, if_neg c7, if_neg c7]
  have := rdS_ext (x :: r) b
  simpa using this
theorem rdP_nil : rdP [] = pcT 0 6 [] := rfl
theorem rdP_size {x : UInt8} {r : List UInt8} (h : (rdP (x :: r)).why = 0) : (rdP (x :: r)).size ≤ r.length + 1 ∧ 1 ≤ (rdP (x :: r)).size := (rdP_ext x r [] h).2
end Go.Proofs.YtfcolecglobcdaaGreatDoor
