/-
  A piece stays what it is: all kinds.
-/
import Derived.Test.YtclekihmhicpaaaGreatDoorLqC
namespace Go.Proofs.YtclekihmhicpaaaGreatDoor
open Go.RowKit Go.Shelf

theorem cut_split : ∀ r : List UInt8, ∃ t : List UInt8, r = (Lib.cut r [10]).1 ++ t ∧ (t = [] ∨ t.head? = some 10) := by
  intro r
  induction r with
  | nil => exact ⟨[], by simp [Lib.cut, Lib.index], Or.inl rfl⟩
  | cons x r ih =>
    by_cases hx : x = 10
    · subst hx
      refine ⟨10 :: r, ?_, Or.inr rfl⟩
      simp [Lib.cut, Lib.index]
    · obtain ⟨t, h1, h2⟩ := ih
      refine ⟨t, ?_, h2⟩
      have e : Lib.index (x :: r) [10] = if Lib.index r [10] == -1 then -1 else Lib.index r [10] + 1 := by
        rw [Lib.index, if_neg]
        simp only [List.isPrefixOf, Bool.and_true, beq_iff_eq]
        exact fun e => hx e.symm
      have hg := Lib.index_ge r [10]
      unfold Lib.cut at h1 ⊢
      rw [e]
      by_cases hm : Lib.index r [10] = -1
      · rw [hm] at h1 ⊢
        rw [if_neg (by decide)] at h1
        rw [if_neg (by decide)]
        simp only at h1 ⊢
        rw [List.cons_append, ← h1]
      · have hne : (Lib.index r [10] == -1) = false := by rw [beq_eq_false_iff_ne]; exact hm
        rw [if_pos (by omega)] at h1
        rw [hne]
        simp only [Bool.false_eq_true, if_false]
        rw [if_pos (by omega)]
        simp only at h1 ⊢
        have ek : (Lib.index r [10] + 1).toNat = (Lib.index r [10]).toNat + 1 := by omega
        rw [ek, List.take_succ_cons, List.cons_append, ← h1]
theorem app_len {p q V t : List UInt8} (h : p ++ V = q ++ t) (hl : p.length = q.length) : p = q ∧ V = t := List.append_inj h hl
/-- a line remark with a line feed behind -/
theorem rdL_loc (p V U : List UInt8) (c : ([45, 45] : List UInt8).isPrefixOf (p ++ V) = true) (h : (rdL (p ++ V)).why = 0) (hs : (rdL (p ++ V)).size = p.length) (hx : Nx V U) (hV : V ≠ []) :
    ([45, 45] : List UInt8).isPrefixOf (p ++ U) = true ∧ rdL (p ++ U) = rdL (p ++ V) := by
  obtain ⟨t, e1, e2⟩ := cut_split (p ++ V)
  have hsz := (rdA_gd h).2
  have hl : p.length = (Lib.cut (p ++ V) [10]).1.length := by rw [← hs]; exact hsz
  obtain ⟨_, rfl⟩ := app_len e1 hl
  have h10 : V.head? = some 10 := by
    rcases e2 with e | e
    · exact absurd e hV
    · exact e
  obtain ⟨V', rfl⟩ : ∃ V', V = 10 :: V' := by
    rcases V with _ | ⟨v, V⟩
    · simp at h10
    · simp at h10; subst h10; exact ⟨V, rfl⟩
  have u10 := hx.n h10
  obtain ⟨U', rfl⟩ : ∃ U', U = 10 :: U' := by
    rcases U with _ | ⟨v, U⟩
    · simp at u10
    · simp at u10; subst u10; exact ⟨U, rfl⟩
  refine ⟨?_, ?_⟩
  · rw [pre_ext U' [45, 45] p (by decide)]
    rw [pre_ext V' [45, 45] p (by decide)] at c
    exact c
  · unfold rdL
    rw [cut_ext, cut_ext]
theorem rdR_loc (p V U : List UInt8) (c : ([47, 42] : List UInt8).isPrefixOf (p ++ V) = true) (h : (rdR (p ++ V)).why = 0) (hs : (rdR (p ++ V)).size = p.length) :
    ([47, 42] : List UInt8).isPrefixOf (p ++ U) = true ∧ rdR (p ++ U) = rdR (p ++ V) := by
  unfold rdR at h hs
  by_cases h0 : Lib.index ((p ++ V).drop 2) [42, 47] < 0
  · rw [if_pos h0] at h; exact pcE_no (by decide) h
  rw [if_neg h0] at h hs
  have hsz := (rdA_gd h).2
  rw [hsz] at hs
  have hr := Lib.index_room ((p ++ V).drop 2) [42, 47] (by omega)
  have h3 : ([42, 47] : List UInt8).length = 2 := rfl
  have hl : (2 + (Lib.index ((p ++ V).drop 2) [42, 47]).toNat + 2) = p.length := by
    rw [← hs, List.length_take]
    rw [List.length_drop] at hr
    omega
  obtain ⟨a, b, q, rfl⟩ : ∃ a b q, p = a :: b :: q := by
    rcases p with _ | ⟨a, _ | ⟨b, q⟩⟩
    · simp at hl
    · simp at hl
    · exact ⟨a, b, q, rfl⟩
  have e1 : ∀ W : List UInt8, ((a :: b :: q) ++ W).drop 2 = q ++ W := fun W => rfl
  rw [e1] at h0 hl
  simp only [List.length_cons] at hl
  have i1 := index_cut V [42, 47] (by decide) q (by omega) (by omega)
  have i2 := index_ext V [42, 47] (by decide) q i1
  have i3 := index_ext U [42, 47] (by decide) q i1
  refine ⟨?_, ?_⟩
  · have : ∀ W : List UInt8, ([47, 42] : List UInt8).isPrefixOf ((a :: b :: q) ++ W) = ([47, 42] : List UInt8).isPrefixOf [a, b] := by intro W; simp [List.isPrefixOf]
    rw [this] at c ⊢
    exact c
  · unfold rdR
    rw [e1, e1, i2, i3]
    rw [i2] at hl
    rw [take_ext _ U _ (by simp only [List.length_cons]; omega), take_ext _ V _ (by simp only [List.length_cons]; omega)]
theorem rdQT_loc (q : UInt8) (hq : q = 34 ∨ q = 39) (p V U : List UInt8) (h : qsz (q :: (p ++ V)) = p.length + 1) (hx : Nx V U) : qsz (q :: (p ++ U)) = p.length + 1 ∧ inner (q :: (p ++ U)) = inner (q :: (p ++ V)) ∧ (q :: (p ++ U)).take (p.length + 1) = (q :: (p ++ V)).take (p.length + 1) := by
  have h0 : qz q (p ++ V) ≠ 0 ∧ qz q (p ++ V) = p.length := by
    rw [qsz] at h
    split at h
    · omega
    · rename_i e; exact ⟨e, by omega⟩
  have hp : p ≠ [] := by rintro rfl; exact h0.1 h0.2
  obtain ⟨i1, i2⟩ := qz_loc q V p hp h0.2
  have i3 := i2 U (hx.h q (by rcases hq with rfl | rfl <;> simp) i1)
  have h1 : qsz (q :: (p ++ U)) = p.length + 1 := by
    rw [qsz, i3, if_neg (by rw [← h0.2]; exact h0.1)]
  have ht : ∀ W : List UInt8, (q :: (p ++ W)).take (p.length + 1) = q :: p := by intro W; simp
  refine ⟨h1, ?_, by rw [ht, ht]⟩
  unfold inner
  rw [h, h1]
  have ht2 : ∀ W : List UInt8, (q :: (p ++ W)).take (p.length + 1 - 1) = (q :: p).take (p.length + 1 - 1) := by
    intro W
    rw [← List.cons_append, take_ext _ _ _ (by simp)]
  rw [ht2, ht2]
theorem nsz_loc (p V U : List UInt8) (h : nsz (p ++ V) = p.length) (hx : Nx V U) : dsz (p ++ U) = dsz (p ++ V) ∧ fsz ((p ++ U).drop (dsz (p ++ U))) = fsz ((p ++ V).drop (dsz (p ++ V))) ∧ dsz (p ++ V) ≤ p.length := by
  unfold nsz at h
  split at h
  · rename_i hf
    obtain ⟨i1, i2⟩ := dsz_loc V p h
    have i3 := i2 U (hx.d i1)
    rw [i3, h] 
    rw [h, List.drop_left] at hf
    refine ⟨rfl, ?_, Nat.le_refl _⟩
    rw [List.drop_left, List.drop_left, hf, hx.f hf]
  · rename_i hf
    have hlt : dsz (p ++ V) ≤ p.length := by omega
    obtain ⟨d, hd⟩ : ∃ d, dsz (p ++ V) = d := ⟨_, rfl⟩
    rw [hd] at h hf hlt
    rw [drop_ext _ _ _ hlt] at h hf
    obtain ⟨p1, hp1⟩ : ∃ p1, p.take d = p1 := ⟨_, rfl⟩
    obtain ⟨p2, hp2⟩ : ∃ p2, p.drop d = p2 := ⟨_, rfl⟩
    have hpp : p = p1 ++ p2 := by rw [← hp1, ← hp2, List.take_append_drop]
    have hl1 : p1.length = d := by rw [← hp1, List.length_take]; omega
    rw [hp2] at h hf
    rw [hd]
    clear hp1 hp2
    subst hpp
    rcases p2 with _ | ⟨c, p3⟩
    · rw [List.append_nil] at h
      omega
    have hc : c = 46 := by
      by_cases e : c = 46
      · exact e
      · rw [List.cons_append, fsz, if_neg e] at hf; exact absurd rfl hf
    subst hc
    rw [List.cons_append, fsz, if_pos rfl] at h hf
    have h3 : dsz (p3 ++ V) = p3.length := by
      simp only [List.length_append, List.length_cons] at h
      omega
    obtain ⟨i1, i2⟩ := dsz_loc V p3 h3
    have i3 := i2 U (hx.d i1)
    have z : ∀ W : List UInt8, dsz (46 :: W) = 0 := fun W => (dsz_head 46 W).2 (by decide)
    rw [List.append_assoc] at hd
    obtain ⟨_, j2⟩ := dsz_loc ((46 :: p3) ++ V) p1 (by rw [hd, hl1])
    have j3 := j2 ((46 :: p3) ++ U) (z _)
    have hU : dsz (p1 ++ 46 :: p3 ++ U) = d := by rw [List.append_assoc, j3, hl1]
    refine ⟨hU, ?_, by simp; omega⟩
    rw [hU, List.append_assoc, List.append_assoc, ← hl1, List.drop_left, List.drop_left]
    show fsz (46 :: (p3 ++ U)) = fsz (46 :: (p3 ++ V))
    rw [fsz, fsz, if_pos rfl, if_pos rfl, i3, h3]
theorem rdN_loc (p V U : List UInt8) (h : (rdN (p ++ V)).why = 0) (hs : (rdN (p ++ V)).size = p.length) (hx : Nx V U) : rdN (p ++ U) = rdN (p ++ V) := by
  have hn : nsz (p ++ V) = p.length := by
    unfold rdN at h hs
    split at h
    · exact pcE_no (by decide) h
    · rename_i c; rw [if_neg c] at hs
      split at h
      · rename_i c; rw [if_pos c] at hs; exact hs
      · exact pcE_no (by decide) h
  obtain ⟨h1, h2, h3⟩ := nsz_loc p V U hn hx
  have h4 : nsz (p ++ U) = nsz (p ++ V) := by unfold nsz; rw [h2, h1]
  have h5 : numT (p ++ U) = numT (p ++ V) := by
    unfold numT
    rw [h4, h1, hn, take_ext p U _ h3, take_ext p V _ h3, List.take_left, List.take_left]
  unfold rdN
  rw [h2, h4, h5]
theorem rdW_loc (p V U : List UInt8) (hp : p ≠ []) (h : (rdW (p ++ V)).why = 0) (hs : (rdW (p ++ V)).size = p.length) (hx : Nx V U) : rdW (p ++ U) = rdW (p ++ V) := by
  have hn : wsz (p ++ V) = p.length := by
    unfold rdW at h hs
    split at h
    · exact pcE_no (by decide) h
    · rename_i c; rw [if_neg c] at hs; exact hs
  obtain ⟨i1, i2⟩ := wsz_loc V p hp hn
  have i3 := i2 U (hx.w i1)
  unfold rdW
  rw [hn, i3, List.take_left, List.take_left]
theorem rdM_loc (x : UInt8) (p V U : List UInt8) (h : (rdM (x :: (p ++ V))).why = 0) (hs : (rdM (x :: (p ++ V))).size = p.length + 1) (hx : Nx V U) : rdM (x :: (p ++ U)) = rdM (x :: (p ++ V)) := by
  have e1 : ∀ W : List UInt8, (x :: W).drop 1 = W := fun _ => rfl
  unfold rdM at h hs ⊢
  rw [e1] at h hs
  rw [e1, e1]
  split at h
  · exact pcE_no (by decide) h
  rename_i c
  rw [if_neg c] at hs
  have hn : wsz (p ++ V) = p.length := by
    have : 1 + wsz (p ++ V) = p.length + 1 := hs
    omega
  have hp : p ≠ [] := by
    rintro rfl
    exact c (Or.inl hn)
  obtain ⟨i1, i2⟩ := wsz_loc V p hp hn
  have i3 := i2 U (hx.w i1)
  rw [hn, i3, List.take_left, List.take_left]
theorem rdS_loc (x : UInt8) (p V U : List UInt8) (h : (rdS (x :: (p ++ V))).why = 0) (hs : (rdS (x :: (p ++ V))).size = p.length + 1) (hx : Nx V U) : rdS (x :: (p ++ U)) = rdS (x :: (p ++ V)) := by
  have hn : ssz (x :: (p ++ V)) = p.length + 1 := by
    unfold rdS at h hs
    split at h
    · exact pcE_no (by decide) h
    · rename_i c; rw [if_neg c] at hs; exact hs
  have hU := ssz_loc x p V U hn hx
  unfold rdS
  rw [hn, hU]
  have ht : ∀ W : List UInt8, (x :: (p ++ W)).take (p.length + 1) = x :: p := by intro W; simp
  rw [ht, ht]
theorem rdQ_loc (p V U : List UInt8) (h : (rdQ (34 :: (p ++ V))).why = 0) (hs : (rdQ (34 :: (p ++ V))).size = p.length + 1) (hx : Nx V U) : rdQ (34 :: (p ++ U)) = rdQ (34 :: (p ++ V)) := by
  have hn : qsz (34 :: (p ++ V)) = p.length + 1 := by
    have hq := qsz_le (34 :: (p ++ V))
    unfold rdQ at h hs
    split at h
    · exact pcE_no (by decide) h
    · rename_i c; rw [if_neg c] at hs
      split at h
      · exact pcE_no (by decide) h
      · rename_i c; rw [if_neg c] at hs
        rw [(rdA_gd h).2, List.length_take] at hs
        omega
  obtain ⟨h1, h2, h3⟩ := rdQT_loc 34 (Or.inl rfl) p V U hn hx
  unfold rdQ
  rw [hn, h1, h2, h3]
theorem rdT_loc (p V U : List UInt8) (h : (rdT (39 :: (p ++ V))).why = 0) (hs : (rdT (39 :: (p ++ V))).size = p.length + 1) (hx : Nx V U) : rdT (39 :: (p ++ U)) = rdT (39 :: (p ++ V)) := by
  have hn : qsz (39 :: (p ++ V)) = p.length + 1 := by
    have hq := qsz_le (39 :: (p ++ V))
    unfold rdT at h hs
    split at h
    · exact pcE_no (by decide) h
    · rename_i c; rw [if_neg c] at hs
      split at h
      · exact pcE_no (by decide) h
      · rename_i c; rw [if_neg c] at hs
        rw [(rdA_gd h).2, List.length_take] at hs
        omega
  obtain ⟨h1, h2, h3⟩ := rdQT_loc 39 (Or.inr rfl) p V U hn hx
  unfold rdT
  rw [hn, h1, h2, h3]
/-- a piece stays what it is -/
theorem rdP_loc (x : UInt8) (p V U : List UInt8) (h : (rdP (x :: (p ++ V))).why = 0) (hs : (rdP (x :: (p ++ V))).size = p.length + 1) (hx : Nx V U)
    (hl : ([45, 45] : List UInt8).isPrefixOf (x :: (p ++ V)) = true → V ≠ []) : rdP (x :: (p ++ U)) = rdP (x :: (p ++ V)) := by
  rw [rdP_cons] at h hs
  rw [rdP_cons, rdP_cons]
  by_cases c0 : 0 ≤ Lib.indexByte [32, 9, 10, 13] x
  · rw [if_pos c0, if_pos c0]
  rw [if_neg c0] at h hs
  rw [if_neg c0, if_neg c0]
  by_cases c1 : ([45, 45] : List UInt8).isPrefixOf (x :: (p ++ V)) = true
  · rw [if_pos c1] at h hs
    obtain ⟨i1, i2⟩ := rdL_loc (x :: p) V U c1 h hs hx (hl c1)
    rw [List.cons_append] at i1 i2
    rw [if_pos c1, if_pos i1]
    exact i2
  have d1 := pre2 (hx.h 45 (by simp)) c1
  rw [if_neg c1] at h hs
  rw [if_neg c1, if_neg d1]
  by_cases c2 : ([47, 42] : List UInt8).isPrefixOf (x :: (p ++ V)) = true
  · rw [if_pos c2] at h hs
    obtain ⟨i1, i2⟩ := rdR_loc (x :: p) V U c2 h hs
    rw [List.cons_append] at i1 i2
    rw [if_pos c2, if_pos i1]
    exact i2
  have d2 := pre2 (hx.h 42 (by simp)) c2
  rw [if_neg c2] at h hs
  rw [if_neg c2, if_neg d2]
  by_cases c3 : isL x = true
  · rw [if_pos c3] at h hs
    rw [if_pos c3, if_pos c3]
    exact rdW_loc (x :: p) V U (by simp) h hs hx
  rw [if_neg c3] at h hs
  rw [if_neg c3, if_neg c3]
  by_cases c4 : isD x = true
  · rw [if_pos c4] at h hs
    rw [if_pos c4, if_pos c4]
    exact rdN_loc (x :: p) V U h hs hx
  rw [if_neg c4] at h hs
  rw [if_neg c4, if_neg c4]
  by_cases c5 : x = 34
  · rw [if_pos c5] at h hs
    rw [if_pos c5, if_pos c5]
    subst c5
    exact rdQ_loc p V U h hs hx
  rw [if_neg c5] at h hs
  rw [if_neg c5, if_neg c5]
  by_cases c6 : x = 39
  · rw [if_pos c6] at h hs
    rw [if_pos c6, if_pos c6]
    subst c6
    exact rdT_loc p V U h hs hx
  rw [if_neg c6] at h hs
  rw [if_neg c6, if_neg c6]
  by_cases c7 : x = 58
  · rw [if_pos c7] at h hs
    rw [if_pos c7, if_pos c7]
    exact rdM_loc x p V U h hs hx
  rw [if_neg c7] at h hs
  rw [if_neg c7, if_neg c7]
  exact rdS_loc x p V U h hs hx
end Go.Proofs.YtclekihmhicpaaaGreatDoor
