/-
  Blanks and remarks ahead of tokens change nothing but places.
-/
import Derived.Test.YtclekihmhicpaaaGreatDoorLqD
namespace Go.Proofs.YtclekihmhicpaaaGreatDoor
open Go.RowKit Go.Shelf

/-- tokens but for places, and what is wrong -/
def tb (r : List UInt8) : List (Int × List UInt8 × Va) × Int := ((scn (r.length + 1) 0 1 1 r).l.map bare, (scn (r.length + 1) 0 1 1 r).why)
theorem tb_any (f p a b : Nat) (r : List UInt8) (hf : r.length < f) : ((scn f p a b r).l.map bare, (scn f p a b r).why) = tb r := by
  unfold tb
  rw [scn_fuel f (r.length + 1) p a b r hf (by omega)]
  obtain ⟨h1, h2⟩ := scn_bare (r.length + 1) p a b 0 1 1 r
  rw [h1, h2]
theorem tb_nil : tb [] = ([(6, [], v0)], 0) := rfl
theorem tb_bad {r : List UInt8} (h : (rdP r).why ≠ 0) : (tb r).2 ≠ 0 := by
  unfold tb
  rw [scn_bad _ _ _ _ _ h]; exact h
theorem tb_skip {x : UInt8} {r : List UInt8} (h : (rdP (x :: r)).why = 0) (hk : (rdP (x :: r)).kind = 0) : tb (x :: r) = tb ((x :: r).drop (rdP (x :: r)).size) := by
  obtain ⟨h1, h2⟩ := rdP_size h
  show ((scn ((x :: r).length + 1) 0 1 1 (x :: r)).l.map bare, (scn ((x :: r).length + 1) 0 1 1 (x :: r)).why) = _
  rw [scn_skip _ _ _ _ _ h hk]
  exact tb_any _ _ _ _ _ (by simp; omega)
theorem tb_tell {x : UInt8} {r : List UInt8} (h : (rdP (x :: r)).why = 0) (hk : (rdP (x :: r)).kind ≠ 0) : tb (x :: r) = (((rdP (x :: r)).kind, (rdP (x :: r)).text, (rdP (x :: r)).v) :: (tb ((x :: r).drop (rdP (x :: r)).size)).1, (tb ((x :: r).drop (rdP (x :: r)).size)).2) := by
  obtain ⟨h1, h2⟩ := rdP_size h
  have h6 : (rdP (x :: r)).kind ≠ 6 := fun e => by have := (rdP_end h).1 e; simp at this
  show ((scn ((x :: r).length + 1) 0 1 1 (x :: r)).l.map bare, (scn ((x :: r).length + 1) 0 1 1 (x :: r)).why) = _
  rw [scn_tell _ _ _ _ _ h hk h6]
  have e := tb_any ((x :: r).length) (0 + (rdP (x :: r)).size) (beh 1 1 ((x :: r).take (rdP (x :: r)).size)).1 (beh 1 1 ((x :: r).take (rdP (x :: r)).size)).2 ((x :: r).drop (rdP (x :: r)).size) (by simp; omega)
  rw [← e]; rfl
def bx3 : List UInt8 := [47, 42, 32, 195, 169, 32, 42, 47]
def bx4 : List UInt8 := [32, 45, 45, 39, 10]
def okX (x : List UInt8) : Prop := x = [] ∨ x = [32] ∨ x = [10] ∨ x = bx3 ∨ x = bx4
theorem rdP_blank {x : UInt8} (r : List UInt8) (h : 0 ≤ Lib.indexByte [32, 9, 10, 13] x) : rdP (x :: r) = pcT 1 0 [] := by rw [rdP_cons, if_pos h]
theorem tb_blank {x : UInt8} (r : List UInt8) (h : 0 ≤ Lib.indexByte [32, 9, 10, 13] x) : tb (x :: r) = tb r := by
  have e := rdP_blank r h
  rw [tb_skip (by rw [e]; rfl) (by rw [e]; rfl), e]; rfl
theorem tb_pass {x : List UInt8} (hx : okX x) (R : List UInt8) : tb (x ++ R) = tb R := by
  rcases hx with rfl | rfl | rfl | rfl | rfl
  · rfl
  · exact tb_blank R (by decide)
  · exact tb_blank R (by decide)
  · have w1 : (rdR (bx3 ++ [])).why = 0 := by first | rfl | decide
    have w2 : (rdR (bx3 ++ [])).size = 8 := by first | rfl | decide
    have w3 : (rdR (bx3 ++ [])).kind = 0 := by first | rfl | decide
    obtain ⟨i1, i2⟩ := rdR_loc bx3 [] R (by decide) w1 w2
    have hb : bx3 ++ R = 47 :: ([42, 32, 195, 169, 32, 42, 47] ++ R) := rfl
    rw [hb] at i1 i2 ⊢
    generalize rdR (bx3 ++ []) = P at *
    generalize hQ : ([42, 32, 195, 169, 32, 42, 47] ++ R : List UInt8) = Q at *
    have c1 : ¬ ([45, 45] : List UInt8).isPrefixOf (47 :: Q) = true := by simp [List.isPrefixOf]
    have e : rdP (47 :: Q) = P := by
      rw [rdP_cons, if_neg (by decide), if_neg c1, if_pos i1]; exact i2
    rw [tb_skip (by rw [e]; exact w1) (by rw [e]; exact w3), e, w2, List.drop_succ_cons, ← hQ]
    rfl
  · have w1 : (rdP [45, 45, 39]).why = 0 := by first | rfl | decide
    have w2 : (rdP [45, 45, 39]).size = 3 := by first | rfl | decide
    have w3 : (rdP [45, 45, 39]).kind = 0 := by first | rfl | decide
    obtain ⟨e, _⟩ := rdP_ext 45 [45, 39] R w1
    have hb : bx4 ++ R = 32 :: (45 :: ([45, 39] ++ 10 :: R)) := rfl
    rw [hb, tb_blank _ (by decide)]
    have e' : rdP (45 :: ([45, 39] ++ 10 :: R)) = rdP [45, 45, 39] := e
    rw [tb_skip (by rw [e']; exact w1) (by rw [e']; exact w3), e', w2]
    exact tb_blank R (by decide)
theorem rdP_line {r : List UInt8} (c : ([45, 45] : List UInt8).isPrefixOf r = true) : rdP r = rdL r := by
  rcases r with _ | ⟨x, r⟩
  · simp [List.isPrefixOf] at c
  · have hx : x = 45 := by
      simp only [List.isPrefixOf, Bool.and_eq_true, beq_iff_eq] at c
      exact c.1.symm
    subst hx
    rw [rdP_cons, if_neg (by decide), if_pos c]
theorem rdL_kind (r : List UInt8) : (rdL r).kind = 0 := by
  unfold rdL rdA; split <;> rfl
theorem index_nl : ∀ l : List UInt8, (10 : UInt8) ∉ l → Lib.index l [10] = -1
  | [], _ => by decide
  | x :: l, h => by
    have hx : ¬ x = 10 := fun e => h (by simp [e])
    rw [Lib.index, if_neg (by simp only [List.isPrefixOf, Bool.and_true, beq_iff_eq]; exact fun e => hx e.symm), index_nl l (fun e => h (List.mem_cons_of_mem _ e))]; rfl
theorem index_nl_mem : ∀ l : List UInt8, Lib.index l [10] < 0 → (10 : UInt8) ∉ l
  | [], _ => by simp
  | x :: l, h => by
    have hg := Lib.index_ge l [10]
    by_cases hx : x = 10
    · subst hx
      rw [Lib.index, if_pos (by simp [List.isPrefixOf])] at h
      exact absurd h (by decide)
    · rw [Lib.index, if_neg (by simp only [List.isPrefixOf, Bool.and_true, beq_iff_eq]; exact fun e => hx e.symm)] at h
      have hm : Lib.index l [10] = -1 := by
        by_cases e : Lib.index l [10] = -1
        · exact e
        · rw [if_neg (by simpa using e)] at h; omega
      have ih := index_nl_mem l (by omega)
      simp only [List.mem_cons, not_or]
      exact ⟨fun e => hx e.symm, ih⟩
theorem cut_whole {l : List UInt8} (h : (10 : UInt8) ∉ l) : (Lib.cut l [10]).1 = l := by
  unfold Lib.cut
  rw [index_nl l h, if_neg (by decide)]
theorem cut_all {l : List UInt8} (h : (Lib.cut l [10]).1.length = l.length) : (10 : UInt8) ∉ l := by
  apply index_nl_mem
  rcases Int.lt_or_le (Lib.index l [10]) 0 with h0 | h0
  · exact h0
  · exfalso
    unfold Lib.cut at h
    rw [if_pos h0] at h
    have hr := Lib.index_room l [10] h0
    have h1 : ([10] : List UInt8).length = 1 := rfl
    simp only [List.length_take] at h
    omega
theorem pre_app {g r : List UInt8} (b : List UInt8) (h : g.isPrefixOf r = true) : g.isPrefixOf (r ++ b) = true := by
  rw [List.isPrefixOf_iff_prefix] at h ⊢
  exact h.trans ⟨b, rfl⟩
theorem tb_line {p : List UInt8} (c : ([45, 45] : List UInt8).isPrefixOf p = true) (hn : (10 : UInt8) ∉ p) (hg : badA p < 0) : tb p = tb [] ∧ tb (p ++ [10]) = tb [] := by
  have e1 : rdP p = ⟨p.length, 0, [], v0, 0, 0⟩ := by
    rw [rdP_line c]; unfold rdL rdA
    rw [cut_whole hn, if_neg (by omega)]
  obtain ⟨x, r, rfl⟩ : ∃ x r, p = x :: r := by
    rcases p with _ | ⟨x, r⟩
    · simp [List.isPrefixOf] at c
    · exact ⟨x, r, rfl⟩
  have w1 : (rdP (x :: r)).why = 0 := by rw [e1]
  have w3 : (rdP (x :: r)).kind = 0 := by rw [e1]
  refine ⟨?_, ?_⟩
  · rw [tb_skip w1 w3, e1]; simp
  · obtain ⟨e, _⟩ := rdP_ext x r [] w1
    have e' : rdP (x :: (r ++ [10])) = rdP (x :: r) := e
    show tb (x :: (r ++ [10])) = _
    rw [tb_skip (by rw [e']; exact w1) (by rw [e']; exact w3), e', e1]
    have : (x :: (r ++ [10])).drop (x :: r).length = [10] := by
      rw [← List.cons_append, List.drop_left]
    simp only [this]
    exact tb_blank [] (by decide)
theorem line_end {p x : List UInt8} (hx : okX x) (c : ([45, 45] : List UInt8).isPrefixOf p = true) (h : (rdP p).why = 0) (hs : (rdP p).size = p.length) : tb (p ++ x) = tb [] := by
  rw [rdP_line c] at h hs
  obtain ⟨h1, h2⟩ := rdA_gd h
  have hn : (10 : UInt8) ∉ p := cut_all (by rw [← hs]; exact h2.symm)
  rw [cut_whole hn] at h1
  have key : ∀ y : List UInt8, (10 : UInt8) ∉ y → badA y < 0 → tb (p ++ y) = tb [] ∧ tb ((p ++ y) ++ [10]) = tb [] := by
    intro y hy hg
    refine tb_line (pre_app y c) ?_ (gd_app p y h1 hg)
    rw [List.mem_append, not_or]; exact ⟨hn, hy⟩
  rcases hx with rfl | rfl | rfl | rfl | rfl
  · rw [List.append_nil]; exact (tb_line c hn h1).1
  · exact (key [32] (by decide) (by decide)).1
  · exact (tb_line c hn h1).2
  · exact (key bx3 (by decide) (by decide)).1
  · have := (key [32, 45, 45, 39] (by decide) (by decide)).2
    rw [List.append_assoc] at this
    exact this
/-- the text with something ahead of each token -/
def ins (x : Nat → List UInt8) : Nat → Nat → List UInt8 → List UInt8
  | 0, _, _ => []
  | f + 1, i, r => if r = [] then x i else if (rdP r).kind = 0 then r.take (rdP r).size ++ ins x f i (r.drop (rdP r).size) else x i ++ (r.take (rdP r).size ++ ins x f (i + 1) (r.drop (rdP r).size))
theorem nx_okX {x : List UInt8} (hx : okX x) (V R : List UInt8) (hV : V.head? ≠ some 10) (h0 : x = [] → Nx V R) : Nx V (x ++ R) := by
  rcases hx with rfl | rfl | rfl | rfl | rfl
  · exact h0 rfl
  · exact Nx.new (Or.inl rfl) hV
  · exact Nx.new (Or.inr (Or.inl rfl)) hV
  · exact Nx.new (Or.inr (Or.inr rfl)) hV
  · exact Nx.new (Or.inl rfl) hV
theorem ins_tb (x : Nat → List UInt8) (hx : ∀ i, okX (x i)) : ∀ (f i : Nat) (r : List UInt8), r.length < f → (tb r).2 = 0 → Nx r (ins x f i r) ∧ tb (ins x f i r) = tb r
  | 0, _, r, h, _ => absurd h (by omega)
  | f + 1, i, r, hf, hw => by
    rcases r with _ | ⟨c, r⟩
    · rw [ins, if_pos rfl]
      have h1 := nx_okX (hx i) [] [] (by simp) (fun _ => Nx.refl _)
      have h2 := tb_pass (hx i) []
      rw [List.append_nil] at h1 h2
      exact ⟨h1, h2⟩
    · have h : (rdP (c :: r)).why = 0 := by
        by_cases e : (rdP (c :: r)).why = 0
        · exact e
        · exact absurd hw (tb_bad e)
      obtain ⟨s1, s2⟩ := rdP_size h
      obtain ⟨n, hn⟩ : ∃ n, (rdP (c :: r)).size = n + 1 := ⟨(rdP (c :: r)).size - 1, by omega⟩
      have hp : (c :: r).take (rdP (c :: r)).size = c :: r.take n := by rw [hn, List.take_succ_cons]
      have hd : (c :: r).drop (rdP (c :: r)).size = r.drop n := by rw [hn, List.drop_succ_cons]
      obtain ⟨p, hpe⟩ : ∃ p, r.take n = p := ⟨_, rfl⟩
      obtain ⟨V, hVe⟩ : ∃ V, r.drop n = V := ⟨_, rfl⟩
      have hr : r = p ++ V := by rw [← hpe, ← hVe, List.take_append_drop]
      have hl : p.length = n := by rw [← hpe, List.length_take]; omega
      have hVl : V.length < f := by rw [← hVe, List.length_drop]; simp at hf; omega
      rw [ins, if_neg (by simp), hp, hd, hpe, hVe]
      have hs : (rdP (c :: (p ++ V))).size = p.length + 1 := by rw [← hr, hl]; exact hn
      have h' : (rdP (c :: (p ++ V))).why = 0 := by rw [← hr]; exact h
      by_cases hk : (rdP (c :: r)).kind = 0
      · rw [if_pos hk]
        have hsk := tb_skip h hk
        rw [hd, hVe] at hsk
        rw [hsk] at hw
        obtain ⟨i1, i2⟩ := ins_tb x hx f i V hVl hw
        refine ⟨?_, ?_⟩
        · have := i1.app (c :: p)
          rw [List.cons_append, ← hr] at this
          exact this
        · rw [hsk]
          by_cases hc : ([45, 45] : List UInt8).isPrefixOf (c :: (p ++ V)) = true ∧ V = []
          · obtain ⟨hc, hv⟩ := hc
            rw [hv] at hc h' hs ⊢
            rw [List.append_nil] at hc h' hs
            obtain ⟨f', rfl⟩ : ∃ f', f = f' + 1 := ⟨f - 1, by simp at hf; omega⟩
            rw [ins, if_pos rfl]
            exact line_end (hx i) hc h' (by rw [hs]; simp)
          · have hloc := rdP_loc c p V (ins x f i V) h' hs i1 (fun e1 e2 => hc ⟨e1, e2⟩)
            have e' : rdP (c :: (p ++ ins x f i V)) = rdP (c :: r) := by rw [hloc, ← hr]
            rw [List.cons_append, tb_skip (by rw [e']; exact h) (by rw [e']; exact hk), e', hn, List.drop_succ_cons, ← hl, List.drop_left]
            exact i2
      · rw [if_neg hk]
        have hsk := tb_tell h hk
        rw [hd, hVe] at hsk
        rw [hsk] at hw
        obtain ⟨i1, i2⟩ := ins_tb x hx f (i + 1) V hVl hw
        have hloc := rdP_loc c p V (ins x f (i + 1) V) h' hs i1 (fun e1 _ => hk (by rw [hr, rdP_line e1]; exact rdL_kind _))
        have e' : rdP (c :: (p ++ ins x f (i + 1) V)) = rdP (c :: r) := by rw [hloc, ← hr]
        refine ⟨?_, ?_⟩
        · refine nx_okX (hx i) _ _ ?_ (fun _ => ?_)
          · intro e
            simp at e
            subst e
            exact hk (by rw [rdP_blank r (by decide)]; rfl)
          · have := i1.app (c :: p)
            rw [List.cons_append, ← hr] at this
            exact this
        · rw [tb_pass (hx i), hsk, List.cons_append, tb_tell (by rw [e']; exact h) (by rw [e']; exact hk), e', hn, List.drop_succ_cons, ← hl, List.drop_left, i2]
/-- the same, as the statement's loop builds it -/
def bld (s : List UInt8) (x : Nat → List UInt8) : Nat → Nat → List Tk → List UInt8
  | from', _, [] => s.drop from'
  | from', i, t :: L => (s.drop from').take (t.pos - from') ++ (x i ++ bld s x t.pos (i + 1) L)
theorem scn_bld (s : List UInt8) (x : Nat → List UInt8) : ∀ (f from' i a b : Nat) (pre r : List UInt8), r.length < f → s = pre ++ r → from' ≤ pre.length → (scn f pre.length a b r).why = 0 →
    bld s x from' i (scn f pre.length a b r).l = (s.drop from').take (pre.length - from') ++ ins x f i r
  | 0, _, _, _, _, _, r, h, _, _, _ => absurd h (by omega)
  | f + 1, from', i, a, b, pre, r, hf, hs, hfr, hw => by
    by_cases h : (rdP r).why = 0
    · rcases r with _ | ⟨c, r⟩
      · rw [scn_nil, ins, if_pos rfl]
        have : s.drop pre.length = [] := by subst hs; simp
        simp only [bld, this, List.append_nil]
      · obtain ⟨h1, h2⟩ := rdP_size h
        have hl : ((c :: r).take (rdP (c :: r)).size).length = (rdP (c :: r)).size := by rw [List.length_take]; simp; omega
        have hdl : ((c :: r).drop (rdP (c :: r)).size).length < f := by simp at hf ⊢; omega
        have hs2 : s = (pre ++ (c :: r).take (rdP (c :: r)).size) ++ (c :: r).drop (rdP (c :: r)).size := by rw [List.append_assoc, List.take_append_drop]; exact hs
        have hdr : s.drop pre.length = c :: r := by subst hs; simp
        rw [ins, if_neg (by simp)]
        by_cases hk : (rdP (c :: r)).kind = 0
        · rw [scn_skip f _ _ _ _ h hk] at hw ⊢
          rw [if_pos hk]
          have ih := scn_bld s x f from' i (beh a b ((c :: r).take (rdP (c :: r)).size)).1 (beh a b ((c :: r).take (rdP (c :: r)).size)).2 _ _ hdl hs2 (by rw [List.length_append]; omega)
          rw [List.length_append, hl] at ih
          rw [ih hw, show pre.length + (rdP (c :: r)).size - from' = (pre.length - from') + (rdP (c :: r)).size by omega, List.take_add, List.drop_drop, show from' + (pre.length - from') = pre.length by omega, hdr, List.append_assoc]
        · have h6 : (rdP (c :: r)).kind ≠ 6 := fun e => by have := (rdP_end h).1 e; simp at this
          rw [scn_tell f _ _ _ _ h hk h6] at hw ⊢
          rw [if_neg hk]
          have ih := scn_bld s x f pre.length (i + 1) (beh a b ((c :: r).take (rdP (c :: r)).size)).1 (beh a b ((c :: r).take (rdP (c :: r)).size)).2 _ _ hdl hs2 (by rw [List.length_append]; omega)
          rw [List.length_append, hl] at ih
          have ih2 := ih hw
          rw [Nat.add_sub_cancel_left, hdr] at ih2
          show _ ++ (x i ++ bld s x pre.length (i + 1) _) = _
          rw [ih2]
    · rw [scn_bad f _ _ _ r h] at hw; exact absurd hw h
/-- blanks and remarks ahead of each token change nothing but places -/
theorem bld_tks {s : List UInt8} {x : Nat → List UInt8} (hx : ∀ i, okX (x i)) (h : (tks s).why = 0) (hl : (bld s x 0 0 (tks s).l).length ≤ 65536) :
    (tks (bld s x 0 0 (tks s).l)).why = 0 ∧ (tks (bld s x 0 0 (tks s).l)).l.map bare = (tks s).l.map bare := by
  have h1 := tks_short (tks_len h)
  rw [h1] at h hl ⊢
  have hb := scn_bld s x (s.length + 1) 0 0 1 1 [] s (by omega) rfl (Nat.zero_le _) h
  have hb' : bld s x 0 0 (scn (s.length + 1) 0 1 1 s).l = ins x (s.length + 1) 0 s := by simpa using hb
  rw [hb'] at hl ⊢
  obtain ⟨_, e⟩ := ins_tb x hx (s.length + 1) 0 s (by omega) h
  rw [tks_short hl]
  have e1 : (scn ((ins x (s.length + 1) 0 s).length + 1) 0 1 1 (ins x (s.length + 1) 0 s)).l.map bare = (scn (s.length + 1) 0 1 1 s).l.map bare := congrArg Prod.fst e
  have e2 : (scn ((ins x (s.length + 1) 0 s).length + 1) 0 1 1 (ins x (s.length + 1) 0 s)).why = (scn (s.length + 1) 0 1 1 s).why := congrArg Prod.snd e
  exact ⟨e2.trans h, e1⟩
theorem scn_count : ∀ (f p a b : Nat) (r : List UInt8), (scn f p a b r).l.length ≤ f
  | 0, _, _, _, _ => by simp [scn]
  | f + 1, p, a, b, r => by
    rw [scn]
    split
    · simp
    split
    · simp
    split
    · have := scn_count f (p + (rdP r).size) (beh a b (r.take (rdP r).size)).1 (beh a b (r.take (rdP r).size)).2 (r.drop (rdP r).size)
      omega
    · have := scn_count f (p + (rdP r).size) (beh a b (r.take (rdP r).size)).1 (beh a b (r.take (rdP r).size)).2 (r.drop (rdP r).size)
      show (_ :: _).length ≤ _
      simp only [List.length_cons]; omega
theorem tks_count {s : List UInt8} (h : (tks s).why = 0) : (tks s).l.length ≤ s.length + 1 := by
  rw [tks_short (tks_len h)]; exact scn_count _ _ _ _ _
theorem scn_some : ∀ (f p a b : Nat) (r : List UInt8), r.length < f → (scn f p a b r).why = 0 → (scn f p a b r).l ≠ []
  | 0, _, _, _, _, h, _ => absurd h (by omega)
  | f + 1, p, a, b, r, hf, hw => by
    by_cases h : (rdP r).why = 0
    · rcases r with _ | ⟨c, r⟩
      · rw [scn_nil]; simp
      · obtain ⟨h1, h2⟩ := rdP_size h
        by_cases hk : (rdP (c :: r)).kind = 0
        · rw [scn_skip f _ _ _ _ h hk] at hw ⊢
          exact scn_some f _ _ _ _ (by simp at hf ⊢; omega) hw
        · have h6 : (rdP (c :: r)).kind ≠ 6 := fun e => by have := (rdP_end h).1 e; simp at this
          rw [scn_tell f _ _ _ _ h hk h6]
          intro e; cases e
    · rw [scn_bad f _ _ _ r h] at hw; exact absurd hw h
theorem tks_some {s : List UInt8} (h : (tks s).why = 0) : (tks s).l ≠ [] := by
  have e := tks_short (tks_len h)
  rw [e] at h ⊢; exact scn_some _ _ _ _ _ (by omega) h
end Go.Proofs.YtclekihmhicpaaaGreatDoor
