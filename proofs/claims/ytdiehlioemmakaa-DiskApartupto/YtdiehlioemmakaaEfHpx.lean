/-
  The walk of lockstepref04's changes.
-/
import Derived.Test.YtdiehlioemmakaaUF
import Derived.Test.YtdiehlioemmakaaUE
namespace Go.Proofs.Ytdiehlioemmakaa
open Go.RowKit
variable {F : Nat → Prop}

def flat2 (us : List (Value × Value)) : List Value := us.flatMap fun u => [u.1, u.2]
theorem flat2_len : ∀ us : List (Value × Value), (flat2 us).length = us.length * 2
  | [] => rfl
  | u :: us => by
    show ([u.1, u.2] ++ flat2 us).length = _
    rw [List.length_append, flat2_len us, List.length_cons]; simp; omega
theorem flat2_app (a b : List (Value × Value)) : flat2 (a ++ b) = flat2 a ++ flat2 b := by simp [flat2]
theorem flat2_get : ∀ (us : List (Value × Value)) (i : Nat) (u : Value × Value), us[i]? = some u → (flat2 us)[i * 2]? = some u.1 ∧ (flat2 us)[i * 2 + 1]? = some u.2
  | [], i, u, h => by simp at h
  | x :: us, 0, u, h => by simp at h; subst h; exact ⟨rfl, rfl⟩
  | x :: us, i + 1, u, h => by
    simp at h
    have ih := flat2_get us i u h
    have e : flat2 (x :: us) = x.1 :: x.2 :: flat2 us := rfl
    rw [e]
    have e1 : (i + 1) * 2 = i * 2 + 1 + 1 := by omega
    rw [e1]
    exact ⟨by simpa using ih.1, by simpa using ih.2⟩
theorem flat2_in {w : World} {g o : Nat} {us : List (Value × Value)} (h : ∀ (i : Nat) u, us[i]? = some u → w.cell? ⟨g, o + i * 2, none⟩ = some u.1 ∧ w.cell? ⟨g, o + i * 2 + 1, none⟩ = some u.2) : ∀ j y, (flat2 us)[j]? = some y → w.cell? ((⟨g, o, none⟩ : Addr).add j) = some y := by
  intro j y hj
  have hl := (List.getElem?_eq_some_iff.1 hj).1
  rw [flat2_len] at hl
  have hv : us[j / 2]? = some us[j / 2] := List.getElem?_eq_getElem (by omega)
  obtain ⟨a1, a2⟩ := flat2_get us (j / 2) _ hv
  obtain ⟨b1, b2⟩ := h _ _ hv
  rw [add_plain]
  rcases (show j % 2 = 0 ∨ j % 2 = 1 by omega) with z | z
  · have e : j = j / 2 * 2 := by omega
    rw [e] at hj ⊢
    rw [a1] at hj; cases hj; exact b1
  · have e : j = j / 2 * 2 + 1 := by omega
    rw [e] at hj ⊢
    rw [a2] at hj; cases hj
    rw [← Nat.add_assoc]; exact b2
theorem nmInfo : (Try.prog.info? 95).map (fun i => (i.zero, i.size, i.bytes)) = some (some (.agg #[.slice none 0 0, .slice none 0 0]), 2, 48) := by kernel_rfl
theorem nmSlice : Try.prog.underlying 74 = some (.slice 95) := by kernel_rfl
/-- elements of two cells at the end of a row of one's own, as a step -/
theorem step_two (sl el : TypeId) (zv : Value) (by' : Nat) (hsl : Try.prog.underlying sl = some (.slice el)) (hinf : (Try.prog.info? el).map (fun i => (i.zero, i.size, i.bytes)) = some (some zv, 2, by')) (hz1 : zv.cells.size = 2)
    {ops : Array Oper} {o : Oper} {a : Act} {w : World} {K : Act → World → Prop} {Q : Exit → Act → World → Prop} {E : Prop}
    (hgd : o.guard = none) (s x : Operand) (ho : o.op = .call { callee := .builtin .append, args := #[s, x], argTypes := #[sl, sl] })
    (base n m c : Nat) (v : Value) (xs news : List Value) (ad : Addr) (hs : a.eval s = v) (hown : w.ownsRow base el 2 v n xs)
    (hx : a.eval x = .slice (some ad) m c) (hm : news.length = m * 2) (hnews : ∀ j u, news[j]? = some u → w.cell? (ad.add j) = some u) (h1 : ∀ u ∈ news, u.oneCell' = true) (hl : n + m ≤ 10000000) (hb : base ≤ w.heap.size) (hby : by' ≤ 48)
    (h : ∀ v' w', w'.ownsRow base el 2 v' (n + m) (xs ++ news) → w.grownBy w' v.ownBlock → K (a.put o.dst v') w') :
    if Region.wanted o (yielded ops a.tmps) = true then Oper.wp Try.prog o a w K Q else E := by
  have hwd : Region.wanted o (yielded ops a.tmps) = true := by simp [Region.wanted, hgd]
  rw [if_pos hwd]
  obtain ⟨i0, hi, h0, h1', h2⟩ := info_parts hinf
  refine wp_append_own w s x sl ho base el i0 zv 2 by' hsl hi h0 h1' h2 hz1 (by decide) v n xs hs hown ad m c news hx hm hnews h1 (by unfold maxLen; omega) ?_ hb ?_
  · have : by' * (n + m) ≤ 48 * 10000000 := Nat.mul_le_mul hby hl
    rw [Nat.mul_comm]; omega
  · intro v' w' k1 k2 _
    exact h v' w' k1 k2
theorem cell_setH {w : World} {b o c j : Nat} {u v : Value} (hb : b ≠ c) (h : w.cell? ⟨b, o, none⟩ = some u) : (w.setCell ⟨c, j, none⟩ v).cell? ⟨b, o, none⟩ = some u := by
  have := heap_setCell_other w ⟨c, j, none⟩ b v hb
  unfold World.cell? at h ⊢
  simp only at h this ⊢
  rw [this]; exact h
theorem one_cells {w : World} {b : Nat} {x y : Value} {t : TypeId} (h : w.heap[b]? = some (.cells #[x, y] t (0, 0))) : ∀ j u, [x, y][j]? = some u → w.cell? ((⟨b, 0, none⟩ : Addr).add j) = some u := by
  intro j u hj
  rw [add_plain, Nat.zero_add]
  rcases j with _ | _ | j
  · simp at hj; subst hj; exact (Joins.cell_of_block h 0).trans rfl
  · simp at hj; subst hj; exact (Joins.cell_of_block h 1).trans rfl
  · simp at hj
theorem row_form2 {w : World} {base n : Nat} {e : TypeId} {v : Value} {xs : List Value} (h : w.ownsRow base e 2 v n xs) : ∃ P C, v = .slice P n C := by
  rcases h.2 with ⟨e, h0⟩ | ⟨g, cap, cur, e, _⟩
  · exact ⟨none, 0, by rw [e, h0]⟩
  · exact ⟨_, _, e⟩
theorem rd2_own {w : World} {base f n : Nat} {v : Value} {us : List (Value × Value)} {e : TypeId} (h : w.ownsRow base e 2 v n (flat2 us)) (hf : f < base) (hF : ∀ i, F i → i < base) : rd2 F w f v us := by
  have hl := h.1
  rw [flat2_len] at hl
  have hn : us.length = n := by omega
  rcases h.2 with ⟨rfl, h0⟩ | ⟨g, cap, cur, rfl, hg, _, hc, hm, _, _⟩
  · obtain rfl : us = [] := List.eq_nil_of_length_eq_zero (by omega)
    exact ⟨none, 0, rfl, Nat.zero_le _, by omega, fun _ => rfl, Or.inl rfl⟩
  · refine ⟨some ⟨g, 0, none⟩, cap, by rw [hn], by omega, by unfold maxLen at hm; omega, (fun e => by cases e), Or.inr ⟨g, 0, rfl, ⟨by omega, fun h => by have := hF g h; omega⟩, fun i u hi => ?_⟩⟩
    have hi2 := (List.getElem?_eq_some_iff.1 hi).1
    obtain ⟨a1, a2⟩ := flat2_get us i u hi
    rw [Nat.zero_add]
    exact ⟨(World.ownsRow.cellAt h (i * 2) (by omega)).trans a1, (World.ownsRow.cellAt h (i * 2 + 1) (by omega)).trans a2⟩
theorem row_set {w : World} {base e n f i : Nat} {v x : Value} {xs : List Value} (h : w.ownsRow base e 2 v n xs) (hf : f < base) : (w.setCell ⟨f, i, none⟩ x).ownsRow base e 2 v n xs := by
  refine (Chg.of_cell w ⟨f, i, none⟩ x).row h (fun g hg hh => ?_)
  have := own_ge h g hg
  simp only at hh
  omega
/-- one way more -/
theorem chg_mk {w W : World} {f n : Nat} {s : St} {x : Ws} {vF vW v : Value} {us : List (Value × Value)} {u1 u2 : Value} (fb : ∀ i, F i → i < w.heap.size) (hb : RB w f s.q s.left vF vW s.dead) (hF : listIn F (fileIn F) w f vF s.fs) (hl : us.length = s.ways.length)
    (hw : ∀ (i : Nat) (u : Value × Value) (x : Ws), us[i]? = some u → s.ways[i]? = some x → wayIn F w f u x) (hx : wayIn F w f (u1, u2) x) (hn : us.length = n) (k : Keep f w W) (hB : RB W f s.q s.left vF vW s.dead)
    (row : W.ownsRow (w.heap.size + 1) 95 2 v (n + 1) (flat2 us ++ [u1, u2])) :
    Rf F (W.setCell ⟨f, 2, none⟩ v) f { s with ways := s.ways ++ [x] } ∧ Keep f w (W.setCell ⟨f, 2, none⟩ v) := by
  have K : Keep f w (W.setCell ⟨f, 2, none⟩ v) := k.trans (Keep.set W f 2 v)
  have hf : f < w.heap.size + 1 := by have := lt_of_heap hb; omega
  have e : flat2 us ++ [u1, u2] = flat2 (us ++ [(u1, u2)]) := by rw [flat2_app]; rfl
  rw [e] at row
  refine ⟨⟨⟨vF, v, (hB.set).2.2.2 v, listIn.kept (R := fileIn F) (fun h k => fileIn.kept h k) hF K, us ++ [(u1, u2)], by simp [hl], rd2_own (row_set row hf) hf (fun i hi => by have := fb i hi; omega), fun i u y hu hy => ?_⟩, by simp, fun i hi => Nat.lt_of_lt_of_le (fb i hi) K.size⟩, K⟩
  rcases Nat.lt_or_ge i us.length with h | h
  · rw [List.getElem?_append_left h] at hu
    rw [List.getElem?_append_left (by omega)] at hy
    exact (hw i u y hu hy).kept K
  · rw [List.getElem?_append_right h] at hu
    rw [List.getElem?_append_right (by omega)] at hy
    have h0 : i - us.length = 0 := by
      have := (List.getElem?_eq_some_iff.1 hu).1
      simp at this; omega
    rw [h0] at hu
    rw [← hl, h0] at hy
    simp at hu hy
    subst hu hy
    exact hx.kept K
theorem rd1_one {w : World} {f : Nat} {v : Value} {us : List Value} (h : rd1 F w f v us) : ∃ p c, v = .slice p us.length c := by
  obtain ⟨p, c, e, _⟩ := h
  exact ⟨p, c, e⟩
theorem rd1_cell {w : World} {f : Nat} {v : Value} {us : List Value} (h : rd1 F w f v us) : v.oneCell' = true := by
  obtain ⟨p, c, e, _⟩ := h
  rw [e]; rfl
set_option maxHeartbeats 4000000 in
set_option maxRecDepth 1000000 in
theorem changes_more (f : Nat) (s : St) (x : Ws) (u1 u2 : Value) (w : World) (h : Rf F w f s) (hx : wayIn F w f (u1, u2) x) (hb : s.ways.length ≤ 9000000) :
    Calls Try.prog 68 #[.pointer (some ⟨f, 0, none⟩), .agg #[u1, u2]] w fun e w' => e = .returned (.tuple #[]) ∧ Rf F w' f { s with ways := s.ways ++ [x] } ∧ Keep f w w' ∧ w'.cell? ⟨f, 1, none⟩ = w.cell? ⟨f, 1, none⟩ := by
  obtain ⟨vF, vW, h1, hF, us, hl, ⟨p, c, rfl, _, _, _, hc⟩, hw⟩ := h.fs
  have hne : us ≠ [] := fun e => h.ne (List.eq_nil_of_length_eq_zero (by rw [← hl, e]; rfl))
  rcases hc with hc | ⟨g, o, rfl, hgf, hc⟩
  · exact absurd hc hne
  obtain ⟨pN, cN, e1⟩ := rd1_one hx.1
  obtain ⟨pI, cI, e2⟩ := rd1_one hx.2
  simp only at e1 e2
  subst e1 e2
  obtain ⟨n1, hn1⟩ : ∃ n, n = (x.map fun p => strV p.1).length := ⟨_, rfl⟩
  obtain ⟨n2, hn2⟩ : ∃ n, n = (x.map fun p => intV p.2).length := ⟨_, rfl⟩
  rw [← hn1, ← hn2] at hx ⊢
  obtain ⟨w0, hw0⟩ : ∃ y, y = w.alloc (.cells #[.slice pN n1 cN, .slice pI n2 cI] 95) := ⟨_, rfl⟩
  have k0 : Keep f w w0 := by rw [hw0]; exact Keep.alloc _
  have hB0 : w0.heap[w.heap.size]? = some (.cells #[.slice pN n1 cN, .slice pI n2 cI] 95 (0, 0)) := by rw [hw0]; exact heap_alloc_new _ _
  have sz0 : w0.heap.size = w.heap.size + 1 := by rw [hw0]; simp
  have bl0 : ∀ i, i < w.heap.size → w0.heap[i]? = w.heap[i]? := fun i hi => by rw [hw0]; exact Below.heap_alloc _ _ i hi
  have hfs := lt_of_heap h1
  have hF0 : RB w0 f s.q s.left vF (.slice (some ⟨g, o, none⟩) us.length c) s.dead := (bl0 f hfs).trans h1
  obtain ⟨_, _, cW, _, _, _⟩ := RB.c hF0
  have x0 : w0.cell? ⟨w.heap.size, 0, none⟩ = some (.slice pN n1 cN) := (Joins.cell_of_block hB0 0).trans rfl
  have x1 : w0.cell? ⟨w.heap.size, 1, none⟩ = some (.slice pI n2 cI) := (Joins.cell_of_block hB0 1).trans rfl
  have HL : Hid ((flat2 us).length = us.length * 2) := flat2_len us
  have hgs : g < w.heap.size := by
    obtain ⟨u, hu⟩ : ∃ u, us[0]? = some u := ⟨us[0]'(List.length_pos_iff.2 hne), List.getElem?_eq_getElem _⟩
    exact World.block_lt_of_cell? w _ (hc 0 u hu).1
  have hc0 : ∀ (i : Nat) u, us[i]? = some u → w0.cell? ⟨g, o + i * 2, none⟩ = some u.1 ∧ w0.cell? ⟨g, o + i * 2 + 1, none⟩ = some u.2 := fun i u hu => ⟨k0.cell hgf (hc i u hu).1, k0.cell hgf (hc i u hu).2⟩
  have HC : Hid (∀ j y, (flat2 us)[j]? = some y → w0.cell? ((⟨g, o, none⟩ : Addr).add j) = some y) := flat2_in hc0
  have HO : Hid (∀ u ∈ flat2 us, u.oneCell' = true) := by
    intro u hu
    obtain ⟨q, hq, hu⟩ := List.mem_flatMap.1 hu
    obtain ⟨i, hi, rfl⟩ := List.getElem_of_mem hq
    have hwi := hw i _ _ (List.getElem?_eq_getElem hi) (List.getElem?_eq_getElem (by omega))
    simp at hu
    rcases hu with rfl | rfl
    · exact rd1_cell hwi.1
    · exact rd1_cell hwi.2
  have HFIN : Hid (∀ W v, Below (w.heap.size + 1) w0 W → W.ownsRow (w.heap.size + 1) 95 2 v (us.length + 1) (flat2 us ++ [.slice pN n1 cN, .slice pI n2 cI]) → Rf F (W.setCell ⟨f, 2, none⟩ v) f { s with ways := s.ways ++ [x] } ∧ Keep f w (W.setCell ⟨f, 2, none⟩ v) ∧ (W.setCell ⟨f, 2, none⟩ v).cell? ⟨f, 1, none⟩ = w.cell? ⟨f, 1, none⟩) := fun W v bel row => by
    have hc := chg_mk h.fb h1 hF hl hw hx rfl (k0.trans ⟨bel.os, bel.tape, bel.output, bel.size, fun i hi _ => bel.block i (by omega)⟩) ((bel.block f (by omega)).trans hF0) row
    exact ⟨hc.1, hc.2, (RB.c ((RB.set ((bel.block f (by omega)).trans hF0)).2.2.2 v)).2.1.trans (RB.c h1).2.1.symm⟩
  have hM : us.length ≤ 9000000 := by omega
  generalize us.length = M at *
  clear h hx hw hc hc0 hF h1 hl hb hne k0 bl0 hgf hB0 hn1 hn2
  go_enter Try.func68, Try.ntmps68
  go_wp2_with fail
  rw [← hw0]
  clear hw0
  refine wp_region_noPanic ?_
  refine wp_region_G (S := SG 12 12 (fun w' => w'.cell? ⟨f, 2, none⟩ = some (.slice (some ⟨g, o, none⟩) M c)) (fun _ => True) (fun w' => w'.cell? ⟨w.heap.size, 0, none⟩ = some (.slice pN n1 cN) ∧ w'.cell? ⟨w.heap.size, 1, none⟩ = some (.slice pI n2 cI))) (by kernel_rfl) ⟨fun _ => cW, fun _ => trivial, x0, x1⟩ (fun hH => ?_)
  obtain ⟨wx, hwx⟩ : ∃ x, x = w0.drew := ⟨_, rfl⟩
  have bel0 : Below (w.heap.size + 1) w0 wx := by rw [hwx]; exact below_drewN (Below.refl _ w0) 1
  rw [← hwx] at hH ⊢
  clear hwx
  simp only [Array.replicate, List.size_toArray, List.length_cons, List.length_nil, List.replicate, Nat.zero_add, Nat.reduceAdd] at hH ⊢
  refine takeG (i := 0) (v := .pointer (some ⟨f, 0, none⟩)) [] rfl rfl (by kernel_rfl) (by kernel_rfl) (by kernel_rfl) (by kernel_rfl) (by kernel_rfl) (SG_set (by decide) (by decide)) (fun _ _ _ h => h) (Or.inl ⟨by rfl, ?_⟩) hH (fun hH => ?_)
  · intro w5 hSw; go_simp
  simp only [zA9, zB9, zC9] at hH ⊢
  refine takeG (i := 2) (v := .pointer (some ⟨f, 0, none⟩)) [] rfl rfl (by kernel_rfl) (by kernel_rfl) (by kernel_rfl) (by kernel_rfl) (by kernel_rfl) (SG_set (by decide) (by decide)) (fun _ _ _ h => h) (Or.inl ⟨by rfl, ?_⟩) hH (fun hH => ?_)
  · intro w5 hSw; go_simp
  simp only [zA9, zB9, zC9] at hH ⊢
  refine takeG (i := 3) (v := .pointer (some ⟨f, 0, none⟩)) [] rfl rfl (by kernel_rfl) (by kernel_rfl) (by kernel_rfl) (by kernel_rfl) (by kernel_rfl) (SG_set (by decide) (by decide)) (fun _ _ _ h => h) (Or.inl ⟨by rfl, ?_⟩) hH (fun hH => ?_)
  · intro w5 hSw; go_simp
  simp only [zA9, zB9, zC9] at hH ⊢
  refine takeG (i := 4) (v := .pointer (some ⟨f, 2, none⟩)) [] rfl rfl (by kernel_rfl) (by kernel_rfl) (by kernel_rfl) (by kernel_rfl) (by kernel_rfl) (SG_set (by decide) (by decide)) (fun _ _ _ h => h) (Or.inl ⟨by rfl, ?_⟩) hH (fun hH => ?_)
  · intro w5 hSw; go_simp
  simp only [zA9, zB9, zC9] at hH ⊢
  refine takeG (i := 5) (v := .slice (some ⟨g, o, none⟩) M c) [12] rfl rfl (by kernel_rfl) (by kernel_rfl) (by kernel_rfl) (by kernel_rfl) (by kernel_rfl) (SG_set (by decide) (by decide)) (fun _ _ _ h => h) (Or.inl ⟨by rfl, ?_⟩) hH (fun hH => ?_)
  · intro w5 hSw; obtain ⟨L5, hU5, hA5, _⟩ := hSw; have a5 := hA5 (hU5 _ (by simp)); go_simp
  simp only [zA9, zB9, zC9] at hH ⊢
  refine takeG (i := 7) (v := .agg #[.slice pN n1 cN, .slice pI n2 cI]) [] rfl rfl (by kernel_rfl) (by kernel_rfl) (by kernel_rfl) (by kernel_rfl) (by kernel_rfl) (SG_set (by decide) (by decide)) (fun _ _ _ h => h) (Or.inl ⟨by rfl, ?_⟩) hH (fun hH => ?_)
  · intro w5 hSw; obtain ⟨L5, hU5, hA5, _, e1, e2⟩ := hSw; go_simp
  simp only [zA9, zB9, zC9] at hH ⊢
  refine wpAnyG_ready (rs := [1, 8]) (by kernel_rfl) (by simp) ?_
  refine AllReadyG.cons rfl (fun K hK => ?_) (AllReadyG.cons rfl (fun K hK => ?_) AllReadyG.nil)
  · go_simp
    have bel_1 : Below (w.heap.size + 1) w0 (wx.alloc (.cells #[] 95)) := bel0.alloc (by have := bel0.size; omega) _
    have hb_1 : (wx.alloc (.cells #[] 95)).heap[wx.heap.size]? = some (.cells #[] 95 (0, 0)) := heap_alloc_new _ _
    have sz_1 : wx.heap.size + 1 ≤ (wx.alloc (.cells #[] 95)).heap.size := by simp
    have sw_1 := bel0.size
    refine hK.out _ _ ⟨fun _ => (bel_1.cell (p := ⟨f, 2, none⟩) (show f < w.heap.size + 1 by omega)).trans cW, fun _ => trivial, (bel_1.cell (p := ⟨w.heap.size, 0, none⟩) (show w.heap.size < w.heap.size + 1 by omega)).trans x0, (bel_1.cell (p := ⟨w.heap.size, 1, none⟩) (show w.heap.size < w.heap.size + 1 by omega)).trans x1⟩ (fun hH => ?_)
    clear hK K
    obtain ⟨w_1, hw_1⟩ : ∃ x, x = wx.alloc (.cells #[] 95) := ⟨_, rfl⟩
    rw [← hw_1] at bel_1 hb_1 sz_1  hH ⊢
    clear hw_1
    simp only [zA9, zB9, zC9] at hH ⊢
    refine wpAnyG_ready (rs := [6, 8]) (by kernel_rfl) (by simp) ?_
    refine AllReadyG.cons rfl (fun K hK => ?_) (AllReadyG.cons rfl (fun K hK => ?_) AllReadyG.nil)
    · have row_2 : w_1.ownsRow (w.heap.size + 1) 95 2 (.slice (some ⟨wx.heap.size, 0, none⟩) 0 0) 0 [] := ⟨rfl, Or.inr ⟨wx.heap.size, 0, #[], rfl, by omega, hb_1, Nat.le_refl _, by unfold maxLen; omega, rfl, rfl⟩⟩
      refine step_two 74 95 (.agg #[.slice none 0 0, .slice none 0 0]) 48 nmSlice nmInfo rfl rfl (.tmp 5) (.tmp 9) rfl (w.heap.size + 1) 0 M c (.slice (some ⟨wx.heap.size, 0, none⟩) 0 0) [] (flat2 us) ⟨g, o, none⟩ rfl row_2 rfl HL.out (fun j u hj => (bel_1.cell (p := (⟨g, o, none⟩ : Addr).add j) (show ((⟨g, o, none⟩ : Addr).add j).block < w.heap.size + 1 by rw [add_plain]; show g < _; omega)).trans (HC.out j u hj)) HO.out (by omega) (by have := bel_1.size; omega) (by decide) ?_
      intro v_2 w_2 hr_2 hg_2
      rw [Nat.zero_add, List.nil_append] at hr_2
      have bel_2 : Below (w.heap.size + 1) w0 w_2 := bel_1.trans (below_own hg_2 (by have := bel_1.size; omega) (own_ge row_2))
      obtain ⟨P_2, C_2, rfl⟩ := row_form2 hr_2
      refine hK.out _ _ ⟨fun _ => (bel_2.cell (p := ⟨f, 2, none⟩) (show f < w.heap.size + 1 by omega)).trans cW, fun _ => trivial, (bel_2.cell (p := ⟨w.heap.size, 0, none⟩) (show w.heap.size < w.heap.size + 1 by omega)).trans x0, (bel_2.cell (p := ⟨w.heap.size, 1, none⟩) (show w.heap.size < w.heap.size + 1 by omega)).trans x1⟩ (fun hH => ?_)
      clear hK K
      simp only [Act.put, List.setIfInBounds_toArray, List.set_cons_zero, List.set_cons_succ] at hH ⊢
      refine wpAnyG_ready (rs := [8]) (by kernel_rfl) (by simp) ?_
      refine AllReadyG.cons rfl (fun K hK => ?_) AllReadyG.nil
      go_simp
      have bel_3 : Below (w.heap.size + 1) w0 (w_2.alloc (.cells #[.slice pN n1 cN, .slice pI n2 cI] 95)) := bel_2.alloc (by have := bel_2.size; omega) _
      have hb_3 : (w_2.alloc (.cells #[.slice pN n1 cN, .slice pI n2 cI] 95)).heap[w_2.heap.size]? = some (.cells #[.slice pN n1 cN, .slice pI n2 cI] 95 (0, 0)) := heap_alloc_new _ _
      have sz_3 : w_2.heap.size + 1 ≤ (w_2.alloc (.cells #[.slice pN n1 cN, .slice pI n2 cI] 95)).heap.size := by simp
      have sw_3 := bel_2.size
      have hr_3 := World.ownsRow.alloc hr_2 (.cells #[.slice pN n1 cN, .slice pI n2 cI] 95)
      refine hK.out _ _ ⟨fun _ => (bel_3.cell (p := ⟨f, 2, none⟩) (show f < w.heap.size + 1 by omega)).trans cW, fun _ => trivial, (bel_3.cell (p := ⟨w.heap.size, 0, none⟩) (show w.heap.size < w.heap.size + 1 by omega)).trans x0, (bel_3.cell (p := ⟨w.heap.size, 1, none⟩) (show w.heap.size < w.heap.size + 1 by omega)).trans x1⟩ (fun hH => ?_)
      clear hK K
      obtain ⟨w_3, hw_3⟩ : ∃ x, x = w_2.alloc (.cells #[.slice pN n1 cN, .slice pI n2 cI] 95) := ⟨_, rfl⟩
      rw [← hw_3] at bel_3 hb_3 sz_3 hr_3 hH ⊢
      clear hw_3
      simp only [zA9, zB9, zC9] at hH ⊢
      refine wpAnyG_ready (rs := [9]) (by kernel_rfl) (by simp) ?_
      refine AllReadyG.cons rfl (fun K hK => ?_) AllReadyG.nil
      refine step_two 74 95 (.agg #[.slice none 0 0, .slice none 0 0]) 48 nmSlice nmInfo rfl rfl (.tmp 10) (.tmp 12) rfl (w.heap.size + 1) M 1 1 (.slice P_2 M C_2) (flat2 us) [.slice pN n1 cN, .slice pI n2 cI] ⟨w_2.heap.size, 0, none⟩ rfl hr_3 rfl rfl (one_cells hb_3) (by intro u hu; simp at hu; rcases hu with rfl | rfl <;> rfl) (by omega) (by have := bel_3.size; omega) (by decide) ?_
      intro v_4 w_4 hr_4 hg_4
      have bel_4 : Below (w.heap.size + 1) w0 w_4 := bel_3.trans (below_own hg_4 (by have := bel_3.size; omega) (own_ge hr_3))
      obtain ⟨P_4, C_4, rfl⟩ := row_form2 hr_4
      refine hK.out _ _ ⟨fun _ => (bel_4.cell (p := ⟨f, 2, none⟩) (show f < w.heap.size + 1 by omega)).trans cW, fun _ => trivial, (bel_4.cell (p := ⟨w.heap.size, 0, none⟩) (show w.heap.size < w.heap.size + 1 by omega)).trans x0, (bel_4.cell (p := ⟨w.heap.size, 1, none⟩) (show w.heap.size < w.heap.size + 1 by omega)).trans x1⟩ (fun hH => ?_)
      clear hK K
      simp only [Act.put, List.setIfInBounds_toArray, List.set_cons_zero, List.set_cons_succ] at hH ⊢
      refine takeG (i := 10) (v := .pointer (some ⟨f, 0, none⟩)) [] rfl rfl (by kernel_rfl) (by kernel_rfl) (by kernel_rfl) (by kernel_rfl) (by kernel_rfl) (SG_set (by decide) (by decide)) (fun _ _ _ h => h) (Or.inl ⟨by rfl, ?_⟩) hH (fun hH => ?_)
      · intro w5 hSw; go_simp
      simp only [zA9, zB9, zC9] at hH ⊢
      refine takeG (i := 11) (v := .pointer (some ⟨f, 2, none⟩)) [] rfl rfl (by kernel_rfl) (by kernel_rfl) (by kernel_rfl) (by kernel_rfl) (by kernel_rfl) (SG_set (by decide) (by decide)) (fun _ _ _ h => h) (Or.inl ⟨by rfl, ?_⟩) hH (fun hH => ?_)
      · intro w5 hSw; go_simp
      simp only [zA9, zB9, zC9] at hH ⊢
      have hF_4 : w_4.heap[f]? = _ := (bel_4.block f (by omega)).trans hF0
      have fin := HFIN.out _ _ bel_4 hr_4
      obtain ⟨_, _, c2_4, _, _, fr_4⟩ := RB.c hF_4
      have f2_4 := fr_4 2
      clear fr_4
      refine wpAnyG_ready (rs := [12]) (by kernel_rfl) (by simp) ?_
      refine AllReadyG.cons rfl (fun K hK => ?_) AllReadyG.nil
      go_simp
      refine hK.out _ _ ⟨fun h => by simp at h, fun _ => trivial, ?_⟩ (fun hH => ?_)
      · exact ⟨cell_setH (b := w.heap.size) (by omega) ((bel_4.cell (p := ⟨w.heap.size, 0, none⟩) (show w.heap.size < w.heap.size + 1 by omega)).trans x0), cell_setH (b := w.heap.size) (by omega) ((bel_4.cell (p := ⟨w.heap.size, 1, none⟩) (show w.heap.size < w.heap.size + 1 by omega)).trans x1)⟩
      refine wpAnyG_done (by kernel_rfl) ?_ _
      refine NoPanic.normal ?_
      go_wp2_with fail
      go_end0
      exact ⟨rfl, fin⟩
    · go_simp
      have bel_5 : Below (w.heap.size + 1) w0 (w_1.alloc (.cells #[.slice pN n1 cN, .slice pI n2 cI] 95)) := bel_1.alloc (by have := bel_1.size; omega) _
      have hb_5 : (w_1.alloc (.cells #[.slice pN n1 cN, .slice pI n2 cI] 95)).heap[w_1.heap.size]? = some (.cells #[.slice pN n1 cN, .slice pI n2 cI] 95 (0, 0)) := heap_alloc_new _ _
      have sz_5 : w_1.heap.size + 1 ≤ (w_1.alloc (.cells #[.slice pN n1 cN, .slice pI n2 cI] 95)).heap.size := by simp
      have sw_5 := bel_1.size
      have ho_5 := hAlloc hb_1 (.cells #[.slice pN n1 cN, .slice pI n2 cI] 95)
      refine hK.out _ _ ⟨fun _ => (bel_5.cell (p := ⟨f, 2, none⟩) (show f < w.heap.size + 1 by omega)).trans cW, fun _ => trivial, (bel_5.cell (p := ⟨w.heap.size, 0, none⟩) (show w.heap.size < w.heap.size + 1 by omega)).trans x0, (bel_5.cell (p := ⟨w.heap.size, 1, none⟩) (show w.heap.size < w.heap.size + 1 by omega)).trans x1⟩ (fun hH => ?_)
      clear hK K
      obtain ⟨w_5, hw_5⟩ : ∃ x, x = w_1.alloc (.cells #[.slice pN n1 cN, .slice pI n2 cI] 95) := ⟨_, rfl⟩
      rw [← hw_5] at bel_5 hb_5 sz_5 ho_5 hH ⊢
      clear hw_5
      simp only [zA9, zB9, zC9] at hH ⊢
      refine wpAnyG_ready (rs := [6]) (by kernel_rfl) (by simp) ?_
      refine AllReadyG.cons rfl (fun K hK => ?_) AllReadyG.nil
      have row_6 : w_5.ownsRow (w.heap.size + 1) 95 2 (.slice (some ⟨wx.heap.size, 0, none⟩) 0 0) 0 [] := ⟨rfl, Or.inr ⟨wx.heap.size, 0, #[], rfl, by omega, ho_5, Nat.le_refl _, by unfold maxLen; omega, rfl, rfl⟩⟩
      refine step_two 74 95 (.agg #[.slice none 0 0, .slice none 0 0]) 48 nmSlice nmInfo rfl rfl (.tmp 5) (.tmp 9) rfl (w.heap.size + 1) 0 M c (.slice (some ⟨wx.heap.size, 0, none⟩) 0 0) [] (flat2 us) ⟨g, o, none⟩ rfl row_6 rfl HL.out (fun j u hj => (bel_5.cell (p := (⟨g, o, none⟩ : Addr).add j) (show ((⟨g, o, none⟩ : Addr).add j).block < w.heap.size + 1 by rw [add_plain]; show g < _; omega)).trans (HC.out j u hj)) HO.out (by omega) (by have := bel_5.size; omega) (by decide) ?_
      intro v_6 w_6 hr_6 hg_6
      rw [Nat.zero_add, List.nil_append] at hr_6
      have bel_6 : Below (w.heap.size + 1) w0 w_6 := bel_5.trans (below_own hg_6 (by have := bel_5.size; omega) (own_ge row_6))
      have ho_6 : w_6.heap[w_1.heap.size]? = _ := (hg_6.block w_1.heap.size (lt_of_heap hb_5) (by simp [Value.ownBlock]; omega)).trans hb_5
      obtain ⟨P_6, C_6, rfl⟩ := row_form2 hr_6
      refine hK.out _ _ ⟨fun _ => (bel_6.cell (p := ⟨f, 2, none⟩) (show f < w.heap.size + 1 by omega)).trans cW, fun _ => trivial, (bel_6.cell (p := ⟨w.heap.size, 0, none⟩) (show w.heap.size < w.heap.size + 1 by omega)).trans x0, (bel_6.cell (p := ⟨w.heap.size, 1, none⟩) (show w.heap.size < w.heap.size + 1 by omega)).trans x1⟩ (fun hH => ?_)
      clear hK K
      simp only [Act.put, List.setIfInBounds_toArray, List.set_cons_zero, List.set_cons_succ] at hH ⊢
      refine wpAnyG_ready (rs := [9]) (by kernel_rfl) (by simp) ?_
      refine AllReadyG.cons rfl (fun K hK => ?_) AllReadyG.nil
      refine step_two 74 95 (.agg #[.slice none 0 0, .slice none 0 0]) 48 nmSlice nmInfo rfl rfl (.tmp 10) (.tmp 12) rfl (w.heap.size + 1) M 1 1 (.slice P_6 M C_6) (flat2 us) [.slice pN n1 cN, .slice pI n2 cI] ⟨w_1.heap.size, 0, none⟩ rfl hr_6 rfl rfl (one_cells ho_6) (by intro u hu; simp at hu; rcases hu with rfl | rfl <;> rfl) (by omega) (by have := bel_6.size; omega) (by decide) ?_
      intro v_7 w_7 hr_7 hg_7
      have bel_7 : Below (w.heap.size + 1) w0 w_7 := bel_6.trans (below_own hg_7 (by have := bel_6.size; omega) (own_ge hr_6))
      obtain ⟨P_7, C_7, rfl⟩ := row_form2 hr_7
      refine hK.out _ _ ⟨fun _ => (bel_7.cell (p := ⟨f, 2, none⟩) (show f < w.heap.size + 1 by omega)).trans cW, fun _ => trivial, (bel_7.cell (p := ⟨w.heap.size, 0, none⟩) (show w.heap.size < w.heap.size + 1 by omega)).trans x0, (bel_7.cell (p := ⟨w.heap.size, 1, none⟩) (show w.heap.size < w.heap.size + 1 by omega)).trans x1⟩ (fun hH => ?_)
      clear hK K
      simp only [Act.put, List.setIfInBounds_toArray, List.set_cons_zero, List.set_cons_succ] at hH ⊢
      refine takeG (i := 10) (v := .pointer (some ⟨f, 0, none⟩)) [] rfl rfl (by kernel_rfl) (by kernel_rfl) (by kernel_rfl) (by kernel_rfl) (by kernel_rfl) (SG_set (by decide) (by decide)) (fun _ _ _ h => h) (Or.inl ⟨by rfl, ?_⟩) hH (fun hH => ?_)
      · intro w5 hSw; go_simp
      simp only [zA9, zB9, zC9] at hH ⊢
      refine takeG (i := 11) (v := .pointer (some ⟨f, 2, none⟩)) [] rfl rfl (by kernel_rfl) (by kernel_rfl) (by kernel_rfl) (by kernel_rfl) (by kernel_rfl) (SG_set (by decide) (by decide)) (fun _ _ _ h => h) (Or.inl ⟨by rfl, ?_⟩) hH (fun hH => ?_)
      · intro w5 hSw; go_simp
      simp only [zA9, zB9, zC9] at hH ⊢
      have hF_7 : w_7.heap[f]? = _ := (bel_7.block f (by omega)).trans hF0
      have fin := HFIN.out _ _ bel_7 hr_7
      obtain ⟨_, _, c2_7, _, _, fr_7⟩ := RB.c hF_7
      have f2_7 := fr_7 2
      clear fr_7
      refine wpAnyG_ready (rs := [12]) (by kernel_rfl) (by simp) ?_
      refine AllReadyG.cons rfl (fun K hK => ?_) AllReadyG.nil
      go_simp
      refine hK.out _ _ ⟨fun h => by simp at h, fun _ => trivial, ?_⟩ (fun hH => ?_)
      · exact ⟨cell_setH (b := w.heap.size) (by omega) ((bel_7.cell (p := ⟨w.heap.size, 0, none⟩) (show w.heap.size < w.heap.size + 1 by omega)).trans x0), cell_setH (b := w.heap.size) (by omega) ((bel_7.cell (p := ⟨w.heap.size, 1, none⟩) (show w.heap.size < w.heap.size + 1 by omega)).trans x1)⟩
      refine wpAnyG_done (by kernel_rfl) ?_ _
      refine NoPanic.normal ?_
      go_wp2_with fail
      go_end0
      exact ⟨rfl, fin⟩
  · go_simp
    have bel_8 : Below (w.heap.size + 1) w0 (wx.alloc (.cells #[.slice pN n1 cN, .slice pI n2 cI] 95)) := bel0.alloc (by have := bel0.size; omega) _
    have hb_8 : (wx.alloc (.cells #[.slice pN n1 cN, .slice pI n2 cI] 95)).heap[wx.heap.size]? = some (.cells #[.slice pN n1 cN, .slice pI n2 cI] 95 (0, 0)) := heap_alloc_new _ _
    have sz_8 : wx.heap.size + 1 ≤ (wx.alloc (.cells #[.slice pN n1 cN, .slice pI n2 cI] 95)).heap.size := by simp
    have sw_8 := bel0.size
    refine hK.out _ _ ⟨fun _ => (bel_8.cell (p := ⟨f, 2, none⟩) (show f < w.heap.size + 1 by omega)).trans cW, fun _ => trivial, (bel_8.cell (p := ⟨w.heap.size, 0, none⟩) (show w.heap.size < w.heap.size + 1 by omega)).trans x0, (bel_8.cell (p := ⟨w.heap.size, 1, none⟩) (show w.heap.size < w.heap.size + 1 by omega)).trans x1⟩ (fun hH => ?_)
    clear hK K
    obtain ⟨w_8, hw_8⟩ : ∃ x, x = wx.alloc (.cells #[.slice pN n1 cN, .slice pI n2 cI] 95) := ⟨_, rfl⟩
    rw [← hw_8] at bel_8 hb_8 sz_8  hH ⊢
    clear hw_8
    simp only [zA9, zB9, zC9] at hH ⊢
    refine wpAnyG_ready (rs := [1]) (by kernel_rfl) (by simp) ?_
    refine AllReadyG.cons rfl (fun K hK => ?_) AllReadyG.nil
    go_simp
    have bel_9 : Below (w.heap.size + 1) w0 (w_8.alloc (.cells #[] 95)) := bel_8.alloc (by have := bel_8.size; omega) _
    have hb_9 : (w_8.alloc (.cells #[] 95)).heap[w_8.heap.size]? = some (.cells #[] 95 (0, 0)) := heap_alloc_new _ _
    have sz_9 : w_8.heap.size + 1 ≤ (w_8.alloc (.cells #[] 95)).heap.size := by simp
    have sw_9 := bel_8.size
    have ho_9 := hAlloc hb_8 (.cells #[] 95)
    refine hK.out _ _ ⟨fun _ => (bel_9.cell (p := ⟨f, 2, none⟩) (show f < w.heap.size + 1 by omega)).trans cW, fun _ => trivial, (bel_9.cell (p := ⟨w.heap.size, 0, none⟩) (show w.heap.size < w.heap.size + 1 by omega)).trans x0, (bel_9.cell (p := ⟨w.heap.size, 1, none⟩) (show w.heap.size < w.heap.size + 1 by omega)).trans x1⟩ (fun hH => ?_)
    clear hK K
    obtain ⟨w_9, hw_9⟩ : ∃ x, x = w_8.alloc (.cells #[] 95) := ⟨_, rfl⟩
    rw [← hw_9] at bel_9 hb_9 sz_9 ho_9 hH ⊢
    clear hw_9
    simp only [zA9, zB9, zC9] at hH ⊢
    refine wpAnyG_ready (rs := [6]) (by kernel_rfl) (by simp) ?_
    refine AllReadyG.cons rfl (fun K hK => ?_) AllReadyG.nil
    have row_10 : w_9.ownsRow (w.heap.size + 1) 95 2 (.slice (some ⟨w_8.heap.size, 0, none⟩) 0 0) 0 [] := ⟨rfl, Or.inr ⟨w_8.heap.size, 0, #[], rfl, by omega, hb_9, Nat.le_refl _, by unfold maxLen; omega, rfl, rfl⟩⟩
    refine step_two 74 95 (.agg #[.slice none 0 0, .slice none 0 0]) 48 nmSlice nmInfo rfl rfl (.tmp 5) (.tmp 9) rfl (w.heap.size + 1) 0 M c (.slice (some ⟨w_8.heap.size, 0, none⟩) 0 0) [] (flat2 us) ⟨g, o, none⟩ rfl row_10 rfl HL.out (fun j u hj => (bel_9.cell (p := (⟨g, o, none⟩ : Addr).add j) (show ((⟨g, o, none⟩ : Addr).add j).block < w.heap.size + 1 by rw [add_plain]; show g < _; omega)).trans (HC.out j u hj)) HO.out (by omega) (by have := bel_9.size; omega) (by decide) ?_
    intro v_10 w_10 hr_10 hg_10
    rw [Nat.zero_add, List.nil_append] at hr_10
    have bel_10 : Below (w.heap.size + 1) w0 w_10 := bel_9.trans (below_own hg_10 (by have := bel_9.size; omega) (own_ge row_10))
    have ho_10 : w_10.heap[wx.heap.size]? = _ := (hg_10.block wx.heap.size (lt_of_heap ho_9) (by simp [Value.ownBlock]; omega)).trans ho_9
    obtain ⟨P_10, C_10, rfl⟩ := row_form2 hr_10
    refine hK.out _ _ ⟨fun _ => (bel_10.cell (p := ⟨f, 2, none⟩) (show f < w.heap.size + 1 by omega)).trans cW, fun _ => trivial, (bel_10.cell (p := ⟨w.heap.size, 0, none⟩) (show w.heap.size < w.heap.size + 1 by omega)).trans x0, (bel_10.cell (p := ⟨w.heap.size, 1, none⟩) (show w.heap.size < w.heap.size + 1 by omega)).trans x1⟩ (fun hH => ?_)
    clear hK K
    simp only [Act.put, List.setIfInBounds_toArray, List.set_cons_zero, List.set_cons_succ] at hH ⊢
    refine wpAnyG_ready (rs := [9]) (by kernel_rfl) (by simp) ?_
    refine AllReadyG.cons rfl (fun K hK => ?_) AllReadyG.nil
    refine step_two 74 95 (.agg #[.slice none 0 0, .slice none 0 0]) 48 nmSlice nmInfo rfl rfl (.tmp 10) (.tmp 12) rfl (w.heap.size + 1) M 1 1 (.slice P_10 M C_10) (flat2 us) [.slice pN n1 cN, .slice pI n2 cI] ⟨wx.heap.size, 0, none⟩ rfl hr_10 rfl rfl (one_cells ho_10) (by intro u hu; simp at hu; rcases hu with rfl | rfl <;> rfl) (by omega) (by have := bel_10.size; omega) (by decide) ?_
    intro v_11 w_11 hr_11 hg_11
    have bel_11 : Below (w.heap.size + 1) w0 w_11 := bel_10.trans (below_own hg_11 (by have := bel_10.size; omega) (own_ge hr_10))
    obtain ⟨P_11, C_11, rfl⟩ := row_form2 hr_11
    refine hK.out _ _ ⟨fun _ => (bel_11.cell (p := ⟨f, 2, none⟩) (show f < w.heap.size + 1 by omega)).trans cW, fun _ => trivial, (bel_11.cell (p := ⟨w.heap.size, 0, none⟩) (show w.heap.size < w.heap.size + 1 by omega)).trans x0, (bel_11.cell (p := ⟨w.heap.size, 1, none⟩) (show w.heap.size < w.heap.size + 1 by omega)).trans x1⟩ (fun hH => ?_)
    clear hK K
    simp only [Act.put, List.setIfInBounds_toArray, List.set_cons_zero, List.set_cons_succ] at hH ⊢
    refine takeG (i := 10) (v := .pointer (some ⟨f, 0, none⟩)) [] rfl rfl (by kernel_rfl) (by kernel_rfl) (by kernel_rfl) (by kernel_rfl) (by kernel_rfl) (SG_set (by decide) (by decide)) (fun _ _ _ h => h) (Or.inl ⟨by rfl, ?_⟩) hH (fun hH => ?_)
    · intro w5 hSw; go_simp
    simp only [zA9, zB9, zC9] at hH ⊢
    refine takeG (i := 11) (v := .pointer (some ⟨f, 2, none⟩)) [] rfl rfl (by kernel_rfl) (by kernel_rfl) (by kernel_rfl) (by kernel_rfl) (by kernel_rfl) (SG_set (by decide) (by decide)) (fun _ _ _ h => h) (Or.inl ⟨by rfl, ?_⟩) hH (fun hH => ?_)
    · intro w5 hSw; go_simp
    simp only [zA9, zB9, zC9] at hH ⊢
    have hF_11 : w_11.heap[f]? = _ := (bel_11.block f (by omega)).trans hF0
    have fin := HFIN.out _ _ bel_11 hr_11
    obtain ⟨_, _, c2_11, _, _, fr_11⟩ := RB.c hF_11
    have f2_11 := fr_11 2
    clear fr_11
    refine wpAnyG_ready (rs := [12]) (by kernel_rfl) (by simp) ?_
    refine AllReadyG.cons rfl (fun K hK => ?_) AllReadyG.nil
    go_simp
    refine hK.out _ _ ⟨fun h => by simp at h, fun _ => trivial, ?_⟩ (fun hH => ?_)
    · exact ⟨cell_setH (b := w.heap.size) (by omega) ((bel_11.cell (p := ⟨w.heap.size, 0, none⟩) (show w.heap.size < w.heap.size + 1 by omega)).trans x0), cell_setH (b := w.heap.size) (by omega) ((bel_11.cell (p := ⟨w.heap.size, 1, none⟩) (show w.heap.size < w.heap.size + 1 by omega)).trans x1)⟩
    refine wpAnyG_done (by kernel_rfl) ?_ _
    refine NoPanic.normal ?_
    go_wp2_with fail
    go_end0
    exact ⟨rfl, fin⟩
theorem changes_any (f : Nat) (s : St) (x : Ws) (u1 u2 : Value) (w : World) (h : Rf F w f s) (hx : wayIn F w f (u1, u2) x) (hb : s.ways.length ≤ 9000000) :
    Calls Try.prog 68 #[.pointer (some ⟨f, 0, none⟩), .agg #[u1, u2]] w fun e w' => e = .returned (.tuple #[]) ∧ Rf F w' f { s with ways := s.ways ++ [x] } ∧ Keep f w w' :=
  (changes_more f s x u1 u2 w h hx hb).mono fun _ _ h => ⟨h.1, h.2.1, h.2.2.1⟩
end Go.Proofs.Ytdiehlioemmakaa

