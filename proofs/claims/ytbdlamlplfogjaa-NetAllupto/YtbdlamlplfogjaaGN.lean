/-
  Walks: slices.Clone at four types.
-/
import Derived.Test.YtbdlamlplfogjaaNtU
import Derived.Test.YtbdlamlplfogjaaNtO
import Derived.Maps.RangeWalk
import Derived.Deep.CutRange
namespace Go.Proofs.Ytbdlamlplfogjaa
open Go.RowKit Go.Maps Go.Joins
variable {P : Nat → Prop} {w w' : World} {n c : Nat} {S : St} {L : Ly}

/-- what a copy of a row is: the same cells in new memory -/
def CpQ (w : World) (e : TypeId) (sz k : Nat) (xs : List Value) (r : Ending) (w' : World) : Prop := ∃ v', r = .returned v' ∧ shr w' e sz v' k xs ∧ w.grownBy w' none ∧ ∀ g, v'.ownBlock = some g → w.heap.size ≤ g
/-- 'append(S{}, s...)', laid ahead -/
theorem Rw.copy {t e : TypeId} {z : Value} {sz by' : Nat} (R : Rw t e z sz by') {k cap : Nat} {xs : List Value} {a : Addr} (h : shr w e sz (.slice (some a) k cap) k xs) (h1 : ∀ u ∈ xs, u.oneCell' = true) (hl : k ≤ 1000000000) :
    ∃ p' c' w', (∀ ty, (Builtin.append_ #[t, t] ty #[.slice (some ⟨w.heap.size, 0, none⟩) 0 0, .slice (some a) k cap]).run Try.prog (w.alloc (.cells #[] e)) = .ok (.slice p' k c') w') ∧ shr w' e sz (.slice p' k c') k xs ∧ w.grownBy w' none ∧ ∀ g, (Value.slice p' k c').ownBlock = some g → w.heap.size ≤ g := by
  have g1 := World.grownBy_alloc w (.cells #[] e) none
  have h' := h.kept (Chg.of_none g1 (fun _ => False)) (fun _ _ e => e)
  have b0 := heap_alloc_new w (.cells #[] e)
  obtain ⟨g, off, rfl, hc⟩ := h'.cell
  rcases Nat.eq_zero_or_pos k with rfl | hk
  · obtain ⟨i, hi, _, hs, _⟩ := info_parts R.inf
    have hx : xs = [] := List.eq_nil_of_length_eq_zero (by simpa using h.1)
    subst hx
    have hr := fun ty => run_append_room_cells (P := Try.prog) (w.alloc (.cells #[] e)) t ty e i R.sl hi w.heap.size 0 0 0 ⟨g, off, none⟩ 0 cap [] (by simp) (fun j u hj => by simp at hj) (fun u hu => by simp at hu) (Nat.le_refl _) (fun j hj => by simp at hj) (fun j hj => by simp at hj)
    refine ⟨_, _, _, hr, ⟨by simp, Or.inr ⟨w.heap.size, 0, 0, #[], rfl, b0, Nat.le_refl _, by unfold maxLen; omega, Or.inl rfl, fun j u hj => by simp at hj⟩⟩, g1, fun g hg => by simp [Value.ownBlock] at hg; omega⟩
  · have s0 : shr (w.alloc (.cells #[] e)) e sz (.slice (some ⟨w.heap.size, 0, none⟩) 0 0) 0 [] := ⟨by simp, Or.inr ⟨w.heap.size, 0, 0, #[], rfl, b0, Nat.le_refl _, by unfold maxLen; omega, Or.inl rfl, fun j u hj => by simp at hj⟩⟩
    obtain ⟨v', w', hr, s', g', o'⟩ := R.app (c := cap) s0 (m := k) (news := xs) (ad := ⟨g, off, none⟩) h.1 (fun j u hj => by rw [add_plain]; exact hc j u hj) h1 (by omega) hk
    rw [Nat.zero_add] at s'
    obtain ⟨p', c', rfl, _⟩ := s'.form
    refine ⟨p', c', w', hr, by rw [List.nil_append] at s'; exact s', grown_new g1 g' (fun g hg => by simp [Value.ownBlock] at hg; omega), fun g hg => ?_⟩
    rcases o' with e | ⟨g2, e, h2, _⟩
    · rw [e] at hg; simp [Value.ownBlock] at hg; omega
    · rw [hg] at e; cases e
      exact Nat.le_trans g1.size h2
set_option maxHeartbeats 1000000 in
set_option maxRecDepth 100000 in
theorem CloneS (v : Value) (k : Nat) (xs : List Value) (h : shr w 9 1 v k xs) (h1 : ∀ u ∈ xs, u.oneCell' = true) (hl : k ≤ 1000000000) : Calls Try.prog 29 #[v] w (CpQ w 9 1 k xs) := by
  rcases h.2 with ⟨rfl, rfl⟩ | ⟨g, off, cap, cur, rfl, hg, hn, hm, _, _⟩
  · have H := mkHid h
    have nq := Lib.run_eql_slice_nil (P := Try.prog) w 49 9 none 0 0 0 0 rwS.sl
    clear h
    go_enter Try.func29, Try.ntmps29
    go_wp2_with fail
    go_ret
    exact ⟨_, rfl, H.out, grown_refl w, fun g hg => by simp [Value.ownBlock] at hg⟩
  · obtain ⟨p', c', w1, hr, s1, g1, o1⟩ := rwS.copy h h1 hl
    have nq := Lib.run_eql_slice_nil (P := Try.prog) w 49 9 (some ⟨g, off, none⟩) k cap 0 0 rwS.sl
    have S1 := mkHid s1
    have G1 := mkHid g1
    have O1 := mkHid o1
    clear h hg hn hm s1 g1 o1
    go_enter Try.func29, Try.ntmps29
    go_wp2_with (first | (at_builtin; refine wp_app 49 rfl (.tmp 5) (.tmp 6) rfl rfl rfl hr ?_) | fail)
    go_ret
    exact ⟨_, rfl, S1.out, G1.out, O1.out⟩
set_option maxHeartbeats 1000000 in
set_option maxRecDepth 100000 in
theorem CloneM (v : Value) (k : Nat) (xs : List Value) (h : shr w 82 2 v k xs) (h1 : ∀ u ∈ xs, u.oneCell' = true) (hl : k ≤ 1000000000) : Calls Try.prog 28 #[v] w (CpQ w 82 2 k xs) := by
  rcases h.2 with ⟨rfl, rfl⟩ | ⟨g, off, cap, cur, rfl, hg, hn, hm, _, _⟩
  · have H := mkHid h
    have nq := Lib.run_eql_slice_nil (P := Try.prog) w 67 82 none 0 0 0 0 rwM.sl
    clear h
    go_enter Try.func28, Try.ntmps28
    go_wp2_with fail
    go_ret
    exact ⟨_, rfl, H.out, grown_refl w, fun g hg => by simp [Value.ownBlock] at hg⟩
  · obtain ⟨p', c', w1, hr, s1, g1, o1⟩ := rwM.copy h h1 hl
    have nq := Lib.run_eql_slice_nil (P := Try.prog) w 67 82 (some ⟨g, off, none⟩) k cap 0 0 rwM.sl
    have S1 := mkHid s1
    have G1 := mkHid g1
    have O1 := mkHid o1
    clear h hg hn hm s1 g1 o1
    go_enter Try.func28, Try.ntmps28
    go_wp2_with (first | (at_builtin; refine wp_app 67 rfl (.tmp 5) (.tmp 6) rfl rfl rfl hr ?_) | fail)
    go_ret
    exact ⟨_, rfl, S1.out, G1.out, O1.out⟩
set_option maxHeartbeats 1000000 in
set_option maxRecDepth 100000 in
theorem CloneP (v : Value) (k : Nat) (xs : List Value) (h : shr w 79 6 v k xs) (h1 : ∀ u ∈ xs, u.oneCell' = true) (hl : k ≤ 1000000000) : Calls Try.prog 27 #[v] w (CpQ w 79 6 k xs) := by
  rcases h.2 with ⟨rfl, rfl⟩ | ⟨g, off, cap, cur, rfl, hg, hn, hm, _, _⟩
  · have H := mkHid h
    have nq := Lib.run_eql_slice_nil (P := Try.prog) w 71 79 none 0 0 0 0 rwP.sl
    clear h
    go_enter Try.func27, Try.ntmps27
    go_wp2_with fail
    go_ret
    exact ⟨_, rfl, H.out, grown_refl w, fun g hg => by simp [Value.ownBlock] at hg⟩
  · obtain ⟨p', c', w1, hr, s1, g1, o1⟩ := rwP.copy h h1 hl
    have nq := Lib.run_eql_slice_nil (P := Try.prog) w 71 79 (some ⟨g, off, none⟩) k cap 0 0 rwP.sl
    have S1 := mkHid s1
    have G1 := mkHid g1
    have O1 := mkHid o1
    clear h hg hn hm s1 g1 o1
    go_enter Try.func27, Try.ntmps27
    go_wp2_with (first | (at_builtin; refine wp_app 71 rfl (.tmp 5) (.tmp 6) rfl rfl rfl hr ?_) | fail)
    go_ret
    exact ⟨_, rfl, S1.out, G1.out, O1.out⟩
set_option maxHeartbeats 1000000 in
set_option maxRecDepth 100000 in
theorem CloneN (v : Value) (k : Nat) (xs : List Value) (h : shr w 69 2 v k xs) (h1 : ∀ u ∈ xs, u.oneCell' = true) (hl : k ≤ 1000000000) : Calls Try.prog 26 #[v] w (CpQ w 69 2 k xs) := by
  rcases h.2 with ⟨rfl, rfl⟩ | ⟨g, off, cap, cur, rfl, hg, hn, hm, _, _⟩
  · have H := mkHid h
    have nq := Lib.run_eql_slice_nil (P := Try.prog) w 65 69 none 0 0 0 0 rwN.sl
    clear h
    go_enter Try.func26, Try.ntmps26
    go_wp2_with fail
    go_ret
    exact ⟨_, rfl, H.out, grown_refl w, fun g hg => by simp [Value.ownBlock] at hg⟩
  · obtain ⟨p', c', w1, hr, s1, g1, o1⟩ := rwN.copy h h1 hl
    have nq := Lib.run_eql_slice_nil (P := Try.prog) w 65 69 (some ⟨g, off, none⟩) k cap 0 0 rwN.sl
    have S1 := mkHid s1
    have G1 := mkHid g1
    have O1 := mkHid o1
    clear h hg hn hm s1 g1 o1
    go_enter Try.func26, Try.ntmps26
    go_wp2_with (first | (at_builtin; refine wp_app 65 rfl (.tmp 5) (.tmp 6) rfl rfl rfl hr ?_) | fail)
    go_ret
    exact ⟨_, rfl, S1.out, G1.out, O1.out⟩
end Go.Proofs.Ytbdlamlplfogjaa
namespace Go.Proofs.Ytbdlamlplfogjaa
open Go.RowKit Go.Maps Go.Joins
variable {P : Nat → Prop} {w w' : World} {n c : Nat} {S : St} {L : Ly}

/-- a row that begins with its block -/
def row0 (w : World) (e : TypeId) (sz g k cap : Nat) (xs : List Value) : Prop := ∃ cur : Array Value, w.heap[g]? = some (.cells cur e (0, 0)) ∧ k ≤ cap ∧ cap ≤ maxLen ∧ cur.size = cap * sz ∧ ∀ (j : Nat) (u : Value), xs[j]? = some u → cur[j]? = some u
theorem row0.kept {e : TypeId} {sz g k cap : Nat} {xs : List Value} (h : row0 w e sz g k cap xs) (hg : w.grownBy w' none) : row0 w' e sz g k cap xs := by
  obtain ⟨cur, hb, r⟩ := h
  exact ⟨cur, box_keep hb hg (by simp), r⟩
theorem Rw.copy0 {t e : TypeId} {z : Value} {sz by' : Nat} (R : Rw t e z sz by') {k cap : Nat} {xs : List Value} {a : Addr} (h : shr w e sz (.slice (some a) k cap) k xs) (hl : k ≤ 1000000000) (hk : 0 < k) :
    ∃ g c' w', (∀ ty, (Builtin.append_ #[t, t] ty #[.slice (some ⟨w.heap.size, 0, none⟩) 0 0, .slice (some a) k cap]).run Try.prog (w.alloc (.cells #[] e)) = .ok (.slice (some ⟨g, 0, none⟩) k c') w') ∧ row0 w' e sz g k c' xs ∧ w.grownBy w' none ∧ w.heap.size ≤ g := by
  have g1 := World.grownBy_alloc w (.cells #[] e) none
  have h' := h.kept (Chg.of_none g1 (fun _ => False)) (fun _ _ e => e)
  obtain ⟨g, off, rfl, hc⟩ := h'.cell
  obtain ⟨i, hi, hz, hs, hb⟩ := info_parts R.inf
  have hsl := R.sl; have hzs := R.zs; have hsm := R.sm
  have hx := h.1
  clear R h h'
  subst hs hb
  have hby : (0 + k) * i.bytes ≤ 140737488355328 := by
    have : (0 + k) * i.bytes ≤ 1000000000 * 64 := Nat.mul_le_mul (by omega) hsm
    omega
  have hr := fun ty => run_append_grow (P := Try.prog) (w.alloc (.cells #[] e)) t ty e i z hsl hi hz ⟨w.heap.size, 0, none⟩ 0 0 [] (by simp) (fun j u hj => by simp at hj) ⟨g, off, none⟩ k cap xs hx (fun j u hj => by rw [add_plain]; exact hc j u hj) (by omega) (by omega) (growslice_fits (by omega) hby)
  have hge := grownCap_ge (w.alloc (.cells #[] e)) (0 + k) 0 e
  have hcm := grownCap_le_maxLen (w.alloc (.cells #[] e)) (0 + k) 0 e (by unfold maxLen; omega)
  rw [Nat.zero_add] at hr hge hcm
  refine ⟨_, _, _, hr, ⟨_, heap_alloc_new _ _, hge, hcm, ?_, fun j u hj => ?_⟩, grown_none_trans g1 ⟨rfl, rfl, rfl, by simp, fun k hk _ => heap_alloc_old _ _ (by simpa using hk)⟩, by simp⟩
  · rw [Array.size_append, Array.size_append, size_zeroCells, hzs, List.size_toArray, List.size_toArray, hx, List.length_nil, Nat.zero_add, ← Nat.add_mul]
    exact congrArg (· * i.size) (by omega)
  · have hjl := (List.getElem?_eq_some_iff.1 hj).1
    rw [Array.getElem?_append_left (by simpa using hjl), List.append_toArray]
    simpa using hj
/-- what a copy of nodes is -/
def CnQ (w : World) (k : Nat) (xs : List Value) (r : Ending) (w' : World) : Prop := ∃ g cap, r = .returned (.slice (some ⟨g, 0, none⟩) k cap) ∧ row0 w' 69 2 g k cap xs ∧ w.grownBy w' none ∧ w.heap.size ≤ g
set_option maxHeartbeats 1000000 in
set_option maxRecDepth 100000 in
theorem CloneN0 (a : Addr) (k cap : Nat) (xs : List Value) (h : shr w 69 2 (.slice (some a) k cap) k xs) (hl : k ≤ 1000000000) (hk : 0 < k) : Calls Try.prog 26 #[.slice (some a) k cap] w (CnQ w k xs) := by
  obtain ⟨g, c', w1, hr, s1, g1, o1⟩ := rwN.copy0 h hl hk
  have nq := Lib.run_eql_slice_nil (P := Try.prog) w 65 69 (some a) k cap 0 0 rwN.sl
  have S1 := mkHid s1
  have G1 := mkHid g1
  have O1 := mkHid o1
  clear h s1 g1 o1
  go_enter Try.func26, Try.ntmps26
  go_wp2_with (first | (at_builtin; refine wp_app 65 rfl (.tmp 5) (.tmp 6) rfl rfl rfl hr ?_) | fail)
  go_ret
  exact ⟨_, _, rfl, S1.out, G1.out, O1.out⟩
/-- the nodes' cells -/
def ndC (S : St) (vs : Nat → Value) : List Value := (List.range S.N).flatMap fun i => [.bool (S.dn i), vs i]
theorem ndC_len (S : St) (vs : Nat → Value) : (ndC S vs).length = S.N * 2 := by
  unfold ndC
  induction S.N with
  | zero => rfl
  | succ N ih => rw [List.range_succ, List.flatMap_append, List.length_append, ih]; simp; omega
theorem ndC_get (S : St) (vs : Nat → Value) : ∀ i, i < S.N → (ndC S vs)[i * 2]? = some (.bool (S.dn i)) ∧ (ndC S vs)[i * 2 + 1]? = some (vs i) := by
  unfold ndC
  intro i
  generalize hN : S.N = N
  clear hN
  induction N with
  | zero => intro h; omega
  | succ N ih =>
    intro h
    have hl : ((List.range N).flatMap fun i => [Value.bool (S.dn i), vs i]).length = N * 2 := by
      clear ih h
      induction N with
      | zero => rfl
      | succ N ih => rw [List.range_succ, List.flatMap_append, List.length_append, ih]; simp; omega
    rw [List.range_succ, List.flatMap_append]
    rcases Nat.lt_or_ge i N with h1 | h1
    · rw [List.getElem?_append_left (by omega), List.getElem?_append_left (by omega)]
      exact ih h1
    · obtain rfl : i = N := by omega
      rw [List.getElem?_append_right (by omega), List.getElem?_append_right (by omega), hl, Nat.sub_self, show i * 2 + 1 - i * 2 = 1 by omega]
      exact ⟨rfl, rfl⟩
theorem NetL.nodes (h : NetL P w n c S L) : shr w 69 2 (.slice (some ⟨L.nb, 0, none⟩) S.N L.ncap) S.N (ndC S L.vs) := by
  obtain ⟨cur, hb, r1, r2, r3, r4⟩ := h.nds
  refine ⟨ndC_len S L.vs, Or.inr ⟨L.nb, 0, L.ncap, cur, rfl, hb, r1, r2, Or.inr (by omega), fun j u hj => ?_⟩⟩
  have hl := (List.getElem?_eq_some_iff.1 hj).1
  rw [ndC_len] at hl
  have := ndC_get S L.vs (j / 2) (by omega)
  have q := r4 (j / 2) (by omega)
  rw [Nat.zero_add]
  rcases (show j % 2 = 0 ∨ j % 2 = 1 by omega) with z | z
  · have e : j = j / 2 * 2 := by omega
    rw [e] at hj ⊢
    rw [this.1] at hj; cases hj; exact q.1
  · have e : j = j / 2 * 2 + 1 := by omega
    rw [e] at hj ⊢
    rw [this.2] at hj; cases hj; exact q.2
/-- the clone when its own block is there: lists that are still shared -/
structure ClA (w : World) (S : St) (L : Ly) (cb : Nat) (wx : World) : Prop where
  gr : w.grownBy wx none
  ge : w.heap.size ≤ cb
  ex : ∃ nb ncap m fv, wx.heap[cb]? = some (.cells #[.slice (some ⟨nb, 0, none⟩) S.N ncap, .map (some m), fv] 73 (0, 0)) ∧ w.heap.size ≤ nb ∧ w.heap.size ≤ m ∧ (∀ g, fv.ownBlock = some g → w.heap.size ≤ g) ∧ row0 wx 69 2 nb S.N ncap (ndC S L.vs) ∧ Wm wx m 0 S.N (fun _ _ => zW) ∧ shr wx 79 6 fv S.fl.length (pkC S.fl)
theorem Wm_new (w : World) {N : Nat} (hN : N ≤ 64) : Wm (w.alloc (.map #[] 0)) w.heap.size 0 N (fun _ _ => zW) := ⟨0, _, World.ownsMap_made w _ _ _, Nat.le_refl _, hN, (fun kl h => by simp [Maps.has_eq] at h), fun _ _ _ _ => rfl⟩
/-- the clone while its nodes' lists are being copied: those of the first k are its own -/
structure ClB (w : World) (S : St) (L : Ly) (cb nb ncap m : Nat) (fv : Value) (k : Nat) (vs : Nat → Value) (wr : World) : Prop where
  gr : w.grownBy wr none
  net : wr.heap[cb]? = some (.cells #[.slice (some ⟨nb, 0, none⟩) S.N ncap, .map (some m), fv] 73 (0, 0))
  ocb : w.heap.size ≤ cb
  onb : w.heap.size ≤ nb
  om : w.heap.size ≤ m
  ofv : ∀ g, fv.ownBlock = some g → w.heap.size ≤ g
  row : row0 wr 69 2 nb S.N ncap (ndC S vs)
  map : Wm wr m 0 S.N (fun _ _ => zW)
  fl : shr wr 79 6 fv S.fl.length (pkC S.fl)
  own : ∀ i, i < k → shr wr 82 2 (vs i) (S.ms i).length (msC (S.ms i)) ∧ ∀ g, (vs i).ownBlock = some g → w.heap.size ≤ g
  old : ∀ i, k ≤ i → vs i = L.vs i
  dis : ∀ i j, i < k → j < k → i ≠ j → ∀ g, (vs i).ownBlock = some g → (vs j).ownBlock ≠ some g
theorem msC_one (l : List (Nat × ByteArray)) : ∀ u ∈ msC l, u.oneCell' = true := by
  intro u hu
  simp only [msC, List.mem_flatMap] at hu
  obtain ⟨p, _, h⟩ := hu
  simp only [msL, List.mem_cons, List.mem_nil_iff, or_false] at h
  rcases h with rfl | rfl <;> rfl
theorem ClB.next {cb nb ncap m k : Nat} {fv v5 : Value} {vs : Nat → Value} {wr w5 : World} (h : ClB w S L cb nb ncap m fv k vs wr) (hk : k < S.N) (s5 : shr w5 82 2 v5 (S.ms k).length (msC (S.ms k))) (g5 : wr.grownBy w5 none) (o5 : ∀ g, v5.ownBlock = some g → wr.heap.size ≤ g) :
    ClB w S L cb nb ncap m fv (k + 1) (upd vs k v5) (w5.setCell ⟨nb, k * 2 + 1, none⟩ v5) := by
  obtain ⟨cur, hb, r1, r2, r3, r4⟩ := h.row
  have hb5 := box_keep hb g5 (by simp)
  have knb : kd w5 nb = 69 + 2 := kd_cells hb5
  have CC := Chg.of_cell w5 ⟨nb, k * 2 + 1, none⟩ v5
  have no : ∀ b t, kd w5 b = t → t ≠ 69 + 2 → ¬ b = nb := fun b t hb ht e => ht (by rw [← hb, e, knb])
  have gg := grown_none_trans h.gr g5
  have k5 : ∀ {e : TypeId} {sz n : Nat} {v : Value} {xs : List Value}, shr w5 e sz v n xs → e ≠ 69 → shr (w5.setCell ⟨nb, k * 2 + 1, none⟩ v5) e sz v n xs := fun hs he => hs.kept CC (fun g hg => no g _ (hs.kd g hg).1 (by simp; exact he))
  refine ⟨grown_set gg _ _ h.onb, (heap_setCell_other w5 ⟨nb, k * 2 + 1, none⟩ cb v5 (no cb _ (kd_cells (box_keep h.net g5 (by simp))) (by decide))).trans (box_keep h.net g5 (by simp)), h.ocb, h.onb, h.om, h.ofv, ⟨cur.setIfInBounds (k * 2 + 1) v5, block_setCell hb5 _, r1, r2, by simp [r3], fun j u hj => ?_⟩, ?_, k5 (h.fl.kept (Chg.of_none g5 (fun _ => False)) (fun _ _ e => e)) (by decide), fun i hi => ?_, fun i hi => ?_, fun i j hi hj hne g h1 h2 => ?_⟩
  · have hl := (List.getElem?_eq_some_iff.1 hj).1
    rw [ndC_len] at hl
    have q := ndC_get S (upd vs k v5) (j / 2) (by omega)
    have q0 := ndC_get S vs (j / 2) (by omega)
    rcases (show j % 2 = 0 ∨ j % 2 = 1 by omega) with z | z
    · have e : j = j / 2 * 2 := by omega
      rw [e] at hj ⊢
      rw [q.1] at hj
      rw [Array.getElem?_setIfInBounds, if_neg (by omega)]
      exact r4 _ _ (q0.1.trans hj)
    · have e : j = j / 2 * 2 + 1 := by omega
      rw [e] at hj ⊢
      rw [q.2] at hj
      by_cases ek : j / 2 = k
      · rw [ek] at hj ⊢
        rw [upd_same] at hj
        rw [Array.getElem?_setIfInBounds, if_pos rfl, if_pos (by omega)]; exact hj
      · rw [upd_other _ _ ek] at hj
        rw [Array.getElem?_setIfInBounds, if_neg (by omega)]
        exact r4 _ _ (q0.2.trans hj)
  · have := h.map.kept (Chg.of_none g5 (fun _ => False)) (fun e => e)
    exact this.kept CC (no m _ this.kd.1 (by decide))
  · by_cases e : i = k
    · rw [e, upd_same]
      exact ⟨k5 s5 (by decide), fun g hg => Nat.le_trans h.gr.size (o5 g hg)⟩
    · rw [upd_other _ _ e]
      have := h.own i (by omega)
      exact ⟨k5 (this.1.kept (Chg.of_none g5 (fun _ => False)) (fun _ _ e => e)) (by decide), this.2⟩
  · rw [upd_other _ _ (by omega)]; exact h.old i (by omega)
  · by_cases e1 : i = k
    · rw [e1, upd_same] at h1
      rw [upd_other _ _ (by omega)] at h2
      have := ((h.own j (by omega)).1.kd g h2).2
      have := o5 g h1
      omega
    · rw [upd_other _ _ e1] at h1
      by_cases e2 : j = k
      · rw [e2, upd_same] at h2
        have := ((h.own i (by omega)).1.kd g h1).2
        have := o5 g h2
        omega
      · rw [upd_other _ _ e2] at h2
        exact h.dis i j (by omega) (by omega) hne g h1 h2
/-- what stands in the clone's map while it is being filled -/
def clF (Pr : Program) (S : St) (uv : Nat → Nat → Value) (left : Lit → Bool) : Nat → Nat → Value := fun i j => if left (kk Pr i j) = true then zW else wyV (S.wy i j) (uv i j)
/-- the clone while its ways are being copied -/
structure ClC (w : World) (S : St) (cb nb ncap m K : Nat) (fv : Value) (vs : Nat → Value) (uv : Nat → Nat → Value) (left : Lit → Bool) (wr : World) : Prop where
  gr : w.grownBy wr none
  net : wr.heap[cb]? = some (.cells #[.slice (some ⟨nb, 0, none⟩) S.N ncap, .map (some m), fv] 73 (0, 0))
  ocb : w.heap.size ≤ cb
  onb : w.heap.size ≤ nb
  om : w.heap.size ≤ m
  ofv : ∀ g, fv.ownBlock = some g → w.heap.size ≤ g
  row : row0 wr 69 2 nb S.N ncap (ndC S vs)
  map : Wm wr m K S.N (clF Try.prog S uv left)
  fl : shr wr 79 6 fv S.fl.length (pkC S.fl)
  own : ∀ i, i < S.N → shr wr 82 2 (vs i) (S.ms i).length (msC (S.ms i)) ∧ ∀ g, (vs i).ownBlock = some g → w.heap.size ≤ g
  dis : ∀ i j, i < S.N → j < S.N → i ≠ j → ∀ g, (vs i).ownBlock = some g → (vs j).ownBlock ≠ some g
  uns : ∀ i j, i < S.N → j < S.N → left (kk Try.prog i j) = false → shr wr 9 1 (uv i j) (S.wy i j).us.length (usC (S.wy i j).us) ∧ ∀ g, (uv i j).ownBlock = some g → w.heap.size ≤ g
  und : ∀ i j k l, i < S.N → j < S.N → k < S.N → l < S.N → ¬ (k = i ∧ l = j) → left (kk Try.prog i j) = false → left (kk Try.prog k l) = false → ∀ g, (uv i j).ownBlock = some g → (uv k l).ownBlock ≠ some g
theorem ClC.kept {cb nb ncap m K : Nat} {fv : Value} {vs : Nat → Value} {uv : Nat → Nat → Value} {left : Lit → Bool} {wr w5 : World} (h : ClC w S cb nb ncap m K fv vs uv left wr) {row : Option Nat} (g5 : wr.grownBy w5 row) (hr : ∀ r, row = some r → w.heap.size ≤ r ∧ (∀ o, wr.heap[r]? = some o → kd wr r = 0)) : ClC w S cb nb ncap m K fv vs uv left w5 := by
  have C5 := Chg.of_grown g5
  have no : ∀ b, b < wr.heap.size → kd wr b ≠ 0 → ¬ row = some b := fun b hb hk e => by
    obtain ⟨o, ho⟩ : ∃ o, wr.heap[b]? = some o := ⟨_, Array.getElem?_eq_getElem hb⟩
    exact hk ((hr b e).2 o ho)
  have ns : ∀ {e : TypeId} {sz n : Nat} {v : Value} {xs : List Value}, shr wr e sz v n xs → shr w5 e sz v n xs := fun hs => hs.kept C5 (fun g hg => no g (hs.kd g hg).2 (by rw [(hs.kd g hg).1]; omega))
  obtain ⟨cur, hb, r⟩ := h.row
  refine ⟨grown_new h.gr g5 (fun g hg => (hr g hg).1), C5.at_ h.net (no cb (lt_of_heap h.net) (by rw [kd_cells h.net]; omega)), h.ocb, h.onb, h.om, h.ofv, ⟨cur, C5.at_ hb (no nb (lt_of_heap hb) (by rw [kd_cells hb]; omega)), r⟩, h.map.kept C5 (no m h.map.kd.2 (by rw [h.map.kd.1]; omega)), ns h.fl, fun i hi => ⟨ns (h.own i hi).1, (h.own i hi).2⟩, h.dis, fun i j hi hj hl => ⟨ns (h.uns i j hi hj hl).1, (h.uns i j hi hj hl).2⟩, h.und⟩
/-- the clone is whole -/
theorem ClC.fin {cb nb ncap m K : Nat} {fv : Value} {vs : Nat → Value} {uv : Nat → Nat → Value} {left : Lit → Bool} {wr : World} (h : ClC w S cb nb ncap m K fv vs uv left wr) (hl : ∀ kl, left kl = false) (h1 : 1 ≤ S.N) (h64 : S.N ≤ 64) : ∃ L', NetL (fun i => w.heap.size ≤ i ∧ i < wr.heap.size) wr cb K S L' := by
  obtain ⟨cur, hb, r1, r2, r3, r4⟩ := h.row
  have eF : clF Try.prog S uv left = fun i j => wyV (S.wy i j) (uv i j) := by
    funext i j
    unfold clF
    rw [if_neg (by rw [hl]; simp)]
  have hm := h.map
  rw [eF] at hm
  refine ⟨⟨nb, ncap, m, fv, vs, uv⟩, fun i hi => hi.2, ⟨h.ocb, lt_of_heap h.net⟩, ⟨h.onb, lt_of_heap hb⟩, ⟨h.om, hm.kd.2⟩, h1, h64, h.net, ⟨cur, hb, r1, r2, r3, fun i hi => ?_⟩, fun i hi => (h.own i hi).1, fun i hi g hg => ⟨(h.own i hi).2 g hg, ((h.own i hi).1.kd g hg).2⟩, h.dis, hm, fun i j hi hj => (h.uns i j hi hj (hl _)).1, fun i j hi hj g hg => ⟨(h.uns i j hi hj (hl _)).2 g hg, ((h.uns i j hi hj (hl _)).1.kd g hg).2⟩, fun i j k l hi hj hk hl' hne g hg => h.und i j k l hi hj hk hl' hne (hl _) (hl _) g hg, h.fl, fun g hg => ⟨h.ofv g hg, (h.fl.kd g hg).2⟩⟩
  have q := ndC_get S vs i hi
  exact ⟨r4 _ _ q.1, r4 _ _ q.2⟩
theorem Wm.congr {m c N : Nat} {F G : Nat → Nat → Value} (h : Wm w m c N F) (e : ∀ i j, i < 64 → j < 64 → F i j = G i j) : Wm w m c N G := by
  obtain ⟨n, D, h1, h2, h3, h4, h5⟩ := h
  exact ⟨n, D, h1, h2, h3, h4, fun i j hi hj => by rw [h5 i j hi hj, e i j hi hj]⟩
/-- the keys that are left behind one that has come -/
def lessK (left : Lit → Bool) (kl : Lit) : Lit → Bool := fun z => left z && !z.sameKey kl
theorem lessK_self {left : Lit → Bool} {kl : Lit} (hk : WideAt.IsKeyLit kl) : lessK left kl kl = false := by
  unfold lessK
  rw [WideAt.sameKey_self hk]; simp
theorem lessK_other {left : Lit → Bool} {kl z : Lit} (h : z ≠ kl) : lessK left kl z = left z := by
  unfold lessK
  cases hs : z.sameKey kl
  · simp
  · exact absurd (WideAt.sameKey_eq hs) h
theorem kk_self {left : Lit → Bool} {i j : Nat} (hi : i < 64) (hj : j < 64) : lessK left (kk Try.prog i j) (kk Try.prog i j) = false := by
  have hkk := ky_in hi hj
  generalize kk Try.prog i j = kl at hkk
  exact lessK_self (keyed_lit keyE hkk)
theorem ClC.next {cb nb ncap m K i j : Nat} {fv v5 : Value} {vs : Nat → Value} {uv : Nat → Nat → Value} {left : Lit → Bool} {wr w5 w6 : World} (h : ClC w S cb nb ncap m K fv vs uv left wr) (h64 : S.N ≤ 64) (hi : i < S.N) (hj : j < S.N) (g5 : wr.grownBy w5 none) (s5 : shr w5 9 1 v5 (S.wy i j).us.length (usC (S.wy i j).us)) (o5 : ∀ g, v5.ownBlock = some g → wr.heap.size ≤ g)
    (m6 : Wm w6 m (K + 1) S.N (upd2 (clF Try.prog S uv left) i j (wyV (S.wy i j) v5))) (g6 : w5.grownBy w6 (some m)) : ClC w S cb nb ncap m (K + 1) fv vs (upd2 uv i j v5) (lessK left (kk Try.prog i j)) w6 := by
  have h5 := h.kept g5 (fun r e => by cases e)
  have C6 := Chg.of_grown g6
  have km := h5.map.kd
  have no : ∀ b, kd w5 b ≠ 1 → ¬ some m = some b := fun b hb e => by cases e; exact hb km.1
  have ns : ∀ {e : TypeId} {sz n : Nat} {v : Value} {xs : List Value}, shr w5 e sz v n xs → shr w6 e sz v n xs := fun hs => hs.kept C6 (fun g hg => no g (by rw [(hs.kd g hg).1]; omega))
  obtain ⟨cur, hb, r⟩ := h5.row
  have un : ∀ a b, a < S.N → b < S.N → ¬ (a = i ∧ b = j) → lessK left (kk Try.prog i j) (kk Try.prog a b) = left (kk Try.prog a b) := fun a b ha hb hne => lessK_other (kk_ne (by omega) (by omega) (by omega) (by omega) hne)
  refine ⟨grown_new h5.gr g6 (fun g hg => by cases hg; exact h.om), C6.at_ h5.net (no cb (by rw [kd_cells h5.net]; omega)), h.ocb, h.onb, h.om, h.ofv, ⟨cur, C6.at_ hb (no nb (by rw [kd_cells hb]; omega)), r⟩, m6.congr (fun a b ha hb => ?_), ns h5.fl, fun i hi => ⟨ns (h5.own i hi).1, (h5.own i hi).2⟩, h.dis, fun a b ha hb hl => ?_, fun a b k l ha hb hk hl hne l1 l2 g h1 h2 => ?_⟩
  · by_cases e : a = i ∧ b = j
    · rw [e.1, e.2, upd2_same]
      unfold clF
      rw [kk_self (by omega) (by omega), if_neg (by simp), upd2_same]
    · rw [upd2_other _ _ e]
      unfold clF
      rw [lessK_other (kk_ne (by omega) (by omega) ha hb e), upd2_other _ _ e]
  · by_cases e : a = i ∧ b = j
    · rw [e.1, e.2, upd2_same]
      exact ⟨ns s5, fun g hg => Nat.le_trans h.gr.size (o5 g hg)⟩
    · rw [upd2_other _ _ e]
      rw [un a b ha hb e] at hl
      exact ⟨ns (h5.uns a b ha hb hl).1, (h5.uns a b ha hb hl).2⟩
  · by_cases e1 : a = i ∧ b = j
    · have e2 : ¬ (k = i ∧ l = j) := fun e => hne ⟨by omega, by omega⟩
      rw [e1.1, e1.2, upd2_same] at h1
      rw [upd2_other _ _ e2] at h2
      rw [un k l hk hl e2] at l2
      have := ((h.uns k l hk hl l2).1.kd g h2).2
      have := o5 g h1
      omega
    · rw [upd2_other _ _ e1] at h1
      rw [un a b ha hb e1] at l1
      by_cases e2 : k = i ∧ l = j
      · rw [e2.1, e2.2, upd2_same] at h2
        have := ((h.uns a b ha hb l1).1.kd g h1).2
        have := o5 g h2
        omega
      · rw [upd2_other _ _ e2] at h2
        rw [un k l hk hl e2] at l2
        exact h.und a b k l ha hb hk hl hne l1 l2 g h1 h2
/-- the beginning of the second loop -/
theorem ClB.ways {cb nb ncap m : Nat} {fv : Value} {vs : Nat → Value} {wr : World} {D : DataW Value} (h : ClB w S L cb nb ncap m fv S.N vs wr) (hN : NetL P w n c S L) (hF : ∀ i j, i < 64 → j < 64 → D.atKey (kk Try.prog i j) (.held zW) = .held (wyV (S.wy i j) (L.uv i j))) : ClC w S cb nb ncap m 0 fv vs L.uv (Maps.has D) wr := by
  have zz : ∀ i j, i < 64 → j < 64 → Maps.has D (kk Try.prog i j) = false → wyV (S.wy i j) (L.uv i j) = zW := fun i j hi hj hl => by
    have h1 := hF i j hi hj
    rw [Maps.atKey_of_not_has hl] at h1
    exact (DataW.held.inj h1).symm
  have nv : ∀ i j, i < S.N → j < S.N → Maps.has D (kk Try.prog i j) = false → L.uv i j = .slice none 0 0 := fun i j hi hj hl => by
    have h64 := hN.n64
    have := zz i j (by omega) (by omega) hl
    unfold wyV zW at this
    simp at this
    exact this.2.2.1
  refine ⟨h.gr, h.net, h.ocb, h.onb, h.om, h.ofv, h.row, h.map.congr (fun i j hi hj => ?_), h.fl, fun i hi => h.own i hi, fun i j hi hj => h.dis i j hi hj, fun i j hi hj hl => ⟨(hN.kept h.gr).uns i j hi hj, fun g hg => ?_⟩, fun i j k l hi hj hk hl hne l1 l2 g hg => ?_⟩
  · unfold clF
    cases hl : Maps.has D (kk Try.prog i j) with
    | true => rw [if_pos rfl]
    | false => rw [if_neg (by simp)]; exact (zz i j hi hj hl).symm
  · rw [nv i j hi hj hl] at hg; simp [Value.ownBlock] at hg
  · rw [nv i j hi hj l1] at hg; simp [Value.ownBlock] at hg
end Go.Proofs.Ytbdlamlplfogjaa
namespace Go.Proofs.Ytbdlamlplfogjaa
open Go.RowKit Go.Maps Go.Joins
variable {P : Nat → Prop} {w w' : World} {n c : Nat} {S : St} {L : Ly}

/-- what Clone answers: the same net in new memory -/
def ClQ (w : World) (c : Nat) (S : St) (r : Ending) (w' : World) : Prop := ∃ n L, r = .returned (.pointer (some ⟨n, 0, none⟩)) ∧ NetL (fun i => w.heap.size ≤ i ∧ i < w'.heap.size) w' n c S L ∧ w.grownBy w' none
theorem usC_one (l : List ByteArray) : ∀ u ∈ usC l, u.oneCell' = true := by
  intro u hu
  simp only [usC, List.mem_map] at hu
  obtain ⟨p, _, rfl⟩ := hu
  rfl
set_option maxHeartbeats 4000000 in
set_option maxRecDepth 100000 in
theorem Clone_any (h : NetL P w n c S L) (hl : S.fl.length ≤ 100000) (hml : ∀ i, (S.ms i).length ≤ 1000000000) (hul : ∀ i j, (S.wy i j).us.length ≤ 1000000000) (hc : c ≤ 1000000000) : Calls Try.prog 7 #[.pointer (some ⟨n, 0, none⟩)] w (ClQ w c S) := by
  have h64 := h.n64
  have H := mkHid h
  obtain ⟨pf, cf, hfv, _⟩ := h.fly.form
  have CS : Hid (∀ W : World, w.grownBy W none → W.cell? ⟨n, 0, none⟩ = some (.slice (some ⟨L.nb, 0, none⟩) S.N L.ncap) ∧ W.cell? ⟨n, 1, none⟩ = some (.map (some L.m)) ∧ W.cell? ⟨n, 2, none⟩ = some (.slice pf S.fl.length cf)) := fun W g => by
    obtain ⟨a, b, d, _⟩ := (h.kept g).cs
    rw [hfv] at d
    exact ⟨a, b, d⟩
  obtain ⟨KM, hKM, LN⟩ : ∃ K : Nat, K ≤ c ∧ Hid (∀ W : World, w.grownBy W none → ∀ ty, (Builtin.len_ #[70] ty #[.map (some L.m)]).run Try.prog W = .ok (.int .i64 K) W) := by
    obtain ⟨n0, D, ho, hn0, _⟩ := h.map
    refine ⟨Maps.size D, Nat.le_trans ho.size_le hn0, fun W g ty => ?_⟩
    exact (ho.kept g (by simp)).len mapW ty
  have CLN : Hid (∀ W : World, w.grownBy W none → Calls Try.prog 26 #[.slice (some ⟨L.nb, 0, none⟩) S.N L.ncap] W (CnQ W S.N (ndC S L.vs))) := fun W g => CloneN0 _ _ _ _ (h.kept g).nodes (by have := h.n64; omega) h.n1
  have CLP : Hid (∀ W : World, w.grownBy W none → Calls Try.prog 27 #[.slice pf S.fl.length cf] W (CpQ W 79 6 S.fl.length (pkC S.fl))) := fun W g => CloneP _ _ _ (by rw [← hfv]; exact (h.kept g).fly) (pkC_one _) (by omega)
  go_enter Try.func7, Try.ntmps7
  go_upto_region 1 with fail
  go_cut [3] from 7 to 24 (fun s3 wx => ∃ cb : Nat, s3 = .pointer (some ⟨cb, 0, none⟩) ∧ Hid (ClA w S L cb wx))
  case first =>
    refine wp_region_noPanic ?_
    refine wp_region_held_drew (S := fun w' => w.grownBy w' none) (by kernel_rfl) (grown_drew (grown_refl w)) (fun h0 => ?_)
    refine take_at (i := 0) (v := .pointer (some ⟨n, 0, none⟩)) rfl rfl (by kernel_rfl) (by kernel_rfl) (by kernel_rfl) (fun _ _ _ h => h) (Or.inl ⟨by rfl, ?_⟩) h0 ?_
    · intro w hSw; (try dsimp only at hSw); obtain ⟨q0, q1, q2⟩ := CS.out _ hSw; have q3 := LN.out _ hSw; go_simp
    simp only [List.setIfInBounds_toArray, List.set_cons_zero, List.set_cons_succ]
    refine take_at (i := 1) (v := .pointer (some ⟨n, 0, none⟩)) rfl rfl (by kernel_rfl) (by kernel_rfl) (by kernel_rfl) (fun _ _ _ h => h) (Or.inl ⟨by rfl, ?_⟩) h0 ?_
    · intro w hSw; (try dsimp only at hSw); obtain ⟨q0, q1, q2⟩ := CS.out _ hSw; have q3 := LN.out _ hSw; go_simp
    simp only [List.setIfInBounds_toArray, List.set_cons_zero, List.set_cons_succ]
    refine take_at (i := 2) (v := .pointer (some ⟨n, 0, none⟩)) rfl rfl (by kernel_rfl) (by kernel_rfl) (by kernel_rfl) (fun _ _ _ h => h) (Or.inl ⟨by rfl, ?_⟩) h0 ?_
    · intro w hSw; (try dsimp only at hSw); obtain ⟨q0, q1, q2⟩ := CS.out _ hSw; have q3 := LN.out _ hSw; go_simp
    simp only [List.setIfInBounds_toArray, List.set_cons_zero, List.set_cons_succ]
    refine take_at (i := 3) (v := .slice (some ⟨L.nb, 0, none⟩) S.N L.ncap) rfl rfl (by kernel_rfl) (by kernel_rfl) (by kernel_rfl) (fun _ _ _ h => h) (Or.inl ⟨by rfl, ?_⟩) h0 ?_
    · intro w hSw; (try dsimp only at hSw); obtain ⟨q0, q1, q2⟩ := CS.out _ hSw; have q3 := LN.out _ hSw; go_simp
    simp only [List.setIfInBounds_toArray, List.set_cons_zero, List.set_cons_succ]
    refine take_at (i := 5) (v := .pointer (some ⟨n, 0, none⟩)) rfl rfl (by kernel_rfl) (by kernel_rfl) (by kernel_rfl) (fun _ _ _ h => h) (Or.inl ⟨by rfl, ?_⟩) h0 ?_
    · intro w hSw; (try dsimp only at hSw); obtain ⟨q0, q1, q2⟩ := CS.out _ hSw; have q3 := LN.out _ hSw; go_simp
    simp only [List.setIfInBounds_toArray, List.set_cons_zero, List.set_cons_succ]
    refine take_at (i := 6) (v := .pointer (some ⟨n, 0, none⟩)) rfl rfl (by kernel_rfl) (by kernel_rfl) (by kernel_rfl) (fun _ _ _ h => h) (Or.inl ⟨by rfl, ?_⟩) h0 ?_
    · intro w hSw; (try dsimp only at hSw); obtain ⟨q0, q1, q2⟩ := CS.out _ hSw; have q3 := LN.out _ hSw; go_simp
    simp only [List.setIfInBounds_toArray, List.set_cons_zero, List.set_cons_succ]
    refine take_at (i := 7) (v := .pointer (some ⟨n, 1, none⟩)) rfl rfl (by kernel_rfl) (by kernel_rfl) (by kernel_rfl) (fun _ _ _ h => h) (Or.inl ⟨by rfl, ?_⟩) h0 ?_
    · intro w hSw; (try dsimp only at hSw); obtain ⟨q0, q1, q2⟩ := CS.out _ hSw; have q3 := LN.out _ hSw; go_simp
    simp only [List.setIfInBounds_toArray, List.set_cons_zero, List.set_cons_succ]
    refine take_at (i := 8) (v := .map (some L.m)) rfl rfl (by kernel_rfl) (by kernel_rfl) (by kernel_rfl) (fun _ _ _ h => h) (Or.inl ⟨by rfl, ?_⟩) h0 ?_
    · intro w hSw; (try dsimp only at hSw); obtain ⟨q0, q1, q2⟩ := CS.out _ hSw; have q3 := LN.out _ hSw; go_simp
    simp only [List.setIfInBounds_toArray, List.set_cons_zero, List.set_cons_succ]
    refine take_at (i := 11) (v := .pointer (some ⟨n, 0, none⟩)) rfl rfl (by kernel_rfl) (by kernel_rfl) (by kernel_rfl) (fun _ _ _ h => h) (Or.inl ⟨by rfl, ?_⟩) h0 ?_
    · intro w hSw; (try dsimp only at hSw); obtain ⟨q0, q1, q2⟩ := CS.out _ hSw; have q3 := LN.out _ hSw; go_simp
    simp only [List.setIfInBounds_toArray, List.set_cons_zero, List.set_cons_succ]
    refine take_at (i := 12) (v := .pointer (some ⟨n, 0, none⟩)) rfl rfl (by kernel_rfl) (by kernel_rfl) (by kernel_rfl) (fun _ _ _ h => h) (Or.inl ⟨by rfl, ?_⟩) h0 ?_
    · intro w hSw; (try dsimp only at hSw); obtain ⟨q0, q1, q2⟩ := CS.out _ hSw; have q3 := LN.out _ hSw; go_simp
    simp only [List.setIfInBounds_toArray, List.set_cons_zero, List.set_cons_succ]
    refine take_at (i := 13) (v := .pointer (some ⟨n, 2, none⟩)) rfl rfl (by kernel_rfl) (by kernel_rfl) (by kernel_rfl) (fun _ _ _ h => h) (Or.inl ⟨by rfl, ?_⟩) h0 ?_
    · intro w hSw; (try dsimp only at hSw); obtain ⟨q0, q1, q2⟩ := CS.out _ hSw; have q3 := LN.out _ hSw; go_simp
    simp only [List.setIfInBounds_toArray, List.set_cons_zero, List.set_cons_succ]
    refine take_at (i := 14) (v := .slice pf S.fl.length cf) rfl rfl (by kernel_rfl) (by kernel_rfl) (by kernel_rfl) (fun _ _ _ h => h) (Or.inl ⟨by rfl, ?_⟩) h0 ?_
    · intro w hSw; (try dsimp only at hSw); obtain ⟨q0, q1, q2⟩ := CS.out _ hSw; have q3 := LN.out _ hSw; go_simp
    simp only [List.setIfInBounds_toArray, List.set_cons_zero, List.set_cons_succ]
    refine wpAnyH_ready (rs := [4]) (by kernel_rfl) (by simp) ?_
    refine AllReadyH.cons rfl (fun K hK => ?_) AllReadyH.nil
    go_simp
    go_at_call 26
    refine (CLN.out _ h0).mono ?_
    rintro e w1 ⟨nb, ncap, rfl, R1, g1, o1⟩
    go_wp2_with fail
    refine hK.out _ _ (grown_none_trans h0 g1) (fun h1 => ?_)
    clear hK K
    refine take_at (i := 9) (v := .int .i64 KM) rfl rfl (by kernel_rfl) (by kernel_rfl) (by kernel_rfl) (fun _ _ _ h => h) (Or.inl ⟨by rfl, ?_⟩) h1 ?_
    · intro w hSw; (try dsimp only at hSw); obtain ⟨q0, q1, q2⟩ := CS.out _ hSw; have q3 := LN.out _ hSw; go_simp
    simp only [List.setIfInBounds_toArray, List.set_cons_zero, List.set_cons_succ]
    refine wpAnyH_ready (rs := [10, 15]) (by kernel_rfl) (by simp) ?_
    refine AllReadyH.cons rfl (fun K hK => ?_) (AllReadyH.cons rfl (fun K hK => ?_) AllReadyH.nil)
    · go_simp
      have gm := World.grownBy_alloc w1 (.map #[] 0) none
      have M2 := Wm_new w1 h64
      have o2 : w.heap.size ≤ w1.heap.size := h1.size
      refine hK.out _ _ (grown_none_trans h1 gm) (fun h2 => ?_)
      clear hK K
      refine wpAnyH_ready (rs := [15]) (by kernel_rfl) (by simp) ?_
      refine AllReadyH.cons rfl (fun K hK => ?_) AllReadyH.nil
      go_simp
      go_at_call 27
      refine (CLP.out _ h2).mono ?_
      rintro e w3 ⟨v3, rfl, s3, g3, o3⟩
      go_wp2_with fail
      refine hK.out _ _ (grown_none_trans h2 g3) (fun h3 => ?_)
      clear hK K
      have g3' : (w1.alloc (.map #[] 0)).grownBy w3 none := g3
      have R3 := (R1.kept gm).kept g3'
      have M3 := M2.kept (Chg.of_none g3' (fun _ => False)) (fun e => e)
      obtain ⟨mb, hmb⟩ : ∃ mb, mb = w1.heap.size := ⟨_, rfl⟩
      rw [← hmb] at M3 o2 ⊢
      clear hmb
      obtain ⟨p3, c3, rfl, _⟩ := s3.form
      refine take_at (i := 16) (v := .agg #[.slice (some ⟨nb, 0, none⟩) S.N ncap, .map (some mb), .slice p3 S.fl.length c3]) rfl rfl (by kernel_rfl) (by kernel_rfl) (by kernel_rfl) (fun _ _ _ h => h) (Or.inl ⟨by rfl, ?_⟩) h3 ?_
      · intro w hSw; (try dsimp only at hSw); go_simp
      simp only [List.setIfInBounds_toArray, List.set_cons_zero, List.set_cons_succ]
      refine wpAnyH_ready (rs := [17]) (by kernel_rfl) (by simp) ?_
      refine AllReadyH.cons rfl (fun K hK => ?_) AllReadyH.nil
      go_simp
      have gb := World.grownBy_alloc w3 (.cells #[.slice (some ⟨nb, 0, none⟩) S.N ncap, .map (some mb), .slice p3 S.fl.length c3] 73) none
      have NN := heap_alloc_new w3 (.cells #[.slice (some ⟨nb, 0, none⟩) S.N ncap, .map (some mb), .slice p3 S.fl.length c3] 73)
      refine hK.out _ _ (grown_none_trans h3 gb) (fun h4 => ?_)
      clear hK K
      have CA : Hid (ClA w S L w3.heap.size (w3.alloc (.cells #[.slice (some ⟨nb, 0, none⟩) S.N ncap, .map (some mb), .slice p3 S.fl.length c3] 73))) := ⟨h4, h3.size, nb, ncap, mb, _, NN, Nat.le_trans h0.size o1, o2, fun g hg => Nat.le_trans h2.size (o3 g hg), R3.kept gb, M3.kept (Chg.of_none gb (fun _ => False)) (fun e => e), s3.kept (Chg.of_none gb (fun _ => False)) (fun _ _ e => e)⟩
      refine take_at (i := 18) (v := .pointer (some ⟨w3.heap.size, 0, none⟩)) rfl rfl (by kernel_rfl) (by kernel_rfl) (by kernel_rfl) (fun _ _ _ h => h) (Or.inl ⟨by rfl, ?_⟩) h4 ?_
      · intro w hSw; (try dsimp only at hSw); go_simp
      simp only [List.setIfInBounds_toArray, List.set_cons_zero, List.set_cons_succ]
      refine wpAnyH_done (by kernel_rfl) ?_ _
      refine NoPanic.normal ?_
      go_wp2_with fail
      go_meet
      case rel => exact ⟨_, rfl, CA⟩
    · go_simp
      go_at_call 27
      refine (CLP.out _ h1).mono ?_
      rintro e w2 ⟨v3, rfl, s2, g2, o3⟩
      go_wp2_with fail
      refine hK.out _ _ (grown_none_trans h1 g2) (fun h2 => ?_)
      clear hK K
      refine wpAnyH_ready (rs := [10]) (by kernel_rfl) (by simp) ?_
      refine AllReadyH.cons rfl (fun K hK => ?_) AllReadyH.nil
      go_simp
      have gm := World.grownBy_alloc w2 (.map #[] 0) none
      have M3 := Wm_new w2 h64
      have o2 : w.heap.size ≤ w2.heap.size := h2.size
      refine hK.out _ _ (grown_none_trans h2 gm) (fun h3 => ?_)
      clear hK K
      have R3 := (R1.kept g2).kept gm
      have s3 := s2.kept (Chg.of_none gm (fun _ => False)) (fun _ _ e => e)
      have h3 : w.grownBy (w2.alloc (.map #[] 0)) none := h3
      obtain ⟨mb, hmb⟩ : ∃ mb, mb = w2.heap.size := ⟨_, rfl⟩
      rw [← hmb] at M3 o2 ⊢
      clear hmb
      obtain ⟨p3, c3, rfl, _⟩ := s3.form
      refine take_at (i := 16) (v := .agg #[.slice (some ⟨nb, 0, none⟩) S.N ncap, .map (some mb), .slice p3 S.fl.length c3]) rfl rfl (by kernel_rfl) (by kernel_rfl) (by kernel_rfl) (fun _ _ _ h => h) (Or.inl ⟨by rfl, ?_⟩) h3 ?_
      · intro w hSw; (try dsimp only at hSw); go_simp
      simp only [List.setIfInBounds_toArray, List.set_cons_zero, List.set_cons_succ]
      refine wpAnyH_ready (rs := [17]) (by kernel_rfl) (by simp) ?_
      refine AllReadyH.cons rfl (fun K hK => ?_) AllReadyH.nil
      go_simp
      have gb := World.grownBy_alloc (w2.alloc (.map #[] 0)) (.cells #[.slice (some ⟨nb, 0, none⟩) S.N ncap, .map (some mb), .slice p3 S.fl.length c3] 73) none
      have NN := heap_alloc_new (w2.alloc (.map #[] 0)) (.cells #[.slice (some ⟨nb, 0, none⟩) S.N ncap, .map (some mb), .slice p3 S.fl.length c3] 73)
      refine hK.out _ _ (grown_none_trans h3 gb) (fun h4 => ?_)
      clear hK K
      have CA : Hid (ClA w S L (w2.alloc (.map #[] 0)).heap.size ((w2.alloc (.map #[] 0)).alloc (.cells #[.slice (some ⟨nb, 0, none⟩) S.N ncap, .map (some mb), .slice p3 S.fl.length c3] 73))) := ⟨h4, h3.size, nb, ncap, mb, _, NN, Nat.le_trans h0.size o1, o2, fun g hg => Nat.le_trans h1.size (o3 g hg), R3.kept gb, M3.kept (Chg.of_none gb (fun _ => False)) (fun e => e), s3.kept (Chg.of_none gb (fun _ => False)) (fun _ _ e => e)⟩
      refine take_at (i := 18) (v := .pointer (some ⟨(w2.alloc (.map #[] 0)).heap.size, 0, none⟩)) rfl rfl (by kernel_rfl) (by kernel_rfl) (by kernel_rfl) (fun _ _ _ h => h) (Or.inl ⟨by rfl, ?_⟩) h4 ?_
      · intro w hSw; (try dsimp only at hSw); go_simp
      simp only [List.setIfInBounds_toArray, List.set_cons_zero, List.set_cons_succ]
      refine wpAnyH_done (by kernel_rfl) ?_ _
      refine NoPanic.normal ?_
      go_wp2_with fail
      go_meet
      case rel => exact ⟨_, rfl, CA⟩
  case rest =>
    obtain ⟨cb, rfl, CA⟩ := hcut
    obtain ⟨nb, ncap, m, fv, hnet, onb, om, ofv, hrow, hmap, hfl⟩ := CA.out.ex
    have c0' : wc.cell? ⟨cb, 0, none⟩ = some (.slice (some ⟨nb, 0, none⟩) S.N ncap) := (cell_of_block hnet 0).trans rfl
    have B0 : Hid (ClB w S L cb nb ncap m fv 0 L.vs wc) := ⟨CA.out.gr, hnet, CA.out.ge, onb, om, ofv, hrow, hmap, hfl, fun i hi => by omega, fun _ _ => rfl, fun i j hi => by omega⟩
    obtain ⟨N, hN⟩ : ∃ N, N = S.N := ⟨_, rfl⟩
    have HN := mkHid hN
    rw [← hN] at c0'
    clear hnet hrow hmap hfl hN
    go_wp2_with fail
    go_loopw [30] (fun s30 wr => ∃ (k : Nat) (vs : Nat → Value), s30 = .int .i64 (k : Int) ∧ k ≤ N ∧ Hid (ClB w S L cb nb ncap m fv k vs wr)) (fun s30 _ => N - (intOf s30).toNat)
    case atStart => exact ⟨0, L.vs, rfl, Nat.zero_le _, B0⟩
    case round =>
      obtain ⟨k, vs, rfl, hk, CB⟩ := hrel
      by_cases hlt : k < N
      · have hlti : (k : Int) < (N : Int) := by omega
        have hkN : k < S.N := by rw [← show N = S.N from HN.out]; exact hlt
        obtain ⟨cur, hb, r1, r2, r3, r4⟩ := CB.out.row
        have x0 : wr.cell? ⟨cb, 0, none⟩ = some (.slice (some ⟨nb, 0, none⟩) N ncap) := by rw [show N = S.N from HN.out]; exact (cell_of_block CB.out.net 0).trans rfl
        have x1 : wr.cell? ⟨nb, k * 2 + 1, none⟩ = some (L.vs k) := by
          have := (cell_of_block hb (k * 2 + 1)).trans (r4 _ _ (ndC_get S vs k hkN).2)
          rw [CB.out.old k (Nat.le_refl _)] at this; exact this
        obtain ⟨pv, cv, hv, _⟩ := (H.out.wts k hkN).form
        rw [hv] at x1
        have CM : Hid (∀ W : World, wr.grownBy W none → Calls Try.prog 28 #[.slice pv (S.ms k).length cv] W fun e w' => ∃ p5 c5, e = .returned (.slice p5 (S.ms k).length c5) ∧ shr w' 82 2 (.slice p5 (S.ms k).length c5) (S.ms k).length (msC (S.ms k)) ∧ wr.grownBy w' none ∧ (∀ g, (Value.slice p5 (S.ms k).length c5).ownBlock = some g → wr.heap.size ≤ g) ∧ w'.cell? ⟨cb, 0, none⟩ = some (.slice (some ⟨nb, 0, none⟩) N ncap) ∧ w'.cell? ⟨nb, k * 2 + 1, none⟩ = some (.slice pv (S.ms k).length cv) ∧ w'.frozen? ⟨nb, k * 2 + 1, none⟩ = false) := fun W gW => by
          refine (CloneM (.slice pv (S.ms k).length cv) (S.ms k).length (msC (S.ms k)) (by rw [← hv]; exact ((H.out.kept CB.out.gr).kept gW).wts k hkN) (msC_one _) (hml k)).mono ?_
          rintro e w5 ⟨v5, rfl, s5, g5, o5⟩
          obtain ⟨p5, c5, rfl, _⟩ := s5.form
          have g6 := grown_none_trans gW g5
          refine ⟨p5, c5, rfl, s5, g6, fun g hg => Nat.le_trans gW.size (o5 g hg), ?_, ?_, ?_⟩
          · rw [show N = S.N from HN.out]; exact (cell_of_block (box_keep CB.out.net g6 (by simp)) 0).trans rfl
          · have := (cell_of_block (box_keep hb g6 (by simp)) (k * 2 + 1)).trans (r4 _ _ (ndC_get S vs k hkN).2)
            rw [CB.out.old k (Nat.le_refl _), hv] at this; exact this
          · exact unfrozen_of_block (box_keep hb g6 (by simp)) _
        have HV := mkHid hv
        clear hb r1 r2 r3 r4 hv
        go_wp2_with fail
        go_region_with ((go_at_call 28; refine (CM.out _ (grown_drew (grown_refl _))).mono ?_; rintro e w5 ⟨p5, c5, rfl, s5, g5, o5, y0, y1, yf⟩))
        all_goals
          have NB : Hid (ClB w S L cb nb ncap m fv (k + 1) (upd vs k (.slice p5 (S.ms k).length c5)) (w5.setCell ⟨nb, k * 2 + 1, none⟩ (.slice p5 (S.ms k).length c5))) := CB.out.next hkN s5 g5 o5
          clear s5 g5 o5
          go_wp2_with fail
          go_roundw
          case rel => exact ⟨k + 1, _, by go_num, hlt, NB⟩
          case measure => simp [intOf]; omega
      · obtain rfl : k = N := by omega
        have CBN : ClB w S L cb nb ncap m fv S.N vs wr := by rw [← show k = S.N from HN.out]; exact CB.out
        obtain ⟨n0, D, ho, hn0, _, hH, hF⟩ := H.out.map
        have ho' := ho.kept CBN.gr (by simp)
        have C0 := mkHid (CBN.ways H.out hF)
        have x1 : wr.cell? ⟨n, 1, none⟩ = some (.map (some L.m)) := (H.out.kept CBN.gr).cs.2.1
        have Lm : L.m < w.heap.size := H.out.pb _ H.out.pm
        have hsz := CBN.gr.size
        clear CBN CB ho
        go_wp2_with (first
          | (at_range; refine wpList_range_own _ rfl _ 70 rfl 76 84 keyE mapW hR L.m n0 D rfl ho' ?_; intro w0 hrg0 hg0 hs0)
          | go_in)
        (try go_frame)
        obtain ⟨r, hr⟩ : ∃ r, r = wr.heap.size := ⟨_, rfl⟩
        rw [← hr] at hrg0 ⊢
        have hro : w.heap.size ≤ r := by rw [hr]; exact hsz
        have C1 := mkHid (C0.out.kept hg0 (fun r e => by cases e))
        have szD : Maps.size D ≤ n0 := ho'.size_le
        clear C0 ho' hr hsz x1 hg0 hs0
        go_loopw [] (fun wr => ∃ (left : Lit → Bool) (cnt K : Nat) (uv : Nat → Nat → Value), wr.ranges Try.prog 76 hR L.m r n0 D left cnt ∧ Hid (ClC w S cb nb ncap m K fv vs uv left wr) ∧ K + cnt ≤ c ∧ (∀ kl, left kl = true → Maps.has D kl = true)) (fun wr => wr.rangeLeft L.m r)
        case atStart => exact ⟨_, _, 0, L.uv, hrg0, C1, by omega, fun _ h => h⟩
        case round =>
          obtain ⟨left, cnt, K, uv, hrg, CC, hKc, hsub⟩ := hrel
          go_wp2_with (first
            | (at_next; refine wpList_next_ranges _ rfl _ rfl 76 keyE hR (fun v => v) (fun v => v) (fun key kl _ => ⟨key, rfl⟩) (fun v y _ => ⟨v, rfl⟩) L.m r n0 D left cnt rfl hrg ?_ ?_)
            | go_in)
          · intro _ hl0
            have FIN : Hid (∃ L', NetL (fun i => w.heap.size ≤ i ∧ i < wr.heap.size) wr cb c S L') := by
              obtain ⟨L', h'⟩ := CC.out.fin hl0 H.out.n1 H.out.n64
              exact ⟨L', h'.le (by omega)⟩
            have GR := mkHid CC.out.gr
            clear hrg
            go_wp2_with fail
            go_ret
            obtain ⟨L', h'⟩ := FIN.out
            exact ⟨cb, L', rfl, h', GR.out⟩
          · intro x y kl yy yp w1 cnt1 hkey hlk hv hat hrg1 hlt1 hg1 hs1 hen
            obtain ⟨i, j, hi, hj, rfl⟩ := hH kl (hsub kl hlk)
            have hi64 : i < 64 := by omega
            have hj64 : j < 64 := by omega
            obtain rfl : x = ky i j := keyE.inj hkey (ky_in hi64 hj64)
            have ey : y = wyV (S.wy i j) (L.uv i j) := by
              have h1 := hat (.held zW)
              rw [hF i j hi64 hj64] at h1
              have h2 : yy = .held y := by
                have : some (DataW.held y, ([] : List MemPlace)) = some (yy, yp) := hv
                cases this; rfl
              rw [h2] at h1
              exact (DataW.held.inj h1).symm
            subst ey
            have hrk : wr.heap[r]? ≠ none := by
              have := hrg.lt
              rw [Array.getElem?_eq_getElem this]; simp
            have k0 : ∀ o, wr.heap[r]? = some o → kd wr r = 0 := fun o ho => by
              obtain ⟨es, clock, since, seen, c0, _, _, _, _, hri, _⟩ := hrg
              unfold kd; rw [hri]
            have C2 := CC.out.kept hg1 (fun q e => by cases e; exact ⟨hro, k0⟩)
            have hNw1 := H.out.kept C2.gr
            obtain ⟨pu, cu, hu, _⟩ := (hNw1.uns i j hi hj).form
            have CSS : Hid (∀ W : World, w1.grownBy W none → Calls Try.prog 29 #[.slice pu (S.wy i j).us.length cu] W (CpQ W 9 1 (S.wy i j).us.length (usC (S.wy i j).us))) := fun W gW => CloneS _ _ _ (by rw [← hu]; exact (hNw1.kept gW).uns i j hi hj) (usC_one _) (hul i j)
            have HU := mkHid hu
            have GA := mkHid (grown_al (grown_al (grown_refl w1) (.cells #[.int .i64 i, .int .i64 j] 76)) (.cells #[.int .u64 (S.wy i j).b, .int .u64 (S.wy i j).t, L.uv i j, .int .u64 (S.wy i j).c] 84))
            have B1 := mkHid (al2_fst w1 (.cells #[.int .i64 i, .int .i64 j] 76) (.cells #[.int .u64 (S.wy i j).b, .int .u64 (S.wy i j).t, L.uv i j, .int .u64 (S.wy i j).c] 84))
            have B2 := mkHid (al2_snd w1 (.cells #[.int .i64 i, .int .i64 j] 76) (.cells #[.int .u64 (S.wy i j).b, .int .u64 (S.wy i j).t, L.uv i j, .int .u64 (S.wy i j).c] 84))
            rw [hu] at GA B1 B2
            unfold ky wyV at hen
            unfold ky wyV
            rw [hu] at hen
            (try rw [hu])
            have HC2 := mkHid C2
            have HG1 := mkHid hrg1
            have HG0 := mkHid hrg
            clear hat hv hkey hu C2 hNw1 k0 hrk hrg1 hrg hg1 hs1 CC
            go_wp2_with fail
            refine (CSS.out _ GA.out).mono ?_
            rintro e w5 ⟨v5, rfl, s5, g5, o5⟩
            obtain ⟨p5, c5, rfl, _⟩ := s5.form
            have X1 := box_keep B1.out g5 (by simp)
            have X2 := box_keep B2.out g5 (by simp)
            obtain ⟨a0, a1, _⟩ := cells2 X1
            obtain ⟨d0, d1, d2, d3, df⟩ := cells4 X2
            have df2 := df 2
            have g15 := grown_none_trans GA.out g5
            have g16 : w1.grownBy (w5.setCell ⟨w1.heap.size + 1, 2, none⟩ (.slice p5 (S.wy i j).us.length c5)).drew none := grown_drew (grown_set g15 _ _ (Nat.le_succ _))
            have C6 := HC2.out.kept g16 (fun q e => by cases e)
            have kb : kd w5 (w1.heap.size + 1) = 84 + 2 := kd_cells X2
            have s6 := (s5.kept (Chg.of_cell w5 ⟨w1.heap.size + 1, 2, none⟩ (.slice p5 (S.wy i j).us.length c5)) (fun g hg e => by
              have e : g = w1.heap.size + 1 := e
              have := (s5.kd g hg).1
              rw [e, kb] at this; simp at this)).kept (Chg.drew (Chg.refl (fun _ => False) _)) (fun _ _ e => e)
            obtain ⟨w6, up, m6, g6⟩ := C6.map.put hi hj (wyV (S.wy i j) (.slice p5 (S.wy i j).us.length c5)) (by omega)
            have CN := mkHid (HC2.out.next H.out.n64 hi hj g16 s6 (fun g hg => Nat.le_trans GA.out.size (o5 g hg)) m6 g6)
            have omm : w.heap.size ≤ m := HC2.out.om
            have RN := mkHid ((HG1.out.kept g16 (by simp) (by simp)).kept g6 (by simp; omega) (by
              intro e
              have e : r = m := by simpa using e
              have h1 := C6.map.kd.1
              obtain ⟨es, clock, since, seen, c0, _, _, _, _, hri, _⟩ := HG1.out.kept g16 (by simp) (by simp)
              rw [← e] at h1
              unfold kd at h1
              rw [hri] at h1; simp at h1))
            have cbn : w5.cell? ⟨cb, 1, none⟩ = some (.map (some m)) := (cell_of_block (HC2.out.kept g15 (fun q e => by cases e)).net 1).trans rfl
            have ocb := lt_of_heap (HC2.out.net)
            have hcb : cb ≠ w1.heap.size + 1 := by omega
            have hcb2 : w1.heap.size + 1 ≠ cb := by omega
            unfold ky wyV at up
            clear s5 g5 o5 X1 X2 df g15 g16 C6 kb s6 m6 g6
            go_wp2_with fail
            go_region
            all_goals
              go_wp2_with fail
              go_roundw
              case rel => exact ⟨_, cnt1, K + 1, _, RN.out, CN, by omega, fun kl hl => hsub kl (by simp at hl; exact hl.1)⟩
              case measure => rw [RN.out.left_eq, HG0.out.left_eq]; exact hlt1
end Go.Proofs.Ytbdlamlplfogjaa
