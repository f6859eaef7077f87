/-
  Walks: a network that is the same.
-/
import Derived.Test.YtpghkbbhcpcbdaaNtW
namespace Go.Proofs.Ytpghkbbhcpcbdaa
open Go.RowKit Go.Maps Go.Joins
variable {P : Nat → Prop} {w w' : World} {n c : Nat} {S : St} {L : Ly}

/-- a row that begins with its block -/
def row0 (w : World) (e : TypeId) (sz g k cap : Nat) (xs : List Value) : Prop := ∃ cur : Array Value, w.heap[g]? = some (.cells cur e (0, 0)) ∧ k ≤ cap ∧ cap ≤ maxLen ∧ cur.size = cap * sz ∧ ∀ (j : Nat) (u : Value), xs[j]? = some u → cur[j]? = some u
theorem row0.kept {e : TypeId} {sz g k cap : Nat} {xs : List Value} (h : row0 w e sz g k cap xs) (hg : w.grownBy w' none) : row0 w' e sz g k cap xs := by
  obtain ⟨cur, hb, r⟩ := h
  exact ⟨cur, box_keep hb hg (by simp), r⟩
theorem Rw.copy0 {t e : TypeId} {z : Value} {sz by' : Nat} (R : Rw t e z sz by') {k cap : Nat} {xs : List Value} {a : Addr} (h : shr w e sz (.slice (some a) k cap) k xs) (hl : k ≤ 1000000000) (hk : 0 < k) :
    ∃ g c' w', (∀ ty, (Builtin.append_ #[t, t] ty #[.slice (some ⟨w.heap.size, 0, none⟩) 0 0, .slice (some a) k cap]).run Try.prog (w.alloc (.cells #[] e)) = .ok (.slice (some ⟨g, 0, none⟩) k c') w') ∧ row0 w' e sz g k c' xs ∧ w.grownBy w' none ∧ w.heap.size ≤ g := by
  have g1 := World.grownBy_alloc w (.cells #[] e) none
  have h' := h.kept (Chg.of_none g1 (fun _ => False)) (fun _ _ e => e)
  obtain ⟨g, off, rfl, hc⟩ := h'.cell
  obtain ⟨i, hi, hz, hs, hb⟩ := info_parts R.inf
  have hsl := R.sl; have hzs := R.zs; have hsm := R.sm
  have hx := h.1
  clear R h h'
  subst hs hb
  have hby : (0 + k) * i.bytes ≤ 140737488355328 := by
    have : (0 + k) * i.bytes ≤ 1000000000 * 64 := Nat.mul_le_mul (by omega) hsm
    omega
  have hr := fun ty => run_append_grow (P := Try.prog) (w.alloc (.cells #[] e)) t ty e i z hsl hi hz ⟨w.heap.size, 0, none⟩ 0 0 [] (by simp) (fun j u hj => by simp at hj) ⟨g, off, none⟩ k cap xs hx (fun j u hj => by rw [add_plain]; exact hc j u hj) (by omega) (by omega) (growslice_fits (by omega) hby)
  have hge := grownCap_ge (w.alloc (.cells #[] e)) (0 + k) 0 e
  have hcm := grownCap_le_maxLen (w.alloc (.cells #[] e)) (0 + k) 0 e (by unfold maxLen; omega)
  rw [Nat.zero_add] at hr hge hcm
  refine ⟨_, _, _, hr, ⟨_, heap_alloc_new _ _, hge, hcm, ?_, fun j u hj => ?_⟩, grown_none_trans g1 ⟨rfl, rfl, rfl, by simp, fun k hk _ => heap_alloc_old _ _ (by simpa using hk)⟩, by simp⟩
  · rw [Array.size_append, Array.size_append, size_zeroCells, hzs, List.size_toArray, List.size_toArray, hx, List.length_nil, Nat.zero_add, ← Nat.add_mul]
    exact congrArg (· * i.size) (by omega)
  · have hjl := (List.getElem?_eq_some_iff.1 hj).1
    rw [Array.getElem?_append_left (by simpa using hjl), List.append_toArray]
    simpa using hj
/-- what a copy of nodes is -/
def CnQ (w : World) (k : Nat) (xs : List Value) (r : Ending) (w' : World) : Prop := ∃ g cap, r = .returned (.slice (some ⟨g, 0, none⟩) k cap) ∧ row0 w' 69 2 g k cap xs ∧ w.grownBy w' none ∧ w.heap.size ≤ g
set_option maxHeartbeats 1000000 in
set_option maxRecDepth 100000 in
theorem CloneN0 (a : Addr) (k cap : Nat) (xs : List Value) (h : shr w 69 2 (.slice (some a) k cap) k xs) (hl : k ≤ 1000000000) (hk : 0 < k) : Calls Try.prog 26 #[.slice (some a) k cap] w (CnQ w k xs) := by
  obtain ⟨g, c', w1, hr, s1, g1, o1⟩ := rwN.copy0 h hl hk
  have nq := Lib.run_eql_slice_nil (P := Try.prog) w 65 69 (some a) k cap 0 0 rwN.sl
  have S1 := mkHid s1
  have G1 := mkHid g1
  have O1 := mkHid o1
  clear h s1 g1 o1
  go_enter Try.func26, Try.ntmps26
  go_wp2_with (first | (at_builtin; refine wp_app 65 rfl (.tmp 5) (.tmp 6) rfl rfl rfl hr ?_) | fail)
  go_ret
  exact ⟨_, _, rfl, S1.out, G1.out, O1.out⟩
/-- the nodes' cells -/
def ndC (S : St) (vs : Nat → Value) : List Value := (List.range S.N).flatMap fun i => [.bool (S.dn i), vs i]
theorem ndC_len (S : St) (vs : Nat → Value) : (ndC S vs).length = S.N * 2 := by
  unfold ndC
  induction S.N with
  | zero => rfl
  | succ N ih => rw [List.range_succ, List.flatMap_append, List.length_append, ih]; simp; omega
theorem ndC_get (S : St) (vs : Nat → Value) : ∀ i, i < S.N → (ndC S vs)[i * 2]? = some (.bool (S.dn i)) ∧ (ndC S vs)[i * 2 + 1]? = some (vs i) := by
  unfold ndC
  intro i
  generalize hN : S.N = N
  clear hN
  induction N with
  | zero => intro h; omega
  | succ N ih =>
    intro h
    have hl : ((List.range N).flatMap fun i => [Value.bool (S.dn i), vs i]).length = N * 2 := by
      clear ih h
      induction N with
      | zero => rfl
      | succ N ih => rw [List.range_succ, List.flatMap_append, List.length_append, ih]; simp; omega
    rw [List.range_succ, List.flatMap_append]
    rcases Nat.lt_or_ge i N with h1 | h1
    · rw [List.getElem?_append_left (by omega), List.getElem?_append_left (by omega)]
      exact ih h1
    · obtain rfl : i = N := by omega
      rw [List.getElem?_append_right (by omega), List.getElem?_append_right (by omega), hl, Nat.sub_self, show i * 2 + 1 - i * 2 = 1 by omega]
      exact ⟨rfl, rfl⟩
theorem NetL.nodes (h : NetL P w n c S L) : shr w 69 2 (.slice (some ⟨L.nb, 0, none⟩) S.N L.ncap) S.N (ndC S L.vs) := by
  obtain ⟨cur, hb, r1, r2, r3, r4⟩ := h.nds
  refine ⟨ndC_len S L.vs, Or.inr ⟨L.nb, 0, L.ncap, cur, rfl, hb, r1, r2, Or.inr (by omega), fun j u hj => ?_⟩⟩
  have hl := (List.getElem?_eq_some_iff.1 hj).1
  rw [ndC_len] at hl
  have := ndC_get S L.vs (j / 2) (by omega)
  have q := r4 (j / 2) (by omega)
  rw [Nat.zero_add]
  rcases (show j % 2 = 0 ∨ j % 2 = 1 by omega) with z | z
  · have e : j = j / 2 * 2 := by omega
    rw [e] at hj ⊢
    rw [this.1] at hj; cases hj; exact q.1
  · have e : j = j / 2 * 2 + 1 := by omega
    rw [e] at hj ⊢
    rw [this.2] at hj; cases hj; exact q.2
/-- the clone when its own block is there: lists that are still shared -/
structure ClA (w : World) (S : St) (L : Ly) (cb : Nat) (wx : World) : Prop where
  gr : w.grownBy wx none
  ge : w.heap.size ≤ cb
  ex : ∃ nb ncap m fv, wx.heap[cb]? = some (.cells #[.slice (some ⟨nb, 0, none⟩) S.N ncap, .map (some m), fv] 73 (0, 0)) ∧ w.heap.size ≤ nb ∧ w.heap.size ≤ m ∧ (∀ g, fv.ownBlock = some g → w.heap.size ≤ g) ∧ row0 wx 69 2 nb S.N ncap (ndC S L.vs) ∧ Wm wx m 0 S.N (fun _ _ => zW) ∧ shr wx 79 6 fv S.fl.length (pkC S.fl)
theorem Wm_new (w : World) {N : Nat} (hN : N ≤ 64) : Wm (w.alloc (.map #[] 0)) w.heap.size 0 N (fun _ _ => zW) := ⟨0, _, World.ownsMap_made w _ _ _, Nat.le_refl _, hN, (fun kl h => by simp [Maps.has_eq] at h), fun _ _ _ _ => rfl⟩
/-- the clone while its nodes' lists are being copied: those of the first k are its own -/
structure ClB (w : World) (S : St) (L : Ly) (cb nb ncap m : Nat) (fv : Value) (k : Nat) (vs : Nat → Value) (wr : World) : Prop where
  gr : w.grownBy wr none
  net : wr.heap[cb]? = some (.cells #[.slice (some ⟨nb, 0, none⟩) S.N ncap, .map (some m), fv] 73 (0, 0))
  ocb : w.heap.size ≤ cb
  onb : w.heap.size ≤ nb
  om : w.heap.size ≤ m
  ofv : ∀ g, fv.ownBlock = some g → w.heap.size ≤ g
  row : row0 wr 69 2 nb S.N ncap (ndC S vs)
  map : Wm wr m 0 S.N (fun _ _ => zW)
  fl : shr wr 79 6 fv S.fl.length (pkC S.fl)
  own : ∀ i, i < k → shr wr 82 2 (vs i) (S.ms i).length (msC (S.ms i)) ∧ ∀ g, (vs i).ownBlock = some g → w.heap.size ≤ g
  old : ∀ i, k ≤ i → vs i = L.vs i
  dis : ∀ i j, i < k → j < k → i ≠ j → ∀ g, (vs i).ownBlock = some g → (vs j).ownBlock ≠ some g
theorem msC_one (l : List (Nat × ByteArray)) : ∀ u ∈ msC l, u.oneCell' = true := by
  intro u hu
  simp only [msC, List.mem_flatMap] at hu
  obtain ⟨p, _, h⟩ := hu
  simp only [msL, List.mem_cons, List.mem_nil_iff, or_false] at h
  rcases h with rfl | rfl <;> rfl
theorem ClB.next {cb nb ncap m k : Nat} {fv v5 : Value} {vs : Nat → Value} {wr w5 : World} (h : ClB w S L cb nb ncap m fv k vs wr) (hk : k < S.N) (s5 : shr w5 82 2 v5 (S.ms k).length (msC (S.ms k))) (g5 : wr.grownBy w5 none) (o5 : ∀ g, v5.ownBlock = some g → wr.heap.size ≤ g) :
    ClB w S L cb nb ncap m fv (k + 1) (upd vs k v5) (w5.setCell ⟨nb, k * 2 + 1, none⟩ v5) := by
  obtain ⟨cur, hb, r1, r2, r3, r4⟩ := h.row
  have hb5 := box_keep hb g5 (by simp)
  have knb : kd w5 nb = 69 + 2 := kd_cells hb5
  have CC := Chg.of_cell w5 ⟨nb, k * 2 + 1, none⟩ v5
  have no : ∀ b t, kd w5 b = t → t ≠ 69 + 2 → ¬ b = nb := fun b t hb ht e => ht (by rw [← hb, e, knb])
  have gg := grown_none_trans h.gr g5
  have k5 : ∀ {e : TypeId} {sz n : Nat} {v : Value} {xs : List Value}, shr w5 e sz v n xs → e ≠ 69 → shr (w5.setCell ⟨nb, k * 2 + 1, none⟩ v5) e sz v n xs := fun hs he => hs.kept CC (fun g hg => no g _ (hs.kd g hg).1 (by simp; exact he))
  refine ⟨grown_set gg _ _ h.onb, (heap_setCell_other w5 ⟨nb, k * 2 + 1, none⟩ cb v5 (no cb _ (kd_cells (box_keep h.net g5 (by simp))) (by decide))).trans (box_keep h.net g5 (by simp)), h.ocb, h.onb, h.om, h.ofv, ⟨cur.setIfInBounds (k * 2 + 1) v5, block_setCell hb5 _, r1, r2, by simp [r3], fun j u hj => ?_⟩, ?_, k5 (h.fl.kept (Chg.of_none g5 (fun _ => False)) (fun _ _ e => e)) (by decide), fun i hi => ?_, fun i hi => ?_, fun i j hi hj hne g h1 h2 => ?_⟩
  · have hl := (List.getElem?_eq_some_iff.1 hj).1
    rw [ndC_len] at hl
    have q := ndC_get S (upd vs k v5) (j / 2) (by omega)
    have q0 := ndC_get S vs (j / 2) (by omega)
    rcases (show j % 2 = 0 ∨ j % 2 = 1 by omega) with z | z
    · have e : j = j / 2 * 2 := by omega
      rw [e] at hj ⊢
      rw [q.1] at hj
      rw [Array.getElem?_setIfInBounds, if_neg (by omega)]
      exact r4 _ _ (q0.1.trans hj)
    · have e : j = j / 2 * 2 + 1 := by omega
      rw [e] at hj ⊢
      rw [q.2] at hj
      by_cases ek : j / 2 = k
      · rw [ek] at hj ⊢
        rw [upd_same] at hj
        rw [Array.getElem?_setIfInBounds, if_pos rfl, if_pos (by omega)]; exact hj
      · rw [upd_other _ _ ek] at hj
        rw [Array.getElem?_setIfInBounds, if_neg (by omega)]
        exact r4 _ _ (q0.2.trans hj)
  · have := h.map.kept (Chg.of_none g5 (fun _ => False)) (fun e => e)
    exact this.kept CC (no m _ this.kd.1 (by decide))
  · by_cases e : i = k
    · rw [e, upd_same]
      exact ⟨k5 s5 (by decide), fun g hg => Nat.le_trans h.gr.size (o5 g hg)⟩
    · rw [upd_other _ _ e]
      have := h.own i (by omega)
      exact ⟨k5 (this.1.kept (Chg.of_none g5 (fun _ => False)) (fun _ _ e => e)) (by decide), this.2⟩
  · rw [upd_other _ _ (by omega)]; exact h.old i (by omega)
  · by_cases e1 : i = k
    · rw [e1, upd_same] at h1
      rw [upd_other _ _ (by omega)] at h2
      have := ((h.own j (by omega)).1.kd g h2).2
      have := o5 g h1
      omega
    · rw [upd_other _ _ e1] at h1
      by_cases e2 : j = k
      · rw [e2, upd_same] at h2
        have := ((h.own i (by omega)).1.kd g h1).2
        have := o5 g h2
        omega
      · rw [upd_other _ _ e2] at h2
        exact h.dis i j (by omega) (by omega) hne g h1 h2
/-- what stands in the clone's map while it is being filled -/
def clF (Pr : Program) (S : St) (uv : Nat → Nat → Value) (left : Lit → Bool) : Nat → Nat → Value := fun i j => if left (kk Pr i j) = true then zW else wyV (S.wy i j) (uv i j)
/-- the clone while its ways are being copied -/
structure ClC (w : World) (S : St) (cb nb ncap m K : Nat) (fv : Value) (vs : Nat → Value) (uv : Nat → Nat → Value) (left : Lit → Bool) (wr : World) : Prop where
  gr : w.grownBy wr none
  net : wr.heap[cb]? = some (.cells #[.slice (some ⟨nb, 0, none⟩) S.N ncap, .map (some m), fv] 73 (0, 0))
  ocb : w.heap.size ≤ cb
  onb : w.heap.size ≤ nb
  om : w.heap.size ≤ m
  ofv : ∀ g, fv.ownBlock = some g → w.heap.size ≤ g
  row : row0 wr 69 2 nb S.N ncap (ndC S vs)
  map : Wm wr m K S.N (clF Try.prog S uv left)
  fl : shr wr 79 6 fv S.fl.length (pkC S.fl)
  own : ∀ i, i < S.N → shr wr 82 2 (vs i) (S.ms i).length (msC (S.ms i)) ∧ ∀ g, (vs i).ownBlock = some g → w.heap.size ≤ g
  dis : ∀ i j, i < S.N → j < S.N → i ≠ j → ∀ g, (vs i).ownBlock = some g → (vs j).ownBlock ≠ some g
  uns : ∀ i j, i < S.N → j < S.N → left (kk Try.prog i j) = false → shr wr 9 1 (uv i j) (S.wy i j).us.length (usC (S.wy i j).us) ∧ ∀ g, (uv i j).ownBlock = some g → w.heap.size ≤ g
  und : ∀ i j k l, i < S.N → j < S.N → k < S.N → l < S.N → ¬ (k = i ∧ l = j) → left (kk Try.prog i j) = false → left (kk Try.prog k l) = false → ∀ g, (uv i j).ownBlock = some g → (uv k l).ownBlock ≠ some g
theorem ClC.kept {cb nb ncap m K : Nat} {fv : Value} {vs : Nat → Value} {uv : Nat → Nat → Value} {left : Lit → Bool} {wr w5 : World} (h : ClC w S cb nb ncap m K fv vs uv left wr) {row : Option Nat} (g5 : wr.grownBy w5 row) (hr : ∀ r, row = some r → w.heap.size ≤ r ∧ (∀ o, wr.heap[r]? = some o → kd wr r = 0)) : ClC w S cb nb ncap m K fv vs uv left w5 := by
  have C5 := Chg.of_grown g5
  have no : ∀ b, b < wr.heap.size → kd wr b ≠ 0 → ¬ row = some b := fun b hb hk e => by
    obtain ⟨o, ho⟩ : ∃ o, wr.heap[b]? = some o := ⟨_, Array.getElem?_eq_getElem hb⟩
    exact hk ((hr b e).2 o ho)
  have ns : ∀ {e : TypeId} {sz n : Nat} {v : Value} {xs : List Value}, shr wr e sz v n xs → shr w5 e sz v n xs := fun hs => hs.kept C5 (fun g hg => no g (hs.kd g hg).2 (by rw [(hs.kd g hg).1]; omega))
  obtain ⟨cur, hb, r⟩ := h.row
  refine ⟨grown_new h.gr g5 (fun g hg => (hr g hg).1), C5.at_ h.net (no cb (lt_of_heap h.net) (by rw [kd_cells h.net]; omega)), h.ocb, h.onb, h.om, h.ofv, ⟨cur, C5.at_ hb (no nb (lt_of_heap hb) (by rw [kd_cells hb]; omega)), r⟩, h.map.kept C5 (no m h.map.kd.2 (by rw [h.map.kd.1]; omega)), ns h.fl, fun i hi => ⟨ns (h.own i hi).1, (h.own i hi).2⟩, h.dis, fun i j hi hj hl => ⟨ns (h.uns i j hi hj hl).1, (h.uns i j hi hj hl).2⟩, h.und⟩
/-- the clone is whole -/
theorem ClC.fin {cb nb ncap m K : Nat} {fv : Value} {vs : Nat → Value} {uv : Nat → Nat → Value} {left : Lit → Bool} {wr : World} (h : ClC w S cb nb ncap m K fv vs uv left wr) (hl : ∀ kl, left kl = false) (h1 : 1 ≤ S.N) (h64 : S.N ≤ 64) : ∃ L', NetL (fun i => w.heap.size ≤ i ∧ i < wr.heap.size) wr cb K S L' := by
  obtain ⟨cur, hb, r1, r2, r3, r4⟩ := h.row
  have eF : clF Try.prog S uv left = fun i j => wyV (S.wy i j) (uv i j) := by
    funext i j
    unfold clF
    rw [if_neg (by rw [hl]; simp)]
  have hm := h.map
  rw [eF] at hm
  refine ⟨⟨nb, ncap, m, fv, vs, uv⟩, fun i hi => hi.2, ⟨h.ocb, lt_of_heap h.net⟩, ⟨h.onb, lt_of_heap hb⟩, ⟨h.om, hm.kd.2⟩, h1, h64, h.net, ⟨cur, hb, r1, r2, r3, fun i hi => ?_⟩, fun i hi => (h.own i hi).1, fun i hi g hg => ⟨(h.own i hi).2 g hg, ((h.own i hi).1.kd g hg).2⟩, h.dis, hm, fun i j hi hj => (h.uns i j hi hj (hl _)).1, fun i j hi hj g hg => ⟨(h.uns i j hi hj (hl _)).2 g hg, ((h.uns i j hi hj (hl _)).1.kd g hg).2⟩, fun i j k l hi hj hk hl' hne g hg => h.und i j k l hi hj hk hl' hne (hl _) (hl _) g hg, h.fl, fun g hg => ⟨h.ofv g hg, (h.fl.kd g hg).2⟩⟩
  have q := ndC_get S vs i hi
  exact ⟨r4 _ _ q.1, r4 _ _ q.2⟩
theorem Wm.congr {m c N : Nat} {F G : Nat → Nat → Value} (h : Wm w m c N F) (e : ∀ i j, i < 64 → j < 64 → F i j = G i j) : Wm w m c N G := by
  obtain ⟨n, D, h1, h2, h3, h4, h5⟩ := h
  exact ⟨n, D, h1, h2, h3, h4, fun i j hi hj => by rw [h5 i j hi hj, e i j hi hj]⟩
/-- the keys that are left behind one that has come -/
def lessK (left : Lit → Bool) (kl : Lit) : Lit → Bool := fun z => left z && !z.sameKey kl
theorem lessK_self {left : Lit → Bool} {kl : Lit} (hk : WideAt.IsKeyLit kl) : lessK left kl kl = false := by
  unfold lessK
  rw [WideAt.sameKey_self hk]; simp
theorem lessK_other {left : Lit → Bool} {kl z : Lit} (h : z ≠ kl) : lessK left kl z = left z := by
  unfold lessK
  cases hs : z.sameKey kl
  · simp
  · exact absurd (WideAt.sameKey_eq hs) h
theorem kk_self {left : Lit → Bool} {i j : Nat} (hi : i < 64) (hj : j < 64) : lessK left (kk Try.prog i j) (kk Try.prog i j) = false := by
  have hkk := ky_in hi hj
  generalize kk Try.prog i j = kl at hkk
  exact lessK_self (keyed_lit keyE hkk)
theorem ClC.next {cb nb ncap m K i j : Nat} {fv v5 : Value} {vs : Nat → Value} {uv : Nat → Nat → Value} {left : Lit → Bool} {wr w5 w6 : World} (h : ClC w S cb nb ncap m K fv vs uv left wr) (h64 : S.N ≤ 64) (hi : i < S.N) (hj : j < S.N) (g5 : wr.grownBy w5 none) (s5 : shr w5 9 1 v5 (S.wy i j).us.length (usC (S.wy i j).us)) (o5 : ∀ g, v5.ownBlock = some g → wr.heap.size ≤ g)
    (m6 : Wm w6 m (K + 1) S.N (upd2 (clF Try.prog S uv left) i j (wyV (S.wy i j) v5))) (g6 : w5.grownBy w6 (some m)) : ClC w S cb nb ncap m (K + 1) fv vs (upd2 uv i j v5) (lessK left (kk Try.prog i j)) w6 := by
  have h5 := h.kept g5 (fun r e => by cases e)
  have C6 := Chg.of_grown g6
  have km := h5.map.kd
  have no : ∀ b, kd w5 b ≠ 1 → ¬ some m = some b := fun b hb e => by cases e; exact hb km.1
  have ns : ∀ {e : TypeId} {sz n : Nat} {v : Value} {xs : List Value}, shr w5 e sz v n xs → shr w6 e sz v n xs := fun hs => hs.kept C6 (fun g hg => no g (by rw [(hs.kd g hg).1]; omega))
  obtain ⟨cur, hb, r⟩ := h5.row
  have un : ∀ a b, a < S.N → b < S.N → ¬ (a = i ∧ b = j) → lessK left (kk Try.prog i j) (kk Try.prog a b) = left (kk Try.prog a b) := fun a b ha hb hne => lessK_other (kk_ne (by omega) (by omega) (by omega) (by omega) hne)
  refine ⟨grown_new h5.gr g6 (fun g hg => by cases hg; exact h.om), C6.at_ h5.net (no cb (by rw [kd_cells h5.net]; omega)), h.ocb, h.onb, h.om, h.ofv, ⟨cur, C6.at_ hb (no nb (by rw [kd_cells hb]; omega)), r⟩, m6.congr (fun a b ha hb => ?_), ns h5.fl, fun i hi => ⟨ns (h5.own i hi).1, (h5.own i hi).2⟩, h.dis, fun a b ha hb hl => ?_, fun a b k l ha hb hk hl hne l1 l2 g h1 h2 => ?_⟩
  · by_cases e : a = i ∧ b = j
    · rw [e.1, e.2, upd2_same]
      unfold clF
      rw [kk_self (by omega) (by omega), if_neg (by simp), upd2_same]
    · rw [upd2_other _ _ e]
      unfold clF
      rw [lessK_other (kk_ne (by omega) (by omega) ha hb e), upd2_other _ _ e]
  · by_cases e : a = i ∧ b = j
    · rw [e.1, e.2, upd2_same]
      exact ⟨ns s5, fun g hg => Nat.le_trans h.gr.size (o5 g hg)⟩
    · rw [upd2_other _ _ e]
      rw [un a b ha hb e] at hl
      exact ⟨ns (h5.uns a b ha hb hl).1, (h5.uns a b ha hb hl).2⟩
  · by_cases e1 : a = i ∧ b = j
    · have e2 : ¬ (k = i ∧ l = j) := fun e => hne ⟨by omega, by omega⟩
      rw [e1.1, e1.2, upd2_same] at h1
      rw [upd2_other _ _ e2] at h2
      rw [un k l hk hl e2] at l2
      have := ((h.uns k l hk hl l2).1.kd g h2).2
      have := o5 g h1
      omega
    · rw [upd2_other _ _ e1] at h1
      rw [un a b ha hb e1] at l1
      by_cases e2 : k = i ∧ l = j
      · rw [e2.1, e2.2, upd2_same] at h2
        have := ((h.uns a b ha hb l1).1.kd g h1).2
        have := o5 g h2
        omega
      · rw [upd2_other _ _ e2] at h2
        rw [un k l hk hl e2] at l2
        exact h.und a b k l ha hb hk hl hne l1 l2 g h1 h2
/-- the beginning of the second loop -/
theorem ClB.ways {cb nb ncap m : Nat} {fv : Value} {vs : Nat → Value} {wr : World} {D : DataW Value} (h : ClB w S L cb nb ncap m fv S.N vs wr) (hN : NetL P w n c S L) (hF : ∀ i j, i < 64 → j < 64 → D.atKey (kk Try.prog i j) (.held zW) = .held (wyV (S.wy i j) (L.uv i j))) : ClC w S cb nb ncap m 0 fv vs L.uv (Maps.has D) wr := by
  have zz : ∀ i j, i < 64 → j < 64 → Maps.has D (kk Try.prog i j) = false → wyV (S.wy i j) (L.uv i j) = zW := fun i j hi hj hl => by
    have h1 := hF i j hi hj
    rw [Maps.atKey_of_not_has hl] at h1
    exact (DataW.held.inj h1).symm
  have nv : ∀ i j, i < S.N → j < S.N → Maps.has D (kk Try.prog i j) = false → L.uv i j = .slice none 0 0 := fun i j hi hj hl => by
    have h64 := hN.n64
    have := zz i j (by omega) (by omega) hl
    unfold wyV zW at this
    simp at this
    exact this.2.2.1
  refine ⟨h.gr, h.net, h.ocb, h.onb, h.om, h.ofv, h.row, h.map.congr (fun i j hi hj => ?_), h.fl, fun i hi => h.own i hi, fun i j hi hj => h.dis i j hi hj, fun i j hi hj hl => ⟨(hN.kept h.gr).uns i j hi hj, fun g hg => ?_⟩, fun i j k l hi hj hk hl hne l1 l2 g hg => ?_⟩
  · unfold clF
    cases hl : Maps.has D (kk Try.prog i j) with
    | true => rw [if_pos rfl]
    | false => rw [if_neg (by simp)]; exact (zz i j hi hj hl).symm
  · rw [nv i j hi hj hl] at hg; simp [Value.ownBlock] at hg
  · rw [nv i j hi hj l1] at hg; simp [Value.ownBlock] at hg
end Go.Proofs.Ytpghkbbhcpcbdaa
