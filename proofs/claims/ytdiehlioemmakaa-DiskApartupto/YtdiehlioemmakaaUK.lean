/-
  The two disks side by side: what the document's disk and the program's have in common, and how it stays so.
-/
import Derived.Test.YtdiehlioemmakaaUJ
import Derived.Test.YtdiehlioemmakaaEfUpx
import Derived.Test.YtdiehlioemmakaaEfSpx
import Derived.Test.YtdiehlioemmakaaEfTpx
import Derived.Test.YtdiehlioemmakaaEfVpx
namespace Go.Proofs.Ytdiehlioemmakaa
open Go.RowKit Go.Maps Go.Joins
variable {F : Nat → Prop}

abbrev Ab := List (List UInt8 × (List UInt8 × Nat))
/-- files of names by their bytes -/
def absW (fs : List (List UInt8 × Nat)) (W : Ws) : Ab := W.map fun p => (p.1, fs.getD p.2 ([], 0))
/-- names that can be -/
structure WOk (fs : List (List UInt8 × Nat)) (W : Ws) : Prop where
  so : SrtN W
  nm : ∀ p ∈ W, nmOk p.1 = true ∧ p.2 < fs.length
  nd : W.Pairwise fun p q => p.2 ≠ q.2
  len : W.length ≤ 64
/-- a change of names that is open, and the names ahead of it and behind it -/
def UnW (fs : List (List UInt8 × Nat)) (u : Ux) (b a : Ws) : Prop :=
  (∃ c n, u = .cr c n ∧ n.length ≤ 64 ∧ a = delN n b) ∨
  (∃ c cl n X j, u = .rm c cl n (X, j) ∧ n.length ≤ 64 ∧ j < fs.length ∧ (X.l, X.k) = fs.getD j ([], 0) ∧ a = putN n j b) ∨
  (∃ ct cf cl t s x z, u = .rn ct cf cl t s x ∧ t.length ≤ 64 ∧ s.length ≤ 64 ∧ s ≠ t ∧ lookN t b = some z ∧ (∀ X j, x = some (X, j) → j < fs.length ∧ (X.l, X.k) = fs.getD j ([], 0)) ∧ a = (match x with | none => delN t (putN s z b) | some X => putN t X.2 (delN t (putN s z b))))
/-- the numbers of files that lost their names -/
def lostN : Option (Nat × Option (Fl × Nat)) → List Nat
  | some (_, some x) => [x.2]
  | _ => []
/-- the counts of changes -/
def stR' (s : St) (st : Int) : Prop := if s.dead = true then st = -1 else st = max 0 s.left
/-- the two disks have the same files -/
structure Jn (s : St) (st : Int) (xs : List (List UInt8 × Fl)) (us : List Ux) : Prop where
  ab : absX xs = absW s.fs s.now
  st : stR' s st
  lf : -9223372036854775808 ≤ s.left ∧ s.left ≤ 9223372036854775807
  ul : us.length + 1 = s.ways.length
  wk : ∀ W ∈ s.ways, WOk s.fs W
  un : ∀ j u, us[j]? = some u → UnW s.fs u (s.ways.getD (j + 1) []) (s.ways.getD j [])
  ln : ∀ u ∈ us, ∀ j ∈ lostN u.l, ∀ p ∈ s.now, p.2 ≠ j
  fl : ∀ x ∈ s.fs, x.2 ≤ x.1.length ∧ x.1.length ≤ 16777216
  q : 0 ≤ s.q ∧ s.q ≤ 16777216
theorem now_last {s : St} (h : s.ways ≠ []) : s.ways[s.ways.length - 1]? = some s.now := by
  unfold St.now
  have := List.length_pos_iff.2 h
  rw [List.getLastD_eq_getLast?, List.getLast?_eq_getElem?, List.getElem?_eq_getElem (by omega)]; rfl
theorem Jn.ne {s : St} {st : Int} {xs : List (List UInt8 × Fl)} {us : List Ux} (h : Jn s st xs us) : s.ways ≠ [] := fun e => by have := h.ul; rw [e] at this; simp at this
theorem Jn.nw {s : St} {st : Int} {xs : List (List UInt8 × Fl)} {us : List Ux} (h : Jn s st xs us) : WOk s.fs s.now := h.wk _ (List.mem_of_getElem? (now_last h.ne))
theorem absW_look (fs : List (List UInt8 × Nat)) (n : List UInt8) (W : Ws) : lookN n (absW fs W) = (lookN n W).map fun j => fs.getD j ([], 0) := map_look (fun j => fs.getD j ([], 0)) n W
theorem absW_len (fs : List (List UInt8 × Nat)) (W : Ws) : (absW fs W).length = W.length := List.length_map _
theorem absW_put (fs : List (List UInt8 × Nat)) (n : List UInt8) (j : Nat) (W : Ws) : absW fs (putN n j W) = putN n (fs.getD j ([], 0)) (absW fs W) := map_put (fun j => fs.getD j ([], 0)) n j W
theorem absW_del (fs : List (List UInt8 × Nat)) (n : List UInt8) (W : Ws) : absW fs (delN n W) = delN n (absW fs W) := map_del (fun j => fs.getD j ([], 0)) n W
theorem absW_srt {fs : List (List UInt8 × Nat)} {W : Ws} : SrtN (absW fs W) ↔ SrtN W := srt_map (fun j => fs.getD j ([], 0))
theorem Jn.so {s : St} {st : Int} {xs : List (List UInt8 × Fl)} {us : List Ux} (h : Jn s st xs us) : SrtN xs := by
  rw [← abs_srt, h.ab]; exact absW_srt.2 h.nw.so
theorem Jn.len {s : St} {st : Int} {xs : List (List UInt8 × Fl)} {us : List Ux} (h : Jn s st xs us) : xs.length = s.now.length ∧ xs.length ≤ 64 := by
  have h1 : xs.length = s.now.length := by rw [← abs_len, h.ab, absW_len]
  exact ⟨h1, by rw [h1]; exact h.nw.len⟩
/-- what is wrong with a name is the same -/
theorem Jn.nm {s : St} {st : Int} {xs : List (List UInt8 × Fl)} {us : List Ux} (h : Jn s st xs us) (n : List UInt8) : nmE n (absX xs) = atE n s.now := by
  unfold nmE atE
  rw [h.ab, absW_look, fnd_look]
  cases hok : nmOk n with
  | false => rfl
  | true =>
    rw [if_neg (by simp), if_neg (by simp)]
    cases lookN n s.now with
    | none => rfl
    | some j => simp only [Option.map_some]; rw [if_neg (by omega)]
theorem Jn.ok {s : St} {st : Int} {xs : List (List UInt8 × Fl)} {us : List Ux} (h : Jn s st xs us) : StOk s := fun p hp => (h.nw.nm p hp).2
/-- the file of a name -/
theorem Jn.file {s : St} {st : Int} {xs : List (List UInt8 × Fl)} {us : List Ux} (h : Jn s st xs us) {n : List UInt8} (h0 : atE n s.now = 0) : ∃ j, lookN n s.now = some j ∧ j < s.fs.length ∧ (fnd n s.now).toNat = j ∧ getF s n = s.fs.getD j ([], 0) ∧ lookN n (absX xs) = some (getF s n) ∧ nmOk n = true := by
  unfold atE at h0
  cases hok : nmOk n with
  | false => rw [hok] at h0; simp at h0
  | true =>
    rw [hok, if_neg (by simp)] at h0
    rw [fnd_look] at h0
    cases hl : lookN n s.now with
    | none => rw [hl] at h0; simp at h0
    | some j =>
      have e : (fnd n s.now).toNat = j := by rw [fnd_look, hl]; simp
      refine ⟨j, rfl, (h.nw.nm _ (look_mem hl)).2, e, by unfold getF; rw [e], ?_, rfl⟩
      rw [h.ab, absW_look, hl]; unfold getF; rw [e]; rfl
/-- the count -/
theorem stp_st {s : St} {st : Int} (h : stR' s st) : (stp s).2 = rfB st ∧ stR' (stp s).1 (rfS st) := by
  unfold stR' at h
  unfold stp rfB rfS
  by_cases hd : s.dead = true
  · rw [if_pos hd] at h
    subst h
    rw [if_pos hd]
    refine ⟨rfl, ?_⟩
    unfold stR'; rw [if_pos hd]; rfl
  · rw [if_neg hd] at h
    rw [if_neg hd]
    by_cases h1 : s.left = 1
    · have : st = 1 := by omega
      subst this
      rw [if_pos h1]
      exact ⟨rfl, by unfold stR'; rw [if_pos rfl]; rfl⟩
    · rw [if_neg h1]
      by_cases h2 : 1 < s.left
      · have : st = s.left := by omega
        subst this
        rw [if_pos h2]
        refine ⟨by rw [if_neg (by omega), if_pos h2], ?_⟩
        unfold stR'
        simp only
        rw [if_neg hd, if_neg (by omega), if_pos h2]; omega
      · have : st = 0 := by omega
        subst this
        rw [if_neg h2]
        refine ⟨rfl, ?_⟩
        unfold stR'; rw [if_neg hd]; simp; omega
theorem stp_lf {s : St} (h : -9223372036854775808 ≤ s.left ∧ s.left ≤ 9223372036854775807) : -9223372036854775808 ≤ (stp s).1.left ∧ (stp s).1.left ≤ 9223372036854775807 := by
  unfold stp
  split
  · exact h
  · split
    · exact h
    · split
      · simp only; omega
      · exact h
theorem st_rng {s : St} {st : Int} (h : stR' s st) (hl : -9223372036854775808 ≤ s.left ∧ s.left ≤ 9223372036854775807) : -9223372036854775808 ≤ st ∧ st ≤ 9223372036854775807 := by
  unfold stR' at h
  split at h <;> omega
/-- the count alone has changed -/
theorem Jn.cnt {s : St} {st : Int} {xs : List (List UInt8 × Fl)} {us : List Ux} (h : Jn s st xs us) : Jn (stp s).1 (rfS st) xs us := by
  obtain ⟨w1, w2, w3⟩ := stp_ways s
  have wn : (stp s).1.now = s.now := by unfold St.now; rw [w1]
  exact ⟨by rw [w2, wn]; exact h.ab, (stp_st h.st).2, stp_lf h.lf, by rw [w1]; exact h.ul, by rw [w1, w2]; exact h.wk, by rw [w1, w2]; exact h.un, by rw [wn]; exact h.ln, by rw [w2]; exact h.fl, by rw [w3]; exact h.q⟩
theorem pw_eq {W : Ws} (h : W.Pairwise fun p q => p.2 ≠ q.2) {p q : List UInt8 × Nat} (hp : p ∈ W) (hq : q ∈ W) (e : p.2 = q.2) : p = q := by
  induction W with
  | nil => simp at hp
  | cons y r ih =>
    rw [List.pairwise_cons] at h
    rcases List.mem_cons.1 hp with hp1 | hp1
    · rcases List.mem_cons.1 hq with hq1 | hq1
      · rw [hp1, hq1]
      · rw [hp1] at e; exact absurd e (h.1 q hq1)
    · rcases List.mem_cons.1 hq with hq1 | hq1
      · rw [hq1] at e; exact absurd e.symm (h.1 p hp1)
      · exact ih h.2 hp1 hq1
/-- a file of names that are there has changed -/
theorem absW_set {fs : List (List UInt8 × Nat)} {j : Nat} {x : List UInt8 × Nat} {n : List UInt8} {W : Ws} (hW : WOk fs W) (hj : lookN n W = some j) (hl : j < fs.length) : absW (fs.set j x) W = putN n x (absW fs W) := by
  refine ext_srt (absW_srt.2 hW.so) (srt_put n x (absW_srt.2 hW.so)) (fun m => ?_)
  rw [look_put, absW_look, absW_look]
  by_cases e : m = n
  · rw [if_pos e, e, hj]
    simp only [Option.map_some, List.getD_eq_getElem?_getD]
    rw [List.getElem?_set_self hl]; rfl
  · rw [if_neg e]
    cases hm : lookN m W with
    | none => rfl
    | some i =>
      have hne : i ≠ j := fun ei => by
        subst ei
        have h1 := look_mem hm
        have h2 := look_mem hj
        have : (m, i) = (n, i) := pw_eq hW.nd h1 h2 rfl
        exact e (by simpa using this)
      simp only [Option.map_some, List.getD_eq_getElem?_getD]
      rw [List.getElem?_set_ne (fun e => hne e.symm)]
theorem UnW.set {fs : List (List UInt8 × Nat)} {j : Nat} {x : List UInt8 × Nat} {u : Ux} {a b : Ws} (h : UnW fs u b a) (hn : ∀ i ∈ lostN u.l, i ≠ j) : UnW (fs.set j x) u b a := by
  have get : ∀ i, i ≠ j → (fs.set j x).getD i ([], 0) = fs.getD i ([], 0) := fun i hi => by
    simp only [List.getD_eq_getElem?_getD]
    rw [List.getElem?_set_ne (fun e => hi e.symm)]
  rcases h with ⟨c, n, rfl, h1, h2⟩ | ⟨c, cl, n, X, i, rfl, h1, h2, h3, h4⟩ | ⟨ct, cf, cl, t, s, y, z, rfl, h1, h2, h3, h4, h5, h6⟩
  · exact Or.inl ⟨c, n, rfl, h1, h2⟩
  · exact Or.inr (Or.inl ⟨c, cl, n, X, i, rfl, h1, by rw [List.length_set]; exact h2, by rw [get i (hn i (by simp [lostN, Ux.rm]))]; exact h3, h4⟩)
  · exact Or.inr (Or.inr ⟨ct, cf, cl, t, s, y, z, rfl, h1, h2, h3, h4, fun X i e => by
      obtain ⟨g1, g2⟩ := h5 X i e
      exact ⟨by rw [List.length_set]; exact g1, by rw [get i (hn i (by simp [lostN, Ux.rn, e]))]; exact g2⟩, h6⟩)
theorem Jn.setf {s : St} {st : Int} {xs xs' : List (List UInt8 × Fl)} {us : List Ux} (h : Jn s st xs us) {n : List UInt8} {j : Nat} {x : List UInt8 × Nat} (hj : lookN n s.now = some j) (hx : absX xs' = putN n x (absX xs)) (hxl : x.2 ≤ x.1.length ∧ x.1.length ≤ 16777216) : Jn { s with fs := s.fs.set j x } st xs' us := by
  have hl := (h.nw.nm _ (look_mem hj)).2
  refine ⟨?_, h.st, h.lf, h.ul, fun W hW => ?_, fun k u hu => ?_, h.ln, fun y hy => ?_, h.q⟩
  · show absX xs' = absW (s.fs.set j x) s.now
    rw [hx, h.ab, absW_set h.nw hj hl]
  · have := h.wk W hW
    exact ⟨this.so, fun p hp => ⟨(this.nm p hp).1, by show p.2 < (s.fs.set j x).length; rw [List.length_set]; exact (this.nm p hp).2⟩, this.nd, this.len⟩
  · exact (h.un k u hu).set (fun i hi e => h.ln u (List.mem_of_getElem? hu) i hi (n, j) (look_mem hj) e.symm)
  · rcases List.mem_or_eq_of_mem_set hy with h1 | rfl
    · exact h.fl y h1
    · exact hxl
end Go.Proofs.Ytdiehlioemmakaa

namespace Go.Proofs.Ytdiehlioemmakaa
open Go.RowKit Go.Maps Go.Joins

theorem Jn.err {s : St} {st : Int} {xs : List (List UInt8 × Fl)} {us : List Ux} (h : Jn s st xs us) (n : List UInt8) : snPE n (absX xs) st = snE n s := by
  unfold snPE snE; rw [h.nm n, (stp_st h.st).1]
theorem Jn.same {s : St} {st : Int} {xs xs' : List (List UInt8 × Fl)} {us : List Ux} (h : Jn s st xs us) (hx : absX xs' = absX xs) : Jn s st xs' us := ⟨hx.trans h.ab, h.st, h.lf, h.ul, h.wk, h.un, h.ln, h.fl, h.q⟩
theorem Jn.sync {s : St} {st : Int} {xs xs' : List (List UInt8 × Fl)} {us : List Ux} (h : Jn s st xs us) {n : List UInt8} (hx : absX xs' = snPX n (absX xs) st) : Jn (snS n s) (stF n (absX xs) st) xs' us := by
  have h1 := stp_st h.st
  unfold snPX at hx
  unfold stF snS
  rw [h.err n] at hx
  rw [h.nm n]
  unfold snE at hx
  by_cases h0 : atE n s.now = 0
  · obtain ⟨j, hj, hjl, hf, hg, hl, _⟩ := h.file h0
    have hc := h.cnt
    have hj2 : lookN n (stp s).1.now = some j := by unfold St.now; rw [(stp_ways s).1]; exact hj
    have hgl : (getF s n).1.length ≤ 16777216 := by rw [hg, List.getD_eq_getElem?_getD, List.getElem?_eq_getElem hjl]; exact (h.fl _ (List.getElem_mem hjl)).2
    rw [hl] at hx
    simp only [if_neg (show ¬ atE n s.now ≠ 0 by rw [h0]; simp)] at hx ⊢
    cases hd : (stp s).2 with
    | true =>
      simp only [hd, if_true] at hx
      rw [if_pos rfl]
      rw [if_pos (by decide)] at hx
      exact hc.same hx
    | false =>
      simp only [hd, Bool.false_eq_true, if_false] at hx
      rw [if_neg (by simp), hf]
      rw [if_neg (by simp)] at hx
      exact hc.setf hj2 hx ⟨Nat.le_refl _, hgl⟩
  · simp only [if_pos h0] at hx ⊢
    exact h.same hx
theorem usd_abs (fs : List (List UInt8 × Nat)) : ∀ W : Ws, usedA (absW fs W) = usd fs W
  | [] => rfl
  | p :: r => by show (fs.getD p.2 ([], 0)).1.length + usedA (absW fs r) = (fs.getD p.2 ([], 0)).1.length + usd fs r; rw [usd_abs fs r]
theorem look_usd {n : List UInt8} {x : List UInt8 × Nat} : ∀ {xs : List (List UInt8 × (List UInt8 × Nat))}, lookN n xs = some x → x.1.length ≤ usedA xs
  | [], h => by cases h
  | p :: t, h => by
    unfold lookN at h
    show _ ≤ p.2.1.length + usedA t
    by_cases e : p.1 = n
    · rw [if_pos e] at h; cases h; omega
    · rw [if_neg e] at h; have := look_usd h; omega
theorem Jn.qu {s : St} {st : Int} {xs : List (List UInt8 × Fl)} {us : List Ux} (h : Jn s st xs us) (b : List UInt8) : (quE b s = true) ↔ s.q - (usedA (absX xs) : Int) < (b.length : Int) := by
  rw [h.ab, usd_abs]
  unfold quE
  rw [Bool.or_eq_true, decide_eq_true_eq, decide_eq_true_eq]
  omega
theorem Jn.appE {s : St} {st : Int} {xs : List (List UInt8 × Fl)} {us : List Ux} (h : Jn s st xs us) (n b : List UInt8) : apPE n b s.q (absX xs) st = apE n b s := by
  unfold apPE apE
  rw [h.nm n, (stp_st h.st).1]
  by_cases hq : quE b s = true
  · rw [if_pos hq, if_pos ((h.qu b).1 hq)]
  · rw [if_neg hq, if_neg (fun e => hq ((h.qu b).2 e))]
theorem dead_st {s : St} {st : Int} (h : stR' s st) : s.dead = true ↔ st = -1 := by
  unfold stR' at h
  constructor
  · intro hd; rw [if_pos hd] at h; exact h
  · intro e
    by_cases hd : s.dead = true
    · exact hd
    · rw [if_neg hd] at h; omega
theorem Jn.app {s : St} {st : Int} {xs xs' : List (List UInt8 × Fl)} {us : List Ux} (h : Jn s st xs us) {n b : List UInt8} (hx : absX xs' = apPX n b s.q (absX xs) st) : Jn (apS n b s) (stA n b s.q (absX xs) st) xs' us := by
  have h1 := stp_st h.st
  have hqu := h.qu b
  unfold apPX at hx
  unfold stA apS
  rw [h.appE n b] at hx
  rw [h.nm n]
  unfold apE at hx
  by_cases h0 : atE n s.now = 0
  · obtain ⟨j, hj, hjl, hf, hg, hl, _⟩ := h.file h0
    have hc := h.cnt
    have hj2 : lookN n (stp s).1.now = some j := by unfold St.now; rw [(stp_ways s).1]; exact hj
    have hgl : (getF s n).2 ≤ (getF s n).1.length := by rw [hg, List.getD_eq_getElem?_getD, List.getElem?_eq_getElem hjl]; exact (h.fl _ (List.getElem_mem hjl)).1
    have hul := look_usd hl
    rw [hl] at hx
    simp only [if_neg (show ¬ atE n s.now ≠ 0 by rw [h0]; simp)] at hx ⊢
    by_cases hq : quE b s = true
    · simp only [if_pos hq] at hx ⊢
      rw [if_pos (hqu.1 hq)]
      rw [if_neg (by decide), if_neg (by simp)] at hx
      exact h.same hx
    · simp only [if_neg hq] at hx ⊢
      rw [if_neg (fun e => hq (hqu.2 e))]
      have hqq : ¬ s.q - (usedA (absX xs) : Int) < (b.length : Int) := fun e => hq (hqu.2 e)
      have hq2 := h.q
      cases hd : (stp s).2 with
      | true =>
        simp only [hd, if_true] at hx
        by_cases hs1 : st = -1
        · rw [if_pos ⟨rfl, (dead_st h.st).2 hs1⟩]
          rw [if_neg (by decide), if_neg (by simp [hs1])] at hx
          exact hc.same hx
        · rw [if_neg (fun e => hs1 ((dead_st h.st).1 e.2)), if_pos rfl, hf]
          rw [if_neg (by decide), if_pos (by exact ⟨by trivial, hs1⟩)] at hx
          exact hc.setf hj2 hx ⟨Nat.le_trans hgl (by simp), by simp only [List.length_append, List.length_take]; omega⟩
      | false =>
        simp only [hd, Bool.false_eq_true, if_false] at hx
        rw [if_neg (by simp), if_neg (by simp), hf]
        rw [if_pos (by trivial)] at hx
        exact hc.setf hj2 hx ⟨Nat.le_trans hgl (by simp), by simp only [List.length_append]; omega⟩
  · simp only [if_pos h0] at hx ⊢
    cases hlk : lookN n (absX xs) with
    | none => rw [hlk] at hx; exact h.same hx
    | some x =>
      rw [hlk] at hx
      simp only at hx
      rw [if_neg h0, if_neg (by rcases at_err h0 with e | e <;> simp [e])] at hx
      exact h.same hx
theorem Jn.cutE {s : St} {st : Int} {xs : List (List UInt8 × Fl)} {us : List Ux} (h : Jn s st xs us) (n : List UInt8) (k : Int) : cuPE n k (absX xs) st = cuE n k s := by
  unfold cuPE cuE
  rw [h.nm n, (stp_st h.st).1]
  by_cases h0 : atE n s.now = 0
  · obtain ⟨j, hj, hjl, hf, hg, hl, _⟩ := h.file h0
    have : lenA n (absX xs) = (getF s n).1.length := by unfold lenA; rw [hl]
    rw [this]
  · rw [if_pos h0, if_pos h0]
theorem Jn.cut {s : St} {st : Int} {xs xs' : List (List UInt8 × Fl)} {us : List Ux} (h : Jn s st xs us) {n : List UInt8} {k : Int} (hx : absX xs' = cuPX n k (absX xs) st) : Jn (cuS n k s) (stC n k (absX xs) st) xs' us := by
  have h1 := stp_st h.st
  unfold cuPX at hx
  unfold stC cuS
  rw [h.cutE n k] at hx
  rw [h.nm n]
  unfold cuE at hx
  by_cases h0 : atE n s.now = 0
  · obtain ⟨j, hj, hjl, hf, hg, hl, _⟩ := h.file h0
    have hc := h.cnt
    have hj2 : lookN n (stp s).1.now = some j := by unfold St.now; rw [(stp_ways s).1]; exact hj
    have hgl : (getF s n).2 ≤ (getF s n).1.length ∧ (getF s n).1.length ≤ 16777216 := by rw [hg, List.getD_eq_getElem?_getD, List.getElem?_eq_getElem hjl]; exact h.fl _ (List.getElem_mem hjl)
    have hln : lenA n (absX xs) = (getF s n).1.length := by unfold lenA; rw [hl]
    rw [hl] at hx
    rw [hln]
    simp only [if_neg (show ¬ atE n s.now ≠ 0 by rw [h0]; simp)] at hx ⊢
    by_cases hk : k < 0 ∨ ((getF s n).1.length : Int) < k
    · simp only [if_pos hk] at hx ⊢
      rw [if_neg (by decide)] at hx
      exact h.same hx
    · simp only [if_neg hk] at hx ⊢
      cases hd : (stp s).2 with
      | true =>
        simp only [hd, if_true] at hx
        rw [if_pos rfl]
        rw [if_neg (by decide)] at hx
        exact hc.same hx
      | false =>
        simp only [hd, Bool.false_eq_true, if_false, if_true] at hx
        rw [if_neg (by simp), hf]
        exact hc.setf hj2 hx ⟨by simp only [List.length_take]; omega, by simp only [List.length_take]; omega⟩
  · simp only [if_pos h0] at hx ⊢
    cases hlk : lookN n (absX xs) with
    | none => rw [hlk] at hx; exact h.same hx
    | some x =>
      rw [hlk] at hx
      simp only at hx
      rw [if_neg h0] at hx
      exact h.same hx
end Go.Proofs.Ytdiehlioemmakaa

namespace Go.Proofs.Ytdiehlioemmakaa
open Go.RowKit Go.Maps Go.Joins

theorem getD_app {fs ex : List (List UInt8 × Nat)} {i : Nat} (h : i < fs.length) : (fs ++ ex).getD i ([], 0) = fs.getD i ([], 0) := by
  simp only [List.getD_eq_getElem?_getD]; rw [List.getElem?_append_left h]
theorem absW_app {fs ex : List (List UInt8 × Nat)} {W : Ws} (h : ∀ p ∈ W, p.2 < fs.length) : absW (fs ++ ex) W = absW fs W := by
  unfold absW
  refine List.map_congr_left (fun p hp => ?_)
  rw [getD_app (h p hp)]
theorem WOk.app {fs ex : List (List UInt8 × Nat)} {W : Ws} (h : WOk fs W) : WOk (fs ++ ex) W := ⟨h.so, fun p hp => ⟨(h.nm p hp).1, by have := (h.nm p hp).2; rw [List.length_append]; omega⟩, h.nd, h.len⟩
theorem UnW.app {fs ex : List (List UInt8 × Nat)} {u : Ux} {a b : Ws} (h : UnW fs u b a) : UnW (fs ++ ex) u b a := by
  rcases h with ⟨c, n, rfl, h1, h2⟩ | ⟨c, cl, n, X, i, rfl, h1, h2, h3, h4⟩ | ⟨ct, cf, cl, t, s, y, z, rfl, h1, h2, h3, h4, h5, h6⟩
  · exact Or.inl ⟨c, n, rfl, h1, h2⟩
  · exact Or.inr (Or.inl ⟨c, cl, n, X, i, rfl, h1, by rw [List.length_append]; omega, by rw [getD_app h2]; exact h3, h4⟩)
  · exact Or.inr (Or.inr ⟨ct, cf, cl, t, s, y, z, rfl, h1, h2, h3, h4, fun X i e => by
      obtain ⟨g1, g2⟩ := h5 X i e
      exact ⟨by rw [List.length_append]; omega, by rw [getD_app g1]; exact g2⟩, h6⟩)
theorem UnW.lt {fs : List (List UInt8 × Nat)} {u : Ux} {a b : Ws} (h : UnW fs u b a) : ∀ j ∈ lostN u.l, j < fs.length := by
  intro j hj
  rcases h with ⟨c, n, rfl, h1, h2⟩ | ⟨c, cl, n, X, i, rfl, h1, h2, h3, h4⟩ | ⟨ct, cf, cl, t, s, y, z, rfl, h1, h2, h3, h4, h5, h6⟩
  · simp [lostN, Ux.cr] at hj
  · simp [lostN, Ux.rm] at hj; subst hj; exact h2
  · cases y with
    | none => simp [lostN, Ux.rn] at hj
    | some X => simp [lostN, Ux.rn] at hj; subst hj; exact (h5 X.1 X.2 rfl).1
/-- one more change of names -/
theorem Jn.push {s : St} {st : Int} {xs xs' : List (List UInt8 × Fl)} {us : List Ux} (h : Jn s st xs us) {ex : List (List UInt8 × Nat)} {W' : Ws} {u : Ux} (hW : WOk (s.fs ++ ex) W') (hx : absX xs' = absW (s.fs ++ ex) W') (hu : UnW (s.fs ++ ex) u W' s.now) (hl : ∀ u' ∈ us ++ [u], ∀ j ∈ lostN u'.l, ∀ p ∈ W', p.2 ≠ j) (he : ∀ x ∈ ex, x.2 ≤ x.1.length ∧ x.1.length ≤ 16777216) :
    Jn { s with fs := s.fs ++ ex, ways := s.ways ++ [W'] } st xs' (us ++ [u]) := by
  have hn : ({ s with fs := s.fs ++ ex, ways := s.ways ++ [W'] } : St).now = W' := by unfold St.now; simp
  have hul := h.ul
  refine ⟨by rw [hn]; exact hx, h.st, h.lf, by simp; omega, fun W hWm => ?_, fun j v hv => ?_, by rw [hn]; exact hl, fun y hy => ?_, h.q⟩
  · rcases List.mem_append.1 hWm with h1 | h1
    · exact (h.wk W h1).app
    · rw [List.mem_singleton] at h1; subst h1; exact hW
  · rcases Nat.lt_or_ge j us.length with hj | hj
    · rw [List.getElem?_append_left hj] at hv
      have := (h.un j v hv).app (ex := ex)
      simp only [List.getD_eq_getElem?_getD] at this ⊢
      rw [List.getElem?_append_left (by omega), List.getElem?_append_left (by omega)]
      exact this
    · have hj2 := (List.getElem?_eq_some_iff.1 hv).1
      simp at hj2
      obtain rfl : j = us.length := by omega
      rw [List.getElem?_append_right hj] at hv
      simp at hv
      subst hv
      simp only [List.getD_eq_getElem?_getD]
      rw [List.getElem?_append_right (by omega), List.getElem?_append_left (by omega)]
      have e1 : us.length + 1 - s.ways.length = 0 := by omega
      have e2 := now_last h.ne
      have e3 : s.ways.length - 1 = us.length := by omega
      rw [e3] at e2
      rw [e1, e2]
      exact hu
  · rcases List.mem_append.1 hy with h1 | h1
    · exact h.fl y h1
    · exact he y h1
theorem len_put {α : Type} (n : List UInt8) (v : α) (l : List (List UInt8 × α)) : (putN n v l).length ≤ l.length + 1 := by
  have h1 := (put_perm n v l).length_eq
  have h2 := len_del n l
  simp at h1; omega
theorem del_sub {α : Type} (n : List UInt8) (l : List (List UInt8 × α)) : (delN n l).Sublist l := List.filter_sublist
theorem put_nd {W : Ws} {n : List UInt8} {j : Nat} (h : W.Pairwise fun p q => p.2 ≠ q.2) (hj : ∀ p ∈ delN n W, p.2 ≠ j) : (putN n j W).Pairwise fun p q => p.2 ≠ q.2 := by
  rw [(put_perm n j W).pairwise_iff (fun hab e => hab e.symm), List.pairwise_cons]
  exact ⟨fun p hp e => hj p hp e.symm, h.sublist (del_sub n W)⟩
theorem Jn.createE {s : St} {st : Int} {xs : List (List UInt8 × Fl)} {us : List Ux} (h : Jn s st xs us) (n : List UInt8) : crPE n xs st = crE n s := by
  unfold crPE crE
  rw [(stp_st h.st).1, h.len.1, fnd_look]
  have e : (lookN n xs).isSome = (lookN n s.now).isSome := by
    have h1 := abs_look n xs
    rw [h.ab, absW_look] at h1
    cases h2 : lookN n xs <;> cases h3 : lookN n s.now <;> rw [h2, h3] at h1 <;> simp at h1 <;> rfl
  rw [e]
  cases lookN n s.now with
  | none => simp
  | some j => simp
theorem Jn.look {s : St} {st : Int} {xs : List (List UInt8 × Fl)} {us : List Ux} (h : Jn s st xs us) (n : List UInt8) : (lookN n xs).map (fun X => (X.l, X.k)) = (lookN n s.now).map fun j => s.fs.getD j ([], 0) := by
  rw [← abs_look, h.ab, absW_look]
theorem Jn.create {P : Nat → Prop} {w w' : World} {base f : Nat} {s : St} {st : Int} {xs : List (List UInt8 × Fl)} {us : List Ux} (h : Jn s st xs us) {n : List UInt8} (hQ : CrQ P w w' base f s.q (stN n xs st) xs us n (crPE n xs st)) : ∃ st' mo' xs' us', Jn (crS n s) st' xs' us' ∧ Dsk (ext P w w') w' base f s.q st' mo' xs' us' ∧ Chg P w w' ∧ us'.length ≤ us.length + 1 := by
  obtain ⟨mo', X, c, hX1, hX2, hD, hC⟩ := hQ
  rw [h.createE n] at hD
  have hn := h.look n
  have hst : stN n xs st = if nmOk n = false then st else if 0 ≤ fnd n s.now then st else if 64 ≤ s.now.length then st else rfS st := by
    unfold stN
    rw [h.len.1, fnd_look]
    cases h2 : lookN n xs <;> cases h3 : lookN n s.now <;> rw [h2, h3] at hn <;> simp at hn
    · simp
    · simp
  rw [hst] at hD
  unfold crS
  unfold crE at hD
  by_cases h1 : nmOk n = false
  · simp only [if_pos h1] at hD ⊢
    rw [if_neg (by decide), if_neg (by decide)] at hD
    exact ⟨_, _, _, _, h, hD, hC, by omega⟩
  simp only [if_neg h1] at hD ⊢
  by_cases h2 : 0 ≤ fnd n s.now
  · simp only [if_pos h2] at hD ⊢
    rw [if_neg (by decide), if_neg (by decide)] at hD
    exact ⟨_, _, _, _, h, hD, hC, by omega⟩
  simp only [if_neg h2] at hD ⊢
  by_cases h3 : 64 ≤ s.now.length
  · simp only [if_pos h3] at hD ⊢
    rw [if_neg (by decide), if_neg (by decide)] at hD
    exact ⟨_, _, _, _, h, hD, hC, by omega⟩
  simp only [if_neg h3] at hD ⊢
  have hc := h.cnt
  obtain ⟨w1, w2, w3⟩ := stp_ways s
  have wn : (stp s).1.now = s.now := by unfold St.now; rw [w1]
  cases hd : (stp s).2 with
  | true =>
    simp only [hd, if_true] at hD
    rw [if_neg (by decide), if_neg (by decide)] at hD
    rw [if_pos rfl]
    exact ⟨_, _, _, _, hc, hD, hC, by omega⟩
  | false =>
    simp only [hd, Bool.false_eq_true, if_false, if_true] at hD
    rw [if_neg (by simp)]
    have hlk : lookN n s.now = none := by
      cases h4 : lookN n s.now with
      | none => rfl
      | some j => rw [fnd_look, h4] at h2; simp at h2
    have hnl : lookN n (stp s).1.now = none := by rw [wn]; exact hlk
    have hso : SrtN (stp s).1.now := hc.nw.so
    have hlen : (stp s).1.now.length < 64 := by rw [wn]; omega
    rw [wth_false n _ _ hso, Int.toNat_natCast]
    have hnm : nmOk n = true := by cases e : nmOk n; exact absurd e h1; rfl
    have hWk : WOk ((stp s).1.fs ++ [([], 0)]) (putN n (stp s).1.fs.length (stp s).1.now) := by
      refine ⟨srt_put n _ hso, fun p hp => ?_, put_nd hc.nw.nd (fun p hp e => ?_), Nat.le_trans (len_put _ _ _) (by omega)⟩
      · rcases mem_put.1 hp with rfl | ⟨hp, _⟩
        · exact ⟨hnm, by simp⟩
        · have := hc.nw.nm p hp
          exact ⟨this.1, by rw [List.length_append]; omega⟩
      · have := (hc.nw.nm p (mem_del.1 hp).1).2; omega
    refine ⟨_, _, _, _, hc.push (u := .cr c n) hWk ?_ (Or.inl ⟨c, n, rfl, (nm_len hnm).2, (undo_cr hso hnl).symm⟩) (fun u' hu' j hj p hp e => ?_) (by simp), hD, hC, by simp⟩
    · rw [abs_put, absW_put, hc.ab, absW_app (fun p hp => (hc.nw.nm p hp).2), hX1, hX2]
      congr 1
      rw [List.getD_eq_getElem?_getD, List.getElem?_append_right (Nat.le_refl _)]; simp
    · rcases List.mem_append.1 hu' with hu' | hu'
      · obtain ⟨k, hk⟩ := List.getElem?_of_mem hu'
        rcases mem_put.1 hp with rfl | ⟨hp, _⟩
        · have := (hc.un k u' hk).lt j hj
          simp only at e; omega
        · exact hc.ln u' hu' j hj p hp e
      · rw [List.mem_singleton] at hu'; subst hu'; simp [lostN, Ux.cr] at hj
theorem Jn.remove {P : Nat → Prop} {w w' : World} {base f : Nat} {s : St} {st : Int} {xs : List (List UInt8 × Fl)} {us : List Ux} (h : Jn s st xs us) {n : List UInt8} (hQ : RmQ P w w' base f s.q (stF n (absX xs) st) xs us n (fnd n s.now).toNat (snPE n (absX xs) st)) : ∃ st' mo' xs' us', Jn (rmS n s) st' xs' us' ∧ Dsk (ext P w w') w' base f s.q st' mo' xs' us' ∧ Chg P w w' ∧ us'.length ≤ us.length + 1 := by
  obtain ⟨mo', us', hU, hD, hC⟩ := hQ
  rw [h.err n] at hU hD
  unfold stF at hD
  rw [h.nm n] at hD
  unfold rmS
  unfold snE at hU hD
  by_cases h0 : atE n s.now = 0
  case neg =>
    simp only [if_pos h0] at hU hD ⊢
    rw [if_neg h0] at hU hD
    subst hU
    exact ⟨_, _, _, _, h, hD, hC, by omega⟩
  obtain ⟨j, hj, hjl, hf, hg, hl, hnm⟩ := h.file h0
  simp only [if_neg (show ¬ atE n s.now ≠ 0 by rw [h0]; simp)] at hU hD ⊢
  have hc := h.cnt
  obtain ⟨w1, w2, w3⟩ := stp_ways s
  have wn : (stp s).1.now = s.now := by unfold St.now; rw [w1]
  cases hd : (stp s).2 with
  | true =>
    simp only [hd, if_true] at hU hD
    rw [if_neg (by decide)] at hU hD
    rw [if_pos rfl]
    subst hU
    exact ⟨_, _, _, _, hc, hD, hC, by omega⟩
  | false =>
    simp only [hd, Bool.false_eq_true, if_false, if_true] at hU hD
    rw [if_neg (by simp)]
    obtain ⟨c, cl, X, hX, rfl⟩ := hU
    rw [hf] at hD
    have hj2 : lookN n (stp s).1.now = some j := by rw [wn]; exact hj
    have hso : SrtN (stp s).1.now := hc.nw.so
    have hXc : (X.l, X.k) = (stp s).1.fs.getD j ([], 0) := by
      have h5 := hc.look n
      rw [hX, hj2] at h5
      simpa using h5
    rw [wth_true, ← wn]
    have hWk : WOk ((stp s).1.fs ++ []) (delN n (stp s).1.now) := by
      rw [List.append_nil]
      exact ⟨srt_del n hso, fun p hp => hc.nw.nm p (mem_del.1 hp).1, hc.nw.nd.sublist (del_sub n _), Nat.le_trans (len_del n _) hc.nw.len⟩
    have key := hc.push (ex := []) (u := .rm c cl n (X, j)) hWk (xs' := delN n xs) ?_ (Or.inr (Or.inl ⟨c, cl, n, X, j, rfl, (nm_len hnm).2, by rw [List.append_nil, w2]; exact hjl, by rw [List.append_nil]; exact hXc, (undo_rm hso hj2).symm⟩)) (fun u' hu' i hi p hp e => ?_) (by simp)
    · rw [List.append_nil] at key
      exact ⟨_, _, _, _, key, hD, hC, by simp⟩
    · rw [List.append_nil, abs_del, absW_del, hc.ab]
    · rcases List.mem_append.1 hu' with hu' | hu'
      · exact hc.ln u' hu' i hi p (mem_del.1 hp).1 e
      · rw [List.mem_singleton] at hu'; subst hu'
        simp [lostN, Ux.rm] at hi
        subst hi
        have := pw_eq hc.nw.nd (mem_del.1 hp).1 (look_mem hj2) e
        exact (mem_del.1 hp).2 (by rw [this])
theorem Jn.syncN {s : St} {st : Int} {xs : List (List UInt8 × Fl)} {us : List Ux} (h : Jn s st xs us) : (if rfB st = true then 44 else 0 : Int) = syE s ∧ Jn (syS s) (rfS st) xs (if rfB st = true then us else []) := by
  have h1 := stp_st h.st
  unfold syE syS
  rw [h1.1]
  refine ⟨rfl, ?_⟩
  have hc := h.cnt
  cases hB : rfB st with
  | true => exact hc
  | false =>
    rw [if_neg (by simp), if_neg (by simp)]
    exact ⟨hc.ab, hc.st, hc.lf, rfl, fun W hW => by simp at hW; rw [hW]; exact hc.nw, (fun j u hu => by simp at hu), (fun u hu => by simp at hu), hc.fl, hc.q⟩
theorem Jn.stop {s : St} {st : Int} {xs : List (List UInt8 × Fl)} {us : List Ux} (h : Jn s st xs us) (n : Int) (hn : -9223372036854775808 ≤ n ∧ n ≤ 9223372036854775807) : Jn { s with left := n, dead := false } (max 0 n) xs us :=
  ⟨h.ab, by unfold stR'; simp, hn, h.ul, h.wk, h.un, h.ln, h.fl, h.q⟩
end Go.Proofs.Ytdiehlioemmakaa

namespace Go.Proofs.Ytdiehlioemmakaa
open Go.RowKit Go.Maps Go.Joins

theorem Jn.nmx {s : St} {st : Int} {xs : List (List UInt8 × Fl)} {us : List Ux} (h : Jn s st xs us) (n : List UInt8) : nmE n xs = atE n s.now := by rw [← abs_nmE]; exact h.nm n
theorem Jn.renE {s : St} {st : Int} {xs : List (List UInt8 × Fl)} {us : List Ux} (h : Jn s st xs us) (a b : List UInt8) : rnPE a b xs st = rnE a b s := by
  unfold rnPE rnE
  rw [h.nmx a, (stp_st h.st).1]
  by_cases h1 : nmOk a = false
  · rw [if_pos h1]
    have : atE a s.now = 6 := by unfold atE; rw [if_pos h1]
    rw [this]
    by_cases h2 : nmOk b = false
    · rw [if_pos h2]
    · rw [if_neg h2]; rfl
  · rw [if_neg h1]
theorem Jn.rename {P : Nat → Prop} {w w' : World} {base f : Nat} {s : St} {st : Int} {xs : List (List UInt8 × Fl)} {us : List Ux} (h : Jn s st xs us) {a b : List UInt8} (hQ : RnQ P w w' base f s.q (stR a b xs st) xs us a b (fnd b s.now).toNat (rnPE a b xs st)) : ∃ st' mo' xs' us', Jn (rnS a b s) st' xs' us' ∧ Dsk (ext P w w') w' base f s.q st' mo' xs' us' ∧ Chg P w w' ∧ us'.length ≤ us.length + 1 := by
  obtain ⟨mo', xs', us', hU, hD, hC⟩ := hQ
  rw [h.renE a b] at hU
  have hst : stR a b xs st = if nmOk a = false then st else if nmOk b = false then st else if atE a s.now ≠ 0 then st else rfS st := by
    unfold stR
    rw [h.nmx a]
    by_cases h1 : nmOk a = false
    · have : atE a s.now = 6 := by unfold atE; rw [if_pos h1]
      rw [if_pos h1, this]
      by_cases h2 : nmOk b = false
      · rw [if_pos h2]
      · rw [if_neg h2]; rfl
    · rw [if_neg h1]
  rw [hst] at hD
  unfold rnS
  unfold rnE at hU
  by_cases h1 : nmOk a = false
  · simp only [if_pos h1] at hU hD ⊢
    rw [if_neg (by simp)] at hU
    obtain ⟨rfl, rfl⟩ := hU
    exact ⟨_, _, _, _, h, hD, hC, by omega⟩
  simp only [if_neg h1] at hU hD ⊢
  by_cases h2 : nmOk b = false
  · simp only [if_pos h2] at hU hD ⊢
    rw [if_neg (by simp)] at hU
    obtain ⟨rfl, rfl⟩ := hU
    exact ⟨_, _, _, _, h, hD, hC, by omega⟩
  simp only [if_neg h2] at hU hD ⊢
  by_cases h0 : atE a s.now = 0
  case neg =>
    simp only [if_pos h0] at hU hD ⊢
    rw [if_neg (fun e => h0 e.1)] at hU
    obtain ⟨rfl, rfl⟩ := hU
    exact ⟨_, _, _, _, h, hD, hC, by omega⟩
  obtain ⟨i, hi, hil, hf, hg, hl, hnm⟩ := h.file h0
  simp only [if_neg (show ¬ atE a s.now ≠ 0 by rw [h0]; simp)] at hU hD ⊢
  have hc := h.cnt
  obtain ⟨w1, w2, w3⟩ := stp_ways s
  have wn : (stp s).1.now = s.now := by unfold St.now; rw [w1]
  cases hd : (stp s).2 with
  | true =>
    simp only [hd, if_true] at hU
    rw [if_neg (by simp)] at hU
    rw [if_pos rfl]
    obtain ⟨rfl, rfl⟩ := hU
    exact ⟨_, _, _, _, hc, hD, hC, by omega⟩
  | false =>
    simp only [hd, Bool.false_eq_true, if_false, true_and] at hU
    rw [if_neg (by simp)]
    by_cases hab : a = b
    · rw [if_neg (fun e => e hab)] at hU
      rw [if_pos hab]
      obtain ⟨rfl, rfl⟩ := hU
      exact ⟨_, _, _, _, hc, hD, hC, by omega⟩
    rw [if_pos hab] at hU
    rw [if_neg hab]
    obtain ⟨ct, cf, cl, X, hX, rfl, rfl⟩ := hU
    have hi2 : lookN a (stp s).1.now = some i := by rw [wn]; exact hi
    have hso : SrtN (stp s).1.now := hc.nw.so
    have hbm : nmOk b = true := by cases e : nmOk b; exact absurd e h2; rfl
    have hXc : (X.l, X.k) = (stp s).1.fs.getD i ([], 0) := by
      have h5 := hc.look a
      rw [hX, hi2] at h5
      simpa using h5
    have hfi : (fnd a s.now).toNat = i := hf
    rw [wth_true, wth_false b _ _ (srt_del a (wn ▸ hso)), hfi, ← wn]
    have hsd : SrtN (delN a (stp s).1.now) := srt_del a hso
    have hlb := hc.look b
    -- numbers
    have nd2 : (putN b i (delN a (stp s).1.now)).Pairwise fun p q => p.2 ≠ q.2 := by
      refine put_nd (hc.nw.nd.sublist (del_sub a _)) (fun p hp e => ?_)
      have hp2 := (mem_del.1 hp).1
      have := pw_eq hc.nw.nd (mem_del.1 hp2).1 (look_mem hi2) e
      exact (mem_del.1 hp2).2 (by rw [this])
    have hWk : WOk ((stp s).1.fs ++ []) (putN b i (delN a (stp s).1.now)) := by
      rw [List.append_nil]
      refine ⟨srt_put b i hsd, fun p hp => ?_, nd2, ?_⟩
      · rcases mem_put.1 hp with rfl | ⟨hp, _⟩
        · exact ⟨hbm, by show i < (stp s).1.fs.length; rw [w2]; exact hil⟩
        · exact hc.nw.nm p (mem_del.1 hp).1
      · have q1 := len_put b i (delN a (stp s).1.now)
        have q2 := (del_perm hso hi2).length_eq
        have q3 := hc.nw.len
        simp at q2; omega
    have hlt : lookN b (putN b i (delN a (stp s).1.now)) = some i := by rw [look_put, if_pos rfl]
    have hx : absX (putN b X (delN a xs)) = absW ((stp s).1.fs ++ []) (putN b i (delN a (stp s).1.now)) := by
      rw [List.append_nil, abs_put, abs_del, absW_put, absW_del, hc.ab, ← hXc]
    cases hj : lookN b (stp s).1.now with
    | none =>
      rw [hj] at hlb
      have hYn : lookN b xs = none := by cases e : lookN b xs; rfl; rw [e] at hlb; simp at hlb
      rw [hYn] at hD
      have key := hc.push (ex := []) (u := .rn ct cf cl b a none) hWk hx (Or.inr (Or.inr ⟨ct, cf, cl, b, a, none, i, rfl, (nm_len hbm).2, (nm_len hnm).2, hab, hlt, (fun X j e => by cases e), (undo_rn hso hi2 hj).symm⟩)) (fun u' hu' k hk p hp e => ?_) (by simp)
      · rw [List.append_nil] at key
        exact ⟨_, _, _, _, key, hD, hC, by simp⟩
      · rcases List.mem_append.1 hu' with hu' | hu'
        · rcases mem_put.1 hp with rfl | ⟨hp, _⟩
          · exact hc.ln u' hu' k hk (a, i) (look_mem hi2) e
          · exact hc.ln u' hu' k hk p (mem_del.1 hp).1 e
        · rw [List.mem_singleton] at hu'; subst hu'; simp [lostN, Ux.rn] at hk
    | some j =>
      rw [hj] at hlb
      obtain ⟨Y, hY⟩ : ∃ Y, lookN b xs = some Y := by cases e : lookN b xs; rw [e] at hlb; simp at hlb; exact ⟨_, rfl⟩
      rw [hY] at hlb
      have hYc : (Y.l, Y.k) = (stp s).1.fs.getD j ([], 0) := by simpa using hlb
      have hfj : (fnd b s.now).toNat = j := by rw [← wn, fnd_look, hj]; simp
      rw [hY, hfj] at hD
      have hjl := (hc.nw.nm _ (look_mem hj)).2
      have key := hc.push (ex := []) (u := .rn ct cf cl b a (some (Y, j))) hWk hx (Or.inr (Or.inr ⟨ct, cf, cl, b, a, some (Y, j), i, rfl, (nm_len hbm).2, (nm_len hnm).2, hab, hlt, (fun X' j' e => by cases e; rw [List.append_nil]; exact ⟨hjl, hYc⟩), (undo_rl hso hi2 hj).symm⟩)) (fun u' hu' k hk p hp e => ?_) (by simp)
      · rw [List.append_nil] at key
        exact ⟨_, _, _, _, key, hD, hC, by simp⟩
      · rcases List.mem_append.1 hu' with hu' | hu'
        · rcases mem_put.1 hp with rfl | ⟨hp, _⟩
          · exact hc.ln u' hu' k hk (a, i) (look_mem hi2) e
          · exact hc.ln u' hu' k hk p (mem_del.1 hp).1 e
        · rw [List.mem_singleton] at hu'; subst hu'
          simp [lostN, Ux.rn] at hk
          subst hk
          rcases mem_put.1 hp with rfl | ⟨hp, hpb⟩
          · have := pw_eq hc.nw.nd (look_mem hi2) (look_mem hj) e
            exact hab (by simpa using congrArg Prod.fst this)
          · have := pw_eq hc.nw.nd (mem_del.1 hp).1 (look_mem hj) e
            exact hpb (by rw [this])
/-- what a crash leaves -/
theorem lft_kp (k : Int) (m : Nat) : lft k (m + 1) = kp k m := by
  unfold lft kp
  by_cases h : k < 0
  · rw [if_pos h, show (max 0 k).toNat = 0 by omega]; simp
  · rw [if_neg h, show max 0 k = k by omega]
    obtain ⟨n, rfl⟩ : ∃ n : Nat, k = (n : Int) := ⟨k.toNat, by omega⟩
    rw [Int.toNat_natCast, ← Int.natCast_emod, Int.toNat_natCast]
theorem rk_cut (keeps : List Int) (t : Nat) (x : List UInt8 × Nat) : rk keeps t x = cutA keeps t x := by
  unfold rk cutA
  rw [lft_kp]
  by_cases h : keeps = []
  · rw [if_pos h, if_pos h]; unfold kp; simp
  · rw [if_neg h, if_neg h]
theorem crF_get (keeps : List Int) : ∀ (t : Nat) (W : Ws) (fs : List (List UInt8 × Nat)) (i : Nat), (∀ p ∈ W, p.2 ≠ i) → (crF keeps t W fs).getD i ([], 0) = fs.getD i ([], 0)
  | _, [], _, _, _ => rfl
  | t, p :: r, fs, i, h => by
    show (crF keeps _ r _).getD i ([], 0) = _
    rw [crF_get keeps _ r _ i (fun q hq => h q (by simp [hq]))]
    simp only [List.getD_eq_getElem?_getD]
    rw [List.getElem?_set_ne (h p (by simp))]
theorem crF_abs (keeps : List Int) : ∀ (t : Nat) (W : Ws) (fs : List (List UInt8 × Nat)), (W.Pairwise fun p q => p.2 ≠ q.2) → (∀ p ∈ W, p.2 < fs.length) → (∀ x ∈ fs, x.2 ≤ x.1.length) → absW (crF keeps t W fs) W = cutsA keeps t (absW fs W)
  | _, [], _, _, _, _ => rfl
  | t, p :: r, fs, hn, hl, hx => by
    rw [List.pairwise_cons] at hn
    have hpl := hl p (by simp)
    have hg : fs.getD p.2 ([], 0) = fs[p.2] := by rw [List.getD_eq_getElem?_getD, List.getElem?_eq_getElem hpl]; rfl
    have hxx := hx _ (List.getElem_mem hpl)
    have set_get : ∀ y : List UInt8 × Nat, (fs.set p.2 y).getD p.2 ([], 0) = y := fun y => by rw [List.getD_eq_getElem?_getD, List.getElem?_set_self hpl]; rfl
    have hr : ∀ y : List UInt8 × Nat, absW (fs.set p.2 y) r = absW fs r := fun y => by
      unfold absW
      refine List.map_congr_left (fun q hq => ?_)
      simp only [List.getD_eq_getElem?_getD]
      rw [List.getElem?_set_ne (hn.1 q hq)]
    have step : ∀ (y : List UInt8 × Nat) (t' : Nat), y.2 ≤ y.1.length → absW (crF keeps t' r (fs.set p.2 y)) (p :: r) = (p.1, y) :: cutsA keeps t' (absW fs r) := fun y t' hy => by
      have ih := crF_abs keeps t' r (fs.set p.2 y) hn.2 (fun q hq => by rw [List.length_set]; exact hl q (by simp [hq])) (fun z hz => by
        rcases List.mem_or_eq_of_mem_set hz with h1 | rfl
        · exact hx z h1
        · exact hy)
      show (p.1, (crF keeps t' r (fs.set p.2 y)).getD p.2 ([], 0)) :: absW (crF keeps t' r (fs.set p.2 y)) r = _
      rw [ih, hr, crF_get keeps t' r _ p.2 (fun q hq e => hn.1 q hq e.symm), set_get]
    show absW (crF keeps (rx keeps t (fs.getD p.2 ([], 0))).2 r (fs.set p.2 (rx keeps t (fs.getD p.2 ([], 0))).1)) (p :: r) = cutsA keeps t ((p.1, fs.getD p.2 ([], 0)) :: absW fs r)
    unfold cutsA rx
    by_cases hlt : (fs.getD p.2 ([], 0)).2 < (fs.getD p.2 ([], 0)).1.length
    · rw [if_pos hlt]
      simp only
      rw [if_neg (by omega), rk_cut, step _ _ ?_]
      rw [← rk_cut]
      have := rk_le (keeps := keeps) (t := t) hlt
      simp only [List.length_take]; omega
    · rw [if_neg hlt]
      simp only
      have e : (fs.getD p.2 ([], 0)).2 = (fs.getD p.2 ([], 0)).1.length := by rw [hg] at hlt ⊢; omega
      rw [if_pos e, step _ _ (Nat.le_refl _), ← e]
theorem crF_fl (keeps : List Int) : ∀ (t : Nat) (W : Ws) (fs : List (List UInt8 × Nat)), (∀ x ∈ fs, x.2 ≤ x.1.length ∧ x.1.length ≤ 16777216) → ∀ x ∈ crF keeps t W fs, x.2 ≤ x.1.length ∧ x.1.length ≤ 16777216
  | _, [], _, h => h
  | t, p :: r, fs, h => by
    have hd : (fs.getD p.2 ([], 0)).2 ≤ (fs.getD p.2 ([], 0)).1.length ∧ (fs.getD p.2 ([], 0)).1.length ≤ 16777216 := by
      rw [List.getD_eq_getElem?_getD]
      cases e : fs[p.2]? with
      | none => simp
      | some x => exact h x (List.mem_of_getElem? e)
    refine crF_fl keeps _ r _ (fun x hx => ?_)
    rcases List.mem_or_eq_of_mem_set hx with h1 | rfl
    · exact h x h1
    · unfold rx
      by_cases hlt : (fs.getD p.2 ([], 0)).2 < (fs.getD p.2 ([], 0)).1.length
      · rw [if_pos hlt]
        have := rk_le (keeps := keeps) (t := t) hlt
        simp only [List.length_take]; omega
      · rw [if_neg hlt]; simp only; omega
theorem Jn.way {s : St} {st : Int} {xs : List (List UInt8 × Fl)} {us : List Ux} (h : Jn s st xs us) {j : Nat} (hj : j ≤ us.length) : WOk s.fs (s.ways.getD j []) := by
  have := h.ul
  rw [List.getD_eq_getElem?_getD, List.getElem?_eq_getElem (by omega)]
  exact h.wk _ (List.getElem_mem _)
/-- the names ahead of each open change, by their bytes -/
theorem Jn.una {s : St} {st : Int} {xs : List (List UInt8 × Fl)} {us : List Ux} (h : Jn s st xs us) : absX xs = absW s.fs (s.ways.getD us.length []) ∧ (∀ j u, us[j]? = some u → UnA u (absW s.fs (s.ways.getD (j + 1) [])) (absW s.fs (s.ways.getD j []))) ∧ (∀ j, j ≤ us.length → SrtN (absW s.fs (s.ways.getD j [])) ∧ (absW s.fs (s.ways.getD j [])).length ≤ 1000) ∧ ∀ j, j ≤ us.length → ∀ p ∈ absW s.fs (s.ways.getD j []), p.1.length ≤ 64 := by
  refine ⟨?_, fun j u hu => ?_, fun j hj => ⟨absW_srt.2 (h.way hj).so, by rw [absW_len]; have := (h.way hj).len; omega⟩, fun j hj p hp => ?_⟩
  · have e2 := now_last h.ne
    have e3 : s.ways.length - 1 = us.length := by have := h.ul; omega
    rw [e3] at e2
    rw [h.ab, List.getD_eq_getElem?_getD, e2]; rfl
  · rcases h.un j u hu with ⟨c, n, rfl, h1, h2⟩ | ⟨c, cl, n, X, i, rfl, h1, h2, h3, h4⟩ | ⟨ct, cf, cl, t, s', y, z, rfl, h1, h2, h3, h4, h5, h6⟩
    · exact Or.inl ⟨c, n, rfl, h1, by rw [h2, absW_del]⟩
    · exact Or.inr (Or.inl ⟨c, cl, n, X, i, rfl, h1, by rw [h4, absW_put, ← h3]⟩)
    · refine Or.inr (Or.inr ⟨ct, cf, cl, t, s', y, s.fs.getD z ([], 0), rfl, h1, h2, h3, by rw [absW_look, h4]; rfl, ?_⟩)
      cases y with
      | none => rw [h6]; simp only; rw [absW_del, absW_put]
      | some X => rw [h6]; simp only; rw [absW_put, absW_del, absW_put, ← (h5 X.1 X.2 rfl).2]
  · unfold absW at hp
    rw [List.mem_map] at hp
    obtain ⟨q, hq, rfl⟩ := hp
    exact (nm_len ((h.way hj).nm q hq).1).2
theorem Jn.crash {s : St} {st : Int} {xs xs' : List (List UInt8 × Fl)} {us : List Ux} (h : Jn s st xs us) (keeps : List Int) (names : Int) (hx : absX xs' = cutsA keeps 0 (absW s.fs (s.ways.getD (kp names us.length) []))) : Jn (crashS keeps names s) 0 xs' [] := by
  have hul := h.ul
  have hk : lft names s.ways.length = kp names us.length := by rw [← hul]; exact lft_kp names us.length
  have hkl : kp names us.length ≤ us.length := by unfold kp; have := Nat.mod_lt (max 0 names).toNat (show 0 < us.length + 1 by omega); omega
  have hW := h.way hkl
  unfold crashS
  rw [hk]
  refine ⟨?_, by unfold stR'; simp, ⟨by simp, by simp⟩, rfl, fun W hWm => ?_, (fun j u hu => by simp at hu), (fun u hu => by simp at hu), crF_fl keeps 0 _ _ h.fl, h.q⟩
  · show absX xs' = absW (crF keeps 0 (s.ways.getD (kp names us.length) []) s.fs) (s.ways.getD (kp names us.length) [])
    rw [hx, crF_abs keeps 0 _ _ hW.nd (fun p hp => (hW.nm p hp).2) (fun x hx => (h.fl x hx).1)]
  · simp at hWm
    rw [hWm]
    exact ⟨hW.so, fun p hp => ⟨(hW.nm p hp).1, by show p.2 < (crF keeps 0 _ s.fs).length; rw [crF_len]; exact (hW.nm p hp).2⟩, hW.nd, hW.len⟩
end Go.Proofs.Ytdiehlioemmakaa

namespace Go.Proofs.Ytdiehlioemmakaa
open Go.RowKit Go.Maps Go.Joins

theorem rd1.away {F : Nat → Prop} {w w' : World} {f : Nat} {v : Value} {us : List Value} (h : rd1 F w f v us) (hc : Chg F w w') : rd1 (ext F w w') w' f v us := by
  obtain ⟨p, c, h1, h2, h3, h4, h5⟩ := h
  refine ⟨p, c, h1, h2, h3, h4, ?_⟩
  rcases h5 with h5 | ⟨g, o, e, hg, h5⟩
  · exact Or.inl h5
  · by_cases hu : us = []
    · exact Or.inl hu
    · obtain ⟨u, hu0⟩ : ∃ u, us[0]? = some u := by cases us with | nil => exact absurd rfl hu | cons a t => exact ⟨a, rfl⟩
      have hl := World.block_lt_of_cell? w _ (h5 0 u hu0)
      simp only at hl
      exact Or.inr ⟨g, o, e, ⟨hg.1, fun hx => by rcases hx with hx | hx; exact hg.2 hx; omega⟩, fun i y hi => cellC hc (h5 i y hi) hg.2⟩
theorem rd2.away {F : Nat → Prop} {w w' : World} {f : Nat} {v : Value} {us : List (Value × Value)} (h : rd2 F w f v us) (hc : Chg F w w') : rd2 (ext F w w') w' f v us := by
  obtain ⟨p, c, h1, h2, h3, h4, h5⟩ := h
  refine ⟨p, c, h1, h2, h3, h4, ?_⟩
  rcases h5 with h5 | ⟨g, o, e, hg, h5⟩
  · exact Or.inl h5
  · by_cases hu : us = []
    · exact Or.inl hu
    · obtain ⟨u, hu0⟩ : ∃ u, us[0]? = some u := by cases us with | nil => exact absurd rfl hu | cons a t => exact ⟨a, rfl⟩
      have hl := World.block_lt_of_cell? w _ (h5 0 u hu0).1
      simp only at hl
      exact Or.inr ⟨g, o, e, ⟨hg.1, fun hx => by rcases hx with hx | hx; exact hg.2 hx; omega⟩, fun i y hi => ⟨cellC hc (h5 i y hi).1 hg.2, cellC hc (h5 i y hi).2 hg.2⟩⟩
theorem Rf.away {F : Nat → Prop} {w w' : World} {f : Nat} {s : St} (h : Rf F w f s) (hc : Chg F w w') (hf : ¬ F f) : Rf (ext F w w') w' f s := by
  obtain ⟨vF, vW, h1, ⟨us, a1, a2, a3⟩, ⟨vs, b1, b2, b3⟩⟩ := h.fs
  refine ⟨⟨vF, vW, hc.at_ h1 hf, ⟨us, a1, a2.away hc, fun i u x hu hx => ⟨(a3 i u x hu hx).1, (a3 i u x hu hx).2.away hc⟩⟩, ⟨vs, b1, b2.away hc, fun i u x hu hx => ⟨(b3 i u x hu hx).1.away hc, (b3 i u x hu hx).2.away hc⟩⟩⟩, h.ne, fun i hi => ?_⟩
  rcases hi with hi | hi
  · exact Nat.lt_of_lt_of_le (h.fb i hi) hc.size
  · exact hi.2
theorem rd1.less {F F' : Nat → Prop} {w : World} {f : Nat} {v : Value} {us : List Value} (h : rd1 F w f v us) (hs : ∀ i, F' i → F i) : rd1 F' w f v us := by
  obtain ⟨p, c, h1, h2, h3, h4, h5⟩ := h
  refine ⟨p, c, h1, h2, h3, h4, ?_⟩
  rcases h5 with h5 | ⟨g, o, e, hg, h5⟩
  · exact Or.inl h5
  · exact Or.inr ⟨g, o, e, ⟨hg.1, fun hx => hg.2 (hs g hx)⟩, h5⟩
theorem rd2.less {F F' : Nat → Prop} {w : World} {f : Nat} {v : Value} {us : List (Value × Value)} (h : rd2 F w f v us) (hs : ∀ i, F' i → F i) : rd2 F' w f v us := by
  obtain ⟨p, c, h1, h2, h3, h4, h5⟩ := h
  refine ⟨p, c, h1, h2, h3, h4, ?_⟩
  rcases h5 with h5 | ⟨g, o, e, hg, h5⟩
  · exact Or.inl h5
  · exact Or.inr ⟨g, o, e, ⟨hg.1, fun hx => hg.2 (hs g hx)⟩, h5⟩
theorem Rf.less {F F' : Nat → Prop} {w : World} {f : Nat} {s : St} (h : Rf F w f s) (hs : ∀ i, F' i → F i) : Rf F' w f s := by
  obtain ⟨vF, vW, h1, ⟨us, a1, a2, a3⟩, ⟨vs, b1, b2, b3⟩⟩ := h.fs
  exact ⟨⟨vF, vW, h1, ⟨us, a1, a2.less hs, fun i u x hu hx => ⟨(a3 i u x hu hx).1, (a3 i u x hu hx).2.less hs⟩⟩, ⟨vs, b1, b2.less hs, fun i u x hu hx => ⟨(b3 i u x hu hx).1.less hs, (b3 i u x hu hx).2.less hs⟩⟩⟩, h.ne, fun i hi => h.fb i (hs i hi)⟩
/-- both disks, and the pair that points at them -/
structure Both (P : Nat → Prop) (w : World) (base fp fr pr : Nat) (s : St) (N : Nat) : Prop where
  d : ∃ st mo xs us, Dsk P w base fp s.q st mo xs us ∧ Jn s st xs us
  r : Rf P w fr s
  nf : ¬ P fr ∧ base ≤ fr
  p : w.heap[pr]? = some (.cells #[.pointer (some ⟨fp, 0, none⟩), .pointer (some ⟨fr, 0, none⟩)] 34 (0, 0))
  np : ¬ P pr ∧ base ≤ pr
  bd : s.ways.length ≤ N + 1 ∧ s.fs.length ≤ N ∧ N ≤ 2000000
theorem Both.pf {P : Nat → Prop} {w : World} {base fp fr pr N : Nat} {s : St} (h : Both P w base fp fr pr s N) : pr ≠ fr := fun e => by
  obtain ⟨vF, vW, h1, _, _⟩ := h.r.fs
  have := h.p
  rw [e, h1] at this; simp at this
theorem Both.grow {P : Nat → Prop} {w w' : World} {base fp fr pr N : Nat} {s : St} (h : Both P w base fp fr pr s N) (hg : w.grownBy w' none) : Both P w' base fp fr pr s N := by
  obtain ⟨st, mo, xs, us, d, j⟩ := h.d
  exact ⟨⟨st, mo, xs, us, d.kept hg, j⟩, h.r.grown hg, h.nf, (hg.block pr (lt_of_heap h.p) (by simp)).trans h.p, h.np, h.bd⟩
/-- the program's disk has made its step, the document's not yet -/
structure Half (P : Nat → Prop) (w0 w : World) (base fp fr pr : Nat) (s s' : St) : Prop where
  d : ∃ st mo xs us, Dsk P w base fp s.q st mo xs us ∧ Jn s' st xs us
  r : Rf P w fr s
  nf : ¬ P fr ∧ base ≤ fr
  p : w.heap[pr]? = some (.cells #[.pointer (some ⟨fp, 0, none⟩), .pointer (some ⟨fr, 0, none⟩)] 34 (0, 0))
  np : ¬ P pr ∧ base ≤ pr
  bl : Below base w0 w
/-- the program's step: from w to w' only blocks of its own have changed; Q is a set of blocks of the disk behind it -/
theorem Both.half {P Q : Nat → Prop} {w w' : World} {base fp fr pr N : Nat} {s s' : St} (h : Both P w base fp fr pr s N) (hc : Chg P w w') (hQ : ∀ i, Q i → P i ∨ w.heap.size ≤ i) (hd : ∃ st mo xs us, Dsk Q w' base fp s.q st mo xs us ∧ Jn s' st xs us) : Half Q w w' base fp fr pr s s' := by
  obtain ⟨st, mo, xs, us, d, j⟩ := hd
  obtain ⟨st0, mo0, xs0, us0, d0, j0⟩ := h.d
  obtain ⟨vF, vW, h1, _, _⟩ := h.r.fs
  have hfr := lt_of_heap h1
  have hpr := lt_of_heap h.p
  refine ⟨⟨st, mo, xs, us, d, j⟩, (h.r.away hc h.nf.1).less (fun i hi => ?_), ⟨fun hx => ?_, h.nf.2⟩, hc.at_ h.p h.np.1, ⟨fun hx => ?_, h.np.2⟩, hc.below d0.bs (fun i hi => (d0.pb i hi).1)⟩
  · rcases hQ i hi with h2 | h2
    · exact Or.inl h2
    · exact Or.inr ⟨h2, (d.pb i hi).2⟩
  · rcases hQ _ hx with h2 | h2
    · exact h.nf.1 h2
    · omega
  · rcases hQ _ hx with h2 | h2
    · exact h.np.1 h2
    · omega
/-- the document's step -/
theorem Half.both {P : Nat → Prop} {w0 w w' : World} {base fp fr pr N : Nat} {s s' : St} (h : Half P w0 w base fp fr pr s s') (hk : Keep fr w w') (hr : Rf P w' fr s') (hq : s'.q = s.q) (hb : s'.ways.length ≤ N + 1 ∧ s'.fs.length ≤ N ∧ N ≤ 2000000) (hbw : base ≤ w0.heap.size) : Both P w' base fp fr pr s' N ∧ Below base w0 w' := by
  obtain ⟨st, mo, xs, us, d, j⟩ := h.d
  have hne : pr ≠ fr := fun e => by
    obtain ⟨vF, vW, h1, _, _⟩ := h.r.fs
    have := h.p
    rw [e, h1] at this; simp at this
  refine ⟨⟨⟨st, mo, xs, us, by rw [hq]; exact d.away hk (fun i hi e => h.nf.1 (by rw [← e]; exact hi)), j⟩, hr, h.nf, hk.at_ h.p hne, h.np, hb⟩, h.bl.trans ⟨hk.os, hk.tape, hk.output, hk.size, fun k hk2 => hk.block k (Nat.lt_of_lt_of_le hk2 (Nat.le_trans hbw h.bl.size)) (fun e => by have := h.nf.2; omega)⟩⟩
theorem ext_sub {P : Nat → Prop} {w w1 w' : World} (h : w.heap.size ≤ w1.heap.size) : ∀ i, ext P w1 w' i → P i ∨ w.heap.size ≤ i := by
  rintro i (hi | hi)
  · exact Or.inl hi
  · exact Or.inr (by omega)
end Go.Proofs.Ytdiehlioemmakaa

namespace Go.Proofs.Ytdiehlioemmakaa
open Go.RowKit Go.Maps Go.Joins

set_option maxHeartbeats 8000000 in
set_option maxRecDepth 1000000 in
theorem own_any (p : Option Addr) (c : Nat) (l : List UInt8) (w : World) (hp : byIn w p l) (hn : p = none → c = 0) (hl : l.length ≤ 10000000) :
    Calls Try.prog 31 #[.slice p l.length c] w fun e w' => ∃ v', e = .returned v' ∧ ownsB w' w.heap.size v' l ∧ w.grownBy w' none := by
  obtain ⟨i0, hi, hz0, hz1, hz2⟩ := info_parts u8Info
  have HP : Hid (byIn w p l) := hp
  have HN : Hid (p = none → c = 0) := hn
  clear hp hn
  go_enter Try.func31, Try.ntmps31
  go_wp2_with (first | (at_make; refine wpList_make_own _ rfl (.const (.int .i64 0)) (.tmp 5) 27 rfl w.heap.size 5 i0 (.int .u8 0) 1 u8Slice hi hz0 hz1 .i64 .i64 ((l.length : Int) + 2) (l.length + 2) rfl rfl (by omega) (by rw [hz2]; omega) (by unfold maxLen; omega) (Nat.le_refl _) ?_; intro w1 ho1 hg1) | (at_builtin; obtain ⟨v2, w2, hr2, ho2, hg2, hn2⟩ := app_run w.heap.size _ [] l p l.length c w1 ho1 (HP.out.kept hg1) rfl HN.out (by simp; omega) hg1.size; refine list_app 27 rfl (.tmp 6) (.tmp 7) rfl rfl rfl hr2 ?_))
  go_ret
  rw [List.nil_append] at ho2
  refine ⟨_, rfl, ho2, ⟨hg2.os.trans hg1.os, hg2.tape.trans hg1.tape, hg2.output.trans hg1.output, Nat.le_trans hg1.size hg2.size, fun k hk hkn => (hg2.block k (Nat.lt_of_lt_of_le hk hg1.size) (fun e => by have := own_ge ho1 k e.symm; omega)).trans (hg1.block k hk hkn)⟩⟩
set_option maxHeartbeats 8000000 in
set_option maxRecDepth 1000000 in
theorem spoil_any (base : Nat) (v : Value) (l : List UInt8) (w : World) (h : ownsB w base v l) (hl : l.length ≤ 100000000) (hb : base ≤ w.heap.size) :
    Calls Try.prog 32 #[v] w fun e w' => e = .returned (.tuple #[]) ∧ Chg (fun i => v.ownBlock = some i) w w' := by
  obtain ⟨Pv, Cv, hv⟩ := own_form h
  obtain ⟨OB, hOB⟩ : ∃ OB, OB = v.ownBlock := ⟨_, rfl⟩
  have H := mkHid h
  have HOB := mkHid hOB
  rw [← hOB]
  obtain ⟨L, hL⟩ : ∃ L, L = l.length := ⟨_, rfl⟩
  have HL := mkHid hL
  rw [← hL] at hv hl
  subst hv
  clear h hOB hL
  go_enter Try.func32, Try.ntmps32
  go_wp2_with fail
  go_loopw [2] (fun s2 wr => ∃ (i : Nat) (ys : List UInt8), s2 = .int .i64 (i : Int) ∧ i ≤ L ∧ Hid (ys.length = L) ∧ Hid (ownsB wr base (.slice Pv L Cv) ys) ∧ Hid (Chg (fun i => OB = some i) w wr)) (fun s2 _ => L - (intOf s2).toNat)
  case atStart => exact ⟨0, l, rfl, Nat.zero_le _, HL.out.symm, H, Chg.refl _ _⟩
  case round =>
    obtain ⟨i, ys, rfl, hi, HY, HO, HC⟩ := hrel
    by_cases hlt : i < L
    · have hlti : (i : Int) < (L : Int) := by omega
      obtain ⟨g, hPv⟩ : ∃ g, Pv = some ⟨g, 0, none⟩ := by
        rcases HO.out.2 with ⟨e, h0⟩ | ⟨g, cap, cur, e, _⟩
        · have : ys.length = L := HY.out; exfalso; omega
        · cases e; exact ⟨g, rfl⟩
      subst hPv
      have hYL : ys.length = L := HY.out
      have HO2 : wr.ownsRow base 5 1 (.slice (some ⟨g, 0, none⟩) L Cv) L (by8 ys) := by have h5 := HO.out; unfold ownsB at h5; rw [hYL] at h5; exact h5
      have hst := World.ownsRow.stored HO2 i (.int .u8 85)
      have hcell := World.ownsRow.cellAt HO2 i (by omega)
      obtain ⟨y, hy⟩ : ∃ y, ys[i]? = some y := ⟨ys[i]'(by have : ys.length = L := HY.out; omega), List.getElem?_eq_getElem _⟩
      have hc2 : wr.cell? ⟨g, i, none⟩ = some (.int .u8 (y.toNat : Int)) := by rw [hcell]; simp [by8, hy]
      have hfz : wr.frozen? ⟨g, i, none⟩ = false := by
        obtain ⟨cs, hk⟩ := own_kind HO.out g rfl
        exact unfrozen_of_block hk i
      have E : Hid (ownsB (wr.setCell ⟨g, i, none⟩ (.int .u8 85)) base (.slice (some ⟨g, 0, none⟩) L Cv) (ys.set i 85) ∧ Chg (fun i => OB = some i) w (wr.setCell ⟨g, i, none⟩ (.int .u8 85))) := by
        refine ⟨?_, HC.out.trans ((Chg.of_grown hst.2).mono (fun k _ e => by have h1 : OB = _ := HOB.out; rw [h1, ← e]; rfl))⟩
        have h1 := hst.1
        show World.ownsRow _ _ _ _ _ _ _
        rw [List.length_set, hYL]
        have e : by8 (ys.set i 85) = (by8 ys).set i (.int .u8 85) := by simp [by8, List.map_set]
        rw [e]
        exact h1
      have hb8 := World.block_lt_of_cell? wr _ hc2
      clear hst hcell HO2
      go_wp2_with fail
      go_roundw
      case rel => exact ⟨i + 1, ys.set i 85, by go_num, hlt, (by show _ = _; rw [List.length_set]; exact HY.out), E.out.1, E.out.2⟩
      case measure => simp [intOf]; omega
    · have hlti : ¬ (i : Int) < (L : Int) := by omega
      have hin : byIn (wr.alloc (.cells #[.int .u8 85] 5)) (some ⟨wr.heap.size, 0, none⟩) [85] := Or.inr ⟨_, rfl, fun k x hx => by
        obtain rfl : k = 0 := by have := (List.getElem?_eq_some_iff.1 hx).1; simp at this; omega
        simp at hx; subst hx
        rw [add_plain]
        exact (cell_of_block (heap_alloc_new wr _) 0).trans rfl⟩
      have hYL : ys.length = L := HY.out
      obtain ⟨v2, w2, hr2, ho2, hg2, _⟩ := app_run base (.slice Pv L Cv) ys [85] (some ⟨wr.heap.size, 0, none⟩) 1 1 (wr.alloc (.cells #[.int .u8 85] 5)) (HO.out.alloc _) hin rfl (fun e => by cases e) (by simp; omega) (by have := HC.out.size; simp; omega)
      have E : Hid (Chg (fun i => OB = some i) w w2) := (HC.out.trans (Chg.of_alloc _ _ _)).trans ((Chg.of_grown hg2).mono (fun k _ e => by have h1 : OB = _ := HOB.out; rw [h1, ← e]))
      clear hin ho2 hg2
      go_wp2_with (at_builtin; refine list_app 27 rfl (.tmp 12) (.tmp 13) rfl rfl rfl hr2 ?_)
      go_end0
      exact ⟨rfl, E.out⟩
end Go.Proofs.Ytdiehlioemmakaa

