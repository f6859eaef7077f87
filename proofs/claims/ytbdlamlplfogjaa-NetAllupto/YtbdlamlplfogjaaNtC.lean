/-
  A net in memory, and what a change of one of its parts leaves.
-/
import Derived.Test.YtbdlamlplfogjaaNtB
namespace Go.Proofs.Ytbdlamlplfogjaa
open Go.RowKit Go.Maps Go.Joins

/-- a way: how often it began anew, how many are told, how many came, what is unsure -/
structure Wy where
  b : Nat
  t : Nat
  c : Nat
  us : List ByteArray
/-- a packet -/
structure Pk where
  f : Nat
  t : Nat
  ack : Bool
  s : Nat
  e : Nat
  x : ByteArray
/-- a net -/
structure St where
  N : Nat
  dn : Nat → Bool
  ms : Nat → List (Nat × ByteArray)
  wy : Nat → Nat → Wy
  fl : List Pk
def wyV (x : Wy) (v : Value) : Value := .agg #[.int .u64 x.b, .int .u64 x.t, v, .int .u64 x.c]
def pkL (p : Pk) : List Value := [.int .i64 p.f, .int .i64 p.t, .bool p.ack, .int .u64 p.s, .int .u64 p.e, .string p.x]
def pkV (p : Pk) : Value := .agg #[.int .i64 p.f, .int .i64 p.t, .bool p.ack, .int .u64 p.s, .int .u64 p.e, .string p.x]
def msL (p : Nat × ByteArray) : List Value := [.int .i64 p.1, .string p.2]
def pkC (l : List Pk) : List Value := l.flatMap pkL
def msC (l : List (Nat × ByteArray)) : List Value := l.flatMap msL
def usC (l : List ByteArray) : List Value := l.map .string
theorem pkC_len : ∀ l, (pkC l).length = l.length * 6
  | [] => rfl
  | p :: l => by
    show (pkL p ++ pkC l).length = _
    rw [List.length_append, pkC_len l, List.length_cons]; simp [pkL]; omega
theorem msC_len : ∀ l, (msC l).length = l.length * 2
  | [] => rfl
  | p :: l => by
    show (msL p ++ msC l).length = _
    rw [List.length_append, msC_len l, List.length_cons]; simp [msL]; omega
theorem usC_len (l : List ByteArray) : (usC l).length = l.length * 1 := by simp [usC]
theorem pkC_app (a b : List Pk) : pkC (a ++ b) = pkC a ++ pkC b := by simp [pkC]
theorem msC_app (a b : List (Nat × ByteArray)) : msC (a ++ b) = msC a ++ msC b := by simp [msC]
theorem usC_app (a b : List ByteArray) : usC (a ++ b) = usC a ++ usC b := by simp [usC]
theorem rwP : Rw 71 79 (.agg #[.int .i64 0, .int .i64 0, .bool false, .int .u64 0, .int .u64 0, .string ⟨#[]⟩]) 6 56 := ⟨by kernel_rfl, by kernel_rfl, rfl, by decide, by decide⟩
theorem rwM : Rw 67 82 (.agg #[.int .i64 0, .string ⟨#[]⟩]) 2 24 := ⟨by kernel_rfl, by kernel_rfl, rfl, by decide, by decide⟩
theorem rwS : Rw 49 9 (.string ⟨#[]⟩) 1 16 := ⟨by kernel_rfl, by kernel_rfl, rfl, by decide, by decide⟩
theorem rwN : Rw 65 69 (.agg #[.bool false, .slice none 0 0]) 2 32 := ⟨by kernel_rfl, by kernel_rfl, rfl, by decide, by decide⟩
/-- where it lies -/
structure Ly where
  nb : Nat
  ncap : Nat
  m : Nat
  fv : Value
  vs : Nat → Value
  uv : Nat → Nat → Value
/-- a net in memory: all its blocks are in P; its map has at most c entries -/
structure NetL (P : Nat → Prop) (w : World) (n c : Nat) (S : St) (L : Ly) : Prop where
  pb : ∀ i, P i → i < w.heap.size
  pn : P n
  pnb : P L.nb
  pm : P L.m
  n1 : 1 ≤ S.N
  n64 : S.N ≤ 64
  net : w.heap[n]? = some (.cells #[.slice (some ⟨L.nb, 0, none⟩) S.N L.ncap, .map (some L.m), L.fv] 73 (0, 0))
  nds : ∃ cur, w.heap[L.nb]? = some (.cells cur 69 (0, 0)) ∧ S.N ≤ L.ncap ∧ L.ncap ≤ maxLen ∧ cur.size = L.ncap * 2 ∧ ∀ i, i < S.N → cur[i * 2]? = some (.bool (S.dn i)) ∧ cur[i * 2 + 1]? = some (L.vs i)
  wts : ∀ i, i < S.N → shr w 82 2 (L.vs i) (S.ms i).length (msC (S.ms i))
  wtP : ∀ i, i < S.N → ∀ g, (L.vs i).ownBlock = some g → P g
  wtD : ∀ i j, i < S.N → j < S.N → i ≠ j → ∀ g, (L.vs i).ownBlock = some g → (L.vs j).ownBlock ≠ some g
  map : Wm w L.m c S.N (fun i j => wyV (S.wy i j) (L.uv i j))
  uns : ∀ i j, i < S.N → j < S.N → shr w 9 1 (L.uv i j) (S.wy i j).us.length (usC (S.wy i j).us)
  unP : ∀ i j, i < S.N → j < S.N → ∀ g, (L.uv i j).ownBlock = some g → P g
  unD : ∀ i j k l, i < S.N → j < S.N → k < S.N → l < S.N → ¬ (k = i ∧ l = j) → ∀ g, (L.uv i j).ownBlock = some g → (L.uv k l).ownBlock ≠ some g
  fly : shr w 79 6 L.fv S.fl.length (pkC S.fl)
  flP : ∀ g, L.fv.ownBlock = some g → P g
variable {P : Nat → Prop} {w w' : World} {n c : Nat} {S : St} {L : Ly}
theorem NetL.away (h : NetL P w n c S L) {C : Nat → Prop} (hc : Chg C w w') (hn : ∀ i, P i → ¬ C i) : NetL P w' n c S L := by
  obtain ⟨cur, hb, r⟩ := h.nds
  exact ⟨fun i hi => Nat.lt_of_lt_of_le (h.pb i hi) hc.size, h.pn, h.pnb, h.pm, h.n1, h.n64, hc.at_ h.net (hn _ h.pn), ⟨cur, hc.at_ hb (hn _ h.pnb), r⟩, fun i hi => (h.wts i hi).kept hc (fun g hg => hn _ (h.wtP i hi g hg)), h.wtP, h.wtD, h.map.kept hc (hn _ h.pm), fun i j hi hj => (h.uns i j hi hj).kept hc (fun g hg => hn _ (h.unP i j hi hj g hg)), h.unP, h.unD, h.fly.kept hc (fun g hg => hn _ (h.flP g hg)), h.flP⟩
theorem NetL.more (h : NetL P w n c S L) {P' : Nat → Prop} (hp : ∀ i, P i → P' i) (hb : ∀ i, P' i → i < w.heap.size) : NetL P' w n c S L :=
  ⟨hb, hp _ h.pn, hp _ h.pnb, hp _ h.pm, h.n1, h.n64, h.net, h.nds, h.wts, fun i hi g hg => hp _ (h.wtP i hi g hg), h.wtD, h.map, h.uns, fun i j hi hj g hg => hp _ (h.unP i j hi hj g hg), h.unD, h.fly, fun g hg => hp _ (h.flP g hg)⟩
theorem NetL.kept (h : NetL P w n c S L) (hg : w.grownBy w' none) : NetL P w' n c S L := h.away (Chg.of_none hg (fun _ => False)) (fun _ _ e => e)
theorem NetL.kn (h : NetL P w n c S L) : kd w n = 73 + 2 := kd_cells h.net
theorem NetL.knb (h : NetL P w n c S L) : kd w L.nb = 69 + 2 := by obtain ⟨cur, hb, _⟩ := h.nds; exact kd_cells hb
theorem ext_pb (hp : ∀ i, P i → i < w.heap.size) (hs : w.heap.size ≤ w'.heap.size) : ∀ i, ext P w w' i → i < w'.heap.size := by
  rintro i (hi | hi)
  · have := hp i hi; omega
  · exact hi.2
/-- what is on the way has changed -/
theorem NetL.flights (h : NetL P w n c S L) {C : Nat → Prop} (hc : Chg C w w') (hC : ∀ i, C i → i = n ∨ L.fv.ownBlock = some i) {fv : Value} {fl : List Pk}
    (hn : w'.heap[n]? = some (.cells #[.slice (some ⟨L.nb, 0, none⟩) S.N L.ncap, .map (some L.m), fv] 73 (0, 0))) (hf : shr w' 79 6 fv fl.length (pkC fl)) (hg : ∀ g, fv.ownBlock = some g → L.fv.ownBlock = some g ∨ (w.heap.size ≤ g ∧ g < w'.heap.size)) :
    NetL (ext P w w') w' n c { S with fl := fl } { L with fv := fv } ∧ Chg P w w' := by
  have kC : ∀ i, C i → kd w i = 73 + 2 ∨ kd w i = 79 + 2 := fun i hi => by
    rcases hC i hi with rfl | e
    · exact Or.inl h.kn
    · exact Or.inr (h.fly.kd _ e).1
  have no : ∀ i t, kd w i = t → t ≠ 73 + 2 → t ≠ 79 + 2 → ¬ C i := fun i t e h1 h2 hi => by
    rcases kC i hi with e' | e' <;> omega
  obtain ⟨cur, hb, r⟩ := h.nds
  refine ⟨⟨ext_pb h.pb hc.size, ext_le h.pn, ext_le h.pnb, ext_le h.pm, h.n1, h.n64, hn, ⟨cur, hc.at_ hb (no _ _ h.knb (by decide) (by decide)), r⟩, fun i hi => (h.wts i hi).kept hc (fun g hg => no _ _ ((h.wts i hi).kd g hg).1 (by decide) (by decide)), fun i hi g hg => ext_le (h.wtP i hi g hg), h.wtD, h.map.kept hc (no _ _ h.map.kd.1 (by decide) (by decide)), fun i j hi hj => (h.uns i j hi hj).kept hc (fun g hg => no _ _ ((h.uns i j hi hj).kd g hg).1 (by decide) (by decide)), fun i j hi hj g hg => ext_le (h.unP i j hi hj g hg), h.unD, hf, fun g hg' => ?_⟩, hc.mono (fun i _ hi => ?_)⟩
  · rcases hg g hg' with e | e
    · exact ext_le (h.flP g e)
    · exact ext_new e.1 e.2
  · rcases hC i hi with rfl | e
    · exact h.pn
    · exact h.flP _ e
/-- a way has changed -/
theorem NetL.way (h : NetL P w n c S L) {C : Nat → Prop} (hc : Chg C w w') {i j : Nat} (hi : i < S.N) (hj : j < S.N) (hC : ∀ k, C k → k = L.m ∨ (L.uv i j).ownBlock = some k) {c' : Nat} {x : Wy} {v : Value}
    (hm : Wm w' L.m c' S.N (upd2 (fun i j => wyV (S.wy i j) (L.uv i j)) i j (wyV x v))) (hf : shr w' 9 1 v x.us.length (usC x.us)) (hg : ∀ g, v.ownBlock = some g → (L.uv i j).ownBlock = some g ∨ (w.heap.size ≤ g ∧ g < w'.heap.size)) :
    NetL (ext P w w') w' n c' { S with wy := upd2 S.wy i j x } { L with uv := upd2 L.uv i j v } ∧ Chg P w w' := by
  have kC : ∀ k, C k → kd w k = 1 ∨ kd w k = 9 + 2 := fun k hk => by
    rcases hC k hk with rfl | e
    · exact Or.inl h.map.kd.1
    · exact Or.inr ((h.uns i j hi hj).kd _ e).1
  have no : ∀ i t, kd w i = t → t ≠ 1 → t ≠ 9 + 2 → ¬ C i := fun i t e h1 h2 hi => by
    rcases kC i hi with e' | e' <;> omega
  obtain ⟨cur, hb, r⟩ := h.nds
  have eF : upd2 (fun i j => wyV (S.wy i j) (L.uv i j)) i j (wyV x v) = fun k l => wyV (upd2 S.wy i j x k l) (upd2 L.uv i j v k l) := by
    funext k l
    by_cases e : k = i ∧ l = j
    · rw [e.1, e.2, upd2_same, upd2_same, upd2_same]
    · rw [upd2_other _ _ e, upd2_other _ _ e, upd2_other _ _ e]
  rw [eF] at hm
  refine ⟨⟨ext_pb h.pb hc.size, ext_le h.pn, ext_le h.pnb, ext_le h.pm, h.n1, h.n64, hc.at_ h.net (no _ _ h.kn (by decide) (by decide)), ⟨cur, hc.at_ hb (no _ _ h.knb (by decide) (by decide)), r⟩, fun i hi => (h.wts i hi).kept hc (fun g hg => no _ _ ((h.wts i hi).kd g hg).1 (by decide) (by decide)), fun i hi g hg => ext_le (h.wtP i hi g hg), h.wtD, hm, fun k l hk hl => ?_, fun k l hk hl g hg' => ?_, fun a b k l ha hb' hk hl hne g h1 h2 => ?_, h.fly.kept hc (fun g hg => no _ _ (h.fly.kd g hg).1 (by decide) (by decide)), fun g hg => ext_le (h.flP g hg)⟩, hc.mono (fun k _ hk => ?_)⟩
  · by_cases e : k = i ∧ l = j
    · show shr w' _ _ (upd2 L.uv i j v k l) (upd2 S.wy i j x k l).us.length (usC (upd2 S.wy i j x k l).us)
      rw [e.1, e.2, upd2_same, upd2_same]; exact hf
    · show shr w' _ _ (upd2 L.uv i j v k l) (upd2 S.wy i j x k l).us.length (usC (upd2 S.wy i j x k l).us)
      rw [upd2_other _ _ e, upd2_other _ _ e]
      refine (h.uns k l hk hl).kept hc (fun g hg hh => ?_)
      rcases hC g hh with rfl | e'
      · have := ((h.uns k l hk hl).kd _ hg).1
        rw [h.map.kd.1] at this; simp at this
      · exact h.unD i j k l hi hj hk hl e g e' hg
  · have hg' : (upd2 L.uv i j v k l).ownBlock = some g := hg'
    by_cases e : k = i ∧ l = j
    · rw [e.1, e.2, upd2_same] at hg'
      rcases hg g hg' with e | e
      · exact ext_le (h.unP i j hi hj g e)
      · exact ext_new e.1 e.2
    · rw [upd2_other _ _ e] at hg'
      exact ext_le (h.unP k l hk hl g hg')
  · have h1 : (upd2 L.uv i j v a b).ownBlock = some g := h1
    have h2 : (upd2 L.uv i j v k l).ownBlock = some g := h2
    by_cases e1 : a = i ∧ b = j
    · have e2 : ¬ (k = i ∧ l = j) := fun e => hne ⟨by omega, by omega⟩
      rw [e1.1, e1.2, upd2_same] at h1
      rw [upd2_other _ _ e2] at h2
      rcases hg g h1 with e | e
      · exact h.unD i j k l hi hj hk hl e2 g e h2
      · have := ((h.uns k l hk hl).kd _ h2).2; omega
    · rw [upd2_other _ _ e1] at h1
      by_cases e2 : k = i ∧ l = j
      · rw [e2.1, e2.2, upd2_same] at h2
        rcases hg g h2 with e | e
        · exact h.unD a b i j ha hb' hi hj (fun e => e1 ⟨e.1.symm, e.2.symm⟩) g h1 e
        · have := ((h.uns a b ha hb').kd _ h1).2; omega
      · rw [upd2_other _ _ e2] at h2
        exact h.unD a b k l ha hb' hk hl hne g h1 h2
  · rcases hC k hk with rfl | e
    · exact h.pm
    · exact h.unP i j hi hj _ e
/-- a node has changed -/
theorem NetL.node (h : NetL P w n c S L) {C : Nat → Prop} (hc : Chg C w w') {i : Nat} (hi : i < S.N) (hC : ∀ k, C k → k = L.nb ∨ (L.vs i).ownBlock = some k) {d : Bool} {ms : List (Nat × ByteArray)} {v : Value} {cur' : Array Value}
    (hb' : w'.heap[L.nb]? = some (.cells cur' 69 (0, 0))) (hz : cur'.size = L.ncap * 2) (h0 : cur'[i * 2]? = some (.bool d)) (h1 : cur'[i * 2 + 1]? = some v) (ho : ∀ k, k < S.N → k ≠ i → cur'[k * 2]? = some (.bool (S.dn k)) ∧ cur'[k * 2 + 1]? = some (L.vs k))
    (hf : shr w' 82 2 v ms.length (msC ms)) (hg : ∀ g, v.ownBlock = some g → (L.vs i).ownBlock = some g ∨ (w.heap.size ≤ g ∧ g < w'.heap.size)) :
    NetL (ext P w w') w' n c { S with dn := upd S.dn i d, ms := upd S.ms i ms } { L with vs := upd L.vs i v } ∧ Chg P w w' := by
  have kC : ∀ k, C k → kd w k = 69 + 2 ∨ kd w k = 82 + 2 := fun k hk => by
    rcases hC k hk with rfl | e
    · exact Or.inl h.knb
    · exact Or.inr ((h.wts i hi).kd _ e).1
  have no : ∀ i t, kd w i = t → t ≠ 69 + 2 → t ≠ 82 + 2 → ¬ C i := fun i t e h1 h2 hi => by
    rcases kC i hi with e' | e' <;> omega
  obtain ⟨cur, hb, r1, r2, r3, r4⟩ := h.nds
  refine ⟨⟨ext_pb h.pb hc.size, ext_le h.pn, ext_le h.pnb, ext_le h.pm, h.n1, h.n64, hc.at_ h.net (no _ _ h.kn (by decide) (by decide)), ⟨cur', hb', r1, r2, hz, fun k hk => ?_⟩, fun k hk => ?_, fun k hk g hg' => ?_, fun a b ha hb2 hne g h1 h2 => ?_, h.map.kept hc (no _ _ h.map.kd.1 (by decide) (by decide)), fun i j hi hj => (h.uns i j hi hj).kept hc (fun g hg => no _ _ ((h.uns i j hi hj).kd g hg).1 (by decide) (by decide)), fun i j hi hj g hg => ext_le (h.unP i j hi hj g hg), h.unD, h.fly.kept hc (fun g hg => no _ _ (h.fly.kd g hg).1 (by decide) (by decide)), fun g hg => ext_le (h.flP g hg)⟩, hc.mono (fun k _ hk => ?_)⟩
  · show cur'[k * 2]? = some (.bool (upd S.dn i d k)) ∧ cur'[k * 2 + 1]? = some (upd L.vs i v k)
    by_cases e : k = i
    · rw [e, upd_same, upd_same]; exact ⟨h0, h1⟩
    · rw [upd_other _ _ e, upd_other _ _ e]; exact ho k hk e
  · show shr w' _ _ (upd L.vs i v k) (upd S.ms i ms k).length (msC (upd S.ms i ms k))
    by_cases e : k = i
    · rw [e, upd_same, upd_same]; exact hf
    · rw [upd_other _ _ e, upd_other _ _ e]
      refine (h.wts k hk).kept hc (fun g hg hh => ?_)
      rcases hC g hh with rfl | e'
      · have := ((h.wts k hk).kd _ hg).1
        rw [h.knb] at this; simp at this
      · exact h.wtD i k hi hk (Ne.symm e) g e' hg
  · have hg' : (upd L.vs i v k).ownBlock = some g := hg'
    by_cases e : k = i
    · rw [e, upd_same] at hg'
      rcases hg g hg' with e | e
      · exact ext_le (h.wtP i hi g e)
      · exact ext_new e.1 e.2
    · rw [upd_other _ _ e] at hg'
      exact ext_le (h.wtP k hk g hg')
  · have h1 : (upd L.vs i v a).ownBlock = some g := h1
    have h2 : (upd L.vs i v b).ownBlock = some g := h2
    by_cases e1 : a = i
    · have e2 : b ≠ i := fun e => hne (by omega)
      rw [e1, upd_same] at h1
      rw [upd_other _ _ e2] at h2
      rcases hg g h1 with e | e
      · exact h.wtD i b hi hb2 (Ne.symm e2) g e h2
      · have := ((h.wts b hb2).kd _ h2).2; omega
    · rw [upd_other _ _ e1] at h1
      by_cases e2 : b = i
      · rw [e2, upd_same] at h2
        rcases hg g h2 with e | e
        · exact h.wtD a i ha hi e1 g h1 e
        · have := ((h.wts a ha).kd _ h1).2; omega
      · rw [upd_other _ _ e2] at h2
        exact h.wtD a b ha hb2 hne g h1 h2
  · rcases hC k hk with rfl | e
    · exact h.pnb
    · exact h.wtP i hi _ e
theorem NetL.cs (h : NetL P w n c S L) : w.cell? ⟨n, 0, none⟩ = some (.slice (some ⟨L.nb, 0, none⟩) S.N L.ncap) ∧ w.cell? ⟨n, 1, none⟩ = some (.map (some L.m)) ∧ w.cell? ⟨n, 2, none⟩ = some L.fv ∧ (∀ i, w.frozen? ⟨n, i, none⟩ = false) :=
  ⟨(cell_of_block h.net 0).trans rfl, (cell_of_block h.net 1).trans rfl, (cell_of_block h.net 2).trans rfl, fun i => unfrozen_of_block h.net i⟩
theorem NetL.cn (h : NetL P w n c S L) {i : Nat} (hi : i < S.N) : w.cell? ⟨L.nb, i * 2, none⟩ = some (.bool (S.dn i)) ∧ w.cell? ⟨L.nb, i * 2 + 1, none⟩ = some (L.vs i) ∧ (∀ i, w.frozen? ⟨L.nb, i, none⟩ = false) := by
  obtain ⟨cur, hb, _, _, _, r⟩ := h.nds
  exact ⟨(cell_of_block hb _).trans (r i hi).1, (cell_of_block hb _).trans (r i hi).2, fun i => unfrozen_of_block hb i⟩
end Go.Proofs.Ytbdlamlplfogjaa
