/-
  Pairs in a list: what DiskAll wants besides.
-/
import Derived.Test.YtdiehlioemmakaaGgGqx
namespace Go.Proofs.Ytdiehlioemmakaa
open Go.RowKit Go.Maps Go.Joins

theorem paInfo : (Try.prog.info? 23).map (fun i => (i.zero, i.size, i.bytes)) = some (some (.pointer none), 1, 8) := by kernel_rfl
theorem paSlice : Try.prog.underlying 26 = some (.slice 23) := by kernel_rfl
/-- a block of pointers alone -/
def ptrs (w : World) (g : Nat) : Prop := ∃ cs : Array Value, w.heap[g]? = some (.cells cs 23 (0, 0)) ∧ ∀ (j : Nat) c, cs[j]? = some c → ∃ p, c = .pointer p
theorem ptrs.cell {w : World} {g o : Nat} {u : Value} (h : ptrs w g) (hc : w.cell? ⟨g, o, none⟩ = some u) : ∃ p, u = .pointer p := by
  obtain ⟨cs, hb, hp⟩ := h
  rw [cell_of_block hb o] at hc
  exact hp o u hc
theorem rd1.avoid {F : Nat → Prop} {w : World} {f g : Nat} {v : Value} {us : List Value} (h : rd1 F w f v us) (hg : ptrs w g) (hu : ∀ u ∈ us, ∀ p, u ≠ .pointer p) : rd1 (fun i => F i ∨ i = g) w f v us := by
  obtain ⟨p, c, h1, h2, h3, h4, h5⟩ := h
  refine ⟨p, c, h1, h2, h3, h4, ?_⟩
  rcases h5 with h5 | ⟨g', o, e, hgf, h5⟩
  · exact Or.inl h5
  · cases us with
    | nil => exact Or.inl rfl
    | cons u r =>
      refine Or.inr ⟨g', o, e, ⟨hgf.1, fun e2 => ?_⟩, h5⟩
      rcases e2 with e2 | e2
      · exact hgf.2 e2
      · subst e2
        obtain ⟨q, hq⟩ := hg.cell (h5 0 u rfl)
        exact hu u List.mem_cons_self q hq
theorem rd2.avoid {F : Nat → Prop} {w : World} {f g : Nat} {v : Value} {us : List (Value × Value)} (h : rd2 F w f v us) (hg : ptrs w g) (hu : ∀ u ∈ us, ∀ p, u.1 ≠ .pointer p) : rd2 (fun i => F i ∨ i = g) w f v us := by
  obtain ⟨p, c, h1, h2, h3, h4, h5⟩ := h
  refine ⟨p, c, h1, h2, h3, h4, ?_⟩
  rcases h5 with h5 | ⟨g', o, e, hgf, h5⟩
  · exact Or.inl h5
  · cases us with
    | nil => exact Or.inl rfl
    | cons u r =>
      refine Or.inr ⟨g', o, e, ⟨hgf.1, fun e2 => ?_⟩, h5⟩
      rcases e2 with e2 | e2
      · exact hgf.2 e2
      · subst e2
        obtain ⟨q, hq⟩ := hg.cell (h5 0 u rfl).1
        exact hu u List.mem_cons_self q hq
theorem rd1.sl {F : Nat → Prop} {w : World} {f : Nat} {v : Value} {us : List Value} (h : rd1 F w f v us) : ∀ p, v ≠ .pointer p := fun q e => by
  obtain ⟨p, c, h1, _⟩ := h
  rw [h1] at e; cases e
theorem Rf.avoid {F : Nat → Prop} {w : World} {f g : Nat} {s : St} (h : Rf F w f s) (hg : ptrs w g) : Rf (fun i => F i ∨ i = g) w f s := by
  obtain ⟨vF, vW, h1, ⟨uF, lF, rF, wF⟩, ⟨uW, lW, rW, wW⟩⟩ := h.fs
  have hglt : g < w.heap.size := by obtain ⟨cs, hb, _⟩ := hg; exact lt_of_heap hb
  have gF : ∀ u ∈ uF, ∀ p, u.1 ≠ .pointer p := fun u hu => by
    obtain ⟨i, hi⟩ := List.getElem?_of_mem hu
    have hlt := (List.getElem?_eq_some_iff.1 hi).1
    obtain ⟨x, hx⟩ : ∃ x, s.fs[i]? = some x := ⟨s.fs[i]'(by omega), List.getElem?_eq_getElem _⟩
    exact (wF i u x hi hx).2.sl
  have gW : ∀ u ∈ uW, ∀ p, u.1 ≠ .pointer p := fun u hu => by
    obtain ⟨i, hi⟩ := List.getElem?_of_mem hu
    have hlt := (List.getElem?_eq_some_iff.1 hi).1
    obtain ⟨x, hx⟩ : ∃ x, s.ways[i]? = some x := ⟨s.ways[i]'(by omega), List.getElem?_eq_getElem _⟩
    exact (wW i u x hi hx).1.sl
  refine ⟨⟨vF, vW, h1, ⟨uF, lF, rF.avoid hg gF, fun i u x hu hx => ⟨(wF i u x hu hx).1, (wF i u x hu hx).2.avoid hg (fun y hy p e => ?_)⟩⟩, ⟨uW, lW, rW.avoid hg gW, fun i u x hu hx => ⟨(wW i u x hu hx).1.avoid hg (fun y hy p e => ?_), (wW i u x hu hx).2.avoid hg (fun y hy p e => ?_)⟩⟩⟩, h.ne, fun i hi => ?_⟩
  · obtain ⟨z, _, rfl⟩ := List.mem_map.1 hy; cases e
  · obtain ⟨z, _, rfl⟩ := List.mem_map.1 hy; cases e
  · obtain ⟨z, _, rfl⟩ := List.mem_map.1 hy; cases e
  · rcases hi with hi | hi
    · exact h.fb i hi
    · omega
theorem Dv.avoid {P : Nat → Prop} {w : World} {base f g : Nat} {q st : Int} {mo : Option Nat} {xs : List (List UInt8 × Fl)} {us : List Ux} (h : Dv P w base f q st mo xs us) (hg : ptrs w g) : Dv (fun i => P i ∧ i ≠ g) w base f q st mo xs us := by
  obtain ⟨cs, hb, _⟩ := hg
  obtain ⟨ov, h1, h2, h3⟩ := h.fs
  have kx : ∀ {i : Nat} {cs : Array Value} {t : TypeId} {fr : Nat × Nat}, w.heap[i]? = some (.cells cs t fr) → t ≠ 23 → i ≠ g := fun hk ht e => by
    rw [e, hb] at hk; cases hk; exact ht rfl
  refine ⟨h.bs, fun i hi => h.pb i hi.1, ⟨h.pf, kx h1 (by decide)⟩, ⟨ov, h1, h2, fun g' hg' => ⟨h3 g' hg', ?_⟩⟩, fun m e => ⟨⟨(h.mp m e).1, ?_⟩, (h.mp m e).2⟩, h.mn, h.fl, fun x hx => ⟨⟨(h.pl x hx).1, kx (h.fl.ok x hx).at_ (by decide)⟩, fun g' hg' => ⟨(h.pl x hx).2 g' hg', ?_⟩⟩⟩
  · obtain ⟨cs, hk⟩ := own_kind h2 g' hg'
    exact kx hk (by decide)
  · obtain ⟨es, c, hk⟩ := (h.mp m e).2.kind
    intro e2; rw [e2, hb] at hk; cases hk
  · obtain ⟨cs, hk⟩ := own_kind (h.fl.ok x hx).row g' hg'
    exact kx hk (by decide)
theorem Pr.avoid {G : Nat → Prop} {w : World} {fp fr pr g : Nat} {s : St} (h : Pr G w fp fr pr s) (hg : ptrs w g) : Pr (fun i => G i ∨ i = g) w fp fr pr s := by
  obtain ⟨Pv, base, st, mo, xs, us, dv, j, hn⟩ := h.d
  obtain ⟨cs, hb, _⟩ := id hg
  refine ⟨⟨_, base, st, mo, xs, us, dv.avoid hg, j, fun i hi e => ?_⟩, h.r.avoid hg, fun e => ?_, h.p, fun e => ?_, h.bd⟩
  · rcases e with e | e
    · exact hn i hi.1 e
    · exact hi.2 e
  · rcases e with e | e
    · exact h.nf e
    · obtain ⟨_, _, hh, _⟩ := h.r.fs
      rw [e, hb] at hh; simp at hh
  · rcases e with e | e
    · exact h.np e
    · have := h.p
      rw [e, hb] at this; simp at this
/-- the list of all pairs -/
structure AlR (w : World) (g n cap : Nat) (ps : List Nat) : Prop where
  blk : ∃ cs : Array Value, w.heap[g]? = some (.cells cs 23 (0, 0)) ∧ cs.size = cap ∧ (∀ (j p : Nat), ps[j]? = some p → cs[j]? = some (.pointer (some ⟨p, 0, none⟩))) ∧ ∀ (j : Nat) c, cs[j]? = some c → ∃ p, c = .pointer p
  len : ps.length = n
  le : n ≤ cap
theorem AlR.chg {S : Nat → Prop} {w w' : World} {g n cap : Nat} {ps : List Nat} (h : AlR w g n cap ps) (hc : Chg S w w') (hn : ¬ S g) : AlR w' g n cap ps := by
  obtain ⟨cs, hb, h1, h2, h3⟩ := h.blk
  exact ⟨⟨cs, hc.at_ hb hn, h1, h2, h3⟩, h.len, h.le⟩
theorem AlR.grow {w w' : World} {g n cap : Nat} {ps : List Nat} (h : AlR w g n cap ps) (hg : w.grownBy w' none) : AlR w' g n cap ps := h.chg (Chg.of_none hg (fun _ => False)) id
theorem AlR.ptrs {w : World} {g n cap : Nat} {ps : List Nat} (h : AlR w g n cap ps) : ptrs w g := by
  obtain ⟨cs, hb, h1, h2, h3⟩ := h.blk
  exact ⟨cs, hb, h3⟩
theorem AlR.at_ {w : World} {g n cap j p : Nat} {ps : List Nat} (h : AlR w g n cap ps) (hp : ps[j]? = some p) : w.cell? ⟨g, j, none⟩ = some (.pointer (some ⟨p, 0, none⟩)) := by
  obtain ⟨cs, hb, h1, h2, h3⟩ := h.blk
  exact (cell_of_block hb j).trans (h2 j p hp)
theorem zero_ptr (k j : Nat) (c : Value) (h : (Builtin.zeroCells (Value.pointer none).cells k)[j]? = some c) : ∃ p, c = .pointer p := by
  unfold Builtin.zeroCells at h
  rw [Array.getElem?_map] at h
  obtain ⟨i, hi, rfl⟩ := Option.map_eq_some_iff.1 h
  refine ⟨none, ?_⟩
  have : i % (Value.pointer none).cells.size = 0 := by show i % 1 = 0; omega
  rw [this]; rfl
/-- one more pair -/
theorem al_app {w : World} {g n cap : Nat} {ps : List Nat} (h : AlR w g n cap ps) (x : Nat) (hn : n ≤ 30) {W : World} (hW : W = w.alloc (.cells #[.pointer (some ⟨x, 0, none⟩)] 23)) :
    ∃ g' cap' W', (∀ ty, (Builtin.append_ #[26, 26] ty #[.slice (some ⟨g, 0, none⟩) n cap, .slice (some ⟨w.heap.size, 0, none⟩) 1 1]).run Try.prog W = .ok (.slice (some ⟨g', 0, none⟩) (n + 1) cap') W') ∧ AlR W' g' (n + 1) cap' (ps ++ [x]) ∧ Chg (fun i => i = g) W W' ∧ (g' = g ∨ W.heap.size ≤ g') := by
  obtain ⟨i0, hi, hz0, hz1, hz2⟩ := info_parts paInfo
  have hA : AlR W g n cap ps := by rw [hW]; exact h.grow (World.grownBy_alloc w _ none)
  obtain ⟨cs, hb, h1, h2, h3⟩ := hA.blk
  have hlen := h.len
  have hle := h.le
  have hblk : W.heap[w.heap.size]? = some (.cells #[.pointer (some ⟨x, 0, none⟩)] 23 (0, 0)) := by rw [hW]; exact heap_alloc_new _ _
  have hnew : ∀ (j : Nat) (u : Value), ([.pointer (some ⟨x, 0, none⟩)] : List Value)[j]? = some u → W.cell? ((⟨w.heap.size, 0, none⟩ : Addr).add j) = some u := fun j u hj => by
    rw [add_plain, Nat.zero_add]
    rcases j with _ | j
    · simp at hj; subst hj; exact (cell_of_block hblk 0).trans rfl
    · simp at hj
  by_cases hroom : n + 1 ≤ cap
  · have hrun : ∀ ty, (Builtin.append_ #[26, 26] ty #[.slice (some ⟨g, 0, none⟩) n cap, .slice (some ⟨w.heap.size, 0, none⟩) 1 1]).run Try.prog W = .ok (.slice (some ⟨g, 0, none⟩) (n + 1) cap) (W.setCell ⟨g, n, none⟩ (.pointer (some ⟨x, 0, none⟩))) := fun ty => by
      have := run_append_room_cells (P := Try.prog) W 26 ty 23 i0 paSlice hi g 0 n cap ⟨w.heap.size, 0, none⟩ 1 1 [.pointer (some ⟨x, 0, none⟩)] (by rw [hz1]; rfl) hnew (by intro u hu; simp at hu; subst hu; rfl) hroom (fun j hj => ?_) (fun j hj => ?_)
      · rw [hz1] at this
        rw [show 0 + n * 1 = n by omega] at this
        exact this
      · simp at hj; subst hj
        rw [hz1, show 0 + n * 1 + 0 = n by omega, cell_of_block hb n, Array.getElem?_eq_getElem (by omega)]; rfl
      · rw [hz1]; exact unfrozen_of_block hb _
    refine ⟨g, cap, _, hrun, ⟨⟨_, heap_setCell_same W g n cs _ _ hb, by rw [Array.size_setIfInBounds]; exact h1, fun j p hj => ?_, fun j c hj => ?_⟩, by rw [List.length_append, hlen]; rfl, hroom⟩, Chg.of_cell W ⟨g, n, none⟩ _, Or.inl rfl⟩
    · rw [Array.getElem?_setIfInBounds]
      by_cases hjn : n = j
      · subst hjn
        rw [if_pos rfl, if_pos (by omega)]
        rw [List.getElem?_append_right (by omega), hlen, Nat.sub_self] at hj
        simp at hj; subst hj; rfl
      · rw [if_neg hjn]
        have hjl := (List.getElem?_eq_some_iff.1 hj).1
        rw [List.length_append, hlen] at hjl
        simp at hjl
        rw [List.getElem?_append_left (by omega)] at hj
        exact h2 j p hj
    · rw [Array.getElem?_setIfInBounds] at hj
      by_cases hjn : n = j
      · rw [if_pos hjn] at hj
        split at hj
        · cases hj; exact ⟨_, rfl⟩
        · cases hj
      · rw [if_neg hjn] at hj
        exact h3 j c hj
  · have hcap : cap = n := by omega
    have hcs : ∀ (j : Nat) (u : Value), cs.toList[j]? = some u → W.cell? ((⟨g, 0, none⟩ : Addr).add j) = some u := fun j u hj => by
      rw [add_plain, Nat.zero_add, cell_of_block hb j, ← Array.getElem?_toList]; exact hj
    have hbytes : (n + 1) * i0.bytes ≤ 140737488355328 := by rw [hz2]; omega
    have hrun := fun ty => run_append_grow (P := Try.prog) W 26 ty 23 i0 (.pointer none) paSlice hi hz0 ⟨g, 0, none⟩ n cap cs.toList (by rw [hz1, Array.length_toList, h1]; omega) hcs ⟨w.heap.size, 0, none⟩ 1 1 [.pointer (some ⟨x, 0, none⟩)] (by rw [hz1]; rfl) hnew (by omega) (by omega) (growslice_fits (by omega) hbytes)
    have hge := grownCap_ge W (n + 1) cap 23
    obtain ⟨K, hK⟩ : ∃ K, K = grownCap W (n + 1) cap 23 := ⟨_, rfl⟩
    rw [← hK] at hge hrun
    refine ⟨W.heap.size, K, _, hrun, ⟨⟨_, heap_alloc_new _ _, ?_, fun j p hj => ?_, fun j c hj => ?_⟩, by rw [List.length_append, hlen]; rfl, hge⟩, ⟨rfl, rfl, rfl, by simp, fun k hk _ => heap_alloc_old W.drew _ hk⟩, Or.inr (Nat.le_refl _)⟩
    · simp only [Array.size_append, List.size_toArray, size_zeroCells, Array.length_toList]
      show cs.size + 1 + (K - (n + 1)) * 1 = K
      omega
    · have hjl := (List.getElem?_eq_some_iff.1 hj).1
      rw [List.length_append, hlen] at hjl
      simp at hjl
      rw [Array.getElem?_append_left (by simp; omega)]
      by_cases hjn : j = n
      · subst hjn
        rw [List.getElem?_append_right (by omega), hlen, Nat.sub_self] at hj
        simp at hj; subst hj
        rw [Array.getElem?_append_right (by simp; omega)]
        simp [h1, hcap]
      · rw [Array.getElem?_append_left (by simp; omega)]
        rw [List.getElem?_append_left (by omega)] at hj
        have := h2 j p hj
        simpa using this
    · rw [Array.getElem?_append] at hj
      split at hj
      · rw [Array.getElem?_append] at hj
        split at hj
        · exact h3 j c (by simpa using hj)
        · have hm := Array.mem_of_getElem? hj
          simp at hm
          subst hm
          exact ⟨_, rfl⟩
      · exact zero_ptr _ _ c hj
structure Pq where
  fp : Nat
  fr : Nat
  pr : Nat
  s : St
/-- all pairs, the last of which goes on -/
structure AllQ (w0 wr : World) (b prc g n cap N : Nat) : Prop where
  h : ∃ (Py : Nat → Prop) (s : St) (fp fr : Nat) (olds : List Pq) (G : Nat → Prop), Both Py wr b fp fr prc s N ∧ (∀ o ∈ olds, Pr G wr o.fp o.fr o.pr o.s) ∧ (∀ i, Py i → G i) ∧ G fr ∧ (∀ i, G i → i < wr.heap.size) ∧ AlR wr g n cap (olds.map (·.pr) ++ [prc]) ∧ ¬ Py g ∧ g ≠ fr
  bel : Below b w0 wr
  bg : b ≤ g
  n21 : n ≤ 21
theorem AllQ.does {w0 wr w' : World} {b prc g n cap N : Nat} {Py : Nat → Prop} {s : St} {fp fr : Nat} {olds : List Pq} {G : Nat → Prop} (hB : Both Py wr b fp fr prc s N) (hO : ∀ o ∈ olds, Pr G wr o.fp o.fr o.pr o.s) (hP : ∀ i, Py i → G i) (hf : G fr) (hG : ∀ i, G i → i < wr.heap.size) (hA : AlR wr g n cap (olds.map (·.pr) ++ [prc])) (hg : ¬ Py g) (hgf : g ≠ fr) (hb : Below b w0 wr) (bg : b ≤ g) (hn : n ≤ 21) (hD : DoesQ Py wr b fp fr prc (N + 1) w') : AllQ w0 w' b prc g n cap (N + 1) := by
  obtain ⟨P', s', B', L', C', S'⟩ := hD
  have hc : Chg G wr w' := C'.mono (fun i _ e => by rcases e with e | rfl; exact hP i e; exact hf)
  have hlt := B'.lt.2.2.2
  have hgl : g < wr.heap.size := by obtain ⟨cs, hk, _⟩ := hA.blk; exact lt_of_heap hk
  refine ⟨⟨P', s', fp, fr, olds, ext G wr w', B', fun o ho => (hO o ho).away hc, fun i hi => ?_, ext_le hf, fun i hi => ?_, hA.chg C' (fun e => by rcases e with e | e; exact hg e; exact hgf e), fun e => ?_, hgf⟩, hb.trans L', bg, hn⟩
  · rcases S' i hi with e | e
    · exact ext_le (hP i e)
    · exact ext_new e (hlt i hi)
  · rcases hi with hi | hi
    · exact Nat.lt_of_lt_of_le (hG i hi) hc.size
    · exact hi.2
  · rcases S' g e with e | e
    · exact hg e
    · omega
theorem AllQ.grow {w0 wr w' : World} {b prc g n cap N : Nat} (h : AllQ w0 wr b prc g n cap N) (hg : wr.grownBy w' none) : AllQ w0 w' b prc g n cap N := by
  obtain ⟨⟨Py, s, fp, fr, olds, G, hB, hO, hP, hf, hG, hA, hn, hgf⟩, hb, bg, n21⟩ := h
  have hbs := hB.lt.2.2.1
  exact ⟨⟨Py, s, fp, fr, olds, G, hB.grow hg, fun o ho => (hO o ho).grow hg, hP, hf, fun i hi => Nat.lt_of_lt_of_le (hG i hi) hg.size, hA.grow hg, hn, hgf⟩, bgrew hb hg hbs, bg, n21⟩
/-- a clone of the last pair, put behind them all -/
theorem AllQ.clone {w0 wr w4 w5 w6 W7 W8 : World} {b prc g n cap N : Nat} {Py : Nat → Prop} {s : St} {fp fr : Nat} {olds : List Pq} {G : Nat → Prop} (hB : Both Py wr b fp fr prc s N) (hO : ∀ o ∈ olds, Pr G wr o.fp o.fr o.pr o.s) (hP : ∀ i, Py i → G i) (hA : AlR wr g n cap (olds.map (·.pr) ++ [prc])) (hg : ¬ Py g) (hb : Below b w0 wr) (bg : b ≤ g) (hn : n ≤ 20) {st : Int} {m2 : Nat} {us : List Ux} {xs xs2 : List (List UInt8 × Fl)} {f2 fr2 pr2 g' cap' : Nat} (hj : Jn s st xs us) (hl : ∀ i, lostS us i → Py i) (hx : Pr (lostS us) wr fp fr prc s)
    (g4 : wr.grownBy w4 none) (ab : absX xs2 = absX xs) (D4 : Dsk (ext (lostS us) wr w4) w4 b f2 s.q st (some m2) xs2 us) (R5 : Rf (ext (lostS us) wr w4) w5 fr2 s) (hf5 : w4.heap.size ≤ fr2) (g5 : w4.grownBy w5 none) (h6 : w6 = w5.alloc (.cells #[.pointer (some ⟨f2, 0, none⟩), .pointer (some ⟨fr2, 0, none⟩)] 34)) (hp2 : pr2 = w5.heap.size) (h7 : W7 = w6.alloc (.cells #[.pointer (some ⟨pr2, 0, none⟩)] 23)) (A8 : AlR W8 g' (n + 1) cap' (olds.map (·.pr) ++ [prc] ++ [pr2])) (c8 : Chg (fun i => i = g) W7 W8) (hg8 : g' = g ∨ W7.heap.size ≤ g') : AllQ w0 W8 b pr2 g' (n + 1) cap' N := by
  have g6 : w5.grownBy w6 none := by rw [h6]; exact World.grownBy_alloc w5 _ none
  have g7 : w6.grownBy W7 none := by rw [h7]; exact World.grownBy_alloc w6 _ none
  have g47 := grTrans (grTrans g5 g6) g7
  have g07 := grTrans g4 g47
  have hbs := hB.lt.2.2.1
  have hgl : g < wr.heap.size := by obtain ⟨cs, hk, _⟩ := hA.blk; exact lt_of_heap hk
  have hfl : fr2 < w5.heap.size := by obtain ⟨_, _, hh, _⟩ := R5.fs; exact lt_of_heap hh
  have p6 : w6.heap[pr2]? = some (.cells #[.pointer (some ⟨f2, 0, none⟩), .pointer (some ⟨fr2, 0, none⟩)] 34 (0, 0)) := by rw [h6, hp2]; exact heap_alloc_new _ _
  have p7 : W7.heap[pr2]? = some (.cells #[.pointer (some ⟨f2, 0, none⟩), .pointer (some ⟨fr2, 0, none⟩)] 34 (0, 0)) := (g7.block pr2 (lt_of_heap p6) (by simp)).trans p6
  have A7 := hA.grow g07
  have hpt := A7.ptrs
  have s4 := g4.size
  have s5 := g5.size
  have s6 := g6.size
  have s7 := g7.size
  have s8 := c8.size
  have P4b : ∀ i, ext (lostS us) wr w4 i → i < w4.heap.size := fun i hi => (D4.pb i hi).2
  have nP4 : ¬ ext (lostS us) wr w4 g := fun e => by
    rcases e with e | e
    · exact hg (hl g e)
    · omega
  have hpr2 : pr2 < W7.heap.size := lt_of_heap p7
  -- what may go on changing: the clone's blocks, its document's, the list's
  have sub : ∀ i, (ext (lostS us) wr w4 i ∨ i = fr2) → i < W7.heap.size := fun i hi => by
    rcases hi with hi | hi
    · have := P4b i hi; omega
    · omega
  have keep : ∀ {G0 : Nat → Prop} {fp fr pr : Nat} {s : St}, Pr G0 wr fp fr pr s → (∀ i, lostS us i → G0 i) → Pr (fun i => ext (lostS us) wr w4 i ∨ i = fr2) W8 fp fr pr s := fun {G0 fp fr pr s} hp hs => by
    have k7 : Pr (ext G0 wr W7) W7 fp fr pr s := hp.away (Chg.of_none g07 _)
    have k7' : Pr (fun i => ext (lostS us) wr w4 i ∨ i = fr2) W7 fp fr pr s := k7.less (fun i hi => by
      rcases hi with hi | hi
      · rcases hi with hi | hi
        · exact ext_le (hs i hi)
        · exact ext_new hi.1 (by omega)
      · exact ext_new (by omega) (by omega))
    have k7g := k7'.avoid hpt
    have k8 := k7g.away (c8.mono (fun i _ e => Or.inr e))
    exact k8.less (fun i hi => ext_le (Or.inl hi))
  have R7 : Rf (ext (lostS us) wr w4) W7 fr2 s := (R5.grown g6).grown g7
  have R8 : Rf (ext (lostS us) wr w4) W8 fr2 s := by
    have a := R7.avoid hpt
    have hfg : ¬ (ext (lostS us) wr w4 fr2 ∨ fr2 = g) := fun e => by
      rcases e with e | e
      · have := P4b _ e; omega
      · omega
    exact (a.away (c8.mono (fun i _ e => Or.inr e)) hfg).less (fun i hi => ext_le (Or.inl hi))
  have D8 : Dsk (ext (lostS us) wr w4) W8 b f2 s.q st (some m2) xs2 us := (D4.kept g47).away c8 (fun i hi e => nP4 (by rw [← e]; exact hi))
  have bnd : ∀ {a b' : Nat}, a < b' → a ≠ b' := fun h => Nat.ne_of_lt h
  refine ⟨⟨ext (lostS us) wr w4, s, f2, fr2, olds ++ [⟨fp, fr, prc, s⟩], fun i => ext (lostS us) wr w4 i ∨ i = fr2, ⟨⟨st, some m2, xs2, us, D8, hj.same ab⟩, R8, ⟨fun e => by have := P4b _ e; omega, by omega⟩, c8.at_ p7 (by omega), ⟨fun e => by have := P4b _ e; omega, by omega⟩, hB.bd⟩, fun o ho => ?_, fun i hi => Or.inl hi, Or.inr rfl, fun i hi => Nat.lt_of_lt_of_le (sub i hi) s8, ?_, ?_, ?_⟩, ?_, ?_, by omega⟩
  · rcases List.mem_append.1 ho with ho | ho
    · exact keep (hO o ho) (fun i hi => hP i (hl i hi))
    · simp at ho; subst ho
      exact keep hx (fun i hi => hi)
  · rw [List.map_append]; exact A8
  · rcases hg8 with e | e
    · rw [e]; exact nP4
    · exact fun h => by have := P4b _ h; omega
  · rcases hg8 with e | e
    · rw [e]; omega
    · omega
  · exact bmore (bgrew hb g07 hbs) c8 (Nat.le_trans hbs g07.size) (fun i e => by rw [e]; exact bg)
  · rcases hg8 with e | e
    · rw [e]; exact bg
    · omega
theorem AllQ.stands {w0 wr : World} {b prc g n cap N : Nat} (h : AllQ w0 wr b prc g n cap N) : ∀ j, j < n → ∃ p, wr.cell? ⟨g, j, none⟩ = some (.pointer (some ⟨p, 0, none⟩)) ∧ ∀ W, wr.grownBy W none → Calls Try.prog 11 #[.pointer (some ⟨p, 0, none⟩)] W fun e w' => e = .returned (.bool true) ∧ W.grownBy w' none := fun j hj => by
  obtain ⟨⟨Py, s, fp, fr, olds, G, hB, hO, hP, hf, hG, hA, hn, hgf⟩, hb, bg, n21⟩ := h
  have hlen := hA.len
  obtain ⟨p, hp⟩ : ∃ p, (olds.map (·.pr) ++ [prc])[j]? = some p := ⟨_, List.getElem?_eq_getElem (by omega)⟩
  refine ⟨p, hA.at_ hp, fun W gW => ?_⟩
  rcases List.mem_append.1 (List.mem_of_getElem? hp) with hm | hm
  · obtain ⟨o, ho, rfl⟩ := List.mem_map.1 hm
    exact Stands_any ((hO o ho).grow gW)
  · simp at hm; subst hm
    exact Stands_any (hB.pr.grow gW)
end Go.Proofs.Ytdiehlioemmakaa

