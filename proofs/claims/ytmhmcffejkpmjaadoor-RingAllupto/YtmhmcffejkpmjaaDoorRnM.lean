/-
  Rows in memory, wherever they begin in their block (under names beside those of layer 2).
-/
import Derived.Test.YtmhmcffejkpmjaaDoorProg
import Derived.WalkKit
import Derived.WalkSpells
import Derived.WalkLawsBesides
import Derived.Lib.OthersKept
import Derived.OwnWalk
import Derived.Lib.SmallJoins
import Derived.ArgAppend
import Derived.DeepKeys4
import Derived.Lib.SliceRun
namespace Go.Proofs.YtmhmcffejkpmjaaDoor
open Go.RowKit Go.Lib Go.Joins
set_option maxRecDepth 100000

theorem mkHid {P : Prop} (h : P) : Hid P := h
theorem lt_of_heap {w : World} {b : Nat} {o : Obj} (h : w.heap[b]? = some o) : b < w.heap.size := by
  rw [Array.getElem?_eq_some_iff] at h; exact h.1
theorem grown_setCell (w : World) (a : Addr) (u : Value) : w.grownBy (w.setCell a u) (some a.block) :=
  ⟨rfl, rfl, rfl, by simp, fun k _ hk => heap_setCell_other w a k u (fun e => hk (by rw [e]))⟩
/-- nothing but blocks of S, and new ones, has changed -/
structure Chg (S : Nat → Prop) (w w' : World) : Prop where
  os : w'.os = w.os
  tape : w'.tape = w.tape
  output : w'.output = w.output
  size : w.heap.size ≤ w'.heap.size
  block : ∀ k, k < w.heap.size → ¬ S k → w'.heap[k]? = w.heap[k]?
theorem Chg.refl (S : Nat → Prop) (w : World) : Chg S w w := ⟨rfl, rfl, rfl, Nat.le_refl _, fun _ _ _ => rfl⟩
theorem Chg.of_grown {w w' : World} {row : Option Nat} (h : w.grownBy w' row) : Chg (fun i => row = some i) w w' := ⟨h.os, h.tape, h.output, h.size, fun k hk hn => h.block k hk (fun e => hn e.symm)⟩
theorem Chg.of_none {w w' : World} (h : w.grownBy w' none) (S : Nat → Prop) : Chg S w w' := ⟨h.os, h.tape, h.output, h.size, fun k hk _ => h.block k hk (by simp)⟩
theorem Chg.of_cell (w : World) (a : Addr) (u : Value) : Chg (fun i => i = a.block) w (w.setCell a u) := ⟨rfl, rfl, rfl, by simp, fun k _ hk => heap_setCell_other w a k u hk⟩
theorem Chg.of_alloc (w : World) (o : Obj) (S : Nat → Prop) : Chg S w (w.alloc o) := Chg.of_none (World.grownBy_alloc w o none) S
theorem Chg.mono {S T : Nat → Prop} {w w' : World} (h : Chg S w w') (hs : ∀ i, i < w.heap.size → S i → T i) : Chg T w w' := ⟨h.os, h.tape, h.output, h.size, fun k hk hn => h.block k hk (fun e => hn (hs k hk e))⟩
theorem Chg.trans {S : Nat → Prop} {a b c : World} (h : Chg S a b) (k : Chg S b c) : Chg S a c :=
  ⟨k.os.trans h.os, k.tape.trans h.tape, k.output.trans h.output, Nat.le_trans h.size k.size, fun i hi hn => (k.block i (Nat.lt_of_lt_of_le hi h.size) hn).trans (h.block i hi hn)⟩
theorem Chg.drewN {P : Nat → Prop} {a b : World} (h : Chg P a b) (n : Nat) : Chg P a (b.drewN n) := ⟨h.os, h.tape, h.output, h.size, h.block⟩
theorem Chg.drew {P : Nat → Prop} {a b : World} (h : Chg P a b) : Chg P a b.drew := ⟨h.os, h.tape, h.output, h.size, h.block⟩
theorem Chg.below {S : Nat → Prop} {w w' : World} {base : Nat} (h : Chg S w w') (hb : base ≤ w.heap.size) (hs : ∀ i, S i → base ≤ i) : Below base w w' :=
  ⟨h.os, h.tape, h.output, h.size, fun k hk => h.block k (by omega) (fun e => by have := hs k e; omega)⟩
theorem chgBl {base : Nat} {w w' : World} (hb : Below base w w') : Chg (fun i => base ≤ i) w w' := ⟨hb.os, hb.tape, hb.output, hb.size, fun k _ hn => hb.block k (by omega)⟩
theorem Chg.at_ {S : Nat → Prop} {w w' : World} {b : Nat} {o : Obj} (h : Chg S w w') (hb : w.heap[b]? = some o) (hn : ¬ S b) : w'.heap[b]? = some o := (h.block b (lt_of_heap hb) hn).trans hb
/-- the set of blocks with those that are new -/
def ext (P : Nat → Prop) (w w' : World) : Nat → Prop := fun i => P i ∨ (w.heap.size ≤ i ∧ i < w'.heap.size)
theorem ext_le {P : Nat → Prop} {w w' : World} {i : Nat} (h : P i) : ext P w w' i := Or.inl h
theorem ext_new {P : Nat → Prop} {w w' : World} {i : Nat} (h : w.heap.size ≤ i) (h2 : i < w'.heap.size) : ext P w w' i := Or.inr ⟨h, h2⟩
theorem ext_ext {P : Nat → Prop} {w w1 w2 : World} (h1 : w.heap.size ≤ w1.heap.size) (h2 : w1.heap.size ≤ w2.heap.size) : ext (ext P w w1) w1 w2 = ext P w w2 := by
  funext i
  apply propext
  unfold ext
  constructor
  · rintro ((h | h) | h)
    · exact Or.inl h
    · exact Or.inr ⟨h.1, by omega⟩
    · exact Or.inr ⟨by omega, h.2⟩
  · rintro (h | h)
    · exact Or.inl (Or.inl h)
    · rcases Nat.lt_or_ge i w1.heap.size with h3 | h3
      · exact Or.inl (Or.inr ⟨h.1, h3⟩)
      · exact Or.inr ⟨h3, h.2⟩
/-- two changes one behind the other: the second one of the first one's blocks, and new ones -/
theorem Chg.xtrans {P S : Nat → Prop} {w w1 w2 : World} (h : Chg P w w1) (k : Chg S w1 w2) (hs : ∀ i, S i → ext P w w1 i) : Chg P w w2 :=
  ⟨k.os.trans h.os, k.tape.trans h.tape, k.output.trans h.output, Nat.le_trans h.size k.size, fun i hi hn => (k.block i (Nat.lt_of_lt_of_le hi h.size) (fun e => by rcases hs i e with e | e; exact hn e; omega)).trans (h.block i hi hn)⟩

theorem grown_refl (w : World) : w.grownBy w none := ⟨rfl, rfl, rfl, Nat.le_refl _, fun _ _ _ => rfl⟩
theorem grown_none_trans {a b d : World} (h : a.grownBy b none) (k : b.grownBy d none) : a.grownBy d none := ⟨k.os.trans h.os, k.tape.trans h.tape, k.output.trans h.output, Nat.le_trans h.size k.size, fun i hi hn => (k.block i (Nat.lt_of_lt_of_le hi h.size) hn).trans (h.block i hi hn)⟩
theorem grown_drew {a b : World} (h : a.grownBy b none) : a.grownBy b.drew none := ⟨h.os, h.tape, h.output, h.size, h.block⟩
theorem grown_drewN {a b : World} (h : a.grownBy b none) (n : Nat) : a.grownBy (b.drewN n) none := ⟨h.os, h.tape, h.output, h.size, h.block⟩
theorem grown_al {a b : World} (h : a.grownBy b none) (o : Obj) : a.grownBy (b.alloc o) none := grown_none_trans h (World.grownBy_alloc b o none)
theorem grown_set {a b : World} (h : a.grownBy b none) (x : Addr) (u : Value) (hx : a.heap.size ≤ x.block) : a.grownBy (b.setCell x u) none :=
  ⟨h.os, h.tape, h.output, by have := h.size; simpa using this, fun k hk hn => (heap_setCell_other b x k u (by omega)).trans (h.block k hk hn)⟩

/-- what kind of block it is -/
def kd (w : World) (b : Nat) : Nat := match w.heap[b]? with
  | some (.cells _ t _) => t + 2
  | some (.map _ _) => 1
  | _ => 0
theorem kd_cells {w : World} {b : Nat} {cs : Array Value} {t : TypeId} {z : Nat × Nat} (h : w.heap[b]? = some (.cells cs t z)) : kd w b = t + 2 := by unfold kd; rw [h]
theorem kd_map {w : World} {b : Nat} {es : Array MapEntry} {c : Nat} (h : w.heap[b]? = some (.map es c)) : kd w b = 1 := by unfold kd; rw [h]
theorem kd_ne {w : World} {a b : Nat} (h : kd w a ≠ kd w b) : a ≠ b := fun e => h (by rw [e])

/-- a slice of n elements of sz cells each, that begins somewhere in its block: its cells are xs -/
def shr (w : World) (e : TypeId) (sz : Nat) (v : Value) (n : Nat) (xs : List Value) : Prop :=
  xs.length = n * sz ∧ ((v = .slice none 0 0 ∧ n = 0) ∨ ∃ g off cap cur, v = .slice (some ⟨g, off, none⟩) n cap ∧ w.heap[g]? = some (.cells cur e (0, 0)) ∧ n ≤ cap ∧ cap ≤ maxLen ∧ (cap = 0 ∨ cur.size = off + cap * sz) ∧ ∀ j u, xs[j]? = some u → cur[off + j]? = some u)
theorem shr_nil (w : World) (e : TypeId) (sz : Nat) : shr w e sz (.slice none 0 0) 0 [] := ⟨by simp, Or.inl ⟨rfl, rfl⟩⟩
theorem shr.kept {w w' : World} {e : TypeId} {sz n : Nat} {v : Value} {xs : List Value} {S : Nat → Prop} (h : shr w e sz v n xs) (hc : Chg S w w') (hn : ∀ g, v.ownBlock = some g → ¬ S g) : shr w' e sz v n xs := by
  refine ⟨h.1, ?_⟩
  rcases h.2 with h | ⟨g, off, cap, cur, rfl, hg, r⟩
  · exact Or.inl h
  · exact Or.inr ⟨g, off, cap, cur, rfl, hc.at_ hg (hn g rfl), r⟩
theorem shr.kd {w : World} {e : TypeId} {sz n : Nat} {v : Value} {xs : List Value} (h : shr w e sz v n xs) : ∀ g, v.ownBlock = some g → kd w g = e + 2 ∧ g < w.heap.size := by
  intro g hg
  rcases h.2 with ⟨rfl, _⟩ | ⟨g', off, cap, cur, rfl, hb, _⟩
  · simp [Value.ownBlock] at hg
  · simp [Value.ownBlock] at hg; subst hg; exact ⟨kd_cells hb, lt_of_heap hb⟩
theorem shr.form {w : World} {e : TypeId} {sz n : Nat} {v : Value} {xs : List Value} (h : shr w e sz v n xs) : ∃ p c, v = .slice p n c ∧ n ≤ c ∧ c ≤ maxLen ∧ (p = none → n = 0 ∧ c = 0) ∧ v.oneCell' = true := by
  rcases h.2 with ⟨rfl, rfl⟩ | ⟨g, off, cap, cur, rfl, _, h1, h2, _⟩
  · exact ⟨none, 0, rfl, Nat.le_refl _, by unfold maxLen; omega, fun _ => ⟨rfl, rfl⟩, rfl⟩
  · exact ⟨_, _, rfl, h1, h2, (fun e => by cases e), rfl⟩
theorem shr.cell {w : World} {e : TypeId} {sz n cap : Nat} {a : Addr} {xs : List Value} (h : shr w e sz (.slice (some a) n cap) n xs) : ∃ g off, a = ⟨g, off, none⟩ ∧ ∀ j u, xs[j]? = some u → w.cell? ⟨g, off + j, none⟩ = some u := by
  rcases h.2 with ⟨h, _⟩ | ⟨g, off, cap', cur, h, hb, _, _, _, hc⟩
  · cases h
  · cases h
    exact ⟨g, off, rfl, fun j u hj => (cell_of_block hb (off + j)).trans (hc j u hj)⟩
theorem add_plain (g o j : Nat) : (⟨g, o, none⟩ : Addr).add j = ⟨g, o + j, none⟩ := by unfold Addr.add; split <;> simp_all
theorem setCells_get (b : Nat) : ∀ (vs : List Value) (o : Nat) (w : World) (cs : Array Value) (e : TypeId) (z : Nat × Nat), w.heap[b]? = some (.cells cs e z) → ∃ cs', (w.setCells b o vs).heap[b]? = some (.cells cs' e z) ∧ cs'.size = cs.size ∧ (∀ k, k < o ∨ o + vs.length ≤ k → cs'[k]? = cs[k]?) ∧ (∀ j u, vs[j]? = some u → o + j < cs.size → cs'[o + j]? = some u)
  | [], o, w, cs, e, z, h => ⟨cs, h, rfl, fun _ _ => rfl, fun j u hj => by simp at hj⟩
  | v :: r, o, w, cs, e, z, h => by
    have h1 : (w.setCell ⟨b, o, none⟩ v).heap[b]? = some (.cells (cs.setIfInBounds o v) e z) := block_setCell h v
    obtain ⟨cs', h2, h3, h4, h5⟩ := setCells_get b r (o + 1) _ _ e z h1
    refine ⟨cs', h2, by rw [h3]; simp, fun k hk => ?_, fun j u hj hl => ?_⟩
    · rw [h4 k (by simp at hk; omega)]
      rw [Array.getElem?_setIfInBounds]
      rw [if_neg (by simp at hk; omega)]
    · rcases j with _ | j
      · simp at hj
        subst hj
        rw [Nat.add_zero, h4 o (by omega), Array.getElem?_setIfInBounds]
        simp at hl
        simp [hl]
      · simp at hj
        have := h5 j u hj (by simp; omega)
        rw [show o + (j + 1) = o + 1 + j by omega]; exact this
theorem setCells_grown (b : Nat) : ∀ (vs : List Value) (o : Nat) (w : World), w.grownBy (w.setCells b o vs) (some b)
  | [], o, w => ⟨rfl, rfl, rfl, Nat.le_refl _, fun _ _ _ => rfl⟩
  | v :: r, o, w => by
    have h1 := grown_setCell w ⟨b, o, none⟩ v
    have h2 := setCells_grown b r (o + 1) (w.setCell ⟨b, o, none⟩ v)
    exact ⟨h2.os.trans h1.os, h2.tape.trans h1.tape, h2.output.trans h1.output, Nat.le_trans h1.size h2.size, fun k hk hn => (h2.block k (Nat.lt_of_lt_of_le hk h1.size) hn).trans (h1.block k hk hn)⟩
theorem shr_of_own {w : World} {base e sz n : Nat} {v : Value} {xs : List Value} (h : w.ownsRow base e sz v n xs) : shr w e sz v n xs := by
  refine ⟨h.1, ?_⟩
  rcases h.2 with ⟨e1, e2⟩ | ⟨g, cap, cur, rfl, _, hc, hn, hm, hsz, ht⟩
  · exact Or.inl ⟨e1, e2⟩
  · refine Or.inr ⟨g, 0, cap, cur, rfl, hc, hn, hm, Or.inr (by omega), fun j u hj => ?_⟩
    rw [← ht, List.getElem?_take] at hj
    split at hj
    · rw [Nat.zero_add]; simpa using hj
    · cases hj
theorem info_parts {t : TypeId} {z : Value} {s b : Nat} (h : (Tryd.prog.info? t).map (fun i => (i.zero, i.size, i.bytes)) = some (some z, s, b)) : ∃ i, Tryd.prog.info? t = some i ∧ i.zero = some z ∧ i.size = s ∧ i.bytes = b := by
  cases hi : Tryd.prog.info? t with
  | none => rw [hi] at h; simp at h
  | some i => rw [hi] at h; simp at h; exact ⟨i, rfl, h.1, h.2.1, h.2.2⟩
/-- what a row of a type is: its slice type, its element type, an element's zero value, cells and bytes -/
structure Rz (t e : TypeId) (z : Value) (sz by' : Nat) : Prop where
  sl : Tryd.prog.underlying t = some (.slice e)
  inf : (Tryd.prog.info? e).map (fun i => (i.zero, i.size, i.bytes)) = some (some z, sz, by')
  zs : z.cells.size = sz
  pos : 0 < sz
  sm : by' ≤ 64
/-- elements at a row's end -/
theorem Rz.app {t e : TypeId} {z : Value} {sz by' : Nat} (R : Rz t e z sz by') {w : World} {v : Value} {n m c : Nat} {xs news : List Value} {ad : Addr} (h : shr w e sz v n xs)
    (hm : news.length = m * sz) (hnews : ∀ j u, news[j]? = some u → w.cell? (ad.add j) = some u) (h1 : ∀ u ∈ news, u.oneCell' = true) (hl : n + m ≤ 1000000000) (h0 : 0 < m) :
    ∃ v' w', (∀ ty, (Builtin.append_ #[t, t] ty #[v, .slice (some ad) m c]).run Tryd.prog w = .ok v' w') ∧ shr w' e sz v' (n + m) (xs ++ news) ∧ w.grownBy w' v.ownBlock ∧ (v'.ownBlock = v.ownBlock ∨ ∃ g, v'.ownBlock = some g ∧ w.heap.size ≤ g ∧ g < w'.heap.size) := by
  obtain ⟨i, hi, hz, hs, hb⟩ := info_parts R.inf
  have hsl := R.sl; have hzs := R.zs; have hpos := R.pos; have hsm := R.sm
  clear R
  subst hs hb
  have hby : (n + m) * i.bytes ≤ 140737488355328 := by
    have : (n + m) * i.bytes ≤ 1000000000 * 64 := Nat.mul_le_mul hl hsm
    omega
  have h63 : n + m ≤ maxLen := by unfold maxLen; omega
  have hlen : (xs ++ news).length = (n + m) * i.size := by rw [List.length_append, h.1, hm, Nat.add_mul]
  rcases h.2 with ⟨rfl, rfl⟩ | ⟨g, off, cap, cur, rfl, hg, hnc, hcm, hsz, hcs⟩
  · obtain rfl : xs = [] := List.eq_nil_of_length_eq_zero (by simpa using h.1)
    rw [Nat.zero_add] at hby h63 hl
    have hr := fun ty => run_append_nil (P := Tryd.prog) w t ty e i z hsl hi hz ad m c news hm hnews h0 (by omega) (by omega)
    have hge := grownCap_ge w m 0 e
    have hcm := grownCap_le_maxLen w m 0 e h63
    refine ⟨_, _, hr, ⟨by simpa using hm, Or.inr ⟨w.heap.size, 0, grownCap w m 0 e, _, by rw [Nat.zero_add], heap_alloc_new _ _, by omega, hcm, Or.inr ?_, fun j u hj => ?_⟩⟩, ⟨rfl, rfl, rfl, by simp, fun k hk _ => heap_alloc_old _ _ (by simpa using hk)⟩, Or.inr ⟨_, rfl, Nat.le_refl _, by simp⟩⟩
    · rw [Array.size_append, size_zeroCells, hzs, List.size_toArray, hm, ← Nat.add_mul, Nat.zero_add]
      exact congrArg (· * i.size) (by omega)
    · rw [Nat.zero_add, Array.getElem?_append_left (by simpa using (List.getElem?_eq_some_iff.1 hj).1)]
      simpa using hj
  · by_cases hroom : n + m ≤ cap
    · have hcap : 0 < cap := by omega
      have hcur : cur.size = off + cap * i.size := by rcases hsz with h | h; omega; exact h
      have hfit : off + n * i.size + m * i.size ≤ cur.size := by
        have : (n + m) * i.size ≤ cap * i.size := Nat.mul_le_mul_right _ hroom
        rw [Nat.add_mul] at this; omega
      have hr := fun ty => run_append_room_cells (P := Tryd.prog) w t ty e i hsl hi g off n cap ad m c news hm hnews h1 hroom (fun j hj => by
        rw [cell_of_block hg]
        show (cur[off + n * i.size + j]?).isSome = true
        rw [Array.getElem?_eq_getElem (show off + n * i.size + j < cur.size by omega)]; rfl) (fun j _ => unfrozen_of_block hg _)
      obtain ⟨cs', k1, k2, k3, k4⟩ := setCells_get g news (off + n * i.size) w cur e (0, 0) hg
      refine ⟨_, _, hr, ⟨hlen, Or.inr ⟨g, off, cap, cs', rfl, k1, hroom, hcm, Or.inr (by rw [k2]; exact hcur), fun j u hj => ?_⟩⟩, setCells_grown _ _ _ _, Or.inl rfl⟩
      have hxl := h.1
      rcases Nat.lt_or_ge j xs.length with hlt | hge
      · rw [List.getElem?_append_left hlt] at hj
        rw [k3 _ (Or.inl (by omega))]; exact hcs j u hj
      · rw [List.getElem?_append_right hge] at hj
        have hjl := (List.getElem?_eq_some_iff.1 hj).1
        have := k4 _ u hj (by omega)
        rw [show off + j = off + n * i.size + (j - xs.length) by omega]; exact this
    · have hr := fun ty => run_append_grow (P := Tryd.prog) w t ty e i z hsl hi hz ⟨g, off, none⟩ n cap xs h.1 (fun j u hj => by rw [add_plain]; exact (cell_of_block hg _).trans (hcs j u hj)) ad m c news hm hnews (by omega) (by omega) (growslice_fits (by omega) hby)
      have hge := grownCap_ge w (n + m) cap e
      have hcm := grownCap_le_maxLen w (n + m) cap e h63
      refine ⟨_, _, hr, ⟨hlen, Or.inr ⟨w.heap.size, 0, grownCap w (n + m) cap e, _, rfl, heap_alloc_new _ _, hge, hcm, Or.inr ?_, fun j u hj => ?_⟩⟩, ⟨rfl, rfl, rfl, by simp, fun k hk _ => heap_alloc_old _ _ (by simpa using hk)⟩, Or.inr ⟨_, rfl, Nat.le_refl _, by simp⟩⟩
      · rw [Array.size_append, Array.size_append, size_zeroCells, hzs, List.size_toArray, List.size_toArray, h.1, hm, ← Nat.add_mul, ← Nat.add_mul, Nat.zero_add]
        exact congrArg (· * i.size) (by omega)
      · have hjl := (List.getElem?_eq_some_iff.1 hj).1
        rw [Nat.zero_add, Array.getElem?_append_left (by simpa using hjl), List.append_toArray]
        simpa using hj
def fl {α : Type} (enc : α → List Value) (l : List α) : List Value := l.flatMap enc
theorem fl_cons {α : Type} (enc : α → List Value) (x : α) (l : List α) : fl enc (x :: l) = enc x ++ fl enc l := rfl
theorem fl_app {α : Type} (enc : α → List Value) (a b : List α) : fl enc (a ++ b) = fl enc a ++ fl enc b := by simp [fl]
theorem fl_len {α : Type} {enc : α → List Value} {s : Nat} (hs : ∀ x, (enc x).length = s) : ∀ l : List α, (fl enc l).length = l.length * s
  | [] => by simp [fl]
  | v :: l => by rw [fl_cons, List.length_append, fl_len hs l, hs, List.length_cons, Nat.add_mul, Nat.one_mul, Nat.add_comm]
theorem fl_get {α : Type} {enc : α → List Value} {s : Nat} (hs : ∀ x, (enc x).length = s) : ∀ (l : List α) (i : Nat) (v : α) (r : Nat), l[i]? = some v → r < s → (fl enc l)[i * s + r]? = (enc v)[r]?
  | [], i, v, r, h, _ => by simp at h
  | x :: l, 0, v, r, h, hr => by
    simp at h; subst h
    rw [fl_cons, Nat.zero_mul, Nat.zero_add, List.getElem?_append_left (by rw [hs]; exact hr)]
  | x :: l, i + 1, v, r, h, hr => by
    simp at h
    have e : (i + 1) * s + r = s + (i * s + r) := by rw [Nat.add_mul, Nat.one_mul]; omega
    rw [fl_cons, List.getElem?_append_right (by rw [hs, e]; omega), ← fl_get hs l i v r h hr, hs, e, Nat.add_sub_cancel_left]
theorem fl_at {α : Type} {enc : α → List Value} {s : Nat} (hs : ∀ x, (enc x).length = s) (h0 : 0 < s) {l : List α} {j : Nat} {u : Value} (h : (fl enc l)[j]? = some u) : ∃ v, l[j / s]? = some v ∧ (enc v)[j % s]? = some u := by
  have hl := (List.getElem?_eq_some_iff.1 h).1
  rw [fl_len hs] at hl
  have hi : j / s < l.length := Nat.div_lt_of_lt_mul (by rw [Nat.mul_comm]; exact hl)
  have hv : l[j / s]? = some l[j / s] := List.getElem?_eq_getElem hi
  refine ⟨_, hv, ?_⟩
  have := fl_get hs l (j / s) _ (j % s) hv (Nat.mod_lt _ h0)
  rw [Nat.mul_comm, Nat.div_add_mod, h] at this
  exact this.symm
theorem fl_one {α : Type} {enc : α → List Value} (h : ∀ x, ∀ u ∈ enc x, u.oneCell' = true) (l : List α) : ∀ u ∈ fl enc l, u.oneCell' = true := by
  intro u hu
  obtain ⟨x, _, hx⟩ := List.mem_flatMap.1 hu
  exact h x u hx
/-- an empty row with room -/
theorem Rz.make0 {t e : TypeId} {z : Value} {sz by' : Nat} (R : Rz t e z sz by') (w : World) (k : Nat) (hk : k ≤ 1000000000) : ∃ w', (Instr.makeSlice t (.int .i64 0) (.int .i64 (k : Int))).run Tryd.prog w = .ok (.slice (some ⟨w.heap.size, 0, none⟩) 0 k) w' ∧ shr w' e sz (.slice (some ⟨w.heap.size, 0, none⟩) 0 k) 0 [] ∧ w.grownBy w' none ∧ w'.heap.size = w.heap.size + 1 := by
  obtain ⟨i, hi, hz, hs, hb⟩ := info_parts R.inf
  have hsm := R.sm
  have hbb : (i.bytes : Int) * (k : Int) ≤ 281474976710656 := by
    have : i.bytes * k ≤ 64 * 1000000000 := Nat.mul_le_mul (by omega) hk
    have : ((i.bytes * k : Nat) : Int) ≤ 281474976710656 := by omega
    rwa [Int.natCast_mul] at this
  have hr := run_make (P := Tryd.prog) w t e i z R.sl hi hz .i64 .i64 0 (k : Int) (Int.le_refl _) (by omega) hbb (by omega)
  simp only [Int.toNat_zero, Int.toNat_natCast] at hr
  refine ⟨_, hr, ⟨by simp, Or.inr ⟨w.heap.size, 0, k, _, rfl, heap_alloc_new _ _, Nat.zero_le _, by unfold maxLen; omega, Or.inr ?_, fun j u hj => by simp at hj⟩⟩, World.grownBy_alloc w _ none, by simp⟩
  rw [Nat.zero_add, size_madeCells, hs]
/-- elements put into the room of a row, none too -/
theorem Rz.fits {t e : TypeId} {z : Value} {sz by' : Nat} (R : Rz t e z sz by') {w : World} {g cap n m c : Nat} {xs news : List Value} {P : Option Addr} (h : shr w e sz (.slice (some ⟨g, 0, none⟩) n cap) n xs)
    (hm : news.length = m * sz) (hP : P = none → m = 0 ∧ c = 0) (hnews : ∀ ad, P = some ad → ∀ j u, news[j]? = some u → w.cell? (ad.add j) = some u) (h1 : ∀ u ∈ news, u.oneCell' = true) (hroom : n + m ≤ cap) :
    ∃ w', (∀ ty, (Builtin.append_ #[t, t] ty #[.slice (some ⟨g, 0, none⟩) n cap, .slice P m c]).run Tryd.prog w = .ok (.slice (some ⟨g, 0, none⟩) (n + m) cap) w') ∧ shr w' e sz (.slice (some ⟨g, 0, none⟩) (n + m) cap) (n + m) (xs ++ news) ∧ w.grownBy w' (some g) ∧ w'.heap.size = w.heap.size := by
  obtain ⟨i, hi, hz, hs, hb⟩ := info_parts R.inf
  have hsl := R.sl
  have hlen : (xs ++ news).length = (n + m) * sz := by rw [List.length_append, h.1, hm, Nat.add_mul]
  rcases h.2 with ⟨e1, _⟩ | ⟨g', off, cap', cur, e1, hg, hnc, hcm, hsz, hcs⟩
  · cases e1
  cases e1
  subst hs
  cases P with
  | none =>
    obtain ⟨rfl, rfl⟩ := hP rfl
    obtain rfl : news = [] := List.eq_nil_of_length_eq_zero (by simpa using hm)
    refine ⟨w, fun ty => ?_, ?_, ⟨rfl, rfl, rfl, Nat.le_refl _, fun _ _ _ => rfl⟩, rfl⟩
    · simp [Builtin.append_, run_underlying hsl, sizeOf, typeInfo, hi, Builtin.lenOf, Builtin.firstCells, hnc, storeCells]
    · rw [List.append_nil]; exact h
  | some ad =>
    by_cases hm0 : m = 0
    · subst hm0
      obtain rfl : news = [] := List.eq_nil_of_length_eq_zero (by simpa using hm)
      have hr := fun ty => run_append_room_cells (P := Tryd.prog) w t ty e i hsl hi g 0 n cap ad 0 c [] (by simp) (fun j u hj => by simp at hj) (fun u hu => by simp at hu) hroom (fun j hj => by simp at hj) (fun j hj => by simp at hj)
      refine ⟨w, hr, ?_, ⟨rfl, rfl, rfl, Nat.le_refl _, fun _ _ _ => rfl⟩, rfl⟩
      rw [List.append_nil]; exact h
    · have hcur : cur.size = 0 + cap * i.size := by rcases hsz with h | h; omega; exact h
      have hfit : 0 + n * i.size + m * i.size ≤ cur.size := by
        have : (n + m) * i.size ≤ cap * i.size := Nat.mul_le_mul_right _ hroom
        rw [Nat.add_mul] at this; omega
      have hr := fun ty => run_append_room_cells (P := Tryd.prog) w t ty e i hsl hi g 0 n cap ad m c news hm (hnews ad rfl) h1 hroom (fun j hj => by
        rw [cell_of_block hg]
        show (cur[0 + n * i.size + j]?).isSome = true
        rw [Array.getElem?_eq_getElem (show 0 + n * i.size + j < cur.size by omega)]; rfl) (fun j _ => unfrozen_of_block hg _)
      obtain ⟨cs', k1, k2, k3, k4⟩ := setCells_get g news (0 + n * i.size) w cur e (0, 0) hg
      refine ⟨_, hr, ⟨hlen, Or.inr ⟨g, 0, cap, cs', rfl, k1, hroom, hcm, Or.inr (by rw [k2]; exact hcur), fun j u hj => ?_⟩⟩, setCells_grown _ _ _ _, ?_⟩
      · have hxl := h.1
        rcases Nat.lt_or_ge j xs.length with hlt | hge
        · rw [List.getElem?_append_left hlt] at hj
          rw [k3 _ (Or.inl (by omega))]; exact hcs j u hj
        · rw [List.getElem?_append_right hge] at hj
          have hjl := (List.getElem?_eq_some_iff.1 hj).1
          have := k4 _ u hj (by omega)
          rw [show 0 + j = 0 + n * i.size + (j - xs.length) by omega]; exact this
      · have : ∀ (vs : List Value) (o : Nat) (w : World), (w.setCells g o vs).heap.size = w.heap.size := by
          intro vs
          induction vs with
          | nil => intro o w; rfl
          | cons v r ih => intro o w; show ((w.setCell ⟨g, o, none⟩ v).setCells g (o + 1) r).heap.size = _; rw [ih]; simp
        exact this _ _ _
theorem shr_lt {w : World} {e : TypeId} {sz n cap g : Nat} {xs : List Value} (h : shr w e sz (.slice (some ⟨g, 0, none⟩) n cap) n xs) : g < w.heap.size := (h.kd g rfl).2
theorem shr_cap {w : World} {e : TypeId} {sz n cap g : Nat} {xs : List Value} (h : shr w e sz (.slice (some ⟨g, 0, none⟩) n cap) n xs) : n ≤ cap ∧ cap ≤ maxLen := by
  rcases h.2 with ⟨e1, _⟩ | ⟨g', off, cap', cur, e1, hg, hnc, hcm, _⟩
  · cases e1
  · cases e1; exact ⟨hnc, hcm⟩
theorem shr_cells {w : World} {e : TypeId} {sz n cap g : Nat} {xs : List Value} (h : shr w e sz (.slice (some ⟨g, 0, none⟩) n cap) n xs) : ∀ j u, xs[j]? = some u → w.cell? ⟨g, j, none⟩ = some u := by
  obtain ⟨g', off, e1, hc⟩ := h.cell
  cases e1
  intro j u hj
  have := hc j u hj
  rw [Nat.zero_add] at this
  exact this
theorem step_make (t : TypeId) {ops : Array Oper} {o : Oper} {a : Act} {w : World} {K : Act → World → Prop} {Q : Exit → Act → World → Prop} {E : Prop} (hgd : o.guard = none) (l c : Operand) (ho : o.op = .makeSlice t l c)
    {v y v' : Value} {w' : World} (hs : a.eval l = v) (hx : a.eval c = y) (hr : (Instr.makeSlice t v y).run Tryd.prog w = .ok v' w') (h : K (a.put o.dst v') w') : if Region.wanted o (yielded ops a.tmps) = true then Oper.wp Tryd.prog o a w K Q else E := by
  have hwd : Region.wanted o (yielded ops a.tmps) = true := by simp [Region.wanted, hgd]
  rw [if_pos hwd]
  unfold Oper.wp
  simp [execOp, ho, hs, hx, hr, Result.andThen]
  exact h
theorem wp_make (t : TypeId) {ops : Array Oper} {rest : List Oper} {o : Oper} {a : Act} {w : World} {Q : Exit → Act → World → Prop} (hgd : o.guard = none) (l c : Operand) (ho : o.op = .makeSlice t l c)
    {v y v' : Value} {w' : World} (hs : a.eval l = v) (hx : a.eval c = y) (hr : (Instr.makeSlice t v y).run Tryd.prog w = .ok v' w') (h : wpList Tryd.prog ops Q rest (a.put o.dst v') w') : wpList Tryd.prog ops Q (o :: rest) a w := by
  refine wpList_plain hgd fun K hK => ?_
  unfold Oper.wp
  simp [execOp, ho, hs, hx, hr, Result.andThen]
  exact hK _ _ h
theorem step_app (t : TypeId) {ops : Array Oper} {o : Oper} {a : Act} {w : World} {K : Act → World → Prop} {Q : Exit → Act → World → Prop} {E : Prop} (hgd : o.guard = none) (s x : Operand) (ho : o.op = .call { callee := .builtin .append, args := #[s, x], argTypes := #[t, t] })
    {v y v' : Value} {w' : World} (hs : a.eval s = v) (hx : a.eval x = y) (hr : ∀ ty, (Builtin.append_ #[t, t] ty #[v, y]).run Tryd.prog w = .ok v' w') (h : K (a.put o.dst v') w') : if Region.wanted o (yielded ops a.tmps) = true then Oper.wp Tryd.prog o a w K Q else E := by
  have hwd : Region.wanted o (yielded ops a.tmps) = true := by simp [Region.wanted, hgd]
  rw [if_pos hwd]
  unfold Oper.wp execOp
  simp only [ho, resolve, invoke, builtin, Sem.run_bind, Sem.run_pure, Result.andThen_ok, List.map_toArray, List.map_cons, List.map_nil, hs, hx, hr]
  exact h
theorem wp_app (t : TypeId) {ops : Array Oper} {rest : List Oper} {o : Oper} {a : Act} {w : World} {Q : Exit → Act → World → Prop} (hgd : o.guard = none) (s x : Operand) (ho : o.op = .call { callee := .builtin .append, args := #[s, x], argTypes := #[t, t] })
    {v y v' : Value} {w' : World} (hs : a.eval s = v) (hx : a.eval x = y) (hr : ∀ ty, (Builtin.append_ #[t, t] ty #[v, y]).run Tryd.prog w = .ok v' w') (h : wpList Tryd.prog ops Q rest (a.put o.dst v') w') : wpList Tryd.prog ops Q (o :: rest) a w := by
  refine wpList_plain hgd fun K hK => ?_
  unfold Oper.wp execOp
  simp only [ho, resolve, invoke, builtin, Sem.run_bind, Sem.run_pure, Result.andThen_ok, List.map_toArray, List.map_cons, List.map_nil, hs, hx, hr]
  exact hK _ _ h
/-- a copy with room for one more -/
theorem Rz.copy {t e : TypeId} {z : Value} {sz by' : Nat} (R : Rz t e z sz by') (w : World) (P : Option Addr) (m c : Nat) (news : List Value) (hm : news.length = m * sz) (hP : P = none → m = 0 ∧ c = 0)
    (hnews : ∀ ad, P = some ad → ∀ j u, news[j]? = some u → w.cell? (ad.add j) = some u) (h1 : ∀ u ∈ news, u.oneCell' = true) (hl : m + 1 ≤ 1000000000) :
    ∃ w1 w2, (Instr.makeSlice t (.int .i64 0) (.int .i64 ((m : Int) + 1))).run Tryd.prog w = .ok (.slice (some ⟨w.heap.size, 0, none⟩) 0 (m + 1)) w1 ∧ (∀ ty, (Builtin.append_ #[t, t] ty #[.slice (some ⟨w.heap.size, 0, none⟩) 0 (m + 1), .slice P m c]).run Tryd.prog w1 = .ok (.slice (some ⟨w.heap.size, 0, none⟩) m (m + 1)) w2) ∧
      shr w2 e sz (.slice (some ⟨w.heap.size, 0, none⟩) m (m + 1)) m news ∧ w.grownBy w1 none ∧ w.grownBy w2 none ∧ w1.heap.size = w.heap.size + 1 ∧ w2.heap.size = w.heap.size + 1 := by
  obtain ⟨w1, r1, s1, g1, z1⟩ := R.make0 w (m + 1) hl
  obtain ⟨w2, r2, s2, g2, z2⟩ := R.fits s1 hm hP (fun ad had j u hj => by
    have := hnews ad had j u hj
    exact g1.cell this (by simp)) h1 (by omega)
  rw [Nat.zero_add] at r2 s2
  rw [List.nil_append] at s2
  refine ⟨w1, w2, by simpa using r1, r2, s2, g1, ⟨g2.os.trans g1.os, g2.tape.trans g1.tape, g2.output.trans g1.output, by omega, fun k hk hn => (g2.block k (by omega) (fun e => by cases e; omega)).trans (g1.block k hk hn)⟩, z1, by omega⟩
/-- a copy of a list that is not empty -/
theorem Rz.clone {t e : TypeId} {z : Value} {sz by' : Nat} (R : Rz t e z sz by') (w : World) (ad : Addr) (n c : Nat) (xs : List Value) (hx : xs.length = n * sz) (hc : ∀ j u, xs[j]? = some u → w.cell? (ad.add j) = some u) (h0 : 0 < n) (hl : n ≤ 1000000000) :
    ∃ cap w', (∀ ty, (Builtin.append_ #[t, t] ty #[.slice (some ⟨w.heap.size, 0, none⟩) 0 0, .slice (some ad) n c]).run Tryd.prog (w.alloc (.cells #[] e)) = .ok (.slice (some ⟨w.heap.size + 1, 0, none⟩) n cap) w') ∧ shr w' e sz (.slice (some ⟨w.heap.size + 1, 0, none⟩) n cap) n xs ∧ w.grownBy w' none ∧ w'.heap.size = w.heap.size + 1 + 1 := by
  obtain ⟨i, hi, hz, hs, hb⟩ := info_parts R.inf
  have hsm := R.sm
  have hby : n * i.bytes ≤ 140737488355328 := by
    have : n * i.bytes ≤ 1000000000 * 64 := Nat.mul_le_mul hl (by omega)
    omega
  have ga := World.grownBy_alloc w (.cells #[] e) none
  subst hs
  have hr := fun ty => run_append_grow (P := Tryd.prog) (w.alloc (.cells #[] e)) t ty e i z R.sl hi hz ⟨w.heap.size, 0, none⟩ 0 0 [] (by simp) (fun j u hj => by simp at hj) ad n c xs hx (fun j u hj => ga.cell (hc j u hj) (by simp)) (by omega) (by omega) (growslice_fits (by omega) (by rw [Nat.zero_add]; exact hby))
  have hsz : (w.alloc (.cells #[] e)).heap.size = w.heap.size + 1 := by simp
  have hge := grownCap_ge (w.alloc (.cells #[] e)) (0 + n) 0 e
  have hcm := grownCap_le_maxLen (w.alloc (.cells #[] e)) (0 + n) 0 e (by unfold maxLen; omega)
  rw [hsz] at hr
  rw [Nat.zero_add] at hr hge hcm
  have hg2 : w.grownBy ((w.alloc (.cells #[] e)).drew.alloc (.cells (([] : List Value).toArray ++ xs.toArray ++ Builtin.zeroCells z.cells (grownCap (w.alloc (.cells #[] e)) n 0 e - n)) e)) none := grown_al (grown_drew ga) _
  have hat : ((w.alloc (.cells #[] e)).drew.alloc (.cells (([] : List Value).toArray ++ xs.toArray ++ Builtin.zeroCells z.cells (grownCap (w.alloc (.cells #[] e)) n 0 e - n)) e)).heap[w.heap.size + 1]? = some (.cells (([] : List Value).toArray ++ xs.toArray ++ Builtin.zeroCells z.cells (grownCap (w.alloc (.cells #[] e)) n 0 e - n)) e (0, 0)) := by
    have := heap_alloc_new (w.alloc (.cells #[] e)).drew (.cells (([] : List Value).toArray ++ xs.toArray ++ Builtin.zeroCells z.cells (grownCap (w.alloc (.cells #[] e)) n 0 e - n)) e)
    rw [show (w.alloc (.cells #[] e)).drew.heap.size = w.heap.size + 1 from hsz] at this
    exact this
  refine ⟨_, _, hr, ⟨hx, Or.inr ⟨w.heap.size + 1, 0, _, _, rfl, hat, hge, hcm, Or.inr ?_, fun j u hj => ?_⟩⟩, hg2, by simp⟩
  · rw [Array.size_append, Array.size_append, size_zeroCells, R.zs, List.size_toArray, List.size_toArray, hx, List.length_nil, Nat.zero_add, ← Nat.add_mul, Nat.zero_add]
    exact congrArg (· * i.size) (by omega)
  · have hjl := (List.getElem?_eq_some_iff.1 hj).1
    rw [Nat.zero_add, Array.getElem?_append_left (by simpa using hjl), List.append_toArray]
    simpa using hj
/-- what comes of it -/
def ClQ (w : World) (e sz n : Nat) (xs : List Value) (en : Ending) (w' : World) : Prop := ∃ cap, en = .returned (.slice (some ⟨w.heap.size + 1, 0, none⟩) n cap) ∧ shr w' e sz (.slice (some ⟨w.heap.size + 1, 0, none⟩) n cap) n xs ∧ w.grownBy w' none ∧ w'.heap.size = w.heap.size + 1 + 1
end Go.Proofs.YtmhmcffejkpmjaaDoor
